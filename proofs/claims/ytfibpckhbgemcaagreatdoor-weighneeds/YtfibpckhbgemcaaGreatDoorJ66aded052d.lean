/-
  Texts of mine, joined: what lies beneath the statement.
-/
import Derived.Test.YtfibpckhbgemcaaGreatDoorJcab07d86eb
import Derived.Test.YtfibpckhbgemcaaGreatDoorJc355bbc7f8
import Derived.Test.YtfibpckhbgemcaaGreatDoorJ473911ccb6
import Derived.Test.YtfibpckhbgemcaaGreatDoorJ89437c283b
import Derived.Test.YtfibpckhbgemcaaGreatDoorJ87c88de587
namespace Go.Proofs.YtfibpckhbgemcaaGreatDoor
open Go.RowKit
set_option linter.unusedVariables false
set_option linter.unusedSimpArgs false

theorem fact_bits : ∀ i : Fin 65, fct i.1 < W32 ^ 10 := by decide +kernel
theorem fact_nl {i : Nat} (hi : i ≤ 64) : nl W32 ((fct i : Nat) : Int).natAbs ≤ 10 := by
  rw [Int.natAbs_natCast]
  exact nl_le W32 _ 10 (by decide) (fact_bits ⟨i, by omega⟩)
theorem limb_u32 (x : Int) : ¬ IsLimb (.int .u32 x) := fun ⟨_, h⟩ => by rcases h with h | h <;> cases h
theorem limb_i32 (x : Int) : ¬ IsLimb (.int .i32 x) := fun ⟨_, h⟩ => by rcases h with h | h <;> cases h
theorem limb_b (x : Bool) : ¬ IsLimb (.bool x) := fun ⟨_, h⟩ => by rcases h with h | h <;> cases h
theorem limb_s (a : Option Addr) (n c : Nat) : ¬ IsLimb (.slice a n c) := fun ⟨_, h⟩ => by rcases h with h | h <;> cases h

theorem KeepQ.refl14 (w : World) : KeepQ IsLimb w w := fun _ _ _ _ h => h
theorem KeepQ.trans14 {w w1 w2 : World} (h : KeepQ IsLimb w w1) (g : KeepQ IsLimb w1 w2) : KeepQ IsLimb w w2 := fun b o v hv hc => g b o v hv (h b o v hv hc)
theorem KeepQ.below14 {w w' : World} (h : Below w.heap.size w w') : KeepQ IsLimb w w' := fun b o v _ hc => (h.cell (World.block_lt_of_cell? w ⟨b, o, none⟩ hc)).trans hc
theorem KeepQ.limb14 {w w' : World} (h : KeepQ IsNum w w') : KeepQ IsLimb w w' := fun b o v hl hv => h b o v (by obtain ⟨x, rfl | rfl⟩ := hl <;> exact ⟨_, _, rfl⟩) hv

/-- The products in a table at block b: the first k are told. -/
def FAt (w : World) (b k : Nat) : Prop := ∀ i, i < 65 → ∃ p a n c, w.cell? ⟨b, 3 + i * 2, none⟩ = some (.bool p) ∧ w.cell? ⟨b, 3 + i * 2 + 1, none⟩ = some (.slice a n c) ∧ w.frozen? ⟨b, 3 + i * 2, none⟩ = false ∧ w.frozen? ⟨b, 3 + i * 2 + 1, none⟩ = false ∧ (i < k → RepI w (.agg #[.bool p, .slice a n c]) ((fct i : Nat) : Int))
theorem FAt.lt {w : World} {b k : Nat} (h : FAt w b k) : b < w.heap.size := by
  obtain ⟨p, a, n, c, h1, _⟩ := h 0 (by omega)
  exact World.block_lt_of_cell? _ _ h1
theorem FAt.below {w w' : World} {b k : Nat} (h : FAt w b k) (hb : Below w.heap.size w w') : FAt w' b k := fun i hi => by
  obtain ⟨p, a, n, c, h1, h2, h3, h4, h5⟩ := h i hi
  exact ⟨p, a, n, c, (hb.cell h.lt).trans h1, (hb.cell h.lt).trans h2, (hb.frozen h.lt).trans h3, (hb.frozen h.lt).trans h4, fun hk => (h5 hk).below hb⟩
/-- What lies elsewhere is set. -/
theorem FAt.set {w : World} {b k : Nat} (h : FAt w b k) (a : Addr) (ha : a.block ≠ b ∨ (a.block = b ∧ a.off < 3)) (v : Value) (hk : KeepQ IsLimb w (w.setCell a v)) : FAt (w.setCell a v) b k := fun i hi => by
  obtain ⟨p, a', n, c, h1, h2, h3, h4, h5⟩ := h i hi
  refine ⟨p, a', n, c, ?_, ?_, by simp [h3], by simp [h4], fun hk' => (h5 hk').keepL hk⟩
  · rw [World.cell?_setCell_other _ _ _ _ (fun e => by rw [e] at ha; simp at ha; omega)]; exact h1
  · rw [World.cell?_setCell_other _ _ _ _ (fun e => by rw [e] at ha; simp at ha; omega)]; exact h2
theorem FAt.drew {w : World} {b k : Nat} (h : FAt w b k) : FAt w.drew b k := h.below (Below.refl _ _).drew
/-- One more is told. -/
theorem FAt.put {w : World} {b k : Nat} (h : FAt w b k) (hk : k < 65) {p : Bool} {a : Option Addr} {n c : Nat} (hr : RepI w (.agg #[.bool p, .slice a n c]) ((fct k : Nat) : Int)) :
    FAt ((w.setCell ⟨b, 3 + k * 2, none⟩ (.bool p)).setCell ⟨b, 3 + k * 2 + 1, none⟩ (.slice a n c)) b (k + 1) ∧ KeepQ IsNum w ((w.setCell ⟨b, 3 + k * 2, none⟩ (.bool p)).setCell ⟨b, 3 + k * 2 + 1, none⟩ (.slice a n c)) := by
  obtain ⟨p0, a0, n0, c0, g1, g2, g3, g4, _⟩ := h k hk
  have K : KeepQ IsNum w ((w.setCell ⟨b, 3 + k * 2, none⟩ (.bool p)).setCell ⟨b, 3 + k * 2 + 1, none⟩ (.slice a n c)) := by
    have g2' : (w.setCell ⟨b, 3 + k * 2, none⟩ (.bool p)).cell? ⟨b, 3 + k * 2 + 1, none⟩ = some (.slice a0 n0 c0) := by
      rw [World.cell?_setCell_other _ _ _ _ (fun e => by injection e; omega)]; exact g2
    exact (keep_set g1 (num_bool _) _).trans (keep_set g2' (num_slice _ _ _) _)
  refine ⟨fun i hi => ?_, K⟩
  obtain ⟨p1, a1, n1, c1, h1, h2, h3, h4, h5⟩ := h i hi
  by_cases e : i = k
  · subst e
    refine ⟨p, a, n, c, ?_, ?_, by simp [h3], by simp [h4], fun _ => hr.keep K⟩
    · rw [World.cell?_setCell_other _ _ _ _ (fun e => by injection e; omega)]; exact World.cell?_setCell_same _ _ _ h1
    · exact World.cell?_setCell_same _ _ _ (show (w.setCell ⟨b, 3 + i * 2, none⟩ (.bool p)).cell? ⟨b, 3 + i * 2 + 1, none⟩ = some (.slice a1 n1 c1) by rw [World.cell?_setCell_other _ _ _ _ (fun e => by injection e; omega)]; exact h2)
  · refine ⟨p1, a1, n1, c1, ?_, ?_, by simp [h3], by simp [h4], fun hk' => (h5 (by omega)).keep K⟩
    · rw [World.cell?_setCell_other _ _ _ _ (fun e' => by injection e'; omega), World.cell?_setCell_other _ _ _ _ (fun e' => by injection e'; omega)]; exact h1
    · rw [World.cell?_setCell_other _ _ _ _ (fun e' => by injection e'; omega), World.cell?_setCell_other _ _ _ _ (fun e' => by injection e'; omega)]; exact h2

/-- A table that has made nothing yet. -/
structure WNew (w : World) (b : Nat) : Prop where
  c0 : w.cell? ⟨b, 0, none⟩ = some (.int .u32 0)
  c1 : w.cell? ⟨b, 1, none⟩ = some (.int .i32 0)
  z0 : w.frozen? ⟨b, 0, none⟩ = false
  z1 : w.frozen? ⟨b, 1, none⟩ = false
  fa : FAt w b 0
/-- A table whose products are made. -/
structure WOld (w : World) (b : Nat) : Prop where
  c0 : w.cell? ⟨b, 0, none⟩ = some (.int .u32 1)
  fa : FAt w b 65
theorem WNew.lt {w : World} {b : Nat} (h : WNew w b) : b < w.heap.size := h.fa.lt
theorem WOld.lt {w : World} {b : Nat} (h : WOld w b) : b < w.heap.size := h.fa.lt
theorem WNew.below {w w' : World} {b : Nat} (h : WNew w b) (hb : Below w.heap.size w w') : WNew w' b := ⟨(hb.cell h.lt).trans h.c0, (hb.cell h.lt).trans h.c1, (hb.frozen h.lt).trans h.z0, (hb.frozen h.lt).trans h.z1, h.fa.below hb⟩
theorem WOld.below {w w' : World} {b : Nat} (h : WOld w b) (hb : Below w.heap.size w w') : WOld w' b := ⟨(hb.cell h.lt).trans h.c0, h.fa.below hb⟩
theorem WOld.set {w : World} {b : Nat} (h : WOld w b) (a : Addr) (ha : a.block ≠ b) (v : Value) (hk : KeepQ IsLimb w (w.setCell a v)) : WOld (w.setCell a v) b :=
  ⟨by rw [World.cell?_setCell_other _ _ _ _ (fun e => by rw [e] at ha; simp at ha)]; exact h.c0, h.fa.set a (.inl ha) v hk⟩
def WT (w : World) (b : Nat) (d : Bool) : Prop := match d with | true => WOld w b | false => WNew w b
theorem WT.lt {w : World} {b : Nat} {d : Bool} (h : WT w b d) : b < w.heap.size := by cases d; exact WNew.lt h; exact WOld.lt h
theorem WT.below {w w' : World} {b : Nat} {d : Bool} (h : WT w b d) (hb : Below w.heap.size w w') : WT w' b d := by cases d; exact WNew.below h hb; exact WOld.below h hb

/-- What a call leaves behind that may make the products of the table at b. -/
structure TOut (b : Nat) (d : Bool) (w w' : World) : Prop where
  tab : WOld w' b
  upd : Upd w w' b 0 133
  keep : KeepQ IsLimb w w'
  low : d = true → Below w.heap.size w w'
theorem TOut.size {b : Nat} {d : Bool} {w w' : World} (h : TOut b d w w') : w.heap.size ≤ w'.heap.size := h.upd.size
theorem TOut.below {b : Nat} {d : Bool} {w w1 w2 : World} (h : TOut b d w w1) (hb : Below w1.heap.size w1 w2) : TOut b d w w2 :=
  ⟨h.tab.below hb, h.upd.trans (Upd.of_below hb h.tab.lt), h.keep.trans14 (KeepQ.below14 hb), fun e => (h.low e).trans (hb.mono h.size)⟩
theorem TOut.of_below {b : Nat} {d : Bool} {w w1 w2 : World} (h : TOut b d w1 w2) (hb : Below w.heap.size w w1) (hlt : b < w.heap.size) : TOut b d w w2 :=
  ⟨h.tab, (Upd.of_below hb hlt).trans h.upd, (KeepQ.below14 hb).trans14 h.keep, fun e => hb.trans ((h.low e).mono hb.size)⟩
theorem TOut.trans {b : Nat} {d d' : Bool} {w w1 w2 : World} (h : TOut b d w w1) (g : TOut b d' w1 w2) (hd : d' = true) : TOut b d w w2 :=
  h.below (g.low hd)
/-- The call's result variable, which lies elsewhere. -/
theorem TOut.set {b : Nat} {d : Bool} {w w' : World} (h : TOut b d w w') {R : Nat} (hR : w.heap.size ≤ R) (hb : b < w.heap.size) (o : Nat) (v : Value) (hk : KeepQ IsLimb w' (w'.setCell ⟨R, o, none⟩ v)) : TOut b d w (w'.setCell ⟨R, o, none⟩ v) :=
  ⟨h.tab.set _ (show R ≠ b by omega) v hk, ⟨h.upd.os, h.upd.tape, h.upd.output, by simp; exact h.upd.size, fun k hk' hne => (Below.heap_setCell w' ⟨R, o, none⟩ v k (show k ≠ R by omega)).trans (h.upd.block k hk' hne),
    fun o' ho => (World.cell?_setCell_other _ _ _ _ (fun e => by injection e; omega)).trans (h.upd.cell o' ho), fun o' => by simp [h.upd.froz o']⟩,
   h.keep.trans14 hk, fun e => (h.low e).setCell hR v⟩
theorem V1.upd {w w' : World} {R b o n : Nat} {x : Value} (h : V1 w R x) (u : Upd w w' b o n) (hne : R ≠ b) : V1 w' R x :=
  ⟨(World.cell?_of_block (w := w) (a := ⟨R, 0, none⟩) (u.block R h.lt hne)).trans h.1, (World.frozen?_of_block (w := w) (a := ⟨R, 0, none⟩) (u.block R h.lt hne)).trans h.2⟩
theorem V2.upd {w w' : World} {R b o n : Nat} {x y : Value} (h : V2 w R x y) (u : Upd w w' b o n) (hne : R ≠ b) : V2 w' R x y :=
  ⟨(World.cell?_of_block (w := w) (a := ⟨R, 0, none⟩) (u.block R h.lt hne)).trans h.1, (World.cell?_of_block (w := w) (a := ⟨R, 1, none⟩) (u.block R h.lt hne)).trans h.2.1, (World.frozen?_of_block (w := w) (a := ⟨R, 0, none⟩) (u.block R h.lt hne)).trans h.2.2.1, (World.frozen?_of_block (w := w) (a := ⟨R, 1, none⟩) (u.block R h.lt hne)).trans h.2.2.2⟩
theorem V3.upd {w w' : World} {R b o n : Nat} {x y z : Value} (h : V3 w R x y z) (u : Upd w w' b o n) (hne : R ≠ b) : V3 w' R x y z :=
  ⟨(World.cell?_of_block (w := w) (a := ⟨R, 0, none⟩) (u.block R h.lt hne)).trans h.1, (World.cell?_of_block (w := w) (a := ⟨R, 1, none⟩) (u.block R h.lt hne)).trans h.2.1, (World.cell?_of_block (w := w) (a := ⟨R, 2, none⟩) (u.block R h.lt hne)).trans h.2.2.1, (World.frozen?_of_block (w := w) (a := ⟨R, 0, none⟩) (u.block R h.lt hne)).trans h.2.2.2.1, (World.frozen?_of_block (w := w) (a := ⟨R, 1, none⟩) (u.block R h.lt hne)).trans h.2.2.2.2.1, (World.frozen?_of_block (w := w) (a := ⟨R, 2, none⟩) (u.block R h.lt hne)).trans h.2.2.2.2.2⟩

/-- Since w0 of what was there only the n cells from o on in block b have turned. -/
structure UT (b o n : Nat) (w0 w : World) : Prop where
  out : Upd w0 w b o n
  lt : b < w0.heap.size
theorem UT.size {b o n : Nat} {w0 w : World} (h : UT b o n w0 w) : w0.heap.size ≤ w.heap.size := h.out.size
theorem UT.refl {b o n : Nat} {w : World} (h : b < w.heap.size) : UT b o n w w := ⟨Upd.refl _ _ _ _, h⟩
theorem UT.below {b o n : Nat} {w0 w w' : World} (h : UT b o n w0 w) (hb : Below w.heap.size w w') : UT b o n w0 w' := ⟨h.out.trans (Upd.of_below hb (Nat.lt_of_lt_of_le h.lt h.out.size)), h.lt⟩
theorem UT.set {b o n : Nat} {w0 w : World} (h : UT b o n w0 w) {R : Nat} (hR : w0.heap.size ≤ R) (j : Nat) (v : Value) : UT b o n w0 (w.setCell ⟨R, j, none⟩ v) :=
  ⟨⟨h.out.os, h.out.tape, h.out.output, by simp; exact h.out.size, fun k hk' hne => (Below.heap_setCell w ⟨R, j, none⟩ v k (show k ≠ R by omega)).trans (h.out.block k hk' hne),
    fun o' ho => (World.cell?_setCell_other _ _ _ _ (fun e => by injection e; have := h.lt; omega)).trans (h.out.cell o' ho), fun o' => by simp [h.out.froz o']⟩, h.lt⟩
theorem UT.put1 {b o n : Nat} {w0 w : World} (h : UT b o n w0 w) {R : Nat} (hR : w0.heap.size ≤ R) (x : Value) : UT b o n w0 (w.setCell ⟨R, 0, none⟩ x) := h.set hR 0 x
theorem UT.put2 {b o n : Nat} {w0 w : World} (h : UT b o n w0 w) {R : Nat} (hR : w0.heap.size ≤ R) (x y : Value) : UT b o n w0 ((w.setCell ⟨R, 0, none⟩ x).setCell ⟨R, 1, none⟩ y) := (h.set hR 0 x).set hR 1 y
theorem UT.put3 {b o n : Nat} {w0 w : World} (h : UT b o n w0 w) {R : Nat} (hR : w0.heap.size ≤ R) (x y z : Value) : UT b o n w0 (((w.setCell ⟨R, 0, none⟩ x).setCell ⟨R, 1, none⟩ y).setCell ⟨R, 2, none⟩ z) := ((h.set hR 0 x).set hR 1 y).set hR 2 z
/-- A cell of the table is set. -/
theorem UT.own {b o n : Nat} {w0 w : World} (h : UT b o n w0 w) {j : Nat} (h1 : o ≤ j) (h2 : j < o + n) (v : Value) : UT b o n w0 (w.setCell ⟨b, j, none⟩ v) := by
  obtain ⟨k, rfl⟩ : ∃ k, j = o + k := ⟨j - o, by omega⟩
  exact ⟨h.out.trans (Upd.set k (by omega) v), h.lt⟩
theorem FAt.put1' {w : World} {b k R : Nat} {x : Value} (h : FAt w b k) (hR : R ≠ b) (hk : KeepQ IsLimb w (w.setCell ⟨R, 0, none⟩ x)) : FAt (w.setCell ⟨R, 0, none⟩ x) b k := h.set _ (.inl hR) x hk
/-- A variable elsewhere that holds a sign and limbs is set. -/
theorem FAt.put2 {w : World} {b k R : Nat} {p : Bool} {a : Option Addr} {n c : Nat} (h : FAt w b k) (hv : V2 w R (.bool p) (.slice a n c)) (hR : R ≠ b) (x y : Value) : FAt ((w.setCell ⟨R, 0, none⟩ x).setCell ⟨R, 1, none⟩ y) b k := by
  have k1 : KeepQ IsLimb w (w.setCell ⟨R, 0, none⟩ x) := keepL_set hv.1 (limb_b _) x
  have k2 : KeepQ IsLimb (w.setCell ⟨R, 0, none⟩ x) ((w.setCell ⟨R, 0, none⟩ x).setCell ⟨R, 1, none⟩ y) := keepL_set (old := .slice a n c) (by rw [World.cell?_setCell_other _ _ _ _ (fun e => by injection e; omega)]; exact hv.2.1) (limb_s _ _ _) y
  exact (h.set _ (.inl hR) x k1).set _ (.inl hR) y k2
/-- A variable that holds a whole number in its form. -/
def SmI (w : World) (R : Nat) (z : Int) : Prop := ∃ p a n c, V2 w R (.bool p) (.slice a n c) ∧ RepI w (.agg #[.bool p, .slice a n c]) z
theorem V1.far2 {w : World} {R g : Nat} {x : Value} (h : V1 w R x) (hne : R ≠ g) (j k : Nat) (u v : Value) : V1 ((w.setCell ⟨g, j, none⟩ u).setCell ⟨g, k, none⟩ v) R x := ⟨set_cell_block (set_cell_block h.1 hne) hne, by simp [h.2]⟩
theorem V2.far2 {w : World} {R g : Nat} {x y : Value} (h : V2 w R x y) (hne : R ≠ g) (j k : Nat) (u v : Value) : V2 ((w.setCell ⟨g, j, none⟩ u).setCell ⟨g, k, none⟩ v) R x y := ⟨set_cell_block (set_cell_block h.1 hne) hne, set_cell_block (set_cell_block h.2.1 hne) hne, by simp [h.2.2.1], by simp [h.2.2.2]⟩

theorem fct_times (i : Nat) : ((fct (i - 1) : Nat) : Int) * ((max i 1 : Nat) : Int) = ((fct i : Nat) : Int) := by
  cases i with
  | zero => rfl
  | succ k =>
    rw [show k + 1 - 1 = k by omega, show max (k + 1) 1 = k + 1 by omega, ← Int.natCast_mul]
    rfl

set_option maxRecDepth 100000 in
set_option maxHeartbeats 2000000 in
theorem make14_at (b R0 : Nat) (w : World) (hne : R0 ≠ b) (hV : V1 w R0 (.pointer (some ⟨b, 0, none⟩))) (hF : FAt w b 0) :
    Calls Tryz.prog 53 #[.pointer (some ⟨R0, 0, none⟩)] w fun e w' => e = .returned (.tuple #[]) ∧ FAt w' b 65 ∧ Upd w w' b 3 130 := by
  have hbw : b < w.heap.size := hF.lt
  have hRw : R0 < w.heap.size := hV.lt
  go_enter Tryz.func53, Tryz.ntmps53
  go_wp2_with fail
  refine (wof_any 1 _ (by omega) (by omega)).mono ?_
  rintro e w1 ⟨r, rfl, hr, b1⟩
  replace hV := hV.below b1
  replace hF := hF.below b1
  have hU : Upd w w1 b 3 130 := Upd.of_below b1 hbw
  clear b1
  obtain ⟨p1, a1, n1, c1, rfl⟩ := hr.open
  obtain ⟨W1, hW1, hS1, hL1, VP⟩ := V2.lay w1 27 (.bool p1) (.slice a1 n1 c1)
  have hRb : w1.heap.size ≠ b := by have := hF.lt; omega
  have hR0 : R0 ≠ w1.heap.size := by have := hV.lt; omega
  have hRP : w.heap.size ≤ w1.heap.size := hU.size
  replace hV := hV.below hL1
  replace hF := hF.below hL1
  replace hr := hr.below hL1
  replace hU := hU.trans (Upd.of_below hL1 (Nat.lt_of_lt_of_le hbw hU.size))
  clear hL1
  go_wp2
  rw [← hW1]
  generalize w1.heap.size = R at *
  clear hW1 hS1
  have SI : SmI W1 R ((fct 0 : Nat) : Int) := ⟨_, _, _, _, VP, hr⟩
  have BB : UT b 3 130 w W1 := ⟨hU, hbw⟩
  clear VP hr hU hRw
  go_loopw [2, 4] (fun _ vi wr => ∃ i : Nat, i ≤ 65 ∧ vi = .int .i64 (i : Int) ∧ SmI wr R ((fct (i - 1) : Nat) : Int) ∧ V1 wr R0 (.pointer (some ⟨b, 0, none⟩)) ∧ FAt wr b i ∧ UT b 3 130 w wr) (fun _ vi _ => 65 - (intOf vi).toNat)
  case atStart => exact ⟨0, by omega, rfl, SI, hV, hF, BB⟩
  case round =>
    clear SI hV hF BB
    obtain ⟨i, hi, rfl, ⟨p2, a2, n2, c2, VP, hr⟩, VA, hF, BB⟩ := hrel
    by_cases hlt : i < 65
    · have c1 : (i : Int) < 65 := by omega
      have c2 : (0 : Int) ≤ (i : Int) := by omega
      have hm : max (i : Int) 1 = ((max i 1 : Nat) : Int) := by omega
      have wi : IntKind.i64.wrap ((i : Int) + 1) = (i : Int) + 1 := by rw [IntKind.wrap_i64]; omega
      have hnl : nl W32 ((fct (i - 1) : Nat) : Int).natAbs ≤ 10 := fact_nl (by omega)
      have hmi : ((max i 1 : Nat) : Int) ≤ 65 := by omega
      have hmz : (0 : Int) ≤ ((max i 1 : Nat) : Int) := by omega
      have HT : Hid (((fct (i - 1) : Nat) : Int) * ((max i 1 : Nat) : Int) = ((fct i : Nat) : Int)) := fct_times i
      generalize (max i 1 : Nat) = m at *
      go_wp2_with fail
      have hDr : Below wr.heap.size wr wr.drew := (Below.refl _ _).drew
      replace hF := hF.below hDr
      replace hr := hr.below hDr
      replace VA := VA.below hDr
      replace VP := VP.below hDr
      replace BB := BB.below hDr
      clear hDr
      refine wp_region_held_drew (S := (fun w' => w'.cell? ⟨R0, 0, none⟩ = some (.pointer (some ⟨b, 0, none⟩)))) (by kernel_rfl) ?_ (fun hHeld => ?_)
      · exact VA.1
      generalize wr.drew = W11 at *
      refine wpAnyH_take (i := 1) (v := ?_) (by simp only [List.getElem?_toArray, List.getElem?_cons_succ, List.getElem?_cons_zero]; rfl) (by kernel_rfl) (by kernel_rfl) (by kernel_rfl) (by exact fun _ _ _ h => h) (Or.inl ⟨by rfl, ?_⟩) (by assumption) ?_
      rotate_left
      · (intro w hSw; (try dsimp only at hSw); go_simp; (try with_reducible rfl))
      (try simp only [Act.put, List.setIfInBounds_toArray, List.set_cons_zero, List.set_cons_succ])
      refine wpAnyH_take (i := 2) (v := ?_) (by simp only [List.getElem?_toArray, List.getElem?_cons_succ, List.getElem?_cons_zero]; rfl) (by kernel_rfl) (by kernel_rfl) (by kernel_rfl) (by exact fun _ _ _ h => h) (Or.inl ⟨by rfl, ?_⟩) (by assumption) ?_
      rotate_left
      · (intro w hSw; (try dsimp only at hSw); go_simp; (try with_reducible rfl))
      (try simp only [Act.put, List.setIfInBounds_toArray, List.set_cons_zero, List.set_cons_succ])
      refine wpAnyH_ready (rs := [0, 3]) (by kernel_rfl) (by simp) ?_
      refine AllReadyH.cons (by simp only [List.getElem?_toArray, List.getElem?_cons_succ, List.getElem?_cons_zero]; rfl) (fun K hK => ?_) ?_
      ·
        obtain ⟨VP_0, VP_1, VP_2, VP_3⟩ := id VP
        go_simp
        clear VP_0 VP_1 VP_2 VP_3
        refine hK.out _ _ ?_ (fun hH1 => ?_)
        · exact VA.1
        clear hK K hHeld
        (try simp only [Act.put, List.setIfInBounds_toArray, List.set_cons_zero, List.set_cons_succ])
        refine wpAnyH_ready (rs := [3]) (by kernel_rfl) (by simp) ?_
        refine AllReadyH.cons (by simp only [List.getElem?_toArray, List.getElem?_cons_succ, List.getElem?_cons_zero]; rfl) (fun K hK => ?_) AllReadyH.nil
        go_simp
        refine (wof_any (m : Int) _ (by omega) (by omega)).mono ?_
        rintro e w5 ⟨r5, rfl, hr5, b5⟩
        go_wp2_with fail
        replace hF := hF.below b5
        replace hr := hr.below b5
        replace VA := VA.below b5
        replace VP := VP.below b5
        replace BB := BB.below b5
        clear b5
        refine hK.out _ _ ?_ (fun hH2 => ?_)
        · exact VA.1
        clear hK K hH1
        (try simp only [Act.put, List.setIfInBounds_toArray, List.set_cons_zero, List.set_cons_succ])
        refine wpAnyH_ready (rs := [4]) (by kernel_rfl) (by simp) ?_
        refine AllReadyH.cons (by simp only [List.getElem?_toArray, List.getElem?_cons_succ, List.getElem?_cons_zero]; rfl) (fun K hK => ?_) AllReadyH.nil
        go_simp
        refine (wmul_any _ _ ((fct (i - 1) : Nat) : Int) (m : Int) 10 2 _ (hr.at 10 hnl) (hr5.at 2 ((nl_two _).2 (by omega))) (by omega)).mono ?_
        rintro e w6 ⟨r6, rfl, hr6, b6⟩
        rw [HT.out] at hr6
        obtain ⟨p6, a6, n6, c6, rfl⟩ := hr6.open
        go_wp2_with fail
        replace hF := hF.below b6
        replace hr := hr.below b6
        replace hr5 := hr5.below b6
        replace VA := VA.below b6
        replace VP := VP.below b6
        replace BB := BB.below b6
        clear b6
        refine hK.out _ _ ?_ (fun hH3 => ?_)
        · exact VA.1
        clear hK K hH2
        (try simp only [Act.put, List.setIfInBounds_toArray, List.set_cons_zero, List.set_cons_succ])
        refine wpAnyH_ready (rs := [5]) (by kernel_rfl) (by simp) ?_
        refine AllReadyH.cons (by simp only [List.getElem?_toArray, List.getElem?_cons_succ, List.getElem?_cons_zero]; rfl) (fun K hK => ?_) AllReadyH.nil
        have hKp := VP.keepJ (.bool p6) (.slice a6 n6 c6)
        have hF_n := hF.put2 VP hRb (.bool p6) (.slice a6 n6 c6)
        have VA_n := VA.other2 hR0 (.bool p6) (.slice a6 n6 c6)
        have VP_n := VP.same (.bool p6) (.slice a6 n6 c6)
        have hr6_n := hr6.keep hKp
        have BB_n := BB.put2 (R := R) hRP (.bool p6) (.slice a6 n6 c6)
        obtain ⟨x0, x1, x2, x3⟩ := id VP
        go_simp
        clear x0 x1 x2 x3 hKp hF hr6 VA VP BB hr hr5
        generalize ((w6.setCell ⟨R, 0, none⟩ (.bool p6)).setCell ⟨R, 1, none⟩ (.slice a6 n6 c6)) = W8 at *
        have hF := hF_n
        have hr6 := hr6_n
        have VA := VA_n
        have VP := VP_n
        have BB := BB_n
        clear hF_n hr6_n VA_n VP_n BB_n
        refine hK.out _ _ ?_ (fun hH4 => ?_)
        · exact VA.1
        clear hK K hH3
        (try simp only [Act.put, List.setIfInBounds_toArray, List.set_cons_zero, List.set_cons_succ])
        refine wpAnyH_done (by kernel_rfl) ?_ _
        clear hH4
        go_wp2_with fail
        have hDr : Below W8.heap.size W8 W8.drew := (Below.refl _ _).drew
        replace hF := hF.below hDr
        replace hr6 := hr6.below hDr
        replace VA := VA.below hDr
        replace VP := VP.below hDr
        replace BB := BB.below hDr
        clear hDr
        refine wp_region_held_drew (S := (fun w' => w'.cell? ⟨R0, 0, none⟩ = some (.pointer (some ⟨b, 0, none⟩)) ∧ w'.cell? ⟨R, 0, none⟩ = some (.bool p6) ∧ w'.cell? ⟨R, 1, none⟩ = some (.slice a6 n6 c6))) (by kernel_rfl) ?_ (fun hHeld => ?_)
        · exact ⟨VA.1, VP.1, VP.2.1⟩
        generalize W8.drew = W12 at *
        refine wpAnyH_take (i := 0) (v := ?_) (by simp only [List.getElem?_toArray, List.getElem?_cons_succ, List.getElem?_cons_zero]; rfl) (by kernel_rfl) (by kernel_rfl) (by kernel_rfl) (by exact fun _ _ _ h => h) (Or.inl ⟨by rfl, ?_⟩) (by assumption) ?_
        rotate_left
        · (intro w hSw; (try dsimp only at hSw); go_simp; (try with_reducible rfl))
        (try simp only [Act.put, List.setIfInBounds_toArray, List.set_cons_zero, List.set_cons_succ])
        refine wpAnyH_take (i := 1) (v := ?_) (by simp only [List.getElem?_toArray, List.getElem?_cons_succ, List.getElem?_cons_zero]; rfl) (by kernel_rfl) (by kernel_rfl) (by kernel_rfl) (by exact fun _ _ _ h => h) (Or.inl ⟨by rfl, ?_⟩) (by assumption) ?_
        rotate_left
        · (intro w hSw; (try dsimp only at hSw); go_simp; (try with_reducible rfl))
        (try simp only [Act.put, List.setIfInBounds_toArray, List.set_cons_zero, List.set_cons_succ])
        refine wpAnyH_take (i := 2) (v := ?_) (by simp only [List.getElem?_toArray, List.getElem?_cons_succ, List.getElem?_cons_zero]; rfl) (by kernel_rfl) (by kernel_rfl) (by kernel_rfl) (by exact fun _ _ _ h => h) (Or.inl ⟨by rfl, ?_⟩) (by assumption) ?_
        rotate_left
        · (intro w hSw; (try dsimp only at hSw); go_simp; (try with_reducible rfl))
        (try simp only [Act.put, List.setIfInBounds_toArray, List.set_cons_zero, List.set_cons_succ])
        refine wpAnyH_take (i := 3) (v := ?_) (by simp only [List.getElem?_toArray, List.getElem?_cons_succ, List.getElem?_cons_zero]; rfl) (by kernel_rfl) (by kernel_rfl) (by kernel_rfl) (by exact fun _ _ _ h => h) (Or.inl ⟨by rfl, ?_⟩) (by assumption) ?_
        rotate_left
        · (intro w hSw; (try dsimp only at hSw); go_simp; (try with_reducible rfl))
        (try simp only [Act.put, List.setIfInBounds_toArray, List.set_cons_zero, List.set_cons_succ])
        refine wpAnyH_take (i := 4) (v := ?_) (by simp only [List.getElem?_toArray, List.getElem?_cons_succ, List.getElem?_cons_zero]; rfl) (by kernel_rfl) (by kernel_rfl) (by kernel_rfl) (by exact fun _ _ _ h => h) (Or.inl ⟨by rfl, ?_⟩) (by assumption) ?_
        rotate_left
        · (intro w hSw; (try dsimp only at hSw); go_simp; (try with_reducible rfl))
        (try simp only [Act.put, List.setIfInBounds_toArray, List.set_cons_zero, List.set_cons_succ])
        refine wpAnyH_take (i := 5) (v := ?_) (by simp only [List.getElem?_toArray, List.getElem?_cons_succ, List.getElem?_cons_zero]; rfl) (by kernel_rfl) (by kernel_rfl) (by kernel_rfl) (by exact fun _ _ _ h => h) (Or.inl ⟨by rfl, ?_⟩) (by assumption) ?_
        rotate_left
        · (intro w hSw; (try dsimp only at hSw); go_simp; (try with_reducible rfl))
        (try simp only [Act.put, List.setIfInBounds_toArray, List.set_cons_zero, List.set_cons_succ])
        refine wpAnyH_ready (rs := [6]) (by kernel_rfl) (by simp) ?_
        refine AllReadyH.cons (by simp only [List.getElem?_toArray, List.getElem?_cons_succ, List.getElem?_cons_zero]; rfl) (fun K hK => ?_) AllReadyH.nil
        obtain ⟨p7, a7, n7, c7, y1, y2, y3, y4, _⟩ := hF i hlt
        obtain ⟨hF_n, hKn⟩ := hF.put hlt hr6
        have VA_n := VA.far2 hne (3 + i * 2) (3 + i * 2 + 1) (.bool p6) (.slice a6 n6 c6)
        have VP_n := VP.far2 hRb (3 + i * 2) (3 + i * 2 + 1) (.bool p6) (.slice a6 n6 c6)
        have hr6_n := hr6.keep hKn
        have BB_n := (BB.own (j := 3 + i * 2) (by omega) (by omega) (.bool p6)).own (j := 3 + i * 2 + 1) (by omega) (by omega) (.slice a6 n6 c6)
        go_simp
        clear y1 y2 y3 y4 hKn hF hr6 VA VP BB
        generalize ((W12.setCell ⟨b, 3 + i * 2, none⟩ (.bool p6)).setCell ⟨b, 3 + i * 2 + 1, none⟩ (.slice a6 n6 c6)) = W9 at *
        have hF := hF_n
        have hr6 := hr6_n
        have VA := VA_n
        have VP := VP_n
        have BB := BB_n
        clear hF_n hr6_n VA_n VP_n BB_n
        refine hK.out _ _ ?_ (fun hH1 => ?_)
        · exact ⟨VA.1, VP.1, VP.2.1⟩
        clear hK K hHeld
        (try simp only [Act.put, List.setIfInBounds_toArray, List.set_cons_zero, List.set_cons_succ])
        refine wpAnyH_done (by kernel_rfl) ?_ _
        clear hH1
        go_wp2
        go_roundw
        case rel => exact ⟨i + 1, by omega, by go_num, ⟨_, _, _, _, VP, hr6⟩, VA, hF, BB⟩
        case measure => simp [intOf]; omega
      refine AllReadyH.cons (by simp only [List.getElem?_toArray, List.getElem?_cons_succ, List.getElem?_cons_zero]; rfl) (fun K hK => ?_) ?_
      ·
        go_simp
        refine (wof_any (m : Int) _ (by omega) (by omega)).mono ?_
        rintro e w7 ⟨r5, rfl, hr5, b7⟩
        go_wp2_with fail
        replace hF := hF.below b7
        replace hr := hr.below b7
        replace VA := VA.below b7
        replace VP := VP.below b7
        replace BB := BB.below b7
        clear b7
        refine hK.out _ _ ?_ (fun hH1 => ?_)
        · exact VA.1
        clear hK K hHeld
        (try simp only [Act.put, List.setIfInBounds_toArray, List.set_cons_zero, List.set_cons_succ])
        refine wpAnyH_ready (rs := [0]) (by kernel_rfl) (by simp) ?_
        refine AllReadyH.cons (by simp only [List.getElem?_toArray, List.getElem?_cons_succ, List.getElem?_cons_zero]; rfl) (fun K hK => ?_) AllReadyH.nil
        obtain ⟨VP_0, VP_1, VP_2, VP_3⟩ := id VP
        go_simp
        clear VP_0 VP_1 VP_2 VP_3
        refine hK.out _ _ ?_ (fun hH2 => ?_)
        · exact VA.1
        clear hK K hH1
        (try simp only [Act.put, List.setIfInBounds_toArray, List.set_cons_zero, List.set_cons_succ])
        refine wpAnyH_ready (rs := [4]) (by kernel_rfl) (by simp) ?_
        refine AllReadyH.cons (by simp only [List.getElem?_toArray, List.getElem?_cons_succ, List.getElem?_cons_zero]; rfl) (fun K hK => ?_) AllReadyH.nil
        go_simp
        refine (wmul_any _ _ ((fct (i - 1) : Nat) : Int) (m : Int) 10 2 _ (hr.at 10 hnl) (hr5.at 2 ((nl_two _).2 (by omega))) (by omega)).mono ?_
        rintro e w8 ⟨r6, rfl, hr6, b8⟩
        rw [HT.out] at hr6
        obtain ⟨p6, a6, n6, c6, rfl⟩ := hr6.open
        go_wp2_with fail
        replace hF := hF.below b8
        replace hr := hr.below b8
        replace hr5 := hr5.below b8
        replace VA := VA.below b8
        replace VP := VP.below b8
        replace BB := BB.below b8
        clear b8
        refine hK.out _ _ ?_ (fun hH3 => ?_)
        · exact VA.1
        clear hK K hH2
        (try simp only [Act.put, List.setIfInBounds_toArray, List.set_cons_zero, List.set_cons_succ])
        refine wpAnyH_ready (rs := [5]) (by kernel_rfl) (by simp) ?_
        refine AllReadyH.cons (by simp only [List.getElem?_toArray, List.getElem?_cons_succ, List.getElem?_cons_zero]; rfl) (fun K hK => ?_) AllReadyH.nil
        have hKp := VP.keepJ (.bool p6) (.slice a6 n6 c6)
        have hF_n := hF.put2 VP hRb (.bool p6) (.slice a6 n6 c6)
        have VA_n := VA.other2 hR0 (.bool p6) (.slice a6 n6 c6)
        have VP_n := VP.same (.bool p6) (.slice a6 n6 c6)
        have hr6_n := hr6.keep hKp
        have BB_n := BB.put2 (R := R) hRP (.bool p6) (.slice a6 n6 c6)
        obtain ⟨x0, x1, x2, x3⟩ := id VP
        go_simp
        clear x0 x1 x2 x3 hKp hF hr6 VA VP BB hr hr5
        generalize ((w8.setCell ⟨R, 0, none⟩ (.bool p6)).setCell ⟨R, 1, none⟩ (.slice a6 n6 c6)) = W8 at *
        have hF := hF_n
        have hr6 := hr6_n
        have VA := VA_n
        have VP := VP_n
        have BB := BB_n
        clear hF_n hr6_n VA_n VP_n BB_n
        refine hK.out _ _ ?_ (fun hH4 => ?_)
        · exact VA.1
        clear hK K hH3
        (try simp only [Act.put, List.setIfInBounds_toArray, List.set_cons_zero, List.set_cons_succ])
        refine wpAnyH_done (by kernel_rfl) ?_ _
        clear hH4
        go_wp2_with fail
        have hDr : Below W8.heap.size W8 W8.drew := (Below.refl _ _).drew
        replace hF := hF.below hDr
        replace hr6 := hr6.below hDr
        replace VA := VA.below hDr
        replace VP := VP.below hDr
        replace BB := BB.below hDr
        clear hDr
        refine wp_region_held_drew (S := (fun w' => w'.cell? ⟨R0, 0, none⟩ = some (.pointer (some ⟨b, 0, none⟩)) ∧ w'.cell? ⟨R, 0, none⟩ = some (.bool p6) ∧ w'.cell? ⟨R, 1, none⟩ = some (.slice a6 n6 c6))) (by kernel_rfl) ?_ (fun hHeld => ?_)
        · exact ⟨VA.1, VP.1, VP.2.1⟩
        generalize W8.drew = W13 at *
        refine wpAnyH_take (i := 0) (v := ?_) (by simp only [List.getElem?_toArray, List.getElem?_cons_succ, List.getElem?_cons_zero]; rfl) (by kernel_rfl) (by kernel_rfl) (by kernel_rfl) (by exact fun _ _ _ h => h) (Or.inl ⟨by rfl, ?_⟩) (by assumption) ?_
        rotate_left
        · (intro w hSw; (try dsimp only at hSw); go_simp; (try with_reducible rfl))
        (try simp only [Act.put, List.setIfInBounds_toArray, List.set_cons_zero, List.set_cons_succ])
        refine wpAnyH_take (i := 1) (v := ?_) (by simp only [List.getElem?_toArray, List.getElem?_cons_succ, List.getElem?_cons_zero]; rfl) (by kernel_rfl) (by kernel_rfl) (by kernel_rfl) (by exact fun _ _ _ h => h) (Or.inl ⟨by rfl, ?_⟩) (by assumption) ?_
        rotate_left
        · (intro w hSw; (try dsimp only at hSw); go_simp; (try with_reducible rfl))
        (try simp only [Act.put, List.setIfInBounds_toArray, List.set_cons_zero, List.set_cons_succ])
        refine wpAnyH_take (i := 2) (v := ?_) (by simp only [List.getElem?_toArray, List.getElem?_cons_succ, List.getElem?_cons_zero]; rfl) (by kernel_rfl) (by kernel_rfl) (by kernel_rfl) (by exact fun _ _ _ h => h) (Or.inl ⟨by rfl, ?_⟩) (by assumption) ?_
        rotate_left
        · (intro w hSw; (try dsimp only at hSw); go_simp; (try with_reducible rfl))
        (try simp only [Act.put, List.setIfInBounds_toArray, List.set_cons_zero, List.set_cons_succ])
        refine wpAnyH_take (i := 3) (v := ?_) (by simp only [List.getElem?_toArray, List.getElem?_cons_succ, List.getElem?_cons_zero]; rfl) (by kernel_rfl) (by kernel_rfl) (by kernel_rfl) (by exact fun _ _ _ h => h) (Or.inl ⟨by rfl, ?_⟩) (by assumption) ?_
        rotate_left
        · (intro w hSw; (try dsimp only at hSw); go_simp; (try with_reducible rfl))
        (try simp only [Act.put, List.setIfInBounds_toArray, List.set_cons_zero, List.set_cons_succ])
        refine wpAnyH_take (i := 4) (v := ?_) (by simp only [List.getElem?_toArray, List.getElem?_cons_succ, List.getElem?_cons_zero]; rfl) (by kernel_rfl) (by kernel_rfl) (by kernel_rfl) (by exact fun _ _ _ h => h) (Or.inl ⟨by rfl, ?_⟩) (by assumption) ?_
        rotate_left
        · (intro w hSw; (try dsimp only at hSw); go_simp; (try with_reducible rfl))
        (try simp only [Act.put, List.setIfInBounds_toArray, List.set_cons_zero, List.set_cons_succ])
        refine wpAnyH_take (i := 5) (v := ?_) (by simp only [List.getElem?_toArray, List.getElem?_cons_succ, List.getElem?_cons_zero]; rfl) (by kernel_rfl) (by kernel_rfl) (by kernel_rfl) (by exact fun _ _ _ h => h) (Or.inl ⟨by rfl, ?_⟩) (by assumption) ?_
        rotate_left
        · (intro w hSw; (try dsimp only at hSw); go_simp; (try with_reducible rfl))
        (try simp only [Act.put, List.setIfInBounds_toArray, List.set_cons_zero, List.set_cons_succ])
        refine wpAnyH_ready (rs := [6]) (by kernel_rfl) (by simp) ?_
        refine AllReadyH.cons (by simp only [List.getElem?_toArray, List.getElem?_cons_succ, List.getElem?_cons_zero]; rfl) (fun K hK => ?_) AllReadyH.nil
        obtain ⟨p7, a7, n7, c7, y1, y2, y3, y4, _⟩ := hF i hlt
        obtain ⟨hF_n, hKn⟩ := hF.put hlt hr6
        have VA_n := VA.far2 hne (3 + i * 2) (3 + i * 2 + 1) (.bool p6) (.slice a6 n6 c6)
        have VP_n := VP.far2 hRb (3 + i * 2) (3 + i * 2 + 1) (.bool p6) (.slice a6 n6 c6)
        have hr6_n := hr6.keep hKn
        have BB_n := (BB.own (j := 3 + i * 2) (by omega) (by omega) (.bool p6)).own (j := 3 + i * 2 + 1) (by omega) (by omega) (.slice a6 n6 c6)
        go_simp
        clear y1 y2 y3 y4 hKn hF hr6 VA VP BB
        generalize ((W13.setCell ⟨b, 3 + i * 2, none⟩ (.bool p6)).setCell ⟨b, 3 + i * 2 + 1, none⟩ (.slice a6 n6 c6)) = W9 at *
        have hF := hF_n
        have hr6 := hr6_n
        have VA := VA_n
        have VP := VP_n
        have BB := BB_n
        clear hF_n hr6_n VA_n VP_n BB_n
        refine hK.out _ _ ?_ (fun hH1 => ?_)
        · exact ⟨VA.1, VP.1, VP.2.1⟩
        clear hK K hHeld
        (try simp only [Act.put, List.setIfInBounds_toArray, List.set_cons_zero, List.set_cons_succ])
        refine wpAnyH_done (by kernel_rfl) ?_ _
        clear hH1
        go_wp2
        go_roundw
        case rel => exact ⟨i + 1, by omega, by go_num, ⟨_, _, _, _, VP, hr6⟩, VA, hF, BB⟩
        case measure => simp [intOf]; omega
      exact AllReadyH.nil
    · obtain rfl : i = 65 := by omega
      have c1 : ¬ ((65 : Nat) : Int) < 65 := by omega
      go_wp2
      (try simp only [Exit.inBlock, Exit.then])
      go_end0
      exact ⟨rfl, hF, BB.out⟩

theorem enters_own14 {P : Program} {f : FuncId} {fn : Func} {c : Code} (hf : P.funcs[f]? = some fn) (hname : (fn.name == "runtime.NumGoroutine") = false) (hb : fn.body = some c) (args : Array Value) (w : World) : Sem.run P (callFunc f args) w = .ok (.enter f args) w := by
  have h1 : fn.name ≠ "runtime.NumGoroutine" := by simpa using hname
  simp [callFunc, hf, h1, hb, mark]
theorem KeepQ.tab {w w' : World} {b k : Nat} (hF : FAt w b k) (hU : Upd w w' b 3 130) : KeepQ IsLimb w w' := fun b' o v hv hc => by
  by_cases e : b' = b
  · subst e
    by_cases h : o < 3 ∨ 3 + 130 ≤ o
    · rw [hU.cell o h]; exact hc
    · exfalso
      obtain ⟨p, a, n, c, h1, h2, _⟩ := hF ((o - 3) / 2) (by omega)
      rcases (show o = 3 + (o - 3) / 2 * 2 ∨ o = 3 + (o - 3) / 2 * 2 + 1 by omega) with g | g
      · rw [← g, hc] at h1; cases h1; exact limb_b _ hv
      · rw [← g, hc] at h2; cases h2; exact limb_s _ _ _ hv
  · exact (World.cell?_of_block (w := w) (a := ⟨b', o, none⟩) (hU.block b' (World.block_lt_of_cell? w ⟨b', o, none⟩ hc) e)).trans hc

/-- What Do leaves behind, the first time. -/
theorem onc_out {b : Nat} {W w2 : World} (hT : WNew W b) (hF : FAt w2 b 65) (hU : Upd (W.setCell ⟨b, 1, none⟩ (.int .i32 1)) w2 b 3 130) :
    TOut b false W ((w2.drew.setCell ⟨b, 0, none⟩ (.int .u32 1)).setCell ⟨b, 1, none⟩ (.int .i32 0)) := by
  have k1 : KeepQ IsLimb W (W.setCell ⟨b, 1, none⟩ (.int .i32 1)) := keepL_set hT.c1 (limb_i32 _) _
  have f1 : FAt (W.setCell ⟨b, 1, none⟩ (.int .i32 1)) b 0 := hT.fa.set ⟨b, 1, none⟩ (.inr ⟨rfl, by simp⟩) _ k1
  have k2 : KeepQ IsLimb (W.setCell ⟨b, 1, none⟩ (.int .i32 1)) w2 := KeepQ.tab f1 hU
  have c0 : w2.drew.cell? ⟨b, 0, none⟩ = some (.int .u32 0) := by
    rw [World.cell?_drew, hU.cell 0 (by omega), World.cell?_setCell_other _ _ _ _ (fun e => by injection e; omega)]; exact hT.c0
  have c1 : w2.drew.cell? ⟨b, 1, none⟩ = some (.int .i32 1) := by
    rw [World.cell?_drew, hU.cell 1 (by omega)]; exact World.cell?_setCell_same _ _ _ hT.c1
  have k3 : KeepQ IsLimb w2 w2.drew := KeepQ.below14 (Below.refl _ _).drew
  have k4 : KeepQ IsLimb w2.drew (w2.drew.setCell ⟨b, 0, none⟩ (.int .u32 1)) := keepL_set c0 (limb_u32 _) _
  have c1' : (w2.drew.setCell ⟨b, 0, none⟩ (.int .u32 1)).cell? ⟨b, 1, none⟩ = some (.int .i32 1) := by
    rw [World.cell?_setCell_other _ _ _ _ (fun e => by injection e; omega)]; exact c1
  have k5 : KeepQ IsLimb (w2.drew.setCell ⟨b, 0, none⟩ (.int .u32 1)) ((w2.drew.setCell ⟨b, 0, none⟩ (.int .u32 1)).setCell ⟨b, 1, none⟩ (.int .i32 0)) := keepL_set c1' (limb_i32 _) _
  have u1 : Upd W (W.setCell ⟨b, 1, none⟩ (.int .i32 1)) b 0 133 := Upd.set (off := 0) 1 (by omega) _
  have u2 : Upd (W.setCell ⟨b, 1, none⟩ (.int .i32 1)) w2.drew b 0 133 := (hU.mono (by omega) (by omega)).drew
  have u3 : Upd w2.drew (w2.drew.setCell ⟨b, 0, none⟩ (.int .u32 1)) b 0 133 := Upd.set (off := 0) 0 (by omega) _
  have u4 : Upd (w2.drew.setCell ⟨b, 0, none⟩ (.int .u32 1)) ((w2.drew.setCell ⟨b, 0, none⟩ (.int .u32 1)).setCell ⟨b, 1, none⟩ (.int .i32 0)) b 0 133 := Upd.set (off := 0) 1 (by omega) _
  refine ⟨⟨?_, ?_⟩, u1.trans (u2.trans (u3.trans u4)), k1.trans14 (k2.trans14 (k3.trans14 (k4.trans14 k5))), fun e => by cases e⟩
  · rw [World.cell?_setCell_other _ _ _ _ (fun e => by injection e; omega)]
    exact World.cell?_setCell_same _ _ _ c0
  · exact ((hF.drew).set ⟨b, 0, none⟩ (.inr ⟨rfl, by simp⟩) _ k4).set ⟨b, 1, none⟩ (.inr ⟨rfl, by simp⟩) _ k5

theorem once_made {b R0 : Nat} {W : World} (hT : WNew W b) (hne : R0 ≠ b) (hV : V1 W R0 (.pointer (some ⟨b, 0, none⟩))) :
    Hid (Calls Tryz.prog 53 #[.pointer (some ⟨R0, 0, none⟩)] (W.setCell ⟨b, 1, none⟩ (.int .i32 1)) fun e w2 => e = .returned (.tuple #[]) ∧ OncP b (fun w2 => FAt w2 b 65 ∧ Upd (W.setCell ⟨b, 1, none⟩ (.int .i32 1)) w2 b 3 130) w2) := by
  have k1 : KeepQ IsLimb W (W.setCell ⟨b, 1, none⟩ (.int .i32 1)) := keepL_set hT.c1 (limb_i32 _) _
  have f1 : FAt (W.setCell ⟨b, 1, none⟩ (.int .i32 1)) b 0 := hT.fa.set ⟨b, 1, none⟩ (.inr ⟨rfl, by simp⟩) _ k1
  have v1 : V1 (W.setCell ⟨b, 1, none⟩ (.int .i32 1)) R0 (.pointer (some ⟨b, 0, none⟩)) := ⟨set_cell_block hV.1 hne, by simp [hV.2]⟩
  refine (make14_at b R0 _ hne v1 f1).mono ?_
  rintro e w2 ⟨rfl, hF, hU⟩
  refine ⟨rfl, ⟨hF, hU⟩, ?_, ?_, ?_, ?_⟩
  · rw [hU.cell 0 (by omega), World.cell?_setCell_other _ _ _ _ (fun e => by injection e; omega)]; exact hT.c0
  · rw [hU.cell 1 (by omega)]; exact World.cell?_setCell_same _ _ _ hT.c1
  · rw [hU.froz]; simp [hT.z0]
  · rw [hU.froz]; simp [hT.z1]

set_option maxRecDepth 100000 in
set_option maxHeartbeats 2000000 in
theorem fact_at (b n : Nat) (d : Bool) (w : World) (hT : WT w b d) (hn : n ≤ 64) :
    Calls Tryz.prog 31 #[.pointer (some ⟨b, 0, none⟩), .int .i64 (n : Int)] w fun e w' => ∃ r, e = .returned r ∧ RepI w' r ((fct n : Nat) : Int) ∧ TOut b d w w' := by
  have hmf : ∀ (fn : Fn) (first cap : Array Value) (w : World), Sem.run Tryz.prog (Instr.makeFunc fn first cap) w = .ok (.func fn first cap) w := fun _ _ _ _ => rfl
  have hlt := hT.lt
  have hn0 : (0 : Int) ≤ (n : Int) := by omega
  have hn1 : (n : Int) < 65 := by omega
  obtain ⟨W0, hW0, hS0, hL0, VA⟩ := V1.lay w 22 (.pointer (some ⟨b, 0, none⟩))
  obtain ⟨W1, hW1, hS1, hL1, VR⟩ := V2.lay W0 27 (.bool false) (.slice none 0 0)
  rw [hS0] at VR hS1
  have hA : w.heap.size ≠ b := by omega
  have hB : w.heap.size + 1 ≠ b := by omega
  have hAB : w.heap.size ≠ w.heap.size + 1 := by omega
  replace hT := (hT.below hL0).below hL1
  replace VA := VA.below hL1
  have BW : Below w.heap.size w W1 := hL0.trans (hL1.mono (by omega))
  clear hL0 hL1
  have key : ∀ w2 : World, TOut b d W1 w2 → ∃ p a m c, w2.cell? ⟨b, 3 + n * 2, none⟩ = some (.bool p) ∧ w2.cell? ⟨b, 3 + n * 2 + 1, none⟩ = some (.slice a m c) ∧ RepI w2 (.agg #[.bool p, .slice a m c]) ((fct n : Nat) : Int) ∧ V1 w2 w.heap.size (.pointer (some ⟨b, 0, none⟩)) ∧ V2 w2 (w.heap.size + 1) (.bool false) (.slice none 0 0) ∧ TOut b d w w2 := fun w2 h2 => by
    obtain ⟨p, a, m, c, h1, h2', _, _, h5⟩ := h2.tab.fa n (by omega)
    exact ⟨p, a, m, c, h1, h2', h5 (by omega), VA.upd h2.upd hA, VR.upd h2.upd hB, h2.of_below BW hlt⟩
  have fin : ∀ (w2 : World) (p : Bool) (a : Option Addr) (m c : Nat), RepI w2 (.agg #[.bool p, .slice a m c]) ((fct n : Nat) : Int) → V2 w2 (w.heap.size + 1) (.bool false) (.slice none 0 0) → TOut b d w w2 → RepI ((w2.setCell ⟨w.heap.size + 1, 0, none⟩ (.bool p)).setCell ⟨w.heap.size + 1, 1, none⟩ (.slice a m c)) (.agg #[.bool p, .slice a m c]) ((fct n : Nat) : Int) ∧ TOut b d w ((w2.setCell ⟨w.heap.size + 1, 0, none⟩ (.bool p)).setCell ⟨w.heap.size + 1, 1, none⟩ (.slice a m c)) := fun w2 p a m c hr hv ho => by
    have k1 : KeepQ IsLimb w2 (w2.setCell ⟨w.heap.size + 1, 0, none⟩ (.bool p)) := keepL_set hv.1 (limb_b _) _
    have k2 : KeepQ IsLimb (w2.setCell ⟨w.heap.size + 1, 0, none⟩ (.bool p)) ((w2.setCell ⟨w.heap.size + 1, 0, none⟩ (.bool p)).setCell ⟨w.heap.size + 1, 1, none⟩ (.slice a m c)) := keepL_set (old := .slice none 0 0) (by rw [World.cell?_setCell_other _ _ _ _ (fun e => by injection e; omega)]; exact hv.2.1) (limb_s _ _ _) _
    exact ⟨(hr.keepL k1).keepL k2, (ho.set (by omega) hlt 0 _ k1).set (by omega) hlt 1 _ k2⟩
  have KEY : Hid (∀ w2 : World, TOut b d W1 w2 → ∃ p a m c, w2.cell? ⟨b, 3 + n * 2, none⟩ = some (.bool p) ∧ w2.cell? ⟨b, 3 + n * 2 + 1, none⟩ = some (.slice a m c) ∧ RepI w2 (.agg #[.bool p, .slice a m c]) ((fct n : Nat) : Int) ∧ V1 w2 w.heap.size (.pointer (some ⟨b, 0, none⟩)) ∧ V2 w2 (w.heap.size + 1) (.bool false) (.slice none 0 0) ∧ TOut b d w w2) := key
  have FIN : Hid (∀ (w2 : World) (p : Bool) (a : Option Addr) (m c : Nat), RepI w2 (.agg #[.bool p, .slice a m c]) ((fct n : Nat) : Int) → V2 w2 (w.heap.size + 1) (.bool false) (.slice none 0 0) → TOut b d w w2 → RepI ((w2.setCell ⟨w.heap.size + 1, 0, none⟩ (.bool p)).setCell ⟨w.heap.size + 1, 1, none⟩ (.slice a m c)) (.agg #[.bool p, .slice a m c]) ((fct n : Nat) : Int) ∧ TOut b d w ((w2.setCell ⟨w.heap.size + 1, 0, none⟩ (.bool p)).setCell ⟨w.heap.size + 1, 1, none⟩ (.slice a m c))) := fin
  clear key fin
  have step : Calls Tryz.prog 52 #[.pointer (some ⟨b, 0, none⟩), .func (.func 53) #[] #[.pointer (some ⟨w.heap.size, 0, none⟩)]] W1 fun e w2 => e = .returned (.tuple #[]) ∧ TOut b d W1 w2 := by
    cases d with
    | true =>
      have hT' : WOld W1 b := hT
      refine (do_done ⟨b, 0, none⟩ _ W1 hT'.c0).mono ?_
      rintro e w2 ⟨rfl, rfl⟩
      exact ⟨rfl, hT', Upd.refl _ _ _ _, KeepQ.refl14 _, fun _ => Below.refl _ _⟩
    | false =>
      have hT' : WNew W1 b := hT
      refine (do_first b _ _ _ W1 hT'.c0 hT'.c1 hT'.z1 (enters_own14 Tryz.func53 (by kernel_rfl) rfl) (once_made hT' hA VA)).mono ?_
      rintro e w2 ⟨rfl, w3, ⟨hF, hU⟩, rfl⟩
      exact ⟨rfl, onc_out hT' hF hU⟩
  have STEP : Hid (Calls Tryz.prog 52 #[.pointer (some ⟨b, 0, none⟩), .func (.func 53) #[] #[.pointer (some ⟨w.heap.size, 0, none⟩)]] W1 fun e w2 => e = .returned (.tuple #[]) ∧ TOut b d W1 w2) := step
  clear step hT
  obtain ⟨va0, va1⟩ := id VA
  go_enter Tryz.func31, Tryz.ntmps31
  go_wp2_with fail
  rw [← hW0, ← hW1]
  refine STEP.out.mono ?_
  rintro e w2 ⟨rfl, ho⟩
  clear va0 va1 VA VR STEP hW0 hW1 BW
  obtain ⟨p, a, m, c, g1, g2, hr, VA, VR, HO⟩ := KEY.out w2 ho
  obtain ⟨y1, y2⟩ := FIN.out w2 p a m c hr VR HO
  obtain ⟨va0, va1⟩ := id VA
  obtain ⟨q1, q2, q3, q4⟩ := id VR
  clear KEY FIN ho HO hr
  go_wp2
  (try simp only [Exit.inBlock, Exit.then])
  refine bodyPost_ret (v := .agg #[.bool p, .slice a m c]) (by simp [results, go_sem, q1, q2]) rfl ?_
  exact ⟨_, rfl, y1, y2⟩

theorem fact_old (b n : Nat) (w : World) (hT : WOld w b) (hn : n ≤ 64) :
    Calls Tryz.prog 31 #[.pointer (some ⟨b, 0, none⟩), .int .i64 (n : Int)] w fun e w' => ∃ r, e = .returned r ∧ RepI w' r ((fct n : Nat) : Int) ∧ Below w.heap.size w w' := by
  refine (fact_at b n true w hT hn).mono ?_
  rintro e w1 ⟨r, rfl, hr, ho⟩
  exact ⟨r, rfl, hr, ho.low rfl⟩
/-- The same, from a world w0 on. -/
structure TO (b : Nat) (d : Bool) (w0 w : World) : Prop where
  out : TOut b d w0 w
  lt : b < w0.heap.size
theorem TO.size {b : Nat} {d : Bool} {w0 w : World} (h : TO b d w0 w) : w0.heap.size ≤ w.heap.size := h.out.size
theorem TO.below {b : Nat} {d : Bool} {w0 w w' : World} (h : TO b d w0 w) (hb : Below w.heap.size w w') : TO b d w0 w' := ⟨h.out.below hb, h.lt⟩
theorem TO.put2 {b : Nat} {d : Bool} {w0 w : World} (h : TO b d w0 w) {R : Nat} {p : Bool} {a : Option Addr} {n c : Nat} (hv : V2 w R (.bool p) (.slice a n c)) (hR : w0.heap.size ≤ R) (x y : Value) : TO b d w0 ((w.setCell ⟨R, 0, none⟩ x).setCell ⟨R, 1, none⟩ y) := by
  have k1 : KeepQ IsLimb w (w.setCell ⟨R, 0, none⟩ x) := keepL_set hv.1 (limb_b _) _
  have k2 : KeepQ IsLimb (w.setCell ⟨R, 0, none⟩ x) ((w.setCell ⟨R, 0, none⟩ x).setCell ⟨R, 1, none⟩ y) := keepL_set (old := .slice a n c) (by rw [World.cell?_setCell_other _ _ _ _ (fun e => by injection e; omega)]; exact hv.2.1) (limb_s _ _ _) _
  exact ⟨(h.out.set hR h.lt 0 _ k1).set hR h.lt 1 _ k2, h.lt⟩
theorem TO.put3 {b : Nat} {d : Bool} {w0 w : World} (h : TO b d w0 w) {R : Nat} {p : Bool} {a a' : Option Addr} {n c n' c' : Nat} (hv : V3 w R (.bool p) (.slice a n c) (.slice a' n' c')) (hR : w0.heap.size ≤ R) (x y z : Value) : TO b d w0 (((w.setCell ⟨R, 0, none⟩ x).setCell ⟨R, 1, none⟩ y).setCell ⟨R, 2, none⟩ z) := by
  have k1 : KeepQ IsLimb w (w.setCell ⟨R, 0, none⟩ x) := keepL_set hv.1 (limb_b _) _
  have k2 : KeepQ IsLimb (w.setCell ⟨R, 0, none⟩ x) ((w.setCell ⟨R, 0, none⟩ x).setCell ⟨R, 1, none⟩ y) := keepL_set (old := .slice a n c) (by rw [World.cell?_setCell_other _ _ _ _ (fun e => by injection e; omega)]; exact hv.2.1) (limb_s _ _ _) _
  have k3 : KeepQ IsLimb ((w.setCell ⟨R, 0, none⟩ x).setCell ⟨R, 1, none⟩ y) (((w.setCell ⟨R, 0, none⟩ x).setCell ⟨R, 1, none⟩ y).setCell ⟨R, 2, none⟩ z) := keepL_set (old := .slice a' n' c') (by rw [World.cell?_setCell_other _ _ _ _ (fun e => by injection e; omega), World.cell?_setCell_other _ _ _ _ (fun e => by injection e; omega)]; exact hv.2.2.1) (limb_s _ _ _) _
  exact ⟨((h.out.set hR h.lt 0 _ k1).set hR h.lt 1 _ k2).set hR h.lt 2 _ k3, h.lt⟩
theorem WOld.put2 {w : World} {b R : Nat} {p : Bool} {a : Option Addr} {n c : Nat} (h : WOld w b) (hv : V2 w R (.bool p) (.slice a n c)) (hR : R ≠ b) (x y : Value) : WOld ((w.setCell ⟨R, 0, none⟩ x).setCell ⟨R, 1, none⟩ y) b := by
  have k1 : KeepQ IsLimb w (w.setCell ⟨R, 0, none⟩ x) := keepL_set hv.1 (limb_b _) _
  have k2 : KeepQ IsLimb (w.setCell ⟨R, 0, none⟩ x) ((w.setCell ⟨R, 0, none⟩ x).setCell ⟨R, 1, none⟩ y) := keepL_set (old := .slice a n c) (by rw [World.cell?_setCell_other _ _ _ _ (fun e => by injection e; omega)]; exact hv.2.1) (limb_s _ _ _) _
  exact (h.set _ hR _ k1).set _ hR _ k2
theorem WOld.put3 {w : World} {b R : Nat} {p : Bool} {a a' : Option Addr} {n c n' c' : Nat} (h : WOld w b) (hv : V3 w R (.bool p) (.slice a n c) (.slice a' n' c')) (hR : R ≠ b) (x y z : Value) : WOld (((w.setCell ⟨R, 0, none⟩ x).setCell ⟨R, 1, none⟩ y).setCell ⟨R, 2, none⟩ z) b := by
  have k1 : KeepQ IsLimb w (w.setCell ⟨R, 0, none⟩ x) := keepL_set hv.1 (limb_b _) _
  have k2 : KeepQ IsLimb (w.setCell ⟨R, 0, none⟩ x) ((w.setCell ⟨R, 0, none⟩ x).setCell ⟨R, 1, none⟩ y) := keepL_set (old := .slice a n c) (by rw [World.cell?_setCell_other _ _ _ _ (fun e => by injection e; omega)]; exact hv.2.1) (limb_s _ _ _) _
  have k3 : KeepQ IsLimb ((w.setCell ⟨R, 0, none⟩ x).setCell ⟨R, 1, none⟩ y) (((w.setCell ⟨R, 0, none⟩ x).setCell ⟨R, 1, none⟩ y).setCell ⟨R, 2, none⟩ z) := keepL_set (old := .slice a' n' c') (by rw [World.cell?_setCell_other _ _ _ _ (fun e => by injection e; omega), World.cell?_setCell_other _ _ _ _ (fun e => by injection e; omega)]; exact hv.2.2.1) (limb_s _ _ _) _
  exact ((h.set _ hR _ k1).set _ hR _ k2).set _ hR _ k3
/-- The share of a coalition. -/
def shQ (a c n : Nat) : Rat := ((fct a : Nat) : Rat) * ((fct c : Nat) : Rat) / ((fct n : Nat) : Rat)
theorem shQ_ways {a c n : Nat} (h : a + c ≤ n) : ∃ W : Nat, 0 < W ∧ W ≤ fct n ∧ (((fct n : Nat) : Int)).fdiv ((fct a * fct c : Nat) : Int) = (W : Int) ∧ (((W : Nat) : Int) : Rat)⁻¹ = shQ a c n := by
  obtain ⟨W, hW⟩ := fct_dvd h
  have h0 := fct_pos n
  have ha := fct_pos a
  have hc := fct_pos c
  have hac : 0 < fct a * fct c := Nat.mul_pos ha hc
  have hWp : 0 < W := by
    rcases Nat.eq_zero_or_pos W with e | e
    · rw [e, Nat.mul_zero] at hW; omega
    · exact e
  refine ⟨W, hWp, ?_, ?_, ?_⟩
  · rw [hW]; exact Nat.le_mul_of_pos_left _ hac
  · rw [Int.fdiv_eq_ediv_of_nonneg _ (by omega), ← Int.natCast_ediv, hW, Nat.mul_div_cancel_left _ hac]
  · unfold shQ
    have e1 : ((fct n : Nat) : Rat) = ((fct a : Nat) : Rat) * ((fct c : Nat) : Rat) * ((W : Nat) : Rat) := by
      rw [← Rat.natCast_mul, ← Rat.natCast_mul, ← hW]
    have n1 := fctR_ne a
    have n2 := fctR_ne c
    have n3 : ((W : Nat) : Rat) ≠ 0 := by
      intro e
      have : W = 0 := by exact_mod_cast e
      omega
    rw [e1, Rat.intCast_natCast, Rat.div_def, Rat.inv_mul_rev]
    generalize ((fct a : Nat) : Rat) = A at *
    generalize ((fct c : Nat) : Rat) = C at *
    generalize ((W : Nat) : Rat) = X at *
    have h1 : A * C ≠ 0 := by
      intro e
      rcases Rat.mul_eq_zero.1 e with e | e
      · exact n1 e
      · exact n2 e
    have h2 : A * C * (A * C)⁻¹ = 1 := Rat.mul_inv_cancel _ h1
    grind
theorem fct_nlw {n : Nat} (hn : n ≤ 64) {W : Nat} (hW : W ≤ fct n) : nl W32 ((W : Nat) : Int).natAbs ≤ 10 := by
  rw [Int.natAbs_natCast]
  exact nl_le W32 _ 10 (by decide) (Nat.lt_of_le_of_lt hW (fact_bits ⟨n, by omega⟩))
theorem shQ_sz {a c n : Nat} (h : a + c ≤ n) (hn : n ≤ 64) : qsz (shQ a c n) ≤ 10 := by
  obtain ⟨W, h1, h2, _, h4⟩ := shQ_ways h
  rw [← h4]
  exact qsz_inv _ (qsz_int _ (fct_nlw hn h2) (by omega))

set_option maxRecDepth 20000 in
set_option maxHeartbeats 2000000 in
theorem within_ok (p : Addr) (f n t : Int) (w : World) (h1 : f ≤ n) (h2 : n ≤ t) :
    Calls Tryz.prog 29 #[.pointer (some p), .int .i64 f, .int .i64 n, .int .i64 t] w fun e w' => e = .returned (.int .i64 0) ∧ w' = w := by
  have g1 : ¬ n < f := by omega
  have g2 : ¬ t < n := by omega
  go_enter Tryz.func29, Tryz.ntmps29
  go_wp2
  go_ret
  exact ⟨rfl, rfl⟩

set_option maxRecDepth 20000 in
set_option maxHeartbeats 2000000 in
theorem within_lo (p : Addr) (f n t : Int) (w : World) (h1 : n < f) :
    Calls Tryz.prog 29 #[.pointer (some p), .int .i64 f, .int .i64 n, .int .i64 t] w fun e w' => e = .returned (.int .i64 8) ∧ w' = w := by
  go_enter Tryz.func29, Tryz.ntmps29
  go_wp2
  go_ret
  exact ⟨rfl, rfl⟩

set_option maxRecDepth 20000 in
set_option maxHeartbeats 2000000 in
theorem within_hi (p : Addr) (f n t : Int) (w : World) (h0 : f ≤ n) (h1 : t < n) :
    Calls Tryz.prog 29 #[.pointer (some p), .int .i64 f, .int .i64 n, .int .i64 t] w fun e w' => e = .returned (.int .i64 8) ∧ w' = w := by
  have g1 : ¬ n < f := by omega
  go_enter Tryz.func29, Tryz.ntmps29
  go_wp2
  go_ret
  exact ⟨rfl, rfl⟩

set_option maxRecDepth 20000 in
set_option maxHeartbeats 2000000 in
theorem within_nil (f n t : Int) (w : World) :
    Calls Tryz.prog 29 #[.pointer none, .int .i64 f, .int .i64 n, .int .i64 t] w fun e w' => e = .returned (.int .i64 18) ∧ w' = w := by
  go_enter Tryz.func29, Tryz.ntmps29
  go_wp2
  go_ret
  exact ⟨rfl, rfl⟩

theorem within_no (p : Addr) (f n t : Int) (w : World) (h : n < f ∨ t < n) : Calls Tryz.prog 29 #[.pointer (some p), .int .i64 f, .int .i64 n, .int .i64 t] w fun e w' => e = .returned (.int .i64 8) ∧ w' = w := by
  by_cases h1 : n < f
  · exact within_lo p f n t w h1
  · exact within_hi p f n t w (by omega) (by omega)

set_option maxRecDepth 20000 in
set_option maxHeartbeats 2000000 in
theorem coal_ok (p : Addr) (s n j : Int) (w : World) (hj0 : 0 ≤ j) (h1 : j ≤ n) (h2 : n ≤ 64) (h3 : 0 ≤ s) (h4 : s ≤ n - j) :
    Calls Tryz.prog 37 #[.pointer (some p), .int .i64 s, .int .i64 n, .int .i64 j] w fun e w' => e = .returned (.int .i64 0) ∧ w' = w := by
  have wj : IntKind.i64.wrap (n - j) = n - j := by rw [IntKind.wrap_i64]; omega
  go_enter Tryz.func37, Tryz.ntmps37
  go_wp2_with fail
  refine (within_ok p j n 64 _ h1 h2).mono ?_
  rintro e wx ⟨rfl, hwx⟩
  replace hwx := hwx.symm
  subst hwx
  go_wp2_with fail
  refine (within_ok p 0 s (n - j) _ h3 h4).mono ?_
  rintro e wx ⟨rfl, hwx⟩
  replace hwx := hwx.symm
  subst hwx
  go_wp2
  go_ret
  exact ⟨rfl, rfl⟩

set_option maxRecDepth 20000 in
set_option maxHeartbeats 2000000 in
theorem coal_n (p : Addr) (s n j : Int) (w : World) (h : n < j ∨ 64 < n) :
    Calls Tryz.prog 37 #[.pointer (some p), .int .i64 s, .int .i64 n, .int .i64 j] w fun e w' => e = .returned (.int .i64 8) ∧ w' = w := by
  go_enter Tryz.func37, Tryz.ntmps37
  go_wp2_with fail
  refine (within_no p j n 64 _ h).mono ?_
  rintro e wx ⟨rfl, hwx⟩
  replace hwx := hwx.symm
  subst hwx
  go_wp2
  go_ret
  exact ⟨rfl, rfl⟩

set_option maxRecDepth 20000 in
set_option maxHeartbeats 2000000 in
theorem coal_s (p : Addr) (s n j : Int) (w : World) (hj0 : 0 ≤ j) (h1 : j ≤ n) (h2 : n ≤ 64) (h : s < 0 ∨ n - j < s) :
    Calls Tryz.prog 37 #[.pointer (some p), .int .i64 s, .int .i64 n, .int .i64 j] w fun e w' => e = .returned (.int .i64 8) ∧ w' = w := by
  have wj : IntKind.i64.wrap (n - j) = n - j := by rw [IntKind.wrap_i64]; omega
  go_enter Tryz.func37, Tryz.ntmps37
  go_wp2_with fail
  refine (within_ok p j n 64 _ h1 h2).mono ?_
  rintro e wx ⟨rfl, hwx⟩
  replace hwx := hwx.symm
  subst hwx
  go_wp2_with fail
  refine (within_no p 0 s (n - j) _ h).mono ?_
  rintro e wx ⟨rfl, hwx⟩
  replace hwx := hwx.symm
  subst hwx
  go_wp2
  go_ret
  exact ⟨rfl, rfl⟩

set_option maxRecDepth 20000 in
set_option maxHeartbeats 2000000 in
theorem coal_nil (s n j : Int) (w : World) :
    Calls Tryz.prog 37 #[.pointer none, .int .i64 s, .int .i64 n, .int .i64 j] w fun e w' => e = .returned (.int .i64 18) ∧ w' = w := by
  go_enter Tryz.func37, Tryz.ntmps37
  go_wp2_with fail
  refine (within_nil j n 64 _).mono ?_
  rintro e wx ⟨rfl, hwx⟩
  replace hwx := hwx.symm
  subst hwx
  go_wp2
  go_ret
  exact ⟨rfl, rfl⟩

theorem coal_no (p : Addr) (s n j : Int) (w : World) (hj0 : 0 ≤ j) (h : n < j ∨ 64 < n ∨ s < 0 ∨ n - j < s) : Calls Tryz.prog 37 #[.pointer (some p), .int .i64 s, .int .i64 n, .int .i64 j] w fun e w' => e = .returned (.int .i64 8) ∧ w' = w := by
  by_cases h1 : n < j ∨ 64 < n
  · exact coal_n p s n j w h1
  · exact coal_s p s n j w hj0 (by omega) (by omega) (by omega)

set_option maxRecDepth 100000 in
set_option maxHeartbeats 4000000 in
theorem share_at (b a c n : Nat) (d : Bool) (w : World) (hT : WT w b d) (hn : n ≤ 64) (hac : a + c ≤ n) (ht : Tab w) :
    Calls Tryz.prog 38 #[.pointer (some ⟨b, 0, none⟩), .int .i64 (a : Int), .int .i64 (c : Int), .int .i64 (n : Int)] w fun e w' => ∃ r, e = .returned r ∧ RepQ w' r (shQ a c n) ∧ TOut b d w w' := by
  have hlt := hT.lt
  have ha : a ≤ 64 := by omega
  have hc : c ≤ 64 := by omega
  obtain ⟨W, hW0, hW1, hW2, hW3⟩ := shQ_ways hac
  have HW2 : Hid (((fct n : Nat) : Int).fdiv ((fct a * fct c : Nat) : Int) = (W : Int)) := hW2
  have HW3 : Hid ((((W : Nat) : Int) : Rat)⁻¹ = shQ a c n) := hW3
  have hWn := fct_nlw hn hW1
  have HAC : Hid (((fct a * fct c : Nat) : Int) ≠ 0) := by
    have := Nat.mul_pos (fct_pos a) (fct_pos c)
    show ((fct a * fct c : Nat) : Int) ≠ 0
    omega
  have hWz : (((W : Nat) : Int) : Rat) ≠ 0 := fun e => by
    have : W = 0 := by exact_mod_cast e
    omega
  clear hW2 hW3 hac hW1
  have BB : Below w.heap.size w w := Below.refl _ _
  obtain ⟨Wb0, hW0, hS0, hL0, VR⟩ := V3.lay w 35 (.bool false) (.slice none 0 0) (.slice none 0 0)
  replace ht := ht.below hL0
  replace hT := hT.below hL0
  replace BB := BB.trans (hL0.mono BB.size)
  clear hL0
  go_enter Tryz.func38, Tryz.ntmps38
  go_wp2_with fail
  rw [← hW0]
  clear hW0 hS0
  have hRb : w.heap.size ≠ b := by omega
  refine (fact_at b n d _ hT hn).mono ?_
  rintro e w1 ⟨r1, rfl, h1, ho⟩
  replace ht := ht.keepL ho.keep
  replace VR := VR.upd ho.upd hRb
  have HO : WOld w1 b := ho.tab
  replace BB : TO b d w w1 := ⟨ho.of_below BB hlt, hlt⟩
  clear hT ho
  go_wp2_with fail
  refine (fact_old b a _ HO ha).mono ?_
  rintro e w2 ⟨r2, rfl, h2, b2⟩
  replace ht := ht.below b2
  replace h1 := h1.below b2
  replace HO := HO.below b2
  replace VR := VR.below b2
  replace BB := BB.below b2
  clear b2
  go_wp2_with fail
  refine (fact_old b c _ HO hc).mono ?_
  rintro e w3 ⟨r3, rfl, h3, b3⟩
  replace ht := ht.below b3
  replace h1 := h1.below b3
  replace HO := HO.below b3
  replace h2 := h2.below b3
  replace VR := VR.below b3
  replace BB := BB.below b3
  clear b3
  go_wp2_with fail
  refine (wmul_any _ _ _ _ 10 10 _ (h2.at 10 (fact_nl ha)) (h3.at 10 (fact_nl hc)) (by omega)).mono ?_
  rintro e w4 ⟨r4, rfl, h4, b4⟩
  replace ht := ht.below b4
  replace h1 := h1.below b4
  replace HO := HO.below b4
  replace h2 := h2.below b4
  replace h3 := h3.below b4
  replace VR := VR.below b4
  replace BB := BB.below b4
  clear b4
  rw [← Int.natCast_mul] at h4
  go_wp2_with fail
  clear h2 h3
  refine (wdivMod_any _ _ _ _ 10 (nl W32 ((fct a * fct c : Nat) : Int).natAbs) _ (h1.at 10 (fact_nl hn)) (h4.at _ (Nat.le_refl _)) (by omega) HAC.out).mono ?_
  rintro e w5 ⟨q5, r5, rfl, h5, h6, b5⟩
  replace ht := ht.below b5
  replace h1 := h1.below b5
  replace HO := HO.below b5
  replace h4 := h4.below b5
  replace VR := VR.below b5
  replace BB := BB.below b5
  clear b5
  rw [HW2.out] at h5
  obtain ⟨p5, a5, n5, c5, rfl⟩ := h5.open
  obtain ⟨p6, a6, n6, c6, rfl⟩ := h6.open
  clear h1 h4 h6
  have hZ1 : w.heap.size ≤ w5.heap.size := BB.size
  have hN1VR : w.heap.size < w5.heap.size := VR.lt
  obtain ⟨W2, hW2, hS2, hL2, VX⟩ := V2.lay w5 27 (.bool p5) (.slice a5 n5 c5)
  replace ht := ht.below hL2
  replace HO := HO.below hL2
  replace h5 := h5.below hL2
  replace VR := VR.below hL2
  replace BB := BB.below hL2
  clear hL2
  obtain ⟨W3, hW3, hS3, hL3, VY⟩ := V2.lay W2 27 (.bool p6) (.slice a6 n6 c6)
  replace ht := ht.below hL3
  replace HO := HO.below hL3
  replace h5 := h5.below hL3
  replace VR := VR.below hL3
  replace VX := VX.below hL3
  replace BB := BB.below hL3
  clear hL3
  rw [hS2] at VY
  go_wp2_with fail
  rw [← hW2]
  rw [← hW3]
  generalize w5.heap.size = R1 at *
  clear hW2 hS2 hW3 hS3
  obtain ⟨VX_0, VX_1, VX_2, VX_3⟩ := id VX
  go_wp2_with fail
  clear VX_0 VX_1 VX_2 VX_3
  refine (qint_at _ (W : Int) 10 _ (h5.at 10 hWn)).mono ?_
  rintro e w6 ⟨r7, rfl, h7, b6⟩
  replace ht := ht.below b6
  replace HO := HO.below b6
  replace h5 := h5.below b6
  replace VR := VR.below b6
  replace VX := VX.below b6
  replace VY := VY.below b6
  replace BB := BB.below b6
  clear b6
  go_wp2_with fail
  refine (qinv_at _ (((W : Nat) : Int) : Rat) 10 _ (h7.at 10 (qsz_int _ hWn (by omega))) (by omega) (by omega) ht hWz).mono ?_
  rintro e w7 ⟨r8, rfl, h8, b7⟩
  replace ht := ht.below b7
  replace HO := HO.below b7
  replace h5 := h5.below b7
  replace h7 := h7.below b7
  replace VR := VR.below b7
  replace VX := VX.below b7
  replace VY := VY.below b7
  replace BB := BB.below b7
  clear b7
  rw [HW3.out] at h8
  obtain ⟨p8, a8, n8, c8, y8, m8, d8, rfl⟩ := h8.open
  clear h5 h7 VX VY
  obtain ⟨W4, hW4, hS4, hL4, VZ⟩ := V3.lay w7 35 (.bool p8) (.slice a8 n8 c8) (.slice y8 m8 d8)
  replace ht := ht.below hL4
  replace HO := HO.below hL4
  replace h8 := h8.below hL4
  replace VR := VR.below hL4
  replace BB := BB.below hL4
  clear hL4
  have hKp := VR.keepJ (.bool p8) (.slice a8 n8 c8) (.slice y8 m8 d8)
  have ht_n := ht.keep hKp
  have HO_n := HO.put3 VR (by omega) (.bool p8) (.slice a8 n8 c8) (.slice y8 m8 d8)
  have h8_n := h8.keep hKp
  have BB_n := BB.put3 VR (by omega) (.bool p8) (.slice a8 n8 c8) (.slice y8 m8 d8)
  clear hKp
  obtain ⟨VZ_0, VZ_1, VZ_2, VZ_3, VZ_4, VZ_5⟩ := id VZ
  obtain ⟨q1, q2, q3, q4, q5, q6⟩ := id VR
  rw [hW4] at VZ_0 VZ_1 VZ_2 VZ_3 VZ_4 VZ_5 q1 q2 q3 q4 q5 q6
  go_wp2
  (try simp only [Exit.inBlock, Exit.then])
  refine bodyPost_ret (v := .agg #[.bool p8, .slice a8 n8 c8, .slice y8 m8 d8]) (by simp [results, go_sem, q1, q2, q3]) rfl ?_
  rw [← hW4]
  exact ⟨_, rfl, h8_n, BB_n.out⟩

set_option maxRecDepth 100000 in
set_option maxHeartbeats 2000000 in
theorem tfact_no (b : Nat) (n : Int) (w : World) (h : n < 0 ∨ 64 < n) :
    Calls Tryz.prog 11 #[.pointer (some ⟨b, 0, none⟩), .int .i64 n] w fun e w' => e = .returned (.tuple #[.agg #[.bool false, .slice none 0 0], .int .i64 8]) ∧ Below w.heap.size w w' := by
  have BB : Below w.heap.size w w := Below.refl _ _
  obtain ⟨Wb0, hW0, hS0, hL0, VR⟩ := V2.lay w 27 (.bool false) (.slice none 0 0)
  replace BB := BB.trans (hL0.mono BB.size)
  clear hL0
  go_enter Tryz.func11, Tryz.ntmps11
  go_wp2_with fail
  rw [← hW0]
  clear hW0 hS0
  refine (within_no _ 0 n 64 _ h).mono ?_
  rintro e wx ⟨rfl, hwx⟩
  replace hwx := hwx.symm
  subst hwx
  have hKp := VR.keepJ (.bool false) (.slice none 0 0)
  have BB := below_store2 (R := w.heap.size) BB (by omega) (.bool false) (.slice none 0 0)
  clear hKp
  obtain ⟨VR_0, VR_1, VR_2, VR_3⟩ := id VR
  go_wp2
  (try simp only [Exit.inBlock, Exit.then])
  refine bodyPost_ret (v := .tuple #[.agg #[.bool false, .slice none 0 0], .int .i64 8]) (by simp [results, go_sem, VR_0, VR_1]) rfl ?_
  exact ⟨rfl, BB⟩

set_option maxRecDepth 100000 in
set_option maxHeartbeats 2000000 in
theorem tfact_nil (n : Int) (w : World) :
    Calls Tryz.prog 11 #[.pointer none, .int .i64 n] w fun e w' => e = .returned (.tuple #[.agg #[.bool false, .slice none 0 0], .int .i64 18]) ∧ Below w.heap.size w w' := by
  have BB : Below w.heap.size w w := Below.refl _ _
  obtain ⟨Wb0, hW0, hS0, hL0, VR⟩ := V2.lay w 27 (.bool false) (.slice none 0 0)
  replace BB := BB.trans (hL0.mono BB.size)
  clear hL0
  go_enter Tryz.func11, Tryz.ntmps11
  go_wp2_with fail
  rw [← hW0]
  clear hW0 hS0
  refine (within_nil 0 n 64 _).mono ?_
  rintro e wx ⟨rfl, hwx⟩
  replace hwx := hwx.symm
  subst hwx
  have hKp := VR.keepJ (.bool false) (.slice none 0 0)
  have BB := below_store2 (R := w.heap.size) BB (by omega) (.bool false) (.slice none 0 0)
  clear hKp
  obtain ⟨VR_0, VR_1, VR_2, VR_3⟩ := id VR
  go_wp2
  (try simp only [Exit.inBlock, Exit.then])
  refine bodyPost_ret (v := .tuple #[.agg #[.bool false, .slice none 0 0], .int .i64 18]) (by simp [results, go_sem, VR_0, VR_1]) rfl ?_
  exact ⟨rfl, BB⟩

set_option maxRecDepth 100000 in
set_option maxHeartbeats 2000000 in
theorem tweight_no (b : Nat) (s n : Int) (w : World) (h : n < 1 ∨ 64 < n ∨ s < 0 ∨ n - 1 < s) :
    Calls Tryz.prog 17 #[.pointer (some ⟨b, 0, none⟩), .int .i64 s, .int .i64 n] w fun e w' => e = .returned (.tuple #[.agg #[.bool false, .slice none 0 0, .slice none 0 0], .int .i64 8]) ∧ Below w.heap.size w w' := by
  have BB : Below w.heap.size w w := Below.refl _ _
  obtain ⟨Wb0, hW0, hS0, hL0, VR⟩ := V3.lay w 35 (.bool false) (.slice none 0 0) (.slice none 0 0)
  replace BB := BB.trans (hL0.mono BB.size)
  clear hL0
  go_enter Tryz.func17, Tryz.ntmps17
  go_wp2_with fail
  rw [← hW0]
  clear hW0 hS0
  refine (coal_no _ s n 1 _ (by omega) h).mono ?_
  rintro e wx ⟨rfl, hwx⟩
  replace hwx := hwx.symm
  subst hwx
  have hKp := VR.keepJ (.bool false) (.slice none 0 0) (.slice none 0 0)
  have BB := below_store3 (R := w.heap.size) BB (by omega) (.bool false) (.slice none 0 0) (.slice none 0 0)
  clear hKp
  obtain ⟨VR_0, VR_1, VR_2, VR_3, VR_4, VR_5⟩ := id VR
  go_wp2
  (try simp only [Exit.inBlock, Exit.then])
  refine bodyPost_ret (v := .tuple #[.agg #[.bool false, .slice none 0 0, .slice none 0 0], .int .i64 8]) (by simp [results, go_sem, VR_0, VR_1, VR_2]) rfl ?_
  exact ⟨rfl, BB⟩

set_option maxRecDepth 100000 in
set_option maxHeartbeats 2000000 in
theorem tweight_nil (s n : Int) (w : World) :
    Calls Tryz.prog 17 #[.pointer none, .int .i64 s, .int .i64 n] w fun e w' => e = .returned (.tuple #[.agg #[.bool false, .slice none 0 0, .slice none 0 0], .int .i64 18]) ∧ Below w.heap.size w w' := by
  have BB : Below w.heap.size w w := Below.refl _ _
  obtain ⟨Wb0, hW0, hS0, hL0, VR⟩ := V3.lay w 35 (.bool false) (.slice none 0 0) (.slice none 0 0)
  replace BB := BB.trans (hL0.mono BB.size)
  clear hL0
  go_enter Tryz.func17, Tryz.ntmps17
  go_wp2_with fail
  rw [← hW0]
  clear hW0 hS0
  refine (coal_nil s n 1 _).mono ?_
  rintro e wx ⟨rfl, hwx⟩
  replace hwx := hwx.symm
  subst hwx
  have hKp := VR.keepJ (.bool false) (.slice none 0 0) (.slice none 0 0)
  have BB := below_store3 (R := w.heap.size) BB (by omega) (.bool false) (.slice none 0 0) (.slice none 0 0)
  clear hKp
  obtain ⟨VR_0, VR_1, VR_2, VR_3, VR_4, VR_5⟩ := id VR
  go_wp2
  (try simp only [Exit.inBlock, Exit.then])
  refine bodyPost_ret (v := .tuple #[.agg #[.bool false, .slice none 0 0, .slice none 0 0], .int .i64 18]) (by simp [results, go_sem, VR_0, VR_1, VR_2]) rfl ?_
  exact ⟨rfl, BB⟩

set_option maxRecDepth 100000 in
set_option maxHeartbeats 2000000 in
theorem tpair_no (b : Nat) (s n : Int) (w : World) (h : n < 2 ∨ 64 < n ∨ s < 0 ∨ n - 2 < s) :
    Calls Tryz.prog 20 #[.pointer (some ⟨b, 0, none⟩), .int .i64 s, .int .i64 n] w fun e w' => e = .returned (.tuple #[.agg #[.bool false, .slice none 0 0, .slice none 0 0], .int .i64 8]) ∧ Below w.heap.size w w' := by
  have BB : Below w.heap.size w w := Below.refl _ _
  obtain ⟨Wb0, hW0, hS0, hL0, VR⟩ := V3.lay w 35 (.bool false) (.slice none 0 0) (.slice none 0 0)
  replace BB := BB.trans (hL0.mono BB.size)
  clear hL0
  go_enter Tryz.func20, Tryz.ntmps20
  go_wp2_with fail
  rw [← hW0]
  clear hW0 hS0
  refine (coal_no _ s n 2 _ (by omega) h).mono ?_
  rintro e wx ⟨rfl, hwx⟩
  replace hwx := hwx.symm
  subst hwx
  have hKp := VR.keepJ (.bool false) (.slice none 0 0) (.slice none 0 0)
  have BB := below_store3 (R := w.heap.size) BB (by omega) (.bool false) (.slice none 0 0) (.slice none 0 0)
  clear hKp
  obtain ⟨VR_0, VR_1, VR_2, VR_3, VR_4, VR_5⟩ := id VR
  go_wp2
  (try simp only [Exit.inBlock, Exit.then])
  refine bodyPost_ret (v := .tuple #[.agg #[.bool false, .slice none 0 0, .slice none 0 0], .int .i64 8]) (by simp [results, go_sem, VR_0, VR_1, VR_2]) rfl ?_
  exact ⟨rfl, BB⟩

set_option maxRecDepth 100000 in
set_option maxHeartbeats 2000000 in
theorem tpair_nil (s n : Int) (w : World) :
    Calls Tryz.prog 20 #[.pointer none, .int .i64 s, .int .i64 n] w fun e w' => e = .returned (.tuple #[.agg #[.bool false, .slice none 0 0, .slice none 0 0], .int .i64 18]) ∧ Below w.heap.size w w' := by
  have BB : Below w.heap.size w w := Below.refl _ _
  obtain ⟨Wb0, hW0, hS0, hL0, VR⟩ := V3.lay w 35 (.bool false) (.slice none 0 0) (.slice none 0 0)
  replace BB := BB.trans (hL0.mono BB.size)
  clear hL0
  go_enter Tryz.func20, Tryz.ntmps20
  go_wp2_with fail
  rw [← hW0]
  clear hW0 hS0
  refine (coal_nil s n 2 _).mono ?_
  rintro e wx ⟨rfl, hwx⟩
  replace hwx := hwx.symm
  subst hwx
  have hKp := VR.keepJ (.bool false) (.slice none 0 0) (.slice none 0 0)
  have BB := below_store3 (R := w.heap.size) BB (by omega) (.bool false) (.slice none 0 0) (.slice none 0 0)
  clear hKp
  obtain ⟨VR_0, VR_1, VR_2, VR_3, VR_4, VR_5⟩ := id VR
  go_wp2
  (try simp only [Exit.inBlock, Exit.then])
  refine bodyPost_ret (v := .tuple #[.agg #[.bool false, .slice none 0 0, .slice none 0 0], .int .i64 18]) (by simp [results, go_sem, VR_0, VR_1, VR_2]) rfl ?_
  exact ⟨rfl, BB⟩

set_option maxRecDepth 100000 in
set_option maxHeartbeats 2000000 in
theorem tneed_nil (s n : Int) (w : World) :
    Calls Tryz.prog 23 #[.pointer none, .int .i64 s, .int .i64 n] w fun e w' => e = .returned (.tuple #[.agg #[.bool false, .slice none 0 0, .slice none 0 0], .agg #[.bool false, .slice none 0 0, .slice none 0 0], .int .i64 18]) ∧ Below w.heap.size w w' := by
  have BB : Below w.heap.size w w := Below.refl _ _
  obtain ⟨Wb0, hW0, hS0, hL0, VR⟩ := V3.lay w 35 (.bool false) (.slice none 0 0) (.slice none 0 0)
  replace BB := BB.trans (hL0.mono BB.size)
  clear hL0
  obtain ⟨Wb1, hW1, hS1, hL1, VS⟩ := V3.lay Wb0 35 (.bool false) (.slice none 0 0) (.slice none 0 0)
  rw [hS0] at VS hS1
  replace VR := VR.below hL1
  replace BB := BB.trans (hL1.mono BB.size)
  clear hL1
  go_enter Tryz.func23, Tryz.ntmps23
  go_wp2_with fail
  rw [← hW0]
  rw [← hW1]
  clear hW0 hW1 hS0 hS1
  refine (within_nil 0 s 64 _).mono ?_
  rintro e wx ⟨rfl, hwx⟩
  replace hwx := hwx.symm
  subst hwx
  have hKp := VR.keepJ (.bool false) (.slice none 0 0) (.slice none 0 0)
  clear hKp
  have hKp := VS.keepJ (.bool false) (.slice none 0 0) (.slice none 0 0)
  clear hKp
  obtain ⟨VR_0, VR_1, VR_2, VR_3, VR_4, VR_5⟩ := id VR
  obtain ⟨VS_0, VS_1, VS_2, VS_3, VS_4, VS_5⟩ := id VS
  have VS_n := VS.other3 (R := w.heap.size) (by omega) (.bool false) (.slice none 0 0) (.slice none 0 0)
  have VR_n := VR.same (.bool false) (.slice none 0 0) (.slice none 0 0)
  have BB_1 := below_store3 (R := w.heap.size) BB (by omega) (.bool false) (.slice none 0 0) (.slice none 0 0)
  have VR_m := VR_n.other3 (R := w.heap.size + 1) (by omega) (.bool false) (.slice none 0 0) (.slice none 0 0)
  have VS_m := VS_n.same (.bool false) (.slice none 0 0) (.slice none 0 0)
  have BB_2 := below_store3 (R := w.heap.size + 1) BB_1 (by omega) (.bool false) (.slice none 0 0) (.slice none 0 0)
  go_wp2
  (try simp only [Exit.inBlock, Exit.then])
  refine bodyPost_ret (v := .tuple #[.agg #[.bool false, .slice none 0 0, .slice none 0 0], .agg #[.bool false, .slice none 0 0, .slice none 0 0], .int .i64 18]) (by simp [results, go_sem, VR_0, VR_1, VR_2, VS_0, VS_1, VS_2]) rfl ?_
  exact ⟨rfl, BB_2⟩

set_option maxRecDepth 100000 in
set_option maxHeartbeats 2000000 in
theorem tneed_u (b : Nat) (s n : Int) (w : World) (h : s < 0 ∨ 64 < s) :
    Calls Tryz.prog 23 #[.pointer (some ⟨b, 0, none⟩), .int .i64 s, .int .i64 n] w fun e w' => e = .returned (.tuple #[.agg #[.bool false, .slice none 0 0, .slice none 0 0], .agg #[.bool false, .slice none 0 0, .slice none 0 0], .int .i64 8]) ∧ Below w.heap.size w w' := by
  have BB : Below w.heap.size w w := Below.refl _ _
  obtain ⟨Wb0, hW0, hS0, hL0, VR⟩ := V3.lay w 35 (.bool false) (.slice none 0 0) (.slice none 0 0)
  replace BB := BB.trans (hL0.mono BB.size)
  clear hL0
  obtain ⟨Wb1, hW1, hS1, hL1, VS⟩ := V3.lay Wb0 35 (.bool false) (.slice none 0 0) (.slice none 0 0)
  rw [hS0] at VS hS1
  replace VR := VR.below hL1
  replace BB := BB.trans (hL1.mono BB.size)
  clear hL1
  go_enter Tryz.func23, Tryz.ntmps23
  go_wp2_with fail
  rw [← hW0]
  rw [← hW1]
  clear hW0 hW1 hS0 hS1
  refine (within_no _ 0 s 64 _ h).mono ?_
  rintro e wx ⟨rfl, hwx⟩
  replace hwx := hwx.symm
  subst hwx
  have hKp := VR.keepJ (.bool false) (.slice none 0 0) (.slice none 0 0)
  clear hKp
  have hKp := VS.keepJ (.bool false) (.slice none 0 0) (.slice none 0 0)
  clear hKp
  obtain ⟨VR_0, VR_1, VR_2, VR_3, VR_4, VR_5⟩ := id VR
  obtain ⟨VS_0, VS_1, VS_2, VS_3, VS_4, VS_5⟩ := id VS
  have VS_n := VS.other3 (R := w.heap.size) (by omega) (.bool false) (.slice none 0 0) (.slice none 0 0)
  have VR_n := VR.same (.bool false) (.slice none 0 0) (.slice none 0 0)
  have BB_1 := below_store3 (R := w.heap.size) BB (by omega) (.bool false) (.slice none 0 0) (.slice none 0 0)
  have VR_m := VR_n.other3 (R := w.heap.size + 1) (by omega) (.bool false) (.slice none 0 0) (.slice none 0 0)
  have VS_m := VS_n.same (.bool false) (.slice none 0 0) (.slice none 0 0)
  have BB_2 := below_store3 (R := w.heap.size + 1) BB_1 (by omega) (.bool false) (.slice none 0 0) (.slice none 0 0)
  go_wp2
  (try simp only [Exit.inBlock, Exit.then])
  refine bodyPost_ret (v := .tuple #[.agg #[.bool false, .slice none 0 0, .slice none 0 0], .agg #[.bool false, .slice none 0 0, .slice none 0 0], .int .i64 8]) (by simp [results, go_sem, VR_0, VR_1, VR_2, VS_0, VS_1, VS_2]) rfl ?_
  exact ⟨rfl, BB_2⟩

set_option maxRecDepth 100000 in
set_option maxHeartbeats 2000000 in
theorem tneed_v (b : Nat) (s n : Int) (w : World) (h1 : 0 ≤ s) (h2 : s ≤ 64) (h : n < 0 ∨ 64 - s < n) :
    Calls Tryz.prog 23 #[.pointer (some ⟨b, 0, none⟩), .int .i64 s, .int .i64 n] w fun e w' => e = .returned (.tuple #[.agg #[.bool false, .slice none 0 0, .slice none 0 0], .agg #[.bool false, .slice none 0 0, .slice none 0 0], .int .i64 8]) ∧ Below w.heap.size w w' := by
  have wj : IntKind.i64.wrap (64 - s) = 64 - s := by rw [IntKind.wrap_i64]; omega
  have BB : Below w.heap.size w w := Below.refl _ _
  obtain ⟨Wb0, hW0, hS0, hL0, VR⟩ := V3.lay w 35 (.bool false) (.slice none 0 0) (.slice none 0 0)
  replace BB := BB.trans (hL0.mono BB.size)
  clear hL0
  obtain ⟨Wb1, hW1, hS1, hL1, VS⟩ := V3.lay Wb0 35 (.bool false) (.slice none 0 0) (.slice none 0 0)
  rw [hS0] at VS hS1
  replace VR := VR.below hL1
  replace BB := BB.trans (hL1.mono BB.size)
  clear hL1
  go_enter Tryz.func23, Tryz.ntmps23
  go_wp2_with fail
  rw [← hW0]
  rw [← hW1]
  clear hW0 hW1 hS0 hS1
  refine (within_ok _ 0 s 64 _ h1 h2).mono ?_
  rintro e wx ⟨rfl, hwx⟩
  replace hwx := hwx.symm
  subst hwx
  go_wp2_with fail
  refine (within_no _ 0 n (64 - s) _ h).mono ?_
  rintro e wx ⟨rfl, hwx⟩
  replace hwx := hwx.symm
  subst hwx
  have hKp := VR.keepJ (.bool false) (.slice none 0 0) (.slice none 0 0)
  clear hKp
  have hKp := VS.keepJ (.bool false) (.slice none 0 0) (.slice none 0 0)
  clear hKp
  obtain ⟨VR_0, VR_1, VR_2, VR_3, VR_4, VR_5⟩ := id VR
  obtain ⟨VS_0, VS_1, VS_2, VS_3, VS_4, VS_5⟩ := id VS
  have VS_n := VS.other3 (R := w.heap.size) (by omega) (.bool false) (.slice none 0 0) (.slice none 0 0)
  have VR_n := VR.same (.bool false) (.slice none 0 0) (.slice none 0 0)
  have BB_1 := below_store3 (R := w.heap.size) BB (by omega) (.bool false) (.slice none 0 0) (.slice none 0 0)
  have VR_m := VR_n.other3 (R := w.heap.size + 1) (by omega) (.bool false) (.slice none 0 0) (.slice none 0 0)
  have VS_m := VS_n.same (.bool false) (.slice none 0 0) (.slice none 0 0)
  have BB_2 := below_store3 (R := w.heap.size + 1) BB_1 (by omega) (.bool false) (.slice none 0 0) (.slice none 0 0)
  go_wp2
  (try simp only [Exit.inBlock, Exit.then])
  refine bodyPost_ret (v := .tuple #[.agg #[.bool false, .slice none 0 0, .slice none 0 0], .agg #[.bool false, .slice none 0 0, .slice none 0 0], .int .i64 8]) (by simp [results, go_sem, VR_0, VR_1, VR_2, VS_0, VS_1, VS_2]) rfl ?_
  exact ⟨rfl, BB_2⟩

set_option maxRecDepth 100000 in
set_option maxHeartbeats 4000000 in
theorem tfact_at (b n : Nat) (d : Bool) (w : World) (hT : WT w b d) (hn : n ≤ 64) :
    Calls Tryz.prog 11 #[.pointer (some ⟨b, 0, none⟩), .int .i64 (n : Int)] w fun e w' => ∃ r, e = .returned (.tuple #[r, .int .i64 0]) ∧ RepI w' r ((fct n : Nat) : Int) ∧ TOut b d w w' := by
  have hlt := hT.lt
  have BB : Below w.heap.size w w := Below.refl _ _
  obtain ⟨Wb0, hW0, hS0, hL0, VR⟩ := V2.lay w 27 (.bool false) (.slice none 0 0)
  replace hT := hT.below hL0
  replace BB := BB.trans (hL0.mono BB.size)
  clear hL0
  go_enter Tryz.func11, Tryz.ntmps11
  go_wp2_with fail
  rw [← hW0]
  clear hW0 hS0
  have hRb : w.heap.size ≠ b := by omega
  refine (within_ok _ 0 (n : Int) 64 _ (by omega) (by omega)).mono ?_
  rintro e wx ⟨rfl, hwx⟩
  replace hwx := hwx.symm
  subst hwx
  go_wp2_with fail
  refine (fact_at b n d _ hT hn).mono ?_
  rintro e w1 ⟨r1, rfl, h1, ho⟩
  replace VR := VR.upd ho.upd hRb
  replace BB : TO b d w w1 := ⟨ho.of_below BB hlt, hlt⟩
  clear hT ho
  go_wp2_with fail
  refine (wclean_any _ _ 10 _ (h1.at 10 (fact_nl hn))).mono ?_
  rintro e w2 ⟨r2, rfl, h2, b2⟩
  replace h1 := h1.below b2
  replace VR := VR.below b2
  replace BB := BB.below b2
  clear b2
  obtain ⟨p2, a2, n2, c2, rfl⟩ := h2.open
  clear h1
  have hKp := VR.keepJ (.bool p2) (.slice a2 n2 c2)
  have h2_n := h2.keep hKp
  have BB_n := BB.put2 VR (by omega) (.bool p2) (.slice a2 n2 c2)
  clear hKp
  obtain ⟨q1, q2, q3, q4⟩ := id VR
  go_wp2
  (try simp only [Exit.inBlock, Exit.then])
  refine bodyPost_ret (v := .tuple #[.agg #[.bool p2, .slice a2 n2 c2], .int .i64 0]) (by simp [results, go_sem, q1, q2]) rfl ?_
  exact ⟨_, rfl, h2_n, BB_n.out⟩

set_option maxRecDepth 100000 in
set_option maxHeartbeats 4000000 in
theorem tweight_at (b s n : Nat) (d : Bool) (w : World) (hT : WT w b d) (hn : n ≤ 64) (hs : s < n) (ht : Tab w) :
    Calls Tryz.prog 17 #[.pointer (some ⟨b, 0, none⟩), .int .i64 (s : Int), .int .i64 (n : Int)] w fun e w' => ∃ r, e = .returned (.tuple #[r, .int .i64 0]) ∧ RepQ w' r (shQ s (n - s - 1) n) ∧ TOut b d w w' := by
  have hlt := hT.lt
  have e1 : (n : Int) - (s : Int) = ((n - s : Nat) : Int) := by omega
  have e2 : ((n - s : Nat) : Int) - 1 = ((n - s - 1 : Nat) : Int) := by omega
  have wi : IntKind.i64.wrap ((n : Int) - (s : Int)) = ((n - s : Nat) : Int) := by rw [IntKind.wrap_i64]; omega
  have wj : IntKind.i64.wrap (((n - s : Nat) : Int) - 1) = ((n - s - 1 : Nat) : Int) := by rw [IntKind.wrap_i64]; omega
  clear e1 e2
  have BB : Below w.heap.size w w := Below.refl _ _
  obtain ⟨Wb0, hW0, hS0, hL0, VR⟩ := V3.lay w 35 (.bool false) (.slice none 0 0) (.slice none 0 0)
  replace ht := ht.below hL0
  replace hT := hT.below hL0
  replace BB := BB.trans (hL0.mono BB.size)
  clear hL0
  go_enter Tryz.func17, Tryz.ntmps17
  go_wp2_with fail
  rw [← hW0]
  clear hW0 hS0
  have hRb : w.heap.size ≠ b := by omega
  refine (coal_ok _ (s : Int) (n : Int) 1 _ (by omega) (by omega) (by omega) (by omega) (by omega)).mono ?_
  rintro e wx ⟨rfl, hwx⟩
  replace hwx := hwx.symm
  subst hwx
  go_wp2_with fail
  refine (share_at b s (n - s - 1) n d _ hT (by omega) (by omega) ht).mono ?_
  rintro e w1 ⟨r1, rfl, h1, ho⟩
  replace ht := ht.keepL ho.keep
  replace VR := VR.upd ho.upd hRb
  replace BB : TO b d w w1 := ⟨ho.of_below BB hlt, hlt⟩
  clear hT ho
  obtain ⟨p1, a1, n1, c1, y1, m1, d1, rfl⟩ := h1.open
  have hKp := VR.keepJ (.bool p1) (.slice a1 n1 c1) (.slice y1 m1 d1)
  have ht_n := ht.keep hKp
  have h1_n := h1.keep hKp
  have BB_n := BB.put3 VR (by omega) (.bool p1) (.slice a1 n1 c1) (.slice y1 m1 d1)
  clear hKp
  obtain ⟨q1, q2, q3, q4, q5, q6⟩ := id VR
  go_wp2
  (try simp only [Exit.inBlock, Exit.then])
  refine bodyPost_ret (v := .tuple #[.agg #[.bool p1, .slice a1 n1 c1, .slice y1 m1 d1], .int .i64 0]) (by simp [results, go_sem, q1, q2, q3]) rfl ?_
  exact ⟨_, rfl, h1_n, BB_n.out⟩

theorem half_sz : qsz (((1 : Int) : Rat) / ((2 : Int) : Rat)) ≤ 10 := Nat.le_trans (qsz_div _ _ (qsz_int 1 (L := 1) nlw_one (by omega)) (qsz_int 2 (L := 2) ((nl_two _).2 (by decide)) (by omega))) (by omega)

set_option maxRecDepth 100000 in
set_option maxHeartbeats 4000000 in
theorem tpair_at (b s n : Nat) (d : Bool) (w : World) (hT : WT w b d) (hn : n ≤ 64) (hs : s + 2 ≤ n) (ht : Tab w) :
    Calls Tryz.prog 20 #[.pointer (some ⟨b, 0, none⟩), .int .i64 (s : Int), .int .i64 (n : Int)] w fun e w' => ∃ r, e = .returned (.tuple #[r, .int .i64 0]) ∧ RepQ w' r (((1 : Int) : Rat) / ((2 : Int) : Rat) * shQ s (n - s - 2) (n - 1)) ∧ TOut b d w w' := by
  have hlt := hT.lt
  have wi : IntKind.i64.wrap ((n : Int) - (s : Int)) = ((n - s : Nat) : Int) := by rw [IntKind.wrap_i64]; omega
  have wj : IntKind.i64.wrap (((n - s : Nat) : Int) - 2) = ((n - s - 2 : Nat) : Int) := by rw [IntKind.wrap_i64]; omega
  have wk : IntKind.i64.wrap ((n : Int) - 1) = ((n - 1 : Nat) : Int) := by rw [IntKind.wrap_i64]; omega
  have BB : Below w.heap.size w w := Below.refl _ _
  obtain ⟨Wb0, hW0, hS0, hL0, VR⟩ := V3.lay w 35 (.bool false) (.slice none 0 0) (.slice none 0 0)
  replace ht := ht.below hL0
  replace hT := hT.below hL0
  replace BB := BB.trans (hL0.mono BB.size)
  clear hL0
  go_enter Tryz.func20, Tryz.ntmps20
  go_wp2_with fail
  rw [← hW0]
  clear hW0 hS0
  have hRb : w.heap.size ≠ b := by omega
  refine (coal_ok _ (s : Int) (n : Int) 2 _ (by omega) (by omega) (by omega) (by omega) (by omega)).mono ?_
  rintro e wx ⟨rfl, hwx⟩
  replace hwx := hwx.symm
  subst hwx
  go_wp2_with fail
  refine (qfrac_at 1 2 _ (by omega) (by omega) (by omega) (by omega) ht).mono ?_
  rintro e w1 ⟨r0, rfl, h0, b1⟩
  replace ht := ht.below b1
  replace hT := hT.below b1
  replace VR := VR.below b1
  replace BB := BB.trans (b1.mono BB.size)
  clear b1
  go_wp2_with fail
  refine (share_at b s (n - s - 2) (n - 1) d _ hT (by omega) (by omega) ht).mono ?_
  rintro e w2 ⟨r1, rfl, h1, ho⟩
  replace ht := ht.keepL ho.keep
  replace h0 := h0.keepL ho.keep
  replace VR := VR.upd ho.upd hRb
  replace BB : TO b d w w2 := ⟨ho.of_below BB hlt, hlt⟩
  clear hT ho
  go_wp2_with fail
  refine (qmul_at _ _ _ _ 10 _ (h0.at 10 half_sz) (h1.at 10 (shQ_sz (by omega) (by omega))) (by omega) (by omega) ht).mono ?_
  rintro e w3 ⟨r3, rfl, h3, b3⟩
  replace ht := ht.below b3
  replace h0 := h0.below b3
  replace h1 := h1.below b3
  replace VR := VR.below b3
  replace BB := BB.below b3
  clear b3
  obtain ⟨p3, a3, n3, c3, y3, m3, d3, rfl⟩ := h3.open
  have hKp := VR.keepJ (.bool p3) (.slice a3 n3 c3) (.slice y3 m3 d3)
  have ht_n := ht.keep hKp
  have h0_n := h0.keep hKp
  have h1_n := h1.keep hKp
  have h3_n := h3.keep hKp
  have BB_n := BB.put3 VR (by omega) (.bool p3) (.slice a3 n3 c3) (.slice y3 m3 d3)
  clear hKp
  obtain ⟨q1, q2, q3, q4, q5, q6⟩ := id VR
  go_wp2
  (try simp only [Exit.inBlock, Exit.then])
  refine bodyPost_ret (v := .tuple #[.agg #[.bool p3, .slice a3 n3 c3, .slice y3 m3 d3], .int .i64 0]) (by simp [results, go_sem, q1, q2, q3]) rfl ?_
  exact ⟨_, rfl, h3_n, BB_n.out⟩

/-- A variable that holds a number in its form. -/
def SmQ14 (w : World) (R : Nat) (q : Rat) : Prop := ∃ p a n c b m d, V3 w R (.bool p) (.slice a n c) (.slice b m d) ∧ RepQ w (.agg #[.bool p, .slice a n c, .slice b m d]) q
theorem SmQ14.below {w w' : World} {R : Nat} {q : Rat} (h : SmQ14 w R q) (hb : Below w.heap.size w w') : SmQ14 w' R q := let ⟨p, a, n, c, b, m, d, h1, h2⟩ := h; ⟨p, a, n, c, b, m, d, h1.below hb, h2.below hb⟩
/-- Two results, the second OK. -/
def Tup14 (w : World) (v : Value) (q : Rat) : Prop := ∃ x, v = .tuple #[x, .int .i64 0] ∧ RepQ w x q
theorem Tup14.below {w w' : World} {v : Value} {q : Rat} (h : Tup14 w v q) (hb : Below w.heap.size w w') : Tup14 w' v q := let ⟨x, h1, h2⟩ := h; ⟨x, h1, h2.below hb⟩
theorem Tup14.keep {w w' : World} {v : Value} {q : Rat} (h : Tup14 w v q) (hk : KeepQ IsNum w w') : Tup14 w' v q := let ⟨x, h1, h2⟩ := h; ⟨x, h1, h2.keep hk⟩
theorem fctR_sz {n : Nat} (hn : n ≤ 64) : qsz ((fct n : Nat) : Rat) ≤ 10 := by
  rw [← Rat.intCast_natCast]
  exact qsz_int _ (fact_nl hn) (by omega)
/-- A table as New lays it. -/
def tz14 : List Value := [.int .u32 0, .int .i32 0, .int .u32 0] ++ (List.replicate 65 [Value.bool false, Value.slice none 0 0]).flatten
theorem rep_pair (x y : Value) : ∀ n i, i < n → (List.replicate n [x, y]).flatten[i * 2]? = some x ∧ (List.replicate n [x, y]).flatten[i * 2 + 1]? = some y
  | 0, i, h => absurd h (by omega)
  | n + 1, 0, _ => by simp [List.replicate_succ]
  | n + 1, i + 1, h => by
    have := rep_pair x y n i (by omega)
    rw [List.replicate_succ, List.flatten_cons, show (i + 1) * 2 = i * 2 + 1 + 1 by omega]
    exact this
theorem tz_at {i : Nat} (hi : i < 65) : tz14[3 + i * 2]? = some (.bool false) ∧ tz14[3 + i * 2 + 1]? = some (.slice none 0 0) := by
  have h := rep_pair (.bool false) (.slice none 0 0) 65 i hi
  unfold tz14
  refine ⟨?_, ?_⟩
  · rw [List.getElem?_append_right (by simp), show 3 + i * 2 - ([Value.int .u32 0, Value.int .i32 0, Value.int .u32 0] : List Value).length = i * 2 by first | (simp; omega) | simp]; exact h.1
  · rw [List.getElem?_append_right (by first | (simp; omega) | simp), show 3 + i * 2 + 1 - ([Value.int .u32 0, Value.int .i32 0, Value.int .u32 0] : List Value).length = i * 2 + 1 by first | (simp; omega) | simp]; exact h.2
theorem wnew_of (w : World) (t : TypeId) : WNew (w.alloc (.cells tz14.toArray t)) w.heap.size := by
  have hb := heap_alloc_new w (.cells tz14.toArray t)
  have hz : ∀ o, (w.alloc (.cells tz14.toArray t)).frozen? ⟨w.heap.size, o, none⟩ = false := fun o => by simp only [World.frozen?]; rw [hb]; simp
  have hc : ∀ o, (w.alloc (.cells tz14.toArray t)).cell? ⟨w.heap.size, o, none⟩ = tz14[o]? := fun o => by rw [cell_of_row _ _ _ _ _ _ hb]; simp
  refine ⟨by rw [hc]; rfl, by rw [hc]; rfl, hz _, hz _, fun i hi => ⟨false, none, 0, 0, by rw [hc]; exact (tz_at hi).1, by rw [hc]; exact (tz_at hi).2, hz _, hz _, fun h => absurd h (by omega)⟩⟩
theorem new_at (w : World) : Calls Tryz.prog 10 #[] w fun e w' => e = .returned (.pointer (some ⟨w.heap.size, 0, none⟩)) ∧ w'.heap.size = w.heap.size + 1 ∧ WNew w' w.heap.size ∧ Below w.heap.size w w' := by
  have hE : ∀ t : TypeId, w.alloc (.cells tz14.toArray t) = w.alloc (.cells tz14.toArray t) := fun _ => rfl
  go_enter Tryz.func10, Tryz.ntmps10
  go_wp2
  go_ret
  exact ⟨rfl, by simp, wnew_of w 66, (Below.refl _ _).alloc (Nat.le_refl _) _⟩

set_option maxRecDepth 100000 in
set_option maxHeartbeats 4000000 in
theorem lfact_at (n : Nat) (w : World) (hn : n ≤ 64) (ht : Tab w) :
    Calls Tryz.prog 16 #[.int .i64 (n : Int)] w fun e w' => ∃ r, e = .returned r ∧ RepQ w' r ((fct n : Nat) : Rat) ∧ Below w.heap.size w w' := by
  have BB : Below w.heap.size w w := Below.refl _ _
  obtain ⟨Wb0, hW0, hS0, hL0, VR⟩ := V3.lay w 35 (.bool false) (.slice none 0 0) (.slice none 0 0)
  replace ht := ht.below hL0
  replace BB := BB.trans (hL0.mono BB.size)
  clear hL0
  go_enter Tryz.func16, Tryz.ntmps16
  go_wp2_with fail
  rw [← hW0]
  clear hW0 hS0
  refine (qone_at _).mono ?_
  rintro e w1 ⟨r0, rfl, h0, b1⟩
  replace ht := ht.below b1
  replace VR := VR.below b1
  replace BB := BB.trans (b1.mono BB.size)
  clear b1
  obtain ⟨p0, a0, n0, c0, y0, m0, d0, rfl⟩ := h0.open
  have hZ1 : w.heap.size ≤ w1.heap.size := BB.size
  have hN1VR : w.heap.size ≠ w1.heap.size := Nat.ne_of_lt VR.lt
  obtain ⟨W1, hW1, hS1, hL1, VO⟩ := V3.lay w1 35 (.bool p0) (.slice a0 n0 c0) (.slice y0 m0 d0)
  replace ht := ht.below hL1
  replace h0 := h0.below hL1
  replace VR := VR.below hL1
  replace BB := BB.trans (hL1.mono BB.size)
  clear hL1
  go_wp2
  rw [← hW1]
  generalize w1.heap.size = R1 at *
  clear hW1 hS1
  have SQ : SmQ14 W1 R1 ((fct 0 : Nat) : Rat) := ⟨_, _, _, _, _, _, _, VO, h0⟩
  clear VO h0
  go_loopw [4] (fun vi wr => ∃ i : Nat, 1 ≤ i ∧ i ≤ n + 1 ∧ vi = .int .i64 (i : Int) ∧ SmQ14 wr R1 ((fct (i - 1) : Nat) : Rat) ∧ V3 wr w.heap.size (.bool false) (.slice none 0 0) (.slice none 0 0) ∧ Tab wr ∧ Below w.heap.size w wr) (fun vi _ => n + 1 - (intOf vi).toNat)
  case atStart => exact ⟨1, by omega, by omega, rfl, SQ, VR, ht, BB⟩
  case round =>
    clear SQ VR ht BB
    obtain ⟨i, hi1, hi, rfl, ⟨p, a, k, c, y, m, d, VO, hq⟩, VR, ht, BB⟩ := hrel
    by_cases hlt : i ≤ n
    · have c1 : (i : Int) ≤ (n : Int) := by omega
      have wi : IntKind.i64.wrap ((i : Int) + 1) = (i : Int) + 1 := by rw [IntKind.wrap_i64]; omega
      have HF : Hid (((fct (i - 1) : Nat) : Rat) * ((i : Int) : Rat) = ((fct i : Nat) : Rat)) := by
        obtain ⟨j, rfl⟩ : ∃ j, i = j + 1 := ⟨i - 1, by omega⟩
        show _ = _
        rw [show j + 1 - 1 = j by omega, fctR_succ, Rat.intCast_natCast]
      have HS : qsz ((fct (i - 1) : Nat) : Rat) ≤ 10 := fctR_sz (by omega)
      have HI : qsz ((i : Int) : Rat) ≤ 10 := qsz_int _ (Nat.le_trans ((nl_two _).2 (by omega)) (by omega : 2 ≤ 10)) (by omega)
      have hRR : w.heap.size ≠ R1 := by omega
      go_wp2_with fail
      have hDr : Below wr.heap.size wr wr.drew := (Below.refl _ _).drew
      replace hq := hq.below hDr
      replace ht := ht.below hDr
      replace VO := VO.below hDr
      replace VR := VR.below hDr
      replace BB := BB.trans (hDr.mono BB.size)
      clear hDr
      refine wp_region_held_drew (S := (fun w' => True)) (by kernel_rfl) ?_ (fun hHeld => ?_)
      · trivial
      generalize wr.drew = W21 at *
      refine wpAnyH_take (i := 1) (v := ?_) (by simp only [List.getElem?_toArray, List.getElem?_cons_succ, List.getElem?_cons_zero]; rfl) (by kernel_rfl) (by kernel_rfl) (by kernel_rfl) (by exact fun _ _ _ h => h) (Or.inl ⟨by rfl, ?_⟩) (by assumption) ?_
      rotate_left
      · (intro w hSw; (try dsimp only at hSw); go_simp; (try with_reducible rfl))
      (try simp only [Act.put, List.setIfInBounds_toArray, List.set_cons_zero, List.set_cons_succ])
      refine wpAnyH_ready (rs := [0, 2]) (by kernel_rfl) (by simp) ?_
      refine AllReadyH.cons (by simp only [List.getElem?_toArray, List.getElem?_cons_succ, List.getElem?_cons_zero]; rfl) (fun K hK => ?_) ?_
      ·
        obtain ⟨VO_0, VO_1, VO_2, VO_3, VO_4, VO_5⟩ := id VO
        go_simp
        clear VO_0 VO_1 VO_2 VO_3 VO_4 VO_5
        refine hK.out _ _ ?_ (fun hH1 => ?_)
        · trivial
        clear hK K hHeld
        (try simp only [Act.put, List.setIfInBounds_toArray, List.set_cons_zero, List.set_cons_succ])
        refine wpAnyH_ready (rs := [2]) (by kernel_rfl) (by simp) ?_
        refine AllReadyH.cons (by simp only [List.getElem?_toArray, List.getElem?_cons_succ, List.getElem?_cons_zero]; rfl) (fun K hK => ?_) AllReadyH.nil
        go_simp
        refine (qof_at (i : Int) _ (by omega) (by omega)).mono ?_
        rintro e w6 ⟨r8, rfl, h8, b6⟩
        go_wp2_with fail
        replace hq := hq.below b6
        replace ht := ht.below b6
        replace VO := VO.below b6
        replace VR := VR.below b6
        replace BB := BB.trans (b6.mono BB.size)
        clear b6
        refine hK.out _ _ ?_ (fun hH2 => ?_)
        · trivial
        clear hK K hH1
        (try simp only [Act.put, List.setIfInBounds_toArray, List.set_cons_zero, List.set_cons_succ])
        refine wpAnyH_ready (rs := [3]) (by kernel_rfl) (by simp) ?_
        refine AllReadyH.cons (by simp only [List.getElem?_toArray, List.getElem?_cons_succ, List.getElem?_cons_zero]; rfl) (fun K hK => ?_) AllReadyH.nil
        go_simp
        refine (qmul_at _ _ _ _ 10 _ (hq.at 10 HS) (h8.at 10 HI) (by omega) (by omega) ht).mono ?_
        rintro e w7 ⟨r9, rfl, h9, b7⟩
        rw [HF.out] at h9
        obtain ⟨p9, a9, n9, c9, y9, m9, d9, rfl⟩ := h9.open
        go_wp2_with fail
        replace hq := hq.below b7
        replace ht := ht.below b7
        replace h8 := h8.below b7
        replace VO := VO.below b7
        replace VR := VR.below b7
        replace BB := BB.trans (b7.mono BB.size)
        clear b7
        refine hK.out _ _ ?_ (fun hH3 => ?_)
        · trivial
        clear hK K hH2
        (try simp only [Act.put, List.setIfInBounds_toArray, List.set_cons_zero, List.set_cons_succ])
        refine wpAnyH_ready (rs := [4]) (by kernel_rfl) (by simp) ?_
        refine AllReadyH.cons (by simp only [List.getElem?_toArray, List.getElem?_cons_succ, List.getElem?_cons_zero]; rfl) (fun K hK => ?_) AllReadyH.nil
        have hKp := VO.keepJ (.bool p9) (.slice a9 n9 c9) (.slice y9 m9 d9)
        have VR_n := VR.other3 (R := R1) (by omega) (.bool p9) (.slice a9 n9 c9) (.slice y9 m9 d9)
        have VO_n := VO.same (.bool p9) (.slice a9 n9 c9) (.slice y9 m9 d9)
        have hq_n := hq.keep hKp
        have ht_n := ht.keep hKp
        have h8_n := h8.keep hKp
        have h9_n := h9.keep hKp
        have BB_n := below_store3 (R := R1) BB (by omega) (.bool p9) (.slice a9 n9 c9) (.slice y9 m9 d9)
        clear hKp
        obtain ⟨VO_0, VO_1, VO_2, VO_3, VO_4, VO_5⟩ := id VO
        go_simp
        clear VO_0 VO_1 VO_2 VO_3 VO_4 VO_5
        clear BB hq ht h8 h9 VO VR
        generalize ((w7.setCell ⟨R1, 0, none⟩ (.bool p9)).setCell ⟨R1, 1, none⟩ (.slice a9 n9 c9)).setCell ⟨R1, 2, none⟩ (.slice y9 m9 d9) = W22 at *
        have BB := BB_n
        have hq := hq_n
        have ht := ht_n
        have h8 := h8_n
        have h9 := h9_n
        have VO := VO_n
        have VR := VR_n
        clear BB_n hq_n ht_n h8_n h9_n VO_n VR_n
        refine hK.out _ _ ?_ (fun hH4 => ?_)
        · trivial
        clear hK K hH3
        (try simp only [Act.put, List.setIfInBounds_toArray, List.set_cons_zero, List.set_cons_succ])
        refine wpAnyH_done (by kernel_rfl) ?_ _
        clear hH4
        go_wp2
        go_roundw
        case rel => exact ⟨i + 1, by omega, by omega, by go_num, ⟨_, _, _, _, _, _, _, VO, h9⟩, VR, ht, BB⟩
        case measure => simp [intOf]; omega
      refine AllReadyH.cons (by simp only [List.getElem?_toArray, List.getElem?_cons_succ, List.getElem?_cons_zero]; rfl) (fun K hK => ?_) ?_
      ·
        go_simp
        refine (qof_at (i : Int) _ (by omega) (by omega)).mono ?_
        rintro e w8 ⟨r8, rfl, h8, b8⟩
        go_wp2_with fail
        replace hq := hq.below b8
        replace ht := ht.below b8
        replace VO := VO.below b8
        replace VR := VR.below b8
        replace BB := BB.trans (b8.mono BB.size)
        clear b8
        refine hK.out _ _ ?_ (fun hH1 => ?_)
        · trivial
        clear hK K hHeld
        (try simp only [Act.put, List.setIfInBounds_toArray, List.set_cons_zero, List.set_cons_succ])
        refine wpAnyH_ready (rs := [0]) (by kernel_rfl) (by simp) ?_
        refine AllReadyH.cons (by simp only [List.getElem?_toArray, List.getElem?_cons_succ, List.getElem?_cons_zero]; rfl) (fun K hK => ?_) AllReadyH.nil
        obtain ⟨VO_0, VO_1, VO_2, VO_3, VO_4, VO_5⟩ := id VO
        go_simp
        clear VO_0 VO_1 VO_2 VO_3 VO_4 VO_5
        refine hK.out _ _ ?_ (fun hH2 => ?_)
        · trivial
        clear hK K hH1
        (try simp only [Act.put, List.setIfInBounds_toArray, List.set_cons_zero, List.set_cons_succ])
        refine wpAnyH_ready (rs := [3]) (by kernel_rfl) (by simp) ?_
        refine AllReadyH.cons (by simp only [List.getElem?_toArray, List.getElem?_cons_succ, List.getElem?_cons_zero]; rfl) (fun K hK => ?_) AllReadyH.nil
        go_simp
        refine (qmul_at _ _ _ _ 10 _ (hq.at 10 HS) (h8.at 10 HI) (by omega) (by omega) ht).mono ?_
        rintro e w9 ⟨r9, rfl, h9, b9⟩
        rw [HF.out] at h9
        obtain ⟨p9, a9, n9, c9, y9, m9, d9, rfl⟩ := h9.open
        go_wp2_with fail
        replace hq := hq.below b9
        replace ht := ht.below b9
        replace h8 := h8.below b9
        replace VO := VO.below b9
        replace VR := VR.below b9
        replace BB := BB.trans (b9.mono BB.size)
        clear b9
        refine hK.out _ _ ?_ (fun hH3 => ?_)
        · trivial
        clear hK K hH2
        (try simp only [Act.put, List.setIfInBounds_toArray, List.set_cons_zero, List.set_cons_succ])
        refine wpAnyH_ready (rs := [4]) (by kernel_rfl) (by simp) ?_
        refine AllReadyH.cons (by simp only [List.getElem?_toArray, List.getElem?_cons_succ, List.getElem?_cons_zero]; rfl) (fun K hK => ?_) AllReadyH.nil
        have hKp := VO.keepJ (.bool p9) (.slice a9 n9 c9) (.slice y9 m9 d9)
        have VR_n := VR.other3 (R := R1) (by omega) (.bool p9) (.slice a9 n9 c9) (.slice y9 m9 d9)
        have VO_n := VO.same (.bool p9) (.slice a9 n9 c9) (.slice y9 m9 d9)
        have hq_n := hq.keep hKp
        have ht_n := ht.keep hKp
        have h8_n := h8.keep hKp
        have h9_n := h9.keep hKp
        have BB_n := below_store3 (R := R1) BB (by omega) (.bool p9) (.slice a9 n9 c9) (.slice y9 m9 d9)
        clear hKp
        obtain ⟨VO_0, VO_1, VO_2, VO_3, VO_4, VO_5⟩ := id VO
        go_simp
        clear VO_0 VO_1 VO_2 VO_3 VO_4 VO_5
        clear BB hq ht h8 h9 VO VR
        generalize ((w9.setCell ⟨R1, 0, none⟩ (.bool p9)).setCell ⟨R1, 1, none⟩ (.slice a9 n9 c9)).setCell ⟨R1, 2, none⟩ (.slice y9 m9 d9) = W23 at *
        have BB := BB_n
        have hq := hq_n
        have ht := ht_n
        have h8 := h8_n
        have h9 := h9_n
        have VO := VO_n
        have VR := VR_n
        clear BB_n hq_n ht_n h8_n h9_n VO_n VR_n
        refine hK.out _ _ ?_ (fun hH4 => ?_)
        · trivial
        clear hK K hH3
        (try simp only [Act.put, List.setIfInBounds_toArray, List.set_cons_zero, List.set_cons_succ])
        refine wpAnyH_done (by kernel_rfl) ?_ _
        clear hH4
        go_wp2
        go_roundw
        case rel => exact ⟨i + 1, by omega, by omega, by go_num, ⟨_, _, _, _, _, _, _, VO, h9⟩, VR, ht, BB⟩
        case measure => simp [intOf]; omega
      exact AllReadyH.nil
    · obtain rfl : i = n + 1 := by omega
      have c1 : ¬ ((n + 1 : Nat) : Int) ≤ (n : Int) := by omega
      have c2 : decide (((n + 1 : Nat) : Int) ≤ (n : Int)) = false := decide_eq_false c1
      rw [show n + 1 - 1 = n by omega] at hq
      generalize hj : (n + 1 : Nat) = j at *
      clear hj
      have hKp := VR.keepJ (.bool p) (.slice a k c) (.slice y m d)
      have hq_n := hq.keep hKp
      have BB_n := below_store3 (R := w.heap.size) BB (by omega) (.bool p) (.slice a k c) (.slice y m d)
      clear hKp
      obtain ⟨VO_0, VO_1, VO_2, VO_3, VO_4, VO_5⟩ := id VO
      obtain ⟨q1, q2, q3, q4, q5, q6⟩ := id VR
      go_wp2
      (try simp only [Exit.inBlock, Exit.then])
      refine bodyPost_ret (v := .agg #[.bool p, .slice a k c, .slice y m d]) (by simp [results, go_sem, q1, q2, q3]) rfl ?_
      exact ⟨_, rfl, hq_n, BB_n⟩

set_option maxRecDepth 100000 in
set_option maxHeartbeats 4000000 in
theorem lquot_at (u v t : Value) (qa qb qc : Rat) (w : World) (ha : RepQ w u qa) (hb : RepQ w v qb) (hc : RepQ w t qc) (sa : qsz qa ≤ 40) (sb : qsz qb ≤ 40) (sc : qsz qc ≤ 40) (h0 : qc ≠ 0) (ht : Tab w) :
    Calls Tryz.prog 19 #[u, v, t] w fun e w' => ∃ r, e = .returned r ∧ RepQ w' r (qa * qb / qc) ∧ Below w.heap.size w w' := by
  obtain ⟨p1, a1, n1, c1, y1, m1, d1, rfl⟩ := ha.open
  obtain ⟨p2, a2, n2, c2, y2, m2, d2, rfl⟩ := hb.open
  obtain ⟨p3, a3, n3, c3, y3, m3, d3, rfl⟩ := hc.open
  have HC0 : Hid (qc ≠ 0) := h0
  have hab := qsz_mul qa qb sa sb
  clear h0
  have BB : Below w.heap.size w w := Below.refl _ _
  obtain ⟨Wb0, hW0, hS0, hL0, VA⟩ := V3.lay w 35 (.bool p1) (.slice a1 n1 c1) (.slice y1 m1 d1)
  replace ha := ha.below hL0
  replace hb := hb.below hL0
  replace hc := hc.below hL0
  replace ht := ht.below hL0
  replace BB := BB.trans (hL0.mono BB.size)
  clear hL0
  obtain ⟨Wb1, hW1, hS1, hL1, VB⟩ := V3.lay Wb0 35 (.bool p2) (.slice a2 n2 c2) (.slice y2 m2 d2)
  rw [hS0] at VB hS1
  replace ha := ha.below hL1
  replace hb := hb.below hL1
  replace hc := hc.below hL1
  replace ht := ht.below hL1
  replace VA := VA.below hL1
  replace BB := BB.trans (hL1.mono BB.size)
  clear hL1
  obtain ⟨Wb2, hW2, hS2, hL2, VC⟩ := V3.lay Wb1 35 (.bool p3) (.slice a3 n3 c3) (.slice y3 m3 d3)
  rw [hS1] at VC hS2
  replace ha := ha.below hL2
  replace hb := hb.below hL2
  replace hc := hc.below hL2
  replace ht := ht.below hL2
  replace VA := VA.below hL2
  replace VB := VB.below hL2
  replace BB := BB.trans (hL2.mono BB.size)
  clear hL2
  obtain ⟨Wb3, hW3, hS3, hL3, VR⟩ := V3.lay Wb2 35 (.bool false) (.slice none 0 0) (.slice none 0 0)
  rw [hS2] at VR hS3
  replace ha := ha.below hL3
  replace hb := hb.below hL3
  replace hc := hc.below hL3
  replace ht := ht.below hL3
  replace VA := VA.below hL3
  replace VB := VB.below hL3
  replace VC := VC.below hL3
  replace BB := BB.trans (hL3.mono BB.size)
  clear hL3
  go_enter Tryz.func19, Tryz.ntmps19
  go_wp2
  rw [← hW0]
  rw [← hW1]
  rw [← hW2]
  rw [← hW3]
  clear hW0 hW1 hW2 hW3 hS0 hS1 hS2 hS3
  refine wp_region_float 9 7 #[true, true, true, true, true, true, true, true, true, false, false] #[true, true, true, true, true, true, true, false, true, false, false] (fun aF lsd a' w' => ∃ vu0 vu1 vu2 vu3 vu4 vu5 vu6 vu7 vu8 : Value, a' = ((((((((aF.put (some 10) vu0).put (some 11) vu1).put (some 12) vu2).put (some 13) vu3).put (some 14) vu4).put (some 9) vu5).put (some 15) vu6).put (some 16) vu7).put (some 7) vu8 ∧ Below Wb3.heap.size Wb3 w' ∧ (lsd.getD 0 false = true → vu0 = .agg #[.bool p1, .slice a1 n1 c1, .slice y1 m1 d1]) ∧ (lsd.getD 1 false = true → vu1 = .agg #[.bool p2, .slice a2 n2 c2, .slice y2 m2 d2]) ∧ (lsd.getD 2 false = true → RepQ w' vu2 (qa * qb)) ∧ (lsd.getD 3 false = true → vu3 = .agg #[.bool p3, .slice a3 n3 c3, .slice y3 m3 d3]) ∧ (lsd.getD 4 false = true → Tup14 w' vu4 (qa * qb / qc)) ∧ (lsd.getD 5 false = true → Tup14 w' vu5 (qa * qb / qc)) ∧ (lsd.getD 6 false = true → RepQ w' vu6 (qa * qb / qc)) ∧ (lsd.getD 7 false = true → vu7 = .int .i64 0) ∧ (lsd.getD 8 false = true → New3 Wb3.heap.size w' vu8 (.bool false) (.slice none 0 0) (.slice none 0 0))) (by kernel_rfl) (by decide) (by kernel_rfl) (by rfl) (by kernel_rfl) (by rfl) (by kernel_rfl) (by decide) ?_ ?_ ?_ ?_
  · exact ⟨_, _, _, _, _, _, _, _, _, by simp only [Act.put, List.setIfInBounds_toArray, List.set_cons_zero, List.set_cons_succ]; rfl, (Below.refl _ _).drew, fun h => absurd h (fun h => mark_none h), fun h => absurd h (fun h => mark_none h), fun h => absurd h (fun h => mark_none h), fun h => absurd h (fun h => mark_none h), fun h => absurd h (fun h => mark_none h), fun h => absurd h (fun h => mark_none h), fun h => absurd h (fun h => mark_none h), fun h => absurd h (fun h => mark_none h), fun h => absurd h (fun h => mark_none h)⟩
  · rintro lsd au wn iu hszu ⟨vu0, vu1, vu2, vu3, vu4, vu5, vu6, vu7, vu8, rfl, hbu, fu0, fu1, fu2, fu3, fu4, fu5, fu6, fu7, fu8⟩ himu hru
    rcases (show iu = 0 ∨ iu = 1 ∨ iu = 2 ∨ iu = 3 ∨ iu = 4 ∨ iu = 5 ∨ iu = 6 ∨ iu = 7 ∨ iu = 8 by omega) with rfl | rfl | rfl | rfl | rfl | rfl | rfl | rfl | rfl
    · refine wpOp_shut (by rfl) (fun K hK => ?_)
      simp only [Act.put, List.setIfInBounds_toArray, List.set_cons_zero, List.set_cons_succ]
      obtain ⟨VA_0, VA_1, VA_2, VA_3, VA_4, VA_5⟩ := VA.below hbu
      go_simp
      exact hK.out _ _ ⟨(.agg #[.bool p1, .slice a1 n1 c1, .slice y1 m1 d1]), vu1, vu2, vu3, vu4, vu5, vu6, vu7, vu8, by simp only [Act.put, List.setIfInBounds_toArray, List.set_cons_zero, List.set_cons_succ], hbu, fun _ => rfl, fun h => fu1 (mark_of (by decide) h), fun h => fu2 (mark_of (by decide) h), fun h => fu3 (mark_of (by decide) h), fun h => fu4 (mark_of (by decide) h), fun h => fu5 (mark_of (by decide) h), fun h => fu6 (mark_of (by decide) h), fun h => fu7 (mark_of (by decide) h), fun h => fu8 (mark_of (by decide) h)⟩
    · refine wpOp_shut (by rfl) (fun K hK => ?_)
      simp only [Act.put, List.setIfInBounds_toArray, List.set_cons_zero, List.set_cons_succ]
      obtain ⟨VB_0, VB_1, VB_2, VB_3, VB_4, VB_5⟩ := VB.below hbu
      go_simp
      exact hK.out _ _ ⟨vu0, (.agg #[.bool p2, .slice a2 n2 c2, .slice y2 m2 d2]), vu2, vu3, vu4, vu5, vu6, vu7, vu8, by simp only [Act.put, List.setIfInBounds_toArray, List.set_cons_zero, List.set_cons_succ], hbu, fun h => fu0 (mark_of (by decide) h), fun _ => rfl, fun h => fu2 (mark_of (by decide) h), fun h => fu3 (mark_of (by decide) h), fun h => fu4 (mark_of (by decide) h), fun h => fu5 (mark_of (by decide) h), fun h => fu6 (mark_of (by decide) h), fun h => fu7 (mark_of (by decide) h), fun h => fu8 (mark_of (by decide) h)⟩
    · have eu0 := fu0 (dep_of 0 hru rfl (by kernel_rfl))
      have eu1 := fu1 (dep_of 1 hru rfl (by kernel_rfl))
      replace eu0 := eu0.symm
      subst eu0
      replace eu1 := eu1.symm
      subst eu1
      refine wpOp_shut (by rfl) (fun K hK => ?_)
      simp only [Act.put, List.setIfInBounds_toArray, List.set_cons_zero, List.set_cons_succ]
      have ha := ha.below hbu
      have hb := hb.below hbu
      have ht := ht.below hbu
      go_simp
      refine (qmul_at _ _ qa qb 40 _ (ha.at _ sa) (hb.at _ sb) (by omega) (by omega) ht).mono ?_
      rintro eu wx ⟨x2, rfl, h2, bu⟩
      go_wp2_with fail
      have hbu2 := hbu.trans (bu.mono hbu.size)
      exact hK.out _ _ ⟨(.agg #[.bool p1, .slice a1 n1 c1, .slice y1 m1 d1]), (.agg #[.bool p2, .slice a2 n2 c2, .slice y2 m2 d2]), _, vu3, vu4, vu5, vu6, vu7, vu8, by simp only [Act.put, List.setIfInBounds_toArray, List.set_cons_zero, List.set_cons_succ], hbu2, fun _ => rfl, fun _ => rfl, fun _ => h2, fun h => fu3 (mark_of (by decide) h), fun h => (fu4 (mark_of (by decide) h)).below bu, fun h => (fu5 (mark_of (by decide) h)).below bu, fun h => (fu6 (mark_of (by decide) h)).below bu, fun h => fu7 (mark_of (by decide) h), fun h => (fu8 (mark_of (by decide) h)).below bu⟩
    · refine wpOp_shut (by rfl) (fun K hK => ?_)
      simp only [Act.put, List.setIfInBounds_toArray, List.set_cons_zero, List.set_cons_succ]
      obtain ⟨VC_0, VC_1, VC_2, VC_3, VC_4, VC_5⟩ := VC.below hbu
      go_simp
      exact hK.out _ _ ⟨vu0, vu1, vu2, (.agg #[.bool p3, .slice a3 n3 c3, .slice y3 m3 d3]), vu4, vu5, vu6, vu7, vu8, by simp only [Act.put, List.setIfInBounds_toArray, List.set_cons_zero, List.set_cons_succ], hbu, fun h => fu0 (mark_of (by decide) h), fun h => fu1 (mark_of (by decide) h), fun h => fu2 (mark_of (by decide) h), fun _ => rfl, fun h => fu4 (mark_of (by decide) h), fun h => fu5 (mark_of (by decide) h), fun h => fu6 (mark_of (by decide) h), fun h => fu7 (mark_of (by decide) h), fun h => fu8 (mark_of (by decide) h)⟩
    · have eu3 := fu3 (dep_of 3 hru rfl (by kernel_rfl))
      replace eu3 := eu3.symm
      subst eu3
      have h2 := fu2 (dep_of 2 hru rfl (by kernel_rfl))
      refine wpOp_shut (by rfl) (fun K hK => ?_)
      simp only [Act.put, List.setIfInBounds_toArray, List.set_cons_zero, List.set_cons_succ]
      have hc := hc.below hbu
      have ht := ht.below hbu
      go_simp
      refine (qdiv_at _ _ (qa * qb) qc 80 _ (h2.at _ hab) (hc.at _ (by omega)) (by omega) (by omega) ht HC0.out).mono ?_
      rintro eu wx ⟨x4, rfl, hx4, bu⟩
      have T4 : Tup14 wx _ _ := ⟨x4, rfl, hx4⟩
      go_wp2_with fail
      have hbu2 := hbu.trans (bu.mono hbu.size)
      exact hK.out _ _ ⟨vu0, vu1, vu2, (.agg #[.bool p3, .slice a3 n3 c3, .slice y3 m3 d3]), _, vu5, vu6, vu7, vu8, by simp only [Act.put, List.setIfInBounds_toArray, List.set_cons_zero, List.set_cons_succ], hbu2, fun h => fu0 (mark_of (by decide) h), fun h => fu1 (mark_of (by decide) h), fun h => (fu2 (mark_of (by decide) h)).below bu, fun _ => rfl, fun _ => T4, fun h => (fu5 (mark_of (by decide) h)).below bu, fun h => (fu6 (mark_of (by decide) h)).below bu, fun h => fu7 (mark_of (by decide) h), fun h => (fu8 (mark_of (by decide) h)).below bu⟩
    · have T4 := fu4 (dep_of 4 hru rfl (by kernel_rfl))
      obtain ⟨xT, rfl, hxT⟩ := T4
      refine wpOp_shut (by rfl) (fun K hK => ?_)
      simp only [Act.put, List.setIfInBounds_toArray, List.set_cons_zero, List.set_cons_succ]
      go_simp
      exact hK.out _ _ ⟨vu0, vu1, vu2, vu3, (.tuple #[xT, .int .i64 0]), (.tuple #[xT, .int .i64 0]), vu6, vu7, vu8, by simp only [Act.put, List.setIfInBounds_toArray, List.set_cons_zero, List.set_cons_succ], hbu, fun h => fu0 (mark_of (by decide) h), fun h => fu1 (mark_of (by decide) h), fun h => fu2 (mark_of (by decide) h), fun h => fu3 (mark_of (by decide) h), fun h => fu4 (mark_of (by decide) h), fun _ => ⟨xT, rfl, hxT⟩, fun h => fu6 (mark_of (by decide) h), fun h => fu7 (mark_of (by decide) h), fun h => fu8 (mark_of (by decide) h)⟩
    · have T5 := fu5 (dep_of 5 hru rfl (by kernel_rfl))
      obtain ⟨xT, rfl, hxT⟩ := T5
      refine wpOp_shut (by rfl) (fun K hK => ?_)
      simp only [Act.put, List.setIfInBounds_toArray, List.set_cons_zero, List.set_cons_succ]
      go_simp
      exact hK.out _ _ ⟨vu0, vu1, vu2, vu3, vu4, (.tuple #[xT, .int .i64 0]), xT, vu7, vu8, by simp only [Act.put, List.setIfInBounds_toArray, List.set_cons_zero, List.set_cons_succ], hbu, fun h => fu0 (mark_of (by decide) h), fun h => fu1 (mark_of (by decide) h), fun h => fu2 (mark_of (by decide) h), fun h => fu3 (mark_of (by decide) h), fun h => fu4 (mark_of (by decide) h), fun h => fu5 (mark_of (by decide) h), fun _ => hxT, fun h => fu7 (mark_of (by decide) h), fun h => fu8 (mark_of (by decide) h)⟩
    · have T5 := fu5 (dep_of 5 hru rfl (by kernel_rfl))
      obtain ⟨xT, rfl, hxT⟩ := T5
      refine wpOp_shut (by rfl) (fun K hK => ?_)
      simp only [Act.put, List.setIfInBounds_toArray, List.set_cons_zero, List.set_cons_succ]
      go_simp
      exact hK.out _ _ ⟨vu0, vu1, vu2, vu3, vu4, (.tuple #[xT, .int .i64 0]), vu6, (.int .i64 0), vu8, by simp only [Act.put, List.setIfInBounds_toArray, List.set_cons_zero, List.set_cons_succ], hbu, fun h => fu0 (mark_of (by decide) h), fun h => fu1 (mark_of (by decide) h), fun h => fu2 (mark_of (by decide) h), fun h => fu3 (mark_of (by decide) h), fun h => fu4 (mark_of (by decide) h), fun h => fu5 (mark_of (by decide) h), fun h => fu6 (mark_of (by decide) h), fun _ => rfl, fun h => fu8 (mark_of (by decide) h)⟩
    · refine wpOp_shut (by rfl) (fun K hK => ?_)
      simp only [Act.put, List.setIfInBounds_toArray, List.set_cons_zero, List.set_cons_succ]
      go_simp
      obtain ⟨wx, hWx, hSx, bu, VXu⟩ := V3.lay wn 35 (.bool false) (.slice none 0 0) (.slice none 0 0)
      rw [← hWx]
      have hbu2 := hbu.trans (bu.mono hbu.size)
      exact hK.out _ _ ⟨vu0, vu1, vu2, vu3, vu4, vu5, vu6, vu7, _, by simp only [Act.put, List.setIfInBounds_toArray, List.set_cons_zero, List.set_cons_succ], hbu2, fun h => fu0 (mark_of (by decide) h), fun h => fu1 (mark_of (by decide) h), fun h => (fu2 (mark_of (by decide) h)).below bu, fun h => fu3 (mark_of (by decide) h), fun h => (fu4 (mark_of (by decide) h)).below bu, fun h => (fu5 (mark_of (by decide) h)).below bu, fun h => (fu6 (mark_of (by decide) h)).below bu, fun h => fu7 (mark_of (by decide) h), fun _ => ⟨_, rfl, hbu.size, VXu⟩⟩
  · rintro au wn ⟨vu0, vu1, vu2, vu3, vu4, vu5, vu6, vu7, vu8, rfl, hbu, fu0, fu1, fu2, fu3, fu4, fu5, fu6, fu7, fu8⟩ hfin
    have T5 := fu5 rfl
    obtain ⟨xT, rfl, hxT⟩ := T5
    simp only [Act.put, List.setIfInBounds_toArray, List.set_cons_zero, List.set_cons_succ]
    refine wpAnyH_take (i := 7) (v := .int .i64 0) (by simp only [List.getElem?_toArray, List.getElem?_cons_succ, List.getElem?_cons_zero]; rfl) (by kernel_rfl) (by kernel_rfl) (by kernel_rfl) (by exact fun _ _ _ h => h) (Or.inl ⟨by rfl, ?_⟩) trivial ?_
    · (intro w hSw; go_simp; (try with_reducible rfl))
    simp only [Act.put, List.setIfInBounds_toArray, List.set_cons_zero, List.set_cons_succ]
    exact hfin _ _ ⟨vu0, vu1, vu2, vu3, vu4, (.tuple #[xT, .int .i64 0]), vu6, (.int .i64 0), vu8, by simp only [Act.put, List.setIfInBounds_toArray, List.set_cons_zero, List.set_cons_succ], hbu, fun _ => fu0 rfl, fun _ => fu1 rfl, fun _ => fu2 rfl, fun _ => fu3 rfl, fun _ => fu4 rfl, fun _ => fu5 rfl, fun _ => fu6 rfl, fun _ => rfl, fun _ => fu8 rfl⟩
  rintro au Wu1 ⟨vu0, vu1, vu2, vu3, vu4, vu5, vu6, vu7, vu8, rfl, hbu, fu0, fu1, fu2, fu3, fu4, fu5, fu6, fu7, fu8⟩
  have eu0 := (fu0 rfl).symm
  subst eu0
  have eu1 := (fu1 rfl).symm
  subst eu1
  have h2 := fu2 rfl
  have eu3 := (fu3 rfl).symm
  subst eu3
  have T4 := fu4 rfl
  have T5 := fu5 rfl
  have hq := fu6 rfl
  have eu7 := (fu7 rfl).symm
  subst eu7
  obtain ⟨RVX, rfl, hRVX, VX⟩ := fu8 rfl
  clear fu0 fu1 fu2 fu3 fu4 fu5 fu6 fu7 fu8
  have hlVA : w.heap.size < Wb3.heap.size := VA.lt
  have hlVB : w.heap.size + 1 < Wb3.heap.size := VB.lt
  have hlVC : w.heap.size + 1 + 1 < Wb3.heap.size := VC.lt
  have hlVR : w.heap.size + 1 + 1 + 1 < Wb3.heap.size := VR.lt
  obtain ⟨p9, a9, n9, c9, y9, m9, d9, rfl⟩ := hq.open
  simp only [Act.put, List.setIfInBounds_toArray, List.set_cons_zero, List.set_cons_succ]
  refine wpAnyH_ready (rs := [9]) (by kernel_rfl) (by simp) ?_
  refine AllReadyH.cons (by rfl) (fun K hK => ?_) AllReadyH.nil
  have hKp := VX.keepJ (.bool p9) (.slice a9 n9 c9) (.slice y9 m9 d9)
  have VX_n := VX.same (.bool p9) (.slice a9 n9 c9) (.slice y9 m9 d9)
  have h2_n := h2.keep hKp
  have T4_n := T4.keep hKp
  have T5_n := T5.keep hKp
  have hq_n := hq.keep hKp
  have hbu_n := below_store3 (R := RVX) hbu (by omega) (.bool p9) (.slice a9 n9 c9) (.slice y9 m9 d9)
  clear hKp
  obtain ⟨VX_0, VX_1, VX_2, VX_3, VX_4, VX_5⟩ := id VX
  go_simp
  clear VX_0 VX_1 VX_2 VX_3 VX_4 VX_5
  clear hbu h2 T4 T5 hq VX
  generalize ((Wu1.setCell ⟨RVX, 0, none⟩ (.bool p9)).setCell ⟨RVX, 1, none⟩ (.slice a9 n9 c9)).setCell ⟨RVX, 2, none⟩ (.slice y9 m9 d9) = W2 at *
  have hbu := hbu_n
  have h2 := h2_n
  have T4 := T4_n
  have T5 := T5_n
  have hq := hq_n
  have VX := VX_n
  clear hbu_n h2_n T4_n T5_n hq_n VX_n
  refine hK.out _ _ trivial (fun _ => ?_)
  clear hK K
  simp only [Act.put, List.setIfInBounds_toArray, List.set_cons_zero, List.set_cons_succ]
  refine wpAnyH_ready (rs := [10]) (by kernel_rfl) (by simp) ?_
  refine AllReadyH.cons (by rfl) (fun K hK => ?_) AllReadyH.nil
  go_simp
  refine hK.out _ _ trivial (fun _ => ?_)
  clear hK K
  simp only [Act.put, List.setIfInBounds_toArray, List.set_cons_zero, List.set_cons_succ]
  replace ha := ha.below hbu
  replace hb := hb.below hbu
  replace hc := hc.below hbu
  replace ht := ht.below hbu
  replace VA := VA.below hbu
  replace VB := VB.below hbu
  replace VC := VC.below hbu
  replace VR := VR.below hbu
  replace BB := BB.trans (hbu.mono BB.size)
  clear hbu
  refine wpAnyH_done (by kernel_rfl) ?_ _
  have hKp := VR.keepJ (.bool p9) (.slice a9 n9 c9) (.slice y9 m9 d9)
  have hq_n := hq.keep hKp
  have BB_n := below_store3 (R := w.heap.size + 1 + 1 + 1) BB (by omega) (.bool p9) (.slice a9 n9 c9) (.slice y9 m9 d9)
  clear hKp
  obtain ⟨VX_0, VX_1, VX_2, VX_3, VX_4, VX_5⟩ := id VX
  obtain ⟨q1, q2, q3, q4, q5, q6⟩ := id VR
  go_wp2
  (try simp only [Exit.inBlock, Exit.then])
  refine bodyPost_ret (v := .agg #[.bool p9, .slice a9 n9 c9, .slice y9 m9 d9]) (by simp [results, go_sem, q1, q2, q3]) rfl ?_
  exact ⟨_, rfl, hq_n, BB_n⟩

set_option maxRecDepth 100000 in
set_option maxHeartbeats 4000000 in
theorem lis14_at (u v : Value) (qa qb : Rat) (w : World) (ha : RepQ w u qa) (hb : RepQ w v qb) (sa : qsz qa ≤ 40) (sb : qsz qb ≤ 40) (h0 : qa = qb) (ht : Tab w) :
    Calls Tryz.prog 18 #[u, v] w fun e w' => e = .returned (.bool true) ∧ Below w.heap.size w w' := by
  obtain ⟨p1, a1, n1, c1, y1, m1, d1, rfl⟩ := ha.open
  obtain ⟨p2, a2, n2, c2, y2, m2, d2, rfl⟩ := hb.open
  have HQ : Hid (decide (qa = qb) = true) := decide_eq_true h0
  clear h0
  have BB : Below w.heap.size w w := Below.refl _ _
  obtain ⟨Wb0, hW0, hS0, hL0, VA⟩ := V3.lay w 35 (.bool p1) (.slice a1 n1 c1) (.slice y1 m1 d1)
  replace ha := ha.below hL0
  replace hb := hb.below hL0
  replace ht := ht.below hL0
  replace BB := BB.trans (hL0.mono BB.size)
  clear hL0
  obtain ⟨Wb1, hW1, hS1, hL1, VB⟩ := V3.lay Wb0 35 (.bool p2) (.slice a2 n2 c2) (.slice y2 m2 d2)
  rw [hS0] at VB hS1
  replace ha := ha.below hL1
  replace hb := hb.below hL1
  replace ht := ht.below hL1
  replace VA := VA.below hL1
  replace BB := BB.trans (hL1.mono BB.size)
  clear hL1
  go_enter Tryz.func18, Tryz.ntmps18
  obtain ⟨VA_0, VA_1, VA_2, VA_3, VA_4, VA_5⟩ := id VA
  clear VA_0 VA_1 VA_2 VA_3 VA_4 VA_5
  go_wp2_with fail
  rw [← hW0, ← hW1]
  clear hW0 hW1 hS0 hS1
  refine (qright_rep _ qa _ ha (by omega) ht).mono ?_
  rintro e w1 ⟨rfl, b1⟩
  replace ha := ha.below b1
  replace hb := hb.below b1
  replace ht := ht.below b1
  replace VA := VA.below b1
  replace VB := VB.below b1
  replace BB := BB.trans (b1.mono BB.size)
  clear b1
  obtain ⟨VA_0, VA_1, VA_2, VA_3, VA_4, VA_5⟩ := id VA
  obtain ⟨VB_0, VB_1, VB_2, VB_3, VB_4, VB_5⟩ := id VB
  go_wp2_with fail
  clear VA_0 VA_1 VA_2 VA_3 VA_4 VA_5 VB_0 VB_1 VB_2 VB_3 VB_4 VB_5
  refine (qsame_at _ _ qa qb 40 _ (ha.at _ sa) (hb.at _ sb) (by omega) (by omega)).mono ?_
  rintro e w2 ⟨rfl, b2⟩
  replace ha := ha.below b2
  replace hb := hb.below b2
  replace ht := ht.below b2
  replace VA := VA.below b2
  replace VB := VB.below b2
  replace BB := BB.trans (b2.mono BB.size)
  clear b2
  rw [HQ.out]
  go_wp2
  go_ret
  exact ⟨rfl, BB⟩

/-- Since w0 the table at b alone has turned. -/
structure UK (b : Nat) (w0 w : World) : Prop where
  upd : Upd w0 w b 0 133
  keep : KeepQ IsLimb w0 w
  lt : b < w0.heap.size
theorem UK.refl {b : Nat} {w : World} (h : b < w.heap.size) : UK b w w := ⟨Upd.refl _ _ _ _, KeepQ.refl14 _, h⟩
theorem UK.size {b : Nat} {w0 w : World} (h : UK b w0 w) : w0.heap.size ≤ w.heap.size := h.upd.size
theorem UK.below {b : Nat} {w0 w w' : World} (h : UK b w0 w) (hb : Below w.heap.size w w') : UK b w0 w' := ⟨h.upd.trans (Upd.of_below hb (Nat.lt_of_lt_of_le h.lt h.size)), h.keep.trans14 (KeepQ.below14 hb), h.lt⟩
theorem UK.out {b : Nat} {d : Bool} {w0 w w' : World} (h : UK b w0 w) (ho : TOut b d w w') : UK b w0 w' := ⟨h.upd.trans ho.upd, h.keep.trans14 ho.keep, h.lt⟩
theorem UK.set {b : Nat} {w0 w : World} (h : UK b w0 w) {R : Nat} (hR : w0.heap.size ≤ R) (o : Nat) (v : Value) (hk : KeepQ IsLimb w (w.setCell ⟨R, o, none⟩ v)) : UK b w0 (w.setCell ⟨R, o, none⟩ v) :=
  ⟨⟨h.upd.os, h.upd.tape, h.upd.output, by simp; exact h.upd.size, fun k hk' hne => (Below.heap_setCell w ⟨R, o, none⟩ v k (show k ≠ R by omega)).trans (h.upd.block k hk' hne),
    fun o' ho => (World.cell?_setCell_other _ _ _ _ (fun e => by injection e; have := h.lt; omega)).trans (h.upd.cell o' ho), fun o' => by simp [h.upd.froz o']⟩,
   h.keep.trans14 hk, h.lt⟩
theorem UK.put3 {b : Nat} {w0 w : World} (h : UK b w0 w) {R : Nat} {p : Bool} {a a' : Option Addr} {n c n' c' : Nat} (hv : V3 w R (.bool p) (.slice a n c) (.slice a' n' c')) (hR : w0.heap.size ≤ R) (x y z : Value) : UK b w0 (((w.setCell ⟨R, 0, none⟩ x).setCell ⟨R, 1, none⟩ y).setCell ⟨R, 2, none⟩ z) := by
  have k1 : KeepQ IsLimb w (w.setCell ⟨R, 0, none⟩ x) := keepL_set hv.1 (limb_b _) _
  have k2 : KeepQ IsLimb (w.setCell ⟨R, 0, none⟩ x) ((w.setCell ⟨R, 0, none⟩ x).setCell ⟨R, 1, none⟩ y) := keepL_set (old := .slice a n c) (by rw [World.cell?_setCell_other _ _ _ _ (fun e => by injection e; omega)]; exact hv.2.1) (limb_s _ _ _) _
  have k3 : KeepQ IsLimb ((w.setCell ⟨R, 0, none⟩ x).setCell ⟨R, 1, none⟩ y) (((w.setCell ⟨R, 0, none⟩ x).setCell ⟨R, 1, none⟩ y).setCell ⟨R, 2, none⟩ z) := keepL_set (old := .slice a' n' c') (by rw [World.cell?_setCell_other _ _ _ _ (fun e => by injection e; omega), World.cell?_setCell_other _ _ _ _ (fun e => by injection e; omega)]; exact hv.2.2.1) (limb_s _ _ _) _
  exact ((h.set hR 0 _ k1).set hR 1 _ k2).set hR 2 _ k3
/-- Behind a table of the call's own. -/
theorem UK.low {b B : Nat} {w0 w : World} (h : UK b w0 w) (hb : B ≤ b) (hB : B ≤ w0.heap.size) : Below B w0 w := h.upd.below hb hB
theorem WT.put3 {w : World} {b R : Nat} {d : Bool} {p : Bool} {a a' : Option Addr} {n c n' c' : Nat} (h : WT w b d) (hv : V3 w R (.bool p) (.slice a n c) (.slice a' n' c')) (hR : R ≠ b) (x y z : Value) : WT (((w.setCell ⟨R, 0, none⟩ x).setCell ⟨R, 1, none⟩ y).setCell ⟨R, 2, none⟩ z) b d := by
  cases d with
  | true => exact WOld.put3 h hv hR x y z
  | false =>
    have h : WNew w b := h
    have k1 : KeepQ IsLimb w (w.setCell ⟨R, 0, none⟩ x) := keepL_set hv.1 (limb_b _) _
    have k2 : KeepQ IsLimb (w.setCell ⟨R, 0, none⟩ x) ((w.setCell ⟨R, 0, none⟩ x).setCell ⟨R, 1, none⟩ y) := keepL_set (old := .slice a n c) (by rw [World.cell?_setCell_other _ _ _ _ (fun e => by injection e; omega)]; exact hv.2.1) (limb_s _ _ _) _
    have k3 : KeepQ IsLimb ((w.setCell ⟨R, 0, none⟩ x).setCell ⟨R, 1, none⟩ y) (((w.setCell ⟨R, 0, none⟩ x).setCell ⟨R, 1, none⟩ y).setCell ⟨R, 2, none⟩ z) := keepL_set (old := .slice a' n' c') (by rw [World.cell?_setCell_other _ _ _ _ (fun e => by injection e; omega), World.cell?_setCell_other _ _ _ _ (fun e => by injection e; omega)]; exact hv.2.2.1) (limb_s _ _ _) _
    have c : ∀ (j : Nat), (((w.setCell ⟨R, 0, none⟩ x).setCell ⟨R, 1, none⟩ y).setCell ⟨R, 2, none⟩ z).cell? ⟨b, j, none⟩ = w.cell? ⟨b, j, none⟩ := fun j => by
      rw [World.cell?_setCell_other _ _ _ _ (fun e => by injection e; omega), World.cell?_setCell_other _ _ _ _ (fun e => by injection e; omega), World.cell?_setCell_other _ _ _ _ (fun e => by injection e; omega)]
    exact show WNew _ b from ⟨by rw [c]; exact h.c0, by rw [c]; exact h.c1, by simp [h.z0], by simp [h.z1], ((h.fa.set _ (.inl hR) _ k1).set _ (.inl hR) _ k2).set _ (.inl hR) _ k3⟩

set_option maxRecDepth 100000 in
set_option maxHeartbeats 6000000 in
theorem tneed_uv (b u v : Nat) (d : Bool) (w : World) (hT : WT w b d) (hn : u + v ≤ 64) (hu : 0 < u) (hv : 0 < v) (ht : Tab w) :
    Calls Tryz.prog 23 #[.pointer (some ⟨b, 0, none⟩), .int .i64 (u : Int), .int .i64 (v : Int)] w fun e w' => ∃ x y, e = .returned (.tuple #[x, y, .int .i64 0]) ∧ RepQ w' x (shQ (u - 1) v (u + v)) ∧ RepQ w' y (-shQ u (v - 1) (u + v)) ∧ WT w' b true ∧ UK b w w' := by
  have HO : WT w b d := hT
  have hlt := hT.lt
  clear hT
  have wu : IntKind.i64.wrap ((u : Int) - 1) = ((u - 1 : Nat) : Int) := by rw [IntKind.wrap_i64]; omega
  have wv : IntKind.i64.wrap ((v : Int) - 1) = ((v - 1 : Nat) : Int) := by rw [IntKind.wrap_i64]; omega
  have wx : IntKind.i64.wrap (64 - (u : Int)) = 64 - (u : Int) := by rw [IntKind.wrap_i64]; omega
  have ws : IntKind.i64.wrap ((u : Int) + (v : Int)) = ((u + v : Nat) : Int) := by rw [IntKind.wrap_i64]; omega
  have gu : (0 : Int) < (u : Int) := by omega
  have gv : (0 : Int) < (v : Int) := by omega
  have gub : decide ((0 : Int) < (u : Int)) = true := by simp; omega
  have gvb : decide ((0 : Int) < (v : Int)) = true := by simp; omega
  have BB : Below w.heap.size w w := Below.refl _ _
  obtain ⟨Wb0, hW0, hS0, hL0, VR⟩ := V3.lay w 35 (.bool false) (.slice none 0 0) (.slice none 0 0)
  replace ht := ht.below hL0
  replace HO := HO.below hL0
  replace BB := BB.trans (hL0.mono BB.size)
  clear hL0
  obtain ⟨Wb1, hW1, hS1, hL1, VS⟩ := V3.lay Wb0 35 (.bool false) (.slice none 0 0) (.slice none 0 0)
  rw [hS0] at VS hS1
  replace ht := ht.below hL1
  replace HO := HO.below hL1
  replace VR := VR.below hL1
  replace BB := BB.trans (hL1.mono BB.size)
  clear hL1
  go_enter Tryz.func23, Tryz.ntmps23
  go_wp2_with fail
  rw [← hW0]
  rw [← hW1]
  clear hW0 hW1 hS0 hS1
  have hR0 : w.heap.size ≠ b := by omega
  have hR1 : w.heap.size + 1 ≠ b := by omega
  obtain ⟨RS, hRS⟩ : ∃ RS, RS = w.heap.size + 1 := ⟨_, rfl⟩
  rw [← hRS] at hR1 VS
  have hRSl : w.heap.size < RS := by omega
  have hRSe : Hid (RS = w.heap.size + 1) := hRS
  rw [← hRS]
  clear hRS
  refine (within_ok _ 0 (u : Int) 64 _ (by omega) (by omega)).mono ?_
  rintro e wx ⟨rfl, hwx⟩
  replace hwx := hwx.symm
  subst hwx
  go_wp2_with fail
  refine (within_ok _ 0 (v : Int) (64 - (u : Int)) _ (by omega) (by omega)).mono ?_
  rintro e wx ⟨rfl, hwx⟩
  replace hwx := hwx.symm
  subst hwx
  go_wp2_with fail
  have BB2 : UK b w Wb1 := (UK.refl hlt).below BB
  clear BB
  have BB := BB2
  clear BB2
  refine (qzero_at _).mono ?_
  rintro e w1 ⟨r0, rfl, h0, b1⟩
  replace ht := ht.below b1
  replace HO := HO.below b1
  replace VR := VR.below b1
  replace VS := VS.below b1
  replace BB := BB.below b1
  clear b1
  obtain ⟨p0, a0, n0, c0, y0, m0, d0, rfl⟩ := h0.open
  go_wp2_with fail
  refine (qzero_at _).mono ?_
  rintro e w2 ⟨r1, rfl, h1, b2⟩
  replace ht := ht.below b2
  replace HO := HO.below b2
  replace h0 := h0.below b2
  replace VR := VR.below b2
  replace VS := VS.below b2
  replace BB := BB.below b2
  clear b2
  obtain ⟨p1, a1, n1, c1, y1, m1, d1, rfl⟩ := h1.open
  have hRw : RS < w2.heap.size := VS.lt
  have hZ1 : w.heap.size ≤ w2.heap.size := BB.size
  have hN1VR : w.heap.size < w2.heap.size := VR.lt
  have hN1VS : RS < w2.heap.size := VS.lt
  obtain ⟨W2, hW2, hS2, hL2, VI⟩ := V3.lay w2 35 (.bool p0) (.slice a0 n0 c0) (.slice y0 m0 d0)
  replace ht := ht.below hL2
  replace HO := HO.below hL2
  replace h0 := h0.below hL2
  replace h1 := h1.below hL2
  replace VR := VR.below hL2
  replace VS := VS.below hL2
  replace BB := BB.below hL2
  clear hL2
  obtain ⟨W3, hW3, hS3, hL3, VO⟩ := V3.lay W2 35 (.bool p1) (.slice a1 n1 c1) (.slice y1 m1 d1)
  replace ht := ht.below hL3
  replace HO := HO.below hL3
  replace h0 := h0.below hL3
  replace h1 := h1.below hL3
  replace VR := VR.below hL3
  replace VS := VS.below hL3
  replace VI := VI.below hL3
  replace BB := BB.below hL3
  clear hL3
  rw [hS2] at VO
  go_wp2_with fail
  rw [← hW2]
  rw [← hW3]
  generalize w2.heap.size = R1 at *
  clear hW2 hS2 hW3 hS3
  have hI : R1 ≠ b := by have := BB.size; omega
  have hI1 : R1 + 1 ≠ b := by have := BB.size; omega
  have hIw : w.heap.size < R1 := by omega
  have hwS : w.heap.size ≤ RS := by omega
  refine (share_at b (u - 1) v (u + v) d _ HO (by omega) (by omega) ht).mono ?_
  rintro e w3 ⟨v3, rfl, h3, ho⟩
  replace ht := ht.keepL ho.keep
  replace h0 := h0.keepL ho.keep
  replace h1 := h1.keepL ho.keep
  have HO2 : WT w3 b true := ho.tab
  clear HO
  have HO := HO2
  clear HO2
  replace VR := VR.upd ho.upd hR0
  replace VS := VS.upd ho.upd hR1
  replace VI := VI.upd ho.upd hI
  replace VO := VO.upd ho.upd hI1
  replace BB := BB.out ho
  clear ho
  obtain ⟨p5, a5, n5, c5, y5, m5, d5, rfl⟩ := h3.open
  clear h0
  have hKp := VI.keepJ (.bool p5) (.slice a5 n5 c5) (.slice y5 m5 d5)
  have VR_n := VR.other3 (R := R1) (by omega) (.bool p5) (.slice a5 n5 c5) (.slice y5 m5 d5)
  have VS_n := VS.other3 (R := R1) (by omega) (.bool p5) (.slice a5 n5 c5) (.slice y5 m5 d5)
  have VO_n := VO.other3 (R := R1) (by omega) (.bool p5) (.slice a5 n5 c5) (.slice y5 m5 d5)
  have VI_n := VI.same (.bool p5) (.slice a5 n5 c5) (.slice y5 m5 d5)
  have ht_n := ht.keep hKp
  have HO_n := HO.put3 VI (by omega) (.bool p5) (.slice a5 n5 c5) (.slice y5 m5 d5)
  have h1_n := h1.keep hKp
  have h3_n := h3.keep hKp
  have BB_n := BB.put3 VI (by omega) (.bool p5) (.slice a5 n5 c5) (.slice y5 m5 d5)
  clear hKp
  obtain ⟨VI_0, VI_1, VI_2, VI_3, VI_4, VI_5⟩ := id VI
  go_wp2_with fail
  clear VI_0 VI_1 VI_2 VI_3 VI_4 VI_5
  clear BB ht HO h1 h3 VR VS VI VO
  generalize ((w3.setCell ⟨R1, 0, none⟩ (.bool p5)).setCell ⟨R1, 1, none⟩ (.slice a5 n5 c5)).setCell ⟨R1, 2, none⟩ (.slice y5 m5 d5) = W4 at *
  have BB := BB_n
  have ht := ht_n
  have HO := HO_n
  have h1 := h1_n
  have h3 := h3_n
  have VR := VR_n
  have VS := VS_n
  have VI := VI_n
  have VO := VO_n
  clear BB_n ht_n HO_n h1_n h3_n VR_n VS_n VI_n VO_n
  refine (share_at b u (v - 1) (u + v) true _ HO (by omega) (by omega) ht).mono ?_
  rintro e w4 ⟨v4, rfl, h4, ho⟩
  replace ht := ht.keepL ho.keep
  replace h1 := h1.keepL ho.keep
  replace h3 := h3.keepL ho.keep
  have HO2 : WT w4 b true := ho.tab
  clear HO
  have HO := HO2
  clear HO2
  replace VR := VR.upd ho.upd hR0
  replace VS := VS.upd ho.upd hR1
  replace VI := VI.upd ho.upd hI
  replace VO := VO.upd ho.upd hI1
  replace BB := BB.out ho
  clear ho
  go_wp2_with fail
  refine (qneg_at _ _ 10 _ (h4.at 10 (shQ_sz (by omega) (by omega))) (by omega) (by omega) ht).mono ?_
  rintro e w5 ⟨r6, rfl, h6, b5⟩
  replace ht := ht.below b5
  replace HO := HO.below b5
  replace h1 := h1.below b5
  replace h3 := h3.below b5
  replace h4 := h4.below b5
  replace VR := VR.below b5
  replace VS := VS.below b5
  replace VI := VI.below b5
  replace VO := VO.below b5
  replace BB := BB.below b5
  clear b5
  obtain ⟨p6, a6, n6, c6, y6, m6, d6, rfl⟩ := h6.open
  clear h4 h1
  have hKp := VO.keepJ (.bool p6) (.slice a6 n6 c6) (.slice y6 m6 d6)
  have VR_n := VR.other3 (R := R1 + 1) (by omega) (.bool p6) (.slice a6 n6 c6) (.slice y6 m6 d6)
  have VS_n := VS.other3 (R := R1 + 1) (by omega) (.bool p6) (.slice a6 n6 c6) (.slice y6 m6 d6)
  have VI_n := VI.other3 (R := R1 + 1) (by omega) (.bool p6) (.slice a6 n6 c6) (.slice y6 m6 d6)
  have VO_n := VO.same (.bool p6) (.slice a6 n6 c6) (.slice y6 m6 d6)
  have ht_n := ht.keep hKp
  have HO_n := HO.put3 VO (by omega) (.bool p6) (.slice a6 n6 c6) (.slice y6 m6 d6)
  have h3_n := h3.keep hKp
  have h6_n := h6.keep hKp
  have BB_n := BB.put3 VO (by omega) (.bool p6) (.slice a6 n6 c6) (.slice y6 m6 d6)
  clear hKp
  obtain ⟨VO_0, VO_1, VO_2, VO_3, VO_4, VO_5⟩ := id VO
  go_wp2
  clear VO_0 VO_1 VO_2 VO_3 VO_4 VO_5
  clear BB ht HO h3 h6 VR VS VI VO
  generalize ((w5.setCell ⟨R1 + 1, 0, none⟩ (.bool p6)).setCell ⟨R1 + 1, 1, none⟩ (.slice a6 n6 c6)).setCell ⟨R1 + 1, 2, none⟩ (.slice y6 m6 d6) = W5 at *
  have BB := BB_n
  have ht := ht_n
  have HO := HO_n
  have h3 := h3_n
  have h6 := h6_n
  have VR := VR_n
  have VS := VS_n
  have VI := VI_n
  have VO := VO_n
  clear BB_n ht_n HO_n h3_n h6_n VR_n VS_n VI_n VO_n
  have hDr : Below W5.heap.size W5 W5.drew := (Below.refl _ _).drew
  replace ht := ht.below hDr
  replace HO := HO.below hDr
  replace h3 := h3.below hDr
  replace h6 := h6.below hDr
  replace VR := VR.below hDr
  replace VS := VS.below hDr
  replace VI := VI.below hDr
  replace VO := VO.below hDr
  replace BB := BB.below hDr
  clear hDr
  refine wp_region_held_drew (S := (fun w' => w'.cell? ⟨R1, 0, none⟩ = some (.bool p5) ∧ w'.cell? ⟨R1, 1, none⟩ = some (.slice a5 n5 c5) ∧ w'.cell? ⟨R1, 2, none⟩ = some (.slice y5 m5 d5) ∧ w'.cell? ⟨R1 + 1, 0, none⟩ = some (.bool p6) ∧ w'.cell? ⟨R1 + 1, 1, none⟩ = some (.slice a6 n6 c6) ∧ w'.cell? ⟨R1 + 1, 2, none⟩ = some (.slice y6 m6 d6))) (by kernel_rfl) ?_ (fun hHeld => ?_)
  · exact ⟨VI.1, VI.2.1, VI.2.2.1, VO.1, VO.2.1, VO.2.2.1⟩
  generalize W5.drew = W6 at *
  refine wpAnyH_take (i := 0) (v := ?_) (by simp only [List.getElem?_toArray, List.getElem?_cons_succ, List.getElem?_cons_zero]; rfl) (by kernel_rfl) (by kernel_rfl) (by kernel_rfl) (by exact fun _ _ _ h => h) (Or.inl ⟨by rfl, ?_⟩) (by assumption) ?_
  rotate_left
  · (intro w hSw; (try dsimp only at hSw); go_simp; (try with_reducible rfl))
  (try simp only [Act.put, List.setIfInBounds_toArray, List.set_cons_zero, List.set_cons_succ])
  refine wpAnyH_take (i := 1) (v := ?_) (by simp only [List.getElem?_toArray, List.getElem?_cons_succ, List.getElem?_cons_zero]; rfl) (by kernel_rfl) (by kernel_rfl) (by kernel_rfl) (by exact fun _ _ _ h => h) (Or.inl ⟨by rfl, ?_⟩) (by assumption) ?_
  rotate_left
  · (intro w hSw; (try dsimp only at hSw); go_simp; (try with_reducible rfl))
  (try simp only [Act.put, List.setIfInBounds_toArray, List.set_cons_zero, List.set_cons_succ])
  refine wpAnyH_ready (rs := [2]) (by kernel_rfl) (by simp) ?_
  refine AllReadyH.cons (by simp only [List.getElem?_toArray, List.getElem?_cons_succ, List.getElem?_cons_zero]; rfl) (fun K hK => ?_) AllReadyH.nil
  have hKp := VR.keepJ (.bool p5) (.slice a5 n5 c5) (.slice y5 m5 d5)
  have VS_n := VS.other3 (R := w.heap.size) (by omega) (.bool p5) (.slice a5 n5 c5) (.slice y5 m5 d5)
  have VI_n := VI.other3 (R := w.heap.size) (by omega) (.bool p5) (.slice a5 n5 c5) (.slice y5 m5 d5)
  have VO_n := VO.other3 (R := w.heap.size) (by omega) (.bool p5) (.slice a5 n5 c5) (.slice y5 m5 d5)
  have VR_n := VR.same (.bool p5) (.slice a5 n5 c5) (.slice y5 m5 d5)
  have ht_n := ht.keep hKp
  have HO_n := HO.put3 VR (by omega) (.bool p5) (.slice a5 n5 c5) (.slice y5 m5 d5)
  have h3_n := h3.keep hKp
  have h6_n := h6.keep hKp
  have BB_n := BB.put3 VR (by omega) (.bool p5) (.slice a5 n5 c5) (.slice y5 m5 d5)
  clear hKp
  obtain ⟨VR_0, VR_1, VR_2, VR_3, VR_4, VR_5⟩ := id VR
  go_simp
  clear VR_0 VR_1 VR_2 VR_3 VR_4 VR_5
  clear BB ht HO h3 h6 VR VS VI VO
  generalize ((W6.setCell ⟨w.heap.size, 0, none⟩ (.bool p5)).setCell ⟨w.heap.size, 1, none⟩ (.slice a5 n5 c5)).setCell ⟨w.heap.size, 2, none⟩ (.slice y5 m5 d5) = W7 at *
  have BB := BB_n
  have ht := ht_n
  have HO := HO_n
  have h3 := h3_n
  have h6 := h6_n
  have VR := VR_n
  have VS := VS_n
  have VI := VI_n
  have VO := VO_n
  clear BB_n ht_n HO_n h3_n h6_n VR_n VS_n VI_n VO_n
  refine hK.out _ _ ?_ (fun hH1 => ?_)
  · exact ⟨VI.1, VI.2.1, VI.2.2.1, VO.1, VO.2.1, VO.2.2.1⟩
  clear hK K hHeld
  (try simp only [Act.put, List.setIfInBounds_toArray, List.set_cons_zero, List.set_cons_succ])
  refine wpAnyH_ready (rs := [3]) (by kernel_rfl) (by simp) ?_
  refine AllReadyH.cons (by simp only [List.getElem?_toArray, List.getElem?_cons_succ, List.getElem?_cons_zero]; rfl) (fun K hK => ?_) AllReadyH.nil
  have hKp := VS.keepJ (.bool p6) (.slice a6 n6 c6) (.slice y6 m6 d6)
  have VR_n := VR.other3 (R := RS) (by omega) (.bool p6) (.slice a6 n6 c6) (.slice y6 m6 d6)
  have VI_n := VI.other3 (R := RS) (by omega) (.bool p6) (.slice a6 n6 c6) (.slice y6 m6 d6)
  have VO_n := VO.other3 (R := RS) (by omega) (.bool p6) (.slice a6 n6 c6) (.slice y6 m6 d6)
  have VS_n := VS.same (.bool p6) (.slice a6 n6 c6) (.slice y6 m6 d6)
  have ht_n := ht.keep hKp
  have HO_n := HO.put3 VS (by omega) (.bool p6) (.slice a6 n6 c6) (.slice y6 m6 d6)
  have h3_n := h3.keep hKp
  have h6_n := h6.keep hKp
  have BB_n := BB.put3 VS (by omega) (.bool p6) (.slice a6 n6 c6) (.slice y6 m6 d6)
  clear hKp
  obtain ⟨VS_0, VS_1, VS_2, VS_3, VS_4, VS_5⟩ := id VS
  go_simp
  clear VS_0 VS_1 VS_2 VS_3 VS_4 VS_5
  clear BB ht HO h3 h6 VR VS VI VO
  generalize ((W7.setCell ⟨RS, 0, none⟩ (.bool p6)).setCell ⟨RS, 1, none⟩ (.slice a6 n6 c6)).setCell ⟨RS, 2, none⟩ (.slice y6 m6 d6) = W8 at *
  have BB := BB_n
  have ht := ht_n
  have HO := HO_n
  have h3 := h3_n
  have h6 := h6_n
  have VR := VR_n
  have VS := VS_n
  have VI := VI_n
  have VO := VO_n
  clear BB_n ht_n HO_n h3_n h6_n VR_n VS_n VI_n VO_n
  refine hK.out _ _ ?_ (fun hH2 => ?_)
  · exact ⟨VI.1, VI.2.1, VI.2.2.1, VO.1, VO.2.1, VO.2.2.1⟩
  clear hK K hH1
  (try simp only [Act.put, List.setIfInBounds_toArray, List.set_cons_zero, List.set_cons_succ])
  refine wpAnyH_take (i := 4) (v := ?_) (by simp only [List.getElem?_toArray, List.getElem?_cons_succ, List.getElem?_cons_zero]; rfl) (by kernel_rfl) (by kernel_rfl) (by kernel_rfl) (by exact fun _ _ _ h => h) (Or.inl ⟨by rfl, ?_⟩) (by assumption) ?_
  rotate_left
  · (intro w hSw; (try dsimp only at hSw); go_simp; (try with_reducible rfl))
  (try simp only [Act.put, List.setIfInBounds_toArray, List.set_cons_zero, List.set_cons_succ])
  refine wpAnyH_done (by kernel_rfl) ?_ _
  clear hH2
  obtain ⟨q1, q2, q3, q4, q5, q6⟩ := id VR
  obtain ⟨s1, s2, s3, s4, s5, s6⟩ := id VS
  go_wp2
  (try simp only [Exit.inBlock, Exit.then])
  refine bodyPost_ret (v := .tuple #[.agg #[.bool p5, .slice a5 n5 c5, .slice y5 m5 d5], .agg #[.bool p6, .slice a6 n6 c6, .slice y6 m6 d6], .int .i64 0]) (by simp [results, go_sem, q1, q2, q3, s1, s2, s3]) rfl ?_
  exact ⟨_, _, rfl, h3, h6, HO, BB⟩

set_option maxRecDepth 100000 in
set_option maxHeartbeats 6000000 in
theorem tneed_u0 (b u v : Nat) (d : Bool) (w : World) (hT : WT w b d) (hn : u + v ≤ 64) (hu : 0 < u) (hv : v = 0) (ht : Tab w) :
    Calls Tryz.prog 23 #[.pointer (some ⟨b, 0, none⟩), .int .i64 (u : Int), .int .i64 (v : Int)] w fun e w' => ∃ x y, e = .returned (.tuple #[x, y, .int .i64 0]) ∧ RepQ w' x (shQ (u - 1) v (u + v)) ∧ RepQ w' y 0 ∧ WT w' b true ∧ UK b w w' := by
  have HO : WT w b d := hT
  have hlt := hT.lt
  clear hT
  have wu : IntKind.i64.wrap ((u : Int) - 1) = ((u - 1 : Nat) : Int) := by rw [IntKind.wrap_i64]; omega
  have wx : IntKind.i64.wrap (64 - (u : Int)) = 64 - (u : Int) := by rw [IntKind.wrap_i64]; omega
  have ws : IntKind.i64.wrap ((u : Int) + (v : Int)) = ((u + v : Nat) : Int) := by rw [IntKind.wrap_i64]; omega
  have gu : (0 : Int) < (u : Int) := by omega
  have gv : ¬ (0 : Int) < (v : Int) := by omega
  have gub : decide ((0 : Int) < (u : Int)) = true := by simp; omega
  have gvb : decide ((0 : Int) < (v : Int)) = false := by simp; omega
  clear hv
  have BB : Below w.heap.size w w := Below.refl _ _
  obtain ⟨Wb0, hW0, hS0, hL0, VR⟩ := V3.lay w 35 (.bool false) (.slice none 0 0) (.slice none 0 0)
  replace ht := ht.below hL0
  replace HO := HO.below hL0
  replace BB := BB.trans (hL0.mono BB.size)
  clear hL0
  obtain ⟨Wb1, hW1, hS1, hL1, VS⟩ := V3.lay Wb0 35 (.bool false) (.slice none 0 0) (.slice none 0 0)
  rw [hS0] at VS hS1
  replace ht := ht.below hL1
  replace HO := HO.below hL1
  replace VR := VR.below hL1
  replace BB := BB.trans (hL1.mono BB.size)
  clear hL1
  go_enter Tryz.func23, Tryz.ntmps23
  go_wp2_with fail
  rw [← hW0]
  rw [← hW1]
  clear hW0 hW1 hS0 hS1
  have hR0 : w.heap.size ≠ b := by omega
  have hR1 : w.heap.size + 1 ≠ b := by omega
  obtain ⟨RS, hRS⟩ : ∃ RS, RS = w.heap.size + 1 := ⟨_, rfl⟩
  rw [← hRS] at hR1 VS
  have hRSl : w.heap.size < RS := by omega
  have hRSe : Hid (RS = w.heap.size + 1) := hRS
  rw [← hRS]
  clear hRS
  refine (within_ok _ 0 (u : Int) 64 _ (by omega) (by omega)).mono ?_
  rintro e wx ⟨rfl, hwx⟩
  replace hwx := hwx.symm
  subst hwx
  go_wp2_with fail
  refine (within_ok _ 0 (v : Int) (64 - (u : Int)) _ (by omega) (by omega)).mono ?_
  rintro e wx ⟨rfl, hwx⟩
  replace hwx := hwx.symm
  subst hwx
  go_wp2_with fail
  have BB2 : UK b w Wb1 := (UK.refl hlt).below BB
  clear BB
  have BB := BB2
  clear BB2
  refine (qzero_at _).mono ?_
  rintro e w1 ⟨r0, rfl, h0, b1⟩
  replace ht := ht.below b1
  replace HO := HO.below b1
  replace VR := VR.below b1
  replace VS := VS.below b1
  replace BB := BB.below b1
  clear b1
  obtain ⟨p0, a0, n0, c0, y0, m0, d0, rfl⟩ := h0.open
  go_wp2_with fail
  refine (qzero_at _).mono ?_
  rintro e w2 ⟨r1, rfl, h1, b2⟩
  replace ht := ht.below b2
  replace HO := HO.below b2
  replace h0 := h0.below b2
  replace VR := VR.below b2
  replace VS := VS.below b2
  replace BB := BB.below b2
  clear b2
  obtain ⟨p1, a1, n1, c1, y1, m1, d1, rfl⟩ := h1.open
  have hRw : RS < w2.heap.size := VS.lt
  have hZ1 : w.heap.size ≤ w2.heap.size := BB.size
  have hN1VR : w.heap.size < w2.heap.size := VR.lt
  have hN1VS : RS < w2.heap.size := VS.lt
  obtain ⟨W2, hW2, hS2, hL2, VI⟩ := V3.lay w2 35 (.bool p0) (.slice a0 n0 c0) (.slice y0 m0 d0)
  replace ht := ht.below hL2
  replace HO := HO.below hL2
  replace h0 := h0.below hL2
  replace h1 := h1.below hL2
  replace VR := VR.below hL2
  replace VS := VS.below hL2
  replace BB := BB.below hL2
  clear hL2
  obtain ⟨W3, hW3, hS3, hL3, VO⟩ := V3.lay W2 35 (.bool p1) (.slice a1 n1 c1) (.slice y1 m1 d1)
  replace ht := ht.below hL3
  replace HO := HO.below hL3
  replace h0 := h0.below hL3
  replace h1 := h1.below hL3
  replace VR := VR.below hL3
  replace VS := VS.below hL3
  replace VI := VI.below hL3
  replace BB := BB.below hL3
  clear hL3
  rw [hS2] at VO
  go_wp2_with fail
  rw [← hW2]
  rw [← hW3]
  generalize w2.heap.size = R1 at *
  clear hW2 hS2 hW3 hS3
  have hI : R1 ≠ b := by have := BB.size; omega
  have hI1 : R1 + 1 ≠ b := by have := BB.size; omega
  have hIw : w.heap.size < R1 := by omega
  have hwS : w.heap.size ≤ RS := by omega
  refine (share_at b (u - 1) v (u + v) d _ HO (by omega) (by omega) ht).mono ?_
  rintro e w3 ⟨v3, rfl, h3, ho⟩
  replace ht := ht.keepL ho.keep
  replace h0 := h0.keepL ho.keep
  replace h1 := h1.keepL ho.keep
  have HO2 : WT w3 b true := ho.tab
  clear HO
  have HO := HO2
  clear HO2
  replace VR := VR.upd ho.upd hR0
  replace VS := VS.upd ho.upd hR1
  replace VI := VI.upd ho.upd hI
  replace VO := VO.upd ho.upd hI1
  replace BB := BB.out ho
  clear ho
  obtain ⟨p5, a5, n5, c5, y5, m5, d5, rfl⟩ := h3.open
  clear h0
  have hKp := VI.keepJ (.bool p5) (.slice a5 n5 c5) (.slice y5 m5 d5)
  have VR_n := VR.other3 (R := R1) (by omega) (.bool p5) (.slice a5 n5 c5) (.slice y5 m5 d5)
  have VS_n := VS.other3 (R := R1) (by omega) (.bool p5) (.slice a5 n5 c5) (.slice y5 m5 d5)
  have VO_n := VO.other3 (R := R1) (by omega) (.bool p5) (.slice a5 n5 c5) (.slice y5 m5 d5)
  have VI_n := VI.same (.bool p5) (.slice a5 n5 c5) (.slice y5 m5 d5)
  have ht_n := ht.keep hKp
  have HO_n := HO.put3 VI (by omega) (.bool p5) (.slice a5 n5 c5) (.slice y5 m5 d5)
  have h1_n := h1.keep hKp
  have h3_n := h3.keep hKp
  have BB_n := BB.put3 VI (by omega) (.bool p5) (.slice a5 n5 c5) (.slice y5 m5 d5)
  clear hKp
  obtain ⟨VI_0, VI_1, VI_2, VI_3, VI_4, VI_5⟩ := id VI
  go_wp2
  clear VI_0 VI_1 VI_2 VI_3 VI_4 VI_5
  clear BB ht HO h1 h3 VR VS VI VO
  generalize ((w3.setCell ⟨R1, 0, none⟩ (.bool p5)).setCell ⟨R1, 1, none⟩ (.slice a5 n5 c5)).setCell ⟨R1, 2, none⟩ (.slice y5 m5 d5) = W4 at *
  have BB := BB_n
  have ht := ht_n
  have HO := HO_n
  have h1 := h1_n
  have h3 := h3_n
  have VR := VR_n
  have VS := VS_n
  have VI := VI_n
  have VO := VO_n
  clear BB_n ht_n HO_n h1_n h3_n VR_n VS_n VI_n VO_n
  have hDr : Below W4.heap.size W4 W4.drew := (Below.refl _ _).drew
  replace ht := ht.below hDr
  replace HO := HO.below hDr
  replace h1 := h1.below hDr
  replace h3 := h3.below hDr
  replace VR := VR.below hDr
  replace VS := VS.below hDr
  replace VI := VI.below hDr
  replace VO := VO.below hDr
  replace BB := BB.below hDr
  clear hDr
  refine wp_region_held_drew (S := (fun w' => w'.cell? ⟨R1, 0, none⟩ = some (.bool p5) ∧ w'.cell? ⟨R1, 1, none⟩ = some (.slice a5 n5 c5) ∧ w'.cell? ⟨R1, 2, none⟩ = some (.slice y5 m5 d5) ∧ w'.cell? ⟨R1 + 1, 0, none⟩ = some (.bool p1) ∧ w'.cell? ⟨R1 + 1, 1, none⟩ = some (.slice a1 n1 c1) ∧ w'.cell? ⟨R1 + 1, 2, none⟩ = some (.slice y1 m1 d1))) (by kernel_rfl) ?_ (fun hHeld => ?_)
  · exact ⟨VI.1, VI.2.1, VI.2.2.1, VO.1, VO.2.1, VO.2.2.1⟩
  generalize W4.drew = W5 at *
  refine wpAnyH_take (i := 0) (v := ?_) (by simp only [List.getElem?_toArray, List.getElem?_cons_succ, List.getElem?_cons_zero]; rfl) (by kernel_rfl) (by kernel_rfl) (by kernel_rfl) (by exact fun _ _ _ h => h) (Or.inl ⟨by rfl, ?_⟩) (by assumption) ?_
  rotate_left
  · (intro w hSw; (try dsimp only at hSw); go_simp; (try with_reducible rfl))
  (try simp only [Act.put, List.setIfInBounds_toArray, List.set_cons_zero, List.set_cons_succ])
  refine wpAnyH_take (i := 1) (v := ?_) (by simp only [List.getElem?_toArray, List.getElem?_cons_succ, List.getElem?_cons_zero]; rfl) (by kernel_rfl) (by kernel_rfl) (by kernel_rfl) (by exact fun _ _ _ h => h) (Or.inl ⟨by rfl, ?_⟩) (by assumption) ?_
  rotate_left
  · (intro w hSw; (try dsimp only at hSw); go_simp; (try with_reducible rfl))
  (try simp only [Act.put, List.setIfInBounds_toArray, List.set_cons_zero, List.set_cons_succ])
  refine wpAnyH_ready (rs := [2]) (by kernel_rfl) (by simp) ?_
  refine AllReadyH.cons (by simp only [List.getElem?_toArray, List.getElem?_cons_succ, List.getElem?_cons_zero]; rfl) (fun K hK => ?_) AllReadyH.nil
  have hKp := VR.keepJ (.bool p5) (.slice a5 n5 c5) (.slice y5 m5 d5)
  have VS_n := VS.other3 (R := w.heap.size) (by omega) (.bool p5) (.slice a5 n5 c5) (.slice y5 m5 d5)
  have VI_n := VI.other3 (R := w.heap.size) (by omega) (.bool p5) (.slice a5 n5 c5) (.slice y5 m5 d5)
  have VO_n := VO.other3 (R := w.heap.size) (by omega) (.bool p5) (.slice a5 n5 c5) (.slice y5 m5 d5)
  have VR_n := VR.same (.bool p5) (.slice a5 n5 c5) (.slice y5 m5 d5)
  have ht_n := ht.keep hKp
  have HO_n := HO.put3 VR (by omega) (.bool p5) (.slice a5 n5 c5) (.slice y5 m5 d5)
  have h1_n := h1.keep hKp
  have h3_n := h3.keep hKp
  have BB_n := BB.put3 VR (by omega) (.bool p5) (.slice a5 n5 c5) (.slice y5 m5 d5)
  clear hKp
  obtain ⟨VR_0, VR_1, VR_2, VR_3, VR_4, VR_5⟩ := id VR
  go_simp
  clear VR_0 VR_1 VR_2 VR_3 VR_4 VR_5
  clear BB ht HO h1 h3 VR VS VI VO
  generalize ((W5.setCell ⟨w.heap.size, 0, none⟩ (.bool p5)).setCell ⟨w.heap.size, 1, none⟩ (.slice a5 n5 c5)).setCell ⟨w.heap.size, 2, none⟩ (.slice y5 m5 d5) = W6 at *
  have BB := BB_n
  have ht := ht_n
  have HO := HO_n
  have h1 := h1_n
  have h3 := h3_n
  have VR := VR_n
  have VS := VS_n
  have VI := VI_n
  have VO := VO_n
  clear BB_n ht_n HO_n h1_n h3_n VR_n VS_n VI_n VO_n
  refine hK.out _ _ ?_ (fun hH1 => ?_)
  · exact ⟨VI.1, VI.2.1, VI.2.2.1, VO.1, VO.2.1, VO.2.2.1⟩
  clear hK K hHeld
  (try simp only [Act.put, List.setIfInBounds_toArray, List.set_cons_zero, List.set_cons_succ])
  refine wpAnyH_ready (rs := [3]) (by kernel_rfl) (by simp) ?_
  refine AllReadyH.cons (by simp only [List.getElem?_toArray, List.getElem?_cons_succ, List.getElem?_cons_zero]; rfl) (fun K hK => ?_) AllReadyH.nil
  have hKp := VS.keepJ (.bool p1) (.slice a1 n1 c1) (.slice y1 m1 d1)
  have VR_n := VR.other3 (R := RS) (by omega) (.bool p1) (.slice a1 n1 c1) (.slice y1 m1 d1)
  have VI_n := VI.other3 (R := RS) (by omega) (.bool p1) (.slice a1 n1 c1) (.slice y1 m1 d1)
  have VO_n := VO.other3 (R := RS) (by omega) (.bool p1) (.slice a1 n1 c1) (.slice y1 m1 d1)
  have VS_n := VS.same (.bool p1) (.slice a1 n1 c1) (.slice y1 m1 d1)
  have ht_n := ht.keep hKp
  have HO_n := HO.put3 VS (by omega) (.bool p1) (.slice a1 n1 c1) (.slice y1 m1 d1)
  have h1_n := h1.keep hKp
  have h3_n := h3.keep hKp
  have BB_n := BB.put3 VS (by omega) (.bool p1) (.slice a1 n1 c1) (.slice y1 m1 d1)
  clear hKp
  obtain ⟨VS_0, VS_1, VS_2, VS_3, VS_4, VS_5⟩ := id VS
  go_simp
  clear VS_0 VS_1 VS_2 VS_3 VS_4 VS_5
  clear BB ht HO h1 h3 VR VS VI VO
  generalize ((W6.setCell ⟨RS, 0, none⟩ (.bool p1)).setCell ⟨RS, 1, none⟩ (.slice a1 n1 c1)).setCell ⟨RS, 2, none⟩ (.slice y1 m1 d1) = W7 at *
  have BB := BB_n
  have ht := ht_n
  have HO := HO_n
  have h1 := h1_n
  have h3 := h3_n
  have VR := VR_n
  have VS := VS_n
  have VI := VI_n
  have VO := VO_n
  clear BB_n ht_n HO_n h1_n h3_n VR_n VS_n VI_n VO_n
  refine hK.out _ _ ?_ (fun hH2 => ?_)
  · exact ⟨VI.1, VI.2.1, VI.2.2.1, VO.1, VO.2.1, VO.2.2.1⟩
  clear hK K hH1
  (try simp only [Act.put, List.setIfInBounds_toArray, List.set_cons_zero, List.set_cons_succ])
  refine wpAnyH_take (i := 4) (v := ?_) (by simp only [List.getElem?_toArray, List.getElem?_cons_succ, List.getElem?_cons_zero]; rfl) (by kernel_rfl) (by kernel_rfl) (by kernel_rfl) (by exact fun _ _ _ h => h) (Or.inl ⟨by rfl, ?_⟩) (by assumption) ?_
  rotate_left
  · (intro w hSw; (try dsimp only at hSw); go_simp; (try with_reducible rfl))
  (try simp only [Act.put, List.setIfInBounds_toArray, List.set_cons_zero, List.set_cons_succ])
  refine wpAnyH_done (by kernel_rfl) ?_ _
  clear hH2
  obtain ⟨q1, q2, q3, q4, q5, q6⟩ := id VR
  obtain ⟨s1, s2, s3, s4, s5, s6⟩ := id VS
  go_wp2
  (try simp only [Exit.inBlock, Exit.then])
  refine bodyPost_ret (v := .tuple #[.agg #[.bool p5, .slice a5 n5 c5, .slice y5 m5 d5], .agg #[.bool p1, .slice a1 n1 c1, .slice y1 m1 d1], .int .i64 0]) (by simp [results, go_sem, q1, q2, q3, s1, s2, s3]) rfl ?_
  exact ⟨_, _, rfl, h3, h1, HO, BB⟩

set_option maxRecDepth 100000 in
set_option maxHeartbeats 6000000 in
theorem tneed_0v (b u v : Nat) (d : Bool) (w : World) (hT : WT w b d) (hn : u + v ≤ 64) (hu : u = 0) (hv : 0 < v) (ht : Tab w) :
    Calls Tryz.prog 23 #[.pointer (some ⟨b, 0, none⟩), .int .i64 (u : Int), .int .i64 (v : Int)] w fun e w' => ∃ x y, e = .returned (.tuple #[x, y, .int .i64 0]) ∧ RepQ w' x 0 ∧ RepQ w' y (-shQ u (v - 1) (u + v)) ∧ WT w' b true ∧ UK b w w' := by
  have HO : WT w b d := hT
  have hlt := hT.lt
  clear hT
  have wv : IntKind.i64.wrap ((v : Int) - 1) = ((v - 1 : Nat) : Int) := by rw [IntKind.wrap_i64]; omega
  have wx : IntKind.i64.wrap (64 - (u : Int)) = 64 - (u : Int) := by rw [IntKind.wrap_i64]; omega
  have ws : IntKind.i64.wrap ((u : Int) + (v : Int)) = ((u + v : Nat) : Int) := by rw [IntKind.wrap_i64]; omega
  have gu : ¬ (0 : Int) < (u : Int) := by omega
  have gv : (0 : Int) < (v : Int) := by omega
  have gub : decide ((0 : Int) < (u : Int)) = false := by simp; omega
  have gvb : decide ((0 : Int) < (v : Int)) = true := by simp; omega
  clear hu
  have BB : Below w.heap.size w w := Below.refl _ _
  obtain ⟨Wb0, hW0, hS0, hL0, VR⟩ := V3.lay w 35 (.bool false) (.slice none 0 0) (.slice none 0 0)
  replace ht := ht.below hL0
  replace HO := HO.below hL0
  replace BB := BB.trans (hL0.mono BB.size)
  clear hL0
  obtain ⟨Wb1, hW1, hS1, hL1, VS⟩ := V3.lay Wb0 35 (.bool false) (.slice none 0 0) (.slice none 0 0)
  rw [hS0] at VS hS1
  replace ht := ht.below hL1
  replace HO := HO.below hL1
  replace VR := VR.below hL1
  replace BB := BB.trans (hL1.mono BB.size)
  clear hL1
  go_enter Tryz.func23, Tryz.ntmps23
  go_wp2_with fail
  rw [← hW0]
  rw [← hW1]
  clear hW0 hW1 hS0 hS1
  have hR0 : w.heap.size ≠ b := by omega
  have hR1 : w.heap.size + 1 ≠ b := by omega
  obtain ⟨RS, hRS⟩ : ∃ RS, RS = w.heap.size + 1 := ⟨_, rfl⟩
  rw [← hRS] at hR1 VS
  have hRSl : w.heap.size < RS := by omega
  have hRSe : Hid (RS = w.heap.size + 1) := hRS
  rw [← hRS]
  clear hRS
  refine (within_ok _ 0 (u : Int) 64 _ (by omega) (by omega)).mono ?_
  rintro e wx ⟨rfl, hwx⟩
  replace hwx := hwx.symm
  subst hwx
  go_wp2_with fail
  refine (within_ok _ 0 (v : Int) (64 - (u : Int)) _ (by omega) (by omega)).mono ?_
  rintro e wx ⟨rfl, hwx⟩
  replace hwx := hwx.symm
  subst hwx
  go_wp2_with fail
  have BB2 : UK b w Wb1 := (UK.refl hlt).below BB
  clear BB
  have BB := BB2
  clear BB2
  refine (qzero_at _).mono ?_
  rintro e w1 ⟨r0, rfl, h0, b1⟩
  replace ht := ht.below b1
  replace HO := HO.below b1
  replace VR := VR.below b1
  replace VS := VS.below b1
  replace BB := BB.below b1
  clear b1
  obtain ⟨p0, a0, n0, c0, y0, m0, d0, rfl⟩ := h0.open
  go_wp2_with fail
  refine (qzero_at _).mono ?_
  rintro e w2 ⟨r1, rfl, h1, b2⟩
  replace ht := ht.below b2
  replace HO := HO.below b2
  replace h0 := h0.below b2
  replace VR := VR.below b2
  replace VS := VS.below b2
  replace BB := BB.below b2
  clear b2
  obtain ⟨p1, a1, n1, c1, y1, m1, d1, rfl⟩ := h1.open
  have hRw : RS < w2.heap.size := VS.lt
  have hZ1 : w.heap.size ≤ w2.heap.size := BB.size
  have hN1VR : w.heap.size < w2.heap.size := VR.lt
  have hN1VS : RS < w2.heap.size := VS.lt
  obtain ⟨W2, hW2, hS2, hL2, VI⟩ := V3.lay w2 35 (.bool p0) (.slice a0 n0 c0) (.slice y0 m0 d0)
  replace ht := ht.below hL2
  replace HO := HO.below hL2
  replace h0 := h0.below hL2
  replace h1 := h1.below hL2
  replace VR := VR.below hL2
  replace VS := VS.below hL2
  replace BB := BB.below hL2
  clear hL2
  obtain ⟨W3, hW3, hS3, hL3, VO⟩ := V3.lay W2 35 (.bool p1) (.slice a1 n1 c1) (.slice y1 m1 d1)
  replace ht := ht.below hL3
  replace HO := HO.below hL3
  replace h0 := h0.below hL3
  replace h1 := h1.below hL3
  replace VR := VR.below hL3
  replace VS := VS.below hL3
  replace VI := VI.below hL3
  replace BB := BB.below hL3
  clear hL3
  rw [hS2] at VO
  go_wp2_with fail
  rw [← hW2]
  rw [← hW3]
  generalize w2.heap.size = R1 at *
  clear hW2 hS2 hW3 hS3
  have hI : R1 ≠ b := by have := BB.size; omega
  have hI1 : R1 + 1 ≠ b := by have := BB.size; omega
  have hIw : w.heap.size < R1 := by omega
  have hwS : w.heap.size ≤ RS := by omega
  refine (share_at b u (v - 1) (u + v) d _ HO (by omega) (by omega) ht).mono ?_
  rintro e w3 ⟨v3, rfl, h3, ho⟩
  replace ht := ht.keepL ho.keep
  replace h0 := h0.keepL ho.keep
  replace h1 := h1.keepL ho.keep
  have HO2 : WT w3 b true := ho.tab
  clear HO
  have HO := HO2
  clear HO2
  replace VR := VR.upd ho.upd hR0
  replace VS := VS.upd ho.upd hR1
  replace VI := VI.upd ho.upd hI
  replace VO := VO.upd ho.upd hI1
  replace BB := BB.out ho
  clear ho
  go_wp2_with fail
  refine (qneg_at _ _ 10 _ (h3.at 10 (shQ_sz (by omega) (by omega))) (by omega) (by omega) ht).mono ?_
  rintro e w4 ⟨r6, rfl, h6, b4⟩
  replace ht := ht.below b4
  replace HO := HO.below b4
  replace h0 := h0.below b4
  replace h1 := h1.below b4
  replace h3 := h3.below b4
  replace VR := VR.below b4
  replace VS := VS.below b4
  replace VI := VI.below b4
  replace VO := VO.below b4
  replace BB := BB.below b4
  clear b4
  obtain ⟨p6, a6, n6, c6, y6, m6, d6, rfl⟩ := h6.open
  clear h3 h1
  have hKp := VO.keepJ (.bool p6) (.slice a6 n6 c6) (.slice y6 m6 d6)
  have VR_n := VR.other3 (R := R1 + 1) (by omega) (.bool p6) (.slice a6 n6 c6) (.slice y6 m6 d6)
  have VS_n := VS.other3 (R := R1 + 1) (by omega) (.bool p6) (.slice a6 n6 c6) (.slice y6 m6 d6)
  have VI_n := VI.other3 (R := R1 + 1) (by omega) (.bool p6) (.slice a6 n6 c6) (.slice y6 m6 d6)
  have VO_n := VO.same (.bool p6) (.slice a6 n6 c6) (.slice y6 m6 d6)
  have ht_n := ht.keep hKp
  have HO_n := HO.put3 VO (by omega) (.bool p6) (.slice a6 n6 c6) (.slice y6 m6 d6)
  have h0_n := h0.keep hKp
  have h6_n := h6.keep hKp
  have BB_n := BB.put3 VO (by omega) (.bool p6) (.slice a6 n6 c6) (.slice y6 m6 d6)
  clear hKp
  obtain ⟨VO_0, VO_1, VO_2, VO_3, VO_4, VO_5⟩ := id VO
  go_wp2
  clear VO_0 VO_1 VO_2 VO_3 VO_4 VO_5
  clear BB ht HO h0 h6 VR VS VI VO
  generalize ((w4.setCell ⟨R1 + 1, 0, none⟩ (.bool p6)).setCell ⟨R1 + 1, 1, none⟩ (.slice a6 n6 c6)).setCell ⟨R1 + 1, 2, none⟩ (.slice y6 m6 d6) = W4 at *
  have BB := BB_n
  have ht := ht_n
  have HO := HO_n
  have h0 := h0_n
  have h6 := h6_n
  have VR := VR_n
  have VS := VS_n
  have VI := VI_n
  have VO := VO_n
  clear BB_n ht_n HO_n h0_n h6_n VR_n VS_n VI_n VO_n
  have hDr : Below W4.heap.size W4 W4.drew := (Below.refl _ _).drew
  replace ht := ht.below hDr
  replace HO := HO.below hDr
  replace h0 := h0.below hDr
  replace h6 := h6.below hDr
  replace VR := VR.below hDr
  replace VS := VS.below hDr
  replace VI := VI.below hDr
  replace VO := VO.below hDr
  replace BB := BB.below hDr
  clear hDr
  refine wp_region_held_drew (S := (fun w' => w'.cell? ⟨R1, 0, none⟩ = some (.bool p0) ∧ w'.cell? ⟨R1, 1, none⟩ = some (.slice a0 n0 c0) ∧ w'.cell? ⟨R1, 2, none⟩ = some (.slice y0 m0 d0) ∧ w'.cell? ⟨R1 + 1, 0, none⟩ = some (.bool p6) ∧ w'.cell? ⟨R1 + 1, 1, none⟩ = some (.slice a6 n6 c6) ∧ w'.cell? ⟨R1 + 1, 2, none⟩ = some (.slice y6 m6 d6))) (by kernel_rfl) ?_ (fun hHeld => ?_)
  · exact ⟨VI.1, VI.2.1, VI.2.2.1, VO.1, VO.2.1, VO.2.2.1⟩
  generalize W4.drew = W5 at *
  refine wpAnyH_take (i := 0) (v := ?_) (by simp only [List.getElem?_toArray, List.getElem?_cons_succ, List.getElem?_cons_zero]; rfl) (by kernel_rfl) (by kernel_rfl) (by kernel_rfl) (by exact fun _ _ _ h => h) (Or.inl ⟨by rfl, ?_⟩) (by assumption) ?_
  rotate_left
  · (intro w hSw; (try dsimp only at hSw); go_simp; (try with_reducible rfl))
  (try simp only [Act.put, List.setIfInBounds_toArray, List.set_cons_zero, List.set_cons_succ])
  refine wpAnyH_take (i := 1) (v := ?_) (by simp only [List.getElem?_toArray, List.getElem?_cons_succ, List.getElem?_cons_zero]; rfl) (by kernel_rfl) (by kernel_rfl) (by kernel_rfl) (by exact fun _ _ _ h => h) (Or.inl ⟨by rfl, ?_⟩) (by assumption) ?_
  rotate_left
  · (intro w hSw; (try dsimp only at hSw); go_simp; (try with_reducible rfl))
  (try simp only [Act.put, List.setIfInBounds_toArray, List.set_cons_zero, List.set_cons_succ])
  refine wpAnyH_ready (rs := [2]) (by kernel_rfl) (by simp) ?_
  refine AllReadyH.cons (by simp only [List.getElem?_toArray, List.getElem?_cons_succ, List.getElem?_cons_zero]; rfl) (fun K hK => ?_) AllReadyH.nil
  have hKp := VR.keepJ (.bool p0) (.slice a0 n0 c0) (.slice y0 m0 d0)
  have VS_n := VS.other3 (R := w.heap.size) (by omega) (.bool p0) (.slice a0 n0 c0) (.slice y0 m0 d0)
  have VI_n := VI.other3 (R := w.heap.size) (by omega) (.bool p0) (.slice a0 n0 c0) (.slice y0 m0 d0)
  have VO_n := VO.other3 (R := w.heap.size) (by omega) (.bool p0) (.slice a0 n0 c0) (.slice y0 m0 d0)
  have VR_n := VR.same (.bool p0) (.slice a0 n0 c0) (.slice y0 m0 d0)
  have ht_n := ht.keep hKp
  have HO_n := HO.put3 VR (by omega) (.bool p0) (.slice a0 n0 c0) (.slice y0 m0 d0)
  have h0_n := h0.keep hKp
  have h6_n := h6.keep hKp
  have BB_n := BB.put3 VR (by omega) (.bool p0) (.slice a0 n0 c0) (.slice y0 m0 d0)
  clear hKp
  obtain ⟨VR_0, VR_1, VR_2, VR_3, VR_4, VR_5⟩ := id VR
  go_simp
  clear VR_0 VR_1 VR_2 VR_3 VR_4 VR_5
  clear BB ht HO h0 h6 VR VS VI VO
  generalize ((W5.setCell ⟨w.heap.size, 0, none⟩ (.bool p0)).setCell ⟨w.heap.size, 1, none⟩ (.slice a0 n0 c0)).setCell ⟨w.heap.size, 2, none⟩ (.slice y0 m0 d0) = W6 at *
  have BB := BB_n
  have ht := ht_n
  have HO := HO_n
  have h0 := h0_n
  have h6 := h6_n
  have VR := VR_n
  have VS := VS_n
  have VI := VI_n
  have VO := VO_n
  clear BB_n ht_n HO_n h0_n h6_n VR_n VS_n VI_n VO_n
  refine hK.out _ _ ?_ (fun hH1 => ?_)
  · exact ⟨VI.1, VI.2.1, VI.2.2.1, VO.1, VO.2.1, VO.2.2.1⟩
  clear hK K hHeld
  (try simp only [Act.put, List.setIfInBounds_toArray, List.set_cons_zero, List.set_cons_succ])
  refine wpAnyH_ready (rs := [3]) (by kernel_rfl) (by simp) ?_
  refine AllReadyH.cons (by simp only [List.getElem?_toArray, List.getElem?_cons_succ, List.getElem?_cons_zero]; rfl) (fun K hK => ?_) AllReadyH.nil
  have hKp := VS.keepJ (.bool p6) (.slice a6 n6 c6) (.slice y6 m6 d6)
  have VR_n := VR.other3 (R := RS) (by omega) (.bool p6) (.slice a6 n6 c6) (.slice y6 m6 d6)
  have VI_n := VI.other3 (R := RS) (by omega) (.bool p6) (.slice a6 n6 c6) (.slice y6 m6 d6)
  have VO_n := VO.other3 (R := RS) (by omega) (.bool p6) (.slice a6 n6 c6) (.slice y6 m6 d6)
  have VS_n := VS.same (.bool p6) (.slice a6 n6 c6) (.slice y6 m6 d6)
  have ht_n := ht.keep hKp
  have HO_n := HO.put3 VS (by omega) (.bool p6) (.slice a6 n6 c6) (.slice y6 m6 d6)
  have h0_n := h0.keep hKp
  have h6_n := h6.keep hKp
  have BB_n := BB.put3 VS (by omega) (.bool p6) (.slice a6 n6 c6) (.slice y6 m6 d6)
  clear hKp
  obtain ⟨VS_0, VS_1, VS_2, VS_3, VS_4, VS_5⟩ := id VS
  go_simp
  clear VS_0 VS_1 VS_2 VS_3 VS_4 VS_5
  clear BB ht HO h0 h6 VR VS VI VO
  generalize ((W6.setCell ⟨RS, 0, none⟩ (.bool p6)).setCell ⟨RS, 1, none⟩ (.slice a6 n6 c6)).setCell ⟨RS, 2, none⟩ (.slice y6 m6 d6) = W7 at *
  have BB := BB_n
  have ht := ht_n
  have HO := HO_n
  have h0 := h0_n
  have h6 := h6_n
  have VR := VR_n
  have VS := VS_n
  have VI := VI_n
  have VO := VO_n
  clear BB_n ht_n HO_n h0_n h6_n VR_n VS_n VI_n VO_n
  refine hK.out _ _ ?_ (fun hH2 => ?_)
  · exact ⟨VI.1, VI.2.1, VI.2.2.1, VO.1, VO.2.1, VO.2.2.1⟩
  clear hK K hH1
  (try simp only [Act.put, List.setIfInBounds_toArray, List.set_cons_zero, List.set_cons_succ])
  refine wpAnyH_take (i := 4) (v := ?_) (by simp only [List.getElem?_toArray, List.getElem?_cons_succ, List.getElem?_cons_zero]; rfl) (by kernel_rfl) (by kernel_rfl) (by kernel_rfl) (by exact fun _ _ _ h => h) (Or.inl ⟨by rfl, ?_⟩) (by assumption) ?_
  rotate_left
  · (intro w hSw; (try dsimp only at hSw); go_simp; (try with_reducible rfl))
  (try simp only [Act.put, List.setIfInBounds_toArray, List.set_cons_zero, List.set_cons_succ])
  refine wpAnyH_done (by kernel_rfl) ?_ _
  clear hH2
  obtain ⟨q1, q2, q3, q4, q5, q6⟩ := id VR
  obtain ⟨s1, s2, s3, s4, s5, s6⟩ := id VS
  go_wp2
  (try simp only [Exit.inBlock, Exit.then])
  refine bodyPost_ret (v := .tuple #[.agg #[.bool p0, .slice a0 n0 c0, .slice y0 m0 d0], .agg #[.bool p6, .slice a6 n6 c6, .slice y6 m6 d6], .int .i64 0]) (by simp [results, go_sem, q1, q2, q3, s1, s2, s3]) rfl ?_
  exact ⟨_, _, rfl, h0, h6, HO, BB⟩

set_option maxRecDepth 100000 in
set_option maxHeartbeats 6000000 in
theorem tneed_00 (b u v : Nat) (d : Bool) (w : World) (hT : WT w b d) (hn : u + v ≤ 64) (hu : u = 0) (hv : v = 0) (ht : Tab w) :
    Calls Tryz.prog 23 #[.pointer (some ⟨b, 0, none⟩), .int .i64 (u : Int), .int .i64 (v : Int)] w fun e w' => ∃ x y, e = .returned (.tuple #[x, y, .int .i64 0]) ∧ RepQ w' x 0 ∧ RepQ w' y 0 ∧ WT w' b d ∧ UK b w w' := by
  have HO : WT w b d := hT
  have hlt := hT.lt
  clear hT
  have wx : IntKind.i64.wrap (64 - (u : Int)) = 64 - (u : Int) := by rw [IntKind.wrap_i64]; omega
  have ws : IntKind.i64.wrap ((u : Int) + (v : Int)) = ((u + v : Nat) : Int) := by rw [IntKind.wrap_i64]; omega
  have gu : ¬ (0 : Int) < (u : Int) := by omega
  have gv : ¬ (0 : Int) < (v : Int) := by omega
  have gub : decide ((0 : Int) < (u : Int)) = false := by simp; omega
  have gvb : decide ((0 : Int) < (v : Int)) = false := by simp; omega
  clear hu
  clear hv
  have BB : Below w.heap.size w w := Below.refl _ _
  obtain ⟨Wb0, hW0, hS0, hL0, VR⟩ := V3.lay w 35 (.bool false) (.slice none 0 0) (.slice none 0 0)
  replace ht := ht.below hL0
  replace HO := HO.below hL0
  replace BB := BB.trans (hL0.mono BB.size)
  clear hL0
  obtain ⟨Wb1, hW1, hS1, hL1, VS⟩ := V3.lay Wb0 35 (.bool false) (.slice none 0 0) (.slice none 0 0)
  rw [hS0] at VS hS1
  replace ht := ht.below hL1
  replace HO := HO.below hL1
  replace VR := VR.below hL1
  replace BB := BB.trans (hL1.mono BB.size)
  clear hL1
  go_enter Tryz.func23, Tryz.ntmps23
  go_wp2_with fail
  rw [← hW0]
  rw [← hW1]
  clear hW0 hW1 hS0 hS1
  have hR0 : w.heap.size ≠ b := by omega
  have hR1 : w.heap.size + 1 ≠ b := by omega
  obtain ⟨RS, hRS⟩ : ∃ RS, RS = w.heap.size + 1 := ⟨_, rfl⟩
  rw [← hRS] at hR1 VS
  have hRSl : w.heap.size < RS := by omega
  have hRSe : Hid (RS = w.heap.size + 1) := hRS
  rw [← hRS]
  clear hRS
  refine (within_ok _ 0 (u : Int) 64 _ (by omega) (by omega)).mono ?_
  rintro e wx ⟨rfl, hwx⟩
  replace hwx := hwx.symm
  subst hwx
  go_wp2_with fail
  refine (within_ok _ 0 (v : Int) (64 - (u : Int)) _ (by omega) (by omega)).mono ?_
  rintro e wx ⟨rfl, hwx⟩
  replace hwx := hwx.symm
  subst hwx
  go_wp2_with fail
  have BB2 : UK b w Wb1 := (UK.refl hlt).below BB
  clear BB
  have BB := BB2
  clear BB2
  refine (qzero_at _).mono ?_
  rintro e w1 ⟨r0, rfl, h0, b1⟩
  replace ht := ht.below b1
  replace HO := HO.below b1
  replace VR := VR.below b1
  replace VS := VS.below b1
  replace BB := BB.below b1
  clear b1
  obtain ⟨p0, a0, n0, c0, y0, m0, d0, rfl⟩ := h0.open
  go_wp2_with fail
  refine (qzero_at _).mono ?_
  rintro e w2 ⟨r1, rfl, h1, b2⟩
  replace ht := ht.below b2
  replace HO := HO.below b2
  replace h0 := h0.below b2
  replace VR := VR.below b2
  replace VS := VS.below b2
  replace BB := BB.below b2
  clear b2
  obtain ⟨p1, a1, n1, c1, y1, m1, d1, rfl⟩ := h1.open
  have hRw : RS < w2.heap.size := VS.lt
  have hZ1 : w.heap.size ≤ w2.heap.size := BB.size
  have hN1VR : w.heap.size < w2.heap.size := VR.lt
  have hN1VS : RS < w2.heap.size := VS.lt
  obtain ⟨W2, hW2, hS2, hL2, VI⟩ := V3.lay w2 35 (.bool p0) (.slice a0 n0 c0) (.slice y0 m0 d0)
  replace ht := ht.below hL2
  replace HO := HO.below hL2
  replace h0 := h0.below hL2
  replace h1 := h1.below hL2
  replace VR := VR.below hL2
  replace VS := VS.below hL2
  replace BB := BB.below hL2
  clear hL2
  obtain ⟨W3, hW3, hS3, hL3, VO⟩ := V3.lay W2 35 (.bool p1) (.slice a1 n1 c1) (.slice y1 m1 d1)
  replace ht := ht.below hL3
  replace HO := HO.below hL3
  replace h0 := h0.below hL3
  replace h1 := h1.below hL3
  replace VR := VR.below hL3
  replace VS := VS.below hL3
  replace VI := VI.below hL3
  replace BB := BB.below hL3
  clear hL3
  rw [hS2] at VO
  go_wp2
  rw [← hW2]
  rw [← hW3]
  generalize w2.heap.size = R1 at *
  clear hW2 hS2 hW3 hS3
  have hI : R1 ≠ b := by have := BB.size; omega
  have hI1 : R1 + 1 ≠ b := by have := BB.size; omega
  have hIw : w.heap.size < R1 := by omega
  have hwS : w.heap.size ≤ RS := by omega
  have hDr : Below W3.heap.size W3 W3.drew := (Below.refl _ _).drew
  replace ht := ht.below hDr
  replace HO := HO.below hDr
  replace h0 := h0.below hDr
  replace h1 := h1.below hDr
  replace VR := VR.below hDr
  replace VS := VS.below hDr
  replace VI := VI.below hDr
  replace VO := VO.below hDr
  replace BB := BB.below hDr
  clear hDr
  refine wp_region_held_drew (S := (fun w' => w'.cell? ⟨R1, 0, none⟩ = some (.bool p0) ∧ w'.cell? ⟨R1, 1, none⟩ = some (.slice a0 n0 c0) ∧ w'.cell? ⟨R1, 2, none⟩ = some (.slice y0 m0 d0) ∧ w'.cell? ⟨R1 + 1, 0, none⟩ = some (.bool p1) ∧ w'.cell? ⟨R1 + 1, 1, none⟩ = some (.slice a1 n1 c1) ∧ w'.cell? ⟨R1 + 1, 2, none⟩ = some (.slice y1 m1 d1))) (by kernel_rfl) ?_ (fun hHeld => ?_)
  · exact ⟨VI.1, VI.2.1, VI.2.2.1, VO.1, VO.2.1, VO.2.2.1⟩
  generalize W3.drew = W4 at *
  refine wpAnyH_take (i := 0) (v := ?_) (by simp only [List.getElem?_toArray, List.getElem?_cons_succ, List.getElem?_cons_zero]; rfl) (by kernel_rfl) (by kernel_rfl) (by kernel_rfl) (by exact fun _ _ _ h => h) (Or.inl ⟨by rfl, ?_⟩) (by assumption) ?_
  rotate_left
  · (intro w hSw; (try dsimp only at hSw); go_simp; (try with_reducible rfl))
  (try simp only [Act.put, List.setIfInBounds_toArray, List.set_cons_zero, List.set_cons_succ])
  refine wpAnyH_take (i := 1) (v := ?_) (by simp only [List.getElem?_toArray, List.getElem?_cons_succ, List.getElem?_cons_zero]; rfl) (by kernel_rfl) (by kernel_rfl) (by kernel_rfl) (by exact fun _ _ _ h => h) (Or.inl ⟨by rfl, ?_⟩) (by assumption) ?_
  rotate_left
  · (intro w hSw; (try dsimp only at hSw); go_simp; (try with_reducible rfl))
  (try simp only [Act.put, List.setIfInBounds_toArray, List.set_cons_zero, List.set_cons_succ])
  refine wpAnyH_ready (rs := [2]) (by kernel_rfl) (by simp) ?_
  refine AllReadyH.cons (by simp only [List.getElem?_toArray, List.getElem?_cons_succ, List.getElem?_cons_zero]; rfl) (fun K hK => ?_) AllReadyH.nil
  have hKp := VR.keepJ (.bool p0) (.slice a0 n0 c0) (.slice y0 m0 d0)
  have VS_n := VS.other3 (R := w.heap.size) (by omega) (.bool p0) (.slice a0 n0 c0) (.slice y0 m0 d0)
  have VI_n := VI.other3 (R := w.heap.size) (by omega) (.bool p0) (.slice a0 n0 c0) (.slice y0 m0 d0)
  have VO_n := VO.other3 (R := w.heap.size) (by omega) (.bool p0) (.slice a0 n0 c0) (.slice y0 m0 d0)
  have VR_n := VR.same (.bool p0) (.slice a0 n0 c0) (.slice y0 m0 d0)
  have ht_n := ht.keep hKp
  have HO_n := HO.put3 VR (by omega) (.bool p0) (.slice a0 n0 c0) (.slice y0 m0 d0)
  have h0_n := h0.keep hKp
  have h1_n := h1.keep hKp
  have BB_n := BB.put3 VR (by omega) (.bool p0) (.slice a0 n0 c0) (.slice y0 m0 d0)
  clear hKp
  obtain ⟨VR_0, VR_1, VR_2, VR_3, VR_4, VR_5⟩ := id VR
  go_simp
  clear VR_0 VR_1 VR_2 VR_3 VR_4 VR_5
  clear BB ht HO h0 h1 VR VS VI VO
  generalize ((W4.setCell ⟨w.heap.size, 0, none⟩ (.bool p0)).setCell ⟨w.heap.size, 1, none⟩ (.slice a0 n0 c0)).setCell ⟨w.heap.size, 2, none⟩ (.slice y0 m0 d0) = W5 at *
  have BB := BB_n
  have ht := ht_n
  have HO := HO_n
  have h0 := h0_n
  have h1 := h1_n
  have VR := VR_n
  have VS := VS_n
  have VI := VI_n
  have VO := VO_n
  clear BB_n ht_n HO_n h0_n h1_n VR_n VS_n VI_n VO_n
  refine hK.out _ _ ?_ (fun hH1 => ?_)
  · exact ⟨VI.1, VI.2.1, VI.2.2.1, VO.1, VO.2.1, VO.2.2.1⟩
  clear hK K hHeld
  (try simp only [Act.put, List.setIfInBounds_toArray, List.set_cons_zero, List.set_cons_succ])
  refine wpAnyH_ready (rs := [3]) (by kernel_rfl) (by simp) ?_
  refine AllReadyH.cons (by simp only [List.getElem?_toArray, List.getElem?_cons_succ, List.getElem?_cons_zero]; rfl) (fun K hK => ?_) AllReadyH.nil
  have hKp := VS.keepJ (.bool p1) (.slice a1 n1 c1) (.slice y1 m1 d1)
  have VR_n := VR.other3 (R := RS) (by omega) (.bool p1) (.slice a1 n1 c1) (.slice y1 m1 d1)
  have VI_n := VI.other3 (R := RS) (by omega) (.bool p1) (.slice a1 n1 c1) (.slice y1 m1 d1)
  have VO_n := VO.other3 (R := RS) (by omega) (.bool p1) (.slice a1 n1 c1) (.slice y1 m1 d1)
  have VS_n := VS.same (.bool p1) (.slice a1 n1 c1) (.slice y1 m1 d1)
  have ht_n := ht.keep hKp
  have HO_n := HO.put3 VS (by omega) (.bool p1) (.slice a1 n1 c1) (.slice y1 m1 d1)
  have h0_n := h0.keep hKp
  have h1_n := h1.keep hKp
  have BB_n := BB.put3 VS (by omega) (.bool p1) (.slice a1 n1 c1) (.slice y1 m1 d1)
  clear hKp
  obtain ⟨VS_0, VS_1, VS_2, VS_3, VS_4, VS_5⟩ := id VS
  go_simp
  clear VS_0 VS_1 VS_2 VS_3 VS_4 VS_5
  clear BB ht HO h0 h1 VR VS VI VO
  generalize ((W5.setCell ⟨RS, 0, none⟩ (.bool p1)).setCell ⟨RS, 1, none⟩ (.slice a1 n1 c1)).setCell ⟨RS, 2, none⟩ (.slice y1 m1 d1) = W6 at *
  have BB := BB_n
  have ht := ht_n
  have HO := HO_n
  have h0 := h0_n
  have h1 := h1_n
  have VR := VR_n
  have VS := VS_n
  have VI := VI_n
  have VO := VO_n
  clear BB_n ht_n HO_n h0_n h1_n VR_n VS_n VI_n VO_n
  refine hK.out _ _ ?_ (fun hH2 => ?_)
  · exact ⟨VI.1, VI.2.1, VI.2.2.1, VO.1, VO.2.1, VO.2.2.1⟩
  clear hK K hH1
  (try simp only [Act.put, List.setIfInBounds_toArray, List.set_cons_zero, List.set_cons_succ])
  refine wpAnyH_take (i := 4) (v := ?_) (by simp only [List.getElem?_toArray, List.getElem?_cons_succ, List.getElem?_cons_zero]; rfl) (by kernel_rfl) (by kernel_rfl) (by kernel_rfl) (by exact fun _ _ _ h => h) (Or.inl ⟨by rfl, ?_⟩) (by assumption) ?_
  rotate_left
  · (intro w hSw; (try dsimp only at hSw); go_simp; (try with_reducible rfl))
  (try simp only [Act.put, List.setIfInBounds_toArray, List.set_cons_zero, List.set_cons_succ])
  refine wpAnyH_done (by kernel_rfl) ?_ _
  clear hH2
  obtain ⟨q1, q2, q3, q4, q5, q6⟩ := id VR
  obtain ⟨s1, s2, s3, s4, s5, s6⟩ := id VS
  go_wp2
  (try simp only [Exit.inBlock, Exit.then])
  refine bodyPost_ret (v := .tuple #[.agg #[.bool p0, .slice a0 n0 c0, .slice y0 m0 d0], .agg #[.bool p1, .slice a1 n1 c1, .slice y1 m1 d1], .int .i64 0]) (by simp [results, go_sem, q1, q2, q3, s1, s2, s3]) rfl ?_
  exact ⟨_, _, rfl, h0, h1, HO, BB⟩

theorem sh_113 : shQ 1 1 3 = ((1 : Int) : Rat) / ((6 : Int) : Rat) := by decide +kernel
theorem sh_012 : shQ (1 - 1) 1 (1 + 1) = ((1 : Int) : Rat) / ((2 : Int) : Rat) := by decide +kernel
theorem sh_102 : -shQ 1 (1 - 1) (1 + 1) = ((-1 : Int) : Rat) / ((2 : Int) : Rat) := by decide +kernel
theorem frac_sz (a b : Int) (ha : a.natAbs ≤ 64) (hb : b.natAbs ≤ 64) : qsz ((a : Rat) / (b : Rat)) ≤ 10 := Nat.le_trans (qsz_div _ _ (qsz_int a (L := 2) ((nl_two _).2 (by omega)) (by omega)) (qsz_int b (L := 2) ((nl_two _).2 (by omega)) (by omega))) (by omega)
theorem abs_1_64 : (1 : Int).natAbs ≤ 64 := by decide

set_option maxRecDepth 100000 in
set_option maxHeartbeats 6000000 in
theorem awake14_at (w : World) (ht : Tab w) :
    Calls Tryz.prog 12 #[] w fun e w' => e = .returned (.bool true) ∧ Below w.heap.size w w' := by
  have BB : Below w.heap.size w w := Below.refl _ _
  go_enter Tryz.func12, Tryz.ntmps12
  go_wp2_with fail
  refine (new_at _).mono ?_
  rintro e w1 ⟨rfl, hsz, HN, b1⟩
  replace ht := ht.below b1
  replace BB := BB.trans (b1.mono BB.size)
  have hbb : w.heap.size ≤ w.heap.size := Nat.le_refl _
  have hb1 : w.heap.size ≤ w1.heap.size := BB.size
  clear b1
  obtain ⟨b, hb⟩ : ∃ b, b = w.heap.size := ⟨_, rfl⟩
  have hbw : w.heap.size ≤ b := by omega
  rw [← hb] at HN
  have HT : WT w1 b false := HN
  rw [← hb]
  clear HN hb hbb hsz
  go_wp2_with fail
  refine (tweight_at b 1 3 false _ HT (by omega) (by omega) ht).mono ?_
  rintro e w2 ⟨r2, rfl, h2, ho⟩
  replace ht := ht.keepL ho.keep
  have HO : WT w2 b true := ho.tab
  replace BB := BB.trans (ho.upd.below hbw BB.size)
  clear ho HT
  rw [show 3 - 1 - 1 = 1 by rfl, sh_113] at h2
  obtain ⟨p2, a2, n2, c2, y2, m2, d2, rfl⟩ := h2.open
  have hbl : b < w2.heap.size := HO.lt
  have hZ1 : w.heap.size ≤ w2.heap.size := BB.size
  obtain ⟨W1, hW1, hS1, hL1, VA⟩ := V3.lay w2 35 (.bool p2) (.slice a2 n2 c2) (.slice y2 m2 d2)
  replace ht := ht.below hL1
  replace h2 := h2.below hL1
  replace HO := HO.below hL1
  replace BB := BB.trans (hL1.mono BB.size)
  clear hL1
  go_wp2_with fail
  rw [← hW1]
  generalize w2.heap.size = R1 at *
  clear hW1 hS1
  refine (tneed_uv b 1 1 true _ HO (by omega) (by omega) (by omega) ht).mono ?_
  rintro e w5 ⟨r3, r4, rfl, h3, h4, HO5, ho⟩
  replace ht := ht.keepL ho.keep
  replace h2 := h2.keepL ho.keep
  replace VA := VA.upd ho.upd (by omega)
  replace BB := BB.trans (ho.low hbw BB.size)
  clear ho HO HO5
  rw [sh_012] at h3
  rw [sh_102] at h4
  obtain ⟨p3, a3, n3, c3, y3, m3, d3, rfl⟩ := h3.open
  obtain ⟨p4, a4, n4, c4, y4, m4, d4, rfl⟩ := h4.open
  have hZ2 : w.heap.size ≤ w5.heap.size := BB.size
  have hN2VA : R1 < w5.heap.size := VA.lt
  obtain ⟨W3, hW3, hS3, hL3, VB⟩ := V3.lay w5 35 (.bool p3) (.slice a3 n3 c3) (.slice y3 m3 d3)
  replace ht := ht.below hL3
  replace h2 := h2.below hL3
  replace h3 := h3.below hL3
  replace h4 := h4.below hL3
  replace VA := VA.below hL3
  replace BB := BB.trans (hL3.mono BB.size)
  clear hL3
  obtain ⟨W4, hW4, hS4, hL4, VC⟩ := V3.lay W3 35 (.bool p4) (.slice a4 n4 c4) (.slice y4 m4 d4)
  replace ht := ht.below hL4
  replace h2 := h2.below hL4
  replace h3 := h3.below hL4
  replace h4 := h4.below hL4
  replace VA := VA.below hL4
  replace VB := VB.below hL4
  replace BB := BB.trans (hL4.mono BB.size)
  clear hL4
  rw [hS3] at VC
  go_wp2
  rw [← hW3]
  rw [← hW4]
  generalize w5.heap.size = R2 at *
  clear hW3 hS3 hW4 hS4
  have hDr : Below W4.heap.size W4 W4.drew := (Below.refl _ _).drew
  replace ht := ht.below hDr
  replace h2 := h2.below hDr
  replace h3 := h3.below hDr
  replace h4 := h4.below hDr
  replace VA := VA.below hDr
  replace VB := VB.below hDr
  replace VC := VC.below hDr
  replace BB := BB.trans (hDr.mono BB.size)
  clear hDr
  refine wp_region_held_drew (S := (fun w' => w'.cell? ⟨R1, 0, none⟩ = some (.bool p2) ∧ w'.cell? ⟨R1, 1, none⟩ = some (.slice a2 n2 c2) ∧ w'.cell? ⟨R1, 2, none⟩ = some (.slice y2 m2 d2) ∧ w'.cell? ⟨R2, 0, none⟩ = some (.bool p3) ∧ w'.cell? ⟨R2, 1, none⟩ = some (.slice a3 n3 c3) ∧ w'.cell? ⟨R2, 2, none⟩ = some (.slice y3 m3 d3) ∧ w'.cell? ⟨R2 + 1, 0, none⟩ = some (.bool p4) ∧ w'.cell? ⟨R2 + 1, 1, none⟩ = some (.slice a4 n4 c4) ∧ w'.cell? ⟨R2 + 1, 2, none⟩ = some (.slice y4 m4 d4))) (by kernel_rfl) ?_ (fun hHeld => ?_)
  · exact ⟨VA.1, VA.2.1, VA.2.2.1, VB.1, VB.2.1, VB.2.2.1, VC.1, VC.2.1, VC.2.2.1⟩
  generalize W4.drew = W5 at *
  refine wpAnyH_take (i := 0) (v := ?_) (by simp only [List.getElem?_toArray, List.getElem?_cons_succ, List.getElem?_cons_zero]; rfl) (by kernel_rfl) (by kernel_rfl) (by kernel_rfl) (by exact fun _ _ _ h => h) (Or.inl ⟨by rfl, ?_⟩) (by assumption) ?_
  rotate_left
  · (intro w hSw; (try dsimp only at hSw); go_simp; (try with_reducible rfl))
  (try simp only [Act.put, List.setIfInBounds_toArray, List.set_cons_zero, List.set_cons_succ])
  refine wpAnyH_take (i := 1) (v := ?_) (by simp only [List.getElem?_toArray, List.getElem?_cons_succ, List.getElem?_cons_zero]; rfl) (by kernel_rfl) (by kernel_rfl) (by kernel_rfl) (by exact fun _ _ _ h => h) (Or.inl ⟨by rfl, ?_⟩) (by assumption) ?_
  rotate_left
  · (intro w hSw; (try dsimp only at hSw); go_simp; (try with_reducible rfl))
  (try simp only [Act.put, List.setIfInBounds_toArray, List.set_cons_zero, List.set_cons_succ])
  refine wpAnyH_take (i := 2) (v := ?_) (by simp only [List.getElem?_toArray, List.getElem?_cons_succ, List.getElem?_cons_zero]; rfl) (by kernel_rfl) (by kernel_rfl) (by kernel_rfl) (by exact fun _ _ _ h => h) (Or.inl ⟨by rfl, ?_⟩) (by assumption) ?_
  rotate_left
  · (intro w hSw; (try dsimp only at hSw); go_simp; (try with_reducible rfl))
  (try simp only [Act.put, List.setIfInBounds_toArray, List.set_cons_zero, List.set_cons_succ])
  refine wpAnyH_take (i := 3) (v := ?_) (by simp only [List.getElem?_toArray, List.getElem?_cons_succ, List.getElem?_cons_zero]; rfl) (by kernel_rfl) (by kernel_rfl) (by kernel_rfl) (by exact fun _ _ _ h => h) (Or.inl ⟨by rfl, ?_⟩) (by assumption) ?_
  rotate_left
  · (intro w hSw; (try dsimp only at hSw); go_simp; (try with_reducible rfl))
  (try simp only [Act.put, List.setIfInBounds_toArray, List.set_cons_zero, List.set_cons_succ])
  refine wpAnyH_take (i := 4) (v := ?_) (by simp only [List.getElem?_toArray, List.getElem?_cons_succ, List.getElem?_cons_zero]; rfl) (by kernel_rfl) (by kernel_rfl) (by kernel_rfl) (by exact fun _ _ _ h => h) (Or.inl ⟨by rfl, ?_⟩) (by assumption) ?_
  rotate_left
  · (intro w hSw; (try dsimp only at hSw); go_simp; (try with_reducible rfl))
  (try simp only [Act.put, List.setIfInBounds_toArray, List.set_cons_zero, List.set_cons_succ])
  refine wpAnyH_take (i := 5) (v := ?_) (by simp only [List.getElem?_toArray, List.getElem?_cons_succ, List.getElem?_cons_zero]; rfl) (by kernel_rfl) (by kernel_rfl) (by kernel_rfl) (by exact fun _ _ _ h => h) (Or.inl ⟨by rfl, ?_⟩) (by assumption) ?_
  rotate_left
  · (intro w hSw; (try dsimp only at hSw); go_simp; (try with_reducible rfl))
  (try simp only [Act.put, List.setIfInBounds_toArray, List.set_cons_zero, List.set_cons_succ])
  refine wpAnyH_take (i := 6) (v := ?_) (by simp only [List.getElem?_toArray, List.getElem?_cons_succ, List.getElem?_cons_zero]; rfl) (by kernel_rfl) (by kernel_rfl) (by kernel_rfl) (by exact fun _ _ _ h => h) (Or.inl ⟨by rfl, ?_⟩) (by assumption) ?_
  rotate_left
  · (intro w hSw; (try dsimp only at hSw); go_simp; (try with_reducible rfl))
  (try simp only [Act.put, List.setIfInBounds_toArray, List.set_cons_zero, List.set_cons_succ])
  refine wpAnyH_take (i := 7) (v := ?_) (by simp only [List.getElem?_toArray, List.getElem?_cons_succ, List.getElem?_cons_zero]; rfl) (by kernel_rfl) (by kernel_rfl) (by kernel_rfl) (by exact fun _ _ _ h => h) (Or.inl ⟨by rfl, ?_⟩) (by assumption) ?_
  rotate_left
  · (intro w hSw; (try dsimp only at hSw); go_simp; (try with_reducible rfl))
  (try simp only [Act.put, List.setIfInBounds_toArray, List.set_cons_zero, List.set_cons_succ])
  refine wpAnyH_ready (rs := [8]) (by kernel_rfl) (by simp) ?_
  refine AllReadyH.cons (by simp only [List.getElem?_toArray, List.getElem?_cons_succ, List.getElem?_cons_zero]; rfl) (fun K hK => ?_) AllReadyH.nil
  go_simp
  refine (qfrac_at 1 6 _ (by omega) (by omega) (by omega) (by omega) ht).mono ?_
  rintro e w6 ⟨x6, rfl, h6, b6⟩
  go_wp2_with fail
  replace ht := ht.below b6
  replace h2 := h2.below b6
  replace h3 := h3.below b6
  replace h4 := h4.below b6
  replace VA := VA.below b6
  replace VB := VB.below b6
  replace VC := VC.below b6
  replace BB := BB.trans (b6.mono BB.size)
  clear b6
  refine hK.out _ _ ?_ (fun hH1 => ?_)
  · exact ⟨VA.1, VA.2.1, VA.2.2.1, VB.1, VB.2.1, VB.2.2.1, VC.1, VC.2.1, VC.2.2.1⟩
  clear hK K hHeld
  (try simp only [Act.put, List.setIfInBounds_toArray, List.set_cons_zero, List.set_cons_succ])
  refine wpAnyH_ready (rs := [9]) (by kernel_rfl) (by simp) ?_
  refine AllReadyH.cons (by simp only [List.getElem?_toArray, List.getElem?_cons_succ, List.getElem?_cons_zero]; rfl) (fun K hK => ?_) AllReadyH.nil
  go_simp
  refine (qsame_at _ _ _ _ 10 _ (h2.at 10 (frac_sz _ _ (by decide) (by decide))) (h6.at 10 (frac_sz _ _ (by decide) (by decide))) (by omega) (by omega)).mono ?_
  rintro e w7 ⟨rfl, b7⟩
  rw [decide_eq_true rfl]
  go_wp2_with fail
  replace ht := ht.below b7
  replace h2 := h2.below b7
  replace h3 := h3.below b7
  replace h4 := h4.below b7
  replace h6 := h6.below b7
  replace VA := VA.below b7
  replace VB := VB.below b7
  replace VC := VC.below b7
  replace BB := BB.trans (b7.mono BB.size)
  clear b7
  refine hK.out _ _ ?_ (fun hH2 => ?_)
  · exact ⟨VA.1, VA.2.1, VA.2.2.1, VB.1, VB.2.1, VB.2.2.1, VC.1, VC.2.1, VC.2.2.1⟩
  clear hK K hH1
  (try simp only [Act.put, List.setIfInBounds_toArray, List.set_cons_zero, List.set_cons_succ])
  refine wpAnyH_take (i := 10) (v := ?_) (by simp only [List.getElem?_toArray, List.getElem?_cons_succ, List.getElem?_cons_zero]; rfl) (by kernel_rfl) (by kernel_rfl) (by kernel_rfl) (by exact fun _ _ _ h => h) (Or.inl ⟨by rfl, ?_⟩) (by assumption) ?_
  rotate_left
  · (intro w hSw; (try dsimp only at hSw); go_simp; (try with_reducible rfl))
  (try simp only [Act.put, List.setIfInBounds_toArray, List.set_cons_zero, List.set_cons_succ])
  refine wpAnyH_take (i := 11) (v := ?_) (by simp only [List.getElem?_toArray, List.getElem?_cons_succ, List.getElem?_cons_zero]; rfl) (by kernel_rfl) (by kernel_rfl) (by kernel_rfl) (by exact fun _ _ _ h => h) (Or.inl ⟨by rfl, ?_⟩) (by assumption) ?_
  rotate_left
  · (intro w hSw; (try dsimp only at hSw); go_simp; (try with_reducible rfl))
  (try simp only [Act.put, List.setIfInBounds_toArray, List.set_cons_zero, List.set_cons_succ])
  refine wpAnyH_take (i := 12) (v := ?_) (by simp only [List.getElem?_toArray, List.getElem?_cons_succ, List.getElem?_cons_zero]; rfl) (by kernel_rfl) (by kernel_rfl) (by kernel_rfl) (by exact fun _ _ _ h => h) (Or.inl ⟨by rfl, ?_⟩) (by assumption) ?_
  rotate_left
  · (intro w hSw; (try dsimp only at hSw); go_simp; (try with_reducible rfl))
  (try simp only [Act.put, List.setIfInBounds_toArray, List.set_cons_zero, List.set_cons_succ])
  refine wpAnyH_ready (rs := [13]) (by kernel_rfl) (by simp) ?_
  refine AllReadyH.cons (by simp only [List.getElem?_toArray, List.getElem?_cons_succ, List.getElem?_cons_zero]; rfl) (fun K hK => ?_) AllReadyH.nil
  go_simp
  refine (qfrac_at 1 2 _ (by omega) (by omega) (by omega) (by omega) ht).mono ?_
  rintro e w8 ⟨x7, rfl, h7, b8⟩
  go_wp2_with fail
  replace ht := ht.below b8
  replace h2 := h2.below b8
  replace h3 := h3.below b8
  replace h4 := h4.below b8
  replace h6 := h6.below b8
  replace VA := VA.below b8
  replace VB := VB.below b8
  replace VC := VC.below b8
  replace BB := BB.trans (b8.mono BB.size)
  clear b8
  refine hK.out _ _ ?_ (fun hH3 => ?_)
  · exact ⟨VA.1, VA.2.1, VA.2.2.1, VB.1, VB.2.1, VB.2.2.1, VC.1, VC.2.1, VC.2.2.1⟩
  clear hK K hH2
  (try simp only [Act.put, List.setIfInBounds_toArray, List.set_cons_zero, List.set_cons_succ])
  refine wpAnyH_ready (rs := [14]) (by kernel_rfl) (by simp) ?_
  refine AllReadyH.cons (by simp only [List.getElem?_toArray, List.getElem?_cons_succ, List.getElem?_cons_zero]; rfl) (fun K hK => ?_) AllReadyH.nil
  go_simp
  refine (qsame_at _ _ _ _ 10 _ (h3.at 10 (frac_sz _ _ (by decide) (by decide))) (h7.at 10 (frac_sz _ _ (by decide) (by decide))) (by omega) (by omega)).mono ?_
  rintro e w9 ⟨rfl, b9⟩
  rw [decide_eq_true rfl]
  go_wp2_with fail
  replace ht := ht.below b9
  replace h2 := h2.below b9
  replace h3 := h3.below b9
  replace h4 := h4.below b9
  replace h6 := h6.below b9
  replace h7 := h7.below b9
  replace VA := VA.below b9
  replace VB := VB.below b9
  replace VC := VC.below b9
  replace BB := BB.trans (b9.mono BB.size)
  clear b9
  refine hK.out _ _ ?_ (fun hH4 => ?_)
  · exact ⟨VA.1, VA.2.1, VA.2.2.1, VB.1, VB.2.1, VB.2.2.1, VC.1, VC.2.1, VC.2.2.1⟩
  clear hK K hH3
  (try simp only [Act.put, List.setIfInBounds_toArray, List.set_cons_zero, List.set_cons_succ])
  refine wpAnyH_take (i := 15) (v := ?_) (by simp only [List.getElem?_toArray, List.getElem?_cons_succ, List.getElem?_cons_zero]; rfl) (by kernel_rfl) (by kernel_rfl) (by kernel_rfl) (by exact fun _ _ _ h => h) (Or.inl ⟨by rfl, ?_⟩) (by assumption) ?_
  rotate_left
  · (intro w hSw; (try dsimp only at hSw); go_simp; (try with_reducible rfl))
  (try simp only [Act.put, List.setIfInBounds_toArray, List.set_cons_zero, List.set_cons_succ])
  refine wpAnyH_take (i := 16) (v := ?_) (by simp only [List.getElem?_toArray, List.getElem?_cons_succ, List.getElem?_cons_zero]; rfl) (by kernel_rfl) (by kernel_rfl) (by kernel_rfl) (by exact fun _ _ _ h => h) (Or.inl ⟨by rfl, ?_⟩) (by assumption) ?_
  rotate_left
  · (intro w hSw; (try dsimp only at hSw); go_simp; (try with_reducible rfl))
  (try simp only [Act.put, List.setIfInBounds_toArray, List.set_cons_zero, List.set_cons_succ])
  refine wpAnyH_take (i := 17) (v := ?_) (by simp only [List.getElem?_toArray, List.getElem?_cons_succ, List.getElem?_cons_zero]; rfl) (by kernel_rfl) (by kernel_rfl) (by kernel_rfl) (by exact fun _ _ _ h => h) (Or.inl ⟨by rfl, ?_⟩) (by assumption) ?_
  rotate_left
  · (intro w hSw; (try dsimp only at hSw); go_simp; (try with_reducible rfl))
  (try simp only [Act.put, List.setIfInBounds_toArray, List.set_cons_zero, List.set_cons_succ])
  refine wpAnyH_ready (rs := [18]) (by kernel_rfl) (by simp) ?_
  refine AllReadyH.cons (by simp only [List.getElem?_toArray, List.getElem?_cons_succ, List.getElem?_cons_zero]; rfl) (fun K hK => ?_) AllReadyH.nil
  go_simp
  refine (qfrac_at (-1) 2 _ (by omega) (by omega) (by omega) (by omega) ht).mono ?_
  rintro e w10 ⟨x8, rfl, h8, b10⟩
  go_wp2_with fail
  replace ht := ht.below b10
  replace h2 := h2.below b10
  replace h3 := h3.below b10
  replace h4 := h4.below b10
  replace h6 := h6.below b10
  replace h7 := h7.below b10
  replace VA := VA.below b10
  replace VB := VB.below b10
  replace VC := VC.below b10
  replace BB := BB.trans (b10.mono BB.size)
  clear b10
  refine hK.out _ _ ?_ (fun hH5 => ?_)
  · exact ⟨VA.1, VA.2.1, VA.2.2.1, VB.1, VB.2.1, VB.2.2.1, VC.1, VC.2.1, VC.2.2.1⟩
  clear hK K hH4
  (try simp only [Act.put, List.setIfInBounds_toArray, List.set_cons_zero, List.set_cons_succ])
  refine wpAnyH_ready (rs := [19]) (by kernel_rfl) (by simp) ?_
  refine AllReadyH.cons (by simp only [List.getElem?_toArray, List.getElem?_cons_succ, List.getElem?_cons_zero]; rfl) (fun K hK => ?_) AllReadyH.nil
  go_simp
  refine (qsame_at _ _ _ _ 10 _ (h4.at 10 (frac_sz _ _ (by decide) (by decide))) (h8.at 10 (frac_sz _ _ (by decide) (by decide))) (by omega) (by omega)).mono ?_
  rintro e w11 ⟨rfl, b11⟩
  rw [decide_eq_true rfl]
  go_wp2_with fail
  replace ht := ht.below b11
  replace h2 := h2.below b11
  replace h3 := h3.below b11
  replace h4 := h4.below b11
  replace h6 := h6.below b11
  replace h7 := h7.below b11
  replace h8 := h8.below b11
  replace VA := VA.below b11
  replace VB := VB.below b11
  replace VC := VC.below b11
  replace BB := BB.trans (b11.mono BB.size)
  clear b11
  refine hK.out _ _ ?_ (fun hH6 => ?_)
  · exact ⟨VA.1, VA.2.1, VA.2.2.1, VB.1, VB.2.1, VB.2.2.1, VC.1, VC.2.1, VC.2.2.1⟩
  clear hK K hH5
  (try simp only [Act.put, List.setIfInBounds_toArray, List.set_cons_zero, List.set_cons_succ])
  refine wpAnyH_take (i := 20) (v := ?_) (by simp only [List.getElem?_toArray, List.getElem?_cons_succ, List.getElem?_cons_zero]; rfl) (by kernel_rfl) (by kernel_rfl) (by kernel_rfl) (by exact fun _ _ _ h => h) (Or.inl ⟨by rfl, ?_⟩) (by assumption) ?_
  rotate_left
  · (intro w hSw; (try dsimp only at hSw); go_simp; (try with_reducible rfl))
  (try simp only [Act.put, List.setIfInBounds_toArray, List.set_cons_zero, List.set_cons_succ])
  refine wpAnyH_take (i := 21) (v := ?_) (by simp only [List.getElem?_toArray, List.getElem?_cons_succ, List.getElem?_cons_zero]; rfl) (by kernel_rfl) (by kernel_rfl) (by kernel_rfl) (by exact fun _ _ _ h => h) (Or.inl ⟨by rfl, ?_⟩) (by assumption) ?_
  rotate_left
  · (intro w hSw; (try dsimp only at hSw); go_simp; (try with_reducible rfl))
  (try simp only [Act.put, List.setIfInBounds_toArray, List.set_cons_zero, List.set_cons_succ])
  refine wpAnyH_done (by kernel_rfl) ?_ _
  clear hH6
  go_wp2
  go_ret
  exact ⟨rfl, BB⟩

theorem Arr3.upd {w w' : World} {g n b o m : Nat} {el : Nat → Nat → Value} (h : Arr3 w g n el) (u : Upd w w' b o m) (hne : g ≠ b) : Arr3 w' g n el :=
  ⟨fun i hi j hj => (World.cell?_of_block (w := w) (a := ⟨g, i * 3 + j, none⟩) (u.block g (World.block_lt_of_cell? _ _ (h.1 i hi j hj)) hne)).trans (h.1 i hi j hj),
   fun i hi j hj => (World.frozen?_of_block (w := w) (a := ⟨g, i * 3 + j, none⟩) (u.block g (World.block_lt_of_cell? _ _ (h.1 i hi j hj)) hne)).trans (h.2.1 i hi j hj), h.2.2⟩
/-- A table, made or not. -/
def AnyT (w : World) (b : Nat) : Prop := ∃ d, WT w b d
theorem AnyT.lt {w : World} {b : Nat} (h : AnyT w b) : b < w.heap.size := let ⟨d, h⟩ := h; h.lt
theorem AnyT.below {w w' : World} {b : Nat} (h : AnyT w b) (hb : Below w.heap.size w w') : AnyT w' b := let ⟨d, h⟩ := h; ⟨d, h.below hb⟩
theorem WT.far3 {w : World} {b g j : Nat} {d : Bool} {x0 y0 z0 : Value} (h : WT w b d) (c0 : w.cell? ⟨g, j, none⟩ = some x0) (c1 : w.cell? ⟨g, j + 1, none⟩ = some y0) (c2 : w.cell? ⟨g, j + 2, none⟩ = some z0) (h0 : ¬ IsNum x0) (h1 : ¬ IsNum y0) (h2 : ¬ IsNum z0) (hg : g ≠ b) (x y z : Value) :
    WT (((w.setCell ⟨g, j, none⟩ x).setCell ⟨g, j + 1, none⟩ y).setCell ⟨g, j + 2, none⟩ z) b d := by
  have k1 : KeepQ IsLimb w (w.setCell ⟨g, j, none⟩ x) := (keep_set c0 h0 x).limb14
  have k2 : KeepQ IsLimb (w.setCell ⟨g, j, none⟩ x) ((w.setCell ⟨g, j, none⟩ x).setCell ⟨g, j + 1, none⟩ y) := (keep_set (old := y0) (by rw [World.cell?_setCell_other _ _ _ _ (fun e => by injection e; omega)]; exact c1) h1 y).limb14
  have k3 : KeepQ IsLimb ((w.setCell ⟨g, j, none⟩ x).setCell ⟨g, j + 1, none⟩ y) (((w.setCell ⟨g, j, none⟩ x).setCell ⟨g, j + 1, none⟩ y).setCell ⟨g, j + 2, none⟩ z) := (keep_set (old := z0) (by rw [World.cell?_setCell_other _ _ _ _ (fun e => by injection e; omega), World.cell?_setCell_other _ _ _ _ (fun e => by injection e; omega)]; exact c2) h2 z).limb14
  have c : ∀ (j' : Nat), (((w.setCell ⟨g, j, none⟩ x).setCell ⟨g, j + 1, none⟩ y).setCell ⟨g, j + 2, none⟩ z).cell? ⟨b, j', none⟩ = w.cell? ⟨b, j', none⟩ := fun j' => by
    rw [World.cell?_setCell_other _ _ _ _ (fun e => by injection e; omega), World.cell?_setCell_other _ _ _ _ (fun e => by injection e; omega), World.cell?_setCell_other _ _ _ _ (fun e => by injection e; omega)]
  cases d with
  | true =>
    have h : WOld w b := h
    exact show WOld _ b from ⟨by rw [c]; exact h.c0, ((h.fa.set _ (.inl hg) _ k1).set _ (.inl hg) _ k2).set _ (.inl hg) _ k3⟩
  | false =>
    have h : WNew w b := h
    exact show WNew _ b from ⟨by rw [c]; exact h.c0, by rw [c]; exact h.c1, by simp [h.z0], by simp [h.z1], ((h.fa.set _ (.inl hg) _ k1).set _ (.inl hg) _ k2).set _ (.inl hg) _ k3⟩
theorem UK.far3 {w0 w : World} {b g j : Nat} {x0 y0 z0 : Value} (h : UK b w0 w) (c0 : w.cell? ⟨g, j, none⟩ = some x0) (c1 : w.cell? ⟨g, j + 1, none⟩ = some y0) (c2 : w.cell? ⟨g, j + 2, none⟩ = some z0) (h0 : ¬ IsNum x0) (h1 : ¬ IsNum y0) (h2 : ¬ IsNum z0) (hg : w0.heap.size ≤ g) (x y z : Value) :
    UK b w0 (((w.setCell ⟨g, j, none⟩ x).setCell ⟨g, j + 1, none⟩ y).setCell ⟨g, j + 2, none⟩ z) := by
  have k1 : KeepQ IsLimb w (w.setCell ⟨g, j, none⟩ x) := (keep_set c0 h0 x).limb14
  have k2 : KeepQ IsLimb (w.setCell ⟨g, j, none⟩ x) ((w.setCell ⟨g, j, none⟩ x).setCell ⟨g, j + 1, none⟩ y) := (keep_set (old := y0) (by rw [World.cell?_setCell_other _ _ _ _ (fun e => by injection e; omega)]; exact c1) h1 y).limb14
  have k3 : KeepQ IsLimb ((w.setCell ⟨g, j, none⟩ x).setCell ⟨g, j + 1, none⟩ y) (((w.setCell ⟨g, j, none⟩ x).setCell ⟨g, j + 1, none⟩ y).setCell ⟨g, j + 2, none⟩ z) := (keep_set (old := z0) (by rw [World.cell?_setCell_other _ _ _ _ (fun e => by injection e; omega), World.cell?_setCell_other _ _ _ _ (fun e => by injection e; omega)]; exact c2) h2 z).limb14
  exact ((h.set hg _ _ k1).set hg _ _ k2).set hg _ _ k3

set_option maxRecDepth 20000 in
set_option maxHeartbeats 2000000 in
theorem tall_no (b : Nat) (n : Int) (w : World) (h : n < 1 ∨ 64 < n) :
    Calls Tryz.prog 27 #[.pointer (some ⟨b, 0, none⟩), .int .i64 n] w fun e w' => e = .returned (.tuple #[.slice none 0 0, .int .i64 8]) ∧ w' = w := by
  go_enter Tryz.func27, Tryz.ntmps27
  go_wp2_with fail
  refine (within_no _ 1 n 64 _ h).mono ?_
  rintro e wx ⟨rfl, hwx⟩
  replace hwx := hwx.symm
  subst hwx
  go_wp2
  (try simp only [Exit.inBlock, Exit.then])
  refine bodyPost_ret (v := .tuple #[.slice none 0 0, .int .i64 8]) (by simp [results, go_sem]) rfl ?_
  exact ⟨rfl, rfl⟩

set_option maxRecDepth 20000 in
set_option maxHeartbeats 2000000 in
theorem tall_nil (n : Int) (w : World) :
    Calls Tryz.prog 27 #[.pointer none, .int .i64 n] w fun e w' => e = .returned (.tuple #[.slice none 0 0, .int .i64 18]) ∧ w' = w := by
  go_enter Tryz.func27, Tryz.ntmps27
  go_wp2_with fail
  refine (within_nil 1 n 64 _).mono ?_
  rintro e wx ⟨rfl, hwx⟩
  replace hwx := hwx.symm
  subst hwx
  go_wp2
  (try simp only [Exit.inBlock, Exit.then])
  refine bodyPost_ret (v := .tuple #[.slice none 0 0, .int .i64 18]) (by simp [results, go_sem]) rfl ?_
  exact ⟨rfl, rfl⟩

set_option maxRecDepth 100000 in
set_option maxHeartbeats 4000000 in
theorem tall_at (b n : Nat) (d : Bool) (w : World) (hT : WT w b d) (h1 : 1 ≤ n) (hn : n ≤ 64) (ht : Tab w) :
    Calls Tryz.prog 27 #[.pointer (some ⟨b, 0, none⟩), .int .i64 (n : Int)] w fun e w' => ∃ v, e = .returned (.tuple #[v, .int .i64 0]) ∧ FRow w' v n (fun k => shQ k (n - k - 1) n) ∧ UK b w w' := by
  obtain ⟨i0, hi, hz0, hz1, hz2⟩ := info_parts info_wrat
  have hlt := hT.lt
  have n0 : (0 : Int) ≤ (n : Int) := by omega
  go_enter Tryz.func27, Tryz.ntmps27
  go_wp2_with fail
  refine (within_ok _ 1 (n : Int) 64 _ (by omega) (by omega)).mono ?_
  rintro e wx ⟨rfl, hwx⟩
  replace hwx := hwx.symm
  subst hwx
  go_wp2_with (at_make; refine wpList_make_full _ rfl _ _ 47 rfl _ 35 i0 (.agg #[.bool false, .slice none 0 0, .slice none 0 0]) 3 Tryz.underlying47 hi hz0 hz1 _ _ _ _ n rfl rfl rfl rfl (by rw [hz2]; omega) (by unfold maxLen; omega) (Nat.le_refl _) ?_; intro w1 hown hgrow)
  have A := arr3_made hown
  have b1 : Below w.heap.size w w1 := (Below.refl _ _).grown hgrow (Nat.le_refl _) (fun k e => by cases e)
  have BB : UK b w w1 := (UK.refl hlt).below b1
  replace ht := ht.below b1
  have HT : AnyT w1 b := ⟨d, hT.below b1⟩
  clear hown hgrow b1 hT
  have hgb : w.heap.size ≠ b := by omega
  go_loopw [8, 19] (fun _ vi wr => ∃ (i : Nat) (el : Nat → Nat → Value), i ≤ n ∧ vi = .int .i64 (i : Int) ∧ Arr3 wr w.heap.size n el ∧ Hid (∀ k, k < i → RepQ wr (elv el k) (shQ k (n - k - 1) n)) ∧ AnyT wr b ∧ Tab wr ∧ UK b w wr) (fun _ vi _ => (n - (intOf vi).toNat))
  case atStart => exact ⟨0, _, by omega, rfl, A, fun k hk => absurd hk (by omega), HT, ht, BB⟩
  case round =>
    clear A ht BB HT
    obtain ⟨i, el, hin, rfl, A, HR, HT, ht, BB⟩ := hrel
    by_cases hlti : i < n
    · have c1 : (i : Int) < (n : Int) := by omega
      have c2 : (0 : Int) ≤ (i : Int) := by omega
      have wi : IntKind.i64.wrap ((n : Int) - (i : Int)) = ((n - i : Nat) : Int) := by rw [IntKind.wrap_i64]; omega
      have wj : IntKind.i64.wrap (((n - i : Nat) : Int) - 1) = ((n - i - 1 : Nat) : Int) := by rw [IntKind.wrap_i64]; omega
      go_wp2_with fail
      obtain ⟨d', HT⟩ := HT
      refine (share_at b i (n - i - 1) n d' _ HT hn (by omega) ht).mono ?_
      rintro e w2 ⟨r, rfl, hr, ho⟩
      replace A := A.upd ho.upd hgb
      replace ht := ht.keepL ho.keep
      have HR2 : Hid (∀ k, k < i → RepQ w2 (elv el k) (shQ k (n - k - 1) n)) := fun k hk => (HR.out k hk).keepL ho.keep
      replace BB := BB.out ho
      have HT2 : WT w2 b true := ho.tab
      clear HR ho HT
      obtain ⟨p3, a3, n3, c3, bo3, m3, d3, rfl⟩ := hr.open
      obtain ⟨A2, K2⟩ := A.set i hlti (.bool p3) (.slice a3 n3 c3) (.slice bo3 m3 d3) (num_bool _) (num_slice _ _ _) (num_slice _ _ _)
      have hr2 := hr.keep K2
      have ht2 := ht.keep K2
      have HR3 : Hid (∀ k, k < i → RepQ (((w2.setCell ⟨w.heap.size, i * 3, none⟩ (.bool p3)).setCell ⟨w.heap.size, i * 3 + 1, none⟩ (.slice a3 n3 c3)).setCell ⟨w.heap.size, i * 3 + 2, none⟩ (.slice bo3 m3 d3)) (elv el k) (shQ k (n - k - 1) n)) := fun k hk => (HR2.out k hk).keep K2
      have x0 := A.1 i hlti 0 (by omega)
      have x1 := A.1 i hlti 1 (by omega)
      have x2 := A.1 i hlti 2 (by omega)
      have y0 := A.2.1 i hlti 0 (by omega)
      have y1 := A.2.1 i hlti 1 (by omega)
      have y2 := A.2.1 i hlti 2 (by omega)
      simp only [Nat.add_zero] at x0 y0
      have z0 := A.2.2 i hlti 0 (by omega)
      have z1 := A.2.2 i hlti 1 (by omega)
      have z2 := A.2.2 i hlti 2 (by omega)
      have BB2 : UK b w (((w2.setCell ⟨w.heap.size, i * 3, none⟩ (.bool p3)).setCell ⟨w.heap.size, i * 3 + 1, none⟩ (.slice a3 n3 c3)).setCell ⟨w.heap.size, i * 3 + 2, none⟩ (.slice bo3 m3 d3)) := BB.far3 x0 x1 x2 z0 z1 z2 (Nat.le_refl _) _ _ _
      have HT3 : AnyT (((w2.setCell ⟨w.heap.size, i * 3, none⟩ (.bool p3)).setCell ⟨w.heap.size, i * 3 + 1, none⟩ (.slice a3 n3 c3)).setCell ⟨w.heap.size, i * 3 + 2, none⟩ (.slice bo3 m3 d3)) b := ⟨true, HT2.far3 x0 x1 x2 z0 z1 z2 hgb _ _ _⟩
      clear z0 z1 z2 HT2
      go_wp2
      clear x0 x1 x2 y0 y1 y2 A HR2 BB ht hr K2
      generalize ((w2.setCell ⟨w.heap.size, i * 3, none⟩ (.bool p3)).setCell ⟨w.heap.size, i * 3 + 1, none⟩ (.slice a3 n3 c3)).setCell ⟨w.heap.size, i * 3 + 2, none⟩ (.slice bo3 m3 d3) = w3 at *
      have HR4 : Hid (∀ k, k < i + 1 → RepQ w3 (elv (upd3 el i (.bool p3) (.slice a3 n3 c3) (.slice bo3 m3 d3)) k) (shQ k (n - k - 1) n)) := fun k hk => by
        by_cases e : k = i
        · subst e; simp only [elv, upd3, if_pos]; exact hr2
        · simp only [elv]; rw [upd3_other _ _ _ _ _ _ e]; exact HR3.out k (by omega)
      go_roundw
      case rel => exact ⟨i + 1, _, by omega, by go_num, A2, HR4, HT3, ht2, BB2⟩
      case measure => simp [intOf]; omega
    · obtain rfl : i = n := by omega
      have c1 : ¬ (i : Int) < (i : Int) := by omega
      have FR : FRow wr (.slice (some ⟨w.heap.size, 0, none⟩) i i) i (fun k => shQ k (i - k - 1) i) := ⟨el, A.row i i (Nat.le_refl _) (Nat.le_refl _) (by omega), HR.out⟩
      clear A HR
      go_wp2
      (try simp only [Exit.inBlock, Exit.then])
      refine bodyPost_ret (v := .tuple #[.slice (some ⟨w.heap.size, 0, none⟩) i i, .int .i64 0]) (by simp [results, go_sem]) rfl ?_
      exact ⟨_, rfl, FR, BB⟩

end Go.Proofs.YtfibpckhbgemcaaGreatDoor
