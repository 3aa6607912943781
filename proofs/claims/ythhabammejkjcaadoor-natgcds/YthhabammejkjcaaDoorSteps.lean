/-
  What nat.sureSteps answers.
-/
import Derived.Test.YthhabammejkjcaaDoorLessTimes
namespace Go.Proofs.YthhabammejkjcaaDoor
open Go.RowKit

/-- Five cells of a block, none frozen. -/
def St (w : World) (g : Nat) (f : Nat → Value) : Prop := ∀ i, i < 5 → w.cell? ⟨g, i, none⟩ = some (f i) ∧ w.frozen? ⟨g, i, none⟩ = false
theorem St.set {w : World} {g : Nat} {f : Nat → Value} (h : St w g f) (j : Nat) (v : Value) : St (w.setCell ⟨g, j, none⟩ v) g (fun i => if i = j then v else f i) := by
  intro i hi
  obtain ⟨h1, h2⟩ := h i hi
  refine ⟨?_, by simp [h2]⟩
  by_cases e : i = j
  · subst e
    show _ = some (if i = i then v else f i)
    rw [if_pos rfl]; exact World.cell?_setCell_same _ _ _ h1
  · show _ = some (if i = j then v else f i)
    rw [if_neg e, World.cell?_setCell_other _ _ _ _ (fun e' => by injection e'; omega)]; exact h1
theorem St.other {w : World} {g g' : Nat} {f : Nat → Value} (h : St w g f) (j : Nat) (v : Value) (hne : g ≠ g') : St (w.setCell ⟨g', j, none⟩ v) g f := by
  intro i hi
  obtain ⟨h1, h2⟩ := h i hi
  refine ⟨?_, by simp [h2]⟩
  rw [World.cell?_setCell_other _ _ _ _ (fun e' => by injection e'; omega)]; exact h1
theorem St.congr {w : World} {g : Nat} {f f' : Nat → Value} (h : St w g f) (e : ∀ i, i < 5 → f i = f' i) : St w g f' := fun i hi => by rw [← e i hi]; exact h i hi

/-- A step's five fields. -/
def fields (u0 u1 v0 v1 : Nat) (ev : Bool) : Nat → Value := fun i => if i = 0 then .int .u64 (u0 : Int) else if i = 1 then .int .u64 (u1 : Int) else if i = 2 then .int .u64 (v0 : Int) else if i = 3 then .int .u64 (v1 : Int) else .bool ev

/-- What the steps are sure of. -/
def Sure (A B u0 u1 v0 v1 : Nat) (ev : Bool) : Prop := v0 = 0 ∨ (1 ≤ v0 ∧ ∃ a b, Coll A B a b u0 u1 v0 v1 (!ev) ∧ v1 ≤ b ∧ v0 + v1 ≤ a - b)

/-- What sureSteps answers. -/
def SureOut (A B : Nat) (e : Ending) : Prop := ∃ (u0 u1 v0 v1 : Nat) (ev : Bool), e = .returned (.agg #[.int .u64 (u0 : Int), .int .u64 (u1 : Int), .int .u64 (v0 : Int), .int .u64 (v1 : Int), .bool ev]) ∧ Sure A B u0 u1 v0 v1 ev

theorem st_new (w : World) (u0 u1 v0 v1 : Nat) (ev : Bool) (t : TypeId) : St (w.alloc (.cells #[.int .u64 (u0 : Int), .int .u64 (u1 : Int), .int .u64 (v0 : Int), .int .u64 (v1 : Int), .bool ev] t)) w.heap.size (fields u0 u1 v0 v1 ev) := by
  intro i hi
  have : i = 0 ∨ i = 1 ∨ i = 2 ∨ i = 3 ∨ i = 4 := by omega
  rcases this with e | e | e | e | e <;> subst e <;> refine ⟨?_, ?_⟩ <;> simp [fields]

set_option maxRecDepth 20000 in
set_option maxHeartbeats 1000000 in
theorem sureSteps_any (A B : Nat) (w : World) (hA : A < 18446744073709551616) (hBA : B ≤ A) :
    Calls Tryd.prog 59 #[.int .u64 (A : Int), .int .u64 (B : Int)] w fun e w' => SureOut A B e ∧ Below w.heap.size w w' := by
  have hz : St (w.alloc (.cells #[.int .u64 0, .int .u64 0, .int .u64 0, .int .u64 0, .bool false] 84)) w.heap.size (fields 0 0 0 0 false) := st_new w 0 0 0 0 false 84
  have hs : St ((w.alloc (.cells #[.int .u64 0, .int .u64 0, .int .u64 0, .int .u64 0, .bool false] 84)).alloc (.cells #[.int .u64 0, .int .u64 1, .int .u64 0, .int .u64 0, .bool false] 84)) (w.heap.size + 1) (fields 0 1 0 0 false) := by
    have h := st_new (w.alloc (.cells #[.int .u64 0, .int .u64 0, .int .u64 0, .int .u64 0, .bool false] 84)) 0 1 0 0 false 84
    simpa using h
  have hz2 : St ((w.alloc (.cells #[.int .u64 0, .int .u64 0, .int .u64 0, .int .u64 0, .bool false] 84)).alloc (.cells #[.int .u64 0, .int .u64 1, .int .u64 0, .int .u64 0, .bool false] 84)) w.heap.size (fields 0 0 0 0 false) := fun i hi =>
    ⟨((Below.refl (w.heap.size + 1) _).alloc (by simp) _).cell (by simp) |>.trans (hz i hi).1, ((Below.refl (w.heap.size + 1) _).alloc (by simp) _).frozen (by simp) |>.trans (hz i hi).2⟩
  have hb0 : Below w.heap.size w ((w.alloc (.cells #[.int .u64 0, .int .u64 0, .int .u64 0, .int .u64 0, .bool false] 84)).alloc (.cells #[.int .u64 0, .int .u64 1, .int .u64 0, .int .u64 0, .bool false] 84)) := ((Below.refl _ _).alloc (Nat.le_refl _) _).alloc (by simp) _
  go_enter Tryd.func59, Tryd.ntmps59
  go_wp2
  go_loopw [0, 1, 6, 7] (fun va vb vu vv wr => ∃ (a b u0 u1 u2 v0 v1 v2 : Nat) (ev : Bool), va = .int .u64 (a : Int) ∧ vb = .int .u64 (b : Int) ∧ vu = .int .u64 (u2 : Int) ∧ vv = .int .u64 (v2 : Int) ∧ Coll A B a b u1 u2 v1 v2 ev ∧ Sure A B u0 u1 v0 v1 ev ∧ St wr (w.heap.size + 1) (fields u0 u1 v0 v1 ev) ∧ St wr w.heap.size (fields 0 0 0 0 false) ∧ Below w.heap.size w wr) (fun _ vb _ _ _ => (intOf vb).toNat)
  case atStart => exact ⟨A, B, 0, 1, 0, 0, 0, 1, false, rfl, rfl, rfl, rfl, Coll.start A B hBA, .inl rfl, hs, hz2, hb0⟩
  case round =>
    clear hz hs hz2 hb0
    obtain ⟨a, b, u0, u1, u2, v0, v1, v2, ev, rfl, rfl, rfl, rfl, hC, hS, hst, hst0, hbel⟩ := hrel
    have c0 : wr.cell? ⟨w.heap.size + 1, 0, none⟩ = some (.int .u64 (u0 : Int)) := (hst 0 (by omega)).1
    have c1 : wr.cell? ⟨w.heap.size + 1, 1, none⟩ = some (.int .u64 (u1 : Int)) := (hst 1 (by omega)).1
    have c2 : wr.cell? ⟨w.heap.size + 1, 2, none⟩ = some (.int .u64 (v0 : Int)) := (hst 2 (by omega)).1
    have c3 : wr.cell? ⟨w.heap.size + 1, 3, none⟩ = some (.int .u64 (v1 : Int)) := (hst 3 (by omega)).1
    have c4 : wr.cell? ⟨w.heap.size + 1, 4, none⟩ = some (.bool ev) := (hst 4 (by omega)).1
    have f0 : wr.frozen? ⟨w.heap.size + 1, 0, none⟩ = false := (hst 0 (by omega)).2
    have f1 : wr.frozen? ⟨w.heap.size + 1, 1, none⟩ = false := (hst 1 (by omega)).2
    have f2 : wr.frozen? ⟨w.heap.size + 1, 2, none⟩ = false := (hst 2 (by omega)).2
    have f3 : wr.frozen? ⟨w.heap.size + 1, 3, none⟩ = false := (hst 3 (by omega)).2
    have f4 : wr.frozen? ⟨w.heap.size + 1, 4, none⟩ = false := (hst 4 (by omega)).2
    have z0 : wr.cell? ⟨w.heap.size, 0, none⟩ = some (.int .u64 0) := (hst0 0 (by omega)).1
    have z1 : wr.cell? ⟨w.heap.size, 1, none⟩ = some (.int .u64 0) := (hst0 1 (by omega)).1
    have z2 : wr.cell? ⟨w.heap.size, 2, none⟩ = some (.int .u64 0) := (hst0 2 (by omega)).1
    have z3 : wr.cell? ⟨w.heap.size, 3, none⟩ = some (.int .u64 0) := (hst0 3 (by omega)).1
    have z4 : wr.cell? ⟨w.heap.size, 4, none⟩ = some (.bool false) := (hst0 4 (by omega)).1
    have y0 : wr.frozen? ⟨w.heap.size, 0, none⟩ = false := (hst0 0 (by omega)).2
    have y1 : wr.frozen? ⟨w.heap.size, 1, none⟩ = false := (hst0 1 (by omega)).2
    have y2 : wr.frozen? ⟨w.heap.size, 2, none⟩ = false := (hst0 2 (by omega)).2
    have y3 : wr.frozen? ⟨w.heap.size, 3, none⟩ = false := (hst0 3 (by omega)).2
    have y4 : wr.frozen? ⟨w.heap.size, 4, none⟩ = false := (hst0 4 (by omega)).2
    have hle := hC.le
    have h1v := hC.one
    have haA : a ≤ A := by
      have h1 := hC.hA
      have h2 : 1 * a ≤ v2 * a := Nat.mul_le_mul_right _ h1v
      omega
    by_cases hbv : v2 ≤ b
    · have hsum := hC.sum (by omega)
      have j1 : (v2 : Int) ≤ (b : Int) := by omega
      by_cases hab : v1 + v2 ≤ a - b
      · have j2 : (v1 : Int) + (v2 : Int) ≤ (a : Int) - (b : Int) := by omega
        have hN := hC.step (show 0 < b by omega)
        have hNA := hN.hA
        have hNuv := hN.uv
        have hdm := Nat.div_add_mod a b
        have hmod := Nat.mod_lt a (show 0 < b by omega)
        have hqi : (a : Int) / (b : Int) = ((a / b : Nat) : Int) := by simp
        have hv2A : v1 + a / b * v2 ≤ A := by
          have h2 : (v1 + a / b * v2) * 1 ≤ (v1 + a / b * v2) * b := Nat.mul_le_mul_left _ (by omega)
          omega
        have hq1 : a / b ≤ a := Nat.div_le_self _ _
        generalize a / b = q at *
        generalize a % b = r at *
        obtain ⟨QB, hQB⟩ : ∃ QB, QB = b * q := ⟨_, rfl⟩
        obtain ⟨QU, hQU⟩ : ∃ QU, QU = q * u2 := ⟨_, rfl⟩
        obtain ⟨QV, hQV⟩ : ∃ QV, QV = q * v2 := ⟨_, rfl⟩
        have p1 : (q : Int) * (b : Int) = (QB : Int) := by rw [hQB, Nat.mul_comm]; simp
        have p2 : (q : Int) * (u2 : Int) = (QU : Int) := by rw [hQU]; simp
        have p3 : (q : Int) * (v2 : Int) = (QV : Int) := by rw [hQV]; simp
        rw [← hQB] at hdm
        rw [← hQV] at hv2A hNuv hN
        rw [← hQU] at hNuv hN
        have hr : (a : Int) - (QB : Int) = (r : Int) := by omega
        have HN : Hid (Coll A B b r u2 (u1 + QU) v2 (v1 + QV) (!ev)) := hN
        have HS : Hid (Sure A B u1 u2 v1 v2 (!ev)) := by
          rcases Nat.eq_zero_or_pos v1 with e | e
          · exact .inl e
          · exact .inr ⟨e, a, b, by rw [Bool.not_not]; exact hC, hbv, hab⟩
        clear hQB hQU hQV hN hNA hS hC
        go_wp2
        go_roundw
        case rel =>
          refine ⟨b, r, u1, u2, u1 + QU, v1, v2, v1 + QV, !ev, rfl, rfl, by simp, by simp, HN.out, HS.out, ?_, ?_, ?_⟩
          · refine (((((hst.set 0 _).set 1 _).set 2 _).set 3 _).set 4 _).congr (fun i hi => ?_)
            have : i = 0 ∨ i = 1 ∨ i = 2 ∨ i = 3 ∨ i = 4 := by omega
            rcases this with e | e | e | e | e <;> subst e <;> simp [fields]
          · exact ((((hst0.other 0 _ (by omega)).other 1 _ (by omega)).other 2 _ (by omega)).other 3 _ (by omega)).other 4 _ (by omega)
          · exact ((((hbel.setCell (by simp) _).setCell (by simp) _).setCell (by simp) _).setCell (by simp) _).setCell (by simp) _
        case measure => simp [intOf]; omega
      · have j2 : ¬ (v1 : Int) + (v2 : Int) ≤ (a : Int) - (b : Int) := by omega
        have HS : Hid (Sure A B u0 u1 v0 v1 ev) := hS
        clear hS hC
        go_wp2
        (try simp only [Exit.inBlock, Exit.then])
        refine bodyPost_ret (v := .agg #[.int .u64 (u0 : Int), .int .u64 (u1 : Int), .int .u64 (v0 : Int), .int .u64 (v1 : Int), .bool ev]) (by simp [results, go_sem, z0, z1, z2, z3, z4]) rfl ?_
        refine ⟨⟨u0, u1, v0, v1, ev, rfl, HS.out⟩, ?_⟩
        exact ((((hbel.setCell (by simp) _).setCell (by simp) _).setCell (by simp) _).setCell (by simp) _).setCell (by simp) _
    · have j1 : ¬ (v2 : Int) ≤ (b : Int) := by omega
      have HS : Hid (Sure A B u0 u1 v0 v1 ev) := hS
      clear hS hC
      go_wp2
      (try simp only [Exit.inBlock, Exit.then])
      refine bodyPost_ret (v := .agg #[.int .u64 (u0 : Int), .int .u64 (u1 : Int), .int .u64 (v0 : Int), .int .u64 (v1 : Int), .bool ev]) (by simp [results, go_sem, z0, z1, z2, z3, z4]) rfl ?_
      refine ⟨⟨u0, u1, v0, v1, ev, rfl, HS.out⟩, ?_⟩
      exact ((((hbel.setCell (by simp) _).setCell (by simp) _).setCell (by simp) _).setCell (by simp) _).setCell (by simp) _

end Go.Proofs.YthhabammejkjcaaDoor
