/-
  What whole.DivMod answers.
-/
import Derived.Test.YthhabammejkjcaaDoorWhole3
import Derived.Test.YthhabammejkjcaaDoorDivAll
namespace Go.Proofs.YthhabammejkjcaaDoor
open Go.RowKit
set_option linter.unusedVariables false

theorem nl_mono (B x y : Nat) (hB : 2 ≤ B) (h : x ≤ y) : nl B x ≤ nl B y := nl_le B x _ hB (Nat.lt_of_le_of_lt h (lt_pow_nl B y hB))
theorem nl_one : nl W32 1 ≤ 1 := nl_le W32 1 1 (by decide) (by decide)

theorem floor_pos {x y q r : Int} (h : x = y * q + r) (hy : 0 < y) (h0 : 0 ≤ r) (h1 : r < y) : q = x.fdiv y ∧ r = x.fmod y := by
  have e1 : x / y = q ∧ x % y = r := (Int.ediv_emod_unique hy).2 ⟨by rw [Int.add_comm]; exact h.symm, h0, h1⟩
  rw [Int.fdiv_eq_ediv_of_nonneg _ (by omega), Int.fmod_eq_emod_of_nonneg _ (by omega)]
  exact ⟨e1.1.symm, e1.2.symm⟩
theorem floor_neg {x y q r : Int} (h : x = y * q + r) (hy : y < 0) (h0 : r ≤ 0) (h1 : y < r) : q = x.fdiv y ∧ r = x.fmod y := by
  have e := floor_pos (x := -x) (y := -y) (q := q) (r := -r) (by rw [h, Int.neg_mul]; omega) (by omega) (by omega) (by omega)
  have e1 : q = x.fdiv y := by rw [e.1, Int.neg_fdiv_neg]
  refine ⟨e1, ?_⟩
  have e2 := Int.mul_fdiv_add_fmod x y
  rw [← e1] at e2; omega

theorem floor_same (p : Bool) (X Y : Nat) (hY : 0 < Y) : (zof p X).fdiv (zof p Y) = zof false (X / Y) ∧ (zof p X).fmod (zof p Y) = zof p (X % Y) := by
  have h1 := Nat.div_add_mod X Y
  have h2 := Nat.mod_lt X hY
  have h3 : (X : Int) = (Y : Int) * ((X / Y : Nat) : Int) + ((X % Y : Nat) : Int) := by rw [← Int.natCast_mul]; omega
  generalize X / Y = Q at *
  generalize X % Y = R at *
  cases p with
  | false =>
    simp only [zof_false]
    have := floor_pos h3 (by omega) (by omega) (by omega)
    exact ⟨this.1.symm, this.2.symm⟩
  | true =>
    simp only [zof_true, zof_false]
    have := floor_neg (x := -(X : Int)) (y := -(Y : Int)) (q := Q) (r := -(R : Int)) (by rw [h3, Int.neg_mul]; omega) (by omega) (by omega) (by omega)
    exact ⟨this.1.symm, this.2.symm⟩
theorem floor_even (p : Bool) (X Y : Nat) (hY : 0 < Y) (hR : X % Y = 0) : (zof p X).fdiv (zof (!p) Y) = zof true (X / Y) ∧ (zof p X).fmod (zof (!p) Y) = 0 := by
  have h1 := Nat.div_add_mod X Y
  have h3 : (X : Int) = (Y : Int) * ((X / Y : Nat) : Int) := by rw [← Int.natCast_mul]; omega
  generalize X / Y = Q at *
  cases p with
  | false =>
    simp only [zof_false, Bool.not_false, zof_true]
    have := floor_neg (x := (X : Int)) (y := -(Y : Int)) (q := -(Q : Int)) (r := 0) (by rw [h3, Int.neg_mul_neg]; omega) (by omega) (by omega) (by omega)
    exact ⟨this.1.symm, this.2.symm⟩
  | true =>
    simp only [zof_true, Bool.not_true, zof_false]
    have := floor_pos (x := -(X : Int)) (y := (Y : Int)) (q := -(Q : Int)) (r := 0) (by rw [h3, Int.mul_neg]; omega) (by omega) (by omega) (by omega)
    exact ⟨this.1.symm, this.2.symm⟩
theorem floor_odd (p : Bool) (X Y : Nat) (hY : 0 < Y) (hR : X % Y ≠ 0) : (zof p X).fdiv (zof (!p) Y) = zof true (X / Y + 1) ∧ (zof p X).fmod (zof (!p) Y) = zof (!p) (Y - X % Y) := by
  have h1 := Nat.div_add_mod X Y
  have h2 := Nat.mod_lt X hY
  have h3 : (X : Int) = (Y : Int) * ((X / Y : Nat) : Int) + ((X % Y : Nat) : Int) := by rw [← Int.natCast_mul]; omega
  generalize X / Y = Q at *
  generalize X % Y = R at *
  cases p with
  | false =>
    simp only [zof_false, Bool.not_false, zof_true]
    have := floor_neg (x := (X : Int)) (y := -(Y : Int)) (q := -((Q + 1 : Nat) : Int)) (r := -((Y - R : Nat) : Int)) (by rw [h3, Int.neg_mul_neg, Int.natCast_add, Int.mul_add]; omega) (by omega) (by omega) (by omega)
    exact ⟨this.1.symm, this.2.symm⟩
  | true =>
    simp only [zof_true, Bool.not_true, zof_false]
    have := floor_pos (x := -(X : Int)) (y := (Y : Int)) (q := -((Q + 1 : Nat) : Int)) (r := ((Y - R : Nat) : Int)) (by rw [h3, Int.mul_neg, Int.natCast_add, Int.mul_add]; omega) (by omega) (by omega) (by omega)
    exact ⟨this.1.symm, this.2.symm⟩

/-- Two variables for structs laid behind two others. -/
theorem res34 (w : World) (o o' : Obj) (t t' : TypeId) (x y x' y' : Value) :
    ((((w.alloc o).alloc o').alloc (.cells #[x, y] t)).alloc (.cells #[x', y'] t')).cell? ⟨w.heap.size + 1 + 1, 0, none⟩ = some x ∧
    ((((w.alloc o).alloc o').alloc (.cells #[x, y] t)).alloc (.cells #[x', y'] t')).cell? ⟨w.heap.size + 1 + 1, 1, none⟩ = some y ∧
    ((((w.alloc o).alloc o').alloc (.cells #[x, y] t)).alloc (.cells #[x', y'] t')).frozen? ⟨w.heap.size + 1 + 1, 0, none⟩ = false ∧
    ((((w.alloc o).alloc o').alloc (.cells #[x, y] t)).alloc (.cells #[x', y'] t')).frozen? ⟨w.heap.size + 1 + 1, 1, none⟩ = false := by
  refine keepW (B := w.heap.size + 1 + 1 + 1) ((Below.refl _ _).alloc (by simp) _) (by simp) (res2 w o o' t x y)
theorem res4 (w : World) (o o' o'' : Obj) (t : TypeId) (x y : Value) :
    ((((w.alloc o).alloc o').alloc o'').alloc (.cells #[x, y] t)).cell? ⟨w.heap.size + 1 + 1 + 1, 0, none⟩ = some x ∧ ((((w.alloc o).alloc o').alloc o'').alloc (.cells #[x, y] t)).cell? ⟨w.heap.size + 1 + 1 + 1, 1, none⟩ = some y ∧
    ((((w.alloc o).alloc o').alloc o'').alloc (.cells #[x, y] t)).frozen? ⟨w.heap.size + 1 + 1 + 1, 0, none⟩ = false ∧ ((((w.alloc o).alloc o').alloc o'').alloc (.cells #[x, y] t)).frozen? ⟨w.heap.size + 1 + 1 + 1, 1, none⟩ = false := by
  have h := resW (((w.alloc o).alloc o').alloc o'') t x y
  rw [World.size_alloc, World.size_alloc, World.size_alloc] at h; exact h


theorem box_b (w : World) (t t' : TypeId) (p q p' q' : Value) (o o' : Obj) :
    ((((w.alloc (.cells #[p, q] t)).alloc (.cells #[p', q'] t')).alloc o).alloc o').cell? ⟨w.heap.size, 0, none⟩ = some p ∧
    ((((w.alloc (.cells #[p, q] t)).alloc (.cells #[p', q'] t')).alloc o).alloc o').cell? ⟨w.heap.size, 1, none⟩ = some q ∧
    ((((w.alloc (.cells #[p, q] t)).alloc (.cells #[p', q'] t')).alloc o).alloc o').cell? ⟨w.heap.size + 1, 0, none⟩ = some p' ∧
    ((((w.alloc (.cells #[p, q] t)).alloc (.cells #[p', q'] t')).alloc o).alloc o').cell? ⟨w.heap.size + 1, 1, none⟩ = some q' := by
  have h0 := resW w t p q
  have h1 := res1 w (.cells #[p, q] t) t' p' q'
  have b1 : Below (w.heap.size + 1) (w.alloc (.cells #[p, q] t)) ((((w.alloc (.cells #[p, q] t)).alloc (.cells #[p', q'] t')).alloc o).alloc o') :=
    (((Below.refl _ _).alloc (by simp) _).alloc (by simp) _).alloc (by simp <;> omega) _
  have b2 : Below (w.heap.size + 1 + 1) ((w.alloc (.cells #[p, q] t)).alloc (.cells #[p', q'] t')) ((((w.alloc (.cells #[p, q] t)).alloc (.cells #[p', q'] t')).alloc o).alloc o') :=
    ((Below.refl _ _).alloc (by simp) _).alloc (by simp) _
  have k0 := keep2 b1 (by simp) ⟨h0.1, h0.2.1⟩
  have k1 := keep2 b2 (by simp) ⟨h1.1, h1.2.1⟩
  exact ⟨k0.1, k0.2, k1.1, k1.2⟩

/-- Two answers stored. -/
theorem RepI.store4 {w : World} {v : Value} {z : Int} (h : RepI w v z) {R R' m c m' c' : Nat} {p p' : Bool} {ao ao' : Option Addr} (q1 : w.cell? ⟨R, 0, none⟩ = some (.bool p)) (q2 : w.cell? ⟨R, 1, none⟩ = some (.slice ao m c))
    (q3 : w.cell? ⟨R', 0, none⟩ = some (.bool p')) (q4 : w.cell? ⟨R', 1, none⟩ = some (.slice ao' m' c')) (hne : R' ≠ R) (x y x' y' : Value) :
    RepI ((((w.setCell ⟨R, 0, none⟩ x).setCell ⟨R, 1, none⟩ y).setCell ⟨R', 0, none⟩ x').setCell ⟨R', 1, none⟩ y') v z := by
  have a1 : ((w.setCell ⟨R, 0, none⟩ x).setCell ⟨R, 1, none⟩ y).cell? ⟨R', 0, none⟩ = some (.bool p') := by
    rw [World.cell?_setCell_other _ _ _ _ (fun e => by injection e; omega), World.cell?_setCell_other _ _ _ _ (fun e => by injection e; omega)]; exact q3
  have a2 : ((w.setCell ⟨R, 0, none⟩ x).setCell ⟨R, 1, none⟩ y).cell? ⟨R', 1, none⟩ = some (.slice ao' m' c') := by
    rw [World.cell?_setCell_other _ _ _ _ (fun e => by injection e; omega), World.cell?_setCell_other _ _ _ _ (fun e => by injection e; omega)]; exact q4
  exact (h.store2 q1 q2 x y).store2 a1 a2 x' y'

/-- What DivMod answers where there is a quotient. -/
def DivOut (x y : Int) (B : Nat) (w : World) (e : Ending) (w' : World) : Prop :=
  ∃ q r, e = .returned (.tuple #[q, r, .int .i64 0]) ∧ RepI w' q (x.fdiv y) ∧ RepI w' r (x.fmod y) ∧ Below B w w'

set_option maxRecDepth 20000 in
set_option maxHeartbeats 2000000 in
theorem wdiv_zero (p q : Bool) (ao : Option Addr) (n c : Nat) (f : Nat → Int) (bo : Option Addr) (m d : Nat) (g : Nat → Int) (w : World)
    (hu : Nums .u64 w (.slice ao n c) n f) (hf : U64 n f) (hv : Nums .u64 w (.slice bo m d) m g) (hg : U64 m g) (h0 : num g m = 0) :
    Calls Tryd.prog 48 #[.agg #[.bool p, .slice ao n c], .agg #[.bool q, .slice bo m d]] w fun e w' => ∃ q r, e = .returned (.tuple #[q, r, .int .i64 2]) ∧ RepI w' q 0 ∧ RepI w' r 0 ∧ Below w.heap.size w w' := by
  have hA : ∀ o o' o'' o3, Below w.heap.size w ((((w.alloc o).alloc o').alloc o'').alloc o3) := fun o o' o'' o3 => ((((Below.refl _ _).alloc (Nat.le_refl _) _).alloc (by simp) _).alloc (by simp; omega) _).alloc (by simp; omega) _
  have ne1 : ¬ w.heap.size = w.heap.size + 1 + 1 := by omega
  have ne2 : ¬ w.heap.size + 1 + 1 = w.heap.size := by omega
  have ne3 : ¬ w.heap.size = w.heap.size + 1 + 1 + 1 := by omega
  have ne4 : ¬ w.heap.size + 1 + 1 + 1 = w.heap.size := by omega
  have ne5 : ¬ w.heap.size + 1 = w.heap.size + 1 + 1 + 1 := by omega
  have ne6 : ¬ w.heap.size + 1 + 1 + 1 = w.heap.size + 1 := by omega
  obtain ⟨c1, c2, c3, c4⟩ := box_b w 36 36 (.bool p) (.slice ao n c) (.bool q) (.slice bo m d) (.cells #[.bool false, .slice none 0 0] 36) (.cells #[.bool false, .slice none 0 0] 36)
  go_enter Tryd.func48, Tryd.ntmps48
  go_wp2_with fail
  refine (divMod_zero _ _ _ _ _ (hv.below (hA _ _ _ _)) hg h0).mono ?_
  rintro e w0 ⟨rfl, hw⟩
  subst hw
  go_wp2
  (try simp only [Exit.inBlock, Exit.then])
  refine bodyPost_ret (v := .tuple #[.agg #[.bool false, .slice none 0 0], .agg #[.bool false, .slice none 0 0], .int .i64 2]) (by simp [results, go_sem]) rfl ?_
  exact ⟨_, _, rfl, RepI.nil _, RepI.nil _, hA _ _ _ _⟩

set_option maxRecDepth 20000 in
set_option maxHeartbeats 2000000 in
theorem wdiv_same (p : Bool) (ao : Option Addr) (n c : Nat) (f : Nat → Int) (bo : Option Addr) (m d : Nat) (g : Nat → Int) (w : World)
    (hu : Nums .u64 w (.slice ao n c) n f) (hf : U64 n f) (hv : Nums .u64 w (.slice bo m d) m g) (hg : U64 m g) (h0 : num g m ≠ 0) (hl : nl W32 (num f n) ≤ 999999) :
    Calls Tryd.prog 48 #[.agg #[.bool p, .slice ao n c], .agg #[.bool p, .slice bo m d]] w fun e w' => DivOut (zof p (num f n)) (zof p (num g m)) w.heap.size w e w' := by
  have hA : ∀ o o' o'' o3, Below w.heap.size w ((((w.alloc o).alloc o').alloc o'').alloc o3) := fun o o' o'' o3 => ((((Below.refl _ _).alloc (Nat.le_refl _) _).alloc (by simp) _).alloc (by simp; omega) _).alloc (by simp; omega) _
  have ne1 : ¬ w.heap.size = w.heap.size + 1 + 1 := by omega
  have ne2 : ¬ w.heap.size + 1 + 1 = w.heap.size := by omega
  have ne3 : ¬ w.heap.size = w.heap.size + 1 + 1 + 1 := by omega
  have ne4 : ¬ w.heap.size + 1 + 1 + 1 = w.heap.size := by omega
  have ne5 : ¬ w.heap.size + 1 = w.heap.size + 1 + 1 + 1 := by omega
  have ne6 : ¬ w.heap.size + 1 + 1 + 1 = w.heap.size + 1 := by omega
  obtain ⟨c1, c2, c3, c4⟩ := box_b w 36 36 (.bool p) (.slice ao n c) (.bool p) (.slice bo m d) (.cells #[.bool false, .slice none 0 0] 36) (.cells #[.bool false, .slice none 0 0] 36)
  go_enter Tryd.func48, Tryd.ntmps48
  go_wp2_with fail
  refine (divMod_of _ _ _ _ _ _ _ (hu.below (hA _ _ _ _)) (hv.below (hA _ _ _ _)) hf hg h0 (divide_any _ _ (by omega) hl)).mono ?_
  rintro e w0 ⟨qv, rv, rfl, hqv, hrv, hb0⟩
  have hj0 := keepW hb0 (by simp) (res34 w _ _ _ _ _ _ _ _)
  have hk0 := keepW hb0 (by simp) (res4 w _ _ _ _ _ _)
  obtain ⟨d1, d2, d3, d4⟩ := keep4 hb0 (by simp) ⟨c1, c2, c3, c4⟩
  have B0 : Below w.heap.size w w0 := (hA _ _ _ _).trans (hb0.mono (by simp; omega))
  clear c1 c2 c3 c4
  go_wp2
  go_region_held3 (fun w' => w'.cell? ⟨w.heap.size, 0, none⟩ = some (.bool p) ∧ w'.cell? ⟨w.heap.size, 1, none⟩ = some (.slice ao n c) ∧ w'.cell? ⟨w.heap.size + 1, 0, none⟩ = some (.bool p) ∧ w'.cell? ⟨w.heap.size + 1, 1, none⟩ = some (.slice bo m d)) (first | exact keep4 (by assumption) (by simp) (by assumption) | go_keep) (first
    | (go_at_call_of 50 qv; refine (signed_any false _ _ _ (hqv.nums.below (Below.refl _ w0).drew)).mono ?_; rintro e w1 ⟨r1, rfl, hr1, hb1⟩; obtain ⟨b1, ao1, n1, e1, rfl⟩ := hr1.open; have hj1 := keepW hb1 (Nat.le_refl _) hj0; have hk1 := keepW hb1 (Nat.le_refl _) hk0)
    | (go_at_call_of 50 rv; refine (signed_any p _ _ _ ((hrv.nums.below (Below.refl _ w0).drew).below hb1)).mono ?_; rintro e w2 ⟨r2, rfl, hr2, hb2⟩; obtain ⟨b2, ao2, n2, e2, rfl⟩ := hr2.open; obtain ⟨q1, q2, q3, q4⟩ := keepW hb2 (Nat.le_refl _) hj1; obtain ⟨q5, q6, q7, q8⟩ := keepW hb2 (Nat.le_refl _) hk1))
  go_wp2
  (try simp only [Exit.inBlock, Exit.then])
  refine bodyPost_ret (v := .tuple #[.agg #[.bool b1, .slice ao1 n1 e1], .agg #[.bool b2, .slice ao2 n2 e2], .int .i64 0]) (by simp [results, go_sem, q1, q2, q5, q6]) rfl ?_
  have B1 := B0.drew.trans (hb1.mono B0.size)
  have B2 := B1.trans (hb2.mono B1.size)
  have hfl := floor_same p (num f n) (num g m) (by omega)
  refine ⟨_, _, rfl, ?_, ?_, below_store2 (below_store2 B2 (by omega) _ _) (by omega) _ _⟩
  · rw [hfl.1]; exact (hr1.below hb2).store4 q1 q2 q5 q6 (by omega) _ _ _ _
  · rw [hfl.2]; exact hr2.store4 q1 q2 q5 q6 (by omega) _ _ _ _

set_option maxRecDepth 20000 in
set_option maxHeartbeats 2000000 in
theorem wdiv_even (p : Bool) (ao : Option Addr) (n c : Nat) (f : Nat → Int) (bo : Option Addr) (m d : Nat) (g : Nat → Int) (w : World)
    (hu : Nums .u64 w (.slice ao n c) n f) (hf : U64 n f) (hv : Nums .u64 w (.slice bo m d) m g) (hg : U64 m g) (h0 : num g m ≠ 0) (hl : nl W32 (num f n) ≤ 999999) (hR : num f n % num g m = 0) :
    Calls Tryd.prog 48 #[.agg #[.bool p, .slice ao n c], .agg #[.bool (!p), .slice bo m d]] w fun e w' => DivOut (zof p (num f n)) (zof (!p) (num g m)) w.heap.size w e w' := by
  have hA : ∀ o o' o'' o3, Below w.heap.size w ((((w.alloc o).alloc o').alloc o'').alloc o3) := fun o o' o'' o3 => ((((Below.refl _ _).alloc (Nat.le_refl _) _).alloc (by simp) _).alloc (by simp; omega) _).alloc (by simp; omega) _
  have ne1 : ¬ w.heap.size = w.heap.size + 1 + 1 := by omega
  have ne2 : ¬ w.heap.size + 1 + 1 = w.heap.size := by omega
  have ne3 : ¬ w.heap.size = w.heap.size + 1 + 1 + 1 := by omega
  have ne4 : ¬ w.heap.size + 1 + 1 + 1 = w.heap.size := by omega
  have ne5 : ¬ w.heap.size + 1 = w.heap.size + 1 + 1 + 1 := by omega
  have ne6 : ¬ w.heap.size + 1 + 1 + 1 = w.heap.size + 1 := by omega
  have hpq : (p == !p) = false := by cases p <;> rfl
  obtain ⟨c1, c2, c3, c4⟩ := box_b w 36 36 (.bool p) (.slice ao n c) (.bool (!p)) (.slice bo m d) (.cells #[.bool false, .slice none 0 0] 36) (.cells #[.bool false, .slice none 0 0] 36)
  have hfl : Hid (_ ∧ _) := floor_even p (num f n) (num g m) (by omega) hR
  generalize hq : (!p) = q at *
  go_enter Tryd.func48, Tryd.ntmps48
  go_wp2_with fail
  refine (divMod_of _ _ _ _ _ _ _ (hu.below (hA _ _ _ _)) (hv.below (hA _ _ _ _)) hf hg h0 (divide_any _ _ (by omega) hl)).mono ?_
  rintro e w0 ⟨qv, rv, rfl, hqv, hrv, hb0⟩
  have hj0 := keepW hb0 (by simp) (res34 w _ _ _ _ _ _ _ _)
  have hk0 := keepW hb0 (by simp) (res4 w _ _ _ _ _ _)
  obtain ⟨d1, d2, d3, d4⟩ := keep4 hb0 (by simp) ⟨c1, c2, c3, c4⟩
  have B0 : Below w.heap.size w w0 := (hA _ _ _ _).trans (hb0.mono (by simp; omega))
  clear c1 c2 c3 c4 hq
  go_wp2_with fail
  refine (nat_zero_rep hrv.rep).mono ?_
  rintro e w1 ⟨rfl, hw⟩
  subst hw
  rw [decide_eq_true hR]
  go_wp2_with fail
  refine (signed_any true _ _ _ hqv.nums).mono ?_
  rintro e w1 ⟨r1, rfl, hr1, hb1⟩
  obtain ⟨b1, ao1, n1, e1, rfl⟩ := hr1.open
  obtain ⟨q1, q2, q3, q4⟩ := keepW hb1 (Nat.le_refl _) hj0
  obtain ⟨q5, q6, q7, q8⟩ := keepW hb1 (Nat.le_refl _) hk0
  go_wp2
  (try simp only [Exit.inBlock, Exit.then])
  refine bodyPost_ret (v := .tuple #[.agg #[.bool b1, .slice ao1 n1 e1], .agg #[.bool false, .slice none 0 0], .int .i64 0]) (by simp [results, go_sem, q1, q2, q5, q6]) rfl ?_
  have B1 := B0.trans (hb1.mono B0.size)
  refine ⟨_, _, rfl, ?_, ?_, below_store2 (below_store2 B1 (by omega) _ _) (by omega) _ _⟩
  · rw [hfl.out.1]; exact hr1.store4 q1 q2 q5 q6 (by omega) _ _ _ _
  · rw [hfl.out.2]; exact RepI.nil _

set_option maxRecDepth 20000 in
set_option maxHeartbeats 2000000 in
theorem wdiv_odd (p : Bool) (ao : Option Addr) (n c : Nat) (f : Nat → Int) (bo : Option Addr) (m d : Nat) (g : Nat → Int) (w : World)
    (hu : Nums .u64 w (.slice ao n c) n f) (hf : U64 n f) (hv : Nums .u64 w (.slice bo m d) m g) (hg : U64 m g) (h0 : num g m ≠ 0) (hl : nl W32 (num f n) ≤ 999999) (hR : num f n % num g m ≠ 0) :
    Calls Tryd.prog 48 #[.agg #[.bool p, .slice ao n c], .agg #[.bool (!p), .slice bo m d]] w fun e w' => DivOut (zof p (num f n)) (zof (!p) (num g m)) w.heap.size w e w' := by
  have hA : ∀ o o' o'' o3, Below w.heap.size w ((((w.alloc o).alloc o').alloc o'').alloc o3) := fun o o' o'' o3 => ((((Below.refl _ _).alloc (Nat.le_refl _) _).alloc (by simp) _).alloc (by simp; omega) _).alloc (by simp; omega) _
  have ne1 : ¬ w.heap.size = w.heap.size + 1 + 1 := by omega
  have ne2 : ¬ w.heap.size + 1 + 1 = w.heap.size := by omega
  have ne3 : ¬ w.heap.size = w.heap.size + 1 + 1 + 1 := by omega
  have ne4 : ¬ w.heap.size + 1 + 1 + 1 = w.heap.size := by omega
  have ne5 : ¬ w.heap.size + 1 = w.heap.size + 1 + 1 + 1 := by omega
  have ne6 : ¬ w.heap.size + 1 + 1 + 1 = w.heap.size + 1 := by omega
  have hpq : (p == !p) = false := by cases p <;> rfl
  obtain ⟨c1, c2, c3, c4⟩ := box_b w 36 36 (.bool p) (.slice ao n c) (.bool (!p)) (.slice bo m d) (.cells #[.bool false, .slice none 0 0] 36) (.cells #[.bool false, .slice none 0 0] 36)
  have hfl : Hid (_ ∧ _) := floor_odd p (num f n) (num g m) (by omega) hR
  generalize hq : (!p) = q at *
  go_enter Tryd.func48, Tryd.ntmps48
  go_wp2_with fail
  refine (divMod_of _ _ _ _ _ _ _ (hu.below (hA _ _ _ _)) (hv.below (hA _ _ _ _)) hf hg h0 (divide_any _ _ (by omega) hl)).mono ?_
  rintro e w0 ⟨qv, rv, rfl, hqv, hrv, hb0⟩
  have hj0 := keepW hb0 (by simp) (res34 w _ _ _ _ _ _ _ _)
  have hk0 := keepW hb0 (by simp) (res4 w _ _ _ _ _ _)
  obtain ⟨d1, d2, d3, d4⟩ := keep4 hb0 (by simp) ⟨c1, c2, c3, c4⟩
  have B0 : Below w.heap.size w w0 := (hA _ _ _ _).trans (hb0.mono (by simp; omega))
  clear c1 c2 c3 c4 hq
  have hlm : num f n % num g m < num g m := Nat.mod_lt _ (by omega)
  have hq1 : nl W32 (num f n / num g m) ≤ 999999 := Nat.le_trans (nl_mono W32 _ _ (by decide) (Nat.div_le_self _ _)) hl
  have hn1 := nl_one
  go_wp2_with fail
  refine (nat_zero_rep hrv.rep).mono ?_
  rintro e wz ⟨rfl, hw⟩
  subst hw
  rw [decide_eq_false hR]
  have i1 : Rep wz.drew qv (num f n / num g m) := hqv.nums.below (Below.refl _ wz).drew
  have i2 : Rep wz.drew rv (num f n % num g m) := hrv.nums.below (Below.refl _ wz).drew
  have i3 : Nums .u64 wz.drew (.slice bo m d) m g := hv.below B0.drew
  go_wp2
  go_region_held3 (fun w' => w'.cell? ⟨w.heap.size, 0, none⟩ = some (.bool p) ∧ w'.cell? ⟨w.heap.size, 1, none⟩ = some (.slice ao n c) ∧ w'.cell? ⟨w.heap.size + 1, 0, none⟩ = some (.bool q) ∧ w'.cell? ⟨w.heap.size + 1, 1, none⟩ = some (.slice bo m d)) (first | exact keep4 (by assumption) (by simp) (by assumption) | go_keep) (first
    | (go_at_call 34; refine (of_any _ _ (by omega) (by omega)).mono ?_; rintro e w1 ⟨s1, rfl, hs1, hb1⟩; rw [show (1 : Int).toNat = 1 from rfl] at hs1; have hj1 := keepW hb1 (Nat.le_refl _) hj0; have hk1 := keepW hb1 (Nat.le_refl _) hk0)
    | (go_at_call 74; refine (add_any _ _ _ _ _ _ _ (Nums.below i1 hb1) hs1.nums (u64_dg _ _) (u64_dg _ _) (by omega) (by omega)).mono ?_; rw [num_nl, num_nl]; rintro e w2 ⟨s2, rfl, hs2, hb2⟩; have hj2 := keepW hb2 (Nat.le_refl _) hj1; have hk2 := keepW hb2 (Nat.le_refl _) hk1)
    | (go_at_call_of 50 s2; refine (signed_any true _ _ _ hs2.rep).mono ?_; rintro e w3 ⟨r1, rfl, hr1, hb3⟩; obtain ⟨b1, ao1, n1, e1, rfl⟩ := hr1.open; have hj3 := keepW hb3 (Nat.le_refl _) hj2; have hk3 := keepW hb3 (Nat.le_refl _) hk2)
    | (go_at_call 75; refine (less_any _ _ _ _ _ _ _ (((i3.below hb1).below hb2).below hb3) (Nums.below (Nums.below (Nums.below i2 hb1) hb2) hb3) hg (u64_dg _ _) (by rw [num_nl]; omega)).mono ?_; rw [num_nl]; rintro e w4 ⟨s4, rfl, hs4, hb4⟩; have hj4 := keepW hb4 (Nat.le_refl _) hj3; have hk4 := keepW hb4 (Nat.le_refl _) hk3)
    | (go_at_call_of 50 s4; refine (signed_any q _ _ _ hs4.rep).mono ?_; rintro e w5 ⟨r2, rfl, hr2, hb5⟩; obtain ⟨b2, ao2, n2, e2, rfl⟩ := hr2.open; obtain ⟨q1, q2, q3, q4⟩ := keepW hb5 (Nat.le_refl _) hj4; obtain ⟨q5, q6, q7, q8⟩ := keepW hb5 (Nat.le_refl _) hk4))
  go_wp2
  (try simp only [Exit.inBlock, Exit.then])
  refine bodyPost_ret (v := .tuple #[.agg #[.bool b1, .slice ao1 n1 e1], .agg #[.bool b2, .slice ao2 n2 e2], .int .i64 0]) (by simp [results, go_sem, q1, q2, q5, q6]) rfl ?_
  have B1 := B0.drew.trans (hb1.mono B0.size)
  have B2 := B1.trans (hb2.mono B1.size)
  have B3 := B2.trans (hb3.mono B2.size)
  have B4 := B3.trans (hb4.mono B3.size)
  have B5 := B4.trans (hb5.mono B4.size)
  refine ⟨_, _, rfl, ?_, ?_, below_store2 (below_store2 B5 (by omega) _ _) (by omega) _ _⟩
  · rw [hfl.out.1]; exact ((hr1.below hb4).below hb5).store4 q1 q2 q5 q6 (by omega) _ _ _ _
  · rw [hfl.out.2]; exact hr2.store4 q1 q2 q5 q6 (by omega) _ _ _ _

theorem wdivMod_any (u v : Value) (x y : Int) (L M : Nat) (w : World) (hu : IntAt w u x L) (hv : IntAt w v y M) (hL : L ≤ 999998) (hy : y ≠ 0) :
    Calls Tryd.prog 48 #[u, v] w fun e w' => DivOut x y w.heap.size w e w' := by
  obtain ⟨p, ao, n, c, f, rfl, hu, hf, rfl, hn⟩ := hu
  obtain ⟨q, bo, m, d, g, rfl, hv, hg, rfl, hm⟩ := hv
  have h0 : num g m ≠ 0 := fun h => hy (by rw [h]; cases q <;> simp [zof])
  have hl : nl W32 (num f n) ≤ 999999 := Nat.le_trans (nl_le W32 _ _ (by decide) (num_lt f n)) (by omega)
  by_cases hpq : p = q
  · subst hpq
    exact wdiv_same p ao n c f bo m d g w hu hf hv hg h0 hl
  · obtain rfl : q = !p := by cases p <;> cases q <;> simp_all
    by_cases hR : num f n % num g m = 0
    · exact wdiv_even p ao n c f bo m d g w hu hf hv hg h0 hl hR
    · exact wdiv_odd p ao n c f bo m d g w hu hf hv hg h0 hl hR
theorem wdivMod_zero (u v : Value) (x : Int) (L M : Nat) (w : World) (hu : IntAt w u x L) (hv : IntAt w v 0 M) :
    Calls Tryd.prog 48 #[u, v] w fun e w' => ∃ q r, e = .returned (.tuple #[q, r, .int .i64 2]) ∧ RepI w' q 0 ∧ RepI w' r 0 ∧ Below w.heap.size w w' := by
  obtain ⟨p, ao, n, c, f, rfl, hu, hf, _, hn⟩ := hu
  obtain ⟨q, bo, m, d, g, rfl, hv, hg, h0, hm⟩ := hv
  exact wdiv_zero p q ao n c f bo m d g w hu hf hv hg (by have := zof_abs q (num g m); rw [h0] at this; simpa using this.symm)

end Go.Proofs.YthhabammejkjcaaDoor
