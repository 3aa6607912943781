/-
  Texts of mine.
-/
import Derived.Test.YthkamfddbiheoaaGreatDoorJf7fc8f69bc
import Derived.Deep.RegionHeld3
namespace Go.Proofs.YthkamfddbiheoaaGreatDoor
open Go.RowKit

/-- The whole number of a sign and an amount. -/
def zof (neg : Bool) (m : Nat) : Int := if neg = true then -(m : Int) else (m : Int)
theorem zof_false (m : Nat) : zof false m = (m : Int) := by simp [zof]
theorem zof_true (m : Nat) : zof true m = -(m : Int) := by simp [zof]
theorem zof_abs (neg : Bool) (m : Nat) : (zof neg m).natAbs = m := by cases neg <;> simp [zof]
theorem zof_neg (neg : Bool) (m : Nat) : decide (zof neg m < 0) = (neg && !decide (m = 0)) := by
 cases neg
 ·rw [zof_false]; simp
 ·rw [zof_true, Bool.eq_iff_iff]; simp; omega
theorem zof_self (z : Int) : zof (decide (z < 0)) z.natAbs = z := by
 by_cases h : z < 0
 ·rw [decide_eq_true h, zof_true]; omega
 ·rw [decide_eq_false h, zof_false]; omega
/-- The value v is a sign and any limbs, of at most L limbs, that are the whole number z. -/
def IntAt (w : World) (v : Value) (z : Int) (L : Nat) : Prop :=
 ∃ neg ao n c f, v = .agg #[.bool neg, .slice ao n c] ∧ Nums .u64 w (.slice ao n c) n f ∧ U64 n f ∧ zof neg (num f n) = z ∧ n ≤ L
/-- The value v is the whole number z, in its one form. -/
def RepI (w : World) (v : Value) (z : Int) : Prop :=
 ∃ ao c, v = .agg #[.bool (decide (z < 0)), .slice ao (nl W32 z.natAbs) c] ∧ Rep w (.slice ao (nl W32 z.natAbs) c) z.natAbs

theorem IntAt.below {w w' : World} {v : Value} {z : Int} {L : Nat} (h : IntAt w v z L) (hb : Below w.heap.size w w') : IntAt w' v z L := by
 obtain ⟨neg, ao, n, c, f, h1, h2, h3, h4, h5⟩ := h
 exact ⟨neg, ao, n, c, f, h1, h2.below hb, h3, h4, h5⟩
theorem RepI.below {w w' : World} {v : Value} {z : Int} (h : RepI w v z) (hb : Below w.heap.size w w') : RepI w' v z := by
 obtain ⟨ao, c, h1, h2⟩ := h
 exact ⟨ao, c, h1, Nums.below h2 hb⟩
theorem RepI.at {w : World} {v : Value} {z : Int} (h : RepI w v z) (L : Nat) (hL : nl W32 z.natAbs ≤ L) : IntAt w v z L := by
 obtain ⟨ao, c, h1, h2⟩ := h
 exact ⟨_, ao, _, c, _, h1, h2, u64_dg _ _, by rw [num_nl]; exact zof_self z, hL⟩
theorem RepI.mk {w : World} {s : Value} {m : Nat} (neg : Bool) (hs : Rep w s m) : RepI w (.agg #[.bool (neg && !decide (m = 0)), s]) (zof neg m) := by
 obtain ⟨ao, c, rfl, h2⟩ := hs
 refine ⟨ao, c, ?_, ?_⟩
 ·rw [zof_abs, zof_neg]
 ·rw [zof_abs]; exact ⟨ao, c, rfl, h2⟩
theorem RepI.nil (w : World) : RepI w (.agg #[.bool false, .slice none 0 0]) 0 :=
 ⟨none, 0, by simp [nl_zero], by show Rep w (.slice none (nl W32 0) 0) 0; rw [nl_zero]; unfold Rep; rw [nl_zero]; exact Nums.nil _ _ _⟩

theorem RepI.open {w : World} {v : Value} {z : Int} (h : RepI w v z) : ∃ b ao n c, v = .agg #[.bool b, .slice ao n c] := by
 obtain ⟨ao, c, h1, _⟩ := h
 exact ⟨_, _, _, _, h1⟩
theorem IntAt.open {w : World} {v : Value} {z : Int} {L : Nat} (h : IntAt w v z L) : ∃ b ao n c, v = .agg #[.bool b, .slice ao n c] := by
 obtain ⟨neg, ao, n, c, f, h1, _⟩ := h
 exact ⟨_, _, _, _, h1⟩

theorem nat_zero_rep {w : World} {s : Value} {m : Nat} (hs : Rep w s m) : Calls Tryz.prog 83 #[s] w fun e w' => e = .returned (.bool (decide (m = 0))) ∧ w' = w := by
 have h := zero_any s _ _ w hs (u64_dg _ _)
 rw [num_sz, num_nl] at h
 have e : decide (nl W32 m = 0) = decide (m = 0) := by rw [Bool.eq_iff_iff]; simp [nl_eq_zero W32 m (by decide)]
 rw [e] at h; exact h


/-- What two cells hold, held on behind a call. -/
theorem keep2 {w w' : World} {B : Nat} {a b : Addr} {x y : Value} (hb : Below B w w') (hB : w.heap.size ≤ B) (h : w.cell? a = some x ∧ w.cell? b = some y) : w'.cell? a = some x ∧ w'.cell? b = some y :=
 ⟨(hb.cell (Nat.lt_of_lt_of_le (World.block_lt_of_cell? _ _ h.1) hB)).trans h.1, (hb.cell (Nat.lt_of_lt_of_le (World.block_lt_of_cell? _ _ h.2) hB)).trans h.2⟩
theorem keep4 {w w' : World} {B : Nat} {a b c d : Addr} {x y z t : Value} (hb : Below B w w') (hB : w.heap.size ≤ B) (h : w.cell? a = some x ∧ w.cell? b = some y ∧ w.cell? c = some z ∧ w.cell? d = some t) :
  w'.cell? a = some x ∧ w'.cell? b = some y ∧ w'.cell? c = some z ∧ w'.cell? d = some t :=
 ⟨(keep2 hb hB ⟨h.1, h.2.1⟩).1, (keep2 hb hB ⟨h.1, h.2.1⟩).2, keep2 hb hB h.2.2⟩
theorem froz_later {w w' : World} {B : Nat} {a : Addr} {x : Value} (hb : Below B w w') (hB : w.heap.size ≤ B) (hc : w.cell? a = some x) (h : w.frozen? a = false) : w'.frozen? a = false :=
 (hb.frozen (Nat.lt_of_lt_of_le (World.block_lt_of_cell? _ _ hc) hB)).trans h
/-- Two cells that may be written. -/
theorem keepW {w w' : World} {B : Nat} {a b : Addr} {x y : Value} (hb : Below B w w') (hB : w.heap.size ≤ B) (h : w.cell? a = some x ∧ w.cell? b = some y ∧ w.frozen? a = false ∧ w.frozen? b = false) :
  w'.cell? a = some x ∧ w'.cell? b = some y ∧ w'.frozen? a = false ∧ w'.frozen? b = false :=
 ⟨(keep2 hb hB ⟨h.1, h.2.1⟩).1, (keep2 hb hB ⟨h.1, h.2.1⟩).2, froz_later hb hB h.1 h.2.2.1, froz_later hb hB h.2.1 h.2.2.2⟩
/-- A new variable for a struct of two cells: its cells, and that they may be written. -/
theorem resW (W : World) (t : TypeId) (x y : Value) : (W.alloc (.cells #[x, y] t)).cell? ⟨W.heap.size, 0, none⟩ = some x ∧ (W.alloc (.cells #[x, y] t)).cell? ⟨W.heap.size, 1, none⟩ = some y ∧
  (W.alloc (.cells #[x, y] t)).frozen? ⟨W.heap.size, 0, none⟩ = false ∧ (W.alloc (.cells #[x, y] t)).frozen? ⟨W.heap.size, 1, none⟩ = false := by
 refine ⟨?_, ?_, ?_, ?_⟩ <;> simp
theorem res1 (w : World) (o : Obj) (t : TypeId) (x y : Value) : ((w.alloc o).alloc (.cells #[x, y] t)).cell? ⟨w.heap.size + 1, 0, none⟩ = some x ∧ ((w.alloc o).alloc (.cells #[x, y] t)).cell? ⟨w.heap.size + 1, 1, none⟩ = some y ∧
  ((w.alloc o).alloc (.cells #[x, y] t)).frozen? ⟨w.heap.size + 1, 0, none⟩ = false ∧ ((w.alloc o).alloc (.cells #[x, y] t)).frozen? ⟨w.heap.size + 1, 1, none⟩ = false := by
 have h := resW (w.alloc o) t x y
 rw [World.size_alloc] at h; exact h
theorem res2 (w : World) (o o' : Obj) (t : TypeId) (x y : Value) : (((w.alloc o).alloc o').alloc (.cells #[x, y] t)).cell? ⟨w.heap.size + 1 + 1, 0, none⟩ = some x ∧ (((w.alloc o).alloc o').alloc (.cells #[x, y] t)).cell? ⟨w.heap.size + 1 + 1, 1, none⟩ = some y ∧
  (((w.alloc o).alloc o').alloc (.cells #[x, y] t)).frozen? ⟨w.heap.size + 1 + 1, 0, none⟩ = false ∧ (((w.alloc o).alloc o').alloc (.cells #[x, y] t)).frozen? ⟨w.heap.size + 1 + 1, 1, none⟩ = false := by
 have h := resW ((w.alloc o).alloc o') t x y
 rw [World.size_alloc, World.size_alloc] at h; exact h

/-- What a variable for a struct of a bool and a slice is given lies among no numbers. -/
theorem Nums.store2 {k : IntKind} {w : World} {v : Value} {n : Nat} {f : Nat → Int} (h : Nums k w v n f) {R m c : Nat} {p : Bool} {ao : Option Addr} (q1 : w.cell? ⟨R, 0, none⟩ = some (.bool p)) (q2 : w.cell? ⟨R, 1, none⟩ = some (.slice ao m c)) (x y : Value) :
  Nums k ((w.setCell ⟨R, 0, none⟩ x).setCell ⟨R, 1, none⟩ y) v n f := by
 obtain ⟨bo, d, h1, h2, h3, h4⟩ := h
 refine ⟨bo, d, h1, h2, h3, fun hn => ?_⟩
 obtain ⟨b, off, e, hc⟩ := h4 hn
 refine ⟨b, off, e, fun i hi => ?_⟩
 have hi' := hc i hi
 rw [World.cell?_setCell_other _ _ _ _ (fun e' => by rw [← e', q2] at hi'; cases hi'), World.cell?_setCell_other _ _ _ _ (fun e' => by rw [← e', q1] at hi'; cases hi')]
 exact hi'
theorem RepI.store2 {w : World} {v : Value} {z : Int} (h : RepI w v z) {R m c : Nat} {p : Bool} {ao : Option Addr} (q1 : w.cell? ⟨R, 0, none⟩ = some (.bool p)) (q2 : w.cell? ⟨R, 1, none⟩ = some (.slice ao m c)) (x y : Value) :
  RepI ((w.setCell ⟨R, 0, none⟩ x).setCell ⟨R, 1, none⟩ y) v z := by
 obtain ⟨ao, c, h1, h2⟩ := h
 exact ⟨ao, c, h1, Nums.store2 h2 q1 q2 x y⟩
theorem IntAt.store2 {w : World} {v : Value} {z : Int} {L : Nat} (h : IntAt w v z L) {R m c : Nat} {p : Bool} {ao : Option Addr} (q1 : w.cell? ⟨R, 0, none⟩ = some (.bool p)) (q2 : w.cell? ⟨R, 1, none⟩ = some (.slice ao m c)) (x y : Value) :
  IntAt ((w.setCell ⟨R, 0, none⟩ x).setCell ⟨R, 1, none⟩ y) v z L := by
 obtain ⟨neg, ao, n, c, f, h1, h2, h3, h4, h5⟩ := h
 exact ⟨neg, ao, n, c, f, h1, Nums.store2 h2 q1 q2 x y, h3, h4, h5⟩
theorem below_store2 {B R : Nat} {w w' : World} (h : Below B w w') (hR : B ≤ R) (x y : Value) : Below B w ((w'.setCell ⟨R, 0, none⟩ x).setCell ⟨R, 1, none⟩ y) := (h.setCell hR _).setCell hR _

set_option maxRecDepth 20000 in
set_option maxHeartbeats 400000 in
theorem signed_any (neg : Bool) (s : Value) (m : Nat) (w : World) (hs : Rep w s m) :
  Calls Tryz.prog 148 #[.bool neg, s] w fun e w' => ∃ r, e = .returned r ∧ RepI w' r (zof neg m) ∧ Below w.heap.size w w' := by
 have hs0 := hs
 obtain ⟨ao, c, rfl, _⟩ := hs
 have hA : ∀ o, Below w.heap.size w (w.alloc o) := fun o => (Below.refl _ _).alloc (Nat.le_refl _) _
 cases neg with
 | false =>
  go_enter Tryz.func148, Tryz.ntmps148
  go_wp2
  refine bodyPost_ret (v := .agg #[.bool false, .slice ao (nl W32 m) c]) (by simp [results, go_sem]) rfl ?_
  exact ⟨_, rfl, RepI.mk false (Nums.below hs0 (hA _)), hA _⟩
 | true =>
  go_enter Tryz.func148, Tryz.ntmps148
  go_wp2_with fail
  refine (nat_zero_rep (Nums.below hs0 (hA _))).mono ?_
  rintro e w1 ⟨rfl, hw⟩
  subst hw
  go_wp2
  refine bodyPost_ret (v := .agg #[.bool (!decide (m = 0)), .slice ao (nl W32 m) c]) (by simp [results, go_sem]) rfl ?_
  exact ⟨_, rfl, RepI.mk true (Nums.below hs0 (hA _)), hA _⟩

set_option maxRecDepth 20000 in
set_option maxHeartbeats 400000 in
theorem sign_any (v : Value) (z : Int) (L : Nat) (w : World) (h : IntAt w v z L) :
  Calls Tryz.prog 95 #[v] w fun e w' => e = .returned (.int .i64 (cmpI z 0)) ∧ Below w.heap.size w w' := by
 obtain ⟨neg, ao, n, c, f, rfl, h, hf, rfl, _⟩ := h
 have hA : ∀ o, Below w.heap.size w (w.alloc o) := fun o => (Below.refl _ _).alloc (Nat.le_refl _) _
 have hz : decide (sz (lo f) n = 0) = decide (num f n = 0) := by rw [num_sz, Bool.eq_iff_iff]; simp [nl_eq_zero W32 (num f n) (by decide)]
 go_enter Tryz.func95, Tryz.ntmps95
 go_wp2_with fail
 refine (zero_any _ _ _ _ (h.below (hA _)) hf).mono ?_
 rintro e w1 ⟨rfl, hw⟩
 subst hw
 rw [hz]
 by_cases h0 : num f n = 0
 ·rw [decide_eq_true h0]
  go_wp2
  go_ret
  exact ⟨ret_int (by rw [h0]; cases neg <;> simp [zof, cmpI]), hA _⟩
 ·rw [decide_eq_false h0]
  cases neg with
  | false =>
   go_wp2
   go_ret
   exact ⟨ret_int (by rw [zof_false]; exact (cmpI_gt (by omega)).symm), hA _⟩
  | true =>
   go_wp2
   go_ret
   exact ⟨ret_int (by rw [zof_true]; exact (cmpI_lt (by omega)).symm), hA _⟩


set_option maxRecDepth 20000 in
set_option maxHeartbeats 1000000 in
theorem wclean_any (v : Value) (z : Int) (L : Nat) (w : World) (h : IntAt w v z L) :
  Calls Tryz.prog 152 #[v] w fun e w' => ∃ r, e = .returned r ∧ RepI w' r (z) ∧ Below w.heap.size w w' := by
 obtain ⟨neg, ao, n, c, f, rfl, h, hf, rfl, _⟩ := h
 have hA : ∀ o o', Below w.heap.size w ((w.alloc o).alloc o') := fun o o' => ((Below.refl _ _).alloc (Nat.le_refl _) _).alloc (by simp) _
 go_enter Tryz.func152, Tryz.ntmps152
 go_wp2
 go_region_held3 (fun w' => w'.cell? ⟨w.heap.size, 0, none⟩ = some (.bool neg) ∧ w'.cell? ⟨w.heap.size, 1, none⟩ = some (.slice ao n c)) (first | exact keep2 (by assumption) (by simp) (by assumption) | go_keep) (first
  | (go_at_call 117; refine (clean_any _ _ _ _ (h.below (hA _ _).drew) hf).mono ?_; rintro e w1 ⟨s, rfl, hs, hb1⟩; have hk1 := keepW hb1 (by simp) (res1 w _ _ _ _))
  | (go_at_call 148; refine (signed_any _ _ _ _ hs.nums).mono ?_; rintro e w2 ⟨r, rfl, hr, hb2⟩; obtain ⟨b2, ao2, n2, c2, rfl⟩ := hr.open; obtain ⟨q1, q2, q3, q4⟩ := keepW hb2 (Nat.le_refl _) hk1))
 go_wp2
 refine bodyPost_ret (v := .agg #[.bool b2, .slice ao2 n2 c2]) (by simp [results, go_sem, q1, q2]) rfl ?_
 have B1 := (hA _ _).drew.trans (hb1.mono (by simp; omega))
 have B2 := B1.trans (hb2.mono B1.size)
 exact ⟨_, rfl, hr.store2 q1 q2 _ _, below_store2 B2 (by omega) _ _⟩

theorem wrap_tdiv (x y : Int) (h0 : 0 ≤ x) (h1 : x < 18446744073709551616) (hy : 0 < y) : IntKind.u64.wrap (x.tdiv y) = x / y := by
 rw [Int.tdiv_eq_ediv_of_nonneg h0]
 have b0 : 0 ≤ x / y := Int.ediv_nonneg h0 (by omega)
 have b1 : x / y ≤ x := Int.ediv_le_self y h0
 exact IntWalk.u64_in _ ⟨b0, by omega⟩

set_option maxRecDepth 20000 in
set_option maxHeartbeats 2000000 in
theorem divide_small (u v : Value) (x y : Nat) (w : World) (hu : Rep w u x) (hv : Rep w v y) (hy : 0 < y) (h : y ≤ x) (h2 : nl W32 x ≤ 2) :
  Calls Tryz.prog 119 #[u, v] w fun e w' => ∃ q r, e = .returned (.tuple #[q, r]) ∧ RepM w.heap.size w' q (x / y) ∧ RepM w.heap.size w' r (x % y) ∧ Below w.heap.size w w' := by
 have hc : ¬ cmpI x y < 0 := by unfold cmpI; rw [if_neg (by omega)]; split <;> omega
 have hy2 : nl W32 y ≤ 2 := by
  by_cases g : nl W32 x < nl W32 y
  ·have := lt_of_nl W32 x y (by decide) g; omega
  ·omega
 have hx64 : x < 18446744073709551616 := by
  have h1 := lt_pow_nl W32 x (by decide)
  have h3 : W32 ^ nl W32 x ≤ W32 ^ 2 := Nat.pow_le_pow_right (by decide) h2
  unfold W32 at *; omega
 have hu0 := hu
 have hv0 := hv
 obtain ⟨ao, c, rfl, hl⟩ := rep_val hu0
 obtain ⟨bo, d, rfl, kl⟩ := rep_val hv0
 have hyne : ¬ (y : Int) = 0 := by omega
 have b1 : x / y ≤ x := Nat.div_le_self x y
 have b2 : x % y < y := Nat.mod_lt x hy
 have B1 : 0 ≤ (x : Int) / (y : Int) ∧ (x : Int) / (y : Int) < 18446744073709551616 := by rw [← Int.natCast_ediv]; generalize x / y = q at *; omega
 have B2 : 0 ≤ (x : Int) % (y : Int) ∧ (x : Int) % (y : Int) < 18446744073709551616 := by rw [← Int.natCast_emod]; generalize x % y = q at *; omega
 clear hu0 hv0
 go_enter Tryz.func119, Tryz.ntmps119
 go_wp2_with fail
 refine (cmp_rep _ _ _ _ _ hu hv).mono ?_
 rintro e w1 ⟨rfl, hb1⟩
 go_wp2_with fail
 refine (to_rep _ _ _ (Nums.below hu hb1) h2).mono ?_
 rintro e w2 ⟨rfl, rfl⟩
 go_wp2_with fail
 refine (to_rep _ _ _ (Nums.below hv hb1) hy2).mono ?_
 rintro e w3 ⟨rfl, rfl⟩
 have q1 : Hid (((x : Int) / (y : Int)).toNat = x / y) := by show _ = _; rw [← Int.natCast_ediv]; rfl
 have q2 : Hid (((x : Int) % (y : Int)).toNat = x % y) := by show _ = _; rw [← Int.natCast_emod]; rfl
 have hY0 : (0 : Int) < (y : Int) := by omega
 have hX0 : (0 : Int) ≤ (x : Int) := by omega
 have hX1 : (x : Int) < 18446744073709551616 := by omega
 generalize (x : Int) = X at *
 generalize (y : Int) = Y at *
 have ht : X.tmod Y = X % Y := Int.tmod_eq_emod_of_nonneg hX0
 have hq0 := wrap_tdiv X Y hX0 hX1 hY0
 go_wp2_with fail
 go_region_held3 (fun _ => True) (trivial) (first | (go_at_call_of 84 (X / Y); refine (of_any _ _ B1.1 B1.2).mono ?_; rintro e wq ⟨q, rfl, hq, hbq⟩) | (go_at_call_of 84 (X % Y); refine (of_any _ _ B2.1 B2.2).mono ?_; rintro e wq2 ⟨r, rfl, hr, hbr⟩))
 go_wp2
 go_ret2
 rw [q1.out] at hq
 rw [q2.out] at hr
 have := hb1.size
 have s1 := hbq.size
 simp only [World.size_drew] at s1 hbq hq
 have hD : Below w.heap.size w w3.drew := hb1.drew
 refine ⟨_, _, rfl, (hq.below hbr).le (by omega), hr.le (by omega), hD.trans ((hbq.mono (by omega)).trans (hbr.mono (by omega)))⟩

end Go.Proofs.YthkamfddbiheoaaGreatDoor
