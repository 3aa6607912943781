/-
  Texts of mine, joined: what lies beneath the statement.
-/
import Derived.Test.YtnnnkajomljdgaaGreatDoorJ88b258d9b9
import Derived.Test.YtnnnkajomljdgaaGreatDoorJ3a3a0d9ffb
import Derived.Test.YtnnnkajomljdgaaGreatDoorJ1688b4c1cf
import Derived.Test.YtnnnkajomljdgaaGreatDoorJ8f15fef52f
namespace Go.Proofs.YtnnnkajomljdgaaGreatDoor
open Go.RowKit
set_option linter.unusedVariables false
set_option linter.unusedSimpArgs false

theorem cmpQ_lt10 (q r : Rat) : decide (cmpQ q r < 0) = decide (q < r) := by
 unfold cmpQ
 by_cases h : q < r
 ·simp [h]
 ·by_cases h2 : r < q
  ·simp [h, h2]
  ·simp [h, h2]


set_option maxRecDepth 100000 in
set_option maxHeartbeats 4000000 in
theorem rleft_at (d : Nd) (c : Cl) (p1 p2 p3 p4 : Bool) (a1 b1 a2 b2 a3 b3 a4 b4 : Option Addr) (n1 c1 m1 d1 n2 c2 m2 d2 n3 c3 m3 d3 n4 c4 m4 d4 : Nat) (L : Nat) (w : World) (hu : RatAt w (.agg #[.bool p1, .slice a1 n1 c1, .slice b1 m1 d1]) d.cut L) (hv : RatAt w (.agg #[.bool p4, .slice a4 n4 c4, .slice b4 m4 d4]) c.val L) (hL : 1 ≤ L) (hM : L ≤ 100000) :
  Calls Tryz.prog 41 #[.agg #[.bool d.leaf, .int .i64 d.feat, .bool p1, .slice a1 n1 c1, .slice b1 m1 d1, .int .i64 d.left, .int .i64 d.right, .bool d.miss, .bool p2, .slice a2 n2 c2, .slice b2 m2 d2, .bool p3, .slice a3 n3 c3, .slice b3 m3 d3], .agg #[.bool c.miss, .bool p4, .slice a4 n4 c4, .slice b4 m4 d4]] w fun e w' => e = .returned (.bool (goL d c)) ∧ Below w.heap.size w w' := by
 have hAB : ∀ o o', Below w.heap.size w ((w.alloc o).alloc o') := fun o o' => ((Below.refl _ _).alloc (Nat.le_refl _) _).alloc (by simp) _
 rcases d with ⟨lf, ft, q, ll, rr, ms, vl, cv⟩
 rcases c with ⟨cm, r⟩
 dsimp only at hu hv ⊢
 cases lf
 ·cases cm
  ·have HO : Hid (goL ⟨false, ft, q, ll, rr, ms, vl, cv⟩ ⟨false, r⟩ = decide (r < q)) := rfl
   have h1 := hu.below (hAB (.cells #[.bool false, .int .i64 ft, .bool p1, .slice a1 n1 c1, .slice b1 m1 d1, .int .i64 ll, .int .i64 rr, .bool ms, .bool p2, .slice a2 n2 c2, .slice b2 m2 d2, .bool p3, .slice a3 n3 c3, .slice b3 m3 d3] 67) (.cells #[.bool false, .bool p4, .slice a4 n4 c4, .slice b4 m4 d4] 71))
   have h2 := hv.below (hAB (.cells #[.bool false, .int .i64 ft, .bool p1, .slice a1 n1 c1, .slice b1 m1 d1, .int .i64 ll, .int .i64 rr, .bool ms, .bool p2, .slice a2 n2 c2, .slice b2 m2 d2, .bool p3, .slice a3 n3 c3, .slice b3 m3 d3] 67) (.cells #[.bool false, .bool p4, .slice a4 n4 c4, .slice b4 m4 d4] 71))
   have BB := hAB (.cells #[.bool false, .int .i64 ft, .bool p1, .slice a1 n1 c1, .slice b1 m1 d1, .int .i64 ll, .int .i64 rr, .bool ms, .bool p2, .slice a2 n2 c2, .slice b2 m2 d2, .bool p3, .slice a3 n3 c3, .slice b3 m3 d3] 67) (.cells #[.bool false, .bool p4, .slice a4 n4 c4, .slice b4 m4 d4] 71)
   go_enter Tryz.func41, Tryz.ntmps41
   go_wp2_with fail
   refine (qcmp_at _ _ r q L _ h2 h1 hL hM).mono ?_
   rintro e w1 ⟨rfl, b1⟩
   replace BB := BB.trans (b1.mono BB.size)
   clear b1 h1 h2
   have HC : Hid (decide (cmpQ r q < 0) = decide (r < q)) := cmpQ_lt10 r q
   generalize cmpQ r q = cq at *
   go_wp2
   go_ret
   exact ⟨by rw [HO.out, ← HC.out]; rfl, BB⟩
  ·cases ms <;> (go_enter Tryz.func41, Tryz.ntmps41; go_wp2; go_ret; exact ⟨rfl, hAB _ _⟩)
 ·go_enter Tryz.func41, Tryz.ntmps41
  go_wp2
  go_ret
  exact ⟨rfl, hAB _ _⟩


set_option maxRecDepth 100000 in
set_option maxHeartbeats 4000000 in
theorem lleft_at (d : Nd) (c : Cl) (p1 p2 p3 p4 : Bool) (a1 b1 a2 b2 a3 b3 a4 b4 : Option Addr) (n1 c1 m1 d1 n2 c2 m2 d2 n3 c3 m3 d3 n4 c4 m4 d4 : Nat) (L : Nat) (w : World) (hu : RatAt w (.agg #[.bool p1, .slice a1 n1 c1, .slice b1 m1 d1]) d.cut L) (hv : RatAt w (.agg #[.bool p4, .slice a4 n4 c4, .slice b4 m4 d4]) c.val L) (hL : 1 ≤ L) (hM : L ≤ 100000) :
  Calls Tryz.prog 42 #[.agg #[.bool d.leaf, .int .i64 d.feat, .bool p1, .slice a1 n1 c1, .slice b1 m1 d1, .int .i64 d.left, .int .i64 d.right, .bool d.miss, .bool p2, .slice a2 n2 c2, .slice b2 m2 d2, .bool p3, .slice a3 n3 c3, .slice b3 m3 d3], .agg #[.bool c.miss, .bool p4, .slice a4 n4 c4, .slice b4 m4 d4]] w fun e w' => e = .returned (.bool (goL d c)) ∧ Below w.heap.size w w' := by
 have hAB : ∀ o o', Below w.heap.size w ((w.alloc o).alloc o') := fun o o' => ((Below.refl _ _).alloc (Nat.le_refl _) _).alloc (by simp) _
 rcases d with ⟨lf, ft, q, ll, rr, ms, vl, cv⟩
 rcases c with ⟨cm, r⟩
 dsimp only at hu hv ⊢
 cases lf
 ·cases cm
  ·have HO : Hid (goL ⟨false, ft, q, ll, rr, ms, vl, cv⟩ ⟨false, r⟩ = decide (r < q)) := rfl
   have h1 := hu.below (hAB (.cells #[.bool false, .int .i64 ft, .bool p1, .slice a1 n1 c1, .slice b1 m1 d1, .int .i64 ll, .int .i64 rr, .bool ms, .bool p2, .slice a2 n2 c2, .slice b2 m2 d2, .bool p3, .slice a3 n3 c3, .slice b3 m3 d3] 67) (.cells #[.bool false, .bool p4, .slice a4 n4 c4, .slice b4 m4 d4] 71))
   have h2 := hv.below (hAB (.cells #[.bool false, .int .i64 ft, .bool p1, .slice a1 n1 c1, .slice b1 m1 d1, .int .i64 ll, .int .i64 rr, .bool ms, .bool p2, .slice a2 n2 c2, .slice b2 m2 d2, .bool p3, .slice a3 n3 c3, .slice b3 m3 d3] 67) (.cells #[.bool false, .bool p4, .slice a4 n4 c4, .slice b4 m4 d4] 71))
   have BB := hAB (.cells #[.bool false, .int .i64 ft, .bool p1, .slice a1 n1 c1, .slice b1 m1 d1, .int .i64 ll, .int .i64 rr, .bool ms, .bool p2, .slice a2 n2 c2, .slice b2 m2 d2, .bool p3, .slice a3 n3 c3, .slice b3 m3 d3] 67) (.cells #[.bool false, .bool p4, .slice a4 n4 c4, .slice b4 m4 d4] 71)
   go_enter Tryz.func42, Tryz.ntmps42
   go_wp2_with fail
   refine (qcmp_at _ _ r q L _ h2 h1 hL hM).mono ?_
   rintro e w1 ⟨rfl, b1⟩
   replace BB := BB.trans (b1.mono BB.size)
   clear b1 h1 h2
   have HC : Hid (decide (cmpQ r q < 0) = decide (r < q)) := cmpQ_lt10 r q
   generalize cmpQ r q = cq at *
   go_wp2
   go_ret
   exact ⟨by rw [HO.out, ← HC.out]; rfl, BB⟩
  ·cases ms <;> (go_enter Tryz.func42, Tryz.ntmps42; go_wp2; go_ret; exact ⟨rfl, hAB _ _⟩)
 ·go_enter Tryz.func42, Tryz.ntmps42
  go_wp2
  go_ret
  exact ⟨rfl, hAB _ _⟩

def Quad10 (w : World) (b o : Nat) (x y z u : Value) : Prop := w.cell? ⟨b, o, none⟩ = some x ∧ w.cell? ⟨b, o + 1, none⟩ = some y ∧ w.cell? ⟨b, o + 2, none⟩ = some z ∧ w.cell? ⟨b, o + 3, none⟩ = some u
theorem Quad10.out {w : World} {b o : Nat} {x y z u : Value} (h : Quad10 w b o x y z u) : w.cell? ⟨b, o, none⟩ = some x ∧ w.cell? ⟨b, o + 1, none⟩ = some y ∧ w.cell? ⟨b, o + 2, none⟩ = some z ∧ w.cell? ⟨b, o + 3, none⟩ = some u := h
theorem Quad10.below {w w' : World} {b o : Nat} {x y z u : Value} (h : Quad10 w b o x y z u) (hb : Below w.heap.size w w') : Quad10 w' b o x y z u := by
 have hl := World.block_lt_of_cell? w _ h.1
 exact ⟨(hb.cell (p := ⟨b, o, none⟩) hl).trans h.1, (hb.cell (p := ⟨b, o + 1, none⟩) hl).trans h.2.1, (hb.cell (p := ⟨b, o + 2, none⟩) hl).trans h.2.2.1, (hb.cell (p := ⟨b, o + 3, none⟩) hl).trans h.2.2.2⟩


set_option maxRecDepth 100000 in
set_option maxHeartbeats 8000000 in
theorem child_at (d : Nd) (r : Nat → Cl) (vr : Value) (nr : Nat) (p1 p2 p3 : Bool) (a1 b1 a2 b2 a3 b3 : Option Addr) (n1 c1 m1 d1 n2 c2 m2 d2 n3 c3 m3 d3 : Nat) (L : Nat) (w : World) (hu : RatAt w (.agg #[.bool p1, .slice a1 n1 c1, .slice b1 m1 d1]) d.cut L) (hrow : CRow w vr nr r L) (hf : 0 ≤ d.feat ∧ d.feat < (nr : Int)) (hl : 0 ≤ d.left) (hr : 0 ≤ d.right) (hL : 1 ≤ L) (hM : L ≤ 100000) :
  Calls Tryz.prog 39 #[.agg #[.bool d.leaf, .int .i64 d.feat, .bool p1, .slice a1 n1 c1, .slice b1 m1 d1, .int .i64 d.left, .int .i64 d.right, .bool d.miss, .bool p2, .slice a2 n2 c2, .slice b2 m2 d2, .bool p3, .slice a3 n3 c3, .slice b3 m3 d3], vr] w fun e w' => e = .returned (.int .i64 (nxt d r : Int)) ∧ Below w.heap.size w w' := by
 obtain ⟨hf0, hf1⟩ := hf
 obtain ⟨fn, hfn⟩ : ∃ fn : Nat, d.feat = (fn : Int) := ⟨d.feat.toNat, by omega⟩
 have hfl : fn < nr := by omega
 obtain ⟨lr, hlr⟩ : ∃ x : Nat, d.left = (x : Int) := ⟨d.left.toNat, by omega⟩
 obtain ⟨rr, hrr⟩ : ∃ x : Nat, d.right = (x : Int) := ⟨d.right.toNat, by omega⟩
 have HO : Hid (nxt d r = if goL d (r fn) = true then lr else rr) := by
  show nxt d r = _
  unfold nxt
  rw [hfn, hlr, hrr]
  rfl
 rw [hfn, hlr, hrr]
 have g0 : (0 : Int) ≤ (fn : Int) := by omega
 have g1 : (fn : Int) < (nr : Int) := by omega
 clear hf0 hf1 hl hr hfn hlr hrr
 obtain ⟨lf, hlf⟩ : ∃ z, d.leaf = z := ⟨_, rfl⟩
 obtain ⟨ms, hms⟩ : ∃ z, d.miss = z := ⟨_, rfl⟩
 have CON := fun w (h1 : RatAt w (.agg #[.bool p1, .slice a1 n1 c1, .slice b1 m1 d1]) d.cut L) p4 a4 b4 n4 c4 m4 d4 h2 => rleft_at ⟨lf, (fn : Int), d.cut, (lr : Int), (rr : Int), ms, d.val, d.cov⟩ (r fn) p1 p2 p3 p4 a1 b1 a2 b2 a3 b3 a4 b4 n1 c1 m1 d1 n2 c2 m2 d2 n3 c3 m3 d3 n4 c4 m4 d4 L w h1 h2 hL hM
 have HG : Hid (goL ⟨lf, (fn : Int), d.cut, (lr : Int), (rr : Int), ms, d.val, d.cov⟩ (r fn) = goL d (r fn)) := by
  show goL _ _ = _
  rw [← hlf, ← hms]
  rfl
 have HCON : Hid (∀ (w : World) (h1 : RatAt w (.agg #[.bool p1, .slice a1 n1 c1, .slice b1 m1 d1]) d.cut L) p4 a4 b4 n4 c4 m4 d4 (h2 : RatAt w (.agg #[.bool p4, .slice a4 n4 c4, .slice b4 m4 d4]) (r fn).val L), Calls Tryz.prog 41 #[.agg #[.bool lf, .int .i64 (fn : Int), .bool p1, .slice a1 n1 c1, .slice b1 m1 d1, .int .i64 (lr : Int), .int .i64 (rr : Int), .bool ms, .bool p2, .slice a2 n2 c2, .slice b2 m2 d2, .bool p3, .slice a3 n3 c3, .slice b3 m3 d3], .agg #[.bool (r fn).miss, .bool p4, .slice a4 n4 c4, .slice b4 m4 d4]] w fun e w' => e = .returned (.bool (goL ⟨lf, (fn : Int), d.cut, (lr : Int), (rr : Int), ms, d.val, d.cov⟩ (r fn))) ∧ Below w.heap.size w w') := CON
 rw [hlf, hms]
 clear CON hlf hms
 obtain ⟨ar, cr, rfl, hrc, hr63⟩ := hrow.open
 have BB : Below w.heap.size w w := Below.refl _ _
 obtain ⟨W0, hW0, hS0, hL0, VN, FN⟩ := V14.lay w 67 (.bool lf) (.int .i64 (fn : Int)) (.bool p1) (.slice a1 n1 c1) (.slice b1 m1 d1) (.int .i64 (lr : Int)) (.int .i64 (rr : Int)) (.bool ms) (.bool p2) (.slice a2 n2 c2) (.slice b2 m2 d2) (.bool p3) (.slice a3 n3 c3) (.slice b3 m3 d3)
 replace hu := hu.below hL0
 replace hrow := hrow.below hL0
 replace BB := BB.trans (hL0.mono BB.size)
 clear hL0
 go_enter Tryz.func39, Tryz.ntmps39
 go_wp2_with fail
 rw [← hW0]
 clear hW0 hS0 FN
 obtain ⟨b4, off4, c94, p4, a4, n4, c4, bb4, m4, d4, hv4, hcc4, hc64, X0, X1, X2, X3, r4⟩ := hrow.at hfl
 cases hv4
 obtain ⟨cm, hcm⟩ : ∃ z, (r fn).miss = z := ⟨_, rfl⟩
 rw [hcm] at X0 HCON
 clear hcm
 have QC : Quad10 W0 b4 (off4 + fn * 4) (.bool cm) (.bool p4) (.slice a4 n4 c4) (.slice bb4 m4 d4) := ⟨X0, X1, X2, X3⟩
 clear X0 X1 X2 X3 hrow
 have hDr : Below W0.heap.size W0 W0.drew := (Below.refl _ _).drew
 replace hu := hu.below hDr
 replace r4 := r4.below hDr
 replace QC := QC.below hDr
 replace VN := VN.below hDr
 replace BB := BB.trans (hDr.mono BB.size)
 clear hDr
 refine wp_region_held_drew (S := (fun w' => w'.cell? ⟨w.heap.size, 0, none⟩ = some (.bool lf) ∧ w'.cell? ⟨w.heap.size, 1, none⟩ = some (.int .i64 (fn : Int)) ∧ w'.cell? ⟨w.heap.size, 2, none⟩ = some (.bool p1) ∧ w'.cell? ⟨w.heap.size, 3, none⟩ = some (.slice a1 n1 c1) ∧ w'.cell? ⟨w.heap.size, 4, none⟩ = some (.slice b1 m1 d1) ∧ w'.cell? ⟨w.heap.size, 5, none⟩ = some (.int .i64 (lr : Int)) ∧ w'.cell? ⟨w.heap.size, 6, none⟩ = some (.int .i64 (rr : Int)) ∧ w'.cell? ⟨w.heap.size, 7, none⟩ = some (.bool ms) ∧ w'.cell? ⟨w.heap.size, 8, none⟩ = some (.bool p2) ∧ w'.cell? ⟨w.heap.size, 9, none⟩ = some (.slice a2 n2 c2) ∧ w'.cell? ⟨w.heap.size, 10, none⟩ = some (.slice b2 m2 d2) ∧ w'.cell? ⟨w.heap.size, 11, none⟩ = some (.bool p3) ∧ w'.cell? ⟨w.heap.size, 12, none⟩ = some (.slice a3 n3 c3) ∧ w'.cell? ⟨w.heap.size, 13, none⟩ = some (.slice b3 m3 d3) ∧ w'.cell? ⟨b4, off4 + fn * 4, none⟩ = some (.bool cm) ∧ w'.cell? ⟨b4, off4 + fn * 4 + 1, none⟩ = some (.bool p4) ∧ w'.cell? ⟨b4, off4 + fn * 4 + 2, none⟩ = some (.slice a4 n4 c4) ∧ w'.cell? ⟨b4, off4 + fn * 4 + 3, none⟩ = some (.slice bb4 m4 d4))) (by kernel_rfl) ?_ (fun hHeld => ?_)
 ·exact ⟨VN.c0, VN.c1, VN.c2, VN.c3, VN.c4, VN.c5, VN.c6, VN.c7, VN.c8, VN.c9, VN.c10, VN.c11, VN.c12, VN.c13, QC.out.1, QC.out.2.1, QC.out.2.2.1, QC.out.2.2.2⟩
 generalize W0.drew = W1 at *
 refine wpAnyH_take (i := 0) (v := ?_) (by simp only [xL1, xL2, xL3]; rfl) (by kernel_rfl) (by kernel_rfl) (by kernel_rfl) (by exact fun _ _ _ h => h) (Or.inl ⟨by rfl, ?_⟩) (by assumption) ?_
 rotate_left
 ·(intro w hSw; (try dsimp only at hSw); go_simp; (try with_reducible rfl))
 (try simp only [Act.put, xL4, xL5, xL6])
 refine wpAnyH_take (i := 1) (v := ?_) (by simp only [xL1, xL2, xL3]; rfl) (by kernel_rfl) (by kernel_rfl) (by kernel_rfl) (by exact fun _ _ _ h => h) (Or.inl ⟨by rfl, ?_⟩) (by assumption) ?_
 rotate_left
 ·(intro w hSw; (try dsimp only at hSw); go_simp; (try with_reducible rfl))
 (try simp only [Act.put, xL4, xL5, xL6])
 refine wpAnyH_take (i := 2) (v := ?_) (by simp only [xL1, xL2, xL3]; rfl) (by kernel_rfl) (by kernel_rfl) (by kernel_rfl) (by exact fun _ _ _ h => h) (Or.inl ⟨by rfl, ?_⟩) (by assumption) ?_
 rotate_left
 ·(intro w hSw; (try dsimp only at hSw); go_simp; (try with_reducible rfl))
 (try simp only [Act.put, xL4, xL5, xL6])
 refine wpAnyH_take (i := 3) (v := ?_) (by simp only [xL1, xL2, xL3]; rfl) (by kernel_rfl) (by kernel_rfl) (by kernel_rfl) (by exact fun _ _ _ h => h) (Or.inl ⟨by rfl, ?_⟩) (by assumption) ?_
 rotate_left
 ·(intro w hSw; (try dsimp only at hSw); go_simp; (try with_reducible rfl))
 (try simp only [Act.put, xL4, xL5, xL6])
 refine wpAnyH_take (i := 4) (v := ?_) (by simp only [xL1, xL2, xL3]; rfl) (by kernel_rfl) (by kernel_rfl) (by kernel_rfl) (by exact fun _ _ _ h => h) (Or.inl ⟨by rfl, ?_⟩) (by assumption) ?_
 rotate_left
 ·(intro w hSw; (try dsimp only at hSw); go_simp; (try with_reducible rfl))
 (try simp only [Act.put, xL4, xL5, xL6])
 refine wpAnyH_take (i := 5) (v := ?_) (by simp only [xL1, xL2, xL3]; rfl) (by kernel_rfl) (by kernel_rfl) (by kernel_rfl) (by exact fun _ _ _ h => h) (Or.inl ⟨by rfl, ?_⟩) (by assumption) ?_
 rotate_left
 ·(intro w hSw; (try dsimp only at hSw); go_simp; (try with_reducible rfl))
 (try simp only [Act.put, xL4, xL5, xL6])
 refine wpAnyH_ready (rs := [6]) (by kernel_rfl) (by simp) ?_
 refine AllReadyH.cons (by simp only [xL1, xL2, xL3]; rfl) (fun K hK => ?_) AllReadyH.nil
 go_simp
 refine (HCON.out _ hu _ _ _ _ _ _ _ r4).mono ?_
 rintro e w1 ⟨rfl, b1⟩
 rw [HG.out]
 obtain ⟨g, hg⟩ : ∃ g, goL d (r fn) = g := ⟨_, rfl⟩
 have HGG : Hid (goL d (r fn) = g) := hg
 rw [hg]
 clear hg HCON HG
 go_wp2_with fail
 replace hu := hu.below b1
 replace r4 := r4.below b1
 replace QC := QC.below b1
 replace VN := VN.below b1
 replace BB := BB.trans (b1.mono BB.size)
 clear b1
 refine hK.out _ _ ?_ (fun hH1 => ?_)
 ·exact ⟨VN.c0, VN.c1, VN.c2, VN.c3, VN.c4, VN.c5, VN.c6, VN.c7, VN.c8, VN.c9, VN.c10, VN.c11, VN.c12, VN.c13, QC.out.1, QC.out.2.1, QC.out.2.2.1, QC.out.2.2.2⟩
 clear hK K hHeld
 (try simp only [Act.put, xL4, xL5, xL6])
 refine wpAnyH_done (by kernel_rfl) ?_ _
 clear hH1
 obtain ⟨V_0, V_1, V_2, V_3, V_4, V_5, V_6, V_7, V_8, V_9, V_10, V_11, V_12, V_13⟩ := id VN
 cases g
 ·go_wp2
  go_ret
  exact ⟨by rw [HO.out, HGG.out]; rfl, BB⟩
 ·go_wp2
  go_ret
  exact ⟨by rw [HO.out, HGG.out]; rfl, BB⟩

/-- May a model be? -/
noncomputable def mayB (F : Int) (k : Nat) (N : Nat → Nat) (T : Nat → Nat → Nd) : Bool := @decide (ChkOut F k N T (.agg #[.int .i64 0, .int .i64 0, .int .i64 0, .int .i64 0])) (Classical.propDecidable _)
theorem mayB_of {F : Int} {k : Nat} {N : Nat → Nat} {T : Nat → Nat → Nd} {a s d : Int} (h : ChkOut F k N T (.agg #[.int .i64 a, .int .i64 0, .int .i64 s, .int .i64 d])) : decide (a = 0) = mayB F k N T := by
 unfold mayB
 by_cases e : a = 0
 ·subst e
  obtain ⟨a2, s2, d2, e2, hz⟩ := h.open
  injection e2 with e2
  simp only [Array.mk.injEq, List.cons.injEq, Value.int.injEq, true_and, and_true] at e2
  obtain ⟨e0, es, ed⟩ := e2
  obtain ⟨rfl, rfl⟩ := hz e0.symm
  subst es ed
  rw [decide_eq_true rfl]
  exact (@decide_eq_true _ (Classical.propDecidable _) h).symm
 ·rw [decide_eq_false e]
  refine (@decide_eq_false _ (Classical.propDecidable _) (fun h2 => e ?_)).symm
  have := h.one h2
  injection this with this
  simp only [Array.mk.injEq, List.cons.injEq, Value.int.injEq, true_and, and_true] at this
  exact this.1
theorem mayB_may {F : Int} {k : Nat} {N : Nat → Nat} {T : Nat → Nat → Nd} (h : mayB F k N T = true) : 0 ≤ F ∧ F ≤ 64 ∧ k ≤ 64 ∧ ∀ i, i < k → MayT F (T i) (N i) := by
 unfold mayB at h
 exact (@of_decide_eq_true _ (Classical.propDecidable _) h).may
theorem ok_may (F : Int) (v : Value) (k : Nat) (N : Nat → Nat) (T : Nat → Nat → Nd) (L : Nat) (w : World) (hv : MRow w v k N T L) (ht : Tab w) (hL : 1 ≤ L) (hLM : L ≤ 30000) :
  Calls Tryz.prog 25 #[.agg #[.int .i64 F, v]] w fun e w' => e = .returned (.bool (mayB F k N T)) ∧ Below w.heap.size w w' := by
 refine (ok_at F v k N T L w hv ht hL hLM).mono ?_
 rintro e w' ⟨a, s, d, rfl, h, hb⟩
 exact ⟨by rw [mayB_of h], hb⟩

/-- What Way has found: the nodes ahead, and where it stands. -/
def WInv (t : Nat → Nd) (n : Nat) (r : Nat → Cl) (zs : List Nat) (x : Nat) : Prop := x < n ∧ ∃ pre, zs = pre ++ [x] ∧ pre ++ way t n r x = way t n r 0
theorem WInv.start {t : Nat → Nd} {n : Nat} (r : Nat → Cl) (h : 0 < n) : WInv t n r [0] 0 := ⟨h, [], rfl, rfl⟩
theorem WInv.leaf {t : Nat → Nd} {n : Nat} {r : Nat → Cl} {zs : List Nat} {x : Nat} (h : WInv t n r zs x) (hl : (t x).leaf = true) : zs = way t n r 0 := by
 obtain ⟨_, pre, e, h⟩ := h
 rw [way_leaf hl] at h
 rw [e, h]
theorem WInv.split {F : Int} {t : Nat → Nd} {n : Nat} {r : Nat → Cl} {zs : List Nat} {x : Nat} (h : WInv t n r zs x) (hm : MayT F t n) (hl : (t x).leaf = false) : WInv t n r (zs ++ [nxt (t x) r]) (nxt (t x) r) := by
 obtain ⟨hx, pre, e, h⟩ := h
 rw [hm.way_split r hx hl] at h
 refine ⟨(hm.nxt hx hl r).1, pre ++ [x], by rw [e], ?_⟩
 rw [← h, List.append_assoc]
 rfl
theorem WInv.len {F : Int} {t : Nat → Nd} {n : Nat} {r : Nat → Cl} {zs : List Nat} {x : Nat} (h : WInv t n r zs x) (hm : MayT F t n) : 1 ≤ zs.length ∧ zs.length ≤ n + 1 := by
 obtain ⟨hx, pre, e, h⟩ := h
 have h1 := hm.way_len r (x := 0) (by omega)
 rw [← h, List.length_append] at h1
 have := List.length_pos_iff.2 (way_ne t n r x)
 rw [e, List.length_append]
 simp
 omega
theorem int_app {B : Nat} {w : World} {g c k m : Nat} {zs ys : List Nat} (hz : zs.length = k) (hy : ys.length = m) (h : w.ownsRow B 3 1 (.slice (some ⟨g, 0, none⟩) (k + m) c) (k + m) (zs.map (fun x : Nat => Value.int .i64 (x : Int)) ++ ys.map (fun x : Nat => Value.int .i64 (x : Int)))) : IntOwn B w (.slice (some ⟨g, 0, none⟩) (k + m) c) (zs ++ ys) := by
 unfold IntOwn
 rw [List.length_append, List.map_append, hz, hy]
 exact h
theorem IntOwn.le {B B' : Nat} {w : World} {v : Value} {zs : List Nat} (h : IntOwn B w v zs) (hb : B' ≤ B) : IntOwn B' w v zs := by
 refine ⟨h.1, ?_⟩
 rcases h.2 with h | ⟨g, c, cur, e, h1, h2⟩
 ·exact .inl h
 ·exact .inr ⟨g, c, cur, e, Nat.le_trans hb h1, h2⟩

set_option maxRecDepth 100000 in
set_option maxHeartbeats 16000000 in
theorem lway_ind (vt vr : Value) (n nr : Nat) (t : Nat → Nd) (r : Nat → Cl) (L : Nat) (hL : 1 ≤ L) (hM : L ≤ 30000) (hm : MayT (nr : Int) t n) : ∀ (k x : Nat) (w : World), x < n → n + 1 ≤ lvl t n x + k → TRow w vt n t L → CRow w vr nr r L →
  Calls Tryz.prog 14 #[vt, .int .i64 (x : Int), vr] w fun e w' => ∃ u, e = .returned u ∧ IntOwn w.heap.size w' u (way t n r x) ∧ Below w.heap.size w w' := by
 intro k
 induction k with
 | zero =>
  intro x w hx hk
  have := hm.lvl_le hx
  omega
 | succ k ih =>
  intro x w hx hk ht hr
  obtain ⟨ao, ct, rfl, htc, ht63⟩ := ht.open
  obtain ⟨ar, cr, rfl, hrc, hr63⟩ := hr.open
  have BB : Below w.heap.size w w := Below.refl _ _
  have g0 : (0 : Int) ≤ (x : Int) := by omega
  have g1 : (x : Int) < (n : Int) := by omega
  have hn255 := hm.few
  go_enter Tryz.func14, Tryz.ntmps14
  obtain ⟨b, off, cc, p1, a1, n1, c1, b1, m1, d1, p2, a2, n2, c2, b2, m2, d2, p3, a3, n3, c3, b3, m3, d3, hvv, hcc, hc6, NN, r1, r2, r3, i1, i2, i3⟩ := ht.at hx
  cases hvv
  obtain ⟨lf, hlf⟩ : ∃ z, (t x).leaf = z := ⟨_, rfl⟩
  rw [hlf] at NN
  obtain ⟨N_0, N_1, N_2, N_3, N_4, N_5, N_6, N_7, N_8, N_9, N_10, N_11, N_12, N_13⟩ := id NN
  obtain ⟨W1, hW1, hS1, hL1, VN, FN⟩ := V14.lay w 67 (.bool lf) (.int .i64 (t x).feat) (.bool p1) (.slice a1 n1 c1) (.slice b1 m1 d1) (.int .i64 (t x).left) (.int .i64 (t x).right) (.bool (t x).miss) (.bool p2) (.slice a2 n2 c2) (.slice b2 m2 d2) (.bool p3) (.slice a3 n3 c3) (.slice b3 m3 d3)
  replace ht := ht.below hL1
  replace hr := hr.below hL1
  replace r1 := r1.below hL1
  replace BB := BB.trans (hL1.mono BB.size)
  clear hL1
  obtain ⟨V_0, V_1, V_2, V_3, V_4, V_5, V_6, V_7, V_8, V_9, V_10, V_11, V_12, V_13⟩ := id VN
  rw [hW1] at V_0 V_1 V_2 V_3 V_4 V_5 V_6 V_7 V_8 V_9 V_10 V_11 V_12 V_13
  cases lf
  ·have HN := hm.named x hx hlf
   have HF := hm.feat x hx hlf
   have HWS : Hid (way t n r x = x :: way t n r (nxt (t x) r)) := hm.way_split r hx hlf
   have HNX := hm.nxt hx hlf r
   obtain ⟨fn, hfn⟩ : ∃ fn : Nat, (t x).feat = (fn : Int) := ⟨(t x).feat.toNat, by omega⟩
   have hfl : fn < nr := by omega
   obtain ⟨lr, hlr⟩ : ∃ z : Nat, (t x).left = (z : Int) := ⟨(t x).left.toNat, by omega⟩
   obtain ⟨rr, hrr⟩ : ∃ z : Nat, (t x).right = (z : Int) := ⟨(t x).right.toNat, by omega⟩
   obtain ⟨ms, hms⟩ : ∃ z, (t x).miss = z := ⟨_, rfl⟩
   have HO : Hid (nxt (t x) r = if goL (t x) (r fn) = true then lr else rr) := by
    show nxt (t x) r = _
    unfold nxt
    rw [hfn, hlr, hrr]
    rfl
   have HCON : Hid (∀ (w : World) (h1 : RatAt w (.agg #[.bool p1, .slice a1 n1 c1, .slice b1 m1 d1]) (t x).cut L) p4 a4 b4 n4 c4 m4 d4 (h2 : RatAt w (.agg #[.bool p4, .slice a4 n4 c4, .slice b4 m4 d4]) (r fn).val L), Calls Tryz.prog 42 #[.agg #[.bool false, .int .i64 (fn : Int), .bool p1, .slice a1 n1 c1, .slice b1 m1 d1, .int .i64 (lr : Int), .int .i64 (rr : Int), .bool ms, .bool p2, .slice a2 n2 c2, .slice b2 m2 d2, .bool p3, .slice a3 n3 c3, .slice b3 m3 d3], .agg #[.bool (r fn).miss, .bool p4, .slice a4 n4 c4, .slice b4 m4 d4]] w fun e w' => e = .returned (.bool (goL (t x) (r fn))) ∧ Below w.heap.size w w') := fun w h1 p4 a4 b4 n4 c4 m4 d4 h2 => by
    have := lleft_at (t x) (r fn) p1 p2 p3 p4 a1 b1 a2 b2 a3 b3 a4 b4 n1 c1 m1 d1 n2 c2 m2 d2 n3 c3 m3 d3 n4 c4 m4 d4 L w h1 h2 hL (by omega)
    rw [hlf, hfn, hlr, hrr, hms] at this
    exact this
   simp only [hfn, hlr, hrr, hms] at VN hW1 V_1 N_1 V_5 N_5 V_6 N_6 V_7 N_7
   have f0 : (0 : Int) ≤ (fn : Int) := by omega
   have f1 : (fn : Int) < (nr : Int) := by omega
   clear hlf hfn hlr hrr hms HN HF
   go_wp2
   clear V_0 V_1 V_2 V_3 V_4 V_5 V_6 V_7 V_8 V_9 V_10 V_11 V_12 V_13 N_0 N_1 N_2 N_3 N_4 N_5 N_6 N_7 N_8 N_9 N_10 N_11 N_12 N_13
   rw [← hW1]
   clear hW1 hS1 FN
   obtain ⟨b4, off4, c94, p4, a4, n4, c4, bb4, m4, d4, hv4, hcc4, hc64, X0, X1, X2, X3, r4⟩ := hr.at hfl
   cases hv4
   obtain ⟨cm, hcm⟩ : ∃ z, (r fn).miss = z := ⟨_, rfl⟩
   rw [hcm] at X0 HCON
   clear hcm
   have QC : Quad10 W1 b4 (off4 + fn * 4) (.bool cm) (.bool p4) (.slice a4 n4 c4) (.slice bb4 m4 d4) := ⟨X0, X1, X2, X3⟩
   clear X0 X1 X2 X3
   have hRl : w.heap.size < W1.heap.size := World.block_lt_of_cell? _ _ VN.c0
   have hDr : Below W1.heap.size W1 W1.drew := (Below.refl _ _).drew
   replace ht := ht.below hDr
   replace hr := hr.below hDr
   replace r1 := r1.below hDr
   replace r4 := r4.below hDr
   replace QC := QC.below hDr
   replace VN := VN.below hDr
   replace BB := BB.trans (hDr.mono BB.size)
   clear hDr
   refine wp_region_held_drew (S := (fun w' => w'.cell? ⟨w.heap.size, 0, none⟩ = some (.bool false) ∧ w'.cell? ⟨w.heap.size, 1, none⟩ = some (.int .i64 (fn : Int)) ∧ w'.cell? ⟨w.heap.size, 2, none⟩ = some (.bool p1) ∧ w'.cell? ⟨w.heap.size, 3, none⟩ = some (.slice a1 n1 c1) ∧ w'.cell? ⟨w.heap.size, 4, none⟩ = some (.slice b1 m1 d1) ∧ w'.cell? ⟨w.heap.size, 5, none⟩ = some (.int .i64 (lr : Int)) ∧ w'.cell? ⟨w.heap.size, 6, none⟩ = some (.int .i64 (rr : Int)) ∧ w'.cell? ⟨w.heap.size, 7, none⟩ = some (.bool ms) ∧ w'.cell? ⟨w.heap.size, 8, none⟩ = some (.bool p2) ∧ w'.cell? ⟨w.heap.size, 9, none⟩ = some (.slice a2 n2 c2) ∧ w'.cell? ⟨w.heap.size, 10, none⟩ = some (.slice b2 m2 d2) ∧ w'.cell? ⟨w.heap.size, 11, none⟩ = some (.bool p3) ∧ w'.cell? ⟨w.heap.size, 12, none⟩ = some (.slice a3 n3 c3) ∧ w'.cell? ⟨w.heap.size, 13, none⟩ = some (.slice b3 m3 d3) ∧ w'.cell? ⟨b4, off4 + fn * 4, none⟩ = some (.bool cm) ∧ w'.cell? ⟨b4, off4 + fn * 4 + 1, none⟩ = some (.bool p4) ∧ w'.cell? ⟨b4, off4 + fn * 4 + 2, none⟩ = some (.slice a4 n4 c4) ∧ w'.cell? ⟨b4, off4 + fn * 4 + 3, none⟩ = some (.slice bb4 m4 d4))) (by kernel_rfl) ?_ (fun hHeld => ?_)
   ·exact ⟨VN.c0, VN.c1, VN.c2, VN.c3, VN.c4, VN.c5, VN.c6, VN.c7, VN.c8, VN.c9, VN.c10, VN.c11, VN.c12, VN.c13, QC.out.1, QC.out.2.1, QC.out.2.2.1, QC.out.2.2.2⟩
   generalize W1.drew = W1 at *
   refine wpAnyH_take (i := 0) (v := ?_) (by simp only [xL1, xL2, xL3]; rfl) (by kernel_rfl) (by kernel_rfl) (by kernel_rfl) (by exact fun _ _ _ h => h) (Or.inl ⟨by rfl, ?_⟩) (by assumption) ?_
   rotate_left
   ·(intro w hSw; (try dsimp only at hSw); go_simp; (try with_reducible rfl))
   (try simp only [Act.put, xL4, xL5, xL6])
   refine wpAnyH_take (i := 1) (v := ?_) (by simp only [xL1, xL2, xL3]; rfl) (by kernel_rfl) (by kernel_rfl) (by kernel_rfl) (by exact fun _ _ _ h => h) (Or.inl ⟨by rfl, ?_⟩) (by assumption) ?_
   rotate_left
   ·(intro w hSw; (try dsimp only at hSw); go_simp; (try with_reducible rfl))
   (try simp only [Act.put, xL4, xL5, xL6])
   refine wpAnyH_take (i := 2) (v := ?_) (by simp only [xL1, xL2, xL3]; rfl) (by kernel_rfl) (by kernel_rfl) (by kernel_rfl) (by exact fun _ _ _ h => h) (Or.inl ⟨by rfl, ?_⟩) (by assumption) ?_
   rotate_left
   ·(intro w hSw; (try dsimp only at hSw); go_simp; (try with_reducible rfl))
   (try simp only [Act.put, xL4, xL5, xL6])
   refine wpAnyH_take (i := 3) (v := ?_) (by simp only [xL1, xL2, xL3]; rfl) (by kernel_rfl) (by kernel_rfl) (by kernel_rfl) (by exact fun _ _ _ h => h) (Or.inl ⟨by rfl, ?_⟩) (by assumption) ?_
   rotate_left
   ·(intro w hSw; (try dsimp only at hSw); go_simp; (try with_reducible rfl))
   (try simp only [Act.put, xL4, xL5, xL6])
   refine wpAnyH_take (i := 4) (v := ?_) (by simp only [xL1, xL2, xL3]; rfl) (by kernel_rfl) (by kernel_rfl) (by kernel_rfl) (by exact fun _ _ _ h => h) (Or.inl ⟨by rfl, ?_⟩) (by assumption) ?_
   rotate_left
   ·(intro w hSw; (try dsimp only at hSw); go_simp; (try with_reducible rfl))
   (try simp only [Act.put, xL4, xL5, xL6])
   refine wpAnyH_take (i := 5) (v := ?_) (by simp only [xL1, xL2, xL3]; rfl) (by kernel_rfl) (by kernel_rfl) (by kernel_rfl) (by exact fun _ _ _ h => h) (Or.inl ⟨by rfl, ?_⟩) (by assumption) ?_
   rotate_left
   ·(intro w hSw; (try dsimp only at hSw); go_simp; (try with_reducible rfl))
   (try simp only [Act.put, xL4, xL5, xL6])
   refine wpAnyH_ready (rs := [6]) (by kernel_rfl) (by simp) ?_
   refine AllReadyH.cons (by simp only [xL1, xL2, xL3]; rfl) (fun K hK => ?_) AllReadyH.nil
   go_simp
   refine (HCON.out _ r1 _ _ _ _ _ _ _ r4).mono ?_
   rintro e w1 ⟨rfl, b1⟩
   obtain ⟨g, hg⟩ : ∃ g, goL (t x) (r fn) = g := ⟨_, rfl⟩
   rw [hg] at HO ⊢
   clear hg HCON
   go_wp2_with fail
   replace ht := ht.below b1
   replace hr := hr.below b1
   replace r1 := r1.below b1
   replace r4 := r4.below b1
   replace QC := QC.below b1
   replace VN := VN.below b1
   replace BB := BB.trans (b1.mono BB.size)
   clear b1
   refine hK.out _ _ ?_ (fun hH1 => ?_)
   ·exact ⟨VN.c0, VN.c1, VN.c2, VN.c3, VN.c4, VN.c5, VN.c6, VN.c7, VN.c8, VN.c9, VN.c10, VN.c11, VN.c12, VN.c13, QC.out.1, QC.out.2.1, QC.out.2.2.1, QC.out.2.2.2⟩
   clear hK K hHeld
   (try simp only [Act.put, xL4, xL5, xL6])
   refine wpAnyH_done (by kernel_rfl) ?_ _
   clear hH1
   have hA3 : Below w1.heap.size w1 (w1.alloc (.cells #[.int .i64 (x : Int)] 3)) := (Below.refl _ _).alloc (Nat.le_refl _) _
   have hF := int_first w1 x w.heap.size BB.size
   replace ht := ht.below hA3
   replace hr := hr.below hA3
   replace VN := VN.below hA3
   replace BB := BB.trans (hA3.mono BB.size)
   clear hA3 r1 r4 QC
   cases g
   ·have HO2 : nxt (t x) r = rr := HO.out
    rw [HO2] at HNX HWS
    clear HO HO2
    have IH := ih rr _ HNX.1 (by omega) ht hr
    obtain ⟨V_0, V_1, V_2, V_3, V_4, V_5, V_6, V_7, V_8, V_9, V_10, V_11, V_12, V_13⟩ := id VN
    have HMX : Hid (MayT (nr : Int) t n) := hm
    have HLN : Hid ((way t n r rr).length ≤ n + 1) := by have := hm.way_len r HNX.1; show _ ≤ _; omega
    have HNE : Hid (way t n r rr ≠ []) := way_ne _ _ _ _
    have HIH : Hid _ := IH
    clear IH ih hm HNX
    go_wp2_with fail
    refine Calls.mono HIH.out ?_
    rintro e w7 ⟨u, rfl, hU, b7⟩
    clear V_0 V_1 V_2 V_3 V_4 V_5 V_6 V_7 V_8 V_9 V_10 V_11 V_12 V_13
    have hF7 := hF.later b7
    have BB7 := BB.trans (b7.mono BB.size)
    have hU7 := hU.le BB.size
    clear HIH ht hr VN hF b7 hU
    generalize way t n r rr = zs at *
    have hl7 := HLN.out
    have hp7 : 1 ≤ zs.length := List.length_pos_iff.2 HNE.out
    obtain ⟨gu, cu, rfl, hcu⟩ := hU7.open (by omega)
    obtain ⟨k, hk⟩ : ∃ k, zs.length = k := ⟨_, rfl⟩
    have hcl : ∀ j u, (zs.map (fun x : Nat => Value.int .i64 (x : Int)))[j]? = some u → w7.cell? ((⟨gu, 0, none⟩ : Addr).add j) = some u := World.ownsRow.cells hU7 (g := gu) rfl
    have hnl : (zs.map (fun x : Nat => Value.int .i64 (x : Int))).length = k * 1 := by rw [List.length_map, hk, Nat.mul_one]
    have h1c : ∀ u ∈ zs.map (fun x : Nat => Value.int .i64 (x : Int)), u.oneCell' = true := by intro u hu; rw [List.mem_map] at hu; obtain ⟨y, _, rfl⟩ := hu; rfl
    have hsz7 := BB7.size
    have HK : Hid (zs.length = k) := hk
    rw [hk] at hl7 hp7 ⊢
    have hF8 : w7.ownsRow w.heap.size 3 1 (.slice (some ⟨w1.heap.size, 0, none⟩) 1 1) 1 [.int .i64 (x : Int)] := hF7
    have HH : Hid ((∀ j u, (zs.map (fun x : Nat => Value.int .i64 (x : Int)))[j]? = some u → w7.cell? ((⟨gu, 0, none⟩ : Addr).add j) = some u) ∧ (∀ u ∈ zs.map (fun x : Nat => Value.int .i64 (x : Int)), u.oneCell' = true)) := ⟨hcl, h1c⟩
    clear hk hcl h1c
    go_wp2_with (at_builtin; refine wpList_append_pureM (Q' := fun _ => False) rfl _ _ _ rfl w.heap.size 3 (.int .i64 0) 1 8 Tryz.underlying29 info_int rfl (by omega) (.slice (some ⟨w1.heap.size, 0, none⟩) 1 1) rfl 1 [.int .i64 (x : Int)] hF8 (fun _ _ _ _ _ h => h) ⟨gu, 0, none⟩ k cu (by omega) (by omega) rfl (zs.map (fun x : Nat => Value.int .i64 (x : Int))) hnl HH.out.1 HH.out.2 (by simp) (by simp) (by omega) (by omega) hsz7 ?_; intro gn cn w8 hO8 hg8 hat8 _ _; have BB8 : Below w.heap.size w w8 := below_grownB BB7 hg8 BB7.size (fun g h => (hF7.both g h).1); clear hg8 hat8)
    go_ret
    exact ⟨_, rfl, by rw [HWS.out]; exact int_app (zs := [x]) rfl HK.out hO8, BB8⟩
   ·have HO2 : nxt (t x) r = lr := HO.out
    rw [HO2] at HNX HWS
    clear HO HO2
    have IH := ih lr _ HNX.1 (by omega) ht hr
    obtain ⟨V_0, V_1, V_2, V_3, V_4, V_5, V_6, V_7, V_8, V_9, V_10, V_11, V_12, V_13⟩ := id VN
    have HMX : Hid (MayT (nr : Int) t n) := hm
    have HLN : Hid ((way t n r lr).length ≤ n + 1) := by have := hm.way_len r HNX.1; show _ ≤ _; omega
    have HNE : Hid (way t n r lr ≠ []) := way_ne _ _ _ _
    have HIH : Hid _ := IH
    clear IH ih hm HNX
    go_wp2_with fail
    refine Calls.mono HIH.out ?_
    rintro e w7 ⟨u, rfl, hU, b7⟩
    clear V_0 V_1 V_2 V_3 V_4 V_5 V_6 V_7 V_8 V_9 V_10 V_11 V_12 V_13
    have hF7 := hF.later b7
    have BB7 := BB.trans (b7.mono BB.size)
    have hU7 := hU.le BB.size
    clear HIH ht hr VN hF b7 hU
    generalize way t n r lr = zs at *
    have hl7 := HLN.out
    have hp7 : 1 ≤ zs.length := List.length_pos_iff.2 HNE.out
    obtain ⟨gu, cu, rfl, hcu⟩ := hU7.open (by omega)
    obtain ⟨k, hk⟩ : ∃ k, zs.length = k := ⟨_, rfl⟩
    have hcl : ∀ j u, (zs.map (fun x : Nat => Value.int .i64 (x : Int)))[j]? = some u → w7.cell? ((⟨gu, 0, none⟩ : Addr).add j) = some u := World.ownsRow.cells hU7 (g := gu) rfl
    have hnl : (zs.map (fun x : Nat => Value.int .i64 (x : Int))).length = k * 1 := by rw [List.length_map, hk, Nat.mul_one]
    have h1c : ∀ u ∈ zs.map (fun x : Nat => Value.int .i64 (x : Int)), u.oneCell' = true := by intro u hu; rw [List.mem_map] at hu; obtain ⟨y, _, rfl⟩ := hu; rfl
    have hsz7 := BB7.size
    have HK : Hid (zs.length = k) := hk
    rw [hk] at hl7 hp7 ⊢
    have hF8 : w7.ownsRow w.heap.size 3 1 (.slice (some ⟨w1.heap.size, 0, none⟩) 1 1) 1 [.int .i64 (x : Int)] := hF7
    have HH : Hid ((∀ j u, (zs.map (fun x : Nat => Value.int .i64 (x : Int)))[j]? = some u → w7.cell? ((⟨gu, 0, none⟩ : Addr).add j) = some u) ∧ (∀ u ∈ zs.map (fun x : Nat => Value.int .i64 (x : Int)), u.oneCell' = true)) := ⟨hcl, h1c⟩
    clear hk hcl h1c
    go_wp2_with (at_builtin; refine wpList_append_pureM (Q' := fun _ => False) rfl _ _ _ rfl w.heap.size 3 (.int .i64 0) 1 8 Tryz.underlying29 info_int rfl (by omega) (.slice (some ⟨w1.heap.size, 0, none⟩) 1 1) rfl 1 [.int .i64 (x : Int)] hF8 (fun _ _ _ _ _ h => h) ⟨gu, 0, none⟩ k cu (by omega) (by omega) rfl (zs.map (fun x : Nat => Value.int .i64 (x : Int))) hnl HH.out.1 HH.out.2 (by simp) (by simp) (by omega) (by omega) hsz7 ?_; intro gn cn w8 hO8 hg8 hat8 _ _; have BB8 : Below w.heap.size w w8 := below_grownB BB7 hg8 BB7.size (fun g h => (hF7.both g h).1); clear hg8 hat8)
    go_ret
    exact ⟨_, rfl, by rw [HWS.out]; exact int_app (zs := [x]) rfl HK.out hO8, BB8⟩
  ·have HW : Hid (way t n r x = [x]) := way_leaf hlf
   clear hlf ht hr r1 r2 r3 i1 i2 i3
   have hF := int_first W1 x w.heap.size BB.size
   rw [hS1] at hF
   have BB2 : Below w.heap.size w (W1.alloc (.cells #[.int .i64 (x : Int)] 3)) := BB.alloc BB.size _
   subst hW1
   go_wp2
   go_ret
   exact ⟨_, rfl, by rw [HW.out]; exact hF, BB2⟩
theorem lway_at (vt vr : Value) (n nr : Nat) (t : Nat → Nd) (r : Nat → Cl) (L : Nat) (w : World) (ht : TRow w vt n t L) (hr : CRow w vr nr r L) (hL : 1 ≤ L) (hM : L ≤ 30000) (hm : MayT (nr : Int) t n) :
  Calls Tryz.prog 14 #[vt, .int .i64 0, vr] w fun e w' => ∃ u, e = .returned u ∧ IntOwn w.heap.size w' u (way t n r 0) ∧ Below w.heap.size w w' :=
 lway_ind vt vr n nr t r L hL hM hm (n + 1) 0 w (by have := hm.pos; omega) (by omega) ht hr

/-- An array of k numbers of which the first i are told. -/
def VArr (w : World) (g k i : Nat) (q : Nat → Rat) : Prop := ∃ el, Arr3 w g k el ∧ ∀ j, j < i → RepQ w (elv el j) (q j)
theorem VArr.below {w w' : World} {g k i : Nat} {q : Nat → Rat} (h : VArr w g k i q) (hb : Below w.heap.size w w') : VArr w' g k i q := let ⟨el, a, b⟩ := h; ⟨el, a.below hb, fun j hj => (b j hj).below hb⟩
theorem VArr.put {w : World} {g k i : Nat} {q : Nat → Rat} (h : VArr w g k i q) (hi : i < k) {p : Bool} {a b : Option Addr} {n c m d : Nat} (hr : RepQ w (.agg #[.bool p, .slice a n c, .slice b m d]) (q i)) : ∃ u0 u1 u2, w.cell? ⟨g, i * 3, none⟩ = some u0 ∧ w.cell? ⟨g, i * 3 + 1, none⟩ = some u1 ∧ w.cell? ⟨g, i * 3 + 2, none⟩ = some u2 ∧ w.frozen? ⟨g, i * 3, none⟩ = false ∧ w.frozen? ⟨g, i * 3 + 1, none⟩ = false ∧ w.frozen? ⟨g, i * 3 + 2, none⟩ = false ∧
  VArr (((w.setCell ⟨g, i * 3, none⟩ (.bool p)).setCell ⟨g, i * 3 + 1, none⟩ (.slice a n c)).setCell ⟨g, i * 3 + 2, none⟩ (.slice b m d)) g k (i + 1) q := by
 obtain ⟨el, A, R⟩ := h
 obtain ⟨A2, K2⟩ := A.set i hi (.bool p) (.slice a n c) (.slice b m d) (num_bool _) (num_slice _ _ _) (num_slice _ _ _)
 refine ⟨_, _, _, A.1 i hi 0 (by omega), A.1 i hi 1 (by omega), A.1 i hi 2 (by omega), A.2.1 i hi 0 (by omega), A.2.1 i hi 1 (by omega), A.2.1 i hi 2 (by omega), _, A2, fun j hj => ?_⟩
 by_cases e : j = i
 ·subst e
  have := hr.keep K2
  simpa [elv, upd3] using this
 ·have := (R j (by omega)).keep K2
  simp only [elv, upd3_other el i j _ _ _ e] at *
  exact this
theorem VArr.row {w : World} {g k : Nat} {q : Nat → Rat} (h : VArr w g k k q) (hk : k ≤ 100000) : FRow w (.slice (some ⟨g, 0, none⟩) k k) k q :=
 let ⟨el, a, b⟩ := h; ⟨el, a.row k k (Nat.le_refl _) (Nat.le_refl _) (by omega), b⟩
noncomputable def whyI (F : Int) (k : Nat) (N : Nat → Nat) (T : Nat → Nat → Nd) (nr : Nat) : Int := if mayB F k N T = true then (if (nr : Int) = F then 0 else 14) else 1
theorem whyI_no {F : Int} {k : Nat} {N : Nat → Nat} {T : Nat → Nat → Nd} {nr : Nat} (h : mayB F k N T = false) : whyI F k N T nr = 1 := by unfold whyI; rw [h]; rfl
theorem whyI_len {F : Int} {k : Nat} {N : Nat → Nat} {T : Nat → Nat → Nd} {nr : Nat} (h : mayB F k N T = true) (h2 : ¬ (nr : Int) = F) : whyI F k N T nr = 14 := by unfold whyI; rw [if_pos h, if_neg h2]
theorem whyI_yes {F : Int} {k : Nat} {N : Nat → Nat} {T : Nat → Nat → Nd} {nr : Nat} (h : mayB F k N T = true) (h2 : (nr : Int) = F) : whyI F k N T nr = 0 := by unfold whyI; rw [if_pos h, if_pos h2]
theorem leafV_sz {w : World} {v : Value} {k : Nat} {N : Nat → Nat} {T : Nat → Nat → Nd} {L : Nat} {F : Int} (h : MRow w v k N T L) (hL : 1 ≤ L) (hm : ∀ i, i < k → MayT F (T i) (N i)) (r : Nat → Cl) : ∀ i, i < k → qsz (leafV T N r i) ≤ L := by
 intro i hi
 obtain ⟨b, off, c, a, d, _, _, _, TR⟩ := h.at hi
 have hp := (hm i hi).pos
 have hw := (hm i hi).wlast_is r (x := 0) (by omega)
 obtain ⟨_, _, _, _, _, _, _, _, _, _, _, _, _, _, _, _, _, _, _, _, _, _, _, _, _, _, _, _, _, r2, _⟩ := TR.at hw.1
 exact r2.qsz hL


set_option maxRecDepth 20000 in
set_option maxHeartbeats 2000000 in
theorem rlength_at (F : Int) (a ar : Option Addr) (k c nr cr : Nat) (w : World) :
  Calls Tryz.prog 45 #[.agg #[.int .i64 F, .slice a k c], .slice ar nr cr] w fun e w' => e = .returned (.int .i64 (if (nr : Int) = F then 0 else 14)) ∧ Below w.heap.size w w' := by
 have hA : Below w.heap.size w (w.alloc (.cells #[.int .i64 F, .slice a k c] 27)) := (Below.refl _ _).alloc (Nat.le_refl _) _
 by_cases h : (nr : Int) = F
 ·rw [if_pos h]
  have g2 : ((nr : Int) != F) = false := by simpa using h
  have g3 : decide ((nr : Int) = F) = true := decide_eq_true h
  go_enter Tryz.func45, Tryz.ntmps45
  go_wp2
  go_ret
  exact ⟨rfl, hA⟩
 ·rw [if_neg h]
  have g2 : ((nr : Int) != F) = true := by simpa using h
  have g3 : decide ((nr : Int) = F) = false := decide_eq_false h
  go_enter Tryz.func45, Tryz.ntmps45
  go_wp2
  go_ret
  exact ⟨rfl, hA⟩


set_option maxRecDepth 100000 in
set_option maxHeartbeats 4000000 in
theorem rfits_at (F : Int) (vm vr : Value) (k nr : Nat) (N : Nat → Nat) (T : Nat → Nat → Nd) (r : Nat → Cl) (L : Nat) (w : World) (hM : MRow w vm k N T L) (hR : CRow w vr nr r L) (hT : Tab w) (hL : 1 ≤ L) (hLM : L ≤ 30000) :
  Calls Tryz.prog 18 #[.agg #[.int .i64 F, vm], vr] w fun e w' => e = .returned (.int .i64 (whyI F k N T nr)) ∧ Below w.heap.size w w' := by
 obtain ⟨ao, c, rfl, hnc, hc63⟩ := hM.open
 obtain ⟨ar, cr, rfl, hrc, hr63⟩ := hR.open
 obtain ⟨W0, hW0, hS0, hL0, VM⟩ := V2.lay w 27 (.int .i64 F) (.slice ao k c)
 have BB : Below w.heap.size w W0 := hL0
 have hM1 := hM.below hL0
 have hT1 := hT.below hL0
 clear hL0
 go_enter Tryz.func18, Tryz.ntmps18
 obtain ⟨VM_0, VM_1, VM_2, VM_3⟩ := id VM
 rw [hW0] at VM_0 VM_1 VM_2 VM_3
 go_wp2_with fail
 clear VM_0 VM_1 VM_2 VM_3
 rw [← hW0]
 clear hW0 hS0
 refine (ok_may F _ k N T L _ hM1 hT1 hL hLM).mono ?_
 rintro e w1 ⟨rfl, b1⟩
 replace VM := VM.below b1
 replace BB := BB.trans (b1.mono BB.size)
 clear b1 hM1 hT1
 obtain ⟨VM_0, VM_1, VM_2, VM_3⟩ := id VM
 obtain ⟨mb, hmb⟩ : ∃ mb, mayB F k N T = mb := ⟨_, rfl⟩
 rw [hmb]
 have HB : Hid (mayB F k N T = mb) := hmb
 clear hmb
 cases mb
 ·go_wp2
  go_ret
  exact ⟨by rw [whyI_no HB.out]; rfl, BB⟩
 ·go_wp2_with fail
  refine (rlength_at F _ _ k c nr cr _).mono ?_
  rintro e w2 ⟨rfl, b2⟩
  replace BB := BB.trans (b2.mono BB.size)
  clear b2
  have HW : Hid (whyI F k N T nr = if (nr : Int) = F then 0 else 14) := by show whyI _ _ _ _ _ = _; unfold whyI; rw [if_pos HB.out]
  generalize (if (nr : Int) = F then (0 : Int) else 14) = x at *
  go_wp2
  go_ret
  exact ⟨by rw [HW.out]; rfl, BB⟩


set_option maxRecDepth 100000 in
set_option maxHeartbeats 4000000 in
theorem lwhy_at (F : Int) (vm vr : Value) (k nr : Nat) (N : Nat → Nat) (T : Nat → Nat → Nd) (r : Nat → Cl) (L : Nat) (w : World) (hM : MRow w vm k N T L) (hR : CRow w vr nr r L) (hT : Tab w) (hL : 1 ≤ L) (hLM : L ≤ 30000) :
  Calls Tryz.prog 17 #[.agg #[.int .i64 F, vm], vr] w fun e w' => e = .returned (.int .i64 (whyI F k N T nr)) ∧ Below w.heap.size w w' := by
 obtain ⟨ao, c, rfl, hnc, hc63⟩ := hM.open
 obtain ⟨ar, cr, rfl, hrc, hr63⟩ := hR.open
 obtain ⟨W0, hW0, hS0, hL0, VM⟩ := V2.lay w 27 (.int .i64 F) (.slice ao k c)
 have BB : Below w.heap.size w W0 := hL0
 have hM1 := hM.below hL0
 have hT1 := hT.below hL0
 clear hL0
 go_enter Tryz.func17, Tryz.ntmps17
 obtain ⟨VM_0, VM_1, VM_2, VM_3⟩ := id VM
 rw [hW0] at VM_0 VM_1 VM_2 VM_3
 go_wp2_with fail
 clear VM_0 VM_1 VM_2 VM_3
 rw [← hW0]
 clear hW0 hS0
 refine (ok_may F _ k N T L _ hM1 hT1 hL hLM).mono ?_
 rintro e w1 ⟨rfl, b1⟩
 replace VM := VM.below b1
 replace BB := BB.trans (b1.mono BB.size)
 clear b1 hM1 hT1
 obtain ⟨VM_0, VM_1, VM_2, VM_3⟩ := id VM
 obtain ⟨mb, hmb⟩ : ∃ mb, mayB F k N T = mb := ⟨_, rfl⟩
 rw [hmb]
 have HB : Hid (mayB F k N T = mb) := hmb
 clear hmb
 cases mb
 ·go_wp2
  go_ret
  exact ⟨by rw [whyI_no HB.out]; rfl, BB⟩
 ·by_cases h : (nr : Int) = F
  ·have g2 : ((nr : Int) != F) = false := by simpa using h
   have g3 : decide ((nr : Int) = F) = true := decide_eq_true h
   have HH : Hid ((nr : Int) = F) := h
   clear h
   go_wp2
   go_ret
   exact ⟨by rw [whyI_yes HB.out HH.out]; rfl, BB⟩
  ·have g2 : ((nr : Int) != F) = true := by simpa using h
   have g3 : decide ((nr : Int) = F) = false := decide_eq_false h
   have HH : Hid (¬ (nr : Int) = F) := h
   go_wp2
   go_ret
   exact ⟨by rw [whyI_len HB.out HH.out]; rfl, BB⟩


set_option maxRecDepth 100000 in
set_option maxHeartbeats 16000000 in
theorem rvalues_at (F : Int) (vm vr : Value) (k nr : Nat) (N : Nat → Nat) (T : Nat → Nat → Nd) (r : Nat → Cl) (L : Nat) (w : World) (hM : MRow w vm k N T L) (hR : CRow w vr nr r L) (hT : Tab w) (hL : 1 ≤ L) (hLM : L ≤ 30000) (hk : k ≤ 1000) (hm : ∀ i, i < k → MayT (nr : Int) (T i) (N i)) :
  Calls Tryz.prog 44 #[.agg #[.int .i64 F, vm], vr] w fun e w' => ∃ u, e = .returned u ∧ FRow w' u k (leafV T N r) ∧ Below w.heap.size w w' := by
 obtain ⟨ao, c, rfl, hnc, hc63⟩ := hM.open
 obtain ⟨ar, cr, rfl, hrc, hr63⟩ := hR.open
 obtain ⟨i0, hi, hz0, hz1, hz2⟩ := info_parts info_wrat
 obtain ⟨W0, hW0, hS0, hL0, VM⟩ := V2.lay w 27 (.int .i64 F) (.slice ao k c)
 have BB : Below w.heap.size w W0 := hL0
 clear hL0
 have HM0 : Hid (MRow w (.slice ao k c) k N T L) := hM
 have HR0 : Hid (CRow w (.slice ar nr cr) nr r L) := hR
 have HT0 : Hid (Tab w) := hT
 have HMY : Hid (∀ i, i < k → MayT (nr : Int) (T i) (N i)) := hm
 clear hM hR hT hm
 go_enter Tryz.func44, Tryz.ntmps44
 obtain ⟨VM_0, VM_1, VM_2, VM_3⟩ := id VM
 rw [hW0] at VM_0 VM_1 VM_2 VM_3
 have hGB : w.heap.size ≤ w.heap.size + 1 := by omega
 go_wp2_with (at_make; refine wpList_make_full _ rfl _ _ 47 rfl _ 44 i0 (.agg #[.bool false, .slice none 0 0, .slice none 0 0]) 3 Tryz.underlying47 hi hz0 hz1 _ _ _ _ k rfl rfl (by omega) (by omega) (by rw [hz2]; omega) (by unfold maxLen; omega) (Nat.le_refl _) ?_; intro w1 hown hgrow; rw [← hW0] at hown hgrow; have hb1 := below_grown hgrow; have A1 := arr3_made hown; have BB1 := BB.trans (hb1.mono BB.size); obtain ⟨q1, q2, q3, q4⟩ := VM.below hb1; clear VM_0 VM_1 VM_2 VM_3)
 rw [hS0] at A1
 have VA : VArr w1 (w.heap.size + 1) k 0 (leafV T N r) := ⟨_, A1, fun j hj => absurd hj (Nat.not_lt_zero _)⟩
 clear q1 q2 q3 q4 hown hgrow hb1 A1 VM BB hi hz0 hz1 hz2 hW0 hS0
 generalize w.heap.size + 1 = G at *
 go_loopw [16] (fun vi wr => ∃ i : Nat, i ≤ k ∧ vi = .int .i64 (i : Int) ∧ VArr wr G k i (leafV T N r) ∧ Below w.heap.size w wr) (fun vi _ => k - (intOf vi).toNat)
 case atStart => exact ⟨0, by omega, rfl, VA, BB1⟩
 case round =>
  clear VA BB1
  obtain ⟨i, hi, rfl, VA, BB⟩ := hrel
  by_cases hlt : i < k
  ·have g1 : (i : Int) < (k : Int) := by omega
   have g0 : (0 : Int) ≤ (i : Int) := by omega
   obtain ⟨b, off, cc, a, d, hvv, hcc, XC0, TR0⟩ := HM0.out.at hlt
   cases hvv
   have XC : wr.cell? ⟨b, off + i, none⟩ = some (.slice a (N i) d) := (BB.cell (p := ⟨b, off + i, none⟩) (World.block_lt_of_cell? _ _ XC0)).trans XC0
   have HMT : Hid (MayT (nr : Int) (T i) (N i)) := HMY.out i hlt
   have HTR : Hid (TRow w (.slice a (N i) d) (N i) (T i) L) := TR0
   have HLV : Hid (leafV T N r i = (T i (wlast (T i) (N i) r 0)).val) := rfl
   have HN1 : Hid (0 < N i) := HMT.out.pos
   generalize N i = n at *
   generalize T i = t at *
   clear XC0 TR0
   go_wp2
   clear XC
   go_loopw [8] (fun va w2 => ∃ x : Nat, va = .int .i64 (x : Int) ∧ x < n ∧ Hid (wlast t n r x = wlast t n r 0) ∧ VArr w2 G k i (leafV T N r) ∧ Below w.heap.size w w2) (fun va _ => n + 1 - lvl t n (intOf va).toNat)
   case atStart => exact ⟨0, rfl, HN1.out, rfl, VA, BB⟩
   case round =>
    clear VA BB
    obtain ⟨x, rfl, hx, HWL, VA, BB⟩ := hrel
    have f0 : (0 : Int) ≤ (x : Int) := by omega
    have f1 : (x : Int) < (n : Int) := by omega
    obtain ⟨b9, off9, cc9, p1, a1, n1, c1, b1, m1, d1, p2, a2, n2, c2, b2, m2, d2, p3, a3, n3, c3, b3, m3, d3, hvv, hcc9, hc6, NN, r1, r2, r3, i1, i2, i3⟩ := (HTR.out.below BB).at hx
    cases hvv
    obtain ⟨lf, hlf⟩ : ∃ z, (t x).leaf = z := ⟨_, rfl⟩
    cases lf
    ·have HNM := HMT.out.named x hx hlf
     have HF := HMT.out.feat x hx hlf
     have hrw := HR0.out.below BB
     have HW2 : Hid (wlast t n r (nxt (t x) r) = wlast t n r 0) := by
      show wlast _ _ _ _ = _
      rw [← HMT.out.wlast_split r hx hlf]
      exact HWL.out
     have HLV2 : Hid (lvl t n (nxt (t x) r) = lvl t n x + 1) := (HMT.out.nxt hx hlf r).2
     have hnx : nxt (t x) r < n := (HMT.out.nxt hx hlf r).1
     have HLX : Hid (lvl t n x ≤ n) := HMT.out.lvl_le hx
     have HCH : Hid (∀ w', RatAt w' (.agg #[.bool p1, .slice a1 n1 c1, .slice b1 m1 d1]) (t x).cut L → CRow w' (.slice ar nr cr) nr r L → Calls Tryz.prog 39 #[.agg #[.bool false, .int .i64 (t x).feat, .bool p1, .slice a1 n1 c1, .slice b1 m1 d1, .int .i64 (t x).left, .int .i64 (t x).right, .bool (t x).miss, .bool p2, .slice a2 n2 c2, .slice b2 m2 d2, .bool p3, .slice a3 n3 c3, .slice b3 m3 d3], .slice ar nr cr] w' fun e w'' => e = .returned (.int .i64 (nxt (t x) r : Int)) ∧ Below w'.heap.size w' w'') := fun w' h1 h2 => by
      have := child_at (t x) r _ nr p1 p2 p3 a1 b1 a2 b2 a3 b3 n1 c1 m1 d1 n2 c2 m2 d2 n3 c3 m3 d3 L w' h1 h2 HF (by omega) (by omega) hL (by omega)
      rw [hlf] at this
      exact this
     rw [hlf] at NN
     clear hlf HNM HF HWL
     obtain ⟨N_0, N_1, N_2, N_3, N_4, N_5, N_6, N_7, N_8, N_9, N_10, N_11, N_12, N_13⟩ := NN
     go_wp2_with fail
     refine (HCH.out _ r1 hrw).mono ?_
     rintro e w2 ⟨rfl, b9⟩
     replace VA := VA.below b9
     replace BB := BB.trans (b9.mono BB.size)
     clear N_0 N_1 N_2 N_3 N_4 N_5 N_6 N_7 N_8 N_9 N_10 N_11 N_12 N_13 HCH hrw r1 r2 r3 i1 i2 i3 b9
     generalize nxt (t x) r = y at *
     go_wp2
     go_roundw
     case rel => exact ⟨y, rfl, hnx, HW2, VA, BB⟩
     case measure =>
      have h1 := HLV2.out
      have h2 := HLX.out
      simp [intOf]
      omega
    ·have HV : Hid (leafV T N r i = (t x).val) := by
      show leafV _ _ _ _ = _
      rw [HLV.out, ← HWL.out, wlast_leaf hlf]
     rw [hlf] at NN
     have ht := HT0.out.below BB
     clear hlf HWL r1 r3 i1 i2 i3
     obtain ⟨N_0, N_1, N_2, N_3, N_4, N_5, N_6, N_7, N_8, N_9, N_10, N_11, N_12, N_13⟩ := NN
     go_wp2_with fail
     refine (qclean_at _ (t x).val L _ r2 hL (by omega) ht).mono ?_
     rintro e w3 ⟨u, rfl, hq, b9⟩
     replace VA := VA.below b9
     replace BB := BB.trans (b9.mono BB.size)
     obtain ⟨p5, a5, n5, c5, b5, m5, d5, rfl⟩ := hq.open
     rw [← HV.out] at hq
     clear N_0 N_1 N_2 N_3 N_4 N_5 N_6 N_7 N_8 N_9 N_10 N_11 N_12 N_13 r2 ht b9 HV
     obtain ⟨u0, u1, u2, x0, x1, x2, y0, y1, y2, VA2⟩ := VA.put hlt hq
     have BB2 : Below w.heap.size w (((w3.setCell ⟨G, i * 3, none⟩ (.bool p5)).setCell ⟨G, i * 3 + 1, none⟩ (.slice a5 n5 c5)).setCell ⟨G, i * 3 + 2, none⟩ (.slice b5 m5 d5)) := ((BB.setCell hGB _).setCell hGB _).setCell hGB _
     go_wp2
     go_roundw
     case rel => exact ⟨i + 1, by omega, by go_num, VA2, BB2⟩
     case measure => simp [intOf]; omega
  ·obtain rfl : i = k := by omega
   have g1 : ¬ (i : Int) < (i : Int) := by omega
   go_wp2
   go_ret
   exact ⟨_, rfl, VA.row (by omega), BB⟩

set_option maxRecDepth 100000 in
set_option maxHeartbeats 4000000 in
theorem rpredict_no (F : Int) (vm vr : Value) (k nr : Nat) (N : Nat → Nat) (T : Nat → Nat → Nd) (r : Nat → Cl) (L : Nat) (w : World) (hM : MRow w vm k N T L) (hR : CRow w vr nr r L) (hT : Tab w) (hL : 1 ≤ L) (hLM : L ≤ 30000) (hw : whyI F k N T nr ≠ 0) :
  Calls Tryz.prog 15 #[.agg #[.int .i64 F, vm], vr] w fun e w' => e = .returned (.tuple #[.agg #[.bool false, .slice none 0 0, .slice none 0 0], .int .i64 (whyI F k N T nr)]) ∧ Below w.heap.size w w' := by
 obtain ⟨ao, c, rfl, hnc, hc63⟩ := hM.open
 obtain ⟨ar, cr, rfl, hrc, hr63⟩ := hR.open
 obtain ⟨W0, hW0, hS0, hL0, VM⟩ := V2.lay w 27 (.int .i64 F) (.slice ao k c)
 have BB : Below w.heap.size w W0 := hL0
 obtain ⟨W1, hW1, hS1, hL1, VR⟩ := V3.lay W0 44 (.bool false) (.slice none 0 0) (.slice none 0 0)
 rw [hS0] at VR
 replace VM := VM.below hL1
 replace BB := BB.trans (hL1.mono BB.size)
 have hM1 := (hM.below hL0).below hL1
 have hR1 := (hR.below hL0).below hL1
 have hT1 := (hT.below hL0).below hL1
 clear hL0 hL1
 go_enter Tryz.func15, Tryz.ntmps15
 obtain ⟨VM_0, VM_1, VM_2, VM_3⟩ := id VM
 rw [hW1, hW0] at VM_0 VM_1 VM_2 VM_3
 go_wp2_with fail
 clear VM_0 VM_1 VM_2 VM_3
 rw [← hW0, ← hW1]
 clear hW0 hW1 hS0 hS1
 refine (rfits_at F _ _ k nr N T r L _ hM1 hR1 hT1 hL hLM).mono ?_
 rintro e w1 ⟨rfl, b1⟩
 replace VM := VM.below b1
 replace VR := VR.below b1
 replace hM1 := hM1.below b1
 replace hR1 := hR1.below b1
 replace hT1 := hT1.below b1
 replace BB := BB.trans (b1.mono BB.size)
 clear b1
 obtain ⟨VM_0, VM_1, VM_2, VM_3⟩ := id VM
 obtain ⟨e1, he1⟩ : ∃ e1, whyI F k N T nr = e1 := ⟨_, rfl⟩
 have HE : Hid (whyI F k N T nr = e1) := he1
 rw [he1] at hw
 rw [he1]
 clear he1
 have g2 : (e1 != 0) = true := by simpa using hw
 have g3 : decide (e1 = 0) = false := decide_eq_false hw
 obtain ⟨z1, z2, z3, z4, z5, z6⟩ := id VR
 have BB_n := below_store3 (R := w.heap.size + 1) BB (by omega) (.bool false) (.slice none 0 0) (.slice none 0 0)
 go_wp2
 (try simp only [Exit.inBlock, Exit.then])
 refine bodyPost_ret (v := .tuple #[.agg #[.bool false, .slice none 0 0, .slice none 0 0], .int .i64 e1]) (by simp [results, go_sem, z1, z2, z3]) rfl ?_
 exact ⟨by rw [HE.out], BB_n⟩


set_option maxRecDepth 100000 in
set_option maxHeartbeats 4000000 in
theorem rpredict_yes (F : Int) (vm vr : Value) (k nr : Nat) (N : Nat → Nat) (T : Nat → Nat → Nd) (r : Nat → Cl) (L : Nat) (w : World) (hM : MRow w vm k N T L) (hR : CRow w vr nr r L) (hT : Tab w) (hL : 1 ≤ L) (hLM : L ≤ 30000) (hw : whyI F k N T nr = 0) (hk : k ≤ 1000) (hm : ∀ i, i < k → MayT (nr : Int) (T i) (N i)) (hMX : k * (L + 1) + L ≤ 100000) :
  Calls Tryz.prog 15 #[.agg #[.int .i64 F, vm], vr] w fun e w' => ∃ x, e = .returned (.tuple #[x, .int .i64 0]) ∧ RepQ w' x (sumq (leafV T N r) k) ∧ Below w.heap.size w w' := by
 obtain ⟨ao, c, rfl, hnc, hc63⟩ := hM.open
 obtain ⟨ar, cr, rfl, hrc, hr63⟩ := hR.open
 obtain ⟨W0, hW0, hS0, hL0, VM⟩ := V2.lay w 27 (.int .i64 F) (.slice ao k c)
 have BB : Below w.heap.size w W0 := hL0
 obtain ⟨W1, hW1, hS1, hL1, VR⟩ := V3.lay W0 44 (.bool false) (.slice none 0 0) (.slice none 0 0)
 rw [hS0] at VR
 replace VM := VM.below hL1
 replace BB := BB.trans (hL1.mono BB.size)
 have hM1 := (hM.below hL0).below hL1
 have hR1 := (hR.below hL0).below hL1
 have hT1 := (hT.below hL0).below hL1
 clear hL0 hL1
 go_enter Tryz.func15, Tryz.ntmps15
 obtain ⟨VM_0, VM_1, VM_2, VM_3⟩ := id VM
 rw [hW1, hW0] at VM_0 VM_1 VM_2 VM_3
 go_wp2_with fail
 clear VM_0 VM_1 VM_2 VM_3
 rw [← hW0, ← hW1]
 clear hW0 hW1 hS0 hS1
 refine (rfits_at F _ _ k nr N T r L _ hM1 hR1 hT1 hL hLM).mono ?_
 rintro e w1 ⟨rfl, b1⟩
 replace VM := VM.below b1
 replace VR := VR.below b1
 replace hM1 := hM1.below b1
 replace hR1 := hR1.below b1
 replace hT1 := hT1.below b1
 replace BB := BB.trans (b1.mono BB.size)
 clear b1
 obtain ⟨VM_0, VM_1, VM_2, VM_3⟩ := id VM
 rw [hw]
 go_wp2_with fail
 clear VM_0 VM_1 VM_2 VM_3
 refine (rvalues_at F _ _ k nr N T r L _ hM1 hR1 hT1 hL hLM hk hm).mono ?_
 rintro e w2 ⟨u, rfl, hF, b2⟩
 replace VM := VM.below b2
 replace VR := VR.below b2
 replace hT1 := hT1.below b2
 replace BB := BB.trans (b2.mono BB.size)
 clear b2
 have hq := hF.q L (leafV_sz hM hL hm r)
 obtain ⟨au, cu, rfl⟩ := hF.open
 go_wp2_with fail
 refine (qsum_any L (k * (L + 1) + L) hL (by omega) hMX k _ _ _ hq hT1 (by omega)).mono ?_
 rintro e w3 ⟨s, rfl, hs, b3⟩
 replace VR := VR.below b3
 replace BB := BB.trans (b3.mono BB.size)
 clear b3
 obtain ⟨p5, a5, n5, c5, b5, m5, d5, rfl⟩ := hs.open
 have hKp := VR.keepJ (.bool p5) (.slice a5 n5 c5) (.slice b5 m5 d5)
 have hs_n := hs.keep hKp
 have BB_n := below_store3 (R := w.heap.size + 1) BB (by omega) (.bool p5) (.slice a5 n5 c5) (.slice b5 m5 d5)
 obtain ⟨z1, z2, z3, z4, z5, z6⟩ := id VR
 clear hKp
 go_wp2
 (try simp only [Exit.inBlock, Exit.then])
 refine bodyPost_ret (v := .tuple #[.agg #[.bool p5, .slice a5 n5 c5, .slice b5 m5 d5], .int .i64 0]) (by simp [results, go_sem, z1, z2, z3]) rfl ?_
 exact ⟨_, rfl, hs_n, BB_n⟩


set_option maxRecDepth 100000 in
set_option maxHeartbeats 4000000 in
theorem reach_no (F : Int) (vm vr : Value) (k nr : Nat) (N : Nat → Nat) (T : Nat → Nat → Nd) (r : Nat → Cl) (L : Nat) (w : World) (hM : MRow w vm k N T L) (hR : CRow w vr nr r L) (hT : Tab w) (hL : 1 ≤ L) (hLM : L ≤ 30000) (hw : whyI F k N T nr ≠ 0) :
  Calls Tryz.prog 16 #[.agg #[.int .i64 F, vm], vr] w fun e w' => e = .returned (.tuple #[.slice none 0 0, .int .i64 (whyI F k N T nr)]) ∧ Below w.heap.size w w' := by
 obtain ⟨ao, c, rfl, hnc, hc63⟩ := hM.open
 obtain ⟨ar, cr, rfl, hrc, hr63⟩ := hR.open
 obtain ⟨W0, hW0, hS0, hL0, VM⟩ := V2.lay w 27 (.int .i64 F) (.slice ao k c)
 have BB : Below w.heap.size w W0 := hL0
 have hM1 := hM.below hL0
 have hR1 := hR.below hL0
 have hT1 := hT.below hL0
 clear hL0
 go_enter Tryz.func16, Tryz.ntmps16
 obtain ⟨VM_0, VM_1, VM_2, VM_3⟩ := id VM
 rw [hW0] at VM_0 VM_1 VM_2 VM_3
 go_wp2_with fail
 clear VM_0 VM_1 VM_2 VM_3
 rw [← hW0]
 clear hW0 hS0
 refine (rfits_at F _ _ k nr N T r L _ hM1 hR1 hT1 hL hLM).mono ?_
 rintro e w1 ⟨rfl, b1⟩
 replace VM := VM.below b1
 replace hM1 := hM1.below b1
 replace hR1 := hR1.below b1
 replace hT1 := hT1.below b1
 replace BB := BB.trans (b1.mono BB.size)
 clear b1
 obtain ⟨VM_0, VM_1, VM_2, VM_3⟩ := id VM
 obtain ⟨e1, he1⟩ : ∃ e1, whyI F k N T nr = e1 := ⟨_, rfl⟩
 have HE : Hid (whyI F k N T nr = e1) := he1
 rw [he1] at hw
 rw [he1]
 clear he1
 have g2 : (e1 != 0) = true := by simpa using hw
 have g3 : decide (e1 = 0) = false := decide_eq_false hw
 go_wp2
 go_ret2
 exact ⟨by rw [HE.out]; rfl, BB⟩


set_option maxRecDepth 100000 in
set_option maxHeartbeats 4000000 in
theorem reach_yes (F : Int) (vm vr : Value) (k nr : Nat) (N : Nat → Nat) (T : Nat → Nat → Nd) (r : Nat → Cl) (L : Nat) (w : World) (hM : MRow w vm k N T L) (hR : CRow w vr nr r L) (hT : Tab w) (hL : 1 ≤ L) (hLM : L ≤ 30000) (hw : whyI F k N T nr = 0) (hk : k ≤ 1000) (hm : ∀ i, i < k → MayT (nr : Int) (T i) (N i)) :
  Calls Tryz.prog 16 #[.agg #[.int .i64 F, vm], vr] w fun e w' => ∃ u, e = .returned (.tuple #[u, .int .i64 0]) ∧ FRow w' u k (leafV T N r) ∧ Below w.heap.size w w' := by
 obtain ⟨ao, c, rfl, hnc, hc63⟩ := hM.open
 obtain ⟨ar, cr, rfl, hrc, hr63⟩ := hR.open
 obtain ⟨W0, hW0, hS0, hL0, VM⟩ := V2.lay w 27 (.int .i64 F) (.slice ao k c)
 have BB : Below w.heap.size w W0 := hL0
 have hM1 := hM.below hL0
 have hR1 := hR.below hL0
 have hT1 := hT.below hL0
 clear hL0
 go_enter Tryz.func16, Tryz.ntmps16
 obtain ⟨VM_0, VM_1, VM_2, VM_3⟩ := id VM
 rw [hW0] at VM_0 VM_1 VM_2 VM_3
 go_wp2_with fail
 clear VM_0 VM_1 VM_2 VM_3
 rw [← hW0]
 clear hW0 hS0
 refine (rfits_at F _ _ k nr N T r L _ hM1 hR1 hT1 hL hLM).mono ?_
 rintro e w1 ⟨rfl, b1⟩
 replace VM := VM.below b1
 replace hM1 := hM1.below b1
 replace hR1 := hR1.below b1
 replace hT1 := hT1.below b1
 replace BB := BB.trans (b1.mono BB.size)
 clear b1
 obtain ⟨VM_0, VM_1, VM_2, VM_3⟩ := id VM
 rw [hw]
 go_wp2_with fail
 clear VM_0 VM_1 VM_2 VM_3
 refine (rvalues_at F _ _ k nr N T r L _ hM1 hR1 hT1 hL hLM hk hm).mono ?_
 rintro e w2 ⟨u, rfl, hF, b2⟩
 replace BB := BB.trans (b2.mono BB.size)
 clear b2
 go_wp2
 go_ret2
 exact ⟨_, rfl, hF, BB⟩



structure Cel10 (w : World) (b o : Nat) (x : Value) : Prop where
 cell : w.cell? ⟨b, o, none⟩ = some x
theorem Cel10.lt {w : World} {b o : Nat} {x : Value} (h : Cel10 w b o x) : b < w.heap.size := World.block_lt_of_cell? _ _ h.cell
theorem Cel10.below {w w' : World} {b o : Nat} {x : Value} (h : Cel10 w b o x) (hb : Below w.heap.size w w') : Cel10 w' b o x := ⟨(hb.cell (p := ⟨b, o, none⟩) h.lt).trans h.cell⟩
theorem Cel10.from {B : Nat} {w w' : World} {b o : Nat} {x : Value} (h : w.cell? ⟨b, o, none⟩ = some x) (hb : Below w.heap.size w w') : Cel10 w' b o x := ⟨(hb.cell (p := ⟨b, o, none⟩) (World.block_lt_of_cell? _ _ h)).trans h⟩
theorem Cel10.other3 {w : World} {b o R : Nat} {x : Value} (h : Cel10 w b o x) (hne : b ≠ R) (u0 u1 u2 : Value) : Cel10 (((w.setCell ⟨R, 0, none⟩ u0).setCell ⟨R, 1, none⟩ u1).setCell ⟨R, 2, none⟩ u2) b o x :=
 ⟨by rw [World.cell?_setCell_other _ _ _ _ (fun e => by injection e; omega), World.cell?_setCell_other _ _ _ _ (fun e => by injection e; omega), World.cell?_setCell_other _ _ _ _ (fun e => by injection e; omega)]; exact h.cell⟩
theorem int_lastcell {B : Nat} {w : World} {v : Value} {zs : List Nat} (h : IntOwn B w v zs) (hne : zs ≠ []) : ∃ g c k, v = .slice (some ⟨g, 0, none⟩) (k + 1) c ∧ B ≤ g ∧ k + 1 = zs.length ∧ w.cell? ⟨g, k, none⟩ = some (.int .i64 ((zs.getLastD 0 : Nat) : Int)) := by
 obtain ⟨g, c, rfl, hc⟩ := h.open (List.length_pos_iff.2 hne)
 rcases List.eq_nil_or_concat zs with rfl | ⟨ws, i, rfl⟩
 ·exact absurd rfl hne
 rw [List.concat_eq_append] at *
 have hl : (ws ++ [i]).length = ws.length + 1 := by simp
 have := h.cell rfl (j := ws.length) (x := i) (by simp)
 refine ⟨g, c, ws.length, by rw [hl], (h.both g rfl).1, hl.symm, ?_⟩
 rw [this]
 simp


set_option maxRecDepth 100000 in
set_option maxHeartbeats 4000000 in
theorem is10_at (u v : Value) (q : Rat) (L M : Nat) (w : World) (hu : RepQ w u q) (hs : qsz q ≤ L) (hv : RatAt w v q M) (hM2 : 2 ≤ M) (hLM : L + M ≤ 890) :
  Calls Tryz.prog 19 #[u, v] w fun e w' => e = .returned (.bool true) ∧ Below w.heap.size w w' := by
 obtain ⟨pu, au, nu, cu, bu, mu, du, rfl⟩ := hu.open
 obtain ⟨pv, av, nv, cv, bv, mv, dv, rfl⟩ := hv.open
 have BB : Below w.heap.size w w := Below.refl _ _
 obtain ⟨Wb0, hW0, hS0, hL0, VU⟩ := V3.lay w 44 (.bool pu) (.slice au nu cu) (.slice bu mu du)
 replace hu := hu.below hL0
 replace hv := hv.below hL0
 replace BB := BB.trans (hL0.mono BB.size)
 clear hL0
 obtain ⟨Wb1, hW1, hS1, hL1, VV⟩ := V3.lay Wb0 44 (.bool pv) (.slice av nv cv) (.slice bv mv dv)
 rw [hS0] at VV hS1
 replace hu := hu.below hL1
 replace hv := hv.below hL1
 replace VU := VU.below hL1
 replace BB := BB.trans (hL1.mono BB.size)
 clear hL1
 go_enter Tryz.func19, Tryz.ntmps19
 go_wp2
 rw [← hW0]
 rw [← hW1]
 clear hW0 hW1 hS0 hS1
 have hDr : Below Wb1.heap.size Wb1 Wb1.drew := (Below.refl _ _).drew
 replace hu := hu.below hDr
 replace hv := hv.below hDr
 replace VU := VU.below hDr
 replace VV := VV.below hDr
 replace BB := BB.trans (hDr.mono BB.size)
 clear hDr
 refine wp_region_held_drew (S := (fun w' => w'.cell? ⟨w.heap.size, 0, none⟩ = some (.bool pu) ∧ w'.cell? ⟨w.heap.size, 1, none⟩ = some (.slice au nu cu) ∧ w'.cell? ⟨w.heap.size, 2, none⟩ = some (.slice bu mu du) ∧ w'.cell? ⟨w.heap.size + 1, 0, none⟩ = some (.bool pv) ∧ w'.cell? ⟨w.heap.size + 1, 1, none⟩ = some (.slice av nv cv) ∧ w'.cell? ⟨w.heap.size + 1, 2, none⟩ = some (.slice bv mv dv))) (by kernel_rfl) ?_ (fun hHeld => ?_)
 ·exact ⟨VU.1, VU.2.1, VU.2.2.1, VV.1, VV.2.1, VV.2.2.1⟩
 generalize Wb1.drew = W1 at *
 refine wpAnyH_take (i := 0) (v := ?_) (by simp only [xL1, xL2, xL3]; rfl) (by kernel_rfl) (by kernel_rfl) (by kernel_rfl) (by exact fun _ _ _ h => h) (Or.inl ⟨by rfl, ?_⟩) (by assumption) ?_
 rotate_left
 ·(intro w hSw; (try dsimp only at hSw); go_simp; (try with_reducible rfl))
 (try simp only [Act.put, xL4, xL5, xL6])
 refine wpAnyH_take (i := 1) (v := ?_) (by simp only [xL1, xL2, xL3]; rfl) (by kernel_rfl) (by kernel_rfl) (by kernel_rfl) (by exact fun _ _ _ h => h) (Or.inl ⟨by rfl, ?_⟩) (by assumption) ?_
 rotate_left
 ·(intro w hSw; (try dsimp only at hSw); go_simp; (try with_reducible rfl))
 (try simp only [Act.put, xL4, xL5, xL6])
 refine wpAnyH_ready (rs := [2]) (by kernel_rfl) (by simp) ?_
 refine AllReadyH.cons (by simp only [xL1, xL2, xL3]; rfl) (fun K hK => ?_) AllReadyH.nil
 go_simp
 refine (jfrom_at _ q M _ hv hM2 (by omega)).mono ?_
 rintro e w1 ⟨x1, rfl, j1, b1⟩
 go_wp2_with fail
 replace hu := hu.below b1
 replace hv := hv.below b1
 replace VU := VU.below b1
 replace VV := VV.below b1
 replace BB := BB.trans (b1.mono BB.size)
 clear b1
 refine hK.out _ _ ?_ (fun hH1 => ?_)
 ·exact ⟨VU.1, VU.2.1, VU.2.2.1, VV.1, VV.2.1, VV.2.2.1⟩
 clear hK K hHeld
 (try simp only [Act.put, xL4, xL5, xL6])
 refine wpAnyH_ready (rs := [3]) (by kernel_rfl) (by simp) ?_
 refine AllReadyH.cons (by simp only [xL1, xL2, xL3]; rfl) (fun K hK => ?_) AllReadyH.nil
 go_simp
 refine (jis_at _ _ q L M _ hu hs j1 hLM).mono ?_
 rintro e w2 ⟨rfl, b2⟩
 go_wp2_with fail
 replace hu := hu.below b2
 replace hv := hv.below b2
 replace j1 := j1.below b2
 replace VU := VU.below b2
 replace VV := VV.below b2
 replace BB := BB.trans (b2.mono BB.size)
 clear b2
 refine hK.out _ _ ?_ (fun hH2 => ?_)
 ·exact ⟨VU.1, VU.2.1, VU.2.2.1, VV.1, VV.2.1, VV.2.2.1⟩
 clear hK K hH1
 (try simp only [Act.put, xL4, xL5, xL6])
 refine wpAnyH_take (i := 4) (v := ?_) (by simp only [xL1, xL2, xL3]; rfl) (by kernel_rfl) (by kernel_rfl) (by kernel_rfl) (by exact fun _ _ _ h => h) (Or.inl ⟨by rfl, ?_⟩) (by assumption) ?_
 rotate_left
 ·(intro w hSw; (try dsimp only at hSw); go_simp; (try with_reducible rfl))
 (try simp only [Act.put, xL4, xL5, xL6])
 refine wpAnyH_done (by kernel_rfl) ?_ _
 clear hH2
 go_wp2
 go_ret
 exact ⟨rfl, BB⟩


set_option maxRecDepth 100000 in
set_option maxHeartbeats 16000000 in
theorem lpredict_at (F : Int) (vm vr : Value) (k nr : Nat) (N : Nat → Nat) (T : Nat → Nat → Nd) (r : Nat → Cl) (L : Nat) (w : World) (hM : MRow w vm k N T L) (hR : CRow w vr nr r L) (hT : Tab w) (hL : 1 ≤ L) (hLM : L ≤ 30000) (hk : k ≤ 1000) (hm : ∀ i, i < k → MayT (nr : Int) (T i) (N i)) (hMX : k * (L + 1) + 1 + L ≤ 100000) :
  Calls Tryz.prog 20 #[.agg #[.int .i64 F, vm], vr] w fun e w' => ∃ x, e = .returned x ∧ RepQ w' x (sumq (leafV T N r) k) ∧ Below w.heap.size w w' := by
 obtain ⟨ao, c, rfl, hnc, hc63⟩ := hM.open
 obtain ⟨ar, cr, rfl, hrc, hr63⟩ := hR.open
 have HSZ : Hid (∀ i, i ≤ k → qsz (sumq (leafV T N r) i) ≤ k * (L + 1) + 1) := fun i hi => by
  have h1 := qsz_sumq (leafV T N r) L i (fun j hj => leafV_sz hM hL hm r j (by omega))
  have h2 := Nat.mul_le_mul_right (L + 1) hi
  omega
 have HM0 : Hid (MRow w (.slice ao k c) k N T L) := hM
 have HR0 : Hid (CRow w (.slice ar nr cr) nr r L) := hR
 have HT0 : Hid (Tab w) := hT
 have HMY : Hid (∀ i, i < k → MayT (nr : Int) (T i) (N i)) := hm
 clear hM hR hT hm
 have BB : Below w.heap.size w w := Below.refl _ _
 obtain ⟨Wb0, hW0, hS0, hL0, VM⟩ := V2.lay w 27 (.int .i64 F) (.slice ao k c)
 replace BB := BB.trans (hL0.mono BB.size)
 clear hL0
 obtain ⟨Wb1, hW1, hS1, hL1, VR⟩ := V3.lay Wb0 44 (.bool false) (.slice none 0 0) (.slice none 0 0)
 rw [hS0] at VR hS1
 replace VM := VM.below hL1
 replace BB := BB.trans (hL1.mono BB.size)
 clear hL1
 go_enter Tryz.func20, Tryz.ntmps20
 go_wp2_with fail
 rw [← hW0]
 rw [← hW1]
 clear hW0 hW1 hS0 hS1
 refine (qzero_at _).mono ?_
 rintro e w1 ⟨v1, rfl, hs, b1⟩
 replace VM := VM.below b1
 replace VR := VR.below b1
 replace BB := BB.trans (b1.mono BB.size)
 clear b1
 obtain ⟨p0, a0, n0, c0, y0, m0, d0, rfl⟩ := hs.open
 have hZ1 : w.heap.size ≤ w1.heap.size := BB.size
 have hN1VM : w.heap.size ≠ w1.heap.size := Nat.ne_of_lt VM.lt
 have hN1VR : w.heap.size + 1 ≠ w1.heap.size := Nat.ne_of_lt VR.lt
 obtain ⟨W1, hW1, hS1, hL1, VS⟩ := V3.lay w1 44 (.bool p0) (.slice a0 n0 c0) (.slice y0 m0 d0)
 replace hs := hs.below hL1
 replace VM := VM.below hL1
 replace VR := VR.below hL1
 replace BB := BB.trans (hL1.mono BB.size)
 clear hL1
 obtain ⟨VM_0, VM_1, VM_2, VM_3⟩ := id VM
 obtain ⟨VS_0, VS_1, VS_2, VS_3, VS_4, VS_5⟩ := id VS
 rw [hW1] at VM_0 VM_1 VM_2 VM_3 VS_0 VS_1 VS_2 VS_3 VS_4 VS_5
 go_wp2_with fail
 clear VM_0 VM_1 VM_2 VM_3 VS_0 VS_1 VS_2 VS_3 VS_4 VS_5
 rw [← hW1]
 generalize w1.heap.size = R1 at *
 clear hW1 hS1
 have hs : RepQ W1 (.agg #[.bool p0, .slice a0 n0 c0, .slice y0 m0 d0]) (sumq (leafV T N r) 0) := hs
 go_loopw [6] (fun vi wr => ∃ (i : Nat) (p5 : Bool) (a5 : Option Addr) (n5 c5 : Nat) (y5 : Option Addr) (m5 d5 : Nat), i ≤ k ∧ vi = .int .i64 (i : Int) ∧ V3 wr R1 (.bool p5) (.slice a5 n5 c5) (.slice y5 m5 d5) ∧ RepQ wr (.agg #[.bool p5, .slice a5 n5 c5, .slice y5 m5 d5]) (sumq (leafV T N r) i) ∧ V2 wr w.heap.size (.int .i64 F) (.slice ao k c) ∧ V3 wr (w.heap.size + 1) (.bool false) (.slice none 0 0) (.slice none 0 0) ∧ Below w.heap.size w wr) (fun vi _ => k - (intOf vi).toNat)
 case atStart => exact ⟨0, _, _, _, _, _, _, _, by omega, rfl, VS, hs, VM, VR, BB⟩
 case round =>
  clear VS hs VM VR BB
  obtain ⟨i, p5, a5, n5, c5, y5, m5, d5, hi, rfl, VS, hs, VM, VR, BB⟩ := hrel
  by_cases hlt : i < k
  ·have g1 : (i : Int) < (k : Int) := by omega
   have g0 : (0 : Int) ≤ (i : Int) := by omega
   have wi : IntKind.i64.wrap ((i : Int) + 1) = (i : Int) + 1 := by rw [IntKind.wrap_i64]; omega
   obtain ⟨b, off, cc, a, d, hvv, hcc, XC0, TR0⟩ := HM0.out.at hlt
   have hbw : b < w.heap.size := World.block_lt_of_cell? _ _ XC0
   cases hvv
   have TC := Cel10.from (B := 0) XC0 BB
   have HMT : Hid (MayT (nr : Int) (T i) (N i)) := HMY.out i hlt
   have TR := TR0.below BB
   have HTR0 : Hid (TRow w (.slice a (N i) d) (N i) (T i) L) := TR0
   have CR := HR0.out.below BB
   have ht := HT0.out.below BB
   have HSI : Hid (sumq (leafV T N r) (i + 1) = sumq (leafV T N r) i + (T i (wlast (T i) (N i) r 0)).val) := rfl
   have HSZI : Hid (qsz (sumq (leafV T N r) i) ≤ k * (L + 1) + 1) := HSZ.out i hi
   have HWX := HMT.out.wlast_is r (x := 0) (by have := HMT.out.pos; omega)
   have HLN := HMT.out.way_len r (x := 0) (by have := HMT.out.pos; omega)
   have HNE := way_ne (T i) (N i) r 0
   have HWL : Hid (wlast (T i) (N i) r 0 = (way (T i) (N i) r 0).getLastD 0) := rfl
   have hn255 := HMT.out.few
   clear XC0 TR0
   have hRS : R1 < wr.heap.size := VS.lt
   have T1 := TC.cell
   obtain ⟨VM_0, VM_1, VM_2, VM_3⟩ := id VM
   go_wp2_with fail
   clear VM_0 VM_1 VM_2 VM_3
   clear T1
   refine (lway_at _ _ (N i) nr (T i) r L _ TR CR hL hLM HMT.out).mono ?_
   rintro e w2 ⟨vw, rfl, OW, b2⟩
   replace hs := hs.below b2
   replace TR := TR.below b2
   replace ht := ht.below b2
   replace VS := VS.below b2
   replace VM := VM.below b2
   replace VR := VR.below b2
   replace TC := TC.below b2
   replace BB := BB.trans (b2.mono BB.size)
   clear b2
   obtain ⟨gw, cw, kw, rfl, hgB, hkw, XW0⟩ := int_lastcell OW HNE
   rw [← HWL.out] at XW0
   have XW : Cel10 w2 gw kw _ := ⟨XW0⟩
   clear XW0 OW CR
   obtain ⟨xl, hxl⟩ : ∃ xl, wlast (T i) (N i) r 0 = xl := ⟨_, rfl⟩
   rw [hxl] at XW HWX HSI
   clear hxl HWL HNE
   have hxn : xl < N i := HWX.1
   obtain ⟨bn, ofn, cc, p1, a1, n1, c1, b1, m1, d1, p2, a2, n2, c2, b2, m2, d2, p3, a3, n3, c3, b3, m3, d3, hvv, hcc, hc6, NN, r1, r2, r3, i1, i2, i3⟩ := TR.at hxn
   cases hvv
   have Y8 : Cel10 w2 bn (ofn + xl * 14 + 8) (.bool p2) := ⟨NN.c8⟩
   have Y9 : Cel10 w2 bn (ofn + xl * 14 + 9) (.slice a2 n2 c2) := ⟨NN.c9⟩
   have Y10 : Cel10 w2 bn (ofn + xl * 14 + 10) (.slice b2 m2 d2) := ⟨NN.c10⟩
   have hbn : bn < w.heap.size := by
    obtain ⟨b8, o8, cc8, p1q, a1q, n1q, c1q, b1q, m1q, d1q, p2q, a2q, n2q, c2q, b2q, m2q, d2q, p3q, a3q, n3q, c3q, b3q, m3q, d3q, hv8, _, _, N8, _⟩ := HTR0.out.at hxn
    cases hv8
    exact World.block_lt_of_cell? _ _ N8.c0
   clear TR NN r1 r3 i1 i2 i3
   obtain ⟨k1, hk1⟩ : ∃ k1, k1 = kw + 1 := ⟨_, rfl⟩
   rw [← hk1]
   have f2 : (k1 : Int) - 1 = (kw : Int) := by omega
   have f3 : (0 : Int) ≤ (kw : Int) := by omega
   have f4 : (kw : Int) < (k1 : Int) := by omega
   have f0 : IntKind.i64.wrap (kw : Int) = (kw : Int) := by rw [IntKind.wrap_i64]; omega
   have f5 : (0 : Int) ≤ (xl : Int) := by omega
   have f6 : (xl : Int) < (N i : Int) := by omega
   clear hk1
   go_wp2
   have hDr : Below w2.heap.size w2 w2.drew := (Below.refl _ _).drew
   replace hs := hs.below hDr
   replace ht := ht.below hDr
   replace r2 := r2.below hDr
   replace VS := VS.below hDr
   replace VM := VM.below hDr
   replace VR := VR.below hDr
   replace TC := TC.below hDr
   replace XW := XW.below hDr
   replace Y8 := Y8.below hDr
   replace Y9 := Y9.below hDr
   replace Y10 := Y10.below hDr
   replace BB := BB.trans (hDr.mono BB.size)
   clear hDr
   refine wp_region_held_drew (S := (fun w' => w'.cell? ⟨w.heap.size, 0, none⟩ = some (.int .i64 F) ∧ w'.cell? ⟨w.heap.size, 1, none⟩ = some (.slice (some ⟨b, off, none⟩) k c) ∧ w'.cell? ⟨b, off + i, none⟩ = some (.slice (some ⟨bn, ofn, none⟩) (N i) d) ∧ w'.cell? ⟨gw, kw, none⟩ = some (.int .i64 (xl : Int)) ∧ w'.cell? ⟨bn, ofn + xl * 14 + 8, none⟩ = some (.bool p2) ∧ w'.cell? ⟨bn, ofn + xl * 14 + 8 + 1, none⟩ = some (.slice a2 n2 c2) ∧ w'.cell? ⟨bn, ofn + xl * 14 + 8 + 2, none⟩ = some (.slice b2 m2 d2))) (by kernel_rfl) ?_ (fun hHeld => ?_)
   ·exact ⟨VM.1, VM.2.1, TC.cell, XW.cell, Y8.cell, Y9.cell, Y10.cell⟩
   generalize w2.drew = W22 at *
   refine wpAnyH_take (i := 1) (v := ?_) (by simp only [xL1, xL2, xL3]; rfl) (by kernel_rfl) (by kernel_rfl) (by kernel_rfl) (by exact fun _ _ _ h => h) (Or.inl ⟨by rfl, ?_⟩) (by assumption) ?_
   rotate_left
   ·(intro w hSw; (try dsimp only at hSw); go_simp; (try with_reducible rfl))
   (try simp only [Act.put, xL4, xL5, xL6])
   refine wpAnyH_take (i := 2) (v := ?_) (by simp only [xL1, xL2, xL3]; rfl) (by kernel_rfl) (by kernel_rfl) (by kernel_rfl) (by exact fun _ _ _ h => h) (Or.inl ⟨by rfl, ?_⟩) (by assumption) ?_
   rotate_left
   ·(intro w hSw; (try dsimp only at hSw); go_simp; (try with_reducible rfl))
   (try simp only [Act.put, xL4, xL5, xL6])
   refine wpAnyH_take (i := 3) (v := ?_) (by simp only [xL1, xL2, xL3]; rfl) (by kernel_rfl) (by kernel_rfl) (by kernel_rfl) (by exact fun _ _ _ h => h) (Or.inl ⟨by rfl, ?_⟩) (by assumption) ?_
   rotate_left
   ·(intro w hSw; (try dsimp only at hSw); go_simp; (try with_reducible rfl))
   (try simp only [Act.put, xL4, xL5, xL6])
   refine wpAnyH_take (i := 4) (v := ?_) (by simp only [xL1, xL2, xL3]; rfl) (by kernel_rfl) (by kernel_rfl) (by kernel_rfl) (by exact fun _ _ _ h => h) (Or.inl ⟨by rfl, ?_⟩) (by assumption) ?_
   rotate_left
   ·(intro w hSw; (try dsimp only at hSw); go_simp; (try with_reducible rfl))
   (try simp only [Act.put, xL4, xL5, xL6])
   refine wpAnyH_take (i := 5) (v := ?_) (by simp only [xL1, xL2, xL3]; rfl) (by kernel_rfl) (by kernel_rfl) (by kernel_rfl) (by exact fun _ _ _ h => h) (Or.inl ⟨by rfl, ?_⟩) (by assumption) ?_
   rotate_left
   ·(intro w hSw; (try dsimp only at hSw); go_simp; (try with_reducible rfl))
   (try simp only [Act.put, xL4, xL5, xL6])
   refine wpAnyH_take (i := 6) (v := ?_) (by simp only [xL1, xL2, xL3]; rfl) (by kernel_rfl) (by kernel_rfl) (by kernel_rfl) (by exact fun _ _ _ h => h) (Or.inl ⟨by rfl, ?_⟩) (by assumption) ?_
   rotate_left
   ·(intro w hSw; (try dsimp only at hSw); go_simp; (try with_reducible rfl))
   (try simp only [Act.put, xL4, xL5, xL6])
   refine wpAnyH_take (i := 7) (v := ?_) (by simp only [xL1, xL2, xL3]; rfl) (by kernel_rfl) (by kernel_rfl) (by kernel_rfl) (by exact fun _ _ _ h => h) (Or.inl ⟨by rfl, ?_⟩) (by assumption) ?_
   rotate_left
   ·(intro w hSw; (try dsimp only at hSw); go_simp; (try with_reducible rfl))
   (try simp only [Act.put, xL4, xL5, xL6])
   refine wpAnyH_take (i := 8) (v := ?_) (by simp only [xL1, xL2, xL3]; rfl) (by kernel_rfl) (by kernel_rfl) (by kernel_rfl) (by exact fun _ _ _ h => h) (Or.inl ⟨by rfl, ?_⟩) (by assumption) ?_
   rotate_left
   ·(intro w hSw; (try dsimp only at hSw); go_simp; (try with_reducible rfl))
   (try simp only [Act.put, xL4, xL5, xL6])
   refine wpAnyH_take (i := 9) (v := ?_) (by simp only [xL1, xL2, xL3]; rfl) (by kernel_rfl) (by kernel_rfl) (by kernel_rfl) (by exact fun _ _ _ h => h) (Or.inl ⟨by rfl, ?_⟩) (by assumption) ?_
   rotate_left
   ·(intro w hSw; (try dsimp only at hSw); go_simp; (try with_reducible rfl))
   (try simp only [Act.put, xL4, xL5, xL6])
   refine wpAnyH_take (i := 10) (v := ?_) (by simp only [xL1, xL2, xL3]; rfl) (by kernel_rfl) (by kernel_rfl) (by kernel_rfl) (by exact fun _ _ _ h => h) (Or.inl ⟨by rfl, ?_⟩) (by assumption) ?_
   rotate_left
   ·(intro w hSw; (try dsimp only at hSw); go_simp; (try with_reducible rfl))
   (try simp only [Act.put, xL4, xL5, xL6])
   refine wpAnyH_take (i := 11) (v := ?_) (by simp only [xL1, xL2, xL3]; rfl) (by kernel_rfl) (by kernel_rfl) (by kernel_rfl) (by exact fun _ _ _ h => h) (Or.inl ⟨by rfl, ?_⟩) (by assumption) ?_
   rotate_left
   ·(intro w hSw; (try dsimp only at hSw); go_simp; (try with_reducible rfl))
   (try simp only [Act.put, xL4, xL5, xL6])
   refine wpAnyH_take (i := 12) (v := ?_) (by simp only [xL1, xL2, xL3]; rfl) (by kernel_rfl) (by kernel_rfl) (by kernel_rfl) (by exact fun _ _ _ h => h) (Or.inl ⟨by rfl, ?_⟩) (by assumption) ?_
   rotate_left
   ·(intro w hSw; (try dsimp only at hSw); go_simp; (try with_reducible rfl))
   (try simp only [Act.put, xL4, xL5, xL6])
   refine wpAnyH_take (i := 13) (v := ?_) (by simp only [xL1, xL2, xL3]; rfl) (by kernel_rfl) (by kernel_rfl) (by kernel_rfl) (by exact fun _ _ _ h => h) (Or.inl ⟨by rfl, ?_⟩) (by assumption) ?_
   rotate_left
   ·(intro w hSw; (try dsimp only at hSw); go_simp; (try with_reducible rfl))
   (try simp only [Act.put, xL4, xL5, xL6])
   refine wpAnyH_take (i := 14) (v := ?_) (by simp only [xL1, xL2, xL3]; rfl) (by kernel_rfl) (by kernel_rfl) (by kernel_rfl) (by exact fun _ _ _ h => h) (Or.inl ⟨by rfl, ?_⟩) (by assumption) ?_
   rotate_left
   ·(intro w hSw; (try dsimp only at hSw); go_simp; (try with_reducible rfl))
   (try simp only [Act.put, xL4, xL5, xL6])
   refine wpAnyH_ready (rs := [0]) (by kernel_rfl) (by simp) ?_
   refine AllReadyH.cons (by simp only [xL1, xL2, xL3]; rfl) (fun K hK => ?_) AllReadyH.nil
   obtain ⟨VS_0, VS_1, VS_2, VS_3, VS_4, VS_5⟩ := id VS
   go_simp
   clear VS_0 VS_1 VS_2 VS_3 VS_4 VS_5
   refine hK.out _ _ ?_ (fun hH1 => ?_)
   ·exact ⟨VM.1, VM.2.1, TC.cell, XW.cell, Y8.cell, Y9.cell, Y10.cell⟩
   clear hK K hHeld
   (try simp only [Act.put, xL4, xL5, xL6])
   refine wpAnyH_ready (rs := [15]) (by kernel_rfl) (by simp) ?_
   refine AllReadyH.cons (by simp only [xL1, xL2, xL3]; rfl) (fun K hK => ?_) AllReadyH.nil
   go_simp
   refine (qadd_at _ _ (sumq (leafV T N r) i) _ (k * (L + 1) + 1 + L) _ (hs.at _ (Nat.le_trans HSZI.out (by omega))) (r2.le (by omega)) (by omega) hMX ht).mono ?_
   rintro e w3 ⟨vs, rfl, h9, b3⟩
   obtain ⟨p6, a6, n6, c6, y6, m6, d6, rfl⟩ := h9.open
   rw [← HSI.out] at h9
   go_wp2_with fail
   replace hs := hs.below b3
   replace ht := ht.below b3
   replace r2 := r2.below b3
   replace VS := VS.below b3
   replace VM := VM.below b3
   replace VR := VR.below b3
   replace TC := TC.below b3
   replace XW := XW.below b3
   replace Y8 := Y8.below b3
   replace Y9 := Y9.below b3
   replace Y10 := Y10.below b3
   replace BB := BB.trans (b3.mono BB.size)
   clear b3
   refine hK.out _ _ ?_ (fun hH2 => ?_)
   ·exact ⟨VM.1, VM.2.1, TC.cell, XW.cell, Y8.cell, Y9.cell, Y10.cell⟩
   clear hK K hH1
   (try simp only [Act.put, xL4, xL5, xL6])
   refine wpAnyH_ready (rs := [16]) (by kernel_rfl) (by simp) ?_
   refine AllReadyH.cons (by simp only [xL1, xL2, xL3]; rfl) (fun K hK => ?_) AllReadyH.nil
   have hKp := VS.keepJ (.bool p6) (.slice a6 n6 c6) (.slice y6 m6 d6)
   have VM_n := VM.other3 (R := R1) (by omega) (.bool p6) (.slice a6 n6 c6) (.slice y6 m6 d6)
   have VR_n := VR.other3 (R := R1) (by omega) (.bool p6) (.slice a6 n6 c6) (.slice y6 m6 d6)
   have TC_n := TC.other3 (R := R1) (by omega) (.bool p6) (.slice a6 n6 c6) (.slice y6 m6 d6)
   have XW_n := XW.other3 (R := R1) (by omega) (.bool p6) (.slice a6 n6 c6) (.slice y6 m6 d6)
   have Y8_n := Y8.other3 (R := R1) (by omega) (.bool p6) (.slice a6 n6 c6) (.slice y6 m6 d6)
   have Y9_n := Y9.other3 (R := R1) (by omega) (.bool p6) (.slice a6 n6 c6) (.slice y6 m6 d6)
   have Y10_n := Y10.other3 (R := R1) (by omega) (.bool p6) (.slice a6 n6 c6) (.slice y6 m6 d6)
   have VS_n := VS.same (.bool p6) (.slice a6 n6 c6) (.slice y6 m6 d6)
   have hs_n := hs.keep hKp
   have ht_n := ht.keep hKp
   have r2_n := r2.keep hKp
   have h9_n := h9.keep hKp
   have BB_n := below_store3 (R := R1) BB (by omega) (.bool p6) (.slice a6 n6 c6) (.slice y6 m6 d6)
   clear hKp
   obtain ⟨VS_0, VS_1, VS_2, VS_3, VS_4, VS_5⟩ := id VS
   go_simp
   clear VS_0 VS_1 VS_2 VS_3 VS_4 VS_5
   clear BB hs ht r2 h9 VS VM VR TC XW Y8 Y9 Y10
   generalize ((w3.setCell ⟨R1, 0, none⟩ (.bool p6)).setCell ⟨R1, 1, none⟩ (.slice a6 n6 c6)).setCell ⟨R1, 2, none⟩ (.slice y6 m6 d6) = W23 at *
   have BB := BB_n
   have hs := hs_n
   have ht := ht_n
   have r2 := r2_n
   have h9 := h9_n
   have VS := VS_n
   have VM := VM_n
   have VR := VR_n
   have TC := TC_n
   have XW := XW_n
   have Y8 := Y8_n
   have Y9 := Y9_n
   have Y10 := Y10_n
   clear BB_n hs_n ht_n r2_n h9_n VS_n VM_n VR_n TC_n XW_n Y8_n Y9_n Y10_n
   refine hK.out _ _ ?_ (fun hH3 => ?_)
   ·exact ⟨VM.1, VM.2.1, TC.cell, XW.cell, Y8.cell, Y9.cell, Y10.cell⟩
   clear hK K hH2
   (try simp only [Act.put, xL4, xL5, xL6])
   refine wpAnyH_done (by kernel_rfl) ?_ _
   clear hH3
   go_wp2
   go_roundw
   case rel => exact ⟨i + 1, _, _, _, _, _, _, _, by omega, by go_num, VS, h9, VM, VR, BB⟩
   case measure => simp [intOf]; omega
  ·obtain rfl : i = k := by omega
   have g1 : ¬ (i : Int) < (i : Int) := by omega
   have hKp := VR.keepJ (.bool p5) (.slice a5 n5 c5) (.slice y5 m5 d5)
   have hs_n := hs.keep hKp
   have BB_n := below_store3 (R := w.heap.size + 1) BB (by omega) (.bool p5) (.slice a5 n5 c5) (.slice y5 m5 d5)
   clear hKp
   obtain ⟨VS_0, VS_1, VS_2, VS_3, VS_4, VS_5⟩ := id VS
   obtain ⟨VM_0, VM_1, VM_2, VM_3⟩ := id VM
   obtain ⟨q1, q2, q3, q4, q5, q6⟩ := id VR
   go_wp2
   (try simp only [Exit.inBlock, Exit.then])
   refine bodyPost_ret (v := .agg #[.bool p5, .slice a5 n5 c5, .slice y5 m5 d5]) (by simp [results, go_sem, q1, q2, q3]) rfl ?_
   exact ⟨_, rfl, hs_n, BB_n⟩

end Go.Proofs.YtnnnkajomljdgaaGreatDoor
