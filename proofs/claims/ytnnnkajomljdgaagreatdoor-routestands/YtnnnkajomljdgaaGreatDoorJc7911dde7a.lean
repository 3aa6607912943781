/-
  Texts of mine, joined: what lies beneath the statement.
-/
import Derived.Test.YtnnnkajomljdgaaGreatDoorJ88b258d9b9
import Derived.Test.YtnnnkajomljdgaaGreatDoorJ1ffa724cb6
import Derived.Test.YtnnnkajomljdgaaGreatDoorJ9d5e76c52e
import Derived.Test.YtnnnkajomljdgaaGreatDoorJ75c78792c5
import Derived.Laws.CopyOwn
import Derived.Test.YtnnnkajomljdgaaGreatDoorJ87885f521d
namespace Go.Proofs.YtnnnkajomljdgaaGreatDoor
open Go.RowKit
set_option linter.unusedVariables false
set_option linter.unusedSimpArgs false

theorem cmpQ_lt10 (q r : Rat) : decide (cmpQ q r < 0) = decide (q < r) := by
 unfold cmpQ
 by_cases h : q < r
 ·simp [h]
 ·by_cases h2 : r < q
  ·simp [h, h2]
  ·simp [h, h2]


set_option maxRecDepth 100000 in
set_option maxHeartbeats 4000000 in
theorem rleft_at (d : Nd) (c : Cl) (p1 p2 p3 p4 : Bool) (a1 b1 a2 b2 a3 b3 a4 b4 : Option Addr) (n1 c1 m1 d1 n2 c2 m2 d2 n3 c3 m3 d3 n4 c4 m4 d4 : Nat) (L : Nat) (w : World) (hu : RatAt w (.agg #[.bool p1, .slice a1 n1 c1, .slice b1 m1 d1]) d.cut L) (hv : RatAt w (.agg #[.bool p4, .slice a4 n4 c4, .slice b4 m4 d4]) c.val L) (hL : 1 ≤ L) (hM : L ≤ 100000) :
  Calls Tryz.prog 41 #[.agg #[.bool d.leaf, .int .i64 d.feat, .bool p1, .slice a1 n1 c1, .slice b1 m1 d1, .int .i64 d.left, .int .i64 d.right, .bool d.miss, .bool p2, .slice a2 n2 c2, .slice b2 m2 d2, .bool p3, .slice a3 n3 c3, .slice b3 m3 d3], .agg #[.bool c.miss, .bool p4, .slice a4 n4 c4, .slice b4 m4 d4]] w fun e w' => e = .returned (.bool (goL d c)) ∧ Below w.heap.size w w' := by
 have hAB : ∀ o o', Below w.heap.size w ((w.alloc o).alloc o') := fun o o' => ((Below.refl _ _).alloc (Nat.le_refl _) _).alloc (by simp) _
 rcases d with ⟨lf, ft, q, ll, rr, ms, vl, cv⟩
 rcases c with ⟨cm, r⟩
 dsimp only at hu hv ⊢
 cases lf
 ·cases cm
  ·have HO : Hid (goL ⟨false, ft, q, ll, rr, ms, vl, cv⟩ ⟨false, r⟩ = decide (r < q)) := rfl
   have h1 := hu.below (hAB (.cells #[.bool false, .int .i64 ft, .bool p1, .slice a1 n1 c1, .slice b1 m1 d1, .int .i64 ll, .int .i64 rr, .bool ms, .bool p2, .slice a2 n2 c2, .slice b2 m2 d2, .bool p3, .slice a3 n3 c3, .slice b3 m3 d3] 67) (.cells #[.bool false, .bool p4, .slice a4 n4 c4, .slice b4 m4 d4] 71))
   have h2 := hv.below (hAB (.cells #[.bool false, .int .i64 ft, .bool p1, .slice a1 n1 c1, .slice b1 m1 d1, .int .i64 ll, .int .i64 rr, .bool ms, .bool p2, .slice a2 n2 c2, .slice b2 m2 d2, .bool p3, .slice a3 n3 c3, .slice b3 m3 d3] 67) (.cells #[.bool false, .bool p4, .slice a4 n4 c4, .slice b4 m4 d4] 71))
   have BB := hAB (.cells #[.bool false, .int .i64 ft, .bool p1, .slice a1 n1 c1, .slice b1 m1 d1, .int .i64 ll, .int .i64 rr, .bool ms, .bool p2, .slice a2 n2 c2, .slice b2 m2 d2, .bool p3, .slice a3 n3 c3, .slice b3 m3 d3] 67) (.cells #[.bool false, .bool p4, .slice a4 n4 c4, .slice b4 m4 d4] 71)
   go_enter Tryz.func41, Tryz.ntmps41
   go_wp2_with fail
   refine (qcmp_at _ _ r q L _ h2 h1 hL hM).mono ?_
   rintro e w1 ⟨rfl, b1⟩
   replace BB := BB.trans (b1.mono BB.size)
   clear b1 h1 h2
   have HC : Hid (decide (cmpQ r q < 0) = decide (r < q)) := cmpQ_lt10 r q
   generalize cmpQ r q = cq at *
   go_wp2
   go_ret
   exact ⟨by rw [HO.out, ← HC.out]; rfl, BB⟩
  ·cases ms <;> (go_enter Tryz.func41, Tryz.ntmps41; go_wp2; go_ret; exact ⟨rfl, hAB _ _⟩)
 ·go_enter Tryz.func41, Tryz.ntmps41
  go_wp2
  go_ret
  exact ⟨rfl, hAB _ _⟩


def Quad10 (w : World) (b o : Nat) (x y z u : Value) : Prop := w.cell? ⟨b, o, none⟩ = some x ∧ w.cell? ⟨b, o + 1, none⟩ = some y ∧ w.cell? ⟨b, o + 2, none⟩ = some z ∧ w.cell? ⟨b, o + 3, none⟩ = some u
theorem Quad10.out {w : World} {b o : Nat} {x y z u : Value} (h : Quad10 w b o x y z u) : w.cell? ⟨b, o, none⟩ = some x ∧ w.cell? ⟨b, o + 1, none⟩ = some y ∧ w.cell? ⟨b, o + 2, none⟩ = some z ∧ w.cell? ⟨b, o + 3, none⟩ = some u := h
theorem Quad10.below {w w' : World} {b o : Nat} {x y z u : Value} (h : Quad10 w b o x y z u) (hb : Below w.heap.size w w') : Quad10 w' b o x y z u := by
 have hl := World.block_lt_of_cell? w _ h.1
 exact ⟨(hb.cell (p := ⟨b, o, none⟩) hl).trans h.1, (hb.cell (p := ⟨b, o + 1, none⟩) hl).trans h.2.1, (hb.cell (p := ⟨b, o + 2, none⟩) hl).trans h.2.2.1, (hb.cell (p := ⟨b, o + 3, none⟩) hl).trans h.2.2.2⟩


set_option maxRecDepth 100000 in
set_option maxHeartbeats 8000000 in
theorem child_at (d : Nd) (r : Nat → Cl) (vr : Value) (nr : Nat) (p1 p2 p3 : Bool) (a1 b1 a2 b2 a3 b3 : Option Addr) (n1 c1 m1 d1 n2 c2 m2 d2 n3 c3 m3 d3 : Nat) (L : Nat) (w : World) (hu : RatAt w (.agg #[.bool p1, .slice a1 n1 c1, .slice b1 m1 d1]) d.cut L) (hrow : CRow w vr nr r L) (hf : 0 ≤ d.feat ∧ d.feat < (nr : Int)) (hl : 0 ≤ d.left) (hr : 0 ≤ d.right) (hL : 1 ≤ L) (hM : L ≤ 100000) :
  Calls Tryz.prog 39 #[.agg #[.bool d.leaf, .int .i64 d.feat, .bool p1, .slice a1 n1 c1, .slice b1 m1 d1, .int .i64 d.left, .int .i64 d.right, .bool d.miss, .bool p2, .slice a2 n2 c2, .slice b2 m2 d2, .bool p3, .slice a3 n3 c3, .slice b3 m3 d3], vr] w fun e w' => e = .returned (.int .i64 (nxt d r : Int)) ∧ Below w.heap.size w w' := by
 obtain ⟨hf0, hf1⟩ := hf
 obtain ⟨fn, hfn⟩ : ∃ fn : Nat, d.feat = (fn : Int) := ⟨d.feat.toNat, by omega⟩
 have hfl : fn < nr := by omega
 obtain ⟨lr, hlr⟩ : ∃ x : Nat, d.left = (x : Int) := ⟨d.left.toNat, by omega⟩
 obtain ⟨rr, hrr⟩ : ∃ x : Nat, d.right = (x : Int) := ⟨d.right.toNat, by omega⟩
 have HO : Hid (nxt d r = if goL d (r fn) = true then lr else rr) := by
  show nxt d r = _
  unfold nxt
  rw [hfn, hlr, hrr]
  rfl
 rw [hfn, hlr, hrr]
 have g0 : (0 : Int) ≤ (fn : Int) := by omega
 have g1 : (fn : Int) < (nr : Int) := by omega
 clear hf0 hf1 hl hr hfn hlr hrr
 obtain ⟨lf, hlf⟩ : ∃ z, d.leaf = z := ⟨_, rfl⟩
 obtain ⟨ms, hms⟩ : ∃ z, d.miss = z := ⟨_, rfl⟩
 have CON := fun w (h1 : RatAt w (.agg #[.bool p1, .slice a1 n1 c1, .slice b1 m1 d1]) d.cut L) p4 a4 b4 n4 c4 m4 d4 h2 => rleft_at ⟨lf, (fn : Int), d.cut, (lr : Int), (rr : Int), ms, d.val, d.cov⟩ (r fn) p1 p2 p3 p4 a1 b1 a2 b2 a3 b3 a4 b4 n1 c1 m1 d1 n2 c2 m2 d2 n3 c3 m3 d3 n4 c4 m4 d4 L w h1 h2 hL hM
 have HG : Hid (goL ⟨lf, (fn : Int), d.cut, (lr : Int), (rr : Int), ms, d.val, d.cov⟩ (r fn) = goL d (r fn)) := by
  show goL _ _ = _
  rw [← hlf, ← hms]
  rfl
 have HCON : Hid (∀ (w : World) (h1 : RatAt w (.agg #[.bool p1, .slice a1 n1 c1, .slice b1 m1 d1]) d.cut L) p4 a4 b4 n4 c4 m4 d4 (h2 : RatAt w (.agg #[.bool p4, .slice a4 n4 c4, .slice b4 m4 d4]) (r fn).val L), Calls Tryz.prog 41 #[.agg #[.bool lf, .int .i64 (fn : Int), .bool p1, .slice a1 n1 c1, .slice b1 m1 d1, .int .i64 (lr : Int), .int .i64 (rr : Int), .bool ms, .bool p2, .slice a2 n2 c2, .slice b2 m2 d2, .bool p3, .slice a3 n3 c3, .slice b3 m3 d3], .agg #[.bool (r fn).miss, .bool p4, .slice a4 n4 c4, .slice b4 m4 d4]] w fun e w' => e = .returned (.bool (goL ⟨lf, (fn : Int), d.cut, (lr : Int), (rr : Int), ms, d.val, d.cov⟩ (r fn))) ∧ Below w.heap.size w w') := CON
 rw [hlf, hms]
 clear CON hlf hms
 obtain ⟨ar, cr, rfl, hrc, hr63⟩ := hrow.open
 have BB : Below w.heap.size w w := Below.refl _ _
 obtain ⟨W0, hW0, hS0, hL0, VN, FN⟩ := V14.lay w 67 (.bool lf) (.int .i64 (fn : Int)) (.bool p1) (.slice a1 n1 c1) (.slice b1 m1 d1) (.int .i64 (lr : Int)) (.int .i64 (rr : Int)) (.bool ms) (.bool p2) (.slice a2 n2 c2) (.slice b2 m2 d2) (.bool p3) (.slice a3 n3 c3) (.slice b3 m3 d3)
 replace hu := hu.below hL0
 replace hrow := hrow.below hL0
 replace BB := BB.trans (hL0.mono BB.size)
 clear hL0
 go_enter Tryz.func39, Tryz.ntmps39
 go_wp2_with fail
 rw [← hW0]
 clear hW0 hS0 FN
 obtain ⟨b4, off4, c94, p4, a4, n4, c4, bb4, m4, d4, hv4, hcc4, hc64, X0, X1, X2, X3, r4⟩ := hrow.at hfl
 cases hv4
 obtain ⟨cm, hcm⟩ : ∃ z, (r fn).miss = z := ⟨_, rfl⟩
 rw [hcm] at X0 HCON
 clear hcm
 have QC : Quad10 W0 b4 (off4 + fn * 4) (.bool cm) (.bool p4) (.slice a4 n4 c4) (.slice bb4 m4 d4) := ⟨X0, X1, X2, X3⟩
 clear X0 X1 X2 X3 hrow
 have hDr : Below W0.heap.size W0 W0.drew := (Below.refl _ _).drew
 replace hu := hu.below hDr
 replace r4 := r4.below hDr
 replace QC := QC.below hDr
 replace VN := VN.below hDr
 replace BB := BB.trans (hDr.mono BB.size)
 clear hDr
 refine wp_region_held_drew (S := (fun w' => w'.cell? ⟨w.heap.size, 0, none⟩ = some (.bool lf) ∧ w'.cell? ⟨w.heap.size, 1, none⟩ = some (.int .i64 (fn : Int)) ∧ w'.cell? ⟨w.heap.size, 2, none⟩ = some (.bool p1) ∧ w'.cell? ⟨w.heap.size, 3, none⟩ = some (.slice a1 n1 c1) ∧ w'.cell? ⟨w.heap.size, 4, none⟩ = some (.slice b1 m1 d1) ∧ w'.cell? ⟨w.heap.size, 5, none⟩ = some (.int .i64 (lr : Int)) ∧ w'.cell? ⟨w.heap.size, 6, none⟩ = some (.int .i64 (rr : Int)) ∧ w'.cell? ⟨w.heap.size, 7, none⟩ = some (.bool ms) ∧ w'.cell? ⟨w.heap.size, 8, none⟩ = some (.bool p2) ∧ w'.cell? ⟨w.heap.size, 9, none⟩ = some (.slice a2 n2 c2) ∧ w'.cell? ⟨w.heap.size, 10, none⟩ = some (.slice b2 m2 d2) ∧ w'.cell? ⟨w.heap.size, 11, none⟩ = some (.bool p3) ∧ w'.cell? ⟨w.heap.size, 12, none⟩ = some (.slice a3 n3 c3) ∧ w'.cell? ⟨w.heap.size, 13, none⟩ = some (.slice b3 m3 d3) ∧ w'.cell? ⟨b4, off4 + fn * 4, none⟩ = some (.bool cm) ∧ w'.cell? ⟨b4, off4 + fn * 4 + 1, none⟩ = some (.bool p4) ∧ w'.cell? ⟨b4, off4 + fn * 4 + 2, none⟩ = some (.slice a4 n4 c4) ∧ w'.cell? ⟨b4, off4 + fn * 4 + 3, none⟩ = some (.slice bb4 m4 d4))) (by kernel_rfl) ?_ (fun hHeld => ?_)
 ·exact ⟨VN.c0, VN.c1, VN.c2, VN.c3, VN.c4, VN.c5, VN.c6, VN.c7, VN.c8, VN.c9, VN.c10, VN.c11, VN.c12, VN.c13, QC.out.1, QC.out.2.1, QC.out.2.2.1, QC.out.2.2.2⟩
 generalize W0.drew = W1 at *
 refine wpAnyH_take (i := 0) (v := ?_) (by simp only [xL1, xL2, xL3]; rfl) (by kernel_rfl) (by kernel_rfl) (by kernel_rfl) (by exact fun _ _ _ h => h) (Or.inl ⟨by rfl, ?_⟩) (by assumption) ?_
 rotate_left
 ·(intro w hSw; (try dsimp only at hSw); go_simp; (try with_reducible rfl))
 (try simp only [Act.put, xL4, xL5, xL6])
 refine wpAnyH_take (i := 1) (v := ?_) (by simp only [xL1, xL2, xL3]; rfl) (by kernel_rfl) (by kernel_rfl) (by kernel_rfl) (by exact fun _ _ _ h => h) (Or.inl ⟨by rfl, ?_⟩) (by assumption) ?_
 rotate_left
 ·(intro w hSw; (try dsimp only at hSw); go_simp; (try with_reducible rfl))
 (try simp only [Act.put, xL4, xL5, xL6])
 refine wpAnyH_take (i := 2) (v := ?_) (by simp only [xL1, xL2, xL3]; rfl) (by kernel_rfl) (by kernel_rfl) (by kernel_rfl) (by exact fun _ _ _ h => h) (Or.inl ⟨by rfl, ?_⟩) (by assumption) ?_
 rotate_left
 ·(intro w hSw; (try dsimp only at hSw); go_simp; (try with_reducible rfl))
 (try simp only [Act.put, xL4, xL5, xL6])
 refine wpAnyH_take (i := 3) (v := ?_) (by simp only [xL1, xL2, xL3]; rfl) (by kernel_rfl) (by kernel_rfl) (by kernel_rfl) (by exact fun _ _ _ h => h) (Or.inl ⟨by rfl, ?_⟩) (by assumption) ?_
 rotate_left
 ·(intro w hSw; (try dsimp only at hSw); go_simp; (try with_reducible rfl))
 (try simp only [Act.put, xL4, xL5, xL6])
 refine wpAnyH_take (i := 4) (v := ?_) (by simp only [xL1, xL2, xL3]; rfl) (by kernel_rfl) (by kernel_rfl) (by kernel_rfl) (by exact fun _ _ _ h => h) (Or.inl ⟨by rfl, ?_⟩) (by assumption) ?_
 rotate_left
 ·(intro w hSw; (try dsimp only at hSw); go_simp; (try with_reducible rfl))
 (try simp only [Act.put, xL4, xL5, xL6])
 refine wpAnyH_take (i := 5) (v := ?_) (by simp only [xL1, xL2, xL3]; rfl) (by kernel_rfl) (by kernel_rfl) (by kernel_rfl) (by exact fun _ _ _ h => h) (Or.inl ⟨by rfl, ?_⟩) (by assumption) ?_
 rotate_left
 ·(intro w hSw; (try dsimp only at hSw); go_simp; (try with_reducible rfl))
 (try simp only [Act.put, xL4, xL5, xL6])
 refine wpAnyH_ready (rs := [6]) (by kernel_rfl) (by simp) ?_
 refine AllReadyH.cons (by simp only [xL1, xL2, xL3]; rfl) (fun K hK => ?_) AllReadyH.nil
 go_simp
 refine (HCON.out _ hu _ _ _ _ _ _ _ r4).mono ?_
 rintro e w1 ⟨rfl, b1⟩
 rw [HG.out]
 obtain ⟨g, hg⟩ : ∃ g, goL d (r fn) = g := ⟨_, rfl⟩
 have HGG : Hid (goL d (r fn) = g) := hg
 rw [hg]
 clear hg HCON HG
 go_wp2_with fail
 replace hu := hu.below b1
 replace r4 := r4.below b1
 replace QC := QC.below b1
 replace VN := VN.below b1
 replace BB := BB.trans (b1.mono BB.size)
 clear b1
 refine hK.out _ _ ?_ (fun hH1 => ?_)
 ·exact ⟨VN.c0, VN.c1, VN.c2, VN.c3, VN.c4, VN.c5, VN.c6, VN.c7, VN.c8, VN.c9, VN.c10, VN.c11, VN.c12, VN.c13, QC.out.1, QC.out.2.1, QC.out.2.2.1, QC.out.2.2.2⟩
 clear hK K hHeld
 (try simp only [Act.put, xL4, xL5, xL6])
 refine wpAnyH_done (by kernel_rfl) ?_ _
 clear hH1
 obtain ⟨V_0, V_1, V_2, V_3, V_4, V_5, V_6, V_7, V_8, V_9, V_10, V_11, V_12, V_13⟩ := id VN
 cases g
 ·go_wp2
  go_ret
  exact ⟨by rw [HO.out, HGG.out]; rfl, BB⟩
 ·go_wp2
  go_ret
  exact ⟨by rw [HO.out, HGG.out]; rfl, BB⟩

/-- May a model be? -/
noncomputable def mayB (F : Int) (k : Nat) (N : Nat → Nat) (T : Nat → Nat → Nd) : Bool := @decide (ChkOut F k N T (.agg #[.int .i64 0, .int .i64 0, .int .i64 0, .int .i64 0])) (Classical.propDecidable _)
theorem mayB_of {F : Int} {k : Nat} {N : Nat → Nat} {T : Nat → Nat → Nd} {a s d : Int} (h : ChkOut F k N T (.agg #[.int .i64 a, .int .i64 0, .int .i64 s, .int .i64 d])) : decide (a = 0) = mayB F k N T := by
 unfold mayB
 by_cases e : a = 0
 ·subst e
  obtain ⟨a2, s2, d2, e2, hz⟩ := h.open
  injection e2 with e2
  simp only [Array.mk.injEq, List.cons.injEq, Value.int.injEq, true_and, and_true] at e2
  obtain ⟨e0, es, ed⟩ := e2
  obtain ⟨rfl, rfl⟩ := hz e0.symm
  subst es ed
  rw [decide_eq_true rfl]
  exact (@decide_eq_true _ (Classical.propDecidable _) h).symm
 ·rw [decide_eq_false e]
  refine (@decide_eq_false _ (Classical.propDecidable _) (fun h2 => e ?_)).symm
  have := h.one h2
  injection this with this
  simp only [Array.mk.injEq, List.cons.injEq, Value.int.injEq, true_and, and_true] at this
  exact this.1
theorem mayB_may {F : Int} {k : Nat} {N : Nat → Nat} {T : Nat → Nat → Nd} (h : mayB F k N T = true) : 0 ≤ F ∧ F ≤ 64 ∧ k ≤ 64 ∧ ∀ i, i < k → MayT F (T i) (N i) := by
 unfold mayB at h
 exact (@of_decide_eq_true _ (Classical.propDecidable _) h).may
theorem ok_may (F : Int) (v : Value) (k : Nat) (N : Nat → Nat) (T : Nat → Nat → Nd) (L : Nat) (w : World) (hv : MRow w v k N T L) (ht : Tab w) (hL : 1 ≤ L) (hLM : L ≤ 30000) :
  Calls Tryz.prog 25 #[.agg #[.int .i64 F, v]] w fun e w' => e = .returned (.bool (mayB F k N T)) ∧ Below w.heap.size w w' := by
 refine (ok_at F v k N T L w hv ht hL hLM).mono ?_
 rintro e w' ⟨a, s, d, rfl, h, hb⟩
 exact ⟨by rw [mayB_of h], hb⟩

/-- What Way has found: the nodes ahead, and where it stands. -/
def WInv (t : Nat → Nd) (n : Nat) (r : Nat → Cl) (zs : List Nat) (x : Nat) : Prop := x < n ∧ ∃ pre, zs = pre ++ [x] ∧ pre ++ way t n r x = way t n r 0
theorem WInv.start {t : Nat → Nd} {n : Nat} (r : Nat → Cl) (h : 0 < n) : WInv t n r [0] 0 := ⟨h, [], rfl, rfl⟩
theorem WInv.leaf {t : Nat → Nd} {n : Nat} {r : Nat → Cl} {zs : List Nat} {x : Nat} (h : WInv t n r zs x) (hl : (t x).leaf = true) : zs = way t n r 0 := by
 obtain ⟨_, pre, e, h⟩ := h
 rw [way_leaf hl] at h
 rw [e, h]
theorem WInv.split {F : Int} {t : Nat → Nd} {n : Nat} {r : Nat → Cl} {zs : List Nat} {x : Nat} (h : WInv t n r zs x) (hm : MayT F t n) (hl : (t x).leaf = false) : WInv t n r (zs ++ [nxt (t x) r]) (nxt (t x) r) := by
 obtain ⟨hx, pre, e, h⟩ := h
 rw [hm.way_split r hx hl] at h
 refine ⟨(hm.nxt hx hl r).1, pre ++ [x], by rw [e], ?_⟩
 rw [← h, List.append_assoc]
 rfl
theorem WInv.len {F : Int} {t : Nat → Nd} {n : Nat} {r : Nat → Cl} {zs : List Nat} {x : Nat} (h : WInv t n r zs x) (hm : MayT F t n) : 1 ≤ zs.length ∧ zs.length ≤ n + 1 := by
 obtain ⟨hx, pre, e, h⟩ := h
 have h1 := hm.way_len r (x := 0) (by omega)
 rw [← h, List.length_append] at h1
 have := List.length_pos_iff.2 (way_ne t n r x)
 rw [e, List.length_append]
 simp
 omega
theorem IntOwn.le {B B' : Nat} {w : World} {v : Value} {zs : List Nat} (h : IntOwn B w v zs) (hb : B' ≤ B) : IntOwn B' w v zs := by
 refine ⟨h.1, ?_⟩
 rcases h.2 with h | ⟨g, c, cur, e, h1, h2⟩
 ·exact .inl h
 ·exact .inr ⟨g, c, cur, e, Nat.le_trans hb h1, h2⟩



/-- An array of k numbers of which the first i are told. -/
def VArr (w : World) (g k i : Nat) (q : Nat → Rat) : Prop := ∃ el, Arr3 w g k el ∧ ∀ j, j < i → RepQ w (elv el j) (q j)
theorem VArr.below {w w' : World} {g k i : Nat} {q : Nat → Rat} (h : VArr w g k i q) (hb : Below w.heap.size w w') : VArr w' g k i q := let ⟨el, a, b⟩ := h; ⟨el, a.below hb, fun j hj => (b j hj).below hb⟩
theorem VArr.put {w : World} {g k i : Nat} {q : Nat → Rat} (h : VArr w g k i q) (hi : i < k) {p : Bool} {a b : Option Addr} {n c m d : Nat} (hr : RepQ w (.agg #[.bool p, .slice a n c, .slice b m d]) (q i)) : ∃ u0 u1 u2, w.cell? ⟨g, i * 3, none⟩ = some u0 ∧ w.cell? ⟨g, i * 3 + 1, none⟩ = some u1 ∧ w.cell? ⟨g, i * 3 + 2, none⟩ = some u2 ∧ w.frozen? ⟨g, i * 3, none⟩ = false ∧ w.frozen? ⟨g, i * 3 + 1, none⟩ = false ∧ w.frozen? ⟨g, i * 3 + 2, none⟩ = false ∧
  VArr (((w.setCell ⟨g, i * 3, none⟩ (.bool p)).setCell ⟨g, i * 3 + 1, none⟩ (.slice a n c)).setCell ⟨g, i * 3 + 2, none⟩ (.slice b m d)) g k (i + 1) q := by
 obtain ⟨el, A, R⟩ := h
 obtain ⟨A2, K2⟩ := A.set i hi (.bool p) (.slice a n c) (.slice b m d) (num_bool _) (num_slice _ _ _) (num_slice _ _ _)
 refine ⟨_, _, _, A.1 i hi 0 (by omega), A.1 i hi 1 (by omega), A.1 i hi 2 (by omega), A.2.1 i hi 0 (by omega), A.2.1 i hi 1 (by omega), A.2.1 i hi 2 (by omega), _, A2, fun j hj => ?_⟩
 by_cases e : j = i
 ·subst e
  have := hr.keep K2
  simpa [elv, upd3] using this
 ·have := (R j (by omega)).keep K2
  simp only [elv, upd3_other el i j _ _ _ e] at *
  exact this
theorem VArr.row {w : World} {g k : Nat} {q : Nat → Rat} (h : VArr w g k k q) (hk : k ≤ 100000) : FRow w (.slice (some ⟨g, 0, none⟩) k k) k q :=
 let ⟨el, a, b⟩ := h; ⟨el, a.row k k (Nat.le_refl _) (Nat.le_refl _) (by omega), b⟩
noncomputable def whyI (F : Int) (k : Nat) (N : Nat → Nat) (T : Nat → Nat → Nd) (nr : Nat) : Int := if mayB F k N T = true then (if (nr : Int) = F then 0 else 14) else 1
theorem whyI_no {F : Int} {k : Nat} {N : Nat → Nat} {T : Nat → Nat → Nd} {nr : Nat} (h : mayB F k N T = false) : whyI F k N T nr = 1 := by unfold whyI; rw [h]; rfl
theorem whyI_yes {F : Int} {k : Nat} {N : Nat → Nat} {T : Nat → Nat → Nd} {nr : Nat} (h : mayB F k N T = true) (h2 : (nr : Int) = F) : whyI F k N T nr = 0 := by unfold whyI; rw [if_pos h, if_pos h2]
theorem leafV_sz {w : World} {v : Value} {k : Nat} {N : Nat → Nat} {T : Nat → Nat → Nd} {L : Nat} {F : Int} (h : MRow w v k N T L) (hL : 1 ≤ L) (hm : ∀ i, i < k → MayT F (T i) (N i)) (r : Nat → Cl) : ∀ i, i < k → qsz (leafV T N r i) ≤ L := by
 intro i hi
 obtain ⟨b, off, c, a, d, _, _, _, TR⟩ := h.at hi
 have hp := (hm i hi).pos
 have hw := (hm i hi).wlast_is r (x := 0) (by omega)
 obtain ⟨_, _, _, _, _, _, _, _, _, _, _, _, _, _, _, _, _, _, _, _, _, _, _, _, _, _, _, _, _, r2, _⟩ := TR.at hw.1
 exact r2.qsz hL


set_option maxRecDepth 20000 in
set_option maxHeartbeats 2000000 in
theorem rlength_at (F : Int) (a ar : Option Addr) (k c nr cr : Nat) (w : World) :
  Calls Tryz.prog 45 #[.agg #[.int .i64 F, .slice a k c], .slice ar nr cr] w fun e w' => e = .returned (.int .i64 (if (nr : Int) = F then 0 else 14)) ∧ Below w.heap.size w w' := by
 have hA : Below w.heap.size w (w.alloc (.cells #[.int .i64 F, .slice a k c] 27)) := (Below.refl _ _).alloc (Nat.le_refl _) _
 by_cases h : (nr : Int) = F
 ·rw [if_pos h]
  have g2 : ((nr : Int) != F) = false := by simpa using h
  have g3 : decide ((nr : Int) = F) = true := decide_eq_true h
  go_enter Tryz.func45, Tryz.ntmps45
  go_wp2
  go_ret
  exact ⟨rfl, hA⟩
 ·rw [if_neg h]
  have g2 : ((nr : Int) != F) = true := by simpa using h
  have g3 : decide ((nr : Int) = F) = false := decide_eq_false h
  go_enter Tryz.func45, Tryz.ntmps45
  go_wp2
  go_ret
  exact ⟨rfl, hA⟩


set_option maxRecDepth 100000 in
set_option maxHeartbeats 4000000 in
theorem rfits_at (F : Int) (vm vr : Value) (k nr : Nat) (N : Nat → Nat) (T : Nat → Nat → Nd) (r : Nat → Cl) (L : Nat) (w : World) (hM : MRow w vm k N T L) (hR : CRow w vr nr r L) (hT : Tab w) (hL : 1 ≤ L) (hLM : L ≤ 30000) :
  Calls Tryz.prog 18 #[.agg #[.int .i64 F, vm], vr] w fun e w' => e = .returned (.int .i64 (whyI F k N T nr)) ∧ Below w.heap.size w w' := by
 obtain ⟨ao, c, rfl, hnc, hc63⟩ := hM.open
 obtain ⟨ar, cr, rfl, hrc, hr63⟩ := hR.open
 obtain ⟨W0, hW0, hS0, hL0, VM⟩ := V2.lay w 27 (.int .i64 F) (.slice ao k c)
 have BB : Below w.heap.size w W0 := hL0
 have hM1 := hM.below hL0
 have hT1 := hT.below hL0
 clear hL0
 go_enter Tryz.func18, Tryz.ntmps18
 obtain ⟨VM_0, VM_1, VM_2, VM_3⟩ := id VM
 rw [hW0] at VM_0 VM_1 VM_2 VM_3
 go_wp2_with fail
 clear VM_0 VM_1 VM_2 VM_3
 rw [← hW0]
 clear hW0 hS0
 refine (ok_may F _ k N T L _ hM1 hT1 hL hLM).mono ?_
 rintro e w1 ⟨rfl, b1⟩
 replace VM := VM.below b1
 replace BB := BB.trans (b1.mono BB.size)
 clear b1 hM1 hT1
 obtain ⟨VM_0, VM_1, VM_2, VM_3⟩ := id VM
 obtain ⟨mb, hmb⟩ : ∃ mb, mayB F k N T = mb := ⟨_, rfl⟩
 rw [hmb]
 have HB : Hid (mayB F k N T = mb) := hmb
 clear hmb
 cases mb
 ·go_wp2
  go_ret
  exact ⟨by rw [whyI_no HB.out]; rfl, BB⟩
 ·go_wp2_with fail
  refine (rlength_at F _ _ k c nr cr _).mono ?_
  rintro e w2 ⟨rfl, b2⟩
  replace BB := BB.trans (b2.mono BB.size)
  clear b2
  have HW : Hid (whyI F k N T nr = if (nr : Int) = F then 0 else 14) := by show whyI _ _ _ _ _ = _; unfold whyI; rw [if_pos HB.out]
  generalize (if (nr : Int) = F then (0 : Int) else 14) = x at *
  go_wp2
  go_ret
  exact ⟨by rw [HW.out]; rfl, BB⟩


set_option maxRecDepth 100000 in
set_option maxHeartbeats 16000000 in
theorem rvalues_at (F : Int) (vm vr : Value) (k nr : Nat) (N : Nat → Nat) (T : Nat → Nat → Nd) (r : Nat → Cl) (L : Nat) (w : World) (hM : MRow w vm k N T L) (hR : CRow w vr nr r L) (hT : Tab w) (hL : 1 ≤ L) (hLM : L ≤ 30000) (hk : k ≤ 1000) (hm : ∀ i, i < k → MayT (nr : Int) (T i) (N i)) :
  Calls Tryz.prog 44 #[.agg #[.int .i64 F, vm], vr] w fun e w' => ∃ u, e = .returned u ∧ FRow w' u k (leafV T N r) ∧ Below w.heap.size w w' := by
 obtain ⟨ao, c, rfl, hnc, hc63⟩ := hM.open
 obtain ⟨ar, cr, rfl, hrc, hr63⟩ := hR.open
 obtain ⟨i0, hi, hz0, hz1, hz2⟩ := info_parts info_wrat
 obtain ⟨W0, hW0, hS0, hL0, VM⟩ := V2.lay w 27 (.int .i64 F) (.slice ao k c)
 have BB : Below w.heap.size w W0 := hL0
 clear hL0
 have HM0 : Hid (MRow w (.slice ao k c) k N T L) := hM
 have HR0 : Hid (CRow w (.slice ar nr cr) nr r L) := hR
 have HT0 : Hid (Tab w) := hT
 have HMY : Hid (∀ i, i < k → MayT (nr : Int) (T i) (N i)) := hm
 clear hM hR hT hm
 go_enter Tryz.func44, Tryz.ntmps44
 obtain ⟨VM_0, VM_1, VM_2, VM_3⟩ := id VM
 rw [hW0] at VM_0 VM_1 VM_2 VM_3
 have hGB : w.heap.size ≤ w.heap.size + 1 := by omega
 go_wp2_with (at_make; refine wpList_make_full _ rfl _ _ 47 rfl _ 44 i0 (.agg #[.bool false, .slice none 0 0, .slice none 0 0]) 3 Tryz.underlying47 hi hz0 hz1 _ _ _ _ k rfl rfl (by omega) (by omega) (by rw [hz2]; omega) (by unfold maxLen; omega) (Nat.le_refl _) ?_; intro w1 hown hgrow; rw [← hW0] at hown hgrow; have hb1 := below_grown hgrow; have A1 := arr3_made hown; have BB1 := BB.trans (hb1.mono BB.size); obtain ⟨q1, q2, q3, q4⟩ := VM.below hb1; clear VM_0 VM_1 VM_2 VM_3)
 rw [hS0] at A1
 have VA : VArr w1 (w.heap.size + 1) k 0 (leafV T N r) := ⟨_, A1, fun j hj => absurd hj (Nat.not_lt_zero _)⟩
 clear q1 q2 q3 q4 hown hgrow hb1 A1 VM BB hi hz0 hz1 hz2 hW0 hS0
 generalize w.heap.size + 1 = G at *
 go_loopw [16] (fun vi wr => ∃ i : Nat, i ≤ k ∧ vi = .int .i64 (i : Int) ∧ VArr wr G k i (leafV T N r) ∧ Below w.heap.size w wr) (fun vi _ => k - (intOf vi).toNat)
 case atStart => exact ⟨0, by omega, rfl, VA, BB1⟩
 case round =>
  clear VA BB1
  obtain ⟨i, hi, rfl, VA, BB⟩ := hrel
  by_cases hlt : i < k
  ·have g1 : (i : Int) < (k : Int) := by omega
   have g0 : (0 : Int) ≤ (i : Int) := by omega
   obtain ⟨b, off, cc, a, d, hvv, hcc, XC0, TR0⟩ := HM0.out.at hlt
   cases hvv
   have XC : wr.cell? ⟨b, off + i, none⟩ = some (.slice a (N i) d) := (BB.cell (p := ⟨b, off + i, none⟩) (World.block_lt_of_cell? _ _ XC0)).trans XC0
   have HMT : Hid (MayT (nr : Int) (T i) (N i)) := HMY.out i hlt
   have HTR : Hid (TRow w (.slice a (N i) d) (N i) (T i) L) := TR0
   have HLV : Hid (leafV T N r i = (T i (wlast (T i) (N i) r 0)).val) := rfl
   have HN1 : Hid (0 < N i) := HMT.out.pos
   generalize N i = n at *
   generalize T i = t at *
   clear XC0 TR0
   go_wp2
   clear XC
   go_loopw [8] (fun va w2 => ∃ x : Nat, va = .int .i64 (x : Int) ∧ x < n ∧ Hid (wlast t n r x = wlast t n r 0) ∧ VArr w2 G k i (leafV T N r) ∧ Below w.heap.size w w2) (fun va _ => n + 1 - lvl t n (intOf va).toNat)
   case atStart => exact ⟨0, rfl, HN1.out, rfl, VA, BB⟩
   case round =>
    clear VA BB
    obtain ⟨x, rfl, hx, HWL, VA, BB⟩ := hrel
    have f0 : (0 : Int) ≤ (x : Int) := by omega
    have f1 : (x : Int) < (n : Int) := by omega
    obtain ⟨b9, off9, cc9, p1, a1, n1, c1, b1, m1, d1, p2, a2, n2, c2, b2, m2, d2, p3, a3, n3, c3, b3, m3, d3, hvv, hcc9, hc6, NN, r1, r2, r3, i1, i2, i3⟩ := (HTR.out.below BB).at hx
    cases hvv
    obtain ⟨lf, hlf⟩ : ∃ z, (t x).leaf = z := ⟨_, rfl⟩
    cases lf
    ·have HNM := HMT.out.named x hx hlf
     have HF := HMT.out.feat x hx hlf
     have hrw := HR0.out.below BB
     have HW2 : Hid (wlast t n r (nxt (t x) r) = wlast t n r 0) := by
      show wlast _ _ _ _ = _
      rw [← HMT.out.wlast_split r hx hlf]
      exact HWL.out
     have HLV2 : Hid (lvl t n (nxt (t x) r) = lvl t n x + 1) := (HMT.out.nxt hx hlf r).2
     have hnx : nxt (t x) r < n := (HMT.out.nxt hx hlf r).1
     have HLX : Hid (lvl t n x ≤ n) := HMT.out.lvl_le hx
     have HCH : Hid (∀ w', RatAt w' (.agg #[.bool p1, .slice a1 n1 c1, .slice b1 m1 d1]) (t x).cut L → CRow w' (.slice ar nr cr) nr r L → Calls Tryz.prog 39 #[.agg #[.bool false, .int .i64 (t x).feat, .bool p1, .slice a1 n1 c1, .slice b1 m1 d1, .int .i64 (t x).left, .int .i64 (t x).right, .bool (t x).miss, .bool p2, .slice a2 n2 c2, .slice b2 m2 d2, .bool p3, .slice a3 n3 c3, .slice b3 m3 d3], .slice ar nr cr] w' fun e w'' => e = .returned (.int .i64 (nxt (t x) r : Int)) ∧ Below w'.heap.size w' w'') := fun w' h1 h2 => by
      have := child_at (t x) r _ nr p1 p2 p3 a1 b1 a2 b2 a3 b3 n1 c1 m1 d1 n2 c2 m2 d2 n3 c3 m3 d3 L w' h1 h2 HF (by omega) (by omega) hL (by omega)
      rw [hlf] at this
      exact this
     rw [hlf] at NN
     clear hlf HNM HF HWL
     obtain ⟨N_0, N_1, N_2, N_3, N_4, N_5, N_6, N_7, N_8, N_9, N_10, N_11, N_12, N_13⟩ := NN
     go_wp2_with fail
     refine (HCH.out _ r1 hrw).mono ?_
     rintro e w2 ⟨rfl, b9⟩
     replace VA := VA.below b9
     replace BB := BB.trans (b9.mono BB.size)
     clear N_0 N_1 N_2 N_3 N_4 N_5 N_6 N_7 N_8 N_9 N_10 N_11 N_12 N_13 HCH hrw r1 r2 r3 i1 i2 i3 b9
     generalize nxt (t x) r = y at *
     go_wp2
     go_roundw
     case rel => exact ⟨y, rfl, hnx, HW2, VA, BB⟩
     case measure =>
      have h1 := HLV2.out
      have h2 := HLX.out
      simp [intOf]
      omega
    ·have HV : Hid (leafV T N r i = (t x).val) := by
      show leafV _ _ _ _ = _
      rw [HLV.out, ← HWL.out, wlast_leaf hlf]
     rw [hlf] at NN
     have ht := HT0.out.below BB
     clear hlf HWL r1 r3 i1 i2 i3
     obtain ⟨N_0, N_1, N_2, N_3, N_4, N_5, N_6, N_7, N_8, N_9, N_10, N_11, N_12, N_13⟩ := NN
     go_wp2_with fail
     refine (qclean_at _ (t x).val L _ r2 hL (by omega) ht).mono ?_
     rintro e w3 ⟨u, rfl, hq, b9⟩
     replace VA := VA.below b9
     replace BB := BB.trans (b9.mono BB.size)
     obtain ⟨p5, a5, n5, c5, b5, m5, d5, rfl⟩ := hq.open
     rw [← HV.out] at hq
     clear N_0 N_1 N_2 N_3 N_4 N_5 N_6 N_7 N_8 N_9 N_10 N_11 N_12 N_13 r2 ht b9 HV
     obtain ⟨u0, u1, u2, x0, x1, x2, y0, y1, y2, VA2⟩ := VA.put hlt hq
     have BB2 : Below w.heap.size w (((w3.setCell ⟨G, i * 3, none⟩ (.bool p5)).setCell ⟨G, i * 3 + 1, none⟩ (.slice a5 n5 c5)).setCell ⟨G, i * 3 + 2, none⟩ (.slice b5 m5 d5)) := ((BB.setCell hGB _).setCell hGB _).setCell hGB _
     go_wp2
     go_roundw
     case rel => exact ⟨i + 1, by omega, by go_num, VA2, BB2⟩
     case measure => simp [intOf]; omega
  ·obtain rfl : i = k := by omega
   have g1 : ¬ (i : Int) < (i : Int) := by omega
   go_wp2
   go_ret
   exact ⟨_, rfl, VA.row (by omega), BB⟩

set_option maxRecDepth 100000 in
set_option maxHeartbeats 4000000 in
theorem rpredict_yes (F : Int) (vm vr : Value) (k nr : Nat) (N : Nat → Nat) (T : Nat → Nat → Nd) (r : Nat → Cl) (L : Nat) (w : World) (hM : MRow w vm k N T L) (hR : CRow w vr nr r L) (hT : Tab w) (hL : 1 ≤ L) (hLM : L ≤ 30000) (hw : whyI F k N T nr = 0) (hk : k ≤ 1000) (hm : ∀ i, i < k → MayT (nr : Int) (T i) (N i)) (hMX : k * (L + 1) + L ≤ 100000) :
  Calls Tryz.prog 15 #[.agg #[.int .i64 F, vm], vr] w fun e w' => ∃ x, e = .returned (.tuple #[x, .int .i64 0]) ∧ RepQ w' x (sumq (leafV T N r) k) ∧ Below w.heap.size w w' := by
 obtain ⟨ao, c, rfl, hnc, hc63⟩ := hM.open
 obtain ⟨ar, cr, rfl, hrc, hr63⟩ := hR.open
 obtain ⟨W0, hW0, hS0, hL0, VM⟩ := V2.lay w 27 (.int .i64 F) (.slice ao k c)
 have BB : Below w.heap.size w W0 := hL0
 obtain ⟨W1, hW1, hS1, hL1, VR⟩ := V3.lay W0 44 (.bool false) (.slice none 0 0) (.slice none 0 0)
 rw [hS0] at VR
 replace VM := VM.below hL1
 replace BB := BB.trans (hL1.mono BB.size)
 have hM1 := (hM.below hL0).below hL1
 have hR1 := (hR.below hL0).below hL1
 have hT1 := (hT.below hL0).below hL1
 clear hL0 hL1
 go_enter Tryz.func15, Tryz.ntmps15
 obtain ⟨VM_0, VM_1, VM_2, VM_3⟩ := id VM
 rw [hW1, hW0] at VM_0 VM_1 VM_2 VM_3
 go_wp2_with fail
 clear VM_0 VM_1 VM_2 VM_3
 rw [← hW0, ← hW1]
 clear hW0 hW1 hS0 hS1
 refine (rfits_at F _ _ k nr N T r L _ hM1 hR1 hT1 hL hLM).mono ?_
 rintro e w1 ⟨rfl, b1⟩
 replace VM := VM.below b1
 replace VR := VR.below b1
 replace hM1 := hM1.below b1
 replace hR1 := hR1.below b1
 replace hT1 := hT1.below b1
 replace BB := BB.trans (b1.mono BB.size)
 clear b1
 obtain ⟨VM_0, VM_1, VM_2, VM_3⟩ := id VM
 rw [hw]
 go_wp2_with fail
 clear VM_0 VM_1 VM_2 VM_3
 refine (rvalues_at F _ _ k nr N T r L _ hM1 hR1 hT1 hL hLM hk hm).mono ?_
 rintro e w2 ⟨u, rfl, hF, b2⟩
 replace VM := VM.below b2
 replace VR := VR.below b2
 replace hT1 := hT1.below b2
 replace BB := BB.trans (b2.mono BB.size)
 clear b2
 have hq := hF.q L (leafV_sz hM hL hm r)
 obtain ⟨au, cu, rfl⟩ := hF.open
 go_wp2_with fail
 refine (qsum_any L (k * (L + 1) + L) hL (by omega) hMX k _ _ _ hq hT1 (by omega)).mono ?_
 rintro e w3 ⟨s, rfl, hs, b3⟩
 replace VR := VR.below b3
 replace BB := BB.trans (b3.mono BB.size)
 clear b3
 obtain ⟨p5, a5, n5, c5, b5, m5, d5, rfl⟩ := hs.open
 have hKp := VR.keepJ (.bool p5) (.slice a5 n5 c5) (.slice b5 m5 d5)
 have hs_n := hs.keep hKp
 have BB_n := below_store3 (R := w.heap.size + 1) BB (by omega) (.bool p5) (.slice a5 n5 c5) (.slice b5 m5 d5)
 obtain ⟨z1, z2, z3, z4, z5, z6⟩ := id VR
 clear hKp
 go_wp2
 (try simp only [Exit.inBlock, Exit.then])
 refine bodyPost_ret (v := .tuple #[.agg #[.bool p5, .slice a5 n5 c5, .slice b5 m5 d5], .int .i64 0]) (by simp [results, go_sem, z1, z2, z3]) rfl ?_
 exact ⟨_, rfl, hs_n, BB_n⟩



structure Cel10 (w : World) (b o : Nat) (x : Value) : Prop where
 cell : w.cell? ⟨b, o, none⟩ = some x
theorem Cel10.lt {w : World} {b o : Nat} {x : Value} (h : Cel10 w b o x) : b < w.heap.size := World.block_lt_of_cell? _ _ h.cell
theorem Cel10.below {w w' : World} {b o : Nat} {x : Value} (h : Cel10 w b o x) (hb : Below w.heap.size w w') : Cel10 w' b o x := ⟨(hb.cell (p := ⟨b, o, none⟩) h.lt).trans h.cell⟩
theorem Cel10.from {B : Nat} {w w' : World} {b o : Nat} {x : Value} (h : w.cell? ⟨b, o, none⟩ = some x) (hb : Below w.heap.size w w') : Cel10 w' b o x := ⟨(hb.cell (p := ⟨b, o, none⟩) (World.block_lt_of_cell? _ _ h)).trans h⟩
theorem Cel10.other3 {w : World} {b o R : Nat} {x : Value} (h : Cel10 w b o x) (hne : b ≠ R) (u0 u1 u2 : Value) : Cel10 (((w.setCell ⟨R, 0, none⟩ u0).setCell ⟨R, 1, none⟩ u1).setCell ⟨R, 2, none⟩ u2) b o x :=
 ⟨by rw [World.cell?_setCell_other _ _ _ _ (fun e => by injection e; omega), World.cell?_setCell_other _ _ _ _ (fun e => by injection e; omega), World.cell?_setCell_other _ _ _ _ (fun e => by injection e; omega)]; exact h.cell⟩
end Go.Proofs.YtnnnkajomljdgaaGreatDoor

namespace Go.Proofs.YtnnnkajomljdgaaGreatDoor
open Go.ChangeShapes Go.WideShapes Go.ChangeAt Go.RowKit
set_option linter.unusedVariables false
set_option linter.unusedSimpArgs false

def NodeV (w : World) (v : Value) (d : Nd) (K : Nat) : Prop := ∃ x0 x1 x2 x3 x4 x5 x6 x7 x8 x9 x10 x11 x12 x13, v = .agg #[x0, x1, x2, x3, x4, x5, x6, x7, x8, x9, x10, x11, x12, x13] ∧ NodeRaw w (fun j => [x0, x1, x2, x3, x4, x5, x6, x7, x8, x9, x10, x11, x12, x13].getD j undef) d K
theorem NodeV.open {w : World} {v : Value} {d : Nd} {K : Nat} (h : NodeV w v d K) : ∃ p1 a1 n1 c1 b1 m1 d1 p2 a2 n2 c2 b2 m2 d2 p3 a3 n3 c3 b3 m3 d3, v = .agg #[.bool d.leaf, .int .i64 d.feat, .bool p1, .slice a1 n1 c1, .slice b1 m1 d1, .int .i64 d.left, .int .i64 d.right, .bool d.miss, .bool p2, .slice a2 n2 c2, .slice b2 m2 d2, .bool p3, .slice a3 n3 c3, .slice b3 m3 d3] ∧ NodeRaw w (fun j => [.bool d.leaf, .int .i64 d.feat, .bool p1, .slice a1 n1 c1, .slice b1 m1 d1, .int .i64 d.left, .int .i64 d.right, .bool d.miss, .bool p2, .slice a2 n2 c2, .slice b2 m2 d2, .bool p3, .slice a3 n3 c3, .slice b3 m3 d3].getD j undef) d K := by
 obtain ⟨x0, x1, x2, x3, x4, x5, x6, x7, x8, x9, x10, x11, x12, x13, rfl, hN⟩ := h
 obtain ⟨e0, e1, ⟨p1, a1, n1, c1, b1, m1, d1, f1, g1, e2, e3, e4, s1⟩, e5, e6, e7, ⟨p2, a2, n2, c2, b2, m2, d2, f2, g2, e8, e9, e10, s2⟩, ⟨p3, a3, n3, c3, b3, m3, d3, f3, g3, e11, e12, e13, s3⟩, i1, i2, i3⟩ := id hN
 have e0 : x0 = .bool d.leaf := e0
 have e1 : x1 = .int .i64 d.feat := e1
 have e2 : x2 = .bool p1 := e2
 have e3 : x3 = .slice a1 n1 c1 := e3
 have e4 : x4 = .slice b1 m1 d1 := e4
 have e5 : x5 = .int .i64 d.left := e5
 have e6 : x6 = .int .i64 d.right := e6
 have e7 : x7 = .bool d.miss := e7
 have e8 : x8 = .bool p2 := e8
 have e9 : x9 = .slice a2 n2 c2 := e9
 have e10 : x10 = .slice b2 m2 d2 := e10
 have e11 : x11 = .bool p3 := e11
 have e12 : x12 = .slice a3 n3 c3 := e12
 have e13 : x13 = .slice b3 m3 d3 := e13
 subst e0 e1 e2 e3 e4 e5 e6 e7 e8 e9 e10 e11 e12 e13
 exact ⟨p1, a1, n1, c1, b1, m1, d1, p2, a2, n2, c2, b2, m2, d2, p3, a3, n3, c3, b3, m3, d3, rfl, hN⟩
theorem V14.put {w : World} {R : Nat} {x0 x1 x2 x3 x4 x5 x6 x7 x8 x9 x10 x11 x12 x13 : Value} (h : V14 w R x0 x1 x2 x3 x4 x5 x6 x7 x8 x9 x10 x11 x12 x13) (u0 u1 u2 u3 u4 u5 u6 u7 u8 u9 u10 u11 u12 u13 : Value) : V14 ((((((((((((((w.setCell ⟨R, 0, none⟩ u0).setCell ⟨R, 1, none⟩ u1).setCell ⟨R, 2, none⟩ u2).setCell ⟨R, 3, none⟩ u3).setCell ⟨R, 4, none⟩ u4).setCell ⟨R, 5, none⟩ u5).setCell ⟨R, 6, none⟩ u6).setCell ⟨R, 7, none⟩ u7).setCell ⟨R, 8, none⟩ u8).setCell ⟨R, 9, none⟩ u9).setCell ⟨R, 10, none⟩ u10).setCell ⟨R, 11, none⟩ u11).setCell ⟨R, 12, none⟩ u12).setCell ⟨R, 13, none⟩ u13) R u0 u1 u2 u3 u4 u5 u6 u7 u8 u9 u10 u11 u12 u13 := by
 obtain ⟨c0, c1, c2, c3, c4, c5, c6, c7, c8, c9, c10, c11, c12, c13⟩ := h
 refine ⟨?_, ?_, ?_, ?_, ?_, ?_, ?_, ?_, ?_, ?_, ?_, ?_, ?_, ?_⟩
 ·exact (cell_set_by (j := 13) (cell_set_by (j := 12) (cell_set_by (j := 11) (cell_set_by (j := 10) (cell_set_by (j := 9) (cell_set_by (j := 8) (cell_set_by (j := 7) (cell_set_by (j := 6) (cell_set_by (j := 5) (cell_set_by (j := 4) (cell_set_by (j := 3) (cell_set_by (j := 2) (cell_set_by (j := 1) (cell_set_at c0) (by omega)) (by omega)) (by omega)) (by omega)) (by omega)) (by omega)) (by omega)) (by omega)) (by omega)) (by omega)) (by omega)) (by omega)) (by omega))
 ·exact (cell_set_by (j := 13) (cell_set_by (j := 12) (cell_set_by (j := 11) (cell_set_by (j := 10) (cell_set_by (j := 9) (cell_set_by (j := 8) (cell_set_by (j := 7) (cell_set_by (j := 6) (cell_set_by (j := 5) (cell_set_by (j := 4) (cell_set_by (j := 3) (cell_set_by (j := 2) (cell_set_at (cell_set_by (j := 0) c1 (by omega))) (by omega)) (by omega)) (by omega)) (by omega)) (by omega)) (by omega)) (by omega)) (by omega)) (by omega)) (by omega)) (by omega)) (by omega))
 ·exact (cell_set_by (j := 13) (cell_set_by (j := 12) (cell_set_by (j := 11) (cell_set_by (j := 10) (cell_set_by (j := 9) (cell_set_by (j := 8) (cell_set_by (j := 7) (cell_set_by (j := 6) (cell_set_by (j := 5) (cell_set_by (j := 4) (cell_set_by (j := 3) (cell_set_at (cell_set_by (j := 1) (cell_set_by (j := 0) c2 (by omega)) (by omega))) (by omega)) (by omega)) (by omega)) (by omega)) (by omega)) (by omega)) (by omega)) (by omega)) (by omega)) (by omega)) (by omega))
 ·exact (cell_set_by (j := 13) (cell_set_by (j := 12) (cell_set_by (j := 11) (cell_set_by (j := 10) (cell_set_by (j := 9) (cell_set_by (j := 8) (cell_set_by (j := 7) (cell_set_by (j := 6) (cell_set_by (j := 5) (cell_set_by (j := 4) (cell_set_at (cell_set_by (j := 2) (cell_set_by (j := 1) (cell_set_by (j := 0) c3 (by omega)) (by omega)) (by omega))) (by omega)) (by omega)) (by omega)) (by omega)) (by omega)) (by omega)) (by omega)) (by omega)) (by omega)) (by omega))
 ·exact (cell_set_by (j := 13) (cell_set_by (j := 12) (cell_set_by (j := 11) (cell_set_by (j := 10) (cell_set_by (j := 9) (cell_set_by (j := 8) (cell_set_by (j := 7) (cell_set_by (j := 6) (cell_set_by (j := 5) (cell_set_at (cell_set_by (j := 3) (cell_set_by (j := 2) (cell_set_by (j := 1) (cell_set_by (j := 0) c4 (by omega)) (by omega)) (by omega)) (by omega))) (by omega)) (by omega)) (by omega)) (by omega)) (by omega)) (by omega)) (by omega)) (by omega)) (by omega))
 ·exact (cell_set_by (j := 13) (cell_set_by (j := 12) (cell_set_by (j := 11) (cell_set_by (j := 10) (cell_set_by (j := 9) (cell_set_by (j := 8) (cell_set_by (j := 7) (cell_set_by (j := 6) (cell_set_at (cell_set_by (j := 4) (cell_set_by (j := 3) (cell_set_by (j := 2) (cell_set_by (j := 1) (cell_set_by (j := 0) c5 (by omega)) (by omega)) (by omega)) (by omega)) (by omega))) (by omega)) (by omega)) (by omega)) (by omega)) (by omega)) (by omega)) (by omega)) (by omega))
 ·exact (cell_set_by (j := 13) (cell_set_by (j := 12) (cell_set_by (j := 11) (cell_set_by (j := 10) (cell_set_by (j := 9) (cell_set_by (j := 8) (cell_set_by (j := 7) (cell_set_at (cell_set_by (j := 5) (cell_set_by (j := 4) (cell_set_by (j := 3) (cell_set_by (j := 2) (cell_set_by (j := 1) (cell_set_by (j := 0) c6 (by omega)) (by omega)) (by omega)) (by omega)) (by omega)) (by omega))) (by omega)) (by omega)) (by omega)) (by omega)) (by omega)) (by omega)) (by omega))
 ·exact (cell_set_by (j := 13) (cell_set_by (j := 12) (cell_set_by (j := 11) (cell_set_by (j := 10) (cell_set_by (j := 9) (cell_set_by (j := 8) (cell_set_at (cell_set_by (j := 6) (cell_set_by (j := 5) (cell_set_by (j := 4) (cell_set_by (j := 3) (cell_set_by (j := 2) (cell_set_by (j := 1) (cell_set_by (j := 0) c7 (by omega)) (by omega)) (by omega)) (by omega)) (by omega)) (by omega)) (by omega))) (by omega)) (by omega)) (by omega)) (by omega)) (by omega)) (by omega))
 ·exact (cell_set_by (j := 13) (cell_set_by (j := 12) (cell_set_by (j := 11) (cell_set_by (j := 10) (cell_set_by (j := 9) (cell_set_at (cell_set_by (j := 7) (cell_set_by (j := 6) (cell_set_by (j := 5) (cell_set_by (j := 4) (cell_set_by (j := 3) (cell_set_by (j := 2) (cell_set_by (j := 1) (cell_set_by (j := 0) c8 (by omega)) (by omega)) (by omega)) (by omega)) (by omega)) (by omega)) (by omega)) (by omega))) (by omega)) (by omega)) (by omega)) (by omega)) (by omega))
 ·exact (cell_set_by (j := 13) (cell_set_by (j := 12) (cell_set_by (j := 11) (cell_set_by (j := 10) (cell_set_at (cell_set_by (j := 8) (cell_set_by (j := 7) (cell_set_by (j := 6) (cell_set_by (j := 5) (cell_set_by (j := 4) (cell_set_by (j := 3) (cell_set_by (j := 2) (cell_set_by (j := 1) (cell_set_by (j := 0) c9 (by omega)) (by omega)) (by omega)) (by omega)) (by omega)) (by omega)) (by omega)) (by omega)) (by omega))) (by omega)) (by omega)) (by omega)) (by omega))
 ·exact (cell_set_by (j := 13) (cell_set_by (j := 12) (cell_set_by (j := 11) (cell_set_at (cell_set_by (j := 9) (cell_set_by (j := 8) (cell_set_by (j := 7) (cell_set_by (j := 6) (cell_set_by (j := 5) (cell_set_by (j := 4) (cell_set_by (j := 3) (cell_set_by (j := 2) (cell_set_by (j := 1) (cell_set_by (j := 0) c10 (by omega)) (by omega)) (by omega)) (by omega)) (by omega)) (by omega)) (by omega)) (by omega)) (by omega)) (by omega))) (by omega)) (by omega)) (by omega))
 ·exact (cell_set_by (j := 13) (cell_set_by (j := 12) (cell_set_at (cell_set_by (j := 10) (cell_set_by (j := 9) (cell_set_by (j := 8) (cell_set_by (j := 7) (cell_set_by (j := 6) (cell_set_by (j := 5) (cell_set_by (j := 4) (cell_set_by (j := 3) (cell_set_by (j := 2) (cell_set_by (j := 1) (cell_set_by (j := 0) c11 (by omega)) (by omega)) (by omega)) (by omega)) (by omega)) (by omega)) (by omega)) (by omega)) (by omega)) (by omega)) (by omega))) (by omega)) (by omega))
 ·exact (cell_set_by (j := 13) (cell_set_at (cell_set_by (j := 11) (cell_set_by (j := 10) (cell_set_by (j := 9) (cell_set_by (j := 8) (cell_set_by (j := 7) (cell_set_by (j := 6) (cell_set_by (j := 5) (cell_set_by (j := 4) (cell_set_by (j := 3) (cell_set_by (j := 2) (cell_set_by (j := 1) (cell_set_by (j := 0) c12 (by omega)) (by omega)) (by omega)) (by omega)) (by omega)) (by omega)) (by omega)) (by omega)) (by omega)) (by omega)) (by omega)) (by omega))) (by omega))
 ·exact (cell_set_at (cell_set_by (j := 12) (cell_set_by (j := 11) (cell_set_by (j := 10) (cell_set_by (j := 9) (cell_set_by (j := 8) (cell_set_by (j := 7) (cell_set_by (j := 6) (cell_set_by (j := 5) (cell_set_by (j := 4) (cell_set_by (j := 3) (cell_set_by (j := 2) (cell_set_by (j := 1) (cell_set_by (j := 0) c13 (by omega)) (by omega)) (by omega)) (by omega)) (by omega)) (by omega)) (by omega)) (by omega)) (by omega)) (by omega)) (by omega)) (by omega)) (by omega)))
end Go.Proofs.YtnnnkajomljdgaaGreatDoor

namespace Go.Proofs.YtnnnkajomljdgaaGreatDoor
open Go.RowKit
set_option linter.unusedVariables false
set_option linter.unusedSimpArgs false

/-- A block's cells, told at once. -/
structure Blk10 (w : World) (g : Nat) (vs : Array Value) (t : TypeId) : Prop where
 heap : w.heap[g]? = some (.cells vs t (0, 0))
theorem Blk10.lt {w : World} {g : Nat} {vs : Array Value} {t : TypeId} (h : Blk10 w g vs t) : g < w.heap.size := by
 by_cases e : g < w.heap.size
 ·exact e
 ·have := h.heap
  rw [Array.getElem?_eq_none (by omega)] at this
  cases this
theorem Blk10.below {w w' : World} {g : Nat} {vs : Array Value} {t : TypeId} (h : Blk10 w g vs t) (hb : Below w.heap.size w w') : Blk10 w' g vs t := ⟨(hb.block g h.lt).trans h.heap⟩
theorem Blk10.new (w : World) (vs : Array Value) (t : TypeId) : Blk10 (w.alloc (.cells vs t)) w.heap.size vs t := ⟨heap_alloc_new w _⟩
theorem Blk10.cell {w : World} {g : Nat} {vs : Array Value} {t : TypeId} (h : Blk10 w g vs t) (j : Nat) : w.cell? ⟨g, j, none⟩ = vs[j]? := cell_of_row w g j vs t _ h.heap
theorem Blk10.keep {w : World} {g : Nat} {vs : Array Value} {t : TypeId} (h : Blk10 w g vs t) (hn : ∀ v ∈ vs.toList, ¬ IsLimb v) (us : Array Value) : KeepQ IsLimb w (w.setRow g us) := fun b o v hv hc => by
 by_cases e : b = g
 ·subst e
  rw [h.cell] at hc
  exact absurd hv (hn v (Array.mem_toList_iff.2 (Array.mem_of_getElem? hc)))
 ·exact (World.cell?_of_block (w := w) (setRow_other w g b _ e)).trans hc
theorem Blk10.other {w : World} {g g' : Nat} {vs us : Array Value} {t : TypeId} (h : Blk10 w g vs t) (hne : g ≠ g') : Blk10 (w.setRow g' us) g vs t := ⟨(setRow_other w g' g _ hne).trans h.heap⟩
theorem Blk10.v4 {w : World} {g : Nat} {x0 x1 x2 x3 : Value} {t : TypeId} (h : Blk10 w g #[x0, x1, x2, x3] t) : w.cell? ⟨g, 0, none⟩ = some x0 ∧ w.cell? ⟨g, 1, none⟩ = some x1 ∧ w.cell? ⟨g, 2, none⟩ = some x2 ∧ w.cell? ⟨g, 3, none⟩ = some x3 :=
 ⟨h.cell 0, h.cell 1, h.cell 2, h.cell 3⟩



end Go.Proofs.YtnnnkajomljdgaaGreatDoor
