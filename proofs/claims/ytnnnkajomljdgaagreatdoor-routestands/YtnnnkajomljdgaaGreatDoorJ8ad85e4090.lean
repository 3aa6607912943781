/-
  Texts of mine, joined: what lies beneath the statement.
-/
import Derived.Test.YtnnnkajomljdgaaGreatDoorJ88b258d9b9
import Derived.Test.YtnnnkajomljdgaaGreatDoorJc7911dde7a
import Derived.Test.YtnnnkajomljdgaaGreatDoorJ75c78792c5
import Derived.Test.YtnnnkajomljdgaaGreatDoorJ45044c90c7
import Derived.Test.YtnnnkajomljdgaaGreatDoorJ9d5e76c52e
import Derived.Laws.CopyOwn
import Derived.Test.YtnnnkajomljdgaaGreatDoorJa56a89cb74
namespace Go.Proofs.YtnnnkajomljdgaaGreatDoor
open Go.RowKit
set_option linter.unusedVariables false
set_option linter.unusedSimpArgs false

/-- A place: all ahead are less, all from it on are not. -/
structure Place (q : Nat → Rat) (n : Nat) (x : Rat) (i : Nat) : Prop where
 le : i ≤ n
 less : ∀ k, k < i → q k < x
 rest : ∀ k, i ≤ k → k < n → x ≤ q k
theorem E3.cells10 {w : World} {b o : Nat} {x y z : Value} (h : E3 w b o x y z) : w.cell? ⟨b, o, none⟩ = some x ∧ w.cell? ⟨b, o + 1, none⟩ = some y ∧ w.cell? ⟨b, o + 2, none⟩ = some z := h


set_option maxRecDepth 100000 in
set_option maxHeartbeats 8000000 in
theorem search10_at (v xv : Value) (n : Nat) (q : Nat → Rat) (x : Rat) (L : Nat) (w : World) (hv : FRow w v n q) (hq : ∀ i, i < n → qsz (q i) ≤ L) (hx : RatAt w xv x L) (hL : 1 ≤ L) (hM : L ≤ 100000) (hn : n ≤ 1000000) (hs : ∀ i j, i < j → j < n → q i < q j) :
  Calls Tryz.prog 94 #[v, xv, .func (.func 31) #[] #[]] w fun e w' => ∃ i, Place q n x i ∧ e = .returned (.tuple #[.int .i64 (i : Int), .bool (decide (i < n ∧ q i = x))]) ∧ Below w.heap.size w w' := by
 obtain ⟨av, cv, rfl⟩ := hv.open
 obtain ⟨px, ax, nx, cx, yx, mx, dx, rfl⟩ := hx.open
 have HV0 : Hid (FRow w (.slice av n cv) n q) := hv
 have HX0 : Hid (RatAt w (.agg #[.bool px, .slice ax nx cx, .slice yx mx dx]) x L) := hx
 have HS : Hid (∀ i j, i < j → j < n → q i < q j) := hs
 have HQ : Hid (∀ i, i < n → qsz (q i) ≤ L) := hq
 clear hv hx hs hq
 have BB : Below w.heap.size w w := Below.refl _ _
 obtain ⟨Wb0, hW0, hS0, hL0, VX⟩ := V3.lay w 44 (.bool px) (.slice ax nx cx) (.slice yx mx dx)
 replace BB := BB.trans (hL0.mono BB.size)
 clear hL0
 go_enter Tryz.func94, Tryz.ntmps94
 go_wp2_with fail
 rw [← hW0]
 clear hW0 hS0
 go_wp2
 go_loopw [9, 10] (fun vi vj wr => ∃ i j : Nat, i ≤ j ∧ j ≤ n ∧ vi = .int .i64 (i : Int) ∧ vj = .int .i64 (j : Int) ∧ Hid (∀ k, k < i → q k < x) ∧ Hid (∀ k, j ≤ k → k < n → x ≤ q k) ∧ V3 wr w.heap.size (.bool px) (.slice ax nx cx) (.slice yx mx dx) ∧ Below w.heap.size w wr) (fun vi vj _ => (intOf vj - intOf vi).toNat)
 case atStart => exact ⟨0, n, by omega, by omega, rfl, rfl, (fun k hk => by omega), (fun k h1 h2 => by omega), VX, BB⟩
 case round =>
  clear VX BB
  obtain ⟨i, j, hij, hjn, rfl, rfl, HL1, HR1, VX, BB⟩ := hrel
  by_cases hlt : i < j
  ·have g1 : (i : Int) < (j : Int) := by omega
   obtain ⟨h, hh⟩ : ∃ h, h = (i + j) / 2 := ⟨_, rfl⟩
   have h1 : i ≤ h := by omega
   have h2 : h < j := by omega
   have h3 : h < n := by omega
   have f0 : IntKind.i64.wrap ((i : Int) + (j : Int)) = (i : Int) + (j : Int) := by rw [IntKind.wrap_i64]; omega
   have f1 : IntKind.u64.wrap ((i : Int) + (j : Int)) = (i : Int) + (j : Int) := by rw [IntKind.wrap_u64]; omega
   have f2 : ((i : Int) + (j : Int)) / 2 = (h : Int) := by omega
   have f2b : ((i : Int) + (j : Int)) >>> 1 = (h : Int) := by rw [Int.shiftRight_eq_div_pow]; omega
   have f3 : IntKind.u64.wrap (h : Int) = (h : Int) := by rw [IntKind.wrap_u64]; omega
   have f4 : IntKind.i64.wrap (h : Int) = (h : Int) := by rw [IntKind.wrap_i64]; omega
   have f5 : (0 : Int) ≤ (h : Int) := by omega
   have f6 : (h : Int) < (n : Int) := by omega
   have f7 : IntKind.i64.wrap ((h : Int) + 1) = (h : Int) + 1 := by rw [IntKind.wrap_i64]; omega
   obtain ⟨b4, o4, c4, p4, a4, m4, d4, y4, k4, e4, hv4, hc4, X4, r4⟩ := (HV0.out.below BB).at h h3
   cases hv4
   have rx := HX0.out.below BB
   have r4a := r4.at L (HQ.out h h3)
   clear r4
   clear hh
   go_wp2
   have hDr : Below wr.heap.size wr wr.drew := (Below.refl _ _).drew
   replace X4 := X4.below hDr
   replace rx := rx.below hDr
   replace r4a := r4a.below hDr
   replace VX := VX.below hDr
   replace BB := BB.trans (hDr.mono BB.size)
   clear hDr
   refine wp_region_held_drew (S := (fun w' => w'.cell? ⟨w.heap.size, 0, none⟩ = some (.bool px) ∧ w'.cell? ⟨w.heap.size, 1, none⟩ = some (.slice ax nx cx) ∧ w'.cell? ⟨w.heap.size, 2, none⟩ = some (.slice yx mx dx) ∧ w'.cell? ⟨b4, o4 + h * 3, none⟩ = some (.bool p4) ∧ w'.cell? ⟨b4, o4 + h * 3 + 1, none⟩ = some (.slice a4 m4 d4) ∧ w'.cell? ⟨b4, o4 + h * 3 + 2, none⟩ = some (.slice y4 k4 e4))) (by kernel_rfl) ?_ (fun hHeld => ?_)
   ·exact ⟨VX.1, VX.2.1, VX.2.2.1, X4.cells10.1, X4.cells10.2.1, X4.cells10.2.2⟩
   generalize wr.drew = W21 at *
   refine wpAnyH_take (i := 0) (v := ?_) (by simp only [xL1, xL2, xL3]; rfl) (by kernel_rfl) (by kernel_rfl) (by kernel_rfl) (by exact fun _ _ _ h => h) (Or.inl ⟨by rfl, ?_⟩) (by assumption) ?_
   rotate_left
   ·(intro w hSw; (try dsimp only at hSw); go_simp; (try with_reducible rfl))
   (try simp only [Act.put, xL4, xL5, xL6])
   refine wpAnyH_take (i := 1) (v := ?_) (by simp only [xL1, xL2, xL3]; rfl) (by kernel_rfl) (by kernel_rfl) (by kernel_rfl) (by exact fun _ _ _ h => h) (Or.inl ⟨by rfl, ?_⟩) (by assumption) ?_
   rotate_left
   ·(intro w hSw; (try dsimp only at hSw); go_simp; (try with_reducible rfl))
   (try simp only [Act.put, xL4, xL5, xL6])
   refine wpAnyH_take (i := 2) (v := ?_) (by simp only [xL1, xL2, xL3]; rfl) (by kernel_rfl) (by kernel_rfl) (by kernel_rfl) (by exact fun _ _ _ h => h) (Or.inl ⟨by rfl, ?_⟩) (by assumption) ?_
   rotate_left
   ·(intro w hSw; (try dsimp only at hSw); go_simp; (try with_reducible rfl))
   (try simp only [Act.put, xL4, xL5, xL6])
   refine wpAnyH_take (i := 3) (v := ?_) (by simp only [xL1, xL2, xL3]; rfl) (by kernel_rfl) (by kernel_rfl) (by kernel_rfl) (by exact fun _ _ _ h => h) (Or.inl ⟨by rfl, ?_⟩) (by assumption) ?_
   rotate_left
   ·(intro w hSw; (try dsimp only at hSw); go_simp; (try with_reducible rfl))
   (try simp only [Act.put, xL4, xL5, xL6])
   refine wpAnyH_take (i := 4) (v := ?_) (by simp only [xL1, xL2, xL3]; rfl) (by kernel_rfl) (by kernel_rfl) (by kernel_rfl) (by exact fun _ _ _ h => h) (Or.inl ⟨by rfl, ?_⟩) (by assumption) ?_
   rotate_left
   ·(intro w hSw; (try dsimp only at hSw); go_simp; (try with_reducible rfl))
   (try simp only [Act.put, xL4, xL5, xL6])
   refine wpAnyH_take (i := 5) (v := ?_) (by simp only [xL1, xL2, xL3]; rfl) (by kernel_rfl) (by kernel_rfl) (by kernel_rfl) (by exact fun _ _ _ h => h) (Or.inl ⟨by rfl, ?_⟩) (by assumption) ?_
   rotate_left
   ·(intro w hSw; (try dsimp only at hSw); go_simp; (try with_reducible rfl))
   (try simp only [Act.put, xL4, xL5, xL6])
   refine wpAnyH_ready (rs := [6]) (by kernel_rfl) (by simp) ?_
   refine AllReadyH.cons (by simp only [xL1, xL2, xL3]; rfl) (fun K hK => ?_) AllReadyH.nil
   go_simp
   refine (qcmp_at _ _ (q h) x L _ r4a rx hL hM).mono ?_
   rintro e w21 ⟨rfl, b21⟩
   have HC : Hid (decide (cmpQ (q h) x < 0) = decide (q h < x)) := cmpQ_lt10 _ _
   obtain ⟨cq, hcq⟩ : ∃ cq, cmpQ (q h) x = cq := ⟨_, rfl⟩
   rw [hcq] at HC ⊢
   clear hcq
   go_wp2_with fail
   replace X4 := X4.below b21
   replace rx := rx.below b21
   replace r4a := r4a.below b21
   replace VX := VX.below b21
   replace BB := BB.trans (b21.mono BB.size)
   clear b21
   refine hK.out _ _ ?_ (fun hH1 => ?_)
   ·exact ⟨VX.1, VX.2.1, VX.2.2.1, X4.cells10.1, X4.cells10.2.1, X4.cells10.2.2⟩
   clear hK K hHeld
   (try simp only [Act.put, xL4, xL5, xL6])
   refine wpAnyH_take (i := 7) (v := ?_) (by simp only [xL1, xL2, xL3]; rfl) (by kernel_rfl) (by kernel_rfl) (by kernel_rfl) (by exact fun _ _ _ h => h) (Or.inl ⟨by rfl, ?_⟩) (by assumption) ?_
   rotate_left
   ·(intro w hSw; (try dsimp only at hSw); go_simp; (try with_reducible rfl))
   (try simp only [Act.put, xL4, xL5, xL6])
   refine wpAnyH_done (by kernel_rfl) ?_ _
   clear hH1
   by_cases hc : cq < 0
   ·have HLT : q h < x := of_decide_eq_true (by rw [← HC.out]; exact decide_eq_true hc)
    have HL2 : Hid (∀ k, k < h + 1 → q k < x) := fun k hk => by
     by_cases e9 : k = h
     ·subst e9; exact HLT
     ·have := HS.out k h (by omega) h3
      grind
    have g2 : decide (cq < 0) = true := decide_eq_true hc
    clear HLT HC
    go_wp2
    go_roundw
    case rel => exact ⟨h + 1, j, by omega, hjn, by go_num, rfl, HL2, HR1, VX, BB⟩
    case measure => (simp [intOf] <;> omega)
   ·have HLT : ¬ q h < x := of_decide_eq_false (by rw [← HC.out]; exact decide_eq_false hc)
    have HR2 : Hid (∀ k, h ≤ k → k < n → x ≤ q k) := fun k hk hk2 => by
     by_cases e9 : k = h
     ·subst e9; grind
     ·have := HS.out h k (by omega) hk2
      grind
    have g2 : decide (cq < 0) = false := decide_eq_false hc
    clear HLT HC
    go_wp2
    go_roundw
    case rel => exact ⟨i, h, h1, by omega, rfl, rfl, HL1, HR2, VX, BB⟩
    case measure => (simp [intOf] <;> omega)
  ·obtain rfl : i = j := by omega
   have g1 : ¬ (i : Int) < (i : Int) := by omega
   have HP : Hid (Place q n x i) := ⟨hjn, HL1.out, HR1.out⟩
   by_cases hin : i < n
   ·have f5 : (0 : Int) ≤ (i : Int) := by omega
    have f6 : (i : Int) < (n : Int) := by omega
    obtain ⟨b4, o4, c4, p4, a4, m4, d4, y4, k4, e4, hv4, hc4, X4, r4⟩ := (HV0.out.below BB).at i hin
    cases hv4
    have rx := HX0.out.below BB
    have r4a := r4.at L (HQ.out i hin)
    clear r4
    go_wp2
    have hDr : Below wr.heap.size wr wr.drew := (Below.refl _ _).drew
    replace X4 := X4.below hDr
    replace rx := rx.below hDr
    replace r4a := r4a.below hDr
    replace VX := VX.below hDr
    replace BB := BB.trans (hDr.mono BB.size)
    clear hDr
    refine wp_region_held_drew (S := (fun w' => w'.cell? ⟨w.heap.size, 0, none⟩ = some (.bool px) ∧ w'.cell? ⟨w.heap.size, 1, none⟩ = some (.slice ax nx cx) ∧ w'.cell? ⟨w.heap.size, 2, none⟩ = some (.slice yx mx dx) ∧ w'.cell? ⟨b4, o4 + i * 3, none⟩ = some (.bool p4) ∧ w'.cell? ⟨b4, o4 + i * 3 + 1, none⟩ = some (.slice a4 m4 d4) ∧ w'.cell? ⟨b4, o4 + i * 3 + 2, none⟩ = some (.slice y4 k4 e4))) (by kernel_rfl) ?_ (fun hHeld => ?_)
    ·exact ⟨VX.1, VX.2.1, VX.2.2.1, X4.cells10.1, X4.cells10.2.1, X4.cells10.2.2⟩
    generalize wr.drew = W41 at *
    refine wpAnyH_take (i := 0) (v := ?_) (by simp only [xL1, xL2, xL3]; rfl) (by kernel_rfl) (by kernel_rfl) (by kernel_rfl) (by exact fun _ _ _ h => h) (Or.inl ⟨by rfl, ?_⟩) (by assumption) ?_
    rotate_left
    ·(intro w hSw; (try dsimp only at hSw); go_simp; (try with_reducible rfl))
    (try simp only [Act.put, xL4, xL5, xL6])
    refine wpAnyH_take (i := 1) (v := ?_) (by simp only [xL1, xL2, xL3]; rfl) (by kernel_rfl) (by kernel_rfl) (by kernel_rfl) (by exact fun _ _ _ h => h) (Or.inl ⟨by rfl, ?_⟩) (by assumption) ?_
    rotate_left
    ·(intro w hSw; (try dsimp only at hSw); go_simp; (try with_reducible rfl))
    (try simp only [Act.put, xL4, xL5, xL6])
    refine wpAnyH_take (i := 2) (v := ?_) (by simp only [xL1, xL2, xL3]; rfl) (by kernel_rfl) (by kernel_rfl) (by kernel_rfl) (by exact fun _ _ _ h => h) (Or.inl ⟨by rfl, ?_⟩) (by assumption) ?_
    rotate_left
    ·(intro w hSw; (try dsimp only at hSw); go_simp; (try with_reducible rfl))
    (try simp only [Act.put, xL4, xL5, xL6])
    refine wpAnyH_take (i := 3) (v := ?_) (by simp only [xL1, xL2, xL3]; rfl) (by kernel_rfl) (by kernel_rfl) (by kernel_rfl) (by exact fun _ _ _ h => h) (Or.inl ⟨by rfl, ?_⟩) (by assumption) ?_
    rotate_left
    ·(intro w hSw; (try dsimp only at hSw); go_simp; (try with_reducible rfl))
    (try simp only [Act.put, xL4, xL5, xL6])
    refine wpAnyH_take (i := 4) (v := ?_) (by simp only [xL1, xL2, xL3]; rfl) (by kernel_rfl) (by kernel_rfl) (by kernel_rfl) (by exact fun _ _ _ h => h) (Or.inl ⟨by rfl, ?_⟩) (by assumption) ?_
    rotate_left
    ·(intro w hSw; (try dsimp only at hSw); go_simp; (try with_reducible rfl))
    (try simp only [Act.put, xL4, xL5, xL6])
    refine wpAnyH_take (i := 5) (v := ?_) (by simp only [xL1, xL2, xL3]; rfl) (by kernel_rfl) (by kernel_rfl) (by kernel_rfl) (by exact fun _ _ _ h => h) (Or.inl ⟨by rfl, ?_⟩) (by assumption) ?_
    rotate_left
    ·(intro w hSw; (try dsimp only at hSw); go_simp; (try with_reducible rfl))
    (try simp only [Act.put, xL4, xL5, xL6])
    refine wpAnyH_take (i := 6) (v := ?_) (by simp only [xL1, xL2, xL3]; rfl) (by kernel_rfl) (by kernel_rfl) (by kernel_rfl) (by exact fun _ _ _ h => h) (Or.inl ⟨by rfl, ?_⟩) (by assumption) ?_
    rotate_left
    ·(intro w hSw; (try dsimp only at hSw); go_simp; (try with_reducible rfl))
    (try simp only [Act.put, xL4, xL5, xL6])
    refine wpAnyH_take (i := 7) (v := ?_) (by simp only [xL1, xL2, xL3]; rfl) (by kernel_rfl) (by kernel_rfl) (by kernel_rfl) (by exact fun _ _ _ h => h) (Or.inl ⟨by rfl, ?_⟩) (by assumption) ?_
    rotate_left
    ·(intro w hSw; (try dsimp only at hSw); go_simp; (try with_reducible rfl))
    (try simp only [Act.put, xL4, xL5, xL6])
    refine wpAnyH_take (i := 8) (v := ?_) (by simp only [xL1, xL2, xL3]; rfl) (by kernel_rfl) (by kernel_rfl) (by kernel_rfl) (by exact fun _ _ _ h => h) (Or.inl ⟨by rfl, ?_⟩) (by assumption) ?_
    rotate_left
    ·(intro w hSw; (try dsimp only at hSw); go_simp; (try with_reducible rfl))
    (try simp only [Act.put, xL4, xL5, xL6])
    refine wpAnyH_take (i := 9) (v := ?_) (by simp only [xL1, xL2, xL3]; rfl) (by kernel_rfl) (by kernel_rfl) (by kernel_rfl) (by exact fun _ _ _ h => h) (Or.inl ⟨by rfl, ?_⟩) (by assumption) ?_
    rotate_left
    ·(intro w hSw; (try dsimp only at hSw); go_simp; (try with_reducible rfl))
    (try simp only [Act.put, xL4, xL5, xL6])
    refine wpAnyH_take (i := 10) (v := ?_) (by simp only [xL1, xL2, xL3]; rfl) (by kernel_rfl) (by kernel_rfl) (by kernel_rfl) (by exact fun _ _ _ h => h) (Or.inl ⟨by rfl, ?_⟩) (by assumption) ?_
    rotate_left
    ·(intro w hSw; (try dsimp only at hSw); go_simp; (try with_reducible rfl))
    (try simp only [Act.put, xL4, xL5, xL6])
    refine wpAnyH_ready (rs := [11]) (by kernel_rfl) (by simp) ?_
    refine AllReadyH.cons (by simp only [xL1, xL2, xL3]; rfl) (fun K hK => ?_) AllReadyH.nil
    go_simp
    refine (qcmp_at _ _ (q i) x L _ r4a rx hL hM).mono ?_
    rintro e w41 ⟨rfl, b41⟩
    have HC : Hid (decide (cmpQ (q i) x = 0) = decide (q i = x)) := cmpQ_eq _ _
    obtain ⟨cq, hcq⟩ : ∃ cq, cmpQ (q i) x = cq := ⟨_, rfl⟩
    rw [hcq] at HC ⊢
    clear hcq
    go_wp2_with fail
    replace X4 := X4.below b41
    replace rx := rx.below b41
    replace r4a := r4a.below b41
    replace VX := VX.below b41
    replace BB := BB.trans (b41.mono BB.size)
    clear b41
    refine hK.out _ _ ?_ (fun hH1 => ?_)
    ·exact ⟨VX.1, VX.2.1, VX.2.2.1, X4.cells10.1, X4.cells10.2.1, X4.cells10.2.2⟩
    clear hK K hHeld
    (try simp only [Act.put, xL4, xL5, xL6])
    refine wpAnyH_take (i := 12) (v := ?_) (by simp only [xL1, xL2, xL3]; rfl) (by kernel_rfl) (by kernel_rfl) (by kernel_rfl) (by exact fun _ _ _ h => h) (Or.inl ⟨by rfl, ?_⟩) (by assumption) ?_
    rotate_left
    ·(intro w hSw; (try dsimp only at hSw); go_simp; (try with_reducible rfl))
    (try simp only [Act.put, xL4, xL5, xL6])
    refine wpAnyH_take (i := 13) (v := ?_) (by simp only [xL1, xL2, xL3]; rfl) (by kernel_rfl) (by kernel_rfl) (by kernel_rfl) (by exact fun _ _ _ h => h) (Or.inl ⟨by rfl, ?_⟩) (by assumption) ?_
    rotate_left
    ·(intro w hSw; (try dsimp only at hSw); go_simp; (try with_reducible rfl))
    (try simp only [Act.put, xL4, xL5, xL6])
    refine wpAnyH_take (i := 14) (v := ?_) (by simp only [xL1, xL2, xL3]; rfl) (by kernel_rfl) (by kernel_rfl) (by kernel_rfl) (by exact fun _ _ _ h => h) (Or.inl ⟨by rfl, ?_⟩) (by assumption) ?_
    rotate_left
    ·(intro w hSw; (try dsimp only at hSw); go_simp; (try with_reducible rfl))
    (try simp only [Act.put, xL4, xL5, xL6])
    refine wpAnyH_take (i := 15) (v := ?_) (by simp only [xL1, xL2, xL3]; rfl) (by kernel_rfl) (by kernel_rfl) (by kernel_rfl) (by exact fun _ _ _ h => h) (Or.inl ⟨by rfl, ?_⟩) (by assumption) ?_
    rotate_left
    ·(intro w hSw; (try dsimp only at hSw); go_simp; (try with_reducible rfl))
    (try simp only [Act.put, xL4, xL5, xL6])
    refine wpAnyH_done (by kernel_rfl) ?_ _
    clear hH1
    have HD : Hid (decide (cq = 0) = decide (i < n ∧ q i = x)) := by
     show decide _ = decide _
     rw [HC.out]
     simp [hin]
    clear HC
    go_wp2
    go_ret2
    exact ⟨i, HP.out, by rw [← HD.out]; rfl, BB⟩
   ·have f6 : ¬ (i : Int) < (n : Int) := by omega
    have HD : Hid (decide (i < n ∧ q i = x) = false) := decide_eq_false (fun h => hin h.1)
    go_wp2
    have hDr : Below wr.heap.size wr wr.drew := (Below.refl _ _).drew
    replace VX := VX.below hDr
    replace BB := BB.trans (hDr.mono BB.size)
    clear hDr
    refine wp_region_held_drew (S := (fun w' => True)) (by kernel_rfl) ?_ (fun hHeld => ?_)
    ·trivial
    generalize wr.drew = W41 at *
    refine wpAnyH_take (i := 0) (v := ?_) (by simp only [xL1, xL2, xL3]; rfl) (by kernel_rfl) (by kernel_rfl) (by kernel_rfl) (by exact fun _ _ _ h => h) (Or.inl ⟨by rfl, ?_⟩) (by assumption) ?_
    rotate_left
    ·(intro w hSw; (try dsimp only at hSw); go_simp; (try with_reducible rfl))
    (try simp only [Act.put, xL4, xL5, xL6])
    refine wpAnyH_take (i := 1) (v := ?_) (by simp only [xL1, xL2, xL3]; rfl) (by kernel_rfl) (by kernel_rfl) (by kernel_rfl) (by exact fun _ _ _ h => h) (Or.inl ⟨by rfl, ?_⟩) (by assumption) ?_
    rotate_left
    ·(intro w hSw; (try dsimp only at hSw); go_simp; (try with_reducible rfl))
    (try simp only [Act.put, xL4, xL5, xL6])
    refine wpAnyH_take (i := 2) (v := ?_) (by simp only [xL1, xL2, xL3]; rfl) (by kernel_rfl) (by kernel_rfl) (by kernel_rfl) (by exact fun _ _ _ h => h) (Or.inl ⟨by rfl, ?_⟩) (by assumption) ?_
    rotate_left
    ·(intro w hSw; (try dsimp only at hSw); go_simp; (try with_reducible rfl))
    (try simp only [Act.put, xL4, xL5, xL6])
    refine wpAnyH_take (i := 3) (v := ?_) (by simp only [xL1, xL2, xL3]; rfl) (by kernel_rfl) (by kernel_rfl) (by kernel_rfl) (by exact fun _ _ _ h => h) (Or.inl ⟨by rfl, ?_⟩) (by assumption) ?_
    rotate_left
    ·(intro w hSw; (try dsimp only at hSw); go_simp; (try with_reducible rfl))
    (try simp only [Act.put, xL4, xL5, xL6])
    refine wpAnyH_take (i := 4) (v := ?_) (by simp only [xL1, xL2, xL3]; rfl) (by kernel_rfl) (by kernel_rfl) (by kernel_rfl) (by exact fun _ _ _ h => h) (Or.inl ⟨by rfl, ?_⟩) (by assumption) ?_
    rotate_left
    ·(intro w hSw; (try dsimp only at hSw); go_simp; (try with_reducible rfl))
    (try simp only [Act.put, xL4, xL5, xL6])
    refine wpAnyH_take (i := 5) (v := undef) (by simp only [xL1, xL2, xL3]; rfl) (by kernel_rfl) (by kernel_rfl) (by kernel_rfl) (by exact fun _ _ _ h => h) (Or.inr ⟨by rfl, rfl⟩) (by assumption) ?_
    (try simp only [Act.put, xL4, xL5, xL6])
    refine wpAnyH_take (i := 6) (v := undef) (by simp only [xL1, xL2, xL3]; rfl) (by kernel_rfl) (by kernel_rfl) (by kernel_rfl) (by exact fun _ _ _ h => h) (Or.inr ⟨by rfl, rfl⟩) (by assumption) ?_
    (try simp only [Act.put, xL4, xL5, xL6])
    refine wpAnyH_take (i := 7) (v := undef) (by simp only [xL1, xL2, xL3]; rfl) (by kernel_rfl) (by kernel_rfl) (by kernel_rfl) (by exact fun _ _ _ h => h) (Or.inr ⟨by rfl, rfl⟩) (by assumption) ?_
    (try simp only [Act.put, xL4, xL5, xL6])
    refine wpAnyH_take (i := 8) (v := undef) (by simp only [xL1, xL2, xL3]; rfl) (by kernel_rfl) (by kernel_rfl) (by kernel_rfl) (by exact fun _ _ _ h => h) (Or.inr ⟨by rfl, rfl⟩) (by assumption) ?_
    (try simp only [Act.put, xL4, xL5, xL6])
    refine wpAnyH_take (i := 9) (v := undef) (by simp only [xL1, xL2, xL3]; rfl) (by kernel_rfl) (by kernel_rfl) (by kernel_rfl) (by exact fun _ _ _ h => h) (Or.inr ⟨by rfl, rfl⟩) (by assumption) ?_
    (try simp only [Act.put, xL4, xL5, xL6])
    refine wpAnyH_take (i := 10) (v := undef) (by simp only [xL1, xL2, xL3]; rfl) (by kernel_rfl) (by kernel_rfl) (by kernel_rfl) (by exact fun _ _ _ h => h) (Or.inr ⟨by rfl, rfl⟩) (by assumption) ?_
    (try simp only [Act.put, xL4, xL5, xL6])
    refine wpAnyH_take (i := 11) (v := undef) (by simp only [xL1, xL2, xL3]; rfl) (by kernel_rfl) (by kernel_rfl) (by kernel_rfl) (by exact fun _ _ _ h => h) (Or.inr ⟨by rfl, rfl⟩) (by assumption) ?_
    (try simp only [Act.put, xL4, xL5, xL6])
    refine wpAnyH_take (i := 12) (v := undef) (by simp only [xL1, xL2, xL3]; rfl) (by kernel_rfl) (by kernel_rfl) (by kernel_rfl) (by exact fun _ _ _ h => h) (Or.inr ⟨by rfl, rfl⟩) (by assumption) ?_
    (try simp only [Act.put, xL4, xL5, xL6])
    refine wpAnyH_take (i := 13) (v := ?_) (by simp only [xL1, xL2, xL3]; rfl) (by kernel_rfl) (by kernel_rfl) (by kernel_rfl) (by exact fun _ _ _ h => h) (Or.inl ⟨by rfl, ?_⟩) (by assumption) ?_
    rotate_left
    ·(intro w hSw; (try dsimp only at hSw); go_simp; (try with_reducible rfl))
    (try simp only [Act.put, xL4, xL5, xL6])
    refine wpAnyH_take (i := 14) (v := ?_) (by simp only [xL1, xL2, xL3]; rfl) (by kernel_rfl) (by kernel_rfl) (by kernel_rfl) (by exact fun _ _ _ h => h) (Or.inl ⟨by rfl, ?_⟩) (by assumption) ?_
    rotate_left
    ·(intro w hSw; (try dsimp only at hSw); go_simp; (try with_reducible rfl))
    (try simp only [Act.put, xL4, xL5, xL6])
    refine wpAnyH_take (i := 15) (v := ?_) (by simp only [xL1, xL2, xL3]; rfl) (by kernel_rfl) (by kernel_rfl) (by kernel_rfl) (by exact fun _ _ _ h => h) (Or.inl ⟨by rfl, ?_⟩) (by assumption) ?_
    rotate_left
    ·(intro w hSw; (try dsimp only at hSw); go_simp; (try with_reducible rfl))
    (try simp only [Act.put, xL4, xL5, xL6])
    refine wpAnyH_done (by kernel_rfl) ?_ _
    clear hHeld
    go_wp2
    go_ret2
    exact ⟨i, HP.out, by rw [HD.out]; rfl, BB⟩

def insq (q : Nat → Rat) (p : Nat) (x : Rat) : Nat → Rat := fun i => if i < p then q i else if i = p then x else q (i - 1)
def LaidR (q : Nat → Rat) (n : Nat) (x : Rat) (q' : Nat → Rat) (n' : Nat) : Prop :=
 (n' = n ∧ q' = q ∧ ∃ i, i < n ∧ q i = x) ∨ (n' = n + 1 ∧ ∃ p, Place q n x p ∧ ¬ (p < n ∧ q p = x) ∧ q' = insq q p x)
theorem Blk10.v3 {w : World} {g : Nat} {x0 x1 x2 : Value} {t : TypeId} (h : Blk10 w g #[x0, x1, x2] t) : w.cell? ⟨g, 0, none⟩ = some x0 ∧ w.cell? ⟨g, 1, none⟩ = some x1 ∧ w.cell? ⟨g, 2, none⟩ = some x2 := ⟨h.cell 0, h.cell 1, h.cell 2⟩
theorem Blk10.grown {w w' : World} {g : Nat} {vs : Array Value} {t : TypeId} {row : Option Nat} (h : Blk10 w g vs t) (hg : w.grownBy w' row) (hne : some g ≠ row) : Blk10 w' g vs t := ⟨(hg.block g h.lt hne).trans h.heap⟩
theorem laid_list {us : List Value} {el : Nat → Nat → Value} {n p : Nat} (hl : us.length = n * 3) (hp : p ≤ n) (h3 : ∀ i, i < n → ∀ j, j < 3 → us[i * 3 + j]? = some (el i j)) (z0 z1 z2 y0 y1 y2 : Value) :
  ∀ i, i < n + 1 → ∀ j, j < 3 → (spl10 (spl10 (us ++ [z0, z1, z2]) ((p + 1) * 3) (us.drop (p * 3))) (p * 3) [y0, y1, y2])[i * 3 + j]? = some (if i < p then el i j else if i = p then (if j = 0 then y0 else if j = 1 then y1 else y2) else el (i - 1) j) := by
 intro i hi j hj
 have hd : (us.drop (p * 3)).length = (n - p) * 3 := by rw [List.length_drop, hl]; omega
 have hL : (us ++ [z0, z1, z2]).length = (n + 1) * 3 := by simp [hl]; omega
 have hI : (spl10 (us ++ [z0, z1, z2]) ((p + 1) * 3) (us.drop (p * 3))).length = (n + 1) * 3 := by rw [spl10_len (by rw [hd, hL]; omega), hL]
 rw [spl10_at (by rw [hI]; simp; omega)]
 by_cases h1 : i < p
 ·rw [if_pos (by omega), if_pos h1, spl10_at (by rw [hd, hL]; omega), if_pos (by omega), List.getElem?_append_left (by omega)]
  exact h3 i (by omega) j hj
 ·rw [if_neg (by omega), if_neg h1]
  by_cases h2 : i = p
  ·subst h2
   rw [if_pos (by simp; omega), if_pos rfl]
   rcases (show j = 0 ∨ j = 1 ∨ j = 2 by omega) with rfl | rfl | rfl
   ·simp
   ·rw [show i * 3 + 1 - i * 3 = 1 by omega]; rfl
   ·rw [show i * 3 + 2 - i * 3 = 2 by omega]; rfl
  ·rw [if_neg (by simp; omega), if_neg h2, spl10_at (by rw [hd, hL]; omega), if_neg (by omega), if_pos (by rw [hd]; omega), List.getElem?_drop]
   have := h3 (i - 1) (by omega) j hj
   rw [show p * 3 + (i * 3 + j - (p + 1) * 3) = (i - 1) * 3 + j by omega]
   exact this

theorem rep_kinds10 {w : World} {el : Nat → Nat → Value} {i : Nat} {q : Rat} (h : RepQ w (.agg #[el i 0, el i 1, el i 2]) q) : ∀ j, j < 3 → ¬ IsNum (el i j) ∧ (el i j).oneCell' = true := by
 obtain ⟨p, ao, n, c, bo, m, d, he⟩ := h.open
 simp only [Value.agg.injEq, Array.mk.injEq, List.cons.injEq, and_true] at he
 intro j hj
 rcases (show j = 0 ∨ j = 1 ∨ j = 2 by omega) with rfl | rfl | rfl
 ·rw [he.1]; exact ⟨num_bool _, rfl⟩
 ·rw [he.2.1]; exact ⟨num_slice _ _ _, rfl⟩
 ·rw [he.2.2]; exact ⟨num_slice _ _ _, rfl⟩
/-- A row of the call's own, and none of its cells a number; its elements' numbers; what lies below. -/
structure OwR10 (B : Nat) (w : World) (g c n : Nat) (us : List Value) : Prop where
 own : w.ownsRow B 44 3 (.slice (some ⟨g, 0, none⟩) n c) n us
 pur : PureB IsNum w g
theorem OwR10.below {B : Nat} {w w' : World} {g c n : Nat} {us : List Value} (h : OwR10 B w g c n us) (hb : Below w.heap.size w w') : OwR10 B w' g c n us := ⟨owns_later h.own hb, h.pur.below hb (h.own.lt g rfl).2⟩
theorem OwR10.cap {B : Nat} {w : World} {g c n : Nat} {us : List Value} (h : OwR10 B w g c n us) : n ≤ c := (owns_cap h.own).1
structure Els10 (w : World) (el : Nat → Nat → Value) (n : Nat) (q : Nat → Rat) : Prop where
 all : ∀ i, i < n → RepQ w (.agg #[el i 0, el i 1, el i 2]) (q i)
theorem Els10.below {w w' : World} {el : Nat → Nat → Value} {n : Nat} {q : Nat → Rat} (h : Els10 w el n q) (hb : Below w.heap.size w w') : Els10 w' el n q := ⟨fun i hi => (h.all i hi).below hb⟩
theorem Els10.keep {w w' : World} {el : Nat → Nat → Value} {n : Nat} {q : Nat → Rat} (h : Els10 w el n q) (hk : KeepQ IsNum w w') : Els10 w' el n q := ⟨fun i hi => (h.all i hi).keep hk⟩
structure Bw10 (B : Nat) (w0 w : World) : Prop where
 out : Below B w0 w
 le : B ≤ w.heap.size
theorem Bw10.below {B : Nat} {w0 w w' : World} (h : Bw10 B w0 w) (hb : Below w.heap.size w w') : Bw10 B w0 w' := ⟨h.out.trans (hb.mono h.le), Nat.le_trans h.le hb.size⟩
theorem Bw10.row {B : Nat} {w0 w : World} {g : Nat} {cs : Array Value} (h : Bw10 B w0 w) (hg : B ≤ g) : Bw10 B w0 (w.setRow g cs) := ⟨below_setRow h.out hg _, by simpa [World.setRow] using h.le⟩
theorem owns_cap2 {w : World} {base k : Nat} {e : TypeId} {v : Value} {n : Nat} {xs : List Value} (h : w.ownsRow base e k v n xs) : ∀ g, v.ownBlock = some g → base ≤ g := fun g hg => (h.lt g hg).1


set_option maxRecDepth 100000 in
set_option maxHeartbeats 8000000 in
theorem laid10_at (B : Nat) (v xv : Value) (n : Nat) (q : Nat → Rat) (x : Rat) (L : Nat) (w : World) (hv : FOwn B w v n q) (hB : B ≤ w.heap.size) (hq : ∀ i, i < n → qsz (q i) ≤ L) (hx : RatAt w xv x L) (ht : Tab w) (hL : 1 ≤ L) (hM : L ≤ 30000) (hn : n ≤ 100000) (hs : ∀ i j, i < j → j < n → q i < q j) :
  Calls Tryz.prog 64 #[v, xv] w fun e w' => ∃ u n' q', e = .returned u ∧ FOwn B w' u n' q' ∧ LaidR q n x q' n' ∧ Below B w w' := by
 obtain ⟨av, cv, rfl⟩ := hv.row.open
 obtain ⟨px, ax, nx, cx, yx, mx, dx, rfl⟩ := hx.open
 have BB : Below w.heap.size w w := Below.refl _ _
 obtain ⟨W0, hW0, hS0, hL0, VX⟩ := V3.lay w 44 (.bool px) (.slice ax nx cx) (.slice yx mx dx)
 have BX := Blk10.new w #[.bool px, .slice ax nx cx, .slice yx mx dx] 44
 rw [← hW0] at BX
 have hvb : ∀ g, (Value.slice av n cv).ownBlock = some g → g < w.heap.size := fun g hg => (hv.both g hg).2
 have HVB : Hid (∀ g, (Value.slice av n cv).ownBlock = some g → g < w.heap.size) := hvb
 clear hvb
 replace hv := hv.below hL0
 replace hx := hx.below hL0
 replace ht := ht.below hL0
 replace BB := BB.trans (hL0.mono BB.size)
 clear hL0
 go_enter Tryz.func64, Tryz.ntmps64
 obtain ⟨v_0, v_1, v_2, v_3, v_4, v_5⟩ := id VX
 rw [hW0] at v_0 v_1 v_2 v_3 v_4 v_5
 go_wp2_with fail
 clear v_0 v_1 v_2 v_3 v_4 v_5 VX
 rw [← hW0]
 clear hW0 hS0
 have HS : Hid (∀ i j, i < j → j < n → q i < q j) := hs
 clear hs
 refine (search10_at _ _ n q x L _ hv.row hq hx hL (by omega) (by omega) HS.out).mono ?_
 rintro e w6 ⟨p, HP, rfl, b6⟩
 replace hv := hv.below b6
 replace hx := hx.below b6
 replace ht := ht.below b6
 replace BX := BX.below b6
 replace BB := BB.trans (b6.mono BB.size)
 clear b6
 have HPP : Hid (Place q n x p) := HP
 have hpn := HP.le
 clear HP
 obtain ⟨bb, hbb⟩ : ∃ bb, decide (p < n ∧ q p = x) = bb := ⟨_, rfl⟩
 have HBB : Hid (decide (p < n ∧ q p = x) = bb) := hbb
 rw [hbb]
 clear hbb
 cases bb
 ·have HNE : Hid (¬ (p < n ∧ q p = x)) := of_decide_eq_false HBB.out
  clear HBB
  obtain ⟨us, el, o1, o2, o3, o4⟩ := hv
  have hul := o1.1
  have HO : Hid ((∀ i, i < n → ∀ j, j < 3 → us[i * 3 + j]? = some (el i j)) ∧ ∀ i, i < n → RepQ w6 (.agg #[el i 0, el i 1, el i 2]) (q i)) := ⟨o3, o4⟩
  clear o3 o4
  have hA2 : Below w6.heap.size w6 (w6.alloc (.cells #[.bool false, .slice none 0 0, .slice none 0 0] 44)) := (Below.refl _ _).alloc (Nat.le_refl _) _
  have o1a := owns_later o1 hA2
  have o2a : ∀ g, (Value.slice av n cv).ownBlock = some g → PureB IsNum (w6.alloc (.cells #[.bool false, .slice none 0 0, .slice none 0 0] 44)) g := fun g hg => (o2 g hg).below hA2 (o1.lt g hg).2
  have BXa := BX.below hA2
  have hxa := hx.below hA2
  have hta := ht.below hA2
  have BBa := BB.trans (hA2.mono BB.size)
  have HOA : Hid (∀ i, i < n → RepQ (w6.alloc (.cells #[.bool false, .slice none 0 0, .slice none 0 0] 44)) (.agg #[el i 0, el i 1, el i 2]) (q i)) := fun i hi => (HO.out.2 i hi).below hA2
  have hbs : B ≤ (w6.alloc (.cells #[.bool false, .slice none 0 0, .slice none 0 0] 44)).heap.size := Nat.le_trans hB BBa.size
  clear o1 o2 BX hx ht hA2
  have BB0 := BB
  clear BB
  have HO2 : Hid (∀ g, (Value.slice av n cv).ownBlock = some g → PureB IsNum (w6.alloc (.cells #[.bool false, .slice none 0 0, .slice none 0 0] 44)) g) := o2a
  clear o2a
  go_wp2_with (at_builtin; refine wpList_append_pure (Q' := IsNum) rfl _ _ _ rfl B 44 (.agg #[.bool false, .slice none 0 0, .slice none 0 0]) 3 56 Tryz.underlying47 info_wrat rfl (by omega) (.slice av n cv) rfl n us o1a HO2.out ⟨w6.heap.size, 0, none⟩ 1 rfl [.bool false, .slice none 0 0, .slice none 0 0] rfl (news_block (heap_alloc_new _ _)) (by simp [Value.oneCell']) (by intro u hu; simp at hu; rcases hu with rfl | rfl <;> first | exact num_bool _ | exact num_slice _ _ _) (by intro u hu; simp [Value.cells] at hu; rcases hu with rfl | rfl <;> first | exact num_bool _ | exact num_slice _ _ _) (by omega) (by omega) hbs ?_; intro g3 c3 w3 hO3 hg3 hat3 hP3 hK3)
  have BX3 := BXa.grown hg3 (fun e => by have := HVB.out _ e.symm; omega)
  have hx3 := hxa.keep hK3
  have ht3 := hta.keep hK3
  have EL : Els10 w3 el n q := ⟨fun i hi => (HOA.out i hi).keep hK3⟩
  have OR : OwR10 B w3 g3 c3 (n + 1) (us ++ [.bool false, .slice none 0 0, .slice none 0 0]) := ⟨hO3, hP3⟩
  have BW : Bw10 B w w3 := ⟨below_grownB (BBa.mono hB) hg3 hbs (fun g h => owns_cap2 o1a g h), Nat.le_trans hbs hg3.size⟩
  have hgne : w.heap.size ≠ g3 := by
   rcases hat3 with h | h
   ·exact fun e => by have := HVB.out _ h; omega
   ·have := BXa.lt; omega
  clear o1a BXa hxa hta HOA hg3 hat3 hK3 HO2 hbs BBa BB0 hO3 hP3
  have HO1 : Hid (∀ i, i < n → ∀ j, j < 3 → us[i * 3 + j]? = some (el i j)) := HO.out.1
  clear HO
  have hcap := OR.cap
  have hcl : (us.drop (p * 3)).length = (n - p) * 3 := by rw [List.length_drop, hul]; omega
  have f0 : IntKind.i64.wrap ((p : Int) + 1) = (p : Int) + 1 := by rw [IntKind.wrap_i64]; omega
  have f1 : (0 : Int) ≤ (p : Int) := by omega
  have f2 : (0 : Int) ≤ (p : Int) + 1 := by omega
  have f3 : (p : Int) + 1 ≤ ((n + 1 : Nat) : Int) := by omega
  have f4 : (p : Int) ≤ ((n + 1 : Nat) : Int) := by omega
  have f4b : (p : Int) < ((n + 1 : Nat) : Int) := by omega
  have f4c : (p : Int) ≤ (n : Int) + 1 := by omega
  have f3c : (p : Int) + 1 ≤ (n : Int) + 1 := by omega
  have f4d : (p : Int) < (n : Int) + 1 := by omega
  have f5 : ¬ c3 = p := by omega
  have hinf : (Tryz.prog.info? 44).map (·.size) = some 3 := by
   obtain ⟨i0, hi, _, hz1, _⟩ := info_parts info_wrat
   rw [hi]; simp [hz1]
  have HINF : Hid ((Tryz.prog.info? 44).map (·.size) = some 3) := hinf
  clear hinf
  go_wp2_with fail
  have BB : Below w3.heap.size w3 w3 := Below.refl _ _
  have hDr : Below w3.heap.size w3 w3.drew := (Below.refl _ _).drew
  replace BX3 := BX3.below hDr
  replace hx3 := hx3.below hDr
  replace ht3 := ht3.below hDr
  replace EL := EL.below hDr
  replace OR := OR.below hDr
  replace BW := BW.below hDr
  replace BB := BB.trans (hDr.mono BB.size)
  clear hDr
  refine wp_region_held_drew (S := (fun w' => True)) (by kernel_rfl) ?_ (fun hHeld => ?_)
  ·trivial
  generalize w3.drew = W6 at *
  refine wpAnyH_take (i := 0) (v := ?_) (by simp only [xL1, xL2, xL3]; rfl) (by kernel_rfl) (by kernel_rfl) (by kernel_rfl) (by exact fun _ _ _ h => h) (Or.inl ⟨by rfl, ?_⟩) (by assumption) ?_
  rotate_left
  ·(intro w hSw; (try dsimp only at hSw); go_simp; (try with_reducible rfl))
  (try simp only [Act.put, xL4, xL5, xL6])
  refine wpAnyH_take (i := 1) (v := ?_) (by simp only [xL1, xL2, xL3]; rfl) (by kernel_rfl) (by kernel_rfl) (by kernel_rfl) (by exact fun _ _ _ h => h) (Or.inl ⟨by rfl, ?_⟩) (by assumption) ?_
  rotate_left
  ·(intro w hSw; (try dsimp only at hSw); go_simp; (try with_reducible rfl))
  (try simp only [Act.put, xL4, xL5, xL6])
  refine wpAnyH_take (i := 2) (v := ?_) (by simp only [xL1, xL2, xL3]; rfl) (by kernel_rfl) (by kernel_rfl) (by kernel_rfl) (by exact fun _ _ _ h => h) (Or.inl ⟨by rfl, ?_⟩) (by assumption) ?_
  rotate_left
  ·(intro w hSw; (try dsimp only at hSw); go_simp; (try with_reducible rfl))
  (try simp only [Act.put, xL4, xL5, xL6])
  refine wpAnyH_take (i := 3) (v := ?_) (by simp only [xL1, xL2, xL3]; rfl) (by kernel_rfl) (by kernel_rfl) (by kernel_rfl) (by exact fun _ _ _ h => h) (Or.inl ⟨by rfl, ?_⟩) (by assumption) ?_
  rotate_left
  ·(intro w hSw; (try dsimp only at hSw); go_simp; (try with_reducible rfl))
  (try simp only [Act.put, xL4, xL5, xL6])
  refine wpAnyH_take (i := 4) (v := ?_) (by simp only [xL1, xL2, xL3]; rfl) (by kernel_rfl) (by kernel_rfl) (by kernel_rfl) (by exact fun _ _ _ h => h) (Or.inl ⟨by rfl, ?_⟩) (by assumption) ?_
  rotate_left
  ·(intro w hSw; (try dsimp only at hSw); go_simp; (try with_reducible rfl))
  (try simp only [Act.put, xL4, xL5, xL6])
  refine wpAnyH_take (i := 5) (v := ?_) (by simp only [xL1, xL2, xL3]; rfl) (by kernel_rfl) (by kernel_rfl) (by kernel_rfl) (by exact fun _ _ _ h => h) (Or.inl ⟨by rfl, ?_⟩) (by assumption) ?_
  rotate_left
  ·(intro w hSw; (try dsimp only at hSw); go_simp; (try with_reducible rfl))
  (try simp only [Act.put, xL4, xL5, xL6])
  refine wpAnyH_take (i := 6) (v := ?_) (by simp only [xL1, xL2, xL3]; rfl) (by kernel_rfl) (by kernel_rfl) (by kernel_rfl) (by exact fun _ _ _ h => h) (Or.inl ⟨by rfl, ?_⟩) (by assumption) ?_
  rotate_left
  ·(intro w hSw; (try dsimp only at hSw); go_simp; (try with_reducible rfl))
  (try simp only [Act.put, xL4, xL5, xL6])
  refine wpAnyH_ready (rs := [7]) (by kernel_rfl) (by simp) ?_
  refine AllReadyH.cons (by simp only [xL1, xL2, xL3]; rfl) (fun K hK => ?_) AllReadyH.nil
  obtain ⟨cur, hcur, hfit, hBg, hO4⟩ := owns_splice (o := (p + 1) * 3) (cs := us.drop (p * 3)) OR.own (by rw [hcl]; omega)
  have HDM : Hid (∀ u ∈ us.drop (p * 3), ¬ IsNum u ∧ u.oneCell' = true) := by
   intro u hu
   obtain ⟨k, hk⟩ := List.getElem?_of_mem (List.mem_of_mem_drop hu)
   have hkl := (List.getElem?_eq_some_iff.1 hk).1
   have h9 := HO1.out (k / 3) (by omega) (k % 3) (by omega)
   rw [show k / 3 * 3 + k % 3 = k by omega, hk] at h9
   cases h9
   exact rep_kinds10 (EL.all (k / 3) (by omega)) (k % 3) (by omega)
  obtain ⟨hP4, hK4⟩ := pure_splice (o := (p + 1) * 3) hcur OR.pur (fun u hu => (HDM.out u hu).1)
  have HSRC : Hid (∀ j u, (us.drop (p * 3))[j]? = some u → W6.cell? ((⟨g3, p * 3, none⟩ : Addr).add j) = some u) := fun j u hu => by
   rw [List.getElem?_drop] at hu
   have hj := (List.getElem?_eq_some_iff.1 hu).1
   have := owns_cell OR.own (j := p * 3 + j) (u := u) (by rw [List.getElem?_append_left (by omega)]; exact hu)
   rw [add_off]
   exact this
  have BX_n := BX3.other (us := (spl10 cur.toList ((p + 1) * 3) (us.drop (p * 3))).toArray) hgne
  have hx_n := hx3.keep hK4
  have ht_n := ht3.keep hK4
  have EL_n := EL.keep hK4
  have BW_n := BW.row (cs := (spl10 cur.toList ((p + 1) * 3) (us.drop (p * 3))).toArray) hBg
  have OR_n : OwR10 B (W6.setRow g3 (spl10 cur.toList ((p + 1) * 3) (us.drop (p * 3))).toArray) g3 c3 (n + 1) (spl10 (us ++ [.bool false, .slice none 0 0, .slice none 0 0]) ((p + 1) * 3) (us.drop (p * 3))) := ⟨hO4, hP4⟩
  refine step_copy3 rfl (.tmp 22) (.tmp 25) 47 47 rfl 44 Tryz.underlying47 HINF.out _ _ _ _ _ _ rfl rfl g3 ((p + 1) * 3) cur 44 hcur (us.drop (p * 3)) (by rw [hcl]; simp only [Nat.min_def]; split <;> omega) (fun h0 => ⟨by rw [hcl] at h0; first | rfl | (rw [if_neg (by omega)]), ⟨g3, p * 3, none⟩, by first | rfl | (rw [if_neg (by omega)]), HSRC.out⟩) hfit (fun u hu => (HDM.out u hu).2) ?_
  clear BX3 hx3 ht3 EL BW OR hK4 hP4 hO4 HSRC HDM hfit hcur BB
  generalize W6.setRow g3 (spl10 cur.toList ((p + 1) * 3) (us.drop (p * 3))).toArray = W7 at *
  have BX3 := BX_n
  have hx3 := hx_n
  have ht3 := ht_n
  have EL := EL_n
  have BW := BW_n
  have OR := OR_n
  clear BX_n hx_n ht_n EL_n BW_n OR_n
  have BB : Below W7.heap.size W7 W7 := Below.refl _ _
  refine hK.out _ _ ?_ (fun hH1 => ?_)
  ·trivial
  clear hK K hHeld
  (try simp only [Act.put, xL4, xL5, xL6])
  refine wpAnyH_done (by kernel_rfl) ?_ _
  clear hH1
  generalize (if c3 = p + 1 then some (⟨g3, 0, none⟩ : Addr) else some ⟨g3, (p + 1) * 3, none⟩) = dp9 at *
  obtain ⟨x_0, x_1, x_2⟩ := BX3.v3
  go_wp2_with fail
  clear x_0 x_1 x_2
  refine (qclean_at _ x L _ hx3 hL (by omega) ht3).mono ?_
  rintro e w7 ⟨vy, rfl, hy, b7⟩
  replace BX3 := BX3.below b7
  replace hx3 := hx3.below b7
  replace ht3 := ht3.below b7
  replace EL := EL.below b7
  replace OR := OR.below b7
  replace BW := BW.below b7
  replace BB := BB.trans (b7.mono BB.size)
  clear b7
  obtain ⟨py, ay, ny, cy, yy, my, dy, rfl⟩ := hy.open
  obtain ⟨i0, hi0, _, hz1, _⟩ := info_parts info_wrat
  have HI0 : Hid (Tryz.prog.info? 44 = some i0 ∧ i0.size = 3) := ⟨hi0, hz1⟩
  clear hi0 hz1
  obtain ⟨cur5, hcur5, hfit5, hBg5, hO6⟩ := owns_splice (o := p * 3) (cs := [.bool py, .slice ay ny cy, .slice yy my dy]) OR.own (by simp; omega)
  obtain ⟨hP6, hK6⟩ := pure_splice (o := p * 3) (cs := [.bool py, .slice ay ny cy, .slice yy my dy]) hcur5 OR.pur (by intro u hu; simp at hu; rcases hu with rfl | rfl | rfl <;> first | exact num_bool _ | exact num_slice _ _ _)
  have hy6 := hy.keep hK6
  have EL6 := EL.keep hK6
  have BW6 := BW.row (cs := (spl10 cur5.toList (p * 3) [.bool py, .slice ay ny cy, .slice yy my dy]).toArray) hBg5
  have HR : LaidR q n x (insq q p x) (n + 1) := .inr ⟨rfl, p, HPP.out, HNE.out, rfl⟩
  have HFO : Hid (FOwn B (w7.setRow g3 (spl10 cur5.toList (p * 3) [.bool py, .slice ay ny cy, .slice yy my dy]).toArray) (.slice (some ⟨g3, 0, none⟩) (n + 1) c3) (n + 1) (insq q p x)) := by
   refine ⟨_, _, hO6, fun g hg => by simp only [Value.ownBlock, Option.some.injEq] at hg; subst hg; exact hP6, laid_list hul hpn HO1.out _ _ _ _ _ _, fun i hi => ?_⟩
   unfold insq
   by_cases h1 : i < p
   ·simp only [if_pos h1]
    exact EL6.all i (by omega)
   ·by_cases h2 : i = p
    ·subst h2
     simp
     exact hy6
    ·simp only [if_neg h1, if_neg h2]
     exact EL6.all (i - 1) (by omega)
  have HBW : Hid (Below B w (w7.setRow g3 (spl10 cur5.toList (p * 3) [.bool py, .slice ay ny cy, .slice yy my dy]).toArray)) := BW6.out
  have hf5 : p * 3 + (#[.bool py, .slice ay ny cy, .slice yy my dy] : Array Value).size ≤ cur5.size := by simp at hfit5; simpa using hfit5
  clear hO6 hP6 hK6 hy6 EL6 BW6 EL OR BW BX3 hx3 ht3 hy hfit5 hBg5
  go_wp2_with (refine wpList_store_in rfl 44 _ _ rfl i0 HI0.out.1 g3 (p * 3) rfl #[.bool py, .slice ay ny cy, .slice yy my dy] rfl cur5 44 hcur5 hf5 HI0.out.2 (by simp [Value.oneCell']) ?_)
  go_ret
  exact ⟨_, n + 1, insq q p x, rfl, HFO.out, HR, HBW.out⟩
 ·have HR : LaidR q n x q n := .inl ⟨rfl, rfl, p, (of_decide_eq_true HBB.out).1, (of_decide_eq_true HBB.out).2⟩
  go_wp2
  go_ret
  exact ⟨_, n, q, rfl, hv, HR, BB.mono hB⟩

def asks (d : Nd) (f : Int) : Prop := d.leaf = false ∧ d.feat = f
/-- The cuts of the nodes ahead of a place. -/
structure CutI (T : Nat → Nat → Nd) (N : Nat → Nat) (k : Nat) (f : Int) (L a b : Nat) (q : Nat → Rat) (n : Nat) : Prop where
 srt : ∀ i j, i < j → j < n → q i < q j
 sz : ∀ i, i < n → qsz (q i) ≤ L
 from_ : ∀ i, i < n → ∃ a' b', a' < k ∧ b' < N a' ∧ asks (T a' b') f ∧ (T a' b').cut = q i
 all : ∀ a' b', (a' < a ∨ (a' = a ∧ b' < b)) → b' < N a' → asks (T a' b') f → ∃ i, i < n ∧ q i = (T a' b').cut
 cnt : n ≤ a * 255 + b
theorem CutI.start (T : Nat → Nat → Nd) (N : Nat → Nat) (k : Nat) (f : Int) (L : Nat) (q : Nat → Rat) : CutI T N k f L 0 0 q 0 :=
 ⟨fun i j _ h => absurd h (Nat.not_lt_zero _), fun i h => absurd h (Nat.not_lt_zero _), fun i h => absurd h (Nat.not_lt_zero _), fun a' b' h _ _ => by rcases h with h | ⟨_, h⟩ <;> exact absurd h (Nat.not_lt_zero _), Nat.zero_le _⟩
theorem CutI.skip {T : Nat → Nat → Nd} {N : Nat → Nat} {k : Nat} {f : Int} {L a b : Nat} {q : Nat → Rat} {n : Nat} (h : CutI T N k f L a b q n) (hn : ¬ asks (T a b) f) : CutI T N k f L a (b + 1) q n := by
 refine ⟨h.srt, h.sz, h.from_, fun a' b' h1 h2 h3 => ?_, by have := h.cnt; omega⟩
 by_cases e : a' = a ∧ b' = b
 ·obtain ⟨rfl, rfl⟩ := e; exact absurd h3 hn
 ·exact h.all a' b' (by omega) h2 h3
theorem CutI.next {T : Nat → Nat → Nd} {N : Nat → Nat} {k : Nat} {f : Int} {L a : Nat} {q : Nat → Rat} {n : Nat} (h : CutI T N k f L a (N a) q n) (hN : N a ≤ 255) : CutI T N k f L (a + 1) 0 q n := by
 refine ⟨h.srt, h.sz, h.from_, fun a' b' h1 h2 h3 => h.all a' b' ?_ h2 h3, by have := h.cnt; rw [Nat.add_mul, Nat.one_mul]; exact Nat.le_trans this (Nat.add_le_add_left hN _)⟩
 by_cases e : a' = a
 ·subst e; exact .inr ⟨rfl, h2⟩
 ·exact .inl (by omega)
theorem CutI.laid {T : Nat → Nat → Nd} {N : Nat → Nat} {k : Nat} {f : Int} {L a b : Nat} {q q' : Nat → Rat} {n n' : Nat} (h : CutI T N k f L a b q n) (ha : a < k) (hb : b < N a) (hs : asks (T a b) f) (hz : qsz (T a b).cut ≤ L) (hl : LaidR q n (T a b).cut q' n') : CutI T N k f L a (b + 1) q' n' := by
 rcases hl with ⟨rfl, rfl, i0, hi0, he0⟩ | ⟨rfl, p, hp, hne, rfl⟩
 ·refine ⟨h.srt, h.sz, h.from_, fun a' b' h1 h2 h3 => ?_, by have := h.cnt; omega⟩
  by_cases e : a' = a ∧ b' = b
  ·obtain ⟨rfl, rfl⟩ := e; exact ⟨i0, hi0, he0⟩
  ·exact h.all a' b' (by omega) h2 h3
 ·have hpn := hp.le
  have hlt : ∀ j, p ≤ j → j < n → (T a b).cut < q j := fun j h1 h2 => by
   have h3 := hp.rest j h1 h2
   by_cases e : j = p
   ·subst e
    have : q j ≠ (T a b).cut := fun e => hne ⟨h2, e⟩
    grind
   ·have h4 := h.srt p j (by omega) h2
    have h5 := hp.rest p (Nat.le_refl _) (by omega)
    grind
  refine ⟨fun i j hij hj => ?_, fun i hi => ?_, fun i hi => ?_, fun a' b' h1 h2 h3 => ?_, by have := h.cnt; omega⟩
  ·unfold insq
   by_cases c1 : j < p
   ·rw [if_pos (by omega), if_pos c1]; exact h.srt i j hij (by omega)
   ·rw [if_neg c1]
    by_cases c2 : j = p
    ·rw [if_pos (by omega), if_pos c2]; exact hp.less i (by omega)
    ·rw [if_neg c2]
     by_cases c3 : i < p
     ·rw [if_pos c3]
      by_cases c5 : i < j - 1
      ·exact h.srt i (j - 1) c5 (by omega)
      ·omega
     ·rw [if_neg c3]
      by_cases c4 : i = p
      ·rw [if_pos c4]; exact hlt (j - 1) (by omega) (by omega)
      ·rw [if_neg c4]; exact h.srt (i - 1) (j - 1) (by omega) (by omega)
  ·unfold insq
   by_cases c1 : i < p
   ·rw [if_pos c1]; exact h.sz i (by omega)
   ·rw [if_neg c1]
    by_cases c2 : i = p
    ·rw [if_pos c2]; exact hz
    ·rw [if_neg c2]; exact h.sz (i - 1) (by omega)
  ·unfold insq
   by_cases c1 : i < p
   ·rw [if_pos c1]; exact h.from_ i (by omega)
   ·rw [if_neg c1]
    by_cases c2 : i = p
    ·rw [if_pos c2]; exact ⟨a, b, ha, hb, hs, rfl⟩
    ·rw [if_neg c2]; exact h.from_ (i - 1) (by omega)
  ·by_cases e : a' = a ∧ b' = b
   ·obtain ⟨rfl, rfl⟩ := e
    exact ⟨p, by omega, by unfold insq; rw [if_neg (by omega), if_pos rfl]⟩
   ·obtain ⟨i, hi, he⟩ := h.all a' b' (by omega) h2 h3
    by_cases c1 : i < p
    ·exact ⟨i, by omega, by unfold insq; rw [if_pos c1]; exact he⟩
    ·exact ⟨i + 1, by omega, by unfold insq; rw [if_neg (by omega), if_neg (by omega)]; exact he⟩
/-- Why there are none. -/
noncomputable def cutW (F : Int) (k : Nat) (N : Nat → Nat) (T : Nat → Nat → Nd) (f : Int) : Int := if mayB F k N T = true then (if 0 ≤ f ∧ f < F then 0 else 8) else 1
theorem cutW_zero {F : Int} {k : Nat} {N : Nat → Nat} {T : Nat → Nat → Nd} {f : Int} (h : cutW F k N T f = 0) : mayB F k N T = true ∧ 0 ≤ f ∧ f < F := by
 unfold cutW at h
 by_cases a : mayB F k N T = true
 ·rw [if_pos a] at h
  by_cases b : 0 ≤ f ∧ f < F
  ·exact ⟨a, b⟩
  ·rw [if_neg b] at h; omega
 ·rw [if_neg a] at h; omega


set_option maxRecDepth 100000 in
set_option maxHeartbeats 4000000 in
theorem rcuts_no (F f : Int) (vm : Value) (k : Nat) (N : Nat → Nat) (T : Nat → Nat → Nd) (L : Nat) (w : World) (hM : MRow w vm k N T L) (hT : Tab w) (hL : 1 ≤ L) (hLM : L ≤ 30000) (hw : cutW F k N T f ≠ 0) :
  Calls Tryz.prog 29 #[.agg #[.int .i64 F, vm], .int .i64 f] w fun e w' => e = .returned (.tuple #[.slice none 0 0, .int .i64 (cutW F k N T f)]) ∧ Below w.heap.size w w' := by
 obtain ⟨ao, c, rfl, hnc, hc63⟩ := hM.open
 have HM0 : Hid (MRow w (.slice ao k c) k N T L) := hM
 have HT0 : Hid (Tab w) := hT
 obtain ⟨W0, hW0, hS0, hL0, VM⟩ := V2.lay w 27 (.int .i64 F) (.slice ao k c)
 have BB : Below w.heap.size w W0 := hL0
 replace hM := hM.below hL0
 replace hT := hT.below hL0
 clear hL0
 go_enter Tryz.func29, Tryz.ntmps29
 obtain ⟨VM_0, VM_1, VM_2, VM_3⟩ := id VM
 rw [hW0] at VM_0 VM_1 VM_2 VM_3
 go_wp2_with fail
 clear VM_0 VM_1 VM_2 VM_3
 rw [← hW0]
 clear hW0 hS0
 refine (ok_may F _ k N T L _ hM hT hL hLM).mono ?_
 rintro e w1 ⟨rfl, b1⟩
 replace VM := VM.below b1
 replace BB := BB.trans (b1.mono BB.size)
 clear b1 hM hT
 obtain ⟨VM_0, VM_1, VM_2, VM_3⟩ := id VM
 obtain ⟨mb, hmb⟩ : ∃ mb, mayB F k N T = mb := ⟨_, rfl⟩
 have HB : Hid (mayB F k N T = mb) := hmb
 rw [hmb]
 clear hmb
 have HN : Hid (cutW F k N T f ≠ 0) := hw
 clear hw
 cases mb
 ·have HC : Hid (cutW F k N T f = 1) := by show cutW _ _ _ _ _ = 1; unfold cutW; rw [HB.out]; rfl
  go_wp2
  go_ret2
  exact ⟨by rw [HC.out]; rfl, BB⟩
 ·have hr : ¬ (0 ≤ f ∧ f < F) := fun h => HN.out (by unfold cutW; rw [if_pos HB.out, if_pos h])
  have HC : Hid (cutW F k N T f = 8) := by show cutW _ _ _ _ _ = 8; unfold cutW; rw [if_pos HB.out, if_neg hr]
  by_cases h0 : f < 0
  ·have g1 : decide (f < 0) = true := decide_eq_true h0
   go_wp2
   go_ret2
   exact ⟨by rw [HC.out]; rfl, BB⟩
  ·have g1 : decide (f < 0) = false := decide_eq_false h0
   have h2 : f ≥ F := by omega
   have g2 : decide (f ≥ F) = true := decide_eq_true h2
   clear hr
   go_wp2
   go_ret2
   exact ⟨by rw [HC.out]; rfl, BB⟩


set_option maxRecDepth 100000 in
set_option maxHeartbeats 16000000 in
theorem rcuts_yes (F f : Int) (vm : Value) (k : Nat) (N : Nat → Nat) (T : Nat → Nat → Nd) (L : Nat) (w : World) (hM : MRow w vm k N T L) (hT : Tab w) (hL : 1 ≤ L) (hLM : L ≤ 30000) (hw : cutW F k N T f = 0) :
  Calls Tryz.prog 29 #[.agg #[.int .i64 F, vm], .int .i64 f] w fun e w' => ∃ u n q, e = .returned (.tuple #[u, .int .i64 0]) ∧ FOwn w.heap.size w' u n q ∧ CutI T N k f L k 0 q n ∧ Below w.heap.size w w' := by
 obtain ⟨hB, hf0, hfF⟩ := cutW_zero hw
 have HMY : Hid (∀ i, i < k → MayT F (T i) (N i)) := (mayB_may hB).2.2.2
 have hk64 : k ≤ 64 := (mayB_may hB).2.2.1
 clear hw
 obtain ⟨ao, c, rfl, hnc, hc63⟩ := hM.open
 have HM0 : Hid (MRow w (.slice ao k c) k N T L) := hM
 have HT0 : Hid (Tab w) := hT
 obtain ⟨W0, hW0, hS0, hL0, VM⟩ := V2.lay w 27 (.int .i64 F) (.slice ao k c)
 have BB : Below w.heap.size w W0 := hL0
 replace hM := hM.below hL0
 replace hT := hT.below hL0
 clear hL0
 go_enter Tryz.func29, Tryz.ntmps29
 obtain ⟨VM_0, VM_1, VM_2, VM_3⟩ := id VM
 rw [hW0] at VM_0 VM_1 VM_2 VM_3
 go_wp2_with fail
 clear VM_0 VM_1 VM_2 VM_3
 rw [← hW0]
 clear hW0 hS0
 refine (ok_may F _ k N T L _ hM hT hL hLM).mono ?_
 rintro e w1 ⟨rfl, b1⟩
 replace VM := VM.below b1
 replace BB := BB.trans (b1.mono BB.size)
 clear b1 hM hT
 obtain ⟨VM_0, VM_1, VM_2, VM_3⟩ := id VM
 rw [hB]
 clear hB
 have g1 : ¬ f < 0 := by omega
 have g1b : decide (f < 0) = false := decide_eq_false g1
 have g2 : ¬ f ≥ F := by omega
 have g2b : decide (f ≥ F) = false := decide_eq_false g2
 have HI0 : Hid (CutI T N k f L 0 0 (fun _ => 0) 0) := CutI.start T N k f L _
 have HFI : Hid (0 ≤ f ∧ f < F) := ⟨hf0, hfF⟩
 clear hf0 hfF
 go_wp2
 clear VM_0 VM_1 VM_2 VM_3 VM
 go_loopw [6, 25] (fun vo vi wr => ∃ (a n : Nat) (q : Nat → Rat), a ≤ k ∧ vi = .int .i64 (a : Int) ∧ FOwn w.heap.size wr vo n q ∧ Hid (CutI T N k f L a 0 q n) ∧ Below w.heap.size w wr) (fun _ vi _ => k - (intOf vi).toNat)
 case atStart => exact ⟨0, 0, _, by omega, rfl, FOwn.nil _ _ _, HI0, BB⟩
 case round =>
  clear HI0 BB
  obtain ⟨a, n, q, ha, rfl, FO, HI, BB⟩ := hrel
  obtain ⟨au, cu, rfl⟩ := FO.row.open
  by_cases hlt : a < k
  ·have h1 : (a : Int) < (k : Int) := by omega
   have h0 : (0 : Int) ≤ (a : Int) := by omega
   obtain ⟨b, off, cc, aT, dT, hvv, hcc, XC0, TR0⟩ := HM0.out.at hlt
   cases hvv
   have XC : wr.cell? ⟨b, off + a, none⟩ = some (.slice aT (N a) dT) := (BB.cell (p := ⟨b, off + a, none⟩) (World.block_lt_of_cell? _ _ XC0)).trans XC0
   have HTR : Hid (TRow w (.slice aT (N a) dT) (N a) (T a) L) := TR0
   have hN255 : N a ≤ 255 := (HMY.out a hlt).few
   clear XC0 TR0
   go_wp2
   clear XC
   go_loopw [6, 31] (fun vo vj w2 => ∃ (j n : Nat) (q : Nat → Rat), j ≤ N a ∧ vj = .int .i64 (j : Int) ∧ FOwn w.heap.size w2 vo n q ∧ Hid (CutI T N k f L a j q n) ∧ Below w.heap.size w w2) (fun _ vj _ => N a - (intOf vj).toNat)
   case atStart => exact ⟨0, n, q, by omega, rfl, FO, HI, BB⟩
   case round =>
    clear FO HI BB
    obtain ⟨j, n, q, hj, rfl, FO, HI, BB⟩ := hrel
    obtain ⟨au, cu, rfl⟩ := FO.row.open
    by_cases hjt : j < N a
    ·have f1 : (j : Int) < (N a : Int) := by omega
     have f0 : (0 : Int) ≤ (j : Int) := by omega
     obtain ⟨b9, off9, cc9, p1, a1, n1, c1, b1, m1, d1, p2, a2, n2, c2, b2, m2, d2, p3, a3, n3, c3, b3, m3, d3, hvv, hcc9, hc6, NN, r1, r2, r3, i1, i2, i3⟩ := (HTR.out.below BB).at hjt
     cases hvv
     have HQZ : Hid (qsz (T a j).cut ≤ L) := r1.qsz hL
     obtain ⟨lf, hlf⟩ : ∃ z, (T a j).leaf = z := ⟨_, rfl⟩
     obtain ⟨ft, hft⟩ : ∃ z, (T a j).feat = z := ⟨_, rfl⟩
     have HLF : Hid ((T a j).leaf = lf ∧ (T a j).feat = ft) := ⟨hlf, hft⟩
     rw [hlf, hft] at NN
     clear hlf hft r2 r3 i1 i2 i3
     obtain ⟨N_0, N_1, N_2, N_3, N_4, N_5, N_6, N_7, N_8, N_9, N_10, N_11, N_12, N_13⟩ := id NN
     obtain ⟨W3, hW3, hS3, hL3, VN, FN⟩ := V14.lay wr 67 (.bool lf) (.int .i64 ft) (.bool p1) (.slice a1 n1 c1) (.slice b1 m1 d1) (.int .i64 (T a j).left) (.int .i64 (T a j).right) (.bool (T a j).miss) (.bool p2) (.slice a2 n2 c2) (.slice b2 m2 d2) (.bool p3) (.slice a3 n3 c3) (.slice b3 m3 d3)
     replace FO := FO.below hL3
     replace r1 := r1.below hL3
     replace BB := BB.trans (hL3.mono BB.size)
     clear hL3 FN NN
     obtain ⟨V_0, V_1, V_2, V_3, V_4, V_5, V_6, V_7, V_8, V_9, V_10, V_11, V_12, V_13⟩ := id VN
     rw [hW3] at V_0 V_1 V_2 V_3 V_4 V_5 V_6 V_7 V_8 V_9 V_10 V_11 V_12 V_13
     by_cases hask : lf = false ∧ ft = f
     ·obtain ⟨rfl, rfl⟩ := hask
      have HA : Hid (asks (T a j) ft) := HLF.out
      have ht := HT0.out.below BB
      go_wp2_with fail
      clear V_0 V_1 V_2 V_3 V_4 V_5 V_6 V_7 V_8 V_9 V_10 V_11 V_12 V_13 N_0 N_1 N_2 N_3 N_4 N_5 N_6 N_7 N_8 N_9 N_10 N_11 N_12 N_13
      rw [← hW3]
      clear hW3 hS3 VN
      have hcnt := HI.out.cnt
      have hn1 : n ≤ 100000 := by
       have := Nat.mul_le_mul_right 255 ha
       omega
      refine (laid10_at w.heap.size _ _ n q (T a j).cut L _ FO BB.size HI.out.sz r1 ht hL hLM hn1 HI.out.srt).mono ?_
      rintro e w4 ⟨u, n', q', rfl, FO2, HLR, b4⟩
      have HI2 : Hid (CutI T N k ft L a (j + 1) q' n') := HI.out.laid hlt hjt HA.out HQZ.out HLR
      have BB2 := BB.trans b4
      clear FO BB b4 HLR HI ht r1
      go_wp2
      go_roundw
      case rel => exact ⟨j + 1, n', q', by omega, by go_num, FO2, HI2, BB2⟩
      case measure => simp [intOf]; omega
     ·have HI2 : Hid (CutI T N k f L a (j + 1) q n) := HI.out.skip (fun h => hask ⟨HLF.out.1.symm.trans h.1, HLF.out.2.symm.trans h.2⟩)
      clear HI
      cases lf
      ·have hft : ¬ ft = f := fun e => hask ⟨rfl, e⟩
       have g5 : decide (ft = f) = false := decide_eq_false hft
       have g6 : (ft == f) = false := by simpa using hft
       clear hask
       go_wp2
       clear V_0 V_1 V_2 V_3 V_4 V_5 V_6 V_7 V_8 V_9 V_10 V_11 V_12 V_13 N_0 N_1 N_2 N_3 N_4 N_5 N_6 N_7 N_8 N_9 N_10 N_11 N_12 N_13
       rw [← hW3]
       go_roundw
       case rel => exact ⟨j + 1, n, q, by omega, by go_num, FO, HI2, BB⟩
       case measure => simp [intOf]; omega
      ·clear hask
       go_wp2
       clear V_0 V_1 V_2 V_3 V_4 V_5 V_6 V_7 V_8 V_9 V_10 V_11 V_12 V_13 N_0 N_1 N_2 N_3 N_4 N_5 N_6 N_7 N_8 N_9 N_10 N_11 N_12 N_13
       rw [← hW3]
       go_roundw
       case rel => exact ⟨j + 1, n, q, by omega, by go_num, FO, HI2, BB⟩
       case measure => simp [intOf]; omega
    ·obtain rfl : j = N a := by omega
     have f1 : ¬ (N a : Int) < (N a : Int) := by omega
     have HI2 : Hid (CutI T N k f L (a + 1) 0 q n) := HI.out.next hN255
     clear HI
     go_wp2
     go_roundw
     case rel => exact ⟨a + 1, n, q, by omega, by go_num, FO, HI2, BB⟩
     case measure => simp [intOf]; omega
  ·obtain rfl : a = k := by omega
   have h1 : ¬ (a : Int) < (a : Int) := by omega
   go_wp2
   go_ret2
   first | exact ⟨_, n, q, rfl, FO, HI.out, BB⟩ | exact ⟨_, rfl, n, q, FO, HI.out, BB⟩

def stq (q : Nat → Rat) (n : Nat) : Nat → Rat := fun i => if n = 0 then 0 else if i = 0 then q 0 - 1 else q (i - 1)
theorem pure_arr {w : World} {B g n : Nat} {e : TypeId} {us : List Value} {el : Nat → Nat → Value} (h : w.ownsRow B e 3 (.slice (some ⟨g, 0, none⟩) n n) n us) (hA : Arr3 w g n el) : PureB IsNum w g := by
 intro o v hc
 rcases h.2 with ⟨e1, _⟩ | ⟨g', cap', cur, e1, hB, hg, hnc, hcm, hcs, ht⟩
 ·cases e1
 cases e1
 have h1 := cell_of_row w g o cur e _ hg
 rw [hc] at h1
 have ho : o < cur.size := by
  by_cases e : o < cur.size
  ·exact e
  ·rw [Array.getElem?_eq_none (by omega)] at h1; cases h1
 have h2 := hA.1 (o / 3) (by omega) (o % 3) (by omega)
 rw [show o / 3 * 3 + o % 3 = o by omega, hc] at h2
 cases h2
 exact hA.2.2 (o / 3) (by omega) (o % 3) (by omega)
theorem step_store_in {P : Program} {ops : Array Oper} {o : Oper} {a : Act} {w : World} {K : Act → World → Prop} {Q : Exit → Act → World → Prop} {E : Prop} (hgd : o.guard = none) (t : TypeId) (x y : Operand) (ho : o.op = .store t x y) (i0 : TypeInfo) (hi : P.info? t = some i0) (g off : Nat) (hx : a.eval x = .pointer (some ⟨g, off, none⟩)) (vs : Array Value) (hy : a.eval y = .agg vs)
  (cur : Array Value) (t' : TypeId) (hg : w.heap[g]? = some (.cells cur t' (0, 0))) (hl : off + vs.size ≤ cur.size) (hs : i0.size = vs.size) (h1 : ∀ v ∈ vs.toList, v.oneCell' = true)
  (h : K (a.put o.dst undef) (w.setRow g (spl10 cur.toList off vs.toList).toArray)) :
  if Region.wanted o (yielded ops a.tmps) = true then Oper.wp P o a w K Q else E := by
 have hw : Region.wanted o (yielded ops a.tmps) = true := by simp [Region.wanted, hgd]
 rw [if_pos hw]
 have hst := run_storeCells_at (P := P) g off t' vs.toList 0 cur w hg (by simpa using hl) h1
 rw [Nat.add_zero] at hst
 have hst2 : (storeCells ⟨g, off, none⟩ vs.toList).run P w = .ok () (w.setRow g (spl10 cur.toList off vs.toList).toArray) := hst
 unfold Oper.wp execOp
 simp [ho, hx, hy, Instr.storeAt, Instr.sureAddr, storeVar, sizeOf, typeInfo, hi, hs, hst2, Result.andThen, Value.cells]
 exact h
theorem wpList_copy3 {P : Program} {ops : Array Oper} {rest : List Oper} {o : Oper} {a : Act} {w : World} {Q : Exit → Act → World → Prop} (hgd : o.guard = none) (d s : Operand) (dT sT : TypeId)
  (ho : o.op = .call { callee := .builtin .copy, args := #[d, s], argTypes := #[dT, sT] }) (elem : TypeId) (hu : P.underlying dT = some (.slice elem)) (hsz : (P.info? elem).map (·.size) = some 3)
  (ad : Addr) (dLen dCap sLen sCap g off : Nat) (hd : a.eval d = .slice (some ⟨g, off, none⟩) dLen dCap) (hs : a.eval s = .slice (some ad) sLen sCap)
  (cur : Array Value) (t : TypeId) (hg : w.heap[g]? = some (.cells cur t (0, 0))) (cs : List Value) (hn : cs.length = Nat.min sLen dLen * 3)
  (hsrc : ∀ j v, cs[j]? = some v → w.cell? (ad.add j) = some v)
  (hfit : off + cs.length ≤ cur.size) (h1 : ∀ v ∈ cs, v.oneCell' = true)
  (h : wpList P ops Q rest (a.put o.dst (goInt (Nat.min sLen dLen))) (w.setRow g (spl10 cur.toList off cs).toArray)) :
  wpList P ops Q (o :: rest) a w := by
 refine wpList_plain hgd fun K hK => ?_
 have hrun := run_copy3 (P := P) w dT sT o.type elem g off dLen dCap ad sLen sCap cur t cs hu hsz hg hn hsrc hfit h1
 have hrun2 : (Builtin.copy_ #[dT, sT] o.type #[.slice (some ⟨g, off, none⟩) dLen dCap, .slice (some ad) sLen sCap]).run P w = .ok (goInt (Nat.min sLen dLen)) (w.setRow g (spl10 cur.toList off cs).toArray) := hrun
 unfold Oper.wp
 simp [execOp, ho, resolve, invoke, builtin, hd, hs, hrun2, Result.andThen]
 exact hK _ _ h
theorem steps_list {ms us : List Value} {el : Nat → Nat → Value} {n : Nat} (hm : ms.length = (n + 1) * 3) (hl : us.length = n * 3) (h3 : ∀ i, i < n → ∀ j, j < 3 → us[i * 3 + j]? = some (el i j)) (y0 y1 y2 : Value) :
  ∀ i, i < n + 1 → ∀ j, j < 3 → (spl10 (spl10 ms 0 [y0, y1, y2]) 3 us)[i * 3 + j]? = some (if i = 0 then (if j = 0 then y0 else if j = 1 then y1 else y2) else el (i - 1) j) := by
 intro i hi j hj
 have hI : (spl10 ms 0 [y0, y1, y2]).length = (n + 1) * 3 := by rw [spl10_len (by simp; omega), hm]
 rw [spl10_at (by rw [hI, hl]; omega)]
 by_cases h1 : i = 0
 ·subst h1
  rw [if_pos (by omega), if_pos rfl, spl10_at (by simp; omega), if_neg (by omega), if_pos (by simp; omega)]
  rcases (show j = 0 ∨ j = 1 ∨ j = 2 by omega) with rfl | rfl | rfl <;> rfl
 ·rw [if_neg (by omega), if_neg h1, if_pos (by rw [hl]; omega)]
  have := h3 (i - 1) (by omega) j hj
  rw [show i * 3 + j - 3 = (i - 1) * 3 + j by omega]
  exact this


set_option maxRecDepth 100000 in
set_option maxHeartbeats 4000000 in
theorem rsteps_no (F f : Int) (vm : Value) (k : Nat) (N : Nat → Nat) (T : Nat → Nat → Nd) (L : Nat) (w : World) (hM : MRow w vm k N T L) (hT : Tab w) (hL : 1 ≤ L) (hLM : L ≤ 30000) (hw : cutW F k N T f ≠ 0) :
  Calls Tryz.prog 30 #[.agg #[.int .i64 F, vm], .int .i64 f] w fun e w' => e = .returned (.tuple #[.slice none 0 0, .int .i64 (cutW F k N T f)]) ∧ Below w.heap.size w w' := by
 obtain ⟨ao, c, rfl, hnc, hc63⟩ := hM.open
 obtain ⟨W0, hW0, hS0, hL0, VM⟩ := V2.lay w 27 (.int .i64 F) (.slice ao k c)
 have BB : Below w.heap.size w W0 := hL0
 replace hM := hM.below hL0
 replace hT := hT.below hL0
 clear hL0
 go_enter Tryz.func30, Tryz.ntmps30
 obtain ⟨VM_0, VM_1, VM_2, VM_3⟩ := id VM
 rw [hW0] at VM_0 VM_1 VM_2 VM_3
 go_wp2_with fail
 clear VM_0 VM_1 VM_2 VM_3
 rw [← hW0]
 clear hW0 hS0 VM
 refine (rcuts_no F f _ k N T L _ hM hT hL hLM hw).mono ?_
 rintro e w1 ⟨rfl, b1⟩
 replace BB := BB.trans (b1.mono BB.size)
 clear b1
 obtain ⟨e1, he1⟩ : ∃ e1, cutW F k N T f = e1 := ⟨_, rfl⟩
 have HE : Hid (cutW F k N T f = e1) := he1
 rw [he1] at hw
 rw [he1]
 clear he1
 have g2 : (e1 != 0) = true := by simpa using hw
 have g3 : decide (e1 = 0) = false := decide_eq_false hw
 go_wp2
 go_ret2
 exact ⟨by rw [HE.out]; rfl, BB⟩

theorem one_sz10 : qsz (1 : Rat) ≤ 2 := Nat.le_trans (qsz_int 1 (L := 1) (by decide) (by omega)) (by omega)
theorem OwR10.other {B : Nat} {w : World} {g g' c n : Nat} {ls : List Value} {us : Array Value} (h : OwR10 B w g c n ls) (hne : g ≠ g') : OwR10 B (w.setRow g' us) g c n ls := by
 refine ⟨⟨h.own.1, ?_⟩, fun o v hc => h.pur o v ?_⟩
 ·rcases h.own.2 with h1 | ⟨g1, c1, cur, e1, h2, h3, h4⟩
  ·exact .inl h1
  ·cases e1
   exact .inr ⟨g, c, cur, rfl, h2, (setRow_other w g' g _ hne).trans h3, h4⟩
 ·rw [← World.cell?_of_block (w := w) (setRow_other w g' g us hne)]; exact hc
theorem Cel10.row {w : World} {b o g : Nat} {x : Value} {cs : Array Value} (h : Cel10 w b o x) (hne : b ≠ g) : Cel10 (w.setRow g cs) b o x := ⟨(World.cell?_of_block (w := w) (a := ⟨b, o, none⟩) (setRow_other w g b cs hne)).trans h.cell⟩


set_option maxRecDepth 100000 in
set_option maxHeartbeats 16000000 in
theorem rsteps_yes (F f : Int) (vm : Value) (k : Nat) (N : Nat → Nat) (T : Nat → Nat → Nd) (L : Nat) (w : World) (hM : MRow w vm k N T L) (hT : Tab w) (hL : 1 ≤ L) (hLM : L ≤ 30000) (hw : cutW F k N T f = 0) :
  Calls Tryz.prog 30 #[.agg #[.int .i64 F, vm], .int .i64 f] w fun e w' => ∃ u n q, e = .returned (.tuple #[u, .int .i64 0]) ∧ FRow w' u (n + 1) (stq q n) ∧ CutI T N k f L k 0 q n ∧ Below w.heap.size w w' := by
 have hk64 : k ≤ 64 := (mayB_may (cutW_zero hw).1).2.2.1
 obtain ⟨ao, c, rfl, hnc, hc63⟩ := hM.open
 obtain ⟨W0, hW0, hS0, hL0, VM⟩ := V2.lay w 27 (.int .i64 F) (.slice ao k c)
 have BB : Below w.heap.size w W0 := hL0
 replace hM := hM.below hL0
 replace hT := hT.below hL0
 clear hL0
 go_enter Tryz.func30, Tryz.ntmps30
 obtain ⟨VM_0, VM_1, VM_2, VM_3⟩ := id VM
 rw [hW0] at VM_0 VM_1 VM_2 VM_3
 go_wp2_with fail
 clear VM_0 VM_1 VM_2 VM_3
 rw [← hW0]
 clear hW0 hS0 VM
 have ht0 := hT
 refine (rcuts_yes F f _ k N T L _ hM hT hL hLM hw).mono ?_
 rintro e w1 ⟨u, n, q, rfl, FO, HI, b1⟩
 replace BB := BB.trans (b1.mono BB.size)
 have ht := hT.below b1
 clear b1 hT ht0 hM
 have HCI : Hid (CutI T N k f L k 0 q n) := HI
 have HZ : Hid (∀ i, i < n → qsz (q i) ≤ L) := HI.sz
 have hcnt : n ≤ 100000 := by
  have h1 := HI.cnt
  have h2 := hk64
  omega
 clear HI
 obtain ⟨us, el, o1, o2, o3, o4⟩ := FO
 have hul := o1.1
 by_cases hn0 : n = 0
 ·subst hn0
  obtain ⟨au, cu, rfl⟩ : ∃ au cu, u = .slice au 0 cu := by
   rcases o1.2 with ⟨h, _⟩ | ⟨g, c9, _, h, _⟩
   ·exact ⟨_, _, h⟩
   ·exact ⟨_, _, h⟩
  clear o1 o2 o3 o4
  have g4 : ((0 : Nat) : Int) = 0 := rfl
  go_wp2_with fail
  refine (qzero_at _).mono ?_
  rintro e w4 ⟨v1, rfl, hz, b4⟩
  replace BB := BB.trans (b4.mono BB.size)
  clear b4
  obtain ⟨p1, a1, n1, c1, y1, m1, d1, rfl⟩ := hz.open
  obtain ⟨W5, hW5, hS5, hL5, VB⟩ := V3.lay w4 44 (.bool p1) (.slice a1 n1 c1) (.slice y1 m1 d1)
  have hz5 := hz.below hL5
  have BB5 := BB.trans (hL5.mono BB.size)
  have HR : Hid (FRow W5 (.slice (some ⟨w4.heap.size, 0, none⟩) 1 1) 1 (stq q 0)) := by
   refine ⟨fun _ j => if j = 0 then .bool p1 else if j = 1 then .slice a1 n1 c1 else .slice y1 m1 d1, ⟨_, _, rfl, Nat.le_refl _, by omega, fun _ => ⟨_, _, rfl, fun i hi j hj => ?_⟩⟩, fun i hi => ?_⟩
   ·obtain rfl : i = 0 := by omega
    obtain ⟨z1, z2, z3, _⟩ := VB
    rcases (show j = 0 ∨ j = 1 ∨ j = 2 by omega) with rfl | rfl | rfl
    ·exact z1
    ·exact z2
    ·exact z3
   ·have : stq q 0 i = 0 := rfl
    rw [this]
    exact hz5
  clear VB hz hz5
  go_wp2
  rw [← hW5]
  go_ret2
  exact ⟨_, 0, q, rfl, HR.out, HCI.out, BB5⟩
 ·have hGw0 : w.heap.size ≤ w1.heap.size := BB.size
  have hn1 : 0 < n := by omega
  obtain ⟨gu, cu, rfl⟩ : ∃ gu cu, u = .slice (some ⟨gu, 0, none⟩) n cu := by
   rcases o1.2 with ⟨_, h⟩ | ⟨g, c9, _, h, _⟩
   ·omega
   ·exact ⟨_, _, h⟩
  have g4 : ¬ (n : Int) = 0 := by omega
  have g5 : decide ((n : Int) = 0) = false := decide_eq_false g4
  have g6 : ((n : Int) == 0) = false := by simpa using hn0
  have wn : IntKind.i64.wrap ((n : Int) + 1) = (n : Int) + 1 := by rw [IntKind.wrap_i64]; omega
  obtain ⟨i0, hi0, hz0, hz1, hz2⟩ := info_parts info_wrat
  have HI0 : Hid (Tryz.prog.info? 44 = some i0 ∧ i0.zero = some (.agg #[.bool false, .slice none 0 0, .slice none 0 0]) ∧ i0.size = 3 ∧ i0.bytes = 56) := ⟨hi0, hz0, hz1, hz2⟩
  clear hi0 hz0 hz1 hz2
  have HO1 : Hid (∀ i, i < n → ∀ j, j < 3 → us[i * 3 + j]? = some (el i j)) := o3
  have EL : Els10 w1 el n q := ⟨o4⟩
  have OR : OwR10 W0.heap.size w1 gu cu n us := ⟨o1, o2 gu rfl⟩
  clear o1 o2 o3 o4
  have hgu : gu < w1.heap.size := (OR.own.lt gu rfl).2
  go_wp2_with (at_make; refine wpList_make_full _ rfl _ _ 47 rfl _ 44 i0 (.agg #[.bool false, .slice none 0 0, .slice none 0 0]) 3 Tryz.underlying47 HI0.out.1 HI0.out.2.1 HI0.out.2.2.1 _ _ _ _ (n + 1) rfl rfl (by omega) (by omega) (by rw [HI0.out.2.2.2]; omega) (by unfold maxLen; omega) (Nat.le_refl _) ?_; intro w2 hown hgrow)
  have hb1 := below_grown hgrow
  have A1 := arr3_made hown
  have OA : OwR10 w1.heap.size w2 w1.heap.size (n + 1) (n + 1) (madeCells (Value.agg #[.bool false, .slice none 0 0, .slice none 0 0]).cells ((n + 1) * 3)).toList := ⟨hown, pure_arr hown A1⟩
  have hml := hown.1
  replace BB := BB.trans (hb1.mono BB.size)
  replace OR := OR.below hb1
  replace EL := EL.below hb1
  replace ht := ht.below hb1
  clear hown hgrow hb1 A1
  generalize (madeCells (Value.agg #[.bool false, .slice none 0 0, .slice none 0 0]).cells ((n + 1) * 3)).toList = ms at *
  have hGB : gu ≠ w1.heap.size := by omega
  generalize hG : w1.heap.size = G at *
  have ru := EL.all 0 hn1
  obtain ⟨p4, a4, n4, c4, y4, m4, d4, he4⟩ := ru.open
  have C0 := Cel10.mk (owns_cell OR.own (HO1.out 0 hn1 0 (by omega)))
  have C1 := Cel10.mk (owns_cell OR.own (HO1.out 0 hn1 1 (by omega)))
  have C2 := Cel10.mk (owns_cell OR.own (HO1.out 0 hn1 2 (by omega)))
  rw [he4] at ru
  simp only [Value.agg.injEq, Array.mk.injEq, List.cons.injEq, and_true] at he4
  rw [he4.1] at C0
  rw [he4.2.1] at C1
  rw [he4.2.2] at C2
  simp only [Nat.zero_mul, Nat.zero_add] at C0 C1 C2
  clear he4
  have HQ0 : Hid (qsz (q 0) ≤ L) := HZ.out 0 hn1
  have h0n : (0 : Int) < (n : Int) := by omega
  have h0m : (0 : Int) < (n : Int) + 1 := by omega
  go_wp2_with fail
  have hGw : w.heap.size ≤ G := by omega
  have hDr : Below w2.heap.size w2 w2.drew := (Below.refl _ _).drew
  replace ht := ht.below hDr
  replace ru := ru.below hDr
  replace C0 := C0.below hDr
  replace C1 := C1.below hDr
  replace C2 := C2.below hDr
  replace EL := EL.below hDr
  replace OR := OR.below hDr
  replace OA := OA.below hDr
  replace BB := BB.trans (hDr.mono BB.size)
  clear hDr
  refine wp_region_held_drew (S := (fun w' => w'.cell? ⟨gu, 0, none⟩ = some (.bool p4) ∧ w'.cell? ⟨gu, 1, none⟩ = some (.slice a4 n4 c4) ∧ w'.cell? ⟨gu, 2, none⟩ = some (.slice y4 m4 d4))) (by kernel_rfl) ?_ (fun hHeld => ?_)
  ·exact ⟨C0.cell, C1.cell, C2.cell⟩
  generalize w2.drew = W4 at *
  refine wpAnyH_take (i := 0) (v := ?_) (by simp only [xL1, xL2, xL3]; rfl) (by kernel_rfl) (by kernel_rfl) (by kernel_rfl) (by exact fun _ _ _ h => h) (Or.inl ⟨by rfl, ?_⟩) (by assumption) ?_
  rotate_left
  ·(intro w hSw; (try dsimp only at hSw); go_simp; (try with_reducible rfl))
  (try simp only [Act.put, xL4, xL5, xL6])
  refine wpAnyH_take (i := 1) (v := ?_) (by simp only [xL1, xL2, xL3]; rfl) (by kernel_rfl) (by kernel_rfl) (by kernel_rfl) (by exact fun _ _ _ h => h) (Or.inl ⟨by rfl, ?_⟩) (by assumption) ?_
  rotate_left
  ·(intro w hSw; (try dsimp only at hSw); go_simp; (try with_reducible rfl))
  (try simp only [Act.put, xL4, xL5, xL6])
  refine wpAnyH_take (i := 2) (v := ?_) (by simp only [xL1, xL2, xL3]; rfl) (by kernel_rfl) (by kernel_rfl) (by kernel_rfl) (by exact fun _ _ _ h => h) (Or.inl ⟨by rfl, ?_⟩) (by assumption) ?_
  rotate_left
  ·(intro w hSw; (try dsimp only at hSw); go_simp; (try with_reducible rfl))
  (try simp only [Act.put, xL4, xL5, xL6])
  refine wpAnyH_take (i := 3) (v := ?_) (by simp only [xL1, xL2, xL3]; rfl) (by kernel_rfl) (by kernel_rfl) (by kernel_rfl) (by exact fun _ _ _ h => h) (Or.inl ⟨by rfl, ?_⟩) (by assumption) ?_
  rotate_left
  ·(intro w hSw; (try dsimp only at hSw); go_simp; (try with_reducible rfl))
  (try simp only [Act.put, xL4, xL5, xL6])
  refine wpAnyH_ready (rs := [4]) (by kernel_rfl) (by simp) ?_
  refine AllReadyH.cons (by simp only [xL1, xL2, xL3]; rfl) (fun K hK => ?_) AllReadyH.nil
  go_simp
  refine (qone_at _).mono ?_
  rintro e w4 ⟨v4, rfl, h1, b4⟩
  obtain ⟨p6, a6, n6, c6, y6, m6, d6, rfl⟩ := h1.open
  go_wp2_with fail
  replace ht := ht.below b4
  replace ru := ru.below b4
  replace C0 := C0.below b4
  replace C1 := C1.below b4
  replace C2 := C2.below b4
  replace EL := EL.below b4
  replace OR := OR.below b4
  replace OA := OA.below b4
  replace BB := BB.trans (b4.mono BB.size)
  clear b4
  refine hK.out _ _ ?_ (fun hH1 => ?_)
  ·exact ⟨C0.cell, C1.cell, C2.cell⟩
  clear hK K hHeld
  (try simp only [Act.put, xL4, xL5, xL6])
  refine wpAnyH_ready (rs := [5]) (by kernel_rfl) (by simp) ?_
  refine AllReadyH.cons (by simp only [xL1, xL2, xL3]; rfl) (fun K hK => ?_) AllReadyH.nil
  go_simp
  refine (qsub_at _ _ (q 0) 1 (L + 2) _ (ru.at _ (Nat.le_trans HQ0.out (by omega))) (h1.at _ (Nat.le_trans one_sz10 (by omega))) (by omega) (by omega) ht).mono ?_
  rintro e w5 ⟨v5, rfl, hy, b5⟩
  obtain ⟨p5, a5, n5, c5, y5, m5, d5, rfl⟩ := hy.open
  go_wp2_with fail
  replace ht := ht.below b5
  replace ru := ru.below b5
  replace C0 := C0.below b5
  replace C1 := C1.below b5
  replace C2 := C2.below b5
  replace EL := EL.below b5
  replace OR := OR.below b5
  replace OA := OA.below b5
  replace h1 := h1.below b5
  replace BB := BB.trans (b5.mono BB.size)
  clear b5
  refine hK.out _ _ ?_ (fun hH2 => ?_)
  ·exact ⟨C0.cell, C1.cell, C2.cell⟩
  clear hK K hH1
  (try simp only [Act.put, xL4, xL5, xL6])
  refine wpAnyH_take (i := 6) (v := ?_) (by simp only [xL1, xL2, xL3]; rfl) (by kernel_rfl) (by kernel_rfl) (by kernel_rfl) (by exact fun _ _ _ h => h) (Or.inl ⟨by rfl, ?_⟩) (by assumption) ?_
  rotate_left
  ·(intro w hSw; (try dsimp only at hSw); go_simp; (try with_reducible rfl))
  (try simp only [Act.put, xL4, xL5, xL6])
  refine wpAnyH_ready (rs := [7]) (by kernel_rfl) (by simp) ?_
  refine AllReadyH.cons (by simp only [xL1, xL2, xL3]; rfl) (fun K hK => ?_) AllReadyH.nil
  obtain ⟨cur, hcur, hfit, hBg, hO4⟩ := owns_splice (o := 0) (cs := [.bool p5, .slice a5 n5 c5, .slice y5 m5 d5]) OA.own (by simp; omega)
  obtain ⟨hP4, hK4⟩ := pure_splice (o := 0) (cs := [.bool p5, .slice a5 n5 c5, .slice y5 m5 d5]) hcur OA.pur (by intro u hu; simp at hu; rcases hu with rfl | rfl | rfl <;> first | exact num_bool _ | exact num_slice _ _ _)
  have hf5 : 0 + (#[.bool p5, .slice a5 n5 c5, .slice y5 m5 d5] : Array Value).size ≤ cur.size := by simp at hfit; simpa using hfit
  have ht_n := ht.keep hK4
  have hy_n := hy.keep hK4
  have EL_n := EL.keep hK4
  have OA_n : OwR10 G (w5.setRow G (spl10 cur.toList 0 [.bool p5, .slice a5 n5 c5, .slice y5 m5 d5]).toArray) G (n + 1) (n + 1) (spl10 ms 0 [.bool p5, .slice a5 n5 c5, .slice y5 m5 d5]) := ⟨hO4, hP4⟩
  have OR_n := OR.other (us := (spl10 cur.toList 0 [.bool p5, .slice a5 n5 c5, .slice y5 m5 d5]).toArray) hGB
  have C0_n := C0.row (cs := (spl10 cur.toList 0 [.bool p5, .slice a5 n5 c5, .slice y5 m5 d5]).toArray) hGB
  have C1_n := C1.row (cs := (spl10 cur.toList 0 [.bool p5, .slice a5 n5 c5, .slice y5 m5 d5]).toArray) hGB
  have C2_n := C2.row (cs := (spl10 cur.toList 0 [.bool p5, .slice a5 n5 c5, .slice y5 m5 d5]).toArray) hGB
  have BB_n := below_setRow BB hGw (spl10 cur.toList 0 [.bool p5, .slice a5 n5 c5, .slice y5 m5 d5]).toArray
  refine step_store_in rfl 44 (.tmp 33) (.tmp 32) rfl i0 HI0.out.1 G 0 rfl #[.bool p5, .slice a5 n5 c5, .slice y5 m5 d5] rfl cur 44 hcur hf5 HI0.out.2.2.1 (by simp [Value.oneCell']) ?_
  clear ht hy EL OA OR C0 C1 C2 BB hK4 hP4 hO4 hcur hf5 hfit hBg
  generalize w5.setRow G (spl10 cur.toList 0 [.bool p5, .slice a5 n5 c5, .slice y5 m5 d5]).toArray = W7 at *
  have ht := ht_n
  have hy := hy_n
  have EL := EL_n
  have OA := OA_n
  have OR := OR_n
  have C0 := C0_n
  have C1 := C1_n
  have C2 := C2_n
  have BB := BB_n
  clear ht_n hy_n EL_n OA_n OR_n C0_n C1_n C2_n BB_n
  refine hK.out _ _ ?_ (fun hH3 => ?_)
  ·exact ⟨C0.cell, C1.cell, C2.cell⟩
  clear hK K hH2
  (try simp only [Act.put, xL4, xL5, xL6])
  refine wpAnyH_done (by kernel_rfl) ?_ _
  clear hH3
  clear C0 C1 C2
  obtain ⟨cur, hcur, hfit, hBg, hO4⟩ := owns_splice (o := 3) (cs := us) OA.own (by rw [hul]; omega)
  have HDM : Hid (∀ u ∈ us, ¬ IsNum u ∧ u.oneCell' = true) := by
   intro u hu
   obtain ⟨k9, hk⟩ := List.getElem?_of_mem hu
   have hkl := (List.getElem?_eq_some_iff.1 hk).1
   have h9 := HO1.out (k9 / 3) (by omega) (k9 % 3) (by omega)
   rw [show k9 / 3 * 3 + k9 % 3 = k9 by omega, hk] at h9
   cases h9
   exact rep_kinds10 (EL.all (k9 / 3) (by omega)) (k9 % 3) (by omega)
  obtain ⟨hP4, hK4⟩ := pure_splice (o := 3) (cs := us) hcur OA.pur (fun u hu => (HDM.out u hu).1)
  have EL6 := EL.keep hK4
  have hy6 := hy.keep hK4
  have BB6 := below_setRow BB hGw (spl10 cur.toList 3 us).toArray
  have HSRC : Hid (∀ j u, us[j]? = some u → W7.cell? ((⟨gu, 0, none⟩ : Addr).add j) = some u) := fun j u hu => by
   have := owns_cell OR.own hu
   rw [add_off, Nat.zero_add]
   exact this
  have HFR : Hid (FRow (W7.setRow G (spl10 cur.toList 3 us).toArray) (.slice (some ⟨G, 0, none⟩) (n + 1) (n + 1)) (n + 1) (stq q n)) := by
   refine ⟨_, RowAt.of_owns hO4 (steps_list hml hul HO1.out _ _ _), fun i hi => ?_⟩
   unfold stq
   rw [if_neg hn0]
   by_cases h1 : i = 0
   ·subst h1
    simp
    exact hy6
   ·simp only [if_neg h1]
    exact EL6.all (i - 1) (by omega)
  have hinf : (Tryz.prog.info? 44).map (·.size) = some 3 := by rw [HI0.out.1]; simp [HI0.out.2.2.1]
  have HINF : Hid ((Tryz.prog.info? 44).map (·.size) = some 3) := hinf
  clear hinf hO4 hP4 hK4 EL6 hy6 EL hy OA OR BB ht hBg ru h1
  have q1 : (1 : Int) ≤ (n : Int) + 1 := by omega
  have q2 : ¬ n = 0 := hn0
  have q3 : ¬ n + 1 = 1 := by omega
  have hfc : 3 + us.length ≤ cur.size := hfit
  go_wp2_with (refine wpList_copy3 rfl _ _ 47 47 rfl 44 Tryz.underlying47 HINF.out ⟨gu, 0, none⟩ _ _ _ _ G 3 rfl rfl cur 44 hcur us (by rw [hul]; simp only [Nat.min_def]; split <;> omega) HSRC.out hfc (fun u hu => (HDM.out u hu).2) ?_)
  go_ret2
  exact ⟨_, n, q, rfl, HFR.out, HCI.out, BB6⟩

/-- The cells of a row, one behind the other. -/
def flat4 (el : Nat → Nat → Value) (n : Nat) : List Value := (List.range (n * 4)).map fun k => el (k / 4) (k % 4)
theorem flat4_len (el : Nat → Nat → Value) (n : Nat) : (flat4 el n).length = n * 4 := by simp [flat4]
theorem flat4_at (el : Nat → Nat → Value) (n i j : Nat) (hi : i < n) (hj : j < 4) : (flat4 el n)[i * 4 + j]? = some (el i j) := by
 have hlt : i * 4 + j < n * 4 := by omega
 simp only [flat4, List.getElem?_map, List.getElem?_range hlt, Option.map_some]
 rw [show (i * 4 + j) / 4 = i by omega, show (i * 4 + j) % 4 = j by omega]
theorem flat4_mem {el : Nat → Nat → Value} {n : Nat} {u : Value} (h : u ∈ flat4 el n) : ∃ i j, i < n ∧ j < 4 ∧ u = el i j := by
 simp only [flat4, List.mem_map, List.mem_range] at h
 obtain ⟨k, hk, rfl⟩ := h
 exact ⟨k / 4, k % 4, by omega, by omega, rfl⟩
theorem flat4_get {el : Nat → Nat → Value} {n k : Nat} {u : Value} (h : (flat4 el n)[k]? = some u) : ∃ i j, i < n ∧ j < 4 ∧ k = i * 4 + j ∧ u = el i j := by
 have hk : k < n * 4 := by have := (List.getElem?_eq_some_iff.1 h).1; rw [flat4_len] at this; exact this
 refine ⟨k / 4, k % 4, by omega, by omega, by omega, ?_⟩
 have := flat4_at el n (k / 4) (k % 4) (by omega) (by omega)
 rw [show k / 4 * 4 + k % 4 = k by omega, h] at this
 cases this; rfl
theorem CellAt.kinds {w : World} {el : Nat → Value} {d : Cl} {L : Nat} (h : CellAt w el d L) : ∀ j, j < 4 → ¬ IsLimb (el j) ∧ (el j).oneCell' = true := fun j hj => by
 obtain ⟨e0, p, ao, m, c, bo, k, dd, e1, e2, e3, _⟩ := h
 rcases (by omega : j = 0 ∨ j = 1 ∨ j = 2 ∨ j = 3) with rfl | rfl | rfl | rfl
 ·rw [e0]; exact ⟨limb_bool _, rfl⟩
 ·rw [e1]; exact ⟨limb_bool _, rfl⟩
 ·rw [e2]; exact ⟨limb_slice _ _ _, rfl⟩
 ·rw [e3]; exact ⟨limb_slice _ _ _, rfl⟩

/-- What is known of the step told so far, of the first i of the steps looked at. -/
structure StI (q : Nat → Rat) (n : Nat) (v : Rat) (i : Nat) (σ : Rat) : Prop where
 done : ∀ j, j < n → j + 1 < i → (v < q j ↔ σ < q j)
 open_ : ∀ j, j < n → i ≤ j + 1 → σ < q j
 sz : qsz σ ≤ 8
theorem stq_zero {q : Nat → Rat} {n : Nat} (h : n ≠ 0) : stq q n 0 = q 0 - 1 := by unfold stq; rw [if_neg h, if_pos rfl]
theorem stq_succ {q : Nat → Rat} {n j : Nat} (h : n ≠ 0) : stq q n (j + 1) = q j := by unfold stq; rw [if_neg h, if_neg (by omega)]; rfl
theorem stq_sz {q : Nat → Rat} {n : Nat} (hz : ∀ i, i < n → qsz (q i) ≤ 4) : ∀ i, i < n + 1 → qsz (stq q n i) ≤ 8 := by
 intro i hi
 by_cases h : n = 0
 ·unfold stq; rw [if_pos h]
  exact Nat.le_trans (qsz_int 0 (L := 1) (by decide) (by omega)) (by omega)
 ·cases i with
  | zero => rw [stq_zero h]; exact Nat.le_trans (qsz_sub _ _ (hz 0 (by omega)) one_sz10) (by omega)
  | succ j => rw [stq_succ h]; exact Nat.le_trans (hz j (by omega)) (by omega)
theorem StI.start {q : Nat → Rat} {n : Nat} {v : Rat} (hs : ∀ i j, i < j → j < n → q i < q j) (hz : ∀ i, i < n → qsz (q i) ≤ 4) : StI q n v 0 (stq q n 0) := by
 refine ⟨fun j _ h => absurd h (by omega), fun j hj _ => ?_, stq_sz hz 0 (by omega)⟩
 rw [stq_zero (by omega)]
 by_cases e : j = 0
 ·subst e; grind
 ·have := hs 0 j (by omega) hj; grind
theorem StI.yes {q : Nat → Rat} {n : Nat} {v σ : Rat} {i : Nat} (hs : ∀ i j, i < j → j < n → q i < q j) (hz : ∀ i, i < n → qsz (q i) ≤ 4) (hi : i < n + 1) (h : StI q n v i σ) (hle : stq q n i ≤ v) : StI q n v (i + 1) (stq q n i) := by
 refine ⟨fun j hj h1 => ?_, fun j hj h1 => ?_, stq_sz hz i hi⟩
 ·obtain ⟨m, rfl⟩ : ∃ m, i = m + 1 := ⟨i - 1, by omega⟩
  rw [stq_succ (by omega)] at hle ⊢
  by_cases e : j = m
  ·subst e; grind
  ·have := hs j m (by omega) (by omega); grind
 ·cases i with
  | zero =>
   rw [stq_zero (by omega)]
   by_cases e : j = 0
   ·subst e; grind
   ·have := hs 0 j (by omega) hj; grind
  | succ m => rw [stq_succ (by omega)]; exact hs m j (by omega) hj
theorem StI.no {q : Nat → Rat} {n : Nat} {v σ : Rat} {i : Nat} (hi : i < n + 1) (h : StI q n v i σ) (hle : ¬ stq q n i ≤ v) : StI q n v (i + 1) σ := by
 refine ⟨fun j hj h1 => ?_, fun j hj h1 => h.open_ j hj (by omega), h.sz⟩
 by_cases e : j + 1 = i
 ·subst e
  rw [stq_succ (by omega)] at hle
  have := h.open_ j hj (by omega)
  grind
 ·exact h.done j hj (by omega)
/-- The row with another number at a place. -/
def setC (r : Nat → Cl) (f : Nat) (σ : Rat) : Nat → Cl := fun i => if i = f then ⟨false, σ⟩ else r i
theorem goL_stand {T : Nat → Nat → Nd} {N : Nat → Nat} {k fn n : Nat} {q : Nat → Rat} {L : Nat} {r : Nat → Cl} {σ : Rat} (hc : CutI T N k (fn : Int) L k 0 q n) (hm : (r fn).miss = false) (hst : StI q n (r fn).val (n + 1) σ) {a b : Nat} (ha : a < k) (hb : b < N a) (hl : (T a b).leaf = false) (hf : 0 ≤ (T a b).feat) : nxt (T a b) (setC r fn σ) = nxt (T a b) r := by
 have h : goL (T a b) (setC r fn σ (T a b).feat.toNat) = goL (T a b) (r (T a b).feat.toNat) := by
  unfold setC
  by_cases e : (T a b).feat.toNat = fn
  ·rw [if_pos e, e]
   obtain ⟨j, hj, ej⟩ := hc.all a b (.inl ha) hb ⟨hl, by omega⟩
   simp only [goL, hl, hm, Bool.false_eq_true, if_false]
   have := hst.done j hj (by omega)
   rw [ej] at this
   by_cases c : (r fn).val < (T a b).cut
   ·rw [decide_eq_true c, decide_eq_true (this.1 c)]
   ·rw [decide_eq_false c, decide_eq_false (fun d => c (this.2 d))]
  ·rw [if_neg e]
 unfold nxt
 rw [h]
theorem leafV_stand {T : Nat → Nat → Nd} {N : Nat → Nat} {k fn n : Nat} {F : Int} {q : Nat → Rat} {L : Nat} {r : Nat → Cl} {σ : Rat} (hc : CutI T N k (fn : Int) L k 0 q n) (hm : (r fn).miss = false) (hst : StI q n (r fn).val (n + 1) σ) (hM : ∀ i, i < k → MayT F (T i) (N i)) : ∀ i, i < k → leafV T N (setC r fn σ) i = leafV T N r i := by
 intro i hi
 have hT := hM i hi
 have key : ∀ x, x < N i → wlast (T i) (N i) (setC r fn σ) x = wlast (T i) (N i) r x := fun x hx =>
  hT.by_way r (P := fun x => wlast (T i) (N i) (setC r fn σ) x = wlast (T i) (N i) r x) (fun x hx hl => by rw [wlast_leaf hl, wlast_leaf hl]) (fun x hx hl ih => by
   rw [hT.wlast_split _ hx hl, hT.wlast_split r hx hl, goL_stand hc hm hst hi hx hl (hT.feat x hx hl).1]
   exact ih) hx
 unfold leafV
 rw [key 0 hT.pos]
theorem sumq_congr10 {q q' : Nat → Rat} : ∀ n, (∀ i, i < n → q i = q' i) → sumq q n = sumq q' n
 | 0, _ => rfl
 | n + 1, h => by
  show sumq q n + q n = sumq q' n + q' n
  rw [sumq_congr10 n (fun i hi => h i (by omega)), h n (by omega)]
/-- The same trees, their numbers let be longer. -/
theorem NodeAt.mono10 {w : World} {el : Nat → Value} {d : Nd} {L L' : Nat} (h : NodeAt w el d L) (hL : L ≤ L') : NodeAt w el d L' := by
 obtain ⟨a, b, c, e, f, g, i, j, k⟩ := h
 exact ⟨a, b, c.mono hL, e, f, g, i.mono hL, j.mono hL, k⟩
theorem MRow.mono10 {w : World} {v : Value} {k : Nat} {N : Nat → Nat} {t : Nat → Nat → Nd} {L L' : Nat} (h : MRow w v k N t L) (hL : L ≤ L') : MRow w v k N t L' := by
 obtain ⟨el, h1, h2⟩ := h
 exact ⟨el, h1, fun i hi => let ⟨e2, h3, h4⟩ := h2 i hi; ⟨e2, h3, fun j hj => (h4 j hj).mono10 hL⟩⟩
/-- A row's cells, one of its entries changed. -/
theorem set_row10 {w' : World} {B g c m fn L : Nat} {el : Nat → Nat → Value} {r : Nat → Cl} {σ : Rat} {p : Bool} {a b : Option Addr} {n1 c1 m1 d1 : Nat} (hf : fn < m) (ho : w'.ownsRow B 71 4 (.slice (some ⟨g, 0, none⟩) m c) m (spl10 (flat4 el m) (fn * 4) [.bool false, .bool p, .slice a n1 c1, .slice b m1 d1])) (hc : ∀ i, i < m → CellAt w' (el i) (r i) L) (hq : RatAt w' (.agg #[.bool p, .slice a n1 c1, .slice b m1 d1]) σ L) : CRow w' (.slice (some ⟨g, 0, none⟩) m c) m (setC r fn σ) L := by
 have hl := flat4_len el m
 refine ⟨fun i j => if i = fn then [Value.bool false, .bool p, .slice a n1 c1, .slice b m1 d1].getD j undef else el i j, RowAt.of_owns (k := 4) ho (fun i hi j hj => ?_), fun i hi => ?_⟩
 ·rw [spl10_at (by rw [hl]; simp; omega)]
  by_cases e : i = fn
  ·subst e
   rw [if_neg (by omega), if_pos (by simp; omega), show i * 4 + j - i * 4 = j by omega]
   simp only [if_pos]
   rcases (show j = 0 ∨ j = 1 ∨ j = 2 ∨ j = 3 by omega) with rfl | rfl | rfl | rfl <;> rfl
  ·simp only [if_neg e]
   by_cases h1 : i * 4 + j < fn * 4
   ·rw [if_pos h1]; exact flat4_at el m i j hi hj
   ·rw [if_neg h1, if_neg (by simp; omega)]; exact flat4_at el m i j hi hj
 ·unfold setC
  by_cases e : i = fn
  ·subst e
   simp only [if_pos]
   exact ⟨rfl, p, a, n1, c1, b, m1, d1, rfl, rfl, rfl, hq⟩
  ·simp only [if_neg e]
   exact hc i hi

end Go.Proofs.YtnnnkajomljdgaaGreatDoor
