/-
  Texts of mine.
-/
import Derived.Test.YtbelnhpjhpoacaaDoorJ0c5723db7a
import Derived.Test.YtbelnhpjhpoacaaDoorJ132f1d6029
import Derived.Deep.QuietTactic
import Derived.BigQuiet
namespace Go.Proofs.YtbelnhpjhpoacaaDoor
open Go.RowKit
set_option linter.unusedVariables false
set_option linter.unusedSimpArgs false

theorem V14.block7 {w w' : World} {R : Nat} {x0 x1 x2 x3 x4 x5 x6 x7 x8 x9 x10 x11 x12 x13 : Value} (h : V14 w R x0 x1 x2 x3 x4 x5 x6 x7 x8 x9 x10 x11 x12 x13) (hb : w'.heap[R]? = w.heap[R]?) : V14 w' R x0 x1 x2 x3 x4 x5 x6 x7 x8 x9 x10 x11 x12 x13 :=
  ⟨(World.cell?_of_block hb).trans h.c0, (World.cell?_of_block hb).trans h.c1, (World.cell?_of_block hb).trans h.c2, (World.cell?_of_block hb).trans h.c3, (World.cell?_of_block hb).trans h.c4, (World.cell?_of_block hb).trans h.c5, (World.cell?_of_block hb).trans h.c6, (World.cell?_of_block hb).trans h.c7, (World.cell?_of_block hb).trans h.c8, (World.cell?_of_block hb).trans h.c9, (World.cell?_of_block hb).trans h.c10, (World.cell?_of_block hb).trans h.c11, (World.cell?_of_block hb).trans h.c12, (World.cell?_of_block hb).trans h.c13⟩
/-- A new node's variable. -/
def NwN (B : Nat) (w : World) (v : Value) : Prop := ∃ R, v = .pointer (some ⟨R, 0, none⟩) ∧ B ≤ R ∧ VS14 w R (.bool false) (.int .i64 0) (.bool false) (.slice none 0 0) (.slice none 0 0) (.int .i64 0) (.int .i64 0) (.bool false) (.bool false) (.slice none 0 0) (.slice none 0 0) (.bool false) (.slice none 0 0) (.slice none 0 0)
theorem NwN.below {B : Nat} {w w' : World} {v : Value} (h : NwN B w v) (hb : Below w.heap.size w w') : NwN B w' v := let ⟨R, a, b, c⟩ := h; ⟨R, a, b, c.below hb⟩
/-- A node with a cover alone. -/
def BldN (w : World) (v : Value) (lf : Bool) (q : Rat) : Prop := ∃ p a n c b m d, v = .agg #[.bool lf, .int .i64 0, .bool false, .slice none 0 0, .slice none 0 0, .int .i64 0, .int .i64 0, .bool false, .bool false, .slice none 0 0, .slice none 0 0, .bool p, .slice a n c, .slice b m d] ∧ RepQ w (.agg #[.bool p, .slice a n c, .slice b m d]) q
theorem BldN.below {w w' : World} {v : Value} {lf : Bool} {q : Rat} (h : BldN w v lf q) (hb : Below w.heap.size w w') : BldN w' v lf q := let ⟨p, a, n, c, b, m, d, e, r⟩ := h; ⟨p, a, n, c, b, m, d, e, r.below hb⟩
theorem VS14.s1 {w : World} {R : Nat} {x0 x1 x2 x3 x4 x5 x6 x7 x8 x9 x10 x11 x12 x13 : Value} (h : VS14 w R x0 x1 x2 x3 x4 x5 x6 x7 x8 x9 x10 x11 x12 x13) (u1 : Value) : VS14 ((w).setCell ⟨R, 1, none⟩ u1) R x0 u1 x2 x3 x4 x5 x6 x7 x8 x9 x10 x11 x12 x13 := by
  obtain ⟨⟨c0, c1, c2, c3, c4, c5, c6, c7, c8, c9, c10, c11, c12, c13⟩, f⟩ := h
  exact ⟨⟨(cell_set_by c0 (by omega)), (cell_set_at c1), (cell_set_by c2 (by omega)), (cell_set_by c3 (by omega)), (cell_set_by c4 (by omega)), (cell_set_by c5 (by omega)), (cell_set_by c6 (by omega)), (cell_set_by c7 (by omega)), (cell_set_by c8 (by omega)), (cell_set_by c9 (by omega)), (cell_set_by c10 (by omega)), (cell_set_by c11 (by omega)), (cell_set_by c12 (by omega)), (cell_set_by c13 (by omega))⟩, fun j => by simp [f j]⟩
theorem VS14.k1 {w : World} {R : Nat} {x0 x1 x2 x3 x4 x5 x6 x7 x8 x9 x10 x11 x12 x13 : Value} (h : VS14 w R x0 x1 x2 x3 x4 x5 x6 x7 x8 x9 x10 x11 x12 x13) (l1 : ¬ IsLimb x1) (u1 : Value) : KeepQ IsLimb w ((w).setCell ⟨R, 1, none⟩ u1) := by
  obtain ⟨⟨c0, c1, c2, c3, c4, c5, c6, c7, c8, c9, c10, c11, c12, c13⟩, f⟩ := h
  exact (keepL_set c1 l1 u1)
theorem VS14.s2 {w : World} {R : Nat} {x0 x1 x2 x3 x4 x5 x6 x7 x8 x9 x10 x11 x12 x13 : Value} (h : VS14 w R x0 x1 x2 x3 x4 x5 x6 x7 x8 x9 x10 x11 x12 x13) (u2 u3 u4 : Value) : VS14 ((((w).setCell ⟨R, 2, none⟩ u2).setCell ⟨R, 3, none⟩ u3).setCell ⟨R, 4, none⟩ u4) R x0 x1 u2 u3 u4 x5 x6 x7 x8 x9 x10 x11 x12 x13 := by
  obtain ⟨⟨c0, c1, c2, c3, c4, c5, c6, c7, c8, c9, c10, c11, c12, c13⟩, f⟩ := h
  exact ⟨⟨(cell_set_by (cell_set_by (cell_set_by c0 (by omega)) (by omega)) (by omega)), (cell_set_by (cell_set_by (cell_set_by c1 (by omega)) (by omega)) (by omega)), (cell_set_by (cell_set_by (cell_set_at c2) (by omega)) (by omega)), (cell_set_by (cell_set_at (cell_set_by c3 (by omega))) (by omega)), (cell_set_at (cell_set_by (cell_set_by c4 (by omega)) (by omega))), (cell_set_by (cell_set_by (cell_set_by c5 (by omega)) (by omega)) (by omega)), (cell_set_by (cell_set_by (cell_set_by c6 (by omega)) (by omega)) (by omega)), (cell_set_by (cell_set_by (cell_set_by c7 (by omega)) (by omega)) (by omega)), (cell_set_by (cell_set_by (cell_set_by c8 (by omega)) (by omega)) (by omega)), (cell_set_by (cell_set_by (cell_set_by c9 (by omega)) (by omega)) (by omega)), (cell_set_by (cell_set_by (cell_set_by c10 (by omega)) (by omega)) (by omega)), (cell_set_by (cell_set_by (cell_set_by c11 (by omega)) (by omega)) (by omega)), (cell_set_by (cell_set_by (cell_set_by c12 (by omega)) (by omega)) (by omega)), (cell_set_by (cell_set_by (cell_set_by c13 (by omega)) (by omega)) (by omega))⟩, fun j => by simp [f j]⟩
theorem VS14.k2 {w : World} {R : Nat} {x0 x1 x2 x3 x4 x5 x6 x7 x8 x9 x10 x11 x12 x13 : Value} (h : VS14 w R x0 x1 x2 x3 x4 x5 x6 x7 x8 x9 x10 x11 x12 x13) (l2 : ¬ IsLimb x2) (l3 : ¬ IsLimb x3) (l4 : ¬ IsLimb x4) (u2 u3 u4 : Value) : KeepQ IsLimb w ((((w).setCell ⟨R, 2, none⟩ u2).setCell ⟨R, 3, none⟩ u3).setCell ⟨R, 4, none⟩ u4) := by
  obtain ⟨⟨c0, c1, c2, c3, c4, c5, c6, c7, c8, c9, c10, c11, c12, c13⟩, f⟩ := h
  exact (((keepL_set c2 l2 u2).trans (keepL_set (cell_set_by c3 (by omega)) l3 u3)).trans (keepL_set (cell_set_by (cell_set_by c4 (by omega)) (by omega)) l4 u4))
theorem VS14.s5 {w : World} {R : Nat} {x0 x1 x2 x3 x4 x5 x6 x7 x8 x9 x10 x11 x12 x13 : Value} (h : VS14 w R x0 x1 x2 x3 x4 x5 x6 x7 x8 x9 x10 x11 x12 x13) (u5 : Value) : VS14 ((w).setCell ⟨R, 5, none⟩ u5) R x0 x1 x2 x3 x4 u5 x6 x7 x8 x9 x10 x11 x12 x13 := by
  obtain ⟨⟨c0, c1, c2, c3, c4, c5, c6, c7, c8, c9, c10, c11, c12, c13⟩, f⟩ := h
  exact ⟨⟨(cell_set_by c0 (by omega)), (cell_set_by c1 (by omega)), (cell_set_by c2 (by omega)), (cell_set_by c3 (by omega)), (cell_set_by c4 (by omega)), (cell_set_at c5), (cell_set_by c6 (by omega)), (cell_set_by c7 (by omega)), (cell_set_by c8 (by omega)), (cell_set_by c9 (by omega)), (cell_set_by c10 (by omega)), (cell_set_by c11 (by omega)), (cell_set_by c12 (by omega)), (cell_set_by c13 (by omega))⟩, fun j => by simp [f j]⟩
theorem VS14.k5 {w : World} {R : Nat} {x0 x1 x2 x3 x4 x5 x6 x7 x8 x9 x10 x11 x12 x13 : Value} (h : VS14 w R x0 x1 x2 x3 x4 x5 x6 x7 x8 x9 x10 x11 x12 x13) (l5 : ¬ IsLimb x5) (u5 : Value) : KeepQ IsLimb w ((w).setCell ⟨R, 5, none⟩ u5) := by
  obtain ⟨⟨c0, c1, c2, c3, c4, c5, c6, c7, c8, c9, c10, c11, c12, c13⟩, f⟩ := h
  exact (keepL_set c5 l5 u5)
theorem VS14.s6 {w : World} {R : Nat} {x0 x1 x2 x3 x4 x5 x6 x7 x8 x9 x10 x11 x12 x13 : Value} (h : VS14 w R x0 x1 x2 x3 x4 x5 x6 x7 x8 x9 x10 x11 x12 x13) (u6 : Value) : VS14 ((w).setCell ⟨R, 6, none⟩ u6) R x0 x1 x2 x3 x4 x5 u6 x7 x8 x9 x10 x11 x12 x13 := by
  obtain ⟨⟨c0, c1, c2, c3, c4, c5, c6, c7, c8, c9, c10, c11, c12, c13⟩, f⟩ := h
  exact ⟨⟨(cell_set_by c0 (by omega)), (cell_set_by c1 (by omega)), (cell_set_by c2 (by omega)), (cell_set_by c3 (by omega)), (cell_set_by c4 (by omega)), (cell_set_by c5 (by omega)), (cell_set_at c6), (cell_set_by c7 (by omega)), (cell_set_by c8 (by omega)), (cell_set_by c9 (by omega)), (cell_set_by c10 (by omega)), (cell_set_by c11 (by omega)), (cell_set_by c12 (by omega)), (cell_set_by c13 (by omega))⟩, fun j => by simp [f j]⟩
theorem VS14.k6 {w : World} {R : Nat} {x0 x1 x2 x3 x4 x5 x6 x7 x8 x9 x10 x11 x12 x13 : Value} (h : VS14 w R x0 x1 x2 x3 x4 x5 x6 x7 x8 x9 x10 x11 x12 x13) (l6 : ¬ IsLimb x6) (u6 : Value) : KeepQ IsLimb w ((w).setCell ⟨R, 6, none⟩ u6) := by
  obtain ⟨⟨c0, c1, c2, c3, c4, c5, c6, c7, c8, c9, c10, c11, c12, c13⟩, f⟩ := h
  exact (keepL_set c6 l6 u6)
theorem VS14.s7 {w : World} {R : Nat} {x0 x1 x2 x3 x4 x5 x6 x7 x8 x9 x10 x11 x12 x13 : Value} (h : VS14 w R x0 x1 x2 x3 x4 x5 x6 x7 x8 x9 x10 x11 x12 x13) (u7 : Value) : VS14 ((w).setCell ⟨R, 7, none⟩ u7) R x0 x1 x2 x3 x4 x5 x6 u7 x8 x9 x10 x11 x12 x13 := by
  obtain ⟨⟨c0, c1, c2, c3, c4, c5, c6, c7, c8, c9, c10, c11, c12, c13⟩, f⟩ := h
  exact ⟨⟨(cell_set_by c0 (by omega)), (cell_set_by c1 (by omega)), (cell_set_by c2 (by omega)), (cell_set_by c3 (by omega)), (cell_set_by c4 (by omega)), (cell_set_by c5 (by omega)), (cell_set_by c6 (by omega)), (cell_set_at c7), (cell_set_by c8 (by omega)), (cell_set_by c9 (by omega)), (cell_set_by c10 (by omega)), (cell_set_by c11 (by omega)), (cell_set_by c12 (by omega)), (cell_set_by c13 (by omega))⟩, fun j => by simp [f j]⟩
theorem VS14.k7 {w : World} {R : Nat} {x0 x1 x2 x3 x4 x5 x6 x7 x8 x9 x10 x11 x12 x13 : Value} (h : VS14 w R x0 x1 x2 x3 x4 x5 x6 x7 x8 x9 x10 x11 x12 x13) (l7 : ¬ IsLimb x7) (u7 : Value) : KeepQ IsLimb w ((w).setCell ⟨R, 7, none⟩ u7) := by
  obtain ⟨⟨c0, c1, c2, c3, c4, c5, c6, c7, c8, c9, c10, c11, c12, c13⟩, f⟩ := h
  exact (keepL_set c7 l7 u7)
theorem VS14.s8 {w : World} {R : Nat} {x0 x1 x2 x3 x4 x5 x6 x7 x8 x9 x10 x11 x12 x13 : Value} (h : VS14 w R x0 x1 x2 x3 x4 x5 x6 x7 x8 x9 x10 x11 x12 x13) (u8 u9 u10 : Value) : VS14 ((((w).setCell ⟨R, 8, none⟩ u8).setCell ⟨R, 9, none⟩ u9).setCell ⟨R, 10, none⟩ u10) R x0 x1 x2 x3 x4 x5 x6 x7 u8 u9 u10 x11 x12 x13 := by
  obtain ⟨⟨c0, c1, c2, c3, c4, c5, c6, c7, c8, c9, c10, c11, c12, c13⟩, f⟩ := h
  exact ⟨⟨(cell_set_by (cell_set_by (cell_set_by c0 (by omega)) (by omega)) (by omega)), (cell_set_by (cell_set_by (cell_set_by c1 (by omega)) (by omega)) (by omega)), (cell_set_by (cell_set_by (cell_set_by c2 (by omega)) (by omega)) (by omega)), (cell_set_by (cell_set_by (cell_set_by c3 (by omega)) (by omega)) (by omega)), (cell_set_by (cell_set_by (cell_set_by c4 (by omega)) (by omega)) (by omega)), (cell_set_by (cell_set_by (cell_set_by c5 (by omega)) (by omega)) (by omega)), (cell_set_by (cell_set_by (cell_set_by c6 (by omega)) (by omega)) (by omega)), (cell_set_by (cell_set_by (cell_set_by c7 (by omega)) (by omega)) (by omega)), (cell_set_by (cell_set_by (cell_set_at c8) (by omega)) (by omega)), (cell_set_by (cell_set_at (cell_set_by c9 (by omega))) (by omega)), (cell_set_at (cell_set_by (cell_set_by c10 (by omega)) (by omega))), (cell_set_by (cell_set_by (cell_set_by c11 (by omega)) (by omega)) (by omega)), (cell_set_by (cell_set_by (cell_set_by c12 (by omega)) (by omega)) (by omega)), (cell_set_by (cell_set_by (cell_set_by c13 (by omega)) (by omega)) (by omega))⟩, fun j => by simp [f j]⟩
theorem VS14.k8 {w : World} {R : Nat} {x0 x1 x2 x3 x4 x5 x6 x7 x8 x9 x10 x11 x12 x13 : Value} (h : VS14 w R x0 x1 x2 x3 x4 x5 x6 x7 x8 x9 x10 x11 x12 x13) (l8 : ¬ IsLimb x8) (l9 : ¬ IsLimb x9) (l10 : ¬ IsLimb x10) (u8 u9 u10 : Value) : KeepQ IsLimb w ((((w).setCell ⟨R, 8, none⟩ u8).setCell ⟨R, 9, none⟩ u9).setCell ⟨R, 10, none⟩ u10) := by
  obtain ⟨⟨c0, c1, c2, c3, c4, c5, c6, c7, c8, c9, c10, c11, c12, c13⟩, f⟩ := h
  exact (((keepL_set c8 l8 u8).trans (keepL_set (cell_set_by c9 (by omega)) l9 u9)).trans (keepL_set (cell_set_by (cell_set_by c10 (by omega)) (by omega)) l10 u10))


set_option maxRecDepth 100000 in
set_option maxHeartbeats 8000000 in
theorem ltidy_at (F : Int) (v : Value) (k : Nat) (N : Nat → Nat) (T : Nat → Nat → Nd) (L : Nat) (w : World) (hv : MRow w v k N T L) (hk : k ≤ 1000) (hN : ∀ i, i < k → N i ≤ 1000) (h1 : 1 ≤ L) (hM : L ≤ 9000) (ht : Tab w) :
    Calls Tryd.prog 7 #[.agg #[.int .i64 F, v]] w fun e w' => ∃ r, e = .returned (.agg #[.int .i64 F, r]) ∧ TMo w.heap.size w' r (tidM N T k) ∧ Below w.heap.size w w' := by
  obtain ⟨ao, c, rfl, hnc, hc63⟩ := hv.open
  have BB : Below w.heap.size w w := Below.refl _ _
  obtain ⟨Wb0, hW0, hS0, hL0, VM⟩ := V2.lay w 24 (.int .i64 F) (.slice ao k c)
  replace BB := BB.trans (hL0.mono BB.size)
  clear hL0
  obtain ⟨Wb1, hW1, hS1, hL1, VR⟩ := V2.lay Wb0 24 (.int .i64 0) (.slice none 0 0)
  rw [hS0] at VR hS1
  replace VM := VM.below hL1
  replace BB := BB.trans (hL1.mono BB.size)
  clear hL1
  obtain ⟨W2, hW2, hS2, hL2, VO⟩ := V2.lay Wb1 24 (.int .i64 F) (.slice none 0 0)
  rw [hS1] at VO hS2
  have VM3 := VM.below hL2
  obtain ⟨VM_0, VM_1, VM_2, VM_3⟩ := id VM
  rw [hW1, hW0] at VM_0 VM_1 VM_2 VM_3
  obtain ⟨VO_0, VO_1, VO_2, VO_3⟩ := id VO
  rw [hW2, hW1, hW0] at VO_0 VO_1 VO_2 VO_3
  go_enter Tryd.func7, Tryd.ntmps7
  go_wp2
  clear VM_0 VM_1 VM_2 VM_3 VO_0 VO_1 VO_2 VO_3 VM3
  rw [← hW0]
  rw [← hW1]
  rw [← hW2]
  clear hW0 hW1 hW2
  have HS : Hid (Wb1.heap.size = (w.heap.size + 1 + 1)) := hS1
  have VM0 := VM
  have VR0 := VR
  have BB0 : Hid (Below w.heap.size w Wb1) := BB
  clear VM VR BB hS0 hS1 hS2
  go_loopw [4] (fun vi wr => ∃ (i : Nat) (tr : Value), i ≤ k ∧ vi = .int .i64 (i : Int) ∧ V2 wr (w.heap.size + 1 + 1) (.int .i64 F) tr ∧ TMo (w.heap.size + 1 + 1 + 1) wr tr (tidM N T i) ∧ Below Wb1.heap.size Wb1 wr) (fun vi _ => k - (intOf vi).toNat)
  case atStart => exact ⟨0, _, by omega, rfl, VO, TMo.nil _ _, hL2⟩
  case round =>
    clear VO hL2
    obtain ⟨i, tr, hi, rfl, VO, MO, BL⟩ := hrel
    obtain ⟨at3, ct3, hfm, _⟩ := TMo.form MO
    rw [tidM_len] at hfm
    subst hfm
    obtain ⟨VM_0, VM_1, VM_2, VM_3⟩ := VM0.below BL
    by_cases hlt : i < k
    · have g1 : (i : Int) < (k : Int) := by omega
      have g0 : (0 : Int) ≤ (i : Int) := by omega
      obtain ⟨bT, oT, cT, aT, dT, hvv, hcc, XT0, TR⟩ := hv.at hlt
      cases hvv
      go_wp2
      clear VM_0 VM_1 VM_2 VM_3
      obtain ⟨wo, rfl⟩ : ∃ wo, wo = wr := ⟨_, rfl⟩
      have hni := hN i hlt
      obtain ⟨ni, hnie⟩ : ∃ ni, N i = ni := ⟨_, rfl⟩
      have HNI : Hid (N i = ni) := hnie
      rw [hnie] at XT0 TR hni
      clear hnie
      go_loopw [5, 6] (fun vt vq wr => ∃ q : Nat, q ≤ ni ∧ vq = .int .i64 (q : Int) ∧ TTr wo.heap.size wr vt (tidL (T i) q) ∧ Below wo.heap.size wo wr) (fun _ vq _ => ni - (intOf vq).toNat)
      case atStart => exact ⟨0, by omega, rfl, GOwn.nil, Below.refl _ _⟩
      case round =>
        obtain ⟨q, hq, rfl, TO, BI⟩ := hrel
        have BW := BL.trans (BI.mono BL.size)
        have BB := BB0.out.trans (BW.mono BB0.out.size)
        obtain ⟨VM_0, VM_1, VM_2, VM_3⟩ := VM0.below BW
        have XT : wr.cell? ⟨bT, oT + i, none⟩ = some (.slice aT ni dT) := (BB.cell (World.block_lt_of_cell? _ _ XT0)).trans XT0
        obtain ⟨avt, cvt, hfm, _⟩ := GOwn.form TO
        rw [tidL_len] at hfm
        subst hfm
        by_cases hlq : q < ni
        · have e1 : (q : Int) < (ni : Int) := by omega
          have e0 : (0 : Int) ≤ (q : Int) := by omega
          have TR1 := TR.below BB
          have htB := ht.below BB
          obtain ⟨b, off, cc, p1, a1, n1, c1, b1, m1, d1, p2, a2, n2, c2, b2, m2, d2, p3, a3, n3, c3, b3, m3, d3, hvv, hcc, hc6, NN, r1, r2, r3, i1, i2, i3⟩ := TR1.at hlq
          cases hvv
          have HND : Hid (tidN (T i q) = tidN (T i q)) := rfl
          generalize hTq : T i q = dq at NN r1 r2 r3 HND
          have HTQ : Hid (T i q = dq) := hTq
          clear hTq HND i1 i2 i3
          rcases dq with ⟨lf, ft, qc, ll, rr, ms, qv, qz⟩
          dsimp only at NN r1 r2 r3
          obtain ⟨N_0, N_1, N_2, N_3, N_4, N_5, N_6, N_7, N_8, N_9, N_10, N_11, N_12, N_13⟩ := id NN
          have hRb : wo.heap.size ≤ wr.heap.size := BI.size
          obtain ⟨W9, hW9, hS9, hL9, VN, FN⟩ := V14.lay wr 37 (.bool lf) (.int .i64 ft) (.bool p1) (.slice a1 n1 c1) (.slice b1 m1 d1) (.int .i64 ll) (.int .i64 rr) (.bool ms) (.bool p2) (.slice a2 n2 c2) (.slice b2 m2 d2) (.bool p3) (.slice a3 n3 c3) (.slice b3 m3 d3)
          obtain ⟨V_0, V_1, V_2, V_3, V_4, V_5, V_6, V_7, V_8, V_9, V_10, V_11, V_12, V_13⟩ := id VN
          rw [hW9] at V_0 V_1 V_2 V_3 V_4 V_5 V_6 V_7 V_8 V_9 V_10 V_11 V_12 V_13
          go_wp2_with fail
          clear V_0 V_1 V_2 V_3 V_4 V_5 V_6 V_7 V_8 V_9 V_10 V_11 V_12 V_13 N_0 N_1 N_2 N_3 N_4 N_5 N_6 N_7 N_8 N_9 N_10 N_11 N_12 N_13 VM_0 VM_1 VM_2 VM_3 XT
          rw [← hW9]
          have BR : Below wr.heap.size wr W9 := hL9
          replace r1 := r1.below hL9
          replace r2 := r2.below hL9
          replace r3 := r3.below hL9
          replace htB := htB.below hL9
          have hRR : wr.heap.size < W9.heap.size := by omega
          clear hW9 hS9 hL9 NN FN TR1
          obtain ⟨R, hRe⟩ : ∃ R, wr.heap.size = R := ⟨_, rfl⟩
          have HRE : Hid (wr.heap.size = R) := hRe
          rw [hRe] at BR hRR
          have VNR : V14 W9 R (.bool lf) (.int .i64 ft) (.bool p1) (.slice a1 n1 c1) (.slice b1 m1 d1) (.int .i64 ll) (.int .i64 rr) (.bool ms) (.bool p2) (.slice a2 n2 c2) (.slice b2 m2 d2) (.bool p3) (.slice a3 n3 c3) (.slice b3 m3 d3) := by rw [← hRe]; exact VN
          rw [hRe]
          clear VN hRe
          have BB9 := BB
          clear BB
          have BB : Below R wr W9 := BR
          clear BR
          have r3H := r3
          clear r3
          refine wp_region_until 7 #[true, true, true, true, true, true, true, false] (fun aF lsd a' w' => ∃ vu0 vu1 vu2 vu3 vu4 vu5 vu6 : Value, a' = ((((((aF.put (some 37) vu0).put (some 38) vu1).put (some 39) vu2).put (some 40) vu3).put (some 41) vu4).put (some 42) vu5).put (some 8) vu6 ∧ Below W9.heap.size W9 w' ∧ (lsd.getD 0 false = true → vu0 = .pointer (some ⟨R, 0, none⟩)) ∧ (lsd.getD 1 false = true → vu1 = .bool lf) ∧ (lsd.getD 2 false = true → vu2 = .pointer (some ⟨R, 11, none⟩)) ∧ (lsd.getD 3 false = true → vu3 = .agg #[.bool p3, .slice a3 n3 c3, .slice b3 m3 d3]) ∧ (lsd.getD 4 false = true → RepQ w' vu4 qz) ∧ (lsd.getD 5 false = true → BldN w' vu5 lf qz) ∧ (lsd.getD 6 false = true → NwN W9.heap.size w' vu6)) (by kernel_rfl) (by decide) (by kernel_rfl) (by rfl) (by kernel_rfl) ?_ ?_ ?_
          · exact ⟨_, _, _, _, _, _, _, by simp only [Act.put, List.setIfInBounds_toArray, List.set_cons_zero, List.set_cons_succ]; rfl, (Below.refl _ _).drew, fun h => absurd h (fun h => mark_none h), fun h => absurd h (fun h => mark_none h), fun h => absurd h (fun h => mark_none h), fun h => absurd h (fun h => mark_none h), fun h => absurd h (fun h => mark_none h), fun h => absurd h (fun h => mark_none h), fun h => absurd h (fun h => mark_none h)⟩
          · rintro lsd au wn iu hszu ⟨vu0, vu1, vu2, vu3, vu4, vu5, vu6, rfl, hbu, fu0, fu1, fu2, fu3, fu4, fu5, fu6⟩ himu hru
            rcases (show iu = 0 ∨ iu = 1 ∨ iu = 2 ∨ iu = 3 ∨ iu = 4 ∨ iu = 5 ∨ iu = 6 by omega) with rfl | rfl | rfl | rfl | rfl | rfl | rfl
            · refine wpOp_shut (by rfl) (fun K hK => ?_)
              simp only [Act.put, List.setIfInBounds_toArray, List.set_cons_zero, List.set_cons_succ]
              go_simp
              exact hK.out _ _ ⟨(.pointer (some ⟨R, 0, none⟩)), vu1, vu2, vu3, vu4, vu5, vu6, by simp only [Act.put, List.setIfInBounds_toArray, List.set_cons_zero, List.set_cons_succ], hbu, fun _ => rfl, fun h => fu1 (mark_of (by decide) h), fun h => fu2 (mark_of (by decide) h), fun h => fu3 (mark_of (by decide) h), fun h => fu4 (mark_of (by decide) h), fun h => fu5 (mark_of (by decide) h), fun h => fu6 (mark_of (by decide) h)⟩
            · have eu0 := fu0 (dep_of 0 hru rfl (by kernel_rfl))
              replace eu0 := eu0.symm
              subst eu0
              refine wpOp_shut (by rfl) (fun K hK => ?_)
              simp only [Act.put, List.setIfInBounds_toArray, List.set_cons_zero, List.set_cons_succ]
              obtain ⟨V_0, V_1, V_2, V_3, V_4, V_5, V_6, V_7, V_8, V_9, V_10, V_11, V_12, V_13⟩ := VNR.below hbu
              go_simp
              exact hK.out _ _ ⟨(.pointer (some ⟨R, 0, none⟩)), (.bool lf), vu2, vu3, vu4, vu5, vu6, by simp only [Act.put, List.setIfInBounds_toArray, List.set_cons_zero, List.set_cons_succ], hbu, fun _ => rfl, fun _ => rfl, fun h => fu2 (mark_of (by decide) h), fun h => fu3 (mark_of (by decide) h), fun h => fu4 (mark_of (by decide) h), fun h => fu5 (mark_of (by decide) h), fun h => fu6 (mark_of (by decide) h)⟩
            · refine wpOp_shut (by rfl) (fun K hK => ?_)
              simp only [Act.put, List.setIfInBounds_toArray, List.set_cons_zero, List.set_cons_succ]
              go_simp
              exact hK.out _ _ ⟨vu0, vu1, (.pointer (some ⟨R, 11, none⟩)), vu3, vu4, vu5, vu6, by simp only [Act.put, List.setIfInBounds_toArray, List.set_cons_zero, List.set_cons_succ], hbu, fun h => fu0 (mark_of (by decide) h), fun h => fu1 (mark_of (by decide) h), fun _ => rfl, fun h => fu3 (mark_of (by decide) h), fun h => fu4 (mark_of (by decide) h), fun h => fu5 (mark_of (by decide) h), fun h => fu6 (mark_of (by decide) h)⟩
            · have eu2 := fu2 (dep_of 2 hru rfl (by kernel_rfl))
              replace eu2 := eu2.symm
              subst eu2
              refine wpOp_shut (by rfl) (fun K hK => ?_)
              simp only [Act.put, List.setIfInBounds_toArray, List.set_cons_zero, List.set_cons_succ]
              obtain ⟨V_0, V_1, V_2, V_3, V_4, V_5, V_6, V_7, V_8, V_9, V_10, V_11, V_12, V_13⟩ := VNR.below hbu
              go_simp
              exact hK.out _ _ ⟨vu0, vu1, (.pointer (some ⟨R, 11, none⟩)), (.agg #[.bool p3, .slice a3 n3 c3, .slice b3 m3 d3]), vu4, vu5, vu6, by simp only [Act.put, List.setIfInBounds_toArray, List.set_cons_zero, List.set_cons_succ], hbu, fun h => fu0 (mark_of (by decide) h), fun h => fu1 (mark_of (by decide) h), fun _ => rfl, fun _ => rfl, fun h => fu4 (mark_of (by decide) h), fun h => fu5 (mark_of (by decide) h), fun h => fu6 (mark_of (by decide) h)⟩
            · have eu3 := fu3 (dep_of 3 hru rfl (by kernel_rfl))
              replace eu3 := eu3.symm
              subst eu3
              refine wpOp_shut (by rfl) (fun K hK => ?_)
              simp only [Act.put, List.setIfInBounds_toArray, List.set_cons_zero, List.set_cons_succ]
              have htB := htB.below hbu
              go_simp
              refine (qclean_at _ qz L wn (r3H.below hbu) h1 (by omega) htB).mono ?_
              rintro eu wx ⟨x2, rfl, hcv, bu⟩
              go_wp2_with fail
              have hbu2 := hbu.trans (bu.mono hbu.size)
              exact hK.out _ _ ⟨vu0, vu1, vu2, (.agg #[.bool p3, .slice a3 n3 c3, .slice b3 m3 d3]), _, vu5, vu6, by simp only [Act.put, List.setIfInBounds_toArray, List.set_cons_zero, List.set_cons_succ], hbu2, fun h => fu0 (mark_of (by decide) h), fun h => fu1 (mark_of (by decide) h), fun h => fu2 (mark_of (by decide) h), fun _ => rfl, fun _ => hcv, fun h => (fu5 (mark_of (by decide) h)).below bu, fun h => (fu6 (mark_of (by decide) h)).below bu⟩
            · have eu1 := fu1 (dep_of 1 hru rfl (by kernel_rfl))
              replace eu1 := eu1.symm
              subst eu1
              have hcv := fu4 (dep_of 4 hru rfl (by kernel_rfl))
              obtain ⟨pc, ac, nc, cc, bc, mc, dc, rfl⟩ := hcv.open
              refine wpOp_shut (by rfl) (fun K hK => ?_)
              simp only [Act.put, List.setIfInBounds_toArray, List.set_cons_zero, List.set_cons_succ]
              go_simp
              exact hK.out _ _ ⟨vu0, (.bool lf), vu2, vu3, (.agg #[.bool pc, .slice ac nc cc, .slice bc mc dc]), (.agg #[.bool lf, .int .i64 0, .bool false, .slice none 0 0, .slice none 0 0, .int .i64 0, .int .i64 0, .bool false, .bool false, .slice none 0 0, .slice none 0 0, .bool pc, .slice ac nc cc, .slice bc mc dc]), vu6, by simp only [Act.put, List.setIfInBounds_toArray, List.set_cons_zero, List.set_cons_succ], hbu, fun h => fu0 (mark_of (by decide) h), fun _ => rfl, fun h => fu2 (mark_of (by decide) h), fun h => fu3 (mark_of (by decide) h), fun h => fu4 (mark_of (by decide) h), fun _ => ⟨_, _, _, _, _, _, _, rfl, hcv⟩, fun h => fu6 (mark_of (by decide) h)⟩
            · refine wpOp_shut (by simp only [List.getElem?_toArray, List.getElem?_cons_succ, List.getElem?_cons_zero]; rfl) (fun K hK => ?_)
              simp only [Act.put, List.setIfInBounds_toArray, List.set_cons_zero, List.set_cons_succ]
              go_simp
              obtain ⟨wx, hWx, hSx, bu, VXu, FXu⟩ := V14.lay wn 37 (.bool false) (.int .i64 0) (.bool false) (.slice none 0 0) (.slice none 0 0) (.int .i64 0) (.int .i64 0) (.bool false) (.bool false) (.slice none 0 0) (.slice none 0 0) (.bool false) (.slice none 0 0) (.slice none 0 0)
              rw [← hWx]
              have hbu2 := hbu.trans (bu.mono hbu.size)
              exact hK.out _ _ ⟨vu0, vu1, vu2, vu3, vu4, vu5, _, by simp only [Act.put, List.setIfInBounds_toArray, List.set_cons_zero, List.set_cons_succ], hbu2, fun h => fu0 (mark_of (by decide) h), fun h => fu1 (mark_of (by decide) h), fun h => fu2 (mark_of (by decide) h), fun h => fu3 (mark_of (by decide) h), fun h => (fu4 (mark_of (by decide) h)).below bu, fun h => (fu5 (mark_of (by decide) h)).below bu, fun _ => ⟨_, rfl, hbu.size, VXu, FXu⟩⟩
          rintro au Wu31 ⟨vu0, vu1, vu2, vu3, vu4, vu5, vu6, rfl, hbu, fu0, fu1, fu2, fu3, fu4, fu5, fu6⟩
          have eu0 := (fu0 rfl).symm
          subst eu0
          have eu1 := (fu1 rfl).symm
          subst eu1
          have eu2 := (fu2 rfl).symm
          subst eu2
          have eu3 := (fu3 rfl).symm
          subst eu3
          have hcv := fu4 rfl
          have hbn := fu5 rfl
          have hnw := fu6 rfl
          clear fu0 fu1 fu2 fu3 fu4 fu5 fu6
          replace r1 := r1.below hbu
          replace r2 := r2.below hbu
          replace htB := htB.below hbu
          replace VNR := VNR.below hbu
          replace BB := BB.trans (hbu.mono (by have := BB.size; have := HRE.out; omega))
          clear hbu
          obtain ⟨RX, rfl, hRX, VZ⟩ := hnw
          obtain ⟨pc, ac, nc, cc, bc, mc, dc, rfl, hcv2⟩ := hbn
          clear hcv
          have hcv := hcv2
          clear hcv2
          simp only [Act.put, List.setIfInBounds_toArray, List.set_cons_zero, List.set_cons_succ]
          refine wpAnyH_ready (rs := [7]) (by kernel_rfl) (by simp) ?_
          refine AllReadyH.cons (by rfl) (fun K hK => ?_) AllReadyH.nil
          obtain ⟨⟨Z_0, Z_1, Z_2, Z_3, Z_4, Z_5, Z_6, Z_7, Z_8, Z_9, Z_10, Z_11, Z_12, Z_13⟩, FZ⟩ := id VZ
          have K : KeepQ IsLimb Wu31 (put14 Wu31 RX (.bool lf) (.int .i64 0) (.bool false) (.slice none 0 0) (.slice none 0 0) (.int .i64 0) (.int .i64 0) (.bool false) (.bool false) (.slice none 0 0) (.slice none 0 0) (.bool pc) (.slice ac nc cc) (.slice bc mc dc)) := VZ.1.putK (limb_bool _) (limb_int _) (limb_bool _) (limb_slice _ _ _) (limb_slice _ _ _) (limb_int _) (limb_int _) (limb_bool _) (limb_bool _) (limb_slice _ _ _) (limb_slice _ _ _) (limb_bool _) (limb_slice _ _ _) (limb_slice _ _ _) (.bool lf) (.int .i64 0) (.bool false) (.slice none 0 0) (.slice none 0 0) (.int .i64 0) (.int .i64 0) (.bool false) (.bool false) (.slice none 0 0) (.slice none 0 0) (.bool pc) (.slice ac nc cc) (.slice bc mc dc)
          have VO9 : V14 (put14 Wu31 RX (.bool lf) (.int .i64 0) (.bool false) (.slice none 0 0) (.slice none 0 0) (.int .i64 0) (.int .i64 0) (.bool false) (.bool false) (.slice none 0 0) (.slice none 0 0) (.bool pc) (.slice ac nc cc) (.slice bc mc dc)) RX (.bool lf) (.int .i64 0) (.bool false) (.slice none 0 0) (.slice none 0 0) (.int .i64 0) (.int .i64 0) (.bool false) (.bool false) (.slice none 0 0) (.slice none 0 0) (.bool pc) (.slice ac nc cc) (.slice bc mc dc) := VZ.1.put (.bool lf) (.int .i64 0) (.bool false) (.slice none 0 0) (.slice none 0 0) (.int .i64 0) (.int .i64 0) (.bool false) (.bool false) (.slice none 0 0) (.slice none 0 0) (.bool pc) (.slice ac nc cc) (.slice bc mc dc)
          have FO9 : ∀ j, (put14 Wu31 RX (.bool lf) (.int .i64 0) (.bool false) (.slice none 0 0) (.slice none 0 0) (.int .i64 0) (.int .i64 0) (.bool false) (.bool false) (.slice none 0 0) (.slice none 0 0) (.bool pc) (.slice ac nc cc) (.slice bc mc dc)).frozen? ⟨RX, j, none⟩ = false := by
                      intro j
                      unfold put14
                      simp only [World.frozen?_setCell]
                      exact FZ j
          have hlow : Below RX Wu31 (put14 Wu31 RX (.bool lf) (.int .i64 0) (.bool false) (.slice none 0 0) (.slice none 0 0) (.int .i64 0) (.int .i64 0) (.bool false) (.bool false) (.slice none 0 0) (.slice none 0 0) (.bool pc) (.slice ac nc cc) (.slice bc mc dc)) := put14_below (Below.refl _ _) (Nat.le_refl _) _ _ _ _ _ _ _ _ _ _ _ _ _ _
          have BB2 := BB.trans (hlow.mono (by have := HRE.out; omega))
          have VN2 := VNR.block7 (hlow.block R (by omega))
          have r12 := r1.keepL K
          have r22 := r2.keepL K
          have hc2 := hcv.keepL K
          have ht2 : Tab (put14 Wu31 RX (.bool lf) (.int .i64 0) (.bool false) (.slice none 0 0) (.slice none 0 0) (.int .i64 0) (.int .i64 0) (.bool false) (.bool false) (.slice none 0 0) (.slice none 0 0) (.bool pc) (.slice ac nc cc) (.slice bc mc dc)) := ht.below (BB9.trans (BB2.mono (by have := BB9.size; have := HRE.out; omega)))
          unfold put14 at VO9 FO9 BB2 VN2 r12 r22 hc2 ht2
          obtain ⟨Y_0, Y_1, Y_2, Y_3, Y_4, Y_5, Y_6, Y_7, Y_8, Y_9, Y_10, Y_11, Y_12, Y_13⟩ := id VO9
          go_simp
          refine hK.out _ _ trivial (fun _ => ?_)
          clear hK K
          simp only [Act.put, List.setIfInBounds_toArray, List.set_cons_zero, List.set_cons_succ]
          refine wpAnyH_done (by kernel_rfl) ?_ _
          clear Z_0 Z_1 Z_2 Z_3 Z_4 Z_5 Z_6 Z_7 Z_8 Z_9 Z_10 Z_11 Z_12 Z_13 FZ K VZ VNR r1 r2 r3H hcv htB hlow BB Y_0 Y_1 Y_2 Y_3 Y_4 Y_5 Y_6 Y_7 Y_8 Y_9 Y_10 Y_11 Y_12 Y_13
          have VX : VS14 ((((((((((((((Wu31.setCell ⟨RX, 0, none⟩ (.bool lf)).setCell ⟨RX, 1, none⟩ (.int .i64 0)).setCell ⟨RX, 2, none⟩ (.bool false)).setCell ⟨RX, 3, none⟩ (.slice none 0 0)).setCell ⟨RX, 4, none⟩ (.slice none 0 0)).setCell ⟨RX, 5, none⟩ (.int .i64 0)).setCell ⟨RX, 6, none⟩ (.int .i64 0)).setCell ⟨RX, 7, none⟩ (.bool false)).setCell ⟨RX, 8, none⟩ (.bool false)).setCell ⟨RX, 9, none⟩ (.slice none 0 0)).setCell ⟨RX, 10, none⟩ (.slice none 0 0)).setCell ⟨RX, 11, none⟩ (.bool pc)).setCell ⟨RX, 12, none⟩ (.slice ac nc cc)).setCell ⟨RX, 13, none⟩ (.slice bc mc dc)) RX (.bool lf) (.int .i64 0) (.bool false) (.slice none 0 0) (.slice none 0 0) (.int .i64 0) (.int .i64 0) (.bool false) (.bool false) (.slice none 0 0) (.slice none 0 0) (.bool pc) (.slice ac nc cc) (.slice bc mc dc) := ⟨VO9, FO9⟩
          clear VO9 FO9
          have hRX2 : R < RX := by omega
          generalize (((((((((((((Wu31.setCell ⟨RX, 0, none⟩ (.bool lf)).setCell ⟨RX, 1, none⟩ (.int .i64 0)).setCell ⟨RX, 2, none⟩ (.bool false)).setCell ⟨RX, 3, none⟩ (.slice none 0 0)).setCell ⟨RX, 4, none⟩ (.slice none 0 0)).setCell ⟨RX, 5, none⟩ (.int .i64 0)).setCell ⟨RX, 6, none⟩ (.int .i64 0)).setCell ⟨RX, 7, none⟩ (.bool false)).setCell ⟨RX, 8, none⟩ (.bool false)).setCell ⟨RX, 9, none⟩ (.slice none 0 0)).setCell ⟨RX, 10, none⟩ (.slice none 0 0)).setCell ⟨RX, 11, none⟩ (.bool pc)).setCell ⟨RX, 12, none⟩ (.slice ac nc cc)).setCell ⟨RX, 13, none⟩ (.slice bc mc dc) = W5 at *
          cases lf
          · have K := VX.k1 (limb_int _) (.int .i64 ft)
            have VX2 := VX.s1 (.int .i64 ft)
            have hlow : Below RX W5 (W5.setCell ⟨RX, 1, none⟩ (.int .i64 ft)) := (Below.refl _ _).setCell (p := ⟨RX, 1, none⟩) (Nat.le_refl _) _
            have VN3 := VN2.block7 (hlow.block R (by omega))
            have r13 := r12.keepL K
            have hc3 := hc2.keepL K
            have BB3 := BB2.setCell (p := ⟨RX, 1, none⟩) (by show R ≤ RX; omega) (.int .i64 ft)
            have ht3 : Tab (W5.setCell ⟨RX, 1, none⟩ (.int .i64 ft)) := ht.below (BB9.trans (BB3.mono (by have := BB9.size; have := HRE.out; omega)))
            obtain ⟨V_0, V_1, V_2, V_3, V_4, V_5, V_6, V_7, V_8, V_9, V_10, V_11, V_12, V_13⟩ := id VN2
            obtain ⟨U_0, U_1, U_2, U_3, U_4, U_5, U_6, U_7, U_8, U_9, U_10, U_11, U_12, U_13⟩ := id VN3
            obtain ⟨⟨X_0, X_1, X_2, X_3, X_4, X_5, X_6, X_7, X_8, X_9, X_10, X_11, X_12, X_13⟩, f_⟩ := id VX
            have f1 := f_ 1
            clear f_
            go_wp2_with fail
            clear f1 K hlow VX VN2 r12 r22 hc2 BB2 ht2 V_0 U_0 X_0 V_1 U_1 X_1 V_2 U_2 X_2 V_3 U_3 X_3 V_4 U_4 X_4 V_5 U_5 X_5 V_6 U_6 X_6 V_7 U_7 X_7 V_8 U_8 X_8 V_9 U_9 X_9 V_10 U_10 X_10 V_11 U_11 X_11 V_12 U_12 X_12 V_13 U_13 X_13
            generalize W5.setCell ⟨RX, 1, none⟩ (.int .i64 ft) = W6 at *
            refine (qclean_at _ qc L _ r13 h1 (by omega) ht3).mono ?_
            rintro e w7 ⟨x2, rfl, hx, b1⟩
            obtain ⟨px, ax, nx, cx, bx, mx, dx, rfl⟩ := hx.open
            replace VX2 := VX2.below b1
            replace VN3 := VN3.below b1
            replace hc3 := hc3.below b1
            replace BB3 := BB3.trans (b1.mono (by have := BB3.size; have := HRE.out; omega))
            clear b1 r13 ht3
            have VXa := VX2.s2 (.bool px) (.slice ax nx cx) (.slice bx mx dx)
            have VXb := VXa.s5 (.int .i64 ll)
            have VXc := VXb.s6 (.int .i64 rr)
            have VXd := VXc.s7 (.bool ms)
            have K := ((VX2.k2 (limb_bool _) (limb_slice _ _ _) (limb_slice _ _ _) (.bool px) (.slice ax nx cx) (.slice bx mx dx)).trans (VXa.k5 (limb_int _) (.int .i64 ll))).trans ((VXb.k6 (limb_int _) (.int .i64 rr)).trans (VXc.k7 (limb_bool _) (.bool ms)))
            have ha : Below RX w7 ((((w7).setCell ⟨RX, 2, none⟩ (.bool px)).setCell ⟨RX, 3, none⟩ (.slice ax nx cx)).setCell ⟨RX, 4, none⟩ (.slice bx mx dx)) := (((Below.refl _ _).setCell (p := ⟨RX, 2, none⟩) (Nat.le_refl _) _).setCell (p := ⟨RX, 3, none⟩) (Nat.le_refl _) _).setCell (p := ⟨RX, 4, none⟩) (Nat.le_refl _) _
            have hb := ha.setCell (p := ⟨RX, 5, none⟩) (Nat.le_refl _) (.int .i64 ll)
            have hc := hb.setCell (p := ⟨RX, 6, none⟩) (Nat.le_refl _) (.int .i64 rr)
            have hd := hc.setCell (p := ⟨RX, 7, none⟩) (Nat.le_refl _) (.bool ms)
            have hlt7 : R < RX := hRX2
            have VNa := VN3.block7 (ha.block R hlt7)
            have VNb := VN3.block7 (hb.block R hlt7)
            have VNc := VN3.block7 (hc.block R hlt7)
            replace hx := hx.keepL K
            replace hc3 := hc3.keepL K
            have BB2 := BB3.trans (hd.mono (by omega))
            obtain ⟨⟨X_0, X_1, X_2, X_3, X_4, X_5, X_6, X_7, X_8, X_9, X_10, X_11, X_12, X_13⟩, f_⟩ := id VX2
            have f2 := f_ 2
            have f3 := f_ 3
            have f4 := f_ 4
            have f5 := f_ 5
            have f6 := f_ 6
            have f7 := f_ 7
            clear f_
            obtain ⟨Na_0, Na_1, Na_2, Na_3, Na_4, Na_5, Na_6, Na_7, Na_8, Na_9, Na_10, Na_11, Na_12, Na_13⟩ := id VNa
            obtain ⟨Nb_0, Nb_1, Nb_2, Nb_3, Nb_4, Nb_5, Nb_6, Nb_7, Nb_8, Nb_9, Nb_10, Nb_11, Nb_12, Nb_13⟩ := id VNb
            obtain ⟨Nc_0, Nc_1, Nc_2, Nc_3, Nc_4, Nc_5, Nc_6, Nc_7, Nc_8, Nc_9, Nc_10, Nc_11, Nc_12, Nc_13⟩ := id VNc
            obtain ⟨⟨Ya_0, Ya_1, Ya_2, Ya_3, Ya_4, Ya_5, Ya_6, Ya_7, Ya_8, Ya_9, Ya_10, Ya_11, Ya_12, Ya_13⟩, ga_⟩ := id VXa
            clear ga_
            obtain ⟨⟨Yb_0, Yb_1, Yb_2, Yb_3, Yb_4, Yb_5, Yb_6, Yb_7, Yb_8, Yb_9, Yb_10, Yb_11, Yb_12, Yb_13⟩, gb_⟩ := id VXb
            clear gb_
            obtain ⟨⟨Yc_0, Yc_1, Yc_2, Yc_3, Yc_4, Yc_5, Yc_6, Yc_7, Yc_8, Yc_9, Yc_10, Yc_11, Yc_12, Yc_13⟩, gc_⟩ := id VXc
            clear gc_
            obtain ⟨⟨Yd_0, Yd_1, Yd_2, Yd_3, Yd_4, Yd_5, Yd_6, Yd_7, Yd_8, Yd_9, Yd_10, Yd_11, Yd_12, Yd_13⟩, gd_⟩ := id VXd
            clear gd_
            clear K ha hb hc hd VNa VNb VNc VXa VXb VXc VXd VX2 VN3 BB3
            clear Na_0 Na_1 Na_2 Na_3 Na_4 Na_6 Na_7 Na_8 Na_9 Na_10 Na_11 Na_12 Na_13 Ya_0 Ya_1 Ya_2 Ya_3 Ya_4 Ya_6 Ya_7 Ya_8 Ya_9 Ya_10 Ya_11 Ya_12 Ya_13
            clear Nb_0 Nb_1 Nb_2 Nb_3 Nb_4 Nb_5 Nb_7 Nb_8 Nb_9 Nb_10 Nb_11 Nb_12 Nb_13 Yb_0 Yb_1 Yb_2 Yb_3 Yb_4 Yb_5 Yb_7 Yb_8 Yb_9 Yb_10 Yb_11 Yb_12 Yb_13
            clear Nc_0 Nc_1 Nc_2 Nc_3 Nc_4 Nc_5 Nc_6 Nc_8 Nc_9 Nc_10 Nc_11 Nc_12 Nc_13 Yc_0 Yc_1 Yc_2 Yc_3 Yc_4 Yc_5 Yc_6 Yc_8 Yc_9 Yc_10 Yc_11 Yc_12 Yc_13
            have hws : Hid (wr.heap.size = R) := HRE
            have BIz : Below wo.heap.size wo (((((((w7).setCell ⟨RX, 2, none⟩ (.bool px)).setCell ⟨RX, 3, none⟩ (.slice ax nx cx)).setCell ⟨RX, 4, none⟩ (.slice bx mx dx)).setCell ⟨RX, 5, none⟩ (.int .i64 ll)).setCell ⟨RX, 6, none⟩ (.int .i64 rr)).setCell ⟨RX, 7, none⟩ (.bool ms)) := BI.trans (BB2.mono (by have := HRE.out; omega))
            have TOz : TTr wo.heap.size (((((((w7).setCell ⟨RX, 2, none⟩ (.bool px)).setCell ⟨RX, 3, none⟩ (.slice ax nx cx)).setCell ⟨RX, 4, none⟩ (.slice bx mx dx)).setCell ⟨RX, 5, none⟩ (.int .i64 ll)).setCell ⟨RX, 6, none⟩ (.int .i64 rr)).setCell ⟨RX, 7, none⟩ (.bool ms)) (.slice avt q cvt) (tidL (T i) q) := TO.below (by have := HRE.out; rw [this]; exact BB2)
            have hA : Below (((((((w7).setCell ⟨RX, 2, none⟩ (.bool px)).setCell ⟨RX, 3, none⟩ (.slice ax nx cx)).setCell ⟨RX, 4, none⟩ (.slice bx mx dx)).setCell ⟨RX, 5, none⟩ (.int .i64 ll)).setCell ⟨RX, 6, none⟩ (.int .i64 rr)).setCell ⟨RX, 7, none⟩ (.bool ms)).heap.size (((((((w7).setCell ⟨RX, 2, none⟩ (.bool px)).setCell ⟨RX, 3, none⟩ (.slice ax nx cx)).setCell ⟨RX, 4, none⟩ (.slice bx mx dx)).setCell ⟨RX, 5, none⟩ (.int .i64 ll)).setCell ⟨RX, 6, none⟩ (.int .i64 rr)).setCell ⟨RX, 7, none⟩ (.bool ms)) ((((((((w7).setCell ⟨RX, 2, none⟩ (.bool px)).setCell ⟨RX, 3, none⟩ (.slice ax nx cx)).setCell ⟨RX, 4, none⟩ (.slice bx mx dx)).setCell ⟨RX, 5, none⟩ (.int .i64 ll)).setCell ⟨RX, 6, none⟩ (.int .i64 rr)).setCell ⟨RX, 7, none⟩ (.bool ms)).alloc (.cells #[.bool false, .int .i64 ft, .bool px, .slice ax nx cx, .slice bx mx dx, .int .i64 ll, .int .i64 rr, .bool ms, .bool false, .slice none 0 0, .slice none 0 0, .bool pc, .slice ac nc cc, .slice bc mc dc] 37)) := (Below.refl _ _).alloc (Nat.le_refl _) _
            have TO2 := TOz.below hA
            have BI2 := BIz.trans (hA.mono BIz.size)
            obtain ⟨cs, hco, hcl, hcp, hcn⟩ := GOwn.parts TO2
            have hbk := TTr.blocks TO2
            rw [tidL_len] at hco hcl
            have hsz2 := BI2.size
            have HNN : Hid (TNode ((((((((w7).setCell ⟨RX, 2, none⟩ (.bool px)).setCell ⟨RX, 3, none⟩ (.slice ax nx cx)).setCell ⟨RX, 4, none⟩ (.slice bx mx dx)).setCell ⟨RX, 5, none⟩ (.int .i64 ll)).setCell ⟨RX, 6, none⟩ (.int .i64 rr)).setCell ⟨RX, 7, none⟩ (.bool ms)).alloc (.cells #[.bool false, .int .i64 ft, .bool px, .slice ax nx cx, .slice bx mx dx, .int .i64 ll, .int .i64 rr, .bool ms, .bool false, .slice none 0 0, .slice none 0 0, .bool pc, .slice ac nc cc, .slice bc mc dc] 37)) (fun j => [.bool false, .int .i64 ft, .bool px, .slice ax nx cx, .slice bx mx dx, .int .i64 ll, .int .i64 rr, .bool ms, .bool false, .slice none 0 0, .slice none 0 0, .bool pc, .slice ac nc cc, .slice bc mc dc].getD j undef) (tidN (T i q))) := by
                          rw [HTQ.out]
                          exact tnodeEl.keep (w := ((((((w7).setCell ⟨RX, 2, none⟩ (.bool px)).setCell ⟨RX, 3, none⟩ (.slice ax nx cx)).setCell ⟨RX, 4, none⟩ (.slice bx mx dx)).setCell ⟨RX, 5, none⟩ (.int .i64 ll)).setCell ⟨RX, 6, none⟩ (.int .i64 rr)).setCell ⟨RX, 7, none⟩ (.bool ms)) (show TNode _ _ (tidN ⟨_, _, _, _, _, _, _, _⟩) from ⟨rfl, rfl, hx, rfl, rfl, rfl, ⟨rfl, rfl, rfl⟩, hc3⟩) (fun b o v _ hc => (hA.cell (World.block_lt_of_cell? _ ⟨b, o, none⟩ hc)).trans hc)
            have HCN : Hid (∀ x a, (tidL (T i) q)[x]? = some a → TNode ((((((((w7).setCell ⟨RX, 2, none⟩ (.bool px)).setCell ⟨RX, 3, none⟩ (.slice ax nx cx)).setCell ⟨RX, 4, none⟩ (.slice bx mx dx)).setCell ⟨RX, 5, none⟩ (.int .i64 ll)).setCell ⟨RX, 6, none⟩ (.int .i64 rr)).setCell ⟨RX, 7, none⟩ (.bool ms)).alloc (.cells #[.bool false, .int .i64 ft, .bool px, .slice ax nx cx, .slice bx mx dx, .int .i64 ll, .int .i64 rr, .bool ms, .bool false, .slice none 0 0, .slice none 0 0, .bool pc, .slice ac nc cc, .slice bc mc dc] 37)) (fun j => cs.getD (x * 14 + j) undef) a) := hcn
            have hwz : (((((((w7).setCell ⟨RX, 2, none⟩ (.bool px)).setCell ⟨RX, 3, none⟩ (.slice ax nx cx)).setCell ⟨RX, 4, none⟩ (.slice bx mx dx)).setCell ⟨RX, 5, none⟩ (.int .i64 ll)).setCell ⟨RX, 6, none⟩ (.int .i64 rr)).setCell ⟨RX, 7, none⟩ (.bool ms)).heap.size = w7.heap.size := by simp
            have hnb := news_block (heap_alloc_new (((((((w7).setCell ⟨RX, 2, none⟩ (.bool px)).setCell ⟨RX, 3, none⟩ (.slice ax nx cx)).setCell ⟨RX, 4, none⟩ (.slice bx mx dx)).setCell ⟨RX, 5, none⟩ (.int .i64 ll)).setCell ⟨RX, 6, none⟩ (.int .i64 rr)).setCell ⟨RX, 7, none⟩ (.bool ms)) (.cells #[.bool false, .int .i64 ft, .bool px, .slice ax nx cx, .slice bx mx dx, .int .i64 ll, .int .i64 rr, .bool ms, .bool false, .slice none 0 0, .slice none 0 0, .bool pc, .slice ac nc cc, .slice bc mc dc] 37))
            rw [hwz] at hnb
            have HCL : Hid (cs.length = q * 14) := hcl
            clear hcn hcl TO2 TOz BIz hA hwz
            go_wp2_with (first
              | (at_builtin
                 refine wpList_append_pure (Q' := IsLimb) rfl _ _ _ rfl wo.heap.size 37 (.agg #[.bool false, .int .i64 0, .bool false, .slice none 0 0, .slice none 0 0, .int .i64 0, .int .i64 0, .bool false, .bool false, .slice none 0 0, .slice none 0 0, .bool false, .slice none 0 0, .slice none 0 0]) 14 208 Tryd.underlying29 info_node rfl (by omega) (.slice avt q cvt) rfl q cs hco hcp ⟨w7.heap.size, 0, none⟩ 1 rfl [.bool false, .int .i64 ft, .bool px, .slice ax nx cx, .slice bx mx dx, .int .i64 ll, .int .i64 rr, .bool ms, .bool false, .slice none 0 0, .slice none 0 0, .bool pc, .slice ac nc cc, .slice bc mc dc] rfl ?g14 ?g15 ?g16 ?g17 (by omega) (by omega) hsz2 ?_
                 case g14 => exact hnb
                 case g15 => simp [Value.oneCell']
                 case g16 => simp [limb_bool, limb_slice, limb_int]
                 case g17 => simp [Value.cells, limb_bool, limb_slice, limb_int]
                 intro gN cN w6 ho5 hg5 _ hp5 hk5
                 have NO5 : TTr wo.heap.size w6 (.slice (some ⟨gN, 0, none⟩) (q + 1) cN) (tidL (T i) (q + 1)) := by
                   rw [tidL_succ]
                   exact GOwn.more (m := 1) (l' := [tidN (T i q)]) tnodeEl rfl (by rw [tidL_len]; exact ho5) (by rw [tidL_len]; exact HCL.out) (fun g hg => by cases hg; exact hp5) hk5 HCN.out (fun x a hx => by
                     have : x = 0 := by have := (List.getElem?_eq_some_iff.1 hx).1; simp at this; omega
                     subst this
                     simp only [List.getElem?_cons_zero, Option.some.injEq] at hx
                     subst hx
                     rw [Nat.zero_mul]
                     simp only [Nat.zero_add]
                     exact HNN.out)
                 have BI5 : Below wo.heap.size wo w6 := below_grownB BI2 hg5 hsz2 (fun g hg => (hbk g hg).1)
                 clear ho5 hg5 hp5 hk5 hco hcp BI2 hbk HCN HNN HCL))
            go_roundw
            case rel => exact ⟨q + 1, by omega, by go_num, NO5, BI5⟩
            case measure => simp [intOf]; omega
          · obtain ⟨V_0, V_1, V_2, V_3, V_4, V_5, V_6, V_7, V_8, V_9, V_10, V_11, V_12, V_13⟩ := id VN2
            go_wp2_with fail
            clear V_0 V_1 V_2 V_3 V_4 V_5 V_6 V_7 V_8 V_9 V_10 V_11 V_12 V_13
            refine (qclean_at _ qv L _ r22 h1 (by omega) ht2).mono ?_
            rintro e w6 ⟨x2, rfl, hx, b1⟩
            obtain ⟨px, ax, nx, cx, bx, mx, dx, rfl⟩ := hx.open
            replace VX := VX.below b1
            replace hc2 := hc2.below b1
            replace BB2 := BB2.trans (b1.mono (by have := BB2.size; have := HRE.out; omega))
            clear b1 r12 r22 ht2 VN2
            have K := VX.k8 (limb_bool _) (limb_slice _ _ _) (limb_slice _ _ _) (.bool px) (.slice ax nx cx) (.slice bx mx dx)
            have VX2 := VX.s8 (.bool px) (.slice ax nx cx) (.slice bx mx dx)
            replace hx := hx.keepL K
            replace hc2 := hc2.keepL K
            replace BB2 := ((BB2.setCell (p := ⟨RX, 8, none⟩) (by show R ≤ RX; omega) (.bool px)).setCell (p := ⟨RX, 9, none⟩) (by show R ≤ RX; omega) (.slice ax nx cx)).setCell (p := ⟨RX, 10, none⟩) (by show R ≤ RX; omega) (.slice bx mx dx)
            obtain ⟨⟨V_0, V_1, V_2, V_3, V_4, V_5, V_6, V_7, V_8, V_9, V_10, V_11, V_12, V_13⟩, f_⟩ := id VX
            have f8 := f_ 8
            have f9 := f_ 9
            have f10 := f_ 10
            clear f_ K VX
            obtain ⟨⟨Y_0, Y_1, Y_2, Y_3, Y_4, Y_5, Y_6, Y_7, Y_8, Y_9, Y_10, Y_11, Y_12, Y_13⟩, f_⟩ := id VX2
            clear f_ VX2
            have hws : Hid (wr.heap.size = R) := HRE
            have BIz : Below wo.heap.size wo ((((w6).setCell ⟨RX, 8, none⟩ (.bool px)).setCell ⟨RX, 9, none⟩ (.slice ax nx cx)).setCell ⟨RX, 10, none⟩ (.slice bx mx dx)) := BI.trans (BB2.mono (by have := HRE.out; omega))
            have TOz : TTr wo.heap.size ((((w6).setCell ⟨RX, 8, none⟩ (.bool px)).setCell ⟨RX, 9, none⟩ (.slice ax nx cx)).setCell ⟨RX, 10, none⟩ (.slice bx mx dx)) (.slice avt q cvt) (tidL (T i) q) := TO.below (by have := HRE.out; rw [this]; exact BB2)
            have hA : Below ((((w6).setCell ⟨RX, 8, none⟩ (.bool px)).setCell ⟨RX, 9, none⟩ (.slice ax nx cx)).setCell ⟨RX, 10, none⟩ (.slice bx mx dx)).heap.size ((((w6).setCell ⟨RX, 8, none⟩ (.bool px)).setCell ⟨RX, 9, none⟩ (.slice ax nx cx)).setCell ⟨RX, 10, none⟩ (.slice bx mx dx)) (((((w6).setCell ⟨RX, 8, none⟩ (.bool px)).setCell ⟨RX, 9, none⟩ (.slice ax nx cx)).setCell ⟨RX, 10, none⟩ (.slice bx mx dx)).alloc (.cells #[.bool true, .int .i64 0, .bool false, .slice none 0 0, .slice none 0 0, .int .i64 0, .int .i64 0, .bool false, .bool px, .slice ax nx cx, .slice bx mx dx, .bool pc, .slice ac nc cc, .slice bc mc dc] 37)) := (Below.refl _ _).alloc (Nat.le_refl _) _
            have TO2 := TOz.below hA
            have BI2 := BIz.trans (hA.mono BIz.size)
            obtain ⟨cs, hco, hcl, hcp, hcn⟩ := GOwn.parts TO2
            have hbk := TTr.blocks TO2
            rw [tidL_len] at hco hcl
            have hsz2 := BI2.size
            have HNN : Hid (TNode (((((w6).setCell ⟨RX, 8, none⟩ (.bool px)).setCell ⟨RX, 9, none⟩ (.slice ax nx cx)).setCell ⟨RX, 10, none⟩ (.slice bx mx dx)).alloc (.cells #[.bool true, .int .i64 0, .bool false, .slice none 0 0, .slice none 0 0, .int .i64 0, .int .i64 0, .bool false, .bool px, .slice ax nx cx, .slice bx mx dx, .bool pc, .slice ac nc cc, .slice bc mc dc] 37)) (fun j => [.bool true, .int .i64 0, .bool false, .slice none 0 0, .slice none 0 0, .int .i64 0, .int .i64 0, .bool false, .bool px, .slice ax nx cx, .slice bx mx dx, .bool pc, .slice ac nc cc, .slice bc mc dc].getD j undef) (tidN (T i q))) := by
                          rw [HTQ.out]
                          exact tnodeEl.keep (w := (((w6).setCell ⟨RX, 8, none⟩ (.bool px)).setCell ⟨RX, 9, none⟩ (.slice ax nx cx)).setCell ⟨RX, 10, none⟩ (.slice bx mx dx)) (show TNode _ _ (tidN ⟨_, _, _, _, _, _, _, _⟩) from ⟨rfl, rfl, ⟨rfl, rfl, rfl⟩, rfl, rfl, rfl, hx, hc2⟩) (fun b o v _ hc => (hA.cell (World.block_lt_of_cell? _ ⟨b, o, none⟩ hc)).trans hc)
            have HCN : Hid (∀ x a, (tidL (T i) q)[x]? = some a → TNode (((((w6).setCell ⟨RX, 8, none⟩ (.bool px)).setCell ⟨RX, 9, none⟩ (.slice ax nx cx)).setCell ⟨RX, 10, none⟩ (.slice bx mx dx)).alloc (.cells #[.bool true, .int .i64 0, .bool false, .slice none 0 0, .slice none 0 0, .int .i64 0, .int .i64 0, .bool false, .bool px, .slice ax nx cx, .slice bx mx dx, .bool pc, .slice ac nc cc, .slice bc mc dc] 37)) (fun j => cs.getD (x * 14 + j) undef) a) := hcn
            have hwz : ((((w6).setCell ⟨RX, 8, none⟩ (.bool px)).setCell ⟨RX, 9, none⟩ (.slice ax nx cx)).setCell ⟨RX, 10, none⟩ (.slice bx mx dx)).heap.size = w6.heap.size := by simp
            have hnb := news_block (heap_alloc_new ((((w6).setCell ⟨RX, 8, none⟩ (.bool px)).setCell ⟨RX, 9, none⟩ (.slice ax nx cx)).setCell ⟨RX, 10, none⟩ (.slice bx mx dx)) (.cells #[.bool true, .int .i64 0, .bool false, .slice none 0 0, .slice none 0 0, .int .i64 0, .int .i64 0, .bool false, .bool px, .slice ax nx cx, .slice bx mx dx, .bool pc, .slice ac nc cc, .slice bc mc dc] 37))
            rw [hwz] at hnb
            have HCL : Hid (cs.length = q * 14) := hcl
            clear hcn hcl TO2 TOz BIz hA hwz
            go_wp2_with (first
              | (at_builtin
                 refine wpList_append_pure (Q' := IsLimb) rfl _ _ _ rfl wo.heap.size 37 (.agg #[.bool false, .int .i64 0, .bool false, .slice none 0 0, .slice none 0 0, .int .i64 0, .int .i64 0, .bool false, .bool false, .slice none 0 0, .slice none 0 0, .bool false, .slice none 0 0, .slice none 0 0]) 14 208 Tryd.underlying29 info_node rfl (by omega) (.slice avt q cvt) rfl q cs hco hcp ⟨w6.heap.size, 0, none⟩ 1 rfl [.bool true, .int .i64 0, .bool false, .slice none 0 0, .slice none 0 0, .int .i64 0, .int .i64 0, .bool false, .bool px, .slice ax nx cx, .slice bx mx dx, .bool pc, .slice ac nc cc, .slice bc mc dc] rfl ?g14 ?g15 ?g16 ?g17 (by omega) (by omega) hsz2 ?_
                 case g14 => exact hnb
                 case g15 => simp [Value.oneCell']
                 case g16 => simp [limb_bool, limb_slice, limb_int]
                 case g17 => simp [Value.cells, limb_bool, limb_slice, limb_int]
                 intro gN cN w6 ho5 hg5 _ hp5 hk5
                 have NO5 : TTr wo.heap.size w6 (.slice (some ⟨gN, 0, none⟩) (q + 1) cN) (tidL (T i) (q + 1)) := by
                   rw [tidL_succ]
                   exact GOwn.more (m := 1) (l' := [tidN (T i q)]) tnodeEl rfl (by rw [tidL_len]; exact ho5) (by rw [tidL_len]; exact HCL.out) (fun g hg => by cases hg; exact hp5) hk5 HCN.out (fun x a hx => by
                     have : x = 0 := by have := (List.getElem?_eq_some_iff.1 hx).1; simp at this; omega
                     subst this
                     simp only [List.getElem?_cons_zero, Option.some.injEq] at hx
                     subst hx
                     rw [Nat.zero_mul]
                     simp only [Nat.zero_add]
                     exact HNN.out)
                 have BI5 : Below wo.heap.size wo w6 := below_grownB BI2 hg5 hsz2 (fun g hg => (hbk g hg).1)
                 clear ho5 hg5 hp5 hk5 hco hcp BI2 hbk HCN HNN HCL))
            go_roundw
            case rel => exact ⟨q + 1, by omega, by go_num, NO5, BI5⟩
            case measure => simp [intOf]; omega
        · obtain rfl : q = ni := by omega
          have HT : Hid (tidL (T i) q = tidL (T i) (N i)) := by show _ = _; rw [HNI.out]
          have MO2 : TMo (w.heap.size + 1 + 1 + 1) wr (.slice at3 i ct3) (tidM N T i) := MO.below BI
          have hw3 : w.heap.size + 1 + 1 < wo.heap.size := VO.lt
          have TO2 : TTr (w.heap.size + 1 + 1 + 1) wr (.slice avt q cvt) (tidL (T i) q) := GOwn.le TO (by omega)
          have VO2 := VO.below BI
          clear BI TO MO VO BB
          have hsz1 : w.heap.size + 1 + 1 + 1 ≤ wr.heap.size := by have := VO2.lt; omega
          have hA : Below wr.heap.size wr (wr.alloc (.cells #[.slice avt q cvt] 29)) := (Below.refl _ _).alloc (Nat.le_refl _) _
          replace MO2 := MO2.below hA
          replace TO2 := TO2.below hA
          have VO3 := VO2.below hA
          have BW2 := BW.trans (hA.mono BW.size)
          obtain ⟨us, huo, hup⟩ := MO2.parts
          rw [tidM_len] at huo
          have hbk := MO2.blocks
          have hsz2 : w.heap.size + 1 + 1 + 1 ≤ (wr.alloc (.cells #[.slice avt q cvt] 29)).heap.size := Nat.le_trans hsz1 hA.size
          obtain ⟨VO_0, VO_1, VO_2, VO_3⟩ := id VO2
          have hqm : ¬ ((q : Int) < (q : Int)) := by omega
          have hbl : w.heap.size + 1 + 1 < wr.heap.size := by omega
          clear hlq hq
          go_wp2_with (first
            | (at_builtin
               refine wpList_append_pure (Q' := IsLimb) rfl _ _ _ rfl (w.heap.size + 1 + 1 + 1) 29 (.slice none 0 0) 1 24 Tryd.underlying22 info_tree rfl (by omega) (.slice at3 i ct3) rfl i us huo hup ⟨wr.heap.size, 0, none⟩ 1 rfl [.slice avt q cvt] rfl ?g14 ?g15 ?g16 ?g17 (by omega) (by omega) hsz2 ?_
               case g14 => exact news_block (heap_alloc_new _ _)
               case g15 => simp [Value.oneCell']
               case g16 => simp [limb_slice]
               case g17 => simp [Value.cells, limb_slice]
               intro gN cN w5 ho5 hg5 _ hp5 hk5
               have MO5 : TMo (w.heap.size + 1 + 1 + 1) w5 (.slice (some ⟨gN, 0, none⟩) (i + 1) cN) (tidM N T (i + 1)) := by
                 rw [tidM_succ]
                 exact TMo.more MO2 (by rw [tidM_len]; exact huo) (by rw [← HT.out]; exact TO2) (by rw [tidM_len]; exact ho5) hg5 (fun g hg => by cases hg; exact hp5) hk5
               have hlow : Below (w.heap.size + 1 + 1 + 1) (wr.alloc (.cells #[.slice avt q cvt] 29)) w5 := below_grownB (Below.refl _ _) hg5 hsz2 (fun g hg => (hbk g hg).1)
               have VO5 : V2 w5 (w.heap.size + 1 + 1) (.int .i64 F) (.slice at3 i ct3) := ⟨(hlow.cell (p := ⟨_, 0, none⟩) (by show w.heap.size + 1 + 1 < _; omega)).trans VO3.1, (hlow.cell (p := ⟨_, 1, none⟩) (by show w.heap.size + 1 + 1 < _; omega)).trans VO3.2.1, (hlow.frozen (p := ⟨_, 0, none⟩) (by show w.heap.size + 1 + 1 < _; omega)).trans VO3.2.2.1, (hlow.frozen (p := ⟨_, 1, none⟩) (by show w.heap.size + 1 + 1 < _; omega)).trans VO3.2.2.2⟩
               have BW5 : Below Wb1.heap.size Wb1 w5 := BW2.trans (hlow.mono (by have := HS.out; omega))
               obtain ⟨U_0, U_1, U_2, U_3⟩ := id VO5
               have K5 : KeepQ IsLimb w5 (w5.setCell ⟨w.heap.size + 1 + 1, 1, none⟩ (.slice (some ⟨gN, 0, none⟩) (i + 1) cN)) := keepL_set U_1 (limb_slice _ _ _) _
               have MO6 := MO5.set (a := ⟨w.heap.size + 1 + 1, 1, none⟩) (by show w.heap.size + 1 + 1 < _; omega) _ K5
               have VO6 : V2 (w5.setCell ⟨w.heap.size + 1 + 1, 1, none⟩ (.slice (some ⟨gN, 0, none⟩) (i + 1) cN)) (w.heap.size + 1 + 1) (.int .i64 F) (.slice (some ⟨gN, 0, none⟩) (i + 1) cN) := ⟨cell_set_by U_0 (by omega), cell_set_at U_1, by simp [U_2], by simp [U_3]⟩
               have BW6 := BW5.setCell (p := ⟨w.heap.size + 1 + 1, 1, none⟩) (by show Wb1.heap.size ≤ w.heap.size + 1 + 1; have := HS.out; omega) (.slice (some ⟨gN, 0, none⟩) (i + 1) cN)
               clear ho5 hg5 hp5 hk5 huo hup hbk hlow hA MO5 MO2 TO2 K5 VO5 VO3 BW5 BW2))
          go_roundw
          case rel => exact ⟨i + 1, _, by omega, by go_num, VO6, MO6, BW6⟩
          case measure => simp [intOf]; omega
    · obtain rfl : i = k := by omega
      have g1 : ¬ (i : Int) < (i : Int) := by omega
      have VRB := VR0.below BL
      obtain ⟨VO_0, VO_1, VO_2, VO_3⟩ := id VO
      obtain ⟨VR_0, VR_1, VR_2, VR_3⟩ := id VRB
      have K1 : KeepQ IsLimb wr (wr.setCell ⟨(w.heap.size + 1), 0, none⟩ (.int .i64 F)) := keepL_set VR_0 (limb_int _) _
      have K2 := keepL_set (cell_set_by (u := .int .i64 F) (j := 0) VR_1 (by omega)) (limb_slice _ _ _) (.slice at3 i ct3)
      have MO2 := (MO.set (a := ⟨(w.heap.size + 1), 0, none⟩) (by show w.heap.size + 1 < w.heap.size + 1 + 1 + 1; omega) _ K1).set (a := ⟨(w.heap.size + 1), 1, none⟩) (by show w.heap.size + 1 < w.heap.size + 1 + 1 + 1; omega) _ K2
      have VR2 := VRB.same (.int .i64 F) (.slice at3 i ct3)
      have BB2 := ((BB0.out.trans (BL.mono BB0.out.size)).setCell (p := ⟨(w.heap.size + 1), 0, none⟩) (by show w.heap.size ≤ w.heap.size + 1; omega) (.int .i64 F)).setCell (p := ⟨(w.heap.size + 1), 1, none⟩) (by show w.heap.size ≤ w.heap.size + 1; omega) (.slice at3 i ct3)
      obtain ⟨Y_0, Y_1, Y_2, Y_3⟩ := id VR2
      go_wp2_with fail
      (try simp only [Exit.inBlock, Exit.then])
      refine bodyPost_ret (v := .agg #[.int .i64 F, .slice at3 i ct3]) (by simp [results, go_sem, Y_0, Y_1]) rfl ?_
      exact ⟨_, rfl, MO2.le (by omega), BB2⟩

/-- A cell. -/
def V1c (w : World) (b o : Nat) (x : Value) : Prop := w.cell? ⟨b, o, none⟩ = some x
theorem V1c.out {w : World} {b o : Nat} {x : Value} (h : V1c w b o x) : w.cell? ⟨b, o, none⟩ = some x := h
theorem V1c.below {w w' : World} {b o : Nat} {x : Value} (h : V1c w b o x) (hb : Below w.heap.size w w') : V1c w' b o x := (hb.cell (World.block_lt_of_cell? _ _ h)).trans h


set_option maxRecDepth 100000 in
set_option maxHeartbeats 4000000 in
theorem exact_at (p : Bool) (va vb ua ub : Value) (n m : Nat) (f g : Nat → Int) (w : World) (hva : Nums .u64 w va n f) (hvb : Nums .u64 w vb m g) (hua : Nums .u64 w ua n f) (hub : Nums .u64 w ub m g) :
    Calls Tryd.prog 11 #[.agg #[.bool p, va, vb], .agg #[.bool p, ua, ub]] w fun e w' => e = .returned (.bool true) ∧ Below w.heap.size w w' := by
  obtain ⟨ava, cva, rfl, lva, qva, Hva⟩ := hva
  unfold LIM at qva
  obtain ⟨avb, cvb, rfl, lvb, qvb, Hvb⟩ := hvb
  unfold LIM at qvb
  obtain ⟨aua, cua, rfl, lua, qua, Hua⟩ := hua
  unfold LIM at qua
  obtain ⟨aub, cub, rfl, lub, qub, Hub⟩ := hub
  unfold LIM at qub
  have BB : Below w.heap.size w w := Below.refl _ _
  obtain ⟨W0, hW0, hS0, hL0, VA⟩ := V3.lay w 35 (.bool p) (.slice ava n cva) (.slice avb m cvb)
  replace BB := BB.trans (hL0.mono BB.size)
  obtain ⟨W1, hW1, hS1, hL1, VB⟩ := V3.lay W0 35 (.bool p) (.slice aua n cua) (.slice aub m cub)
  rw [hS0] at VB hS1
  replace VA := VA.below hL1
  replace BB := BB.trans (hL1.mono BB.size)
  have HBW : Hid (Below w.heap.size w W1) := BB
  clear hL0 hL1 BB
  obtain ⟨A_0, A_1, A_2, A_3, A_4, A_5⟩ := id VA
  obtain ⟨B_0, B_1, B_2, B_3, B_4, B_5⟩ := id VB
  rw [hW1, hW0] at A_0 A_1 A_2 A_3 A_4 A_5 B_0 B_1 B_2 B_3 B_4 B_5
  go_enter Tryd.func11, Tryd.ntmps11
  go_wp2
  clear A_0 A_1 A_2 A_3 A_4 A_5 B_0 B_1 B_2 B_3 B_4 B_5
  rw [← hW0, ← hW1]
  clear hW0 hW1 hS0 hS1
  have BLS : Below W1.heap.size W1 W1 := Below.refl _ _
  go_loopw [5] (fun vi wr => ∃ i : Nat, i ≤ n ∧ vi = .int .i64 (i : Int) ∧ Below W1.heap.size W1 wr) (fun vi _ => n - (intOf vi).toNat)
  case atStart => exact ⟨0, by omega, rfl, BLS⟩
  case round =>
    clear BLS
    obtain ⟨i, hi, rfl, BL⟩ := hrel
    have VAi := VA.below BL
    have VBi := VB.below BL
    obtain ⟨A_0, A_1, A_2, A_3, A_4, A_5⟩ := id VAi
    obtain ⟨B_0, B_1, B_2, B_3, B_4, B_5⟩ := id VBi
    by_cases hlt : i < n
    · have g1 : (i : Int) < (n : Int) := by omega
      have g0 : (0 : Int) ≤ (i : Int) := by omega
      obtain ⟨b1, o1, e1, C1⟩ := Hva (by omega)
      obtain ⟨b2, o2, e2, C2⟩ := Hua (by omega)
      subst e1
      subst e2
      have X1 := (HBW.out.trans (BL.mono HBW.out.size)).cell (World.block_lt_of_cell? _ _ (C1 i hlt)) |>.trans (C1 i hlt)
      have X2 := (HBW.out.trans (BL.mono HBW.out.size)).cell (World.block_lt_of_cell? _ _ (C2 i hlt)) |>.trans (C2 i hlt)
      have Y1 : V1c wr b1 (o1 + i) (.int .u64 (f i)) := X1
      have Y2 : V1c wr b2 (o2 + i) (.int .u64 (f i)) := X2
      go_wp2_with fail
      clear A_0 A_1 A_2 A_3 A_4 A_5 B_0 B_1 B_2 B_3 B_4 B_5 X1 X2 C1 C2
      have BB := BL
      clear BL
      refine wp_region_until 13 #[true, true, true, true, true, true, true, true, true, true, true, true, true] (fun aF lsd a' w' => ∃ vu0 vu1 vu2 vu3 vu4 vu5 vu6 vu7 vu8 vu9 vu10 vu11 vu12 : Value, a' = ((((((((((((aF.put (some 42) vu0).put (some 43) vu1).put (some 44) vu2).put (some 45) vu3).put (some 46) vu4).put (some 47) vu5).put (some 48) vu6).put (some 49) vu7).put (some 50) vu8).put (some 51) vu9).put (some 52) vu10).put (some 53) vu11).put (some 54) vu12 ∧ Below wr.heap.size wr w' ∧ (lsd.getD 0 false = true → vu0 = .pointer (some ⟨w.heap.size, 0, none⟩)) ∧ (lsd.getD 1 false = true → vu1 = .pointer (some ⟨w.heap.size, 1, none⟩)) ∧ (lsd.getD 2 false = true → vu2 = .slice (some ⟨b1, o1, none⟩) n cva) ∧ (lsd.getD 3 false = true → vu3 = .int .i64 (i : Int)) ∧ (lsd.getD 4 false = true → vu4 = .pointer (some ⟨b1, o1 + i, none⟩)) ∧ (lsd.getD 5 false = true → vu5 = .int .u64 (f i)) ∧ (lsd.getD 6 false = true → vu6 = .pointer (some ⟨(w.heap.size + 1), 0, none⟩)) ∧ (lsd.getD 7 false = true → vu7 = .pointer (some ⟨(w.heap.size + 1), 1, none⟩)) ∧ (lsd.getD 8 false = true → vu8 = .slice (some ⟨b2, o2, none⟩) n cua) ∧ (lsd.getD 9 false = true → vu9 = .int .i64 (i : Int)) ∧ (lsd.getD 10 false = true → vu10 = .pointer (some ⟨b2, o2 + i, none⟩)) ∧ (lsd.getD 11 false = true → vu11 = .int .u64 (f i)) ∧ (lsd.getD 12 false = true → vu12 = .bool false)) (by kernel_rfl) (by decide) (by kernel_rfl) (by rfl) (by kernel_rfl) ?_ ?_ ?_
      · exact ⟨_, _, _, _, _, _, _, _, _, _, _, _, _, by simp only [Act.put, List.setIfInBounds_toArray, List.set_cons_zero, List.set_cons_succ]; rfl, (Below.refl _ _).drew, fun h => absurd h (fun h => mark_none h), fun h => absurd h (fun h => mark_none h), fun h => absurd h (fun h => mark_none h), fun h => absurd h (fun h => mark_none h), fun h => absurd h (fun h => mark_none h), fun h => absurd h (fun h => mark_none h), fun h => absurd h (fun h => mark_none h), fun h => absurd h (fun h => mark_none h), fun h => absurd h (fun h => mark_none h), fun h => absurd h (fun h => mark_none h), fun h => absurd h (fun h => mark_none h), fun h => absurd h (fun h => mark_none h), fun h => absurd h (fun h => mark_none h)⟩
      · rintro lsd au wn iu hszu ⟨vu0, vu1, vu2, vu3, vu4, vu5, vu6, vu7, vu8, vu9, vu10, vu11, vu12, rfl, hbu, fu0, fu1, fu2, fu3, fu4, fu5, fu6, fu7, fu8, fu9, fu10, fu11, fu12⟩ himu hru
        rcases (show iu = 0 ∨ iu = 1 ∨ iu = 2 ∨ iu = 3 ∨ iu = 4 ∨ iu = 5 ∨ iu = 6 ∨ iu = 7 ∨ iu = 8 ∨ iu = 9 ∨ iu = 10 ∨ iu = 11 ∨ iu = 12 by omega) with rfl | rfl | rfl | rfl | rfl | rfl | rfl | rfl | rfl | rfl | rfl | rfl | rfl
        · refine wpOp_shut (by rfl) (fun K hK => ?_)
          simp only [Act.put, List.setIfInBounds_toArray, List.set_cons_zero, List.set_cons_succ]
          go_simp
          exact hK.out _ _ ⟨(.pointer (some ⟨w.heap.size, 0, none⟩)), vu1, vu2, vu3, vu4, vu5, vu6, vu7, vu8, vu9, vu10, vu11, vu12, by simp only [Act.put, List.setIfInBounds_toArray, List.set_cons_zero, List.set_cons_succ], hbu, fun _ => rfl, fun h => fu1 (mark_of (by decide) h), fun h => fu2 (mark_of (by decide) h), fun h => fu3 (mark_of (by decide) h), fun h => fu4 (mark_of (by decide) h), fun h => fu5 (mark_of (by decide) h), fun h => fu6 (mark_of (by decide) h), fun h => fu7 (mark_of (by decide) h), fun h => fu8 (mark_of (by decide) h), fun h => fu9 (mark_of (by decide) h), fun h => fu10 (mark_of (by decide) h), fun h => fu11 (mark_of (by decide) h), fun h => fu12 (mark_of (by decide) h)⟩
        · have eu0 := fu0 (dep_of 0 hru rfl (by kernel_rfl))
          replace eu0 := eu0.symm
          subst eu0
          refine wpOp_shut (by rfl) (fun K hK => ?_)
          simp only [Act.put, List.setIfInBounds_toArray, List.set_cons_zero, List.set_cons_succ]
          go_simp
          exact hK.out _ _ ⟨(.pointer (some ⟨w.heap.size, 0, none⟩)), (.pointer (some ⟨w.heap.size, 1, none⟩)), vu2, vu3, vu4, vu5, vu6, vu7, vu8, vu9, vu10, vu11, vu12, by simp only [Act.put, List.setIfInBounds_toArray, List.set_cons_zero, List.set_cons_succ], hbu, fun _ => rfl, fun _ => rfl, fun h => fu2 (mark_of (by decide) h), fun h => fu3 (mark_of (by decide) h), fun h => fu4 (mark_of (by decide) h), fun h => fu5 (mark_of (by decide) h), fun h => fu6 (mark_of (by decide) h), fun h => fu7 (mark_of (by decide) h), fun h => fu8 (mark_of (by decide) h), fun h => fu9 (mark_of (by decide) h), fun h => fu10 (mark_of (by decide) h), fun h => fu11 (mark_of (by decide) h), fun h => fu12 (mark_of (by decide) h)⟩
        · have eu1 := fu1 (dep_of 1 hru rfl (by kernel_rfl))
          replace eu1 := eu1.symm
          subst eu1
          refine wpOp_shut (by rfl) (fun K hK => ?_)
          simp only [Act.put, List.setIfInBounds_toArray, List.set_cons_zero, List.set_cons_succ]
          obtain ⟨A_0, A_1, A_2, A_3, A_4, A_5⟩ := VAi.below hbu
          go_simp
          exact hK.out _ _ ⟨vu0, (.pointer (some ⟨w.heap.size, 1, none⟩)), (.slice (some ⟨b1, o1, none⟩) n cva), vu3, vu4, vu5, vu6, vu7, vu8, vu9, vu10, vu11, vu12, by simp only [Act.put, List.setIfInBounds_toArray, List.set_cons_zero, List.set_cons_succ], hbu, fun h => fu0 (mark_of (by decide) h), fun _ => rfl, fun _ => rfl, fun h => fu3 (mark_of (by decide) h), fun h => fu4 (mark_of (by decide) h), fun h => fu5 (mark_of (by decide) h), fun h => fu6 (mark_of (by decide) h), fun h => fu7 (mark_of (by decide) h), fun h => fu8 (mark_of (by decide) h), fun h => fu9 (mark_of (by decide) h), fun h => fu10 (mark_of (by decide) h), fun h => fu11 (mark_of (by decide) h), fun h => fu12 (mark_of (by decide) h)⟩
        · refine wpOp_shut (by rfl) (fun K hK => ?_)
          simp only [Act.put, List.setIfInBounds_toArray, List.set_cons_zero, List.set_cons_succ]
          go_simp
          exact hK.out _ _ ⟨vu0, vu1, vu2, (.int .i64 (i : Int)), vu4, vu5, vu6, vu7, vu8, vu9, vu10, vu11, vu12, by simp only [Act.put, List.setIfInBounds_toArray, List.set_cons_zero, List.set_cons_succ], hbu, fun h => fu0 (mark_of (by decide) h), fun h => fu1 (mark_of (by decide) h), fun h => fu2 (mark_of (by decide) h), fun _ => rfl, fun h => fu4 (mark_of (by decide) h), fun h => fu5 (mark_of (by decide) h), fun h => fu6 (mark_of (by decide) h), fun h => fu7 (mark_of (by decide) h), fun h => fu8 (mark_of (by decide) h), fun h => fu9 (mark_of (by decide) h), fun h => fu10 (mark_of (by decide) h), fun h => fu11 (mark_of (by decide) h), fun h => fu12 (mark_of (by decide) h)⟩
        · have eu2 := fu2 (dep_of 2 hru rfl (by kernel_rfl))
          have eu3 := fu3 (dep_of 3 hru rfl (by kernel_rfl))
          replace eu2 := eu2.symm
          subst eu2
          replace eu3 := eu3.symm
          subst eu3
          refine wpOp_shut (by rfl) (fun K hK => ?_)
          simp only [Act.put, List.setIfInBounds_toArray, List.set_cons_zero, List.set_cons_succ]
          go_simp
          exact hK.out _ _ ⟨vu0, vu1, (.slice (some ⟨b1, o1, none⟩) n cva), (.int .i64 (i : Int)), (.pointer (some ⟨b1, o1 + i, none⟩)), vu5, vu6, vu7, vu8, vu9, vu10, vu11, vu12, by simp only [Act.put, List.setIfInBounds_toArray, List.set_cons_zero, List.set_cons_succ], hbu, fun h => fu0 (mark_of (by decide) h), fun h => fu1 (mark_of (by decide) h), fun _ => rfl, fun _ => rfl, fun _ => rfl, fun h => fu5 (mark_of (by decide) h), fun h => fu6 (mark_of (by decide) h), fun h => fu7 (mark_of (by decide) h), fun h => fu8 (mark_of (by decide) h), fun h => fu9 (mark_of (by decide) h), fun h => fu10 (mark_of (by decide) h), fun h => fu11 (mark_of (by decide) h), fun h => fu12 (mark_of (by decide) h)⟩
        · have eu4 := fu4 (dep_of 4 hru rfl (by kernel_rfl))
          replace eu4 := eu4.symm
          subst eu4
          refine wpOp_shut (by rfl) (fun K hK => ?_)
          simp only [Act.put, List.setIfInBounds_toArray, List.set_cons_zero, List.set_cons_succ]
          have z1 := (Y1.below hbu).out
          go_simp
          exact hK.out _ _ ⟨vu0, vu1, vu2, vu3, (.pointer (some ⟨b1, o1 + i, none⟩)), (.int .u64 (f i)), vu6, vu7, vu8, vu9, vu10, vu11, vu12, by simp only [Act.put, List.setIfInBounds_toArray, List.set_cons_zero, List.set_cons_succ], hbu, fun h => fu0 (mark_of (by decide) h), fun h => fu1 (mark_of (by decide) h), fun h => fu2 (mark_of (by decide) h), fun h => fu3 (mark_of (by decide) h), fun _ => rfl, fun _ => rfl, fun h => fu6 (mark_of (by decide) h), fun h => fu7 (mark_of (by decide) h), fun h => fu8 (mark_of (by decide) h), fun h => fu9 (mark_of (by decide) h), fun h => fu10 (mark_of (by decide) h), fun h => fu11 (mark_of (by decide) h), fun h => fu12 (mark_of (by decide) h)⟩
        · refine wpOp_shut (by rfl) (fun K hK => ?_)
          simp only [Act.put, List.setIfInBounds_toArray, List.set_cons_zero, List.set_cons_succ]
          go_simp
          exact hK.out _ _ ⟨vu0, vu1, vu2, vu3, vu4, vu5, (.pointer (some ⟨(w.heap.size + 1), 0, none⟩)), vu7, vu8, vu9, vu10, vu11, vu12, by simp only [Act.put, List.setIfInBounds_toArray, List.set_cons_zero, List.set_cons_succ], hbu, fun h => fu0 (mark_of (by decide) h), fun h => fu1 (mark_of (by decide) h), fun h => fu2 (mark_of (by decide) h), fun h => fu3 (mark_of (by decide) h), fun h => fu4 (mark_of (by decide) h), fun h => fu5 (mark_of (by decide) h), fun _ => rfl, fun h => fu7 (mark_of (by decide) h), fun h => fu8 (mark_of (by decide) h), fun h => fu9 (mark_of (by decide) h), fun h => fu10 (mark_of (by decide) h), fun h => fu11 (mark_of (by decide) h), fun h => fu12 (mark_of (by decide) h)⟩
        · have eu6 := fu6 (dep_of 6 hru rfl (by kernel_rfl))
          replace eu6 := eu6.symm
          subst eu6
          refine wpOp_shut (by rfl) (fun K hK => ?_)
          simp only [Act.put, List.setIfInBounds_toArray, List.set_cons_zero, List.set_cons_succ]
          go_simp
          exact hK.out _ _ ⟨vu0, vu1, vu2, vu3, vu4, vu5, (.pointer (some ⟨(w.heap.size + 1), 0, none⟩)), (.pointer (some ⟨(w.heap.size + 1), 1, none⟩)), vu8, vu9, vu10, vu11, vu12, by simp only [Act.put, List.setIfInBounds_toArray, List.set_cons_zero, List.set_cons_succ], hbu, fun h => fu0 (mark_of (by decide) h), fun h => fu1 (mark_of (by decide) h), fun h => fu2 (mark_of (by decide) h), fun h => fu3 (mark_of (by decide) h), fun h => fu4 (mark_of (by decide) h), fun h => fu5 (mark_of (by decide) h), fun _ => rfl, fun _ => rfl, fun h => fu8 (mark_of (by decide) h), fun h => fu9 (mark_of (by decide) h), fun h => fu10 (mark_of (by decide) h), fun h => fu11 (mark_of (by decide) h), fun h => fu12 (mark_of (by decide) h)⟩
        · have eu7 := fu7 (dep_of 7 hru rfl (by kernel_rfl))
          replace eu7 := eu7.symm
          subst eu7
          refine wpOp_shut (by rfl) (fun K hK => ?_)
          simp only [Act.put, List.setIfInBounds_toArray, List.set_cons_zero, List.set_cons_succ]
          obtain ⟨B_0, B_1, B_2, B_3, B_4, B_5⟩ := VBi.below hbu
          go_simp
          exact hK.out _ _ ⟨vu0, vu1, vu2, vu3, vu4, vu5, vu6, (.pointer (some ⟨(w.heap.size + 1), 1, none⟩)), (.slice (some ⟨b2, o2, none⟩) n cua), vu9, vu10, vu11, vu12, by simp only [Act.put, List.setIfInBounds_toArray, List.set_cons_zero, List.set_cons_succ], hbu, fun h => fu0 (mark_of (by decide) h), fun h => fu1 (mark_of (by decide) h), fun h => fu2 (mark_of (by decide) h), fun h => fu3 (mark_of (by decide) h), fun h => fu4 (mark_of (by decide) h), fun h => fu5 (mark_of (by decide) h), fun h => fu6 (mark_of (by decide) h), fun _ => rfl, fun _ => rfl, fun h => fu9 (mark_of (by decide) h), fun h => fu10 (mark_of (by decide) h), fun h => fu11 (mark_of (by decide) h), fun h => fu12 (mark_of (by decide) h)⟩
        · refine wpOp_shut (by rfl) (fun K hK => ?_)
          simp only [Act.put, List.setIfInBounds_toArray, List.set_cons_zero, List.set_cons_succ]
          go_simp
          exact hK.out _ _ ⟨vu0, vu1, vu2, vu3, vu4, vu5, vu6, vu7, vu8, (.int .i64 (i : Int)), vu10, vu11, vu12, by simp only [Act.put, List.setIfInBounds_toArray, List.set_cons_zero, List.set_cons_succ], hbu, fun h => fu0 (mark_of (by decide) h), fun h => fu1 (mark_of (by decide) h), fun h => fu2 (mark_of (by decide) h), fun h => fu3 (mark_of (by decide) h), fun h => fu4 (mark_of (by decide) h), fun h => fu5 (mark_of (by decide) h), fun h => fu6 (mark_of (by decide) h), fun h => fu7 (mark_of (by decide) h), fun h => fu8 (mark_of (by decide) h), fun _ => rfl, fun h => fu10 (mark_of (by decide) h), fun h => fu11 (mark_of (by decide) h), fun h => fu12 (mark_of (by decide) h)⟩
        · have eu8 := fu8 (dep_of 8 hru rfl (by kernel_rfl))
          have eu9 := fu9 (dep_of 9 hru rfl (by kernel_rfl))
          replace eu8 := eu8.symm
          subst eu8
          replace eu9 := eu9.symm
          subst eu9
          refine wpOp_shut (by rfl) (fun K hK => ?_)
          simp only [Act.put, List.setIfInBounds_toArray, List.set_cons_zero, List.set_cons_succ]
          go_simp
          exact hK.out _ _ ⟨vu0, vu1, vu2, vu3, vu4, vu5, vu6, vu7, (.slice (some ⟨b2, o2, none⟩) n cua), (.int .i64 (i : Int)), (.pointer (some ⟨b2, o2 + i, none⟩)), vu11, vu12, by simp only [Act.put, List.setIfInBounds_toArray, List.set_cons_zero, List.set_cons_succ], hbu, fun h => fu0 (mark_of (by decide) h), fun h => fu1 (mark_of (by decide) h), fun h => fu2 (mark_of (by decide) h), fun h => fu3 (mark_of (by decide) h), fun h => fu4 (mark_of (by decide) h), fun h => fu5 (mark_of (by decide) h), fun h => fu6 (mark_of (by decide) h), fun h => fu7 (mark_of (by decide) h), fun _ => rfl, fun _ => rfl, fun _ => rfl, fun h => fu11 (mark_of (by decide) h), fun h => fu12 (mark_of (by decide) h)⟩
        · have eu10 := fu10 (dep_of 10 hru rfl (by kernel_rfl))
          replace eu10 := eu10.symm
          subst eu10
          refine wpOp_shut (by rfl) (fun K hK => ?_)
          simp only [Act.put, List.setIfInBounds_toArray, List.set_cons_zero, List.set_cons_succ]
          have z1 := (Y2.below hbu).out
          go_simp
          exact hK.out _ _ ⟨vu0, vu1, vu2, vu3, vu4, vu5, vu6, vu7, vu8, vu9, (.pointer (some ⟨b2, o2 + i, none⟩)), (.int .u64 (f i)), vu12, by simp only [Act.put, List.setIfInBounds_toArray, List.set_cons_zero, List.set_cons_succ], hbu, fun h => fu0 (mark_of (by decide) h), fun h => fu1 (mark_of (by decide) h), fun h => fu2 (mark_of (by decide) h), fun h => fu3 (mark_of (by decide) h), fun h => fu4 (mark_of (by decide) h), fun h => fu5 (mark_of (by decide) h), fun h => fu6 (mark_of (by decide) h), fun h => fu7 (mark_of (by decide) h), fun h => fu8 (mark_of (by decide) h), fun h => fu9 (mark_of (by decide) h), fun _ => rfl, fun _ => rfl, fun h => fu12 (mark_of (by decide) h)⟩
        · have eu5 := fu5 (dep_of 5 hru rfl (by kernel_rfl))
          have eu11 := fu11 (dep_of 11 hru rfl (by kernel_rfl))
          replace eu5 := eu5.symm
          subst eu5
          replace eu11 := eu11.symm
          subst eu11
          refine wpOp_shut (by rfl) (fun K hK => ?_)
          simp only [Act.put, List.setIfInBounds_toArray, List.set_cons_zero, List.set_cons_succ]
          go_simp
          exact hK.out _ _ ⟨vu0, vu1, vu2, vu3, vu4, (.int .u64 (f i)), vu6, vu7, vu8, vu9, vu10, (.int .u64 (f i)), (.bool false), by simp only [Act.put, List.setIfInBounds_toArray, List.set_cons_zero, List.set_cons_succ], hbu, fun h => fu0 (mark_of (by decide) h), fun h => fu1 (mark_of (by decide) h), fun h => fu2 (mark_of (by decide) h), fun h => fu3 (mark_of (by decide) h), fun h => fu4 (mark_of (by decide) h), fun _ => rfl, fun h => fu6 (mark_of (by decide) h), fun h => fu7 (mark_of (by decide) h), fun h => fu8 (mark_of (by decide) h), fun h => fu9 (mark_of (by decide) h), fun h => fu10 (mark_of (by decide) h), fun _ => rfl, fun _ => rfl⟩
      rintro au Wu1 ⟨vu0, vu1, vu2, vu3, vu4, vu5, vu6, vu7, vu8, vu9, vu10, vu11, vu12, rfl, hbu, fu0, fu1, fu2, fu3, fu4, fu5, fu6, fu7, fu8, fu9, fu10, fu11, fu12⟩
      have eu0 := (fu0 rfl).symm
      subst eu0
      have eu1 := (fu1 rfl).symm
      subst eu1
      have eu2 := (fu2 rfl).symm
      subst eu2
      have eu3 := (fu3 rfl).symm
      subst eu3
      have eu4 := (fu4 rfl).symm
      subst eu4
      have eu5 := (fu5 rfl).symm
      subst eu5
      have eu6 := (fu6 rfl).symm
      subst eu6
      have eu7 := (fu7 rfl).symm
      subst eu7
      have eu8 := (fu8 rfl).symm
      subst eu8
      have eu9 := (fu9 rfl).symm
      subst eu9
      have eu10 := (fu10 rfl).symm
      subst eu10
      have eu11 := (fu11 rfl).symm
      subst eu11
      have eu12 := (fu12 rfl).symm
      subst eu12
      clear fu0 fu1 fu2 fu3 fu4 fu5 fu6 fu7 fu8 fu9 fu10 fu11 fu12
      simp only [Act.put, List.setIfInBounds_toArray, List.set_cons_zero, List.set_cons_succ]
      replace VAi := VAi.below hbu
      replace VBi := VBi.below hbu
      replace Y1 := Y1.below hbu
      replace Y2 := Y2.below hbu
      replace BB := BB.trans (hbu.mono BB.size)
      clear hbu
      refine wpAnyH_done (by kernel_rfl) ?_ _
      go_wp2_with fail
      go_roundw
      case rel => exact ⟨i + 1, by omega, by go_num, BB⟩
      case measure => simp [intOf]; omega
    · obtain rfl : i = n := by omega
      have g1 : ¬ (i : Int) < (i : Int) := by omega
      go_wp2
      clear A_0 A_1 A_2 A_3 A_4 A_5 B_0 B_1 B_2 B_3 B_4 B_5 VAi VBi
      have BLS := BL
      clear BL g1 hlt hi
      go_loopw [6] (fun vi wr => ∃ i : Nat, i ≤ m ∧ vi = .int .i64 (i : Int) ∧ Below W1.heap.size W1 wr) (fun vi _ => m - (intOf vi).toNat)
      case atStart => exact ⟨0, by omega, rfl, BLS⟩
      case round =>
        clear BLS
        obtain ⟨i, hi, rfl, BL⟩ := hrel
        have VAi := VA.below BL
        have VBi := VB.below BL
        obtain ⟨A_0, A_1, A_2, A_3, A_4, A_5⟩ := id VAi
        obtain ⟨B_0, B_1, B_2, B_3, B_4, B_5⟩ := id VBi
        by_cases hlt : i < m
        · have g1 : (i : Int) < (m : Int) := by omega
          have g0 : (0 : Int) ≤ (i : Int) := by omega
          obtain ⟨b1, o1, e1, C1⟩ := Hvb (by omega)
          obtain ⟨b2, o2, e2, C2⟩ := Hub (by omega)
          subst e1
          subst e2
          have X1 := (HBW.out.trans (BL.mono HBW.out.size)).cell (World.block_lt_of_cell? _ _ (C1 i hlt)) |>.trans (C1 i hlt)
          have X2 := (HBW.out.trans (BL.mono HBW.out.size)).cell (World.block_lt_of_cell? _ _ (C2 i hlt)) |>.trans (C2 i hlt)
          have Y1 : V1c wr b1 (o1 + i) (.int .u64 (g i)) := X1
          have Y2 : V1c wr b2 (o2 + i) (.int .u64 (g i)) := X2
          go_wp2_with fail
          clear A_0 A_1 A_2 A_3 A_4 A_5 B_0 B_1 B_2 B_3 B_4 B_5 X1 X2 C1 C2
          have BB := BL
          clear BL
          refine wp_region_until 11 #[true, true, true, true, true, true, true, true, true, true, true] (fun aF lsd a' w' => ∃ vu0 vu1 vu2 vu3 vu4 vu5 vu6 vu7 vu8 vu9 vu10 : Value, a' = ((((((((((aF.put (some 62) vu0).put (some 63) vu1).put (some 64) vu2).put (some 65) vu3).put (some 66) vu4).put (some 67) vu5).put (some 68) vu6).put (some 69) vu7).put (some 70) vu8).put (some 71) vu9).put (some 72) vu10 ∧ Below wr.heap.size wr w' ∧ (lsd.getD 0 false = true → vu0 = .pointer (some ⟨w.heap.size, 2, none⟩)) ∧ (lsd.getD 1 false = true → vu1 = .slice (some ⟨b1, o1, none⟩) m cvb) ∧ (lsd.getD 2 false = true → vu2 = .int .i64 (i : Int)) ∧ (lsd.getD 3 false = true → vu3 = .pointer (some ⟨b1, o1 + i, none⟩)) ∧ (lsd.getD 4 false = true → vu4 = .int .u64 (g i)) ∧ (lsd.getD 5 false = true → vu5 = .pointer (some ⟨(w.heap.size + 1), 2, none⟩)) ∧ (lsd.getD 6 false = true → vu6 = .slice (some ⟨b2, o2, none⟩) m cub) ∧ (lsd.getD 7 false = true → vu7 = .int .i64 (i : Int)) ∧ (lsd.getD 8 false = true → vu8 = .pointer (some ⟨b2, o2 + i, none⟩)) ∧ (lsd.getD 9 false = true → vu9 = .int .u64 (g i)) ∧ (lsd.getD 10 false = true → vu10 = .bool false)) (by kernel_rfl) (by decide) (by kernel_rfl) (by rfl) (by kernel_rfl) ?_ ?_ ?_
          · exact ⟨_, _, _, _, _, _, _, _, _, _, _, by simp only [Act.put, List.setIfInBounds_toArray, List.set_cons_zero, List.set_cons_succ]; rfl, (Below.refl _ _).drew, fun h => absurd h (fun h => mark_none h), fun h => absurd h (fun h => mark_none h), fun h => absurd h (fun h => mark_none h), fun h => absurd h (fun h => mark_none h), fun h => absurd h (fun h => mark_none h), fun h => absurd h (fun h => mark_none h), fun h => absurd h (fun h => mark_none h), fun h => absurd h (fun h => mark_none h), fun h => absurd h (fun h => mark_none h), fun h => absurd h (fun h => mark_none h), fun h => absurd h (fun h => mark_none h)⟩
          · rintro lsd au wn iu hszu ⟨vu0, vu1, vu2, vu3, vu4, vu5, vu6, vu7, vu8, vu9, vu10, rfl, hbu, fu0, fu1, fu2, fu3, fu4, fu5, fu6, fu7, fu8, fu9, fu10⟩ himu hru
            rcases (show iu = 0 ∨ iu = 1 ∨ iu = 2 ∨ iu = 3 ∨ iu = 4 ∨ iu = 5 ∨ iu = 6 ∨ iu = 7 ∨ iu = 8 ∨ iu = 9 ∨ iu = 10 by omega) with rfl | rfl | rfl | rfl | rfl | rfl | rfl | rfl | rfl | rfl | rfl
            · refine wpOp_shut (by rfl) (fun K hK => ?_)
              simp only [Act.put, List.setIfInBounds_toArray, List.set_cons_zero, List.set_cons_succ]
              go_simp
              exact hK.out _ _ ⟨(.pointer (some ⟨w.heap.size, 2, none⟩)), vu1, vu2, vu3, vu4, vu5, vu6, vu7, vu8, vu9, vu10, by simp only [Act.put, List.setIfInBounds_toArray, List.set_cons_zero, List.set_cons_succ], hbu, fun _ => rfl, fun h => fu1 (mark_of (by decide) h), fun h => fu2 (mark_of (by decide) h), fun h => fu3 (mark_of (by decide) h), fun h => fu4 (mark_of (by decide) h), fun h => fu5 (mark_of (by decide) h), fun h => fu6 (mark_of (by decide) h), fun h => fu7 (mark_of (by decide) h), fun h => fu8 (mark_of (by decide) h), fun h => fu9 (mark_of (by decide) h), fun h => fu10 (mark_of (by decide) h)⟩
            · have eu0 := fu0 (dep_of 0 hru rfl (by kernel_rfl))
              replace eu0 := eu0.symm
              subst eu0
              refine wpOp_shut (by rfl) (fun K hK => ?_)
              simp only [Act.put, List.setIfInBounds_toArray, List.set_cons_zero, List.set_cons_succ]
              obtain ⟨A_0, A_1, A_2, A_3, A_4, A_5⟩ := VAi.below hbu
              go_simp
              exact hK.out _ _ ⟨(.pointer (some ⟨w.heap.size, 2, none⟩)), (.slice (some ⟨b1, o1, none⟩) m cvb), vu2, vu3, vu4, vu5, vu6, vu7, vu8, vu9, vu10, by simp only [Act.put, List.setIfInBounds_toArray, List.set_cons_zero, List.set_cons_succ], hbu, fun _ => rfl, fun _ => rfl, fun h => fu2 (mark_of (by decide) h), fun h => fu3 (mark_of (by decide) h), fun h => fu4 (mark_of (by decide) h), fun h => fu5 (mark_of (by decide) h), fun h => fu6 (mark_of (by decide) h), fun h => fu7 (mark_of (by decide) h), fun h => fu8 (mark_of (by decide) h), fun h => fu9 (mark_of (by decide) h), fun h => fu10 (mark_of (by decide) h)⟩
            · refine wpOp_shut (by rfl) (fun K hK => ?_)
              simp only [Act.put, List.setIfInBounds_toArray, List.set_cons_zero, List.set_cons_succ]
              go_simp
              exact hK.out _ _ ⟨vu0, vu1, (.int .i64 (i : Int)), vu3, vu4, vu5, vu6, vu7, vu8, vu9, vu10, by simp only [Act.put, List.setIfInBounds_toArray, List.set_cons_zero, List.set_cons_succ], hbu, fun h => fu0 (mark_of (by decide) h), fun h => fu1 (mark_of (by decide) h), fun _ => rfl, fun h => fu3 (mark_of (by decide) h), fun h => fu4 (mark_of (by decide) h), fun h => fu5 (mark_of (by decide) h), fun h => fu6 (mark_of (by decide) h), fun h => fu7 (mark_of (by decide) h), fun h => fu8 (mark_of (by decide) h), fun h => fu9 (mark_of (by decide) h), fun h => fu10 (mark_of (by decide) h)⟩
            · have eu1 := fu1 (dep_of 1 hru rfl (by kernel_rfl))
              have eu2 := fu2 (dep_of 2 hru rfl (by kernel_rfl))
              replace eu1 := eu1.symm
              subst eu1
              replace eu2 := eu2.symm
              subst eu2
              refine wpOp_shut (by rfl) (fun K hK => ?_)
              simp only [Act.put, List.setIfInBounds_toArray, List.set_cons_zero, List.set_cons_succ]
              go_simp
              exact hK.out _ _ ⟨vu0, (.slice (some ⟨b1, o1, none⟩) m cvb), (.int .i64 (i : Int)), (.pointer (some ⟨b1, o1 + i, none⟩)), vu4, vu5, vu6, vu7, vu8, vu9, vu10, by simp only [Act.put, List.setIfInBounds_toArray, List.set_cons_zero, List.set_cons_succ], hbu, fun h => fu0 (mark_of (by decide) h), fun _ => rfl, fun _ => rfl, fun _ => rfl, fun h => fu4 (mark_of (by decide) h), fun h => fu5 (mark_of (by decide) h), fun h => fu6 (mark_of (by decide) h), fun h => fu7 (mark_of (by decide) h), fun h => fu8 (mark_of (by decide) h), fun h => fu9 (mark_of (by decide) h), fun h => fu10 (mark_of (by decide) h)⟩
            · have eu3 := fu3 (dep_of 3 hru rfl (by kernel_rfl))
              replace eu3 := eu3.symm
              subst eu3
              refine wpOp_shut (by rfl) (fun K hK => ?_)
              simp only [Act.put, List.setIfInBounds_toArray, List.set_cons_zero, List.set_cons_succ]
              have z1 := (Y1.below hbu).out
              go_simp
              exact hK.out _ _ ⟨vu0, vu1, vu2, (.pointer (some ⟨b1, o1 + i, none⟩)), (.int .u64 (g i)), vu5, vu6, vu7, vu8, vu9, vu10, by simp only [Act.put, List.setIfInBounds_toArray, List.set_cons_zero, List.set_cons_succ], hbu, fun h => fu0 (mark_of (by decide) h), fun h => fu1 (mark_of (by decide) h), fun h => fu2 (mark_of (by decide) h), fun _ => rfl, fun _ => rfl, fun h => fu5 (mark_of (by decide) h), fun h => fu6 (mark_of (by decide) h), fun h => fu7 (mark_of (by decide) h), fun h => fu8 (mark_of (by decide) h), fun h => fu9 (mark_of (by decide) h), fun h => fu10 (mark_of (by decide) h)⟩
            · refine wpOp_shut (by rfl) (fun K hK => ?_)
              simp only [Act.put, List.setIfInBounds_toArray, List.set_cons_zero, List.set_cons_succ]
              go_simp
              exact hK.out _ _ ⟨vu0, vu1, vu2, vu3, vu4, (.pointer (some ⟨(w.heap.size + 1), 2, none⟩)), vu6, vu7, vu8, vu9, vu10, by simp only [Act.put, List.setIfInBounds_toArray, List.set_cons_zero, List.set_cons_succ], hbu, fun h => fu0 (mark_of (by decide) h), fun h => fu1 (mark_of (by decide) h), fun h => fu2 (mark_of (by decide) h), fun h => fu3 (mark_of (by decide) h), fun h => fu4 (mark_of (by decide) h), fun _ => rfl, fun h => fu6 (mark_of (by decide) h), fun h => fu7 (mark_of (by decide) h), fun h => fu8 (mark_of (by decide) h), fun h => fu9 (mark_of (by decide) h), fun h => fu10 (mark_of (by decide) h)⟩
            · have eu5 := fu5 (dep_of 5 hru rfl (by kernel_rfl))
              replace eu5 := eu5.symm
              subst eu5
              refine wpOp_shut (by rfl) (fun K hK => ?_)
              simp only [Act.put, List.setIfInBounds_toArray, List.set_cons_zero, List.set_cons_succ]
              obtain ⟨B_0, B_1, B_2, B_3, B_4, B_5⟩ := VBi.below hbu
              go_simp
              exact hK.out _ _ ⟨vu0, vu1, vu2, vu3, vu4, (.pointer (some ⟨(w.heap.size + 1), 2, none⟩)), (.slice (some ⟨b2, o2, none⟩) m cub), vu7, vu8, vu9, vu10, by simp only [Act.put, List.setIfInBounds_toArray, List.set_cons_zero, List.set_cons_succ], hbu, fun h => fu0 (mark_of (by decide) h), fun h => fu1 (mark_of (by decide) h), fun h => fu2 (mark_of (by decide) h), fun h => fu3 (mark_of (by decide) h), fun h => fu4 (mark_of (by decide) h), fun _ => rfl, fun _ => rfl, fun h => fu7 (mark_of (by decide) h), fun h => fu8 (mark_of (by decide) h), fun h => fu9 (mark_of (by decide) h), fun h => fu10 (mark_of (by decide) h)⟩
            · refine wpOp_shut (by rfl) (fun K hK => ?_)
              simp only [Act.put, List.setIfInBounds_toArray, List.set_cons_zero, List.set_cons_succ]
              go_simp
              exact hK.out _ _ ⟨vu0, vu1, vu2, vu3, vu4, vu5, vu6, (.int .i64 (i : Int)), vu8, vu9, vu10, by simp only [Act.put, List.setIfInBounds_toArray, List.set_cons_zero, List.set_cons_succ], hbu, fun h => fu0 (mark_of (by decide) h), fun h => fu1 (mark_of (by decide) h), fun h => fu2 (mark_of (by decide) h), fun h => fu3 (mark_of (by decide) h), fun h => fu4 (mark_of (by decide) h), fun h => fu5 (mark_of (by decide) h), fun h => fu6 (mark_of (by decide) h), fun _ => rfl, fun h => fu8 (mark_of (by decide) h), fun h => fu9 (mark_of (by decide) h), fun h => fu10 (mark_of (by decide) h)⟩
            · have eu6 := fu6 (dep_of 6 hru rfl (by kernel_rfl))
              have eu7 := fu7 (dep_of 7 hru rfl (by kernel_rfl))
              replace eu6 := eu6.symm
              subst eu6
              replace eu7 := eu7.symm
              subst eu7
              refine wpOp_shut (by rfl) (fun K hK => ?_)
              simp only [Act.put, List.setIfInBounds_toArray, List.set_cons_zero, List.set_cons_succ]
              go_simp
              exact hK.out _ _ ⟨vu0, vu1, vu2, vu3, vu4, vu5, (.slice (some ⟨b2, o2, none⟩) m cub), (.int .i64 (i : Int)), (.pointer (some ⟨b2, o2 + i, none⟩)), vu9, vu10, by simp only [Act.put, List.setIfInBounds_toArray, List.set_cons_zero, List.set_cons_succ], hbu, fun h => fu0 (mark_of (by decide) h), fun h => fu1 (mark_of (by decide) h), fun h => fu2 (mark_of (by decide) h), fun h => fu3 (mark_of (by decide) h), fun h => fu4 (mark_of (by decide) h), fun h => fu5 (mark_of (by decide) h), fun _ => rfl, fun _ => rfl, fun _ => rfl, fun h => fu9 (mark_of (by decide) h), fun h => fu10 (mark_of (by decide) h)⟩
            · have eu8 := fu8 (dep_of 8 hru rfl (by kernel_rfl))
              replace eu8 := eu8.symm
              subst eu8
              refine wpOp_shut (by rfl) (fun K hK => ?_)
              simp only [Act.put, List.setIfInBounds_toArray, List.set_cons_zero, List.set_cons_succ]
              have z1 := (Y2.below hbu).out
              go_simp
              exact hK.out _ _ ⟨vu0, vu1, vu2, vu3, vu4, vu5, vu6, vu7, (.pointer (some ⟨b2, o2 + i, none⟩)), (.int .u64 (g i)), vu10, by simp only [Act.put, List.setIfInBounds_toArray, List.set_cons_zero, List.set_cons_succ], hbu, fun h => fu0 (mark_of (by decide) h), fun h => fu1 (mark_of (by decide) h), fun h => fu2 (mark_of (by decide) h), fun h => fu3 (mark_of (by decide) h), fun h => fu4 (mark_of (by decide) h), fun h => fu5 (mark_of (by decide) h), fun h => fu6 (mark_of (by decide) h), fun h => fu7 (mark_of (by decide) h), fun _ => rfl, fun _ => rfl, fun h => fu10 (mark_of (by decide) h)⟩
            · have eu4 := fu4 (dep_of 4 hru rfl (by kernel_rfl))
              have eu9 := fu9 (dep_of 9 hru rfl (by kernel_rfl))
              replace eu4 := eu4.symm
              subst eu4
              replace eu9 := eu9.symm
              subst eu9
              refine wpOp_shut (by rfl) (fun K hK => ?_)
              simp only [Act.put, List.setIfInBounds_toArray, List.set_cons_zero, List.set_cons_succ]
              go_simp
              exact hK.out _ _ ⟨vu0, vu1, vu2, vu3, (.int .u64 (g i)), vu5, vu6, vu7, vu8, (.int .u64 (g i)), (.bool false), by simp only [Act.put, List.setIfInBounds_toArray, List.set_cons_zero, List.set_cons_succ], hbu, fun h => fu0 (mark_of (by decide) h), fun h => fu1 (mark_of (by decide) h), fun h => fu2 (mark_of (by decide) h), fun h => fu3 (mark_of (by decide) h), fun _ => rfl, fun h => fu5 (mark_of (by decide) h), fun h => fu6 (mark_of (by decide) h), fun h => fu7 (mark_of (by decide) h), fun h => fu8 (mark_of (by decide) h), fun _ => rfl, fun _ => rfl⟩
          rintro au Wu1 ⟨vu0, vu1, vu2, vu3, vu4, vu5, vu6, vu7, vu8, vu9, vu10, rfl, hbu, fu0, fu1, fu2, fu3, fu4, fu5, fu6, fu7, fu8, fu9, fu10⟩
          have eu0 := (fu0 rfl).symm
          subst eu0
          have eu1 := (fu1 rfl).symm
          subst eu1
          have eu2 := (fu2 rfl).symm
          subst eu2
          have eu3 := (fu3 rfl).symm
          subst eu3
          have eu4 := (fu4 rfl).symm
          subst eu4
          have eu5 := (fu5 rfl).symm
          subst eu5
          have eu6 := (fu6 rfl).symm
          subst eu6
          have eu7 := (fu7 rfl).symm
          subst eu7
          have eu8 := (fu8 rfl).symm
          subst eu8
          have eu9 := (fu9 rfl).symm
          subst eu9
          have eu10 := (fu10 rfl).symm
          subst eu10
          clear fu0 fu1 fu2 fu3 fu4 fu5 fu6 fu7 fu8 fu9 fu10
          simp only [Act.put, List.setIfInBounds_toArray, List.set_cons_zero, List.set_cons_succ]
          replace VAi := VAi.below hbu
          replace VBi := VBi.below hbu
          replace Y1 := Y1.below hbu
          replace Y2 := Y2.below hbu
          replace BB := BB.trans (hbu.mono BB.size)
          clear hbu
          refine wpAnyH_done (by kernel_rfl) ?_ _
          go_wp2_with fail
          go_roundw
          case rel => exact ⟨i + 1, by omega, by go_num, BB⟩
          case measure => simp [intOf]; omega
        · obtain rfl : i = m := by omega
          have g1 : ¬ (i : Int) < (i : Int) := by omega
          go_wp2
          go_ret
          exact ⟨rfl, HBW.out.trans (BL.mono HBW.out.size)⟩

theorem once_bad1 (t : Nat → Nd) (n j : Nat) : bad5 1 (fun x => (par t x n : Int)) j = bad1 t n j := by
  unfold bad5 bad1
  congr 1
  by_cases h : par t j n = 1
  · rw [decide_eq_false (by simp [h]), decide_eq_false (by simp [h])]
  · rw [decide_eq_true (show (par t j n : Int) ≠ 1 by omega), decide_eq_true h]
theorem once_bad2 {t : Nat → Nd} {n : Nat} {outs : List Nat} (h : DInv t n outs []) (ho : Once t n) (j : Nat) (hj : j < n) : bad5 0 (fun x => (outs.count x : Int)) j = bad2 t n j := by
  unfold bad5 bad2
  rw [decide_eq_true (Nat.zero_le _), Bool.true_and]
  have hd : outs.Nodup := by have := h.nodup; simpa using this
  have hm := h.all ho j hj
  by_cases e : j ∈ outs
  · rw [hm.2 e]
    refine decide_eq_false ?_
    show ¬ ((outs.count j : Nat) : Int) ≠ 1
    rw [hd.count, if_pos e]
    simp
  · have : lawUp t n (n + 1) j = false := by
      cases g : lawUp t n (n + 1) j with
      | false => rfl
      | true => exact absurd (hm.1 g) e
    rw [this]
    refine decide_eq_true ?_
    show ((outs.count j : Nat) : Int) ≠ 1
    rw [hd.count, if_neg e]
    simp
theorem rlV1_some {F : Int} {t : Nat → Nd} {n j : Nat} (h : fb (bad1 t n) n = some j) : rlV F t n 1 = .agg #[.int .i64 11, .int .i64 0, .int .i64 0, .int .i64 (j : Int)] := by
  rw [rlV1, h]
  show nfV (bad1 t n) n 11 = _
  unfold nfV
  rw [h]
  rfl
theorem rlV1_none {F : Int} {t : Nat → Nd} {n : Nat} (h : fb (bad1 t n) n = none) : rlV F t n 1 = nfV (bad2 t n) n 11 := by rw [rlV1, h]
theorem nfV_agg (p : Nat → Bool) (n : Nat) (e : Int) : ∃ a d : Int, nfV p n e = .agg #[.int .i64 a, .int .i64 0, .int .i64 0, .int .i64 d] := by
  unfold nfV
  cases fb p n with
  | none => exact ⟨0, 0, rfl⟩
  | some j => exact ⟨e, (j : Int), rfl⟩
theorem count_take {outs : List Nat} {k x : Nat} (h : outs[k]? = some x) (y : Nat) : (outs.take (k + 1)).count y = (outs.take k).count y + (if y = x then 1 else 0) := by
  rw [List.take_add_one, h]
  simp only [Option.toList, List.count_append, List.count_singleton]
  by_cases e : y = x
  · subst e; simp
  · rw [if_neg e]; simp; exact fun h => e h.symm

theorem N14.below {w w' : World} {b o : Nat} {x0 x1 x2 x3 x4 x5 x6 x7 x8 x9 x10 x11 x12 x13 : Value} (h : N14 w b o x0 x1 x2 x3 x4 x5 x6 x7 x8 x9 x10 x11 x12 x13) (hb : Below w.heap.size w w') : N14 w' b o x0 x1 x2 x3 x4 x5 x6 x7 x8 x9 x10 x11 x12 x13 := h.low hb
theorem bad4_leaf {t : Nat → Nd} {i : Nat} (h : (t i).leaf = true) : bad4 t i = false := by unfold bad4; rw [h]; rfl
theorem bad4_split {t : Nat → Nd} {i l m : Nat} (h : (t i).leaf = false) (hl : (t i).left = (l : Int)) (hm : (t i).right = (m : Int)) : bad4 t i = !decide ((t i).cov = (t l).cov + (t m).cov) := by
  unfold bad4
  rw [h, hl, hm]
  rfl

theorem below_drewS {B : Nat} {a w : World} (h : Below B a w) (n : Nat) : Below B a (w.drewN n) := h.trans ⟨rfl, rfl, rfl, Nat.le_refl _, fun _ _ => rfl⟩
theorem Rep.eqs {w : World} {v : Value} {m : Nat} (h : Rep w v m) : Nums .u64 w v (nl W32 m) (dg W32 m) := h
/-- Two numbers that are told alike have the same limbs. -/
theorem ExT.two {w : World} {x y z x' y' z' : Value} {o : Option Rat} (h : ExT w x y z o) (h' : ExT w x' y' z' o) : ∃ p n m f g, x = .bool p ∧ x' = .bool p ∧ Nums .u64 w y n f ∧ Nums .u64 w z m g ∧ Nums .u64 w y' n f ∧ Nums .u64 w z' m g := by
  cases o with
  | none =>
    obtain ⟨rfl, rfl, rfl⟩ := h
    obtain ⟨rfl, rfl, rfl⟩ := h'
    exact ⟨false, 0, 0, fun _ => 0, fun _ => 0, rfl, rfl, Nums.nil _ _ _, Nums.nil _ _ _, Nums.nil _ _ _, Nums.nil _ _ _⟩
  | some q =>
    obtain ⟨p, a, n, c, b, m, d, e, ⟨a1, c1, e1, r1⟩, r2⟩ := h
    obtain ⟨p', a', n', c', b', m', d', e', ⟨a1', c1', e1', r1'⟩, r2'⟩ := h'
    simp only [Value.agg.injEq, Array.mk.injEq, List.cons.injEq, and_true] at e e' e1 e1'
    obtain ⟨rfl, rfl, rfl⟩ := e
    obtain ⟨rfl, rfl, rfl⟩ := e'
    obtain ⟨hp, hs⟩ := e1
    obtain ⟨hp', hs'⟩ := e1'
    rw [← hs] at r1
    rw [← hs'] at r1'
    exact ⟨_, _, _, _, _, hp, hp', r1, r2, r1', r2'⟩
/-- The cells of one tree's k-th node. -/
theorem TTr.cells {B : Nat} {w : World} {u : Value} {l : List TidN} (h : TTr B w u l) {k : Nat} {d : TidN} (hk : l[k]? = some d) : ∃ b o c lf ft y1 e1 f1 g1 h1 k1 l1 ll rr ms y2 e2 f2 g2 h2 k2 l2 y3 e3 f3 g3 h3 k3 l3, u = .slice (some ⟨b, o, none⟩) l.length c ∧ N14 w b (o + k * 14) (.bool lf) (.int .i64 ft) (.bool y1) (.slice e1 f1 g1) (.slice h1 k1 l1) (.int .i64 ll) (.int .i64 rr) (.bool ms) (.bool y2) (.slice e2 f2 g2) (.slice h2 k2 l2) (.bool y3) (.slice e3 f3 g3) (.slice h3 k3 l3) ∧ lf = d.leaf ∧ ft = d.feat ∧ ll = d.left ∧ rr = d.right ∧ ms = d.miss ∧ ExT w (.bool y1) (.slice e1 f1 g1) (.slice h1 k1 l1) d.cut ∧ ExT w (.bool y2) (.slice e2 f2 g2) (.slice h2 k2 l2) d.val ∧ ExT w (.bool y3) (.slice e3 f3 g3) (.slice h3 k3 l3) d.cov := by
  obtain ⟨b, o, c, e, h1, _, hc, hn⟩ := (GOwn.row h tnodeEl).at hk
  have hn0 := hn
  obtain ⟨lf, ft, y1, e1, f1, g1, h1', k1, l1, ll, rr, ms, y2, e2, f2, g2, h2, k2, l2, y3, e3, f3, g3, h3, k3, l3, z0, z1, z2, z3, z4, z5, z6, z7, z8, z9, z10, z11, z12, z13⟩ := hn.open
  obtain ⟨a0, a1, a2, a5, a6, a7, a8, a11⟩ := hn0
  rw [z0] at a0; rw [z1] at a1; rw [z2, z3, z4] at a2; rw [z5] at a5; rw [z6] at a6; rw [z7] at a7; rw [z8, z9, z10] at a8; rw [z11, z12, z13] at a11
  simp only [Value.bool.injEq, Value.int.injEq, true_and] at a0 a1 a5 a6 a7
  refine ⟨b, o, c, lf, ft, y1, e1, f1, g1, h1', k1, l1, ll, rr, ms, y2, e2, f2, g2, h2, k2, l2, y3, e3, f3, g3, h3, k3, l3, h1, ?_, a0, a1, a5, a6, a7, a2, a8, a11⟩
  exact ⟨by rw [← z0]; exact hc 0 (by omega), by rw [← z1]; exact hc 1 (by omega), by rw [← z2]; exact hc 2 (by omega), by rw [← z3]; exact hc 3 (by omega), by rw [← z4]; exact hc 4 (by omega), by rw [← z5]; exact hc 5 (by omega), by rw [← z6]; exact hc 6 (by omega), by rw [← z7]; exact hc 7 (by omega), by rw [← z8]; exact hc 8 (by omega), by rw [← z9]; exact hc 9 (by omega), by rw [← z10]; exact hc 10 (by omega), by rw [← z11]; exact hc 11 (by omega), by rw [← z12]; exact hc 12 (by omega), by rw [← z13]; exact hc 13 (by omega)⟩


set_option maxRecDepth 100000 in
set_option maxHeartbeats 8000000 in
theorem same7_at (F : Int) (v u : Value) (B B2 : Nat) (ls : List (List TidN)) (w : World) (hv : TMo B w v ls) (hu : TMo B2 w u ls) (hk : ls.length ≤ 1000) (hm : ∀ l ∈ ls, l.length ≤ 1000) :
    Calls Tryd.prog 6 #[.agg #[.int .i64 F, v], .agg #[.int .i64 F, u]] w fun e w' => e = .returned (.bool true) ∧ Below w.heap.size w w' := by
  obtain ⟨av, cv, rfl, hcv⟩ := hv.form
  obtain ⟨au, cu, rfl, hcu⟩ := hu.form
  have BB : Below w.heap.size w w := Below.refl _ _
  obtain ⟨W0, hW0, hS0, hL0, VA⟩ := V2.lay w 24 (.int .i64 F) (.slice av ls.length cv)
  replace BB := BB.trans (hL0.mono BB.size)
  replace hv := hv.below hL0
  replace hu := hu.below hL0
  obtain ⟨W1, hW1, hS1, hL1, VB⟩ := V2.lay W0 24 (.int .i64 F) (.slice au ls.length cu)
  rw [hS0] at VB hS1
  replace VA := VA.below hL1
  replace BB := BB.trans (hL1.mono BB.size)
  replace hv := hv.below hL1
  replace hu := hu.below hL1
  obtain ⟨A_0, A_1, A_2, A_3⟩ := id VA
  obtain ⟨B_0, B_1, B_2, B_3⟩ := id VB
  rw [hW1, hW0] at A_0 A_1 A_2 A_3 B_0 B_1 B_2 B_3
  obtain ⟨n, hn⟩ : ∃ n, ls.length = n := ⟨_, rfl⟩
  have HN : Hid (ls.length = n) := hn
  rw [hn] at VA VB A_0 A_1 A_2 A_3 B_0 B_1 B_2 B_3 hk hW0 hW1
  rw [hn]
  clear hn
  go_enter Tryd.func6, Tryd.ntmps6
  go_wp2
  clear A_0 A_1 A_2 A_3 B_0 B_1 B_2 B_3
  rw [← hW0, ← hW1]
  clear hW0 hW1 hL0 hL1 hS0 hS1
  have HBW : Hid (Below w.heap.size w W1) := BB
  clear BB
  have BLS : Below W1.heap.size W1 W1 := Below.refl _ _
  go_loopw [5] (fun vi wr => ∃ i : Nat, i ≤ n ∧ vi = .int .i64 (i : Int) ∧ Below W1.heap.size W1 wr) (fun vi _ => n - (intOf vi).toNat)
  case atStart => exact ⟨0, by omega, rfl, BLS⟩
  case round =>
    clear BLS
    obtain ⟨i, hi, rfl, BL⟩ := hrel
    have VAi := VA.below BL
    have VBi := VB.below BL
    obtain ⟨A_0, A_1, A_2, A_3⟩ := id VAi
    obtain ⟨B_0, B_1, B_2, B_3⟩ := id VBi
    by_cases hlt : i < n
    · have g1 : (i : Int) < (n : Int) := by omega
      have g0 : (0 : Int) ≤ (i : Int) := by omega
      obtain ⟨l, hl⟩ : ∃ l, ls[i]? = some l := ⟨_, List.getElem?_eq_getElem (by rw [HN.out]; exact hlt)⟩
      obtain ⟨ga, ca, ua, ea, hca, CA, TA⟩ := hv.at hl
      obtain ⟨gb, cb, ub, eb, hcb, CB, TB⟩ := hu.at hl
      cases ea
      cases eb
      obtain ⟨aa, sa, rfl, hsa⟩ := GOwn.form TA
      obtain ⟨ab, sb, rfl, hsb⟩ := GOwn.form TB
      have hlm := hm l (List.mem_of_getElem? hl)
      obtain ⟨m, hme⟩ : ∃ m, l.length = m := ⟨_, rfl⟩
      have HM : Hid (l.length = m) := hme
      rw [hme] at CA CB hlm
      clear hme
      have CAo := CA
      have CBo := CB
      replace CA := cell_later BL CA
      replace CB := cell_later BL CB
      go_wp2
      go_quiet (fail)
      go_wp2_with fail
      clear A_0 A_1 A_2 A_3 B_0 B_1 B_2 B_3
      go_loopw [6] (fun vk wr => ∃ k : Nat, k ≤ m ∧ vk = .int .i64 (k : Int) ∧ Below W1.heap.size W1 wr) (fun vk _ => m - (intOf vk).toNat)
      case atStart => exact ⟨0, by omega, rfl, below_drewS BL _⟩
      case round =>
        clear CA CB VAi VBi
        obtain ⟨k, hkm, rfl, BI⟩ := hrel
        have VAk := VA.below BI
        have VBk := VB.below BI
        have CA := cell_later BI CAo
        have CB := cell_later BI CBo
        obtain ⟨A_0, A_1, A_2, A_3⟩ := id VAk
        obtain ⟨B_0, B_1, B_2, B_3⟩ := id VBk
        by_cases hlk : k < m
        · have e1 : (k : Int) < (m : Int) := by omega
          have e0 : (0 : Int) ≤ (k : Int) := by omega
          obtain ⟨d, hd⟩ : ∃ d, l[k]? = some d := ⟨_, List.getElem?_eq_getElem (by rw [HM.out]; exact hlk)⟩
          obtain ⟨ba, oa, xa, lfa, fta, y1a, e1a, f1a, g1a, h1a, k1a, l1a, lla, rra, msa, y2a, e2a, f2a, g2a, h2a, k2a, l2a, y3a, e3a, f3a, g3a, h3a, k3a, l3a, eva, NA, rfl, rfl, rfl, rfl, rfl, xa1, xa2, xa3⟩ := (TTr.below TA BI).cells hd
          obtain ⟨bb, ob, xb, lfb, ftb, y1b, e1b, f1b, g1b, h1b, k1b, l1b, llb, rrb, msb, y2b, e2b, f2b, g2b, h2b, k2b, l2b, y3b, e3b, f3b, g3b, h3b, k3b, l3b, evb, NB, hlf, hft, hll, hrr, hms, xb1, xb2, xb3⟩ := (TTr.below TB BI).cells hd
          rw [hlf, hft, hll, hrr, hms] at NB
          clear hlf hft hll hrr hms
          cases eva
          cases evb
          obtain ⟨p1, n1, m1, q1, t1, ep1, ep1b, na1, na2, nb1, nb2⟩ := xa1.two xb1
          obtain ⟨p2, n2, m2, q2, t2, ep2, ep2b, na3, na4, nb3, nb4⟩ := xa2.two xb2
          obtain ⟨p3, n3, m3, q3, t3, ep3, ep3b, na5, na6, nb5, nb6⟩ := xa3.two xb3
          cases ep1
          cases ep2
          cases ep3
          cases ep1b
          cases ep2b
          cases ep3b
          generalize d.leaf = lf at *
          generalize d.feat = ft at *
          generalize d.left = ll at *
          generalize d.right = rr at *
          generalize d.miss = ms at *
          clear xa1 xa2 xa3 xb1 xb2 xb3 hd
          obtain ⟨W3, hW3, hS3, hL3, VX, FX⟩ := V14.lay wr 37 (.bool lf) (.int .i64 ft) (.bool y1a) (.slice e1a f1a g1a) (.slice h1a k1a l1a) (.int .i64 ll) (.int .i64 rr) (.bool ms) (.bool y2a) (.slice e2a f2a g2a) (.slice h2a k2a l2a) (.bool y3a) (.slice e3a f3a g3a) (.slice h3a k3a l3a)
          obtain ⟨W4, hW4, hS4, hL4, VY, FY⟩ := V14.lay W3 37 (.bool lf) (.int .i64 ft) (.bool y1a) (.slice e1b f1b g1b) (.slice h1b k1b l1b) (.int .i64 ll) (.int .i64 rr) (.bool ms) (.bool y2a) (.slice e2b f2b g2b) (.slice h2b k2b l2b) (.bool y3a) (.slice e3b f3b g3b) (.slice h3b k3b l3b)
          rw [hS3] at VY
          have VX4 := VX.below hL4
          replace na1 := (na1.below hL3).below hL4
          replace na2 := (na2.below hL3).below hL4
          replace na3 := (na3.below hL3).below hL4
          replace na4 := (na4.below hL3).below hL4
          replace na5 := (na5.below hL3).below hL4
          replace na6 := (na6.below hL3).below hL4
          replace nb1 := (nb1.below hL3).below hL4
          replace nb2 := (nb2.below hL3).below hL4
          replace nb3 := (nb3.below hL3).below hL4
          replace nb4 := (nb4.below hL3).below hL4
          replace nb5 := (nb5.below hL3).below hL4
          replace nb6 := (nb6.below hL3).below hL4
          obtain ⟨NA_0, NA_1, NA_2, NA_3, NA_4, NA_5, NA_6, NA_7, NA_8, NA_9, NA_10, NA_11, NA_12, NA_13⟩ := id NA
          obtain ⟨NB_0, NB_1, NB_2, NB_3, NB_4, NB_5, NB_6, NB_7, NB_8, NB_9, NB_10, NB_11, NB_12, NB_13⟩ := id NB
          have NB3 := NB.below hL3
          obtain ⟨NC_0, NC_1, NC_2, NC_3, NC_4, NC_5, NC_6, NC_7, NC_8, NC_9, NC_10, NC_11, NC_12, NC_13⟩ := id NB3
          rw [hW3] at NC_0 NC_1 NC_2 NC_3 NC_4 NC_5 NC_6 NC_7 NC_8 NC_9 NC_10 NC_11 NC_12 NC_13
          have A3 := VAk.below hL3
          have B3 := VBk.below hL3
          have CB3 := cell_later hL3 CB
          have CA3 := cell_later hL3 CA
          obtain ⟨A3_0, A3_1, A3_2, A3_3⟩ := id A3
          obtain ⟨B3_0, B3_1, B3_2, B3_3⟩ := id B3
          rw [hW3] at A3_0 A3_1 A3_2 A3_3 B3_0 B3_1 B3_2 B3_3 CA3 CB3
          obtain ⟨X_0, X_1, X_2, X_3, X_4, X_5, X_6, X_7, X_8, X_9, X_10, X_11, X_12, X_13⟩ := id VX4
          obtain ⟨Y_0, Y_1, Y_2, Y_3, Y_4, Y_5, Y_6, Y_7, Y_8, Y_9, Y_10, Y_11, Y_12, Y_13⟩ := id VY
          rw [hW4, hW3] at X_0 X_1 X_2 X_3 X_4 X_5 X_6 X_7 X_8 X_9 X_10 X_11 X_12 X_13 Y_0 Y_1 Y_2 Y_3 Y_4 Y_5 Y_6 Y_7 Y_8 Y_9 Y_10 Y_11 Y_12 Y_13
          have FX3 := FX
          have FY3 := FY
          go_wp2_with fail
          clear NA NB NB3 A3 B3 CB3 CA3 A3_0 A3_1 A3_2 A3_3 B3_0 B3_1 B3_2 B3_3 NA_0 NB_0 NC_0 X_0 Y_0 NA_1 NB_1 NC_1 X_1 Y_1 NA_2 NB_2 NC_2 X_2 Y_2 NA_3 NB_3 NC_3 X_3 Y_3 NA_4 NB_4 NC_4 X_4 Y_4 NA_5 NB_5 NC_5 X_5 Y_5 NA_6 NB_6 NC_6 X_6 Y_6 NA_7 NB_7 NC_7 X_7 Y_7 NA_8 NB_8 NC_8 X_8 Y_8 NA_9 NB_9 NC_9 X_9 Y_9 NA_10 NB_10 NC_10 X_10 Y_10 NA_11 NB_11 NC_11 X_11 Y_11 NA_12 NB_12 NC_12 X_12 Y_12 NA_13 NB_13 NC_13 X_13 Y_13
          have hws : W3.heap.size = wr.heap.size + 1 := hS3
          rw [← hW3, ← hW4]
          have B4 : Below wr.heap.size wr W4 := hL3.trans (hL4.mono (by omega))
          have BZ : Below W1.heap.size W1 W4 := BI.trans (B4.mono BI.size)
          clear hW3 hW4 hS3 hS4 hL3 hL4 B4 VX BI
          obtain ⟨RX, hRX⟩ : ∃ R, wr.heap.size = R := ⟨_, rfl⟩
          rw [hRX] at VX4 VY
          rw [hRX]
          clear hRX hws
          refine (exact_at y1a _ _ _ _ _ _ _ _ _ na1 na2 nb1 nb2).mono ?_
          rintro e W5 ⟨rfl, bx⟩
          replace VX4 := VX4.below bx
          replace VY := VY.below bx
          replace na1 := na1.below bx
          replace na2 := na2.below bx
          replace na3 := na3.below bx
          replace na4 := na4.below bx
          replace na5 := na5.below bx
          replace na6 := na6.below bx
          replace nb1 := nb1.below bx
          replace nb2 := nb2.below bx
          replace nb3 := nb3.below bx
          replace nb4 := nb4.below bx
          replace nb5 := nb5.below bx
          replace nb6 := nb6.below bx
          replace BZ := BZ.trans (bx.mono BZ.size)
          clear bx
          obtain ⟨X_0, X_1, X_2, X_3, X_4, X_5, X_6, X_7, X_8, X_9, X_10, X_11, X_12, X_13⟩ := id VX4
          obtain ⟨Y_0, Y_1, Y_2, Y_3, Y_4, Y_5, Y_6, Y_7, Y_8, Y_9, Y_10, Y_11, Y_12, Y_13⟩ := id VY
          go_wp2_with fail
          clear X_0 Y_0 X_1 Y_1 X_2 Y_2 X_3 Y_3 X_4 Y_4 X_5 Y_5 X_6 Y_6 X_7 Y_7 X_8 Y_8 X_9 Y_9 X_10 Y_10 X_11 Y_11 X_12 Y_12 X_13 Y_13
          refine (exact_at y2a _ _ _ _ _ _ _ _ _ na3 na4 nb3 nb4).mono ?_
          rintro e W6 ⟨rfl, bx⟩
          replace VX4 := VX4.below bx
          replace VY := VY.below bx
          replace na1 := na1.below bx
          replace na2 := na2.below bx
          replace na3 := na3.below bx
          replace na4 := na4.below bx
          replace na5 := na5.below bx
          replace na6 := na6.below bx
          replace nb1 := nb1.below bx
          replace nb2 := nb2.below bx
          replace nb3 := nb3.below bx
          replace nb4 := nb4.below bx
          replace nb5 := nb5.below bx
          replace nb6 := nb6.below bx
          replace BZ := BZ.trans (bx.mono BZ.size)
          clear bx
          obtain ⟨X_0, X_1, X_2, X_3, X_4, X_5, X_6, X_7, X_8, X_9, X_10, X_11, X_12, X_13⟩ := id VX4
          obtain ⟨Y_0, Y_1, Y_2, Y_3, Y_4, Y_5, Y_6, Y_7, Y_8, Y_9, Y_10, Y_11, Y_12, Y_13⟩ := id VY
          go_wp2_with fail
          clear X_0 Y_0 X_1 Y_1 X_2 Y_2 X_3 Y_3 X_4 Y_4 X_5 Y_5 X_6 Y_6 X_7 Y_7 X_8 Y_8 X_9 Y_9 X_10 Y_10 X_11 Y_11 X_12 Y_12 X_13 Y_13
          refine (exact_at y3a _ _ _ _ _ _ _ _ _ na5 na6 nb5 nb6).mono ?_
          rintro e W7 ⟨rfl, bx⟩
          replace VX4 := VX4.below bx
          replace VY := VY.below bx
          replace na1 := na1.below bx
          replace na2 := na2.below bx
          replace na3 := na3.below bx
          replace na4 := na4.below bx
          replace na5 := na5.below bx
          replace na6 := na6.below bx
          replace nb1 := nb1.below bx
          replace nb2 := nb2.below bx
          replace nb3 := nb3.below bx
          replace nb4 := nb4.below bx
          replace nb5 := nb5.below bx
          replace nb6 := nb6.below bx
          replace BZ := BZ.trans (bx.mono BZ.size)
          clear bx
          obtain ⟨X_0, X_1, X_2, X_3, X_4, X_5, X_6, X_7, X_8, X_9, X_10, X_11, X_12, X_13⟩ := id VX4
          obtain ⟨Y_0, Y_1, Y_2, Y_3, Y_4, Y_5, Y_6, Y_7, Y_8, Y_9, Y_10, Y_11, Y_12, Y_13⟩ := id VY
          go_wp2_with fail
          clear X_0 Y_0 X_1 Y_1 X_2 Y_2 X_3 Y_3 X_4 Y_4 X_5 Y_5 X_6 Y_6 X_7 Y_7 X_8 Y_8 X_9 Y_9 X_10 Y_10 X_11 Y_11 X_12 Y_12 X_13 Y_13
          go_roundw
          case rel => exact ⟨k + 1, by omega, by go_num, BZ⟩
          case measure => simp [intOf]; omega
        · obtain rfl : k = m := by omega
          have e1 : ¬ (k : Int) < (k : Int) := by omega
          go_wp2
          go_roundw
          case rel => exact ⟨i + 1, by omega, by go_num, BI⟩
          case measure => simp [intOf]; omega
    · obtain rfl : i = n := by omega
      have g1 : ¬ (i : Int) < (i : Int) := by omega
      go_wp2
      go_ret
      exact ⟨rfl, HBW.out.trans (BL.mono HBW.out.size)⟩

/-- A node with what its kind has alone. -/
def ndN (d : Nd) : Nd := if d.leaf = true then ⟨true, 0, 0, 0, 0, false, d.val, d.cov⟩ else ⟨false, d.feat, d.cut, d.left, d.right, d.miss, 0, d.cov⟩
theorem tid_nrm (d : Nd) : tidN (ndN d) = tidN d := by
  unfold ndN
  by_cases h : d.leaf = true
  · rw [if_pos h]
    unfold tidN
    rw [if_pos h]
    rfl
  · rw [if_neg h]
    unfold tidN
    rw [if_neg h]
    rfl
theorem tidL_nrm (t : Nat → Nd) (n : Nat) : tidL (fun i => ndN (t i)) n = tidL t n := by
  unfold tidL
  exact List.map_congr_left fun i _ => tid_nrm (t i)
theorem tidM_nrm (N : Nat → Nat) (T : Nat → Nat → Nd) (k : Nat) : tidM N (fun i q => ndN (T i q)) k = tidM N T k := by
  unfold tidM
  exact List.map_congr_left fun i _ => tidL_nrm (T i) (N i)
theorem ExT.at_some {w : World} {x y z : Value} {q : Rat} (h : ExT w x y z (some q)) {L : Nat} (hL : qsz q ≤ L) : AtN w x y z q L := by
  obtain ⟨p, a, n, c, b, m, d, rfl, rfl, rfl⟩ := h.open
  exact ⟨p, a, n, c, b, m, d, rfl, rfl, rfl, RepQ.at h L hL⟩
theorem ExT.at_none {w : World} {x y z : Value} (h : ExT w x y z none) (L : Nat) : AtN w x y z 0 L := by
  obtain ⟨rfl, rfl, rfl⟩ := h
  exact ⟨false, none, 0, 0, none, 0, 0, rfl, rfl, rfl, RatAt.nil _ _⟩
theorem AtN.qsz {w : World} {x y z : Value} {q : Rat} {L : Nat} (h : AtN w x y z q L) (hL : 1 ≤ L) : qsz q ≤ L := by
  obtain ⟨p, a, n, c, b, m, d, rfl, rfl, rfl, r⟩ := h
  exact r.qsz hL
theorem NodeAt.nrm {w w0 : World} {el el0 : Nat → Value} {d : Nd} {L : Nat} (h : TNode w el (tidN d)) (h0 : NodeAt w0 el0 d L) (hL : 1 ≤ L) : NodeAt w el (ndN d) L := by
  obtain ⟨_, _, c1, _, _, _, c2, c3, i1, i2, i3⟩ := h0
  have s1 := c1.qsz hL
  have s2 := c2.qsz hL
  have s3 := c3.qsz hL
  unfold tidN at h
  unfold ndN
  have z : I64 0 := by constructor <;> decide
  by_cases hl : d.leaf = true
  · rw [if_pos hl] at h ⊢
    obtain ⟨a, b, c, e, f, g, k, l⟩ := h
    exact ⟨a, b, c.at_none L, e, f, g, k.at_some s2, l.at_some s3, z, z, z⟩
  · rw [if_neg hl] at h ⊢
    obtain ⟨a, b, c, e, f, g, k, l⟩ := h
    exact ⟨a, b, c.at_some s1, e, f, g, k.at_none L, l.at_some s3, i1, i2, i3⟩
theorem TMo.mrow {B : Nat} {w w0 : World} {v v0 : Value} {k : Nat} {N : Nat → Nat} {T : Nat → Nat → Nd} {L : Nat} (h : TMo B w v (tidM N T k)) (h0 : MRow w0 v0 k N T L) (hL : 1 ≤ L) : MRow w v k N (fun i q => ndN (T i q)) L := by
  obtain ⟨us, h1, _, h3⟩ := h
  obtain ⟨el0, _, h4⟩ := h0
  rw [tidM_len] at h1
  refine ⟨fun i _ => us.getD i undef, ?_, fun i hi => ?_⟩
  · refine RowAt.of_owns h1 fun i hi j hj => ?_
    have hl : us.length = k * 1 := h1.1
    obtain rfl : j = 0 := by omega
    rw [List.getD_eq_getElem?_getD, Nat.mul_one, Nat.add_zero, List.getElem?_eq_getElem (by omega)]
    rfl
  · have hg : (tidM N T k)[i]? = some (tidL (T i) (N i)) := by
      unfold tidM
      simp [hi]
    obtain ⟨u, hu, ht⟩ := h3 i _ hg
    have e : us.getD i undef = u := by rw [List.getD_eq_getElem?_getD, hu]; rfl
    show TRow w (us.getD i undef) (N i) (fun q => ndN (T i q)) L
    rw [e]
    obtain ⟨el1, hr, hn⟩ := GOwn.row ht tnodeEl
    obtain ⟨el2, _, hn2⟩ := h4 i hi
    rw [tidL_len] at hr
    exact ⟨el1, hr, fun q hq => NodeAt.nrm (hn q _ (by unfold tidL; simp [hq])) (hn2 q hq) hL⟩
theorem tidM_all (N : Nat → Nat) (T : Nat → Nat → Nd) (k M : Nat) (h : ∀ i, i < k → N i ≤ M) : ∀ l ∈ tidM N T k, l.length ≤ M := by
  intro l hl
  unfold tidM at hl
  rw [List.mem_map] at hl
  obtain ⟨i, hi, rfl⟩ := hl
  rw [tidL_len]
  exact h i (List.mem_range.1 hi)

end Go.Proofs.YtbelnhpjhpoacaaDoor
