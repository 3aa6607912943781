/-
 Proves that Nodes tells the mean of the leaves below each node of any tree of up to 15 nodes, weighed by their covers, or why nothing, whatever comes in (the statement ExpectNodes, its tied card); the table of math/bits lies as the program's text lays it; no other condition.
-/
import Derived.Test.YtcackghehjbeeaaGreatDoorJ28ba950bd3
import Derived.Test.YtcackghehjbeeaaGreatDoorRows
import Derived.Test.YtcackghehjbeeaaGreatDoorJ104ee8f4d2
import Derived.Test.YtcackghehjbeeaaGreatDoorJb87c9c6141
import Derived.Test.YtcackghehjbeeaaGreatDoorJ87f5e52d78
import Derived.Test.YtcackghehjbeeaaGreatDoorJ952dd77c35
import Derived.WalkKit
import Derived.ProofKit
import Derived.OpenShut
import Derived.ShutString
import Derived.ChangeOld
import Derived.Below
import Derived.Test.YtcackghehjbeeaaGreatDoorTie
import Derived.Test.YtcackghehjbeeaaGreatDoorCards
import Derived.LaidByTextLater
import Derived.LaidHandle
import Derived.Lib.LaidTab
import Derived.SevenTiedAt
namespace Go.Proofs.YtcackghehjbeeaaGreatDoor.expectNodes
open Go.ChangeShapes Go.WideShapes Go.ChangeAt Go.RowKit
open Go.ChangeMaps (open_string shut_string)
set_option linter.unusedVariables false
set_option linter.unusedSimpArgs false

theorem field_model (w : World) (x y : Value) : Sem.run Tryz.prog (Instr.field 24 (.agg #[x, y]) 1) w = .ok y w := by kernel_rfl
theorem sum_leaves (t : Nat → Nd) : ∀ l : List Nat, sumq (fun j => (t (l.getD j 0)).cov * (t (l.getD j 0)).val) l.length = wsL t l := by
 have key : ∀ (l : List Nat) (l0 : List Nat) (s : Rat), s = wsL t l0 → ∀ k, k ≤ l.length → s + sumq (fun j => (t (l.getD j 0)).cov * (t (l.getD j 0)).val) k = wsL t (l0 ++ l.take k) := by
  intro l l0 s hs k
  induction k with
  | zero => intro _; rw [List.take_zero, List.append_nil, ← hs]; exact Rat.add_zero _
  | succ k ih =>
   intro hk
   have h1 := ih (by omega)
   show s + (sumq _ k + _) = _
   rw [← Rat.add_assoc, h1, List.take_succ_eq_append_getElem (by omega), ← List.append_assoc, wsL_app t (l0 ++ l.take k)]
   congr 1
   show (t (l.getD k 0)).cov * (t (l.getD k 0)).val = (t l[k]).val * (t l[k]).cov + 0
   rw [List.getD_eq_getElem?_getD, List.getElem?_eq_getElem (by omega), Rat.add_zero]
   exact Rat.mul_comm _ _
 intro l
 have := key l [] 0 rfl l.length (Nat.le_refl _)
 rw [Rat.zero_add, List.take_length, List.nil_append] at this
 exact this
theorem _root_.Go.Proofs.YtcackghehjbeeaaGreatDoor.MayT.lvs_small {F : Int} {t : Nat → Nd} {n : Nat} (h : MayT F t n) {x : Nat} (hx : x < n) : ∀ y ∈ lvs t n x, y < n := fun y hy => ((h.pre_sub hx) y ((List.mem_filter.1 hy).1)).1
theorem _root_.Go.Proofs.YtcackghehjbeeaaGreatDoor.FRow.cells11 {w : World} {v : Value} {n : Nat} {q : Nat → Rat} (h : FRow w v n q) (i : Nat) (hi : i < n) : ∃ b off c p a1 n1 c1 b1 m1 d1, v = .slice (some ⟨b, off, none⟩) n c ∧ w.cell? ⟨b, off + i * 3, none⟩ = some (.bool p) ∧ w.cell? ⟨b, off + i * 3 + 1, none⟩ = some (.slice a1 n1 c1) ∧ w.cell? ⟨b, off + i * 3 + 2, none⟩ = some (.slice b1 m1 d1) ∧ RepQ w (.agg #[.bool p, .slice a1 n1 c1, .slice b1 m1 d1]) (q i) := by
 obtain ⟨el, ⟨a, c, e, h1, h2, h3⟩, h4⟩ := h
 obtain ⟨b, off, rfl, hc⟩ := h3 (by omega)
 have hr := h4 i hi
 obtain ⟨p, a1, n1, c1, b1, m1, d1, he⟩ := hr.open
 rw [he] at hr
 simp only [Value.agg.injEq, Array.mk.injEq, List.cons.injEq, and_true] at he
 have c0 := hc i hi 0 (by omega)
 have c1' := hc i hi 1 (by omega)
 have c2 := hc i hi 2 (by omega)
 rw [he.1] at c0
 rw [he.2.1] at c1'
 rw [he.2.2] at c2
 exact ⟨b, off, c, p, a1, n1, c1, b1, m1, d1, e, c0, c1', c2, hr⟩

/-- A list of whole numbers lies in memory. -/
structure ZC11 (w : World) (g : Nat) (zs : List Nat) : Prop where
 cell : ∀ j x : Nat, zs[j]? = some x → w.cell? ⟨g, j, none⟩ = some (.int .i64 (x : Int))
theorem ZC11.below {w w' : World} {g : Nat} {zs : List Nat} (h : ZC11 w g zs) (hb : Below w.heap.size w w') : ZC11 w' g zs := ⟨fun j x hj => (hb.cell (p := ⟨g, j, none⟩) (World.block_lt_of_cell? _ _ (h.cell j x hj))).trans (h.cell j x hj)⟩
theorem ZC11.keep {w w' : World} {g : Nat} {zs : List Nat} (h : ZC11 w g zs) (hk : KeepQ IsNum w w') : ZC11 w' g zs := ⟨fun j x hj => hk _ _ _ ⟨_, _, rfl⟩ (h.cell j x hj)⟩

set_option maxRecDepth 100000 in
set_option maxHeartbeats 16000000 in
theorem walk (v : Value) (n : Nat) (t : Nat → Nd) (F : Int) (w : World) (hv : TRaw w v n t 4) (hF : (Lit.int .i64 F).wf = true) (ht : Tab w) :
  Calls Tryz.prog 5 #[v, .int .i64 F] w fun e w' => e = .returned (.bool true) ∧ Below w.heap.size w w' := by
 clear hF
 obtain ⟨ao, c, rfl, hnc, hc63⟩ := hv.open
 have BB : Below w.heap.size w w := Below.refl _ _
 have M1 := one_raw hv 47
 have hA : Below w.heap.size w (w.alloc (.cells #[.slice ao n c] 47)) := (Below.refl _ _).alloc (Nat.le_refl _) _
 replace ht := ht.below hA
 replace BB := BB.trans (hA.mono BB.size)
 go_enter Tryz.func5, Tryz.ntmps5
 go_wp2_with fail
 refine (few7_at 0 _ 1 (fun _ => n) (fun _ => t) _ M1).mono ?_
 rintro e w1 ⟨r, rfl, MO, b1⟩
 replace ht := ht.below b1
 replace BB := BB.trans (b1.mono BB.size)
 clear b1
 obtain ⟨ar, cr, rfl⟩ := MO.form
 clear M1 hA
 have MR := MO.row
 clear MO
 have hnn15 : min n 15 ≤ 15 := Nat.min_le_right _ _
 generalize hnn : min n 15 = nn at MR hnn15
 clear hnn
 have MR : MRow w1 (.slice ar 1 cr) 1 (fun _ => nn) (fun _ => t) 4 := MR
 obtain ⟨bT, oT, cT, aT, dT, hvv, hcc, XT, TR⟩ := MR.at (i := 0) (by omega)
 cases hvv
 rw [Nat.add_zero] at XT
 clear MR
 (try rw [show min 1 6 = 1 by omega])
 have hfd := field_model w1 (.int .i64 0) (.slice (some ⟨bT, oT, none⟩) 1 cr)
 go_wp2_with fail
 clear XT hfd
 obtain ⟨B, hB⟩ : ∃ B, mayB F 1 (fun _ => nn) (fun _ => t) = B := ⟨_, rfl⟩
 have HB : Hid (mayB F 1 (fun _ => nn) (fun _ => t) = B) := hB
 clear hB
 cases B
 ·refine (nodes_no F _ nn t 4 10 _ TR ht (by omega) (by omega) (by omega) HB.out).mono ?_
  rintro e w6 ⟨rfl, b6⟩
  replace ht := ht.below b6
  replace TR := TR.below b6
  replace BB := BB.trans (b6.mono BB.size)
  clear b6
  go_wp2_with fail
  refine (tree_may F _ nn t 4 _ TR ht (by omega) (by omega)).mono ?_
  rintro e w7 ⟨rfl, b7⟩
  replace ht := ht.below b7
  replace TR := TR.below b7
  replace BB := BB.trans (b7.mono BB.size)
  clear b7
  rw [HB.out]
  go_wp2_with fail
  refine (awake11_at _ ht).mono ?_
  rintro e w8 ⟨rfl, b8⟩
  replace ht := ht.below b8
  replace TR := TR.below b8
  replace BB := BB.trans (b8.mono BB.size)
  clear b8
  go_wp2
  go_ret
  exact ⟨rfl, BB⟩
 ·have HM : Hid (MayT F t nn) := (mayB_may HB.out).2.2.2 0 (by omega)
  have HSW : Hid (∀ i, i < nn → qsz (ws t nn i) ≤ 150) := fun i hi => ws_sz (C := 10) HM.out (fun j hj => TR.sz11 (by omega) hj) (by omega) (by omega) hi
  have HSV : Hid (∀ j, j < nn → qsz (t j).val ≤ 4 ∧ qsz (t j).cov ≤ 4) := fun j hj => TR.sz11 (by omega) hj
  refine (nodes_yes F _ nn t 4 10 _ TR ht (by omega) (by omega) (by omega) HB.out).mono ?_
  rintro e w6 ⟨vl, rfl, hl, b6⟩
  replace ht := ht.below b6
  replace TR := TR.below b6
  replace BB := BB.trans (b6.mono BB.size)
  clear b6
  obtain ⟨al, cl, rfl⟩ := hl.open
  go_wp2_with fail
  refine (tree_may F _ nn t 4 _ TR ht (by omega) (by omega)).mono ?_
  rintro e w7 ⟨rfl, b7⟩
  replace ht := ht.below b7
  replace TR := TR.below b7
  replace hl := hl.below b7
  replace BB := BB.trans (b7.mono BB.size)
  clear b7
  rw [HB.out]
  go_wp2
  have ht0 : Hid (Tab w7) := ht
  have TR0 : Hid (TRow w7 (.slice aT nn dT) nn t 4) := TR
  have hl0 : Hid (FRow w7 (.slice al nn cl) nn (meanN t nn)) := hl
  clear ht TR hl
  go_loopw [7] (fun vi wr => ∃ i : Nat, i ≤ nn ∧ vi = .int .i64 (i : Int) ∧ Below w7.heap.size w7 wr) (fun vi _ => nn - (intOf vi).toNat)
  case atStart => exact ⟨0, by omega, rfl, Below.refl _ _⟩
  case round =>
   obtain ⟨i, hi, rfl, BL⟩ := hrel
   by_cases hlt : i < nn
   ·have g0 : (0 : Int) ≤ (i : Int) := by omega
    have g1_ : (i : Int) < (nn : Int) := by omega
    have wi : IntKind.i64.wrap ((i : Int) + 1) = (i : Int) + 1 := by rw [IntKind.wrap_i64]; omega
    have ht := ht0.out.below BL
    have TR := TR0.out.below BL
    have BB0 : Hid (Below w.heap.size w w7) := BB
    clear BB
    have BB : Below w7.heap.size w7 wr := BL
    go_wp2_with fail
    refine (qzero_at _).mono ?_
    rintro e w21 ⟨v2, rfl, hs, b21⟩
    replace ht := ht.below b21
    replace TR := TR.below b21
    replace BB := BB.trans (b21.mono BB.size)
    clear b21
    obtain ⟨p2, a2, n2, c2, y2, m2, d2, rfl⟩ := hs.open
    obtain ⟨W9, hW9, hS9, hL9, VS⟩ := V3.lay w21 34 (.bool p2) (.slice a2 n2 c2) (.slice y2 m2 d2)
    have hszz : w7.heap.size ≤ w21.heap.size := BB.size
    replace ht := ht.below hL9
    replace TR := TR.below hL9
    replace hs := hs.below hL9
    replace BB := BB.trans (hL9.mono BB.size)
    clear hL9
    obtain ⟨s1, s2, s3, s4, s5, s6⟩ := id VS
    rw [hW9] at s1 s2 s3 s4 s5 s6
    go_wp2_with fail
    clear s1 s2 s3 s4 s5 s6
    rw [← hW9]
    have hRS0 : w7.heap.size ≤ w21.heap.size := Nat.le_trans hszz (Nat.le_refl _)
    generalize w21.heap.size = RS at *
    clear hW9 hS9
    refine (lleaves_at F _ nn i t 4 _ HM.out hlt TR).mono ?_
    rintro e w22 ⟨vw, rfl, OW, b22⟩
    replace ht := ht.below b22
    replace TR := TR.below b22
    replace hs := hs.below b22
    replace VS := VS.below b22
    replace BB := BB.trans (b22.mono BB.size)
    clear b22
    have hfw := HM.out.lvs_few hlt
    have HSM : Hid (∀ j x : Nat, (lvs t nn i)[j]? = some x → x < nn) := fun j x hj => HM.out.lvs_small hlt x (List.mem_of_getElem? hj)
    have HWS : Hid (sumq (fun j => (t ((lvs t nn i).getD j 0)).cov * (t ((lvs t nn i).getD j 0)).val) (lvs t nn i).length = ws t nn i) := sum_leaves t _
    generalize lvs t nn i = zs at *
    obtain ⟨gw, cw, rfl, hcw⟩ := OW.open (by omega)
    obtain ⟨len, hlen⟩ : ∃ len, zs.length = len := ⟨_, rfl⟩
    have ZC : ZC11 w22 gw zs := ⟨fun j x hj => OW.cell rfl hj⟩
    have HLN : Hid (zs.length = len) := hlen
    rw [hlen] at hfw hcw HWS ⊢
    clear hlen OW
    have HSZ : Hid (∀ j, j ≤ len → qsz (sumq (fun j => (t (zs.getD j 0)).cov * (t (zs.getD j 0)).val) j) ≤ 150) := fun j hj => by
     have h1 := qsz_sumq (fun j => (t (zs.getD j 0)).cov * (t (zs.getD j 0)).val) 8 j (fun a ha => by
      have h3 : zs[a]? = some (zs.getD a 0) := by rw [List.getD_eq_getElem?_getD, List.getElem?_eq_getElem (by have := HLN.out; omega)]; rfl
      have h4 := HSV.out _ (HSM.out a _ h3)
      exact qsz_mul _ _ h4.2 h4.1)
     omega
    go_wp2
    have hs : RepQ w22 (.agg #[.bool p2, .slice a2 n2 c2, .slice y2 m2 d2]) (sumq (fun j => (t (zs.getD j 0)).cov * (t (zs.getD j 0)).val) 0) := hs
    clear ht TR
    go_loopw [10] (fun vk w2 => ∃ (j : Nat) (p5 : Bool) (a5 : Option Addr) (n5 c5 : Nat) (y5 : Option Addr) (m5 d5 : Nat), j ≤ len ∧ vk = .int .i64 (j : Int) ∧ V3 w2 RS (.bool p5) (.slice a5 n5 c5) (.slice y5 m5 d5) ∧ RepQ w2 (.agg #[.bool p5, .slice a5 n5 c5, .slice y5 m5 d5]) (sumq (fun j => (t (zs.getD j 0)).cov * (t (zs.getD j 0)).val) j) ∧ ZC11 w2 gw zs ∧ Below w7.heap.size w7 w2) (fun vk _ => len - (intOf vk).toNat)
    case atStart => exact ⟨0, _, _, _, _, _, _, _, by omega, rfl, VS, hs, ZC, BB⟩
    case round =>
     clear VS hs ZC BB
     obtain ⟨j, p5, a5, n5, c5, y5, m5, d5, hj, rfl, VS, hs, ZC, BB⟩ := hrel
     by_cases hjl : j < len
     ·have f0 : (0 : Int) ≤ (j : Int) := by omega
      have f1 : (j : Int) < (len : Int) := by omega
      have wj : IntKind.i64.wrap ((j : Int) + 1) = (j : Int) + 1 := by rw [IntKind.wrap_i64]; omega
      obtain ⟨x, hx⟩ : ∃ x, zs[j]? = some x := ⟨_, List.getElem?_eq_getElem (by have := HLN.out; omega)⟩
      have hxn : x < nn := HSM.out j x hx
      have ZX : Cel10 wr gw j (.int .i64 (x : Int)) := ⟨ZC.cell j x hx⟩
      have HSI : Hid (sumq (fun j => (t (zs.getD j 0)).cov * (t (zs.getD j 0)).val) (j + 1) = sumq (fun j => (t (zs.getD j 0)).cov * (t (zs.getD j 0)).val) j + (t x).cov * (t x).val) := by
       show sumq _ j + (t (zs.getD j 0)).cov * (t (zs.getD j 0)).val = _
       rw [List.getD_eq_getElem?_getD, hx]
       rfl
      have HSJ : Hid (qsz (sumq (fun j => (t (zs.getD j 0)).cov * (t (zs.getD j 0)).val) j) ≤ 150) := HSZ.out j hj
      have HSX : Hid (qsz ((t x).cov * (t x).val) ≤ 8) := qsz_mul _ _ (HSV.out x hxn).2 (HSV.out x hxn).1
      clear hx
      have f2 : (0 : Int) ≤ (x : Int) := by omega
      have f3 : (x : Int) < (nn : Int) := by omega
      obtain ⟨b, off, cc, p1x, a1x, n1x, c1x, b1x, m1x, d1x, p2x, a2x, n2x, c2x, b2x, m2x, d2x, p3x, a3x, n3x, c3x, b3x, m3x, d3x, hvv, hcc_, hc6, NN, r1, r2, r3, i1, i2, i3⟩ := (TR0.out.below BB).at hxn
      cases hvv
      have XV : E3 wr b (off + x * 14 + 8) _ _ _ := ⟨NN.c8, NN.c9, NN.c10⟩
      have XC : E3 wr b (off + x * 14 + 11) _ _ _ := ⟨NN.c11, NN.c12, NN.c13⟩
      clear NN r1 i1 i2 i3
      have ht := ht0.out.below BB
      have hbR : b ≠ RS := by
       obtain ⟨b8, o8, cc8, p1q, a1q, n1q, c1q, b1q, m1q, d1q, p2q, a2q, n2q, c2q, b2q, m2q, d2q, p3q, a3q, n3q, c3q, b3q, m3q, d3q, hv8, _, _, N8, _⟩ := TR0.out.at hxn
       cases hv8
       have := World.block_lt_of_cell? _ _ N8.c0
       have h9 : b < w7.heap.size := this
       omega
      go_wp2
      refine wp_region_until 19 #[true, true, true, true, true, true, true, true, true, true, true, true, true, true, true, true, true, true, true, false] (fun aF lsd a' w' => ∃ vu0 vu1 vu2 vu3 vu4 vu5 vu6 vu7 vu8 vu9 vu10 vu11 vu12 vu13 vu14 vu15 vu16 vu17 vu18 : Value, a' = ((((((((((((((((((aF.put (some 63) vu0).put (some 64) vu1).put (some 65) vu2).put (some 66) vu3).put (some 67) vu4).put (some 68) vu5).put (some 69) vu6).put (some 70) vu7).put (some 71) vu8).put (some 72) vu9).put (some 73) vu10).put (some 74) vu11).put (some 75) vu12).put (some 76) vu13).put (some 77) vu14).put (some 78) vu15).put (some 79) vu16).put (some 80) vu17).put (some 81) vu18 ∧ Below wr.heap.size wr w' ∧ (lsd.getD 0 false = true → vu0 = .agg #[.bool p5, .slice a5 n5 c5, .slice y5 m5 d5]) ∧ (lsd.getD 1 false = true → vu1 = .slice (some ⟨b, off, none⟩) nn dT) ∧ (lsd.getD 2 false = true → vu2 = .slice (some ⟨gw, 0, none⟩) len cw) ∧ (lsd.getD 3 false = true → vu3 = .int .i64 (j : Int)) ∧ (lsd.getD 4 false = true → vu4 = .pointer (some ⟨gw, j, none⟩)) ∧ (lsd.getD 5 false = true → vu5 = .int .i64 (x : Int)) ∧ (lsd.getD 6 false = true → vu6 = .pointer (some ⟨b, off + x * 14, none⟩)) ∧ (lsd.getD 7 false = true → vu7 = .pointer (some ⟨b, off + x * 14 + 11, none⟩)) ∧ (lsd.getD 8 false = true → vu8 = .agg #[.bool p3x, .slice a3x n3x c3x, .slice b3x m3x d3x]) ∧ (lsd.getD 9 false = true → vu9 = .slice (some ⟨b, off, none⟩) nn dT) ∧ (lsd.getD 10 false = true → vu10 = .slice (some ⟨gw, 0, none⟩) len cw) ∧ (lsd.getD 11 false = true → vu11 = .int .i64 (j : Int)) ∧ (lsd.getD 12 false = true → vu12 = .pointer (some ⟨gw, j, none⟩)) ∧ (lsd.getD 13 false = true → vu13 = .int .i64 (x : Int)) ∧ (lsd.getD 14 false = true → vu14 = .pointer (some ⟨b, off + x * 14, none⟩)) ∧ (lsd.getD 15 false = true → vu15 = .pointer (some ⟨b, off + x * 14 + 8, none⟩)) ∧ (lsd.getD 16 false = true → vu16 = .agg #[.bool p2x, .slice a2x n2x c2x, .slice b2x m2x d2x]) ∧ (lsd.getD 17 false = true → RepQ w' vu17 ((t x).cov * (t x).val)) ∧ (lsd.getD 18 false = true → RepQ w' vu18 (sumq (fun j => (t (zs.getD j 0)).cov * (t (zs.getD j 0)).val) j + (t x).cov * (t x).val))) (by kernel_rfl) (by decide) (by kernel_rfl) (by rfl) (by kernel_rfl) ?_ ?_ ?_
      ·exact ⟨_, _, _, _, _, _, _, _, _, _, _, _, _, _, _, _, _, _, _, by simp only [Act.put, xL4, xL5, xL6]; rfl, (Below.refl _ _).drew, fun h => absurd h (fun h => mark_none h), fun h => absurd h (fun h => mark_none h), fun h => absurd h (fun h => mark_none h), fun h => absurd h (fun h => mark_none h), fun h => absurd h (fun h => mark_none h), fun h => absurd h (fun h => mark_none h), fun h => absurd h (fun h => mark_none h), fun h => absurd h (fun h => mark_none h), fun h => absurd h (fun h => mark_none h), fun h => absurd h (fun h => mark_none h), fun h => absurd h (fun h => mark_none h), fun h => absurd h (fun h => mark_none h), fun h => absurd h (fun h => mark_none h), fun h => absurd h (fun h => mark_none h), fun h => absurd h (fun h => mark_none h), fun h => absurd h (fun h => mark_none h), fun h => absurd h (fun h => mark_none h), fun h => absurd h (fun h => mark_none h), fun h => absurd h (fun h => mark_none h)⟩
      ·rintro lsd au wn iu hszu ⟨vu0, vu1, vu2, vu3, vu4, vu5, vu6, vu7, vu8, vu9, vu10, vu11, vu12, vu13, vu14, vu15, vu16, vu17, vu18, rfl, hbu, fu0, fu1, fu2, fu3, fu4, fu5, fu6, fu7, fu8, fu9, fu10, fu11, fu12, fu13, fu14, fu15, fu16, fu17, fu18⟩ himu hru
       rcases (show iu = 0 ∨ iu = 1 ∨ iu = 2 ∨ iu = 3 ∨ iu = 4 ∨ iu = 5 ∨ iu = 6 ∨ iu = 7 ∨ iu = 8 ∨ iu = 9 ∨ iu = 10 ∨ iu = 11 ∨ iu = 12 ∨ iu = 13 ∨ iu = 14 ∨ iu = 15 ∨ iu = 16 ∨ iu = 17 ∨ iu = 18 by omega) with rfl | rfl | rfl | rfl | rfl | rfl | rfl | rfl | rfl | rfl | rfl | rfl | rfl | rfl | rfl | rfl | rfl | rfl | rfl
       ·refine wpOp_shut (by rfl) (fun K hK => ?_)
        simp only [Act.put, xL4, xL5, xL6]
        obtain ⟨VS_0, VS_1, VS_2, VS_3, VS_4, VS_5⟩ := VS.below hbu
        go_simp
        exact hK.out _ _ ⟨(.agg #[.bool p5, .slice a5 n5 c5, .slice y5 m5 d5]), vu1, vu2, vu3, vu4, vu5, vu6, vu7, vu8, vu9, vu10, vu11, vu12, vu13, vu14, vu15, vu16, vu17, vu18, by simp only [Act.put, xL4, xL5, xL6], hbu, fun _ => rfl, fun h => fu1 (mark_of (by decide) h), fun h => fu2 (mark_of (by decide) h), fun h => fu3 (mark_of (by decide) h), fun h => fu4 (mark_of (by decide) h), fun h => fu5 (mark_of (by decide) h), fun h => fu6 (mark_of (by decide) h), fun h => fu7 (mark_of (by decide) h), fun h => fu8 (mark_of (by decide) h), fun h => fu9 (mark_of (by decide) h), fun h => fu10 (mark_of (by decide) h), fun h => fu11 (mark_of (by decide) h), fun h => fu12 (mark_of (by decide) h), fun h => fu13 (mark_of (by decide) h), fun h => fu14 (mark_of (by decide) h), fun h => fu15 (mark_of (by decide) h), fun h => fu16 (mark_of (by decide) h), fun h => fu17 (mark_of (by decide) h), fun h => fu18 (mark_of (by decide) h)⟩
       ·refine wpOp_shut (by rfl) (fun K hK => ?_)
        simp only [Act.put, xL4, xL5, xL6]
        go_simp
        exact hK.out _ _ ⟨vu0, (.slice (some ⟨b, off, none⟩) nn dT), vu2, vu3, vu4, vu5, vu6, vu7, vu8, vu9, vu10, vu11, vu12, vu13, vu14, vu15, vu16, vu17, vu18, by simp only [Act.put, xL4, xL5, xL6], hbu, fun h => fu0 (mark_of (by decide) h), fun _ => rfl, fun h => fu2 (mark_of (by decide) h), fun h => fu3 (mark_of (by decide) h), fun h => fu4 (mark_of (by decide) h), fun h => fu5 (mark_of (by decide) h), fun h => fu6 (mark_of (by decide) h), fun h => fu7 (mark_of (by decide) h), fun h => fu8 (mark_of (by decide) h), fun h => fu9 (mark_of (by decide) h), fun h => fu10 (mark_of (by decide) h), fun h => fu11 (mark_of (by decide) h), fun h => fu12 (mark_of (by decide) h), fun h => fu13 (mark_of (by decide) h), fun h => fu14 (mark_of (by decide) h), fun h => fu15 (mark_of (by decide) h), fun h => fu16 (mark_of (by decide) h), fun h => fu17 (mark_of (by decide) h), fun h => fu18 (mark_of (by decide) h)⟩
       ·refine wpOp_shut (by rfl) (fun K hK => ?_)
        simp only [Act.put, xL4, xL5, xL6]
        go_simp
        exact hK.out _ _ ⟨vu0, vu1, (.slice (some ⟨gw, 0, none⟩) len cw), vu3, vu4, vu5, vu6, vu7, vu8, vu9, vu10, vu11, vu12, vu13, vu14, vu15, vu16, vu17, vu18, by simp only [Act.put, xL4, xL5, xL6], hbu, fun h => fu0 (mark_of (by decide) h), fun h => fu1 (mark_of (by decide) h), fun _ => rfl, fun h => fu3 (mark_of (by decide) h), fun h => fu4 (mark_of (by decide) h), fun h => fu5 (mark_of (by decide) h), fun h => fu6 (mark_of (by decide) h), fun h => fu7 (mark_of (by decide) h), fun h => fu8 (mark_of (by decide) h), fun h => fu9 (mark_of (by decide) h), fun h => fu10 (mark_of (by decide) h), fun h => fu11 (mark_of (by decide) h), fun h => fu12 (mark_of (by decide) h), fun h => fu13 (mark_of (by decide) h), fun h => fu14 (mark_of (by decide) h), fun h => fu15 (mark_of (by decide) h), fun h => fu16 (mark_of (by decide) h), fun h => fu17 (mark_of (by decide) h), fun h => fu18 (mark_of (by decide) h)⟩
       ·refine wpOp_shut (by rfl) (fun K hK => ?_)
        simp only [Act.put, xL4, xL5, xL6]
        go_simp
        exact hK.out _ _ ⟨vu0, vu1, vu2, (.int .i64 (j : Int)), vu4, vu5, vu6, vu7, vu8, vu9, vu10, vu11, vu12, vu13, vu14, vu15, vu16, vu17, vu18, by simp only [Act.put, xL4, xL5, xL6], hbu, fun h => fu0 (mark_of (by decide) h), fun h => fu1 (mark_of (by decide) h), fun h => fu2 (mark_of (by decide) h), fun _ => rfl, fun h => fu4 (mark_of (by decide) h), fun h => fu5 (mark_of (by decide) h), fun h => fu6 (mark_of (by decide) h), fun h => fu7 (mark_of (by decide) h), fun h => fu8 (mark_of (by decide) h), fun h => fu9 (mark_of (by decide) h), fun h => fu10 (mark_of (by decide) h), fun h => fu11 (mark_of (by decide) h), fun h => fu12 (mark_of (by decide) h), fun h => fu13 (mark_of (by decide) h), fun h => fu14 (mark_of (by decide) h), fun h => fu15 (mark_of (by decide) h), fun h => fu16 (mark_of (by decide) h), fun h => fu17 (mark_of (by decide) h), fun h => fu18 (mark_of (by decide) h)⟩
       ·have eu2 := fu2 (dep_of 2 hru rfl (by kernel_rfl))
        have eu3 := fu3 (dep_of 3 hru rfl (by kernel_rfl))
        replace eu2 := eu2.symm
        subst eu2
        replace eu3 := eu3.symm
        subst eu3
        refine wpOp_shut (by rfl) (fun K hK => ?_)
        simp only [Act.put, xL4, xL5, xL6]
        go_simp
        exact hK.out _ _ ⟨vu0, vu1, (.slice (some ⟨gw, 0, none⟩) len cw), (.int .i64 (j : Int)), (.pointer (some ⟨gw, j, none⟩)), vu5, vu6, vu7, vu8, vu9, vu10, vu11, vu12, vu13, vu14, vu15, vu16, vu17, vu18, by simp only [Act.put, xL4, xL5, xL6], hbu, fun h => fu0 (mark_of (by decide) h), fun h => fu1 (mark_of (by decide) h), fun _ => rfl, fun _ => rfl, fun _ => rfl, fun h => fu5 (mark_of (by decide) h), fun h => fu6 (mark_of (by decide) h), fun h => fu7 (mark_of (by decide) h), fun h => fu8 (mark_of (by decide) h), fun h => fu9 (mark_of (by decide) h), fun h => fu10 (mark_of (by decide) h), fun h => fu11 (mark_of (by decide) h), fun h => fu12 (mark_of (by decide) h), fun h => fu13 (mark_of (by decide) h), fun h => fu14 (mark_of (by decide) h), fun h => fu15 (mark_of (by decide) h), fun h => fu16 (mark_of (by decide) h), fun h => fu17 (mark_of (by decide) h), fun h => fu18 (mark_of (by decide) h)⟩
       ·have eu4 := fu4 (dep_of 4 hru rfl (by kernel_rfl))
        replace eu4 := eu4.symm
        subst eu4
        refine wpOp_shut (by rfl) (fun K hK => ?_)
        simp only [Act.put, xL4, xL5, xL6]
        have z1 := (ZX.below hbu).cell
        go_simp
        exact hK.out _ _ ⟨vu0, vu1, vu2, vu3, (.pointer (some ⟨gw, j, none⟩)), (.int .i64 (x : Int)), vu6, vu7, vu8, vu9, vu10, vu11, vu12, vu13, vu14, vu15, vu16, vu17, vu18, by simp only [Act.put, xL4, xL5, xL6], hbu, fun h => fu0 (mark_of (by decide) h), fun h => fu1 (mark_of (by decide) h), fun h => fu2 (mark_of (by decide) h), fun h => fu3 (mark_of (by decide) h), fun _ => rfl, fun _ => rfl, fun h => fu6 (mark_of (by decide) h), fun h => fu7 (mark_of (by decide) h), fun h => fu8 (mark_of (by decide) h), fun h => fu9 (mark_of (by decide) h), fun h => fu10 (mark_of (by decide) h), fun h => fu11 (mark_of (by decide) h), fun h => fu12 (mark_of (by decide) h), fun h => fu13 (mark_of (by decide) h), fun h => fu14 (mark_of (by decide) h), fun h => fu15 (mark_of (by decide) h), fun h => fu16 (mark_of (by decide) h), fun h => fu17 (mark_of (by decide) h), fun h => fu18 (mark_of (by decide) h)⟩
       ·have eu1 := fu1 (dep_of 1 hru rfl (by kernel_rfl))
        have eu5 := fu5 (dep_of 5 hru rfl (by kernel_rfl))
        replace eu1 := eu1.symm
        subst eu1
        replace eu5 := eu5.symm
        subst eu5
        refine wpOp_shut (by rfl) (fun K hK => ?_)
        simp only [Act.put, xL4, xL5, xL6]
        go_simp
        exact hK.out _ _ ⟨vu0, (.slice (some ⟨b, off, none⟩) nn dT), vu2, vu3, vu4, (.int .i64 (x : Int)), (.pointer (some ⟨b, off + x * 14, none⟩)), vu7, vu8, vu9, vu10, vu11, vu12, vu13, vu14, vu15, vu16, vu17, vu18, by simp only [Act.put, xL4, xL5, xL6], hbu, fun h => fu0 (mark_of (by decide) h), fun _ => rfl, fun h => fu2 (mark_of (by decide) h), fun h => fu3 (mark_of (by decide) h), fun h => fu4 (mark_of (by decide) h), fun _ => rfl, fun _ => rfl, fun h => fu7 (mark_of (by decide) h), fun h => fu8 (mark_of (by decide) h), fun h => fu9 (mark_of (by decide) h), fun h => fu10 (mark_of (by decide) h), fun h => fu11 (mark_of (by decide) h), fun h => fu12 (mark_of (by decide) h), fun h => fu13 (mark_of (by decide) h), fun h => fu14 (mark_of (by decide) h), fun h => fu15 (mark_of (by decide) h), fun h => fu16 (mark_of (by decide) h), fun h => fu17 (mark_of (by decide) h), fun h => fu18 (mark_of (by decide) h)⟩
       ·have eu6 := fu6 (dep_of 6 hru rfl (by kernel_rfl))
        replace eu6 := eu6.symm
        subst eu6
        refine wpOp_shut (by rfl) (fun K hK => ?_)
        simp only [Act.put, xL4, xL5, xL6]
        go_simp
        exact hK.out _ _ ⟨vu0, vu1, vu2, vu3, vu4, vu5, (.pointer (some ⟨b, off + x * 14, none⟩)), (.pointer (some ⟨b, off + x * 14 + 11, none⟩)), vu8, vu9, vu10, vu11, vu12, vu13, vu14, vu15, vu16, vu17, vu18, by simp only [Act.put, xL4, xL5, xL6], hbu, fun h => fu0 (mark_of (by decide) h), fun h => fu1 (mark_of (by decide) h), fun h => fu2 (mark_of (by decide) h), fun h => fu3 (mark_of (by decide) h), fun h => fu4 (mark_of (by decide) h), fun h => fu5 (mark_of (by decide) h), fun _ => rfl, fun _ => rfl, fun h => fu8 (mark_of (by decide) h), fun h => fu9 (mark_of (by decide) h), fun h => fu10 (mark_of (by decide) h), fun h => fu11 (mark_of (by decide) h), fun h => fu12 (mark_of (by decide) h), fun h => fu13 (mark_of (by decide) h), fun h => fu14 (mark_of (by decide) h), fun h => fu15 (mark_of (by decide) h), fun h => fu16 (mark_of (by decide) h), fun h => fu17 (mark_of (by decide) h), fun h => fu18 (mark_of (by decide) h)⟩
       ·have eu7 := fu7 (dep_of 7 hru rfl (by kernel_rfl))
        replace eu7 := eu7.symm
        subst eu7
        refine wpOp_shut (by rfl) (fun K hK => ?_)
        simp only [Act.put, xL4, xL5, xL6]
        obtain ⟨XC_0, XC_1, XC_2⟩ := XC.below hbu
        go_simp
        exact hK.out _ _ ⟨vu0, vu1, vu2, vu3, vu4, vu5, vu6, (.pointer (some ⟨b, off + x * 14 + 11, none⟩)), (.agg #[.bool p3x, .slice a3x n3x c3x, .slice b3x m3x d3x]), vu9, vu10, vu11, vu12, vu13, vu14, vu15, vu16, vu17, vu18, by simp only [Act.put, xL4, xL5, xL6], hbu, fun h => fu0 (mark_of (by decide) h), fun h => fu1 (mark_of (by decide) h), fun h => fu2 (mark_of (by decide) h), fun h => fu3 (mark_of (by decide) h), fun h => fu4 (mark_of (by decide) h), fun h => fu5 (mark_of (by decide) h), fun h => fu6 (mark_of (by decide) h), fun _ => rfl, fun _ => rfl, fun h => fu9 (mark_of (by decide) h), fun h => fu10 (mark_of (by decide) h), fun h => fu11 (mark_of (by decide) h), fun h => fu12 (mark_of (by decide) h), fun h => fu13 (mark_of (by decide) h), fun h => fu14 (mark_of (by decide) h), fun h => fu15 (mark_of (by decide) h), fun h => fu16 (mark_of (by decide) h), fun h => fu17 (mark_of (by decide) h), fun h => fu18 (mark_of (by decide) h)⟩
       ·refine wpOp_shut (by rfl) (fun K hK => ?_)
        simp only [Act.put, xL4, xL5, xL6]
        go_simp
        exact hK.out _ _ ⟨vu0, vu1, vu2, vu3, vu4, vu5, vu6, vu7, vu8, (.slice (some ⟨b, off, none⟩) nn dT), vu10, vu11, vu12, vu13, vu14, vu15, vu16, vu17, vu18, by simp only [Act.put, xL4, xL5, xL6], hbu, fun h => fu0 (mark_of (by decide) h), fun h => fu1 (mark_of (by decide) h), fun h => fu2 (mark_of (by decide) h), fun h => fu3 (mark_of (by decide) h), fun h => fu4 (mark_of (by decide) h), fun h => fu5 (mark_of (by decide) h), fun h => fu6 (mark_of (by decide) h), fun h => fu7 (mark_of (by decide) h), fun h => fu8 (mark_of (by decide) h), fun _ => rfl, fun h => fu10 (mark_of (by decide) h), fun h => fu11 (mark_of (by decide) h), fun h => fu12 (mark_of (by decide) h), fun h => fu13 (mark_of (by decide) h), fun h => fu14 (mark_of (by decide) h), fun h => fu15 (mark_of (by decide) h), fun h => fu16 (mark_of (by decide) h), fun h => fu17 (mark_of (by decide) h), fun h => fu18 (mark_of (by decide) h)⟩
       ·refine wpOp_shut (by rfl) (fun K hK => ?_)
        simp only [Act.put, xL4, xL5, xL6]
        go_simp
        exact hK.out _ _ ⟨vu0, vu1, vu2, vu3, vu4, vu5, vu6, vu7, vu8, vu9, (.slice (some ⟨gw, 0, none⟩) len cw), vu11, vu12, vu13, vu14, vu15, vu16, vu17, vu18, by simp only [Act.put, xL4, xL5, xL6], hbu, fun h => fu0 (mark_of (by decide) h), fun h => fu1 (mark_of (by decide) h), fun h => fu2 (mark_of (by decide) h), fun h => fu3 (mark_of (by decide) h), fun h => fu4 (mark_of (by decide) h), fun h => fu5 (mark_of (by decide) h), fun h => fu6 (mark_of (by decide) h), fun h => fu7 (mark_of (by decide) h), fun h => fu8 (mark_of (by decide) h), fun h => fu9 (mark_of (by decide) h), fun _ => rfl, fun h => fu11 (mark_of (by decide) h), fun h => fu12 (mark_of (by decide) h), fun h => fu13 (mark_of (by decide) h), fun h => fu14 (mark_of (by decide) h), fun h => fu15 (mark_of (by decide) h), fun h => fu16 (mark_of (by decide) h), fun h => fu17 (mark_of (by decide) h), fun h => fu18 (mark_of (by decide) h)⟩
       ·refine wpOp_shut (by rfl) (fun K hK => ?_)
        simp only [Act.put, xL4, xL5, xL6]
        go_simp
        exact hK.out _ _ ⟨vu0, vu1, vu2, vu3, vu4, vu5, vu6, vu7, vu8, vu9, vu10, (.int .i64 (j : Int)), vu12, vu13, vu14, vu15, vu16, vu17, vu18, by simp only [Act.put, xL4, xL5, xL6], hbu, fun h => fu0 (mark_of (by decide) h), fun h => fu1 (mark_of (by decide) h), fun h => fu2 (mark_of (by decide) h), fun h => fu3 (mark_of (by decide) h), fun h => fu4 (mark_of (by decide) h), fun h => fu5 (mark_of (by decide) h), fun h => fu6 (mark_of (by decide) h), fun h => fu7 (mark_of (by decide) h), fun h => fu8 (mark_of (by decide) h), fun h => fu9 (mark_of (by decide) h), fun h => fu10 (mark_of (by decide) h), fun _ => rfl, fun h => fu12 (mark_of (by decide) h), fun h => fu13 (mark_of (by decide) h), fun h => fu14 (mark_of (by decide) h), fun h => fu15 (mark_of (by decide) h), fun h => fu16 (mark_of (by decide) h), fun h => fu17 (mark_of (by decide) h), fun h => fu18 (mark_of (by decide) h)⟩
       ·have eu10 := fu10 (dep_of 10 hru rfl (by kernel_rfl))
        have eu11 := fu11 (dep_of 11 hru rfl (by kernel_rfl))
        replace eu10 := eu10.symm
        subst eu10
        replace eu11 := eu11.symm
        subst eu11
        refine wpOp_shut (by rfl) (fun K hK => ?_)
        simp only [Act.put, xL4, xL5, xL6]
        go_simp
        exact hK.out _ _ ⟨vu0, vu1, vu2, vu3, vu4, vu5, vu6, vu7, vu8, vu9, (.slice (some ⟨gw, 0, none⟩) len cw), (.int .i64 (j : Int)), (.pointer (some ⟨gw, j, none⟩)), vu13, vu14, vu15, vu16, vu17, vu18, by simp only [Act.put, xL4, xL5, xL6], hbu, fun h => fu0 (mark_of (by decide) h), fun h => fu1 (mark_of (by decide) h), fun h => fu2 (mark_of (by decide) h), fun h => fu3 (mark_of (by decide) h), fun h => fu4 (mark_of (by decide) h), fun h => fu5 (mark_of (by decide) h), fun h => fu6 (mark_of (by decide) h), fun h => fu7 (mark_of (by decide) h), fun h => fu8 (mark_of (by decide) h), fun h => fu9 (mark_of (by decide) h), fun _ => rfl, fun _ => rfl, fun _ => rfl, fun h => fu13 (mark_of (by decide) h), fun h => fu14 (mark_of (by decide) h), fun h => fu15 (mark_of (by decide) h), fun h => fu16 (mark_of (by decide) h), fun h => fu17 (mark_of (by decide) h), fun h => fu18 (mark_of (by decide) h)⟩
       ·have eu12 := fu12 (dep_of 12 hru rfl (by kernel_rfl))
        replace eu12 := eu12.symm
        subst eu12
        refine wpOp_shut (by rfl) (fun K hK => ?_)
        simp only [Act.put, xL4, xL5, xL6]
        have z1 := (ZX.below hbu).cell
        go_simp
        exact hK.out _ _ ⟨vu0, vu1, vu2, vu3, vu4, vu5, vu6, vu7, vu8, vu9, vu10, vu11, (.pointer (some ⟨gw, j, none⟩)), (.int .i64 (x : Int)), vu14, vu15, vu16, vu17, vu18, by simp only [Act.put, xL4, xL5, xL6], hbu, fun h => fu0 (mark_of (by decide) h), fun h => fu1 (mark_of (by decide) h), fun h => fu2 (mark_of (by decide) h), fun h => fu3 (mark_of (by decide) h), fun h => fu4 (mark_of (by decide) h), fun h => fu5 (mark_of (by decide) h), fun h => fu6 (mark_of (by decide) h), fun h => fu7 (mark_of (by decide) h), fun h => fu8 (mark_of (by decide) h), fun h => fu9 (mark_of (by decide) h), fun h => fu10 (mark_of (by decide) h), fun h => fu11 (mark_of (by decide) h), fun _ => rfl, fun _ => rfl, fun h => fu14 (mark_of (by decide) h), fun h => fu15 (mark_of (by decide) h), fun h => fu16 (mark_of (by decide) h), fun h => fu17 (mark_of (by decide) h), fun h => fu18 (mark_of (by decide) h)⟩
       ·have eu9 := fu9 (dep_of 9 hru rfl (by kernel_rfl))
        have eu13 := fu13 (dep_of 13 hru rfl (by kernel_rfl))
        replace eu9 := eu9.symm
        subst eu9
        replace eu13 := eu13.symm
        subst eu13
        refine wpOp_shut (by rfl) (fun K hK => ?_)
        simp only [Act.put, xL4, xL5, xL6]
        go_simp
        exact hK.out _ _ ⟨vu0, vu1, vu2, vu3, vu4, vu5, vu6, vu7, vu8, (.slice (some ⟨b, off, none⟩) nn dT), vu10, vu11, vu12, (.int .i64 (x : Int)), (.pointer (some ⟨b, off + x * 14, none⟩)), vu15, vu16, vu17, vu18, by simp only [Act.put, xL4, xL5, xL6], hbu, fun h => fu0 (mark_of (by decide) h), fun h => fu1 (mark_of (by decide) h), fun h => fu2 (mark_of (by decide) h), fun h => fu3 (mark_of (by decide) h), fun h => fu4 (mark_of (by decide) h), fun h => fu5 (mark_of (by decide) h), fun h => fu6 (mark_of (by decide) h), fun h => fu7 (mark_of (by decide) h), fun h => fu8 (mark_of (by decide) h), fun _ => rfl, fun h => fu10 (mark_of (by decide) h), fun h => fu11 (mark_of (by decide) h), fun h => fu12 (mark_of (by decide) h), fun _ => rfl, fun _ => rfl, fun h => fu15 (mark_of (by decide) h), fun h => fu16 (mark_of (by decide) h), fun h => fu17 (mark_of (by decide) h), fun h => fu18 (mark_of (by decide) h)⟩
       ·have eu14 := fu14 (dep_of 14 hru rfl (by kernel_rfl))
        replace eu14 := eu14.symm
        subst eu14
        refine wpOp_shut (by rfl) (fun K hK => ?_)
        simp only [Act.put, xL4, xL5, xL6]
        go_simp
        exact hK.out _ _ ⟨vu0, vu1, vu2, vu3, vu4, vu5, vu6, vu7, vu8, vu9, vu10, vu11, vu12, vu13, (.pointer (some ⟨b, off + x * 14, none⟩)), (.pointer (some ⟨b, off + x * 14 + 8, none⟩)), vu16, vu17, vu18, by simp only [Act.put, xL4, xL5, xL6], hbu, fun h => fu0 (mark_of (by decide) h), fun h => fu1 (mark_of (by decide) h), fun h => fu2 (mark_of (by decide) h), fun h => fu3 (mark_of (by decide) h), fun h => fu4 (mark_of (by decide) h), fun h => fu5 (mark_of (by decide) h), fun h => fu6 (mark_of (by decide) h), fun h => fu7 (mark_of (by decide) h), fun h => fu8 (mark_of (by decide) h), fun h => fu9 (mark_of (by decide) h), fun h => fu10 (mark_of (by decide) h), fun h => fu11 (mark_of (by decide) h), fun h => fu12 (mark_of (by decide) h), fun h => fu13 (mark_of (by decide) h), fun _ => rfl, fun _ => rfl, fun h => fu16 (mark_of (by decide) h), fun h => fu17 (mark_of (by decide) h), fun h => fu18 (mark_of (by decide) h)⟩
       ·have eu15 := fu15 (dep_of 15 hru rfl (by kernel_rfl))
        replace eu15 := eu15.symm
        subst eu15
        refine wpOp_shut (by rfl) (fun K hK => ?_)
        simp only [Act.put, xL4, xL5, xL6]
        obtain ⟨XV_0, XV_1, XV_2⟩ := XV.below hbu
        go_simp
        exact hK.out _ _ ⟨vu0, vu1, vu2, vu3, vu4, vu5, vu6, vu7, vu8, vu9, vu10, vu11, vu12, vu13, vu14, (.pointer (some ⟨b, off + x * 14 + 8, none⟩)), (.agg #[.bool p2x, .slice a2x n2x c2x, .slice b2x m2x d2x]), vu17, vu18, by simp only [Act.put, xL4, xL5, xL6], hbu, fun h => fu0 (mark_of (by decide) h), fun h => fu1 (mark_of (by decide) h), fun h => fu2 (mark_of (by decide) h), fun h => fu3 (mark_of (by decide) h), fun h => fu4 (mark_of (by decide) h), fun h => fu5 (mark_of (by decide) h), fun h => fu6 (mark_of (by decide) h), fun h => fu7 (mark_of (by decide) h), fun h => fu8 (mark_of (by decide) h), fun h => fu9 (mark_of (by decide) h), fun h => fu10 (mark_of (by decide) h), fun h => fu11 (mark_of (by decide) h), fun h => fu12 (mark_of (by decide) h), fun h => fu13 (mark_of (by decide) h), fun h => fu14 (mark_of (by decide) h), fun _ => rfl, fun _ => rfl, fun h => fu17 (mark_of (by decide) h), fun h => fu18 (mark_of (by decide) h)⟩
       ·have eu8 := fu8 (dep_of 8 hru rfl (by kernel_rfl))
        have eu16 := fu16 (dep_of 16 hru rfl (by kernel_rfl))
        replace eu8 := eu8.symm
        subst eu8
        replace eu16 := eu16.symm
        subst eu16
        refine wpOp_shut (by rfl) (fun K hK => ?_)
        simp only [Act.put, xL4, xL5, xL6]
        have r2 := r2.below hbu
        have r3 := r3.below hbu
        have ht := ht.below hbu
        go_simp
        refine (qmul_at _ _ (t x).cov (t x).val 4 _ r3 r2 (by omega) (by omega) ht).mono ?_
        rintro eu wx ⟨v17, rfl, h17, bu⟩
        go_wp2_with fail
        have hbu2 := hbu.trans (bu.mono hbu.size)
        exact hK.out _ _ ⟨vu0, vu1, vu2, vu3, vu4, vu5, vu6, vu7, (.agg #[.bool p3x, .slice a3x n3x c3x, .slice b3x m3x d3x]), vu9, vu10, vu11, vu12, vu13, vu14, vu15, (.agg #[.bool p2x, .slice a2x n2x c2x, .slice b2x m2x d2x]), _, vu18, by simp only [Act.put, xL4, xL5, xL6], hbu2, fun h => fu0 (mark_of (by decide) h), fun h => fu1 (mark_of (by decide) h), fun h => fu2 (mark_of (by decide) h), fun h => fu3 (mark_of (by decide) h), fun h => fu4 (mark_of (by decide) h), fun h => fu5 (mark_of (by decide) h), fun h => fu6 (mark_of (by decide) h), fun h => fu7 (mark_of (by decide) h), fun _ => rfl, fun h => fu9 (mark_of (by decide) h), fun h => fu10 (mark_of (by decide) h), fun h => fu11 (mark_of (by decide) h), fun h => fu12 (mark_of (by decide) h), fun h => fu13 (mark_of (by decide) h), fun h => fu14 (mark_of (by decide) h), fun h => fu15 (mark_of (by decide) h), fun _ => rfl, fun _ => h17, fun h => (fu18 (mark_of (by decide) h)).below bu⟩
       ·have eu0 := fu0 (dep_of 0 hru rfl (by kernel_rfl))
        replace eu0 := eu0.symm
        subst eu0
        have h17 := fu17 (dep_of 17 hru rfl (by kernel_rfl))
        refine wpOp_shut (by rfl) (fun K hK => ?_)
        simp only [Act.put, xL4, xL5, xL6]
        have hs := hs.below hbu
        have ht := ht.below hbu
        go_simp
        refine (qadd_at _ _ (sumq (fun j => (t (zs.getD j 0)).cov * (t (zs.getD j 0)).val) j) ((t x).cov * (t x).val) 150 _ (hs.at _ HSJ.out) (h17.at _ (Nat.le_trans HSX.out (by omega))) (by omega) (by omega) ht).mono ?_
        rintro eu wx ⟨v18, rfl, h18, bu⟩
        go_wp2_with fail
        have hbu2 := hbu.trans (bu.mono hbu.size)
        exact hK.out _ _ ⟨(.agg #[.bool p5, .slice a5 n5 c5, .slice y5 m5 d5]), vu1, vu2, vu3, vu4, vu5, vu6, vu7, vu8, vu9, vu10, vu11, vu12, vu13, vu14, vu15, vu16, vu17, _, by simp only [Act.put, xL4, xL5, xL6], hbu2, fun _ => rfl, fun h => fu1 (mark_of (by decide) h), fun h => fu2 (mark_of (by decide) h), fun h => fu3 (mark_of (by decide) h), fun h => fu4 (mark_of (by decide) h), fun h => fu5 (mark_of (by decide) h), fun h => fu6 (mark_of (by decide) h), fun h => fu7 (mark_of (by decide) h), fun h => fu8 (mark_of (by decide) h), fun h => fu9 (mark_of (by decide) h), fun h => fu10 (mark_of (by decide) h), fun h => fu11 (mark_of (by decide) h), fun h => fu12 (mark_of (by decide) h), fun h => fu13 (mark_of (by decide) h), fun h => fu14 (mark_of (by decide) h), fun h => fu15 (mark_of (by decide) h), fun h => fu16 (mark_of (by decide) h), fun h => (fu17 (mark_of (by decide) h)).below bu, fun _ => h18⟩
      rintro au Wu81 ⟨vu0, vu1, vu2, vu3, vu4, vu5, vu6, vu7, vu8, vu9, vu10, vu11, vu12, vu13, vu14, vu15, vu16, vu17, vu18, rfl, hbu, fu0, fu1, fu2, fu3, fu4, fu5, fu6, fu7, fu8, fu9, fu10, fu11, fu12, fu13, fu14, fu15, fu16, fu17, fu18⟩
      have eu0 := (fu0 rfl).symm
      subst eu0
      have eu1 := (fu1 rfl).symm
      subst eu1
      have eu2 := (fu2 rfl).symm
      subst eu2
      have eu3 := (fu3 rfl).symm
      subst eu3
      have eu4 := (fu4 rfl).symm
      subst eu4
      have eu5 := (fu5 rfl).symm
      subst eu5
      have eu6 := (fu6 rfl).symm
      subst eu6
      have eu7 := (fu7 rfl).symm
      subst eu7
      have eu8 := (fu8 rfl).symm
      subst eu8
      have eu9 := (fu9 rfl).symm
      subst eu9
      have eu10 := (fu10 rfl).symm
      subst eu10
      have eu11 := (fu11 rfl).symm
      subst eu11
      have eu12 := (fu12 rfl).symm
      subst eu12
      have eu13 := (fu13 rfl).symm
      subst eu13
      have eu14 := (fu14 rfl).symm
      subst eu14
      have eu15 := (fu15 rfl).symm
      subst eu15
      have eu16 := (fu16 rfl).symm
      subst eu16
      have h17 := fu17 rfl
      have h18 := fu18 rfl
      clear fu0 fu1 fu2 fu3 fu4 fu5 fu6 fu7 fu8 fu9 fu10 fu11 fu12 fu13 fu14 fu15 fu16 fu17 fu18
      have hlVS : RS < wr.heap.size := VS.lt
      have hlXV : b < wr.heap.size := XV.lt
      have hlXC : b < wr.heap.size := XC.lt
      replace hs := hs.below hbu
      replace ZC := ZC.below hbu
      replace r2 := r2.below hbu
      replace r3 := r3.below hbu
      replace ht := ht.below hbu
      replace VS := VS.below hbu
      replace XV := XV.below hbu
      replace XC := XC.below hbu
      replace BB := BB.trans (hbu.mono BB.size)
      clear hbu
      obtain ⟨p6, a6, n6, c6, y6, m6, d6, rfl⟩ := h18.open
      rw [← HSI.out] at h18
      simp only [Act.put, xL4, xL5, xL6]
      refine wpAnyH_ready (rs := [19]) (by kernel_rfl) (by simp) ?_
      refine AllReadyH.cons (by rfl) (fun K hK => ?_) AllReadyH.nil
      have hKp := VS.keepJ (.bool p6) (.slice a6 n6 c6) (.slice y6 m6 d6)
      have XV_n := XV.other3 (R := RS) (by omega) (.bool p6) (.slice a6 n6 c6) (.slice y6 m6 d6)
      have XC_n := XC.other3 (R := RS) (by omega) (.bool p6) (.slice a6 n6 c6) (.slice y6 m6 d6)
      have VS_n := VS.same (.bool p6) (.slice a6 n6 c6) (.slice y6 m6 d6)
      have hs_n := hs.keep hKp
      have ZC_n := ZC.keep hKp
      have r2_n := r2.keep hKp
      have r3_n := r3.keep hKp
      have ht_n := ht.keep hKp
      have h17_n := h17.keep hKp
      have h18_n := h18.keep hKp
      have BB_n := below_store3 (R := RS) BB (by omega) (.bool p6) (.slice a6 n6 c6) (.slice y6 m6 d6)
      clear hKp
      obtain ⟨VS_0, VS_1, VS_2, VS_3, VS_4, VS_5⟩ := id VS
      go_simp
      clear VS_0 VS_1 VS_2 VS_3 VS_4 VS_5
      clear BB hs ZC r2 r3 ht h17 h18 VS XV XC
      generalize ((Wu81.setCell ⟨RS, 0, none⟩ (.bool p6)).setCell ⟨RS, 1, none⟩ (.slice a6 n6 c6)).setCell ⟨RS, 2, none⟩ (.slice y6 m6 d6) = W82 at *
      have BB := BB_n
      have hs := hs_n
      have ZC := ZC_n
      have r2 := r2_n
      have r3 := r3_n
      have ht := ht_n
      have h17 := h17_n
      have h18 := h18_n
      have VS := VS_n
      have XV := XV_n
      have XC := XC_n
      clear BB_n hs_n ZC_n r2_n r3_n ht_n h17_n h18_n VS_n XV_n XC_n
      refine hK.out _ _ trivial (fun _ => ?_)
      clear hK K
      simp only [Act.put, xL4, xL5, xL6]
      refine wpAnyH_done (by kernel_rfl) ?_ _
      go_wp2
      go_roundw
      case rel => exact ⟨j + 1, _, _, _, _, _, _, _, by omega, by go_num, VS, h18, ZC, BB⟩
      case measure => simp [intOf]; omega
     ·obtain rfl : j = len := by omega
      have f1 : ¬ (j : Int) < (j : Int) := by omega
      rw [HWS.out] at hs
      have ht := ht0.out.below BB
      have hl := hl0.out.below BB
      obtain ⟨bl, ol, cl_, p4, a4, n4, c4_, y4, m4, d4, hv4, X0, X1, X2, r4⟩ := hl.cells11 i hlt
      cases hv4
      have C0 : Cel10 wr bl (ol + i * 3) _ := ⟨X0⟩
      have C1 : Cel10 wr bl (ol + i * 3 + 1) _ := ⟨X1⟩
      have C2 : Cel10 wr bl (ol + i * 3 + 2) _ := ⟨X2⟩
      clear X0 X1 X2 hl
      obtain ⟨b, off, cc, p1x, a1x, n1x, c1x, b1x, m1x, d1x, p2x, a2x, n2x, c2x, b2x, m2x, d2x, p3x, a3x, n3x, c3x, b3x, m3x, d3x, hvv, hcc_, hc6, NN, r1, r2, r3, i1, i2, i3⟩ := (TR0.out.below BB).at hlt
      cases hvv
      have D0 : Cel10 wr b (off + i * 14 + 11) _ := ⟨NN.c11⟩
      have D1 : Cel10 wr b (off + i * 14 + 11 + 1) _ := ⟨NN.c12⟩
      have D2 : Cel10 wr b (off + i * 14 + 11 + 2) _ := ⟨NN.c13⟩
      clear NN r1 r2 i1 i2 i3
      have HMC : Hid (meanN t nn i * (t i).cov = ws t nn i) := by
       show ws t nn i / (t i).cov * (t i).cov = ws t nn i
       have h0 := HM.out.cov i hlt
       rw [Rat.div_def, Rat.mul_assoc, Rat.inv_mul_cancel _ (by grind), Rat.mul_one]
      have HSM2 : Hid (qsz (meanN t nn i) ≤ 154) := qsz_div _ _ (HSW.out i hlt) (HSV.out i hlt).2
      have HSW2 : Hid (qsz (ws t nn i) ≤ 150) := HSW.out i hlt
      go_wp2
      have hDr : Below wr.heap.size wr wr.drew := (Below.refl _ _).drew
      replace hs := hs.below hDr
      replace ht := ht.below hDr
      replace r4 := r4.below hDr
      replace r3 := r3.below hDr
      replace C0 := C0.below hDr
      replace C1 := C1.below hDr
      replace C2 := C2.below hDr
      replace D0 := D0.below hDr
      replace D1 := D1.below hDr
      replace D2 := D2.below hDr
      replace VS := VS.below hDr
      replace BB := BB.trans (hDr.mono BB.size)
      clear hDr
      refine wp_region_held_drew (S := (fun w' => w'.cell? ⟨RS, 0, none⟩ = some (.bool p5) ∧ w'.cell? ⟨RS, 1, none⟩ = some (.slice a5 n5 c5) ∧ w'.cell? ⟨RS, 2, none⟩ = some (.slice y5 m5 d5) ∧ w'.cell? ⟨bl, ol + i * 3, none⟩ = some (.bool p4) ∧ w'.cell? ⟨bl, ol + i * 3 + 1, none⟩ = some (.slice a4 n4 c4_) ∧ w'.cell? ⟨bl, ol + i * 3 + 2, none⟩ = some (.slice y4 m4 d4) ∧ w'.cell? ⟨b, off + i * 14 + 11, none⟩ = some (.bool p3x) ∧ w'.cell? ⟨b, off + i * 14 + 11 + 1, none⟩ = some (.slice a3x n3x c3x) ∧ w'.cell? ⟨b, off + i * 14 + 11 + 2, none⟩ = some (.slice b3x m3x d3x))) (by kernel_rfl) ?_ (fun hHeld => ?_)
      ·exact ⟨VS.1, VS.2.1, VS.2.2.1, C0.cell, C1.cell, C2.cell, D0.cell, D1.cell, D2.cell⟩
      generalize wr.drew = W121 at *
      refine wpAnyH_take (i := 0) (v := ?_) (by simp only [xL1, xL2, xL3]; rfl) (by kernel_rfl) (by kernel_rfl) (by kernel_rfl) (by exact fun _ _ _ h => h) (Or.inl ⟨by rfl, ?_⟩) (by assumption) ?_
      rotate_left
      ·(intro w hSw; (try dsimp only at hSw); go_simp; (try with_reducible rfl))
      (try simp only [Act.put, xL4, xL5, xL6])
      refine wpAnyH_take (i := 1) (v := ?_) (by simp only [xL1, xL2, xL3]; rfl) (by kernel_rfl) (by kernel_rfl) (by kernel_rfl) (by exact fun _ _ _ h => h) (Or.inl ⟨by rfl, ?_⟩) (by assumption) ?_
      rotate_left
      ·(intro w hSw; (try dsimp only at hSw); go_simp; (try with_reducible rfl))
      (try simp only [Act.put, xL4, xL5, xL6])
      refine wpAnyH_take (i := 2) (v := ?_) (by simp only [xL1, xL2, xL3]; rfl) (by kernel_rfl) (by kernel_rfl) (by kernel_rfl) (by exact fun _ _ _ h => h) (Or.inl ⟨by rfl, ?_⟩) (by assumption) ?_
      rotate_left
      ·(intro w hSw; (try dsimp only at hSw); go_simp; (try with_reducible rfl))
      (try simp only [Act.put, xL4, xL5, xL6])
      refine wpAnyH_take (i := 3) (v := ?_) (by simp only [xL1, xL2, xL3]; rfl) (by kernel_rfl) (by kernel_rfl) (by kernel_rfl) (by exact fun _ _ _ h => h) (Or.inl ⟨by rfl, ?_⟩) (by assumption) ?_
      rotate_left
      ·(intro w hSw; (try dsimp only at hSw); go_simp; (try with_reducible rfl))
      (try simp only [Act.put, xL4, xL5, xL6])
      refine wpAnyH_take (i := 4) (v := ?_) (by simp only [xL1, xL2, xL3]; rfl) (by kernel_rfl) (by kernel_rfl) (by kernel_rfl) (by exact fun _ _ _ h => h) (Or.inl ⟨by rfl, ?_⟩) (by assumption) ?_
      rotate_left
      ·(intro w hSw; (try dsimp only at hSw); go_simp; (try with_reducible rfl))
      (try simp only [Act.put, xL4, xL5, xL6])
      refine wpAnyH_take (i := 5) (v := ?_) (by simp only [xL1, xL2, xL3]; rfl) (by kernel_rfl) (by kernel_rfl) (by kernel_rfl) (by exact fun _ _ _ h => h) (Or.inl ⟨by rfl, ?_⟩) (by assumption) ?_
      rotate_left
      ·(intro w hSw; (try dsimp only at hSw); go_simp; (try with_reducible rfl))
      (try simp only [Act.put, xL4, xL5, xL6])
      refine wpAnyH_take (i := 6) (v := ?_) (by simp only [xL1, xL2, xL3]; rfl) (by kernel_rfl) (by kernel_rfl) (by kernel_rfl) (by exact fun _ _ _ h => h) (Or.inl ⟨by rfl, ?_⟩) (by assumption) ?_
      rotate_left
      ·(intro w hSw; (try dsimp only at hSw); go_simp; (try with_reducible rfl))
      (try simp only [Act.put, xL4, xL5, xL6])
      refine wpAnyH_take (i := 7) (v := ?_) (by simp only [xL1, xL2, xL3]; rfl) (by kernel_rfl) (by kernel_rfl) (by kernel_rfl) (by exact fun _ _ _ h => h) (Or.inl ⟨by rfl, ?_⟩) (by assumption) ?_
      rotate_left
      ·(intro w hSw; (try dsimp only at hSw); go_simp; (try with_reducible rfl))
      (try simp only [Act.put, xL4, xL5, xL6])
      refine wpAnyH_take (i := 8) (v := ?_) (by simp only [xL1, xL2, xL3]; rfl) (by kernel_rfl) (by kernel_rfl) (by kernel_rfl) (by exact fun _ _ _ h => h) (Or.inl ⟨by rfl, ?_⟩) (by assumption) ?_
      rotate_left
      ·(intro w hSw; (try dsimp only at hSw); go_simp; (try with_reducible rfl))
      (try simp only [Act.put, xL4, xL5, xL6])
      refine wpAnyH_take (i := 10) (v := ?_) (by simp only [xL1, xL2, xL3]; rfl) (by kernel_rfl) (by kernel_rfl) (by kernel_rfl) (by exact fun _ _ _ h => h) (Or.inl ⟨by rfl, ?_⟩) (by assumption) ?_
      rotate_left
      ·(intro w hSw; (try dsimp only at hSw); go_simp; (try with_reducible rfl))
      (try simp only [Act.put, xL4, xL5, xL6])
      refine wpAnyH_ready (rs := [9]) (by kernel_rfl) (by simp) ?_
      refine AllReadyH.cons (by simp only [xL1, xL2, xL3]; rfl) (fun K hK => ?_) AllReadyH.nil
      go_simp
      refine (qmul_at _ _ (meanN t nn i) (t i).cov 154 _ (r4.at _ HSM2.out) (r3.le (by omega)) (by omega) (by omega) ht).mono ?_
      rintro e w61 ⟨v9, rfl, h9, b61⟩
      rw [HMC.out] at h9
      obtain ⟨p9, a9, n9, c9, y9, m9, d9, rfl⟩ := h9.open
      go_wp2_with fail
      replace hs := hs.below b61
      replace ht := ht.below b61
      replace r4 := r4.below b61
      replace r3 := r3.below b61
      replace C0 := C0.below b61
      replace C1 := C1.below b61
      replace C2 := C2.below b61
      replace D0 := D0.below b61
      replace D1 := D1.below b61
      replace D2 := D2.below b61
      replace VS := VS.below b61
      replace BB := BB.trans (b61.mono BB.size)
      clear b61
      refine hK.out _ _ ?_ (fun hH1 => ?_)
      ·exact ⟨VS.1, VS.2.1, VS.2.2.1, C0.cell, C1.cell, C2.cell, D0.cell, D1.cell, D2.cell⟩
      clear hK K hHeld
      (try simp only [Act.put, xL4, xL5, xL6])
      refine wpAnyH_ready (rs := [11]) (by kernel_rfl) (by simp) ?_
      refine AllReadyH.cons (by simp only [xL1, xL2, xL3]; rfl) (fun K hK => ?_) AllReadyH.nil
      go_simp
      refine (is10_at _ _ _ 150 150 _ h9 HSW2.out (hs.at 150 HSW2.out) (by omega) (by omega)).mono ?_
      rintro e w62 ⟨rfl, b62⟩
      go_wp2_with fail
      replace hs := hs.below b62
      replace ht := ht.below b62
      replace r4 := r4.below b62
      replace r3 := r3.below b62
      replace C0 := C0.below b62
      replace C1 := C1.below b62
      replace C2 := C2.below b62
      replace D0 := D0.below b62
      replace D1 := D1.below b62
      replace D2 := D2.below b62
      replace h9 := h9.below b62
      replace VS := VS.below b62
      replace BB := BB.trans (b62.mono BB.size)
      clear b62
      refine hK.out _ _ ?_ (fun hH2 => ?_)
      ·exact ⟨VS.1, VS.2.1, VS.2.2.1, C0.cell, C1.cell, C2.cell, D0.cell, D1.cell, D2.cell⟩
      clear hK K hH1
      (try simp only [Act.put, xL4, xL5, xL6])
      refine wpAnyH_take (i := 12) (v := ?_) (by simp only [xL1, xL2, xL3]; rfl) (by kernel_rfl) (by kernel_rfl) (by kernel_rfl) (by exact fun _ _ _ h => h) (Or.inl ⟨by rfl, ?_⟩) (by assumption) ?_
      rotate_left
      ·(intro w hSw; (try dsimp only at hSw); go_simp; (try with_reducible rfl))
      (try simp only [Act.put, xL4, xL5, xL6])
      refine wpAnyH_take (i := 13) (v := ?_) (by simp only [xL1, xL2, xL3]; rfl) (by kernel_rfl) (by kernel_rfl) (by kernel_rfl) (by exact fun _ _ _ h => h) (Or.inl ⟨by rfl, ?_⟩) (by assumption) ?_
      rotate_left
      ·(intro w hSw; (try dsimp only at hSw); go_simp; (try with_reducible rfl))
      (try simp only [Act.put, xL4, xL5, xL6])
      refine wpAnyH_take (i := 14) (v := ?_) (by simp only [xL1, xL2, xL3]; rfl) (by kernel_rfl) (by kernel_rfl) (by kernel_rfl) (by exact fun _ _ _ h => h) (Or.inl ⟨by rfl, ?_⟩) (by assumption) ?_
      rotate_left
      ·(intro w hSw; (try dsimp only at hSw); go_simp; (try with_reducible rfl))
      (try simp only [Act.put, xL4, xL5, xL6])
      refine wpAnyH_take (i := 15) (v := ?_) (by simp only [xL1, xL2, xL3]; rfl) (by kernel_rfl) (by kernel_rfl) (by kernel_rfl) (by exact fun _ _ _ h => h) (Or.inl ⟨by rfl, ?_⟩) (by assumption) ?_
      rotate_left
      ·(intro w hSw; (try dsimp only at hSw); go_simp; (try with_reducible rfl))
      (try simp only [Act.put, xL4, xL5, xL6])
      refine wpAnyH_take (i := 16) (v := ?_) (by simp only [xL1, xL2, xL3]; rfl) (by kernel_rfl) (by kernel_rfl) (by kernel_rfl) (by exact fun _ _ _ h => h) (Or.inl ⟨by rfl, ?_⟩) (by assumption) ?_
      rotate_left
      ·(intro w hSw; (try dsimp only at hSw); go_simp; (try with_reducible rfl))
      (try simp only [Act.put, xL4, xL5, xL6])
      refine wpAnyH_take (i := 17) (v := ?_) (by simp only [xL1, xL2, xL3]; rfl) (by kernel_rfl) (by kernel_rfl) (by kernel_rfl) (by exact fun _ _ _ h => h) (Or.inl ⟨by rfl, ?_⟩) (by assumption) ?_
      rotate_left
      ·(intro w hSw; (try dsimp only at hSw); go_simp; (try with_reducible rfl))
      (try simp only [Act.put, xL4, xL5, xL6])
      refine wpAnyH_ready (rs := [18]) (by kernel_rfl) (by simp) ?_
      refine AllReadyH.cons (by simp only [xL1, xL2, xL3]; rfl) (fun K hK => ?_) AllReadyH.nil
      go_simp
      refine (qright_rep _ _ _ r4 (Nat.le_trans HSM2.out (by omega)) ht).mono ?_
      rintro e w63 ⟨rfl, b63⟩
      go_wp2_with fail
      replace hs := hs.below b63
      replace ht := ht.below b63
      replace r4 := r4.below b63
      replace r3 := r3.below b63
      replace C0 := C0.below b63
      replace C1 := C1.below b63
      replace C2 := C2.below b63
      replace D0 := D0.below b63
      replace D1 := D1.below b63
      replace D2 := D2.below b63
      replace h9 := h9.below b63
      replace VS := VS.below b63
      replace BB := BB.trans (b63.mono BB.size)
      clear b63
      refine hK.out _ _ ?_ (fun hH3 => ?_)
      ·exact ⟨VS.1, VS.2.1, VS.2.2.1, C0.cell, C1.cell, C2.cell, D0.cell, D1.cell, D2.cell⟩
      clear hK K hH2
      (try simp only [Act.put, xL4, xL5, xL6])
      refine wpAnyH_take (i := 19) (v := ?_) (by simp only [xL1, xL2, xL3]; rfl) (by kernel_rfl) (by kernel_rfl) (by kernel_rfl) (by exact fun _ _ _ h => h) (Or.inl ⟨by rfl, ?_⟩) (by assumption) ?_
      rotate_left
      ·(intro w hSw; (try dsimp only at hSw); go_simp; (try with_reducible rfl))
      (try simp only [Act.put, xL4, xL5, xL6])
      refine wpAnyH_take (i := 20) (v := ?_) (by simp only [xL1, xL2, xL3]; rfl) (by kernel_rfl) (by kernel_rfl) (by kernel_rfl) (by exact fun _ _ _ h => h) (Or.inl ⟨by rfl, ?_⟩) (by assumption) ?_
      rotate_left
      ·(intro w hSw; (try dsimp only at hSw); go_simp; (try with_reducible rfl))
      (try simp only [Act.put, xL4, xL5, xL6])
      refine wpAnyH_done (by kernel_rfl) ?_ _
      clear hH3
      go_wp2
      go_roundw
      case rel => exact ⟨i + 1, by omega, by go_num, BB⟩
      case measure => simp [intOf]; omega
   ·obtain rfl : i = nn := by omega
    have g1_ : ¬ (i : Int) < (i : Int) := by omega
    go_wp2_with fail
    refine (awake11_at _ (ht0.out.below BL)).mono ?_
    rintro e w9 ⟨rfl, b9⟩
    go_wp2
    go_ret
    exact ⟨rfl, (BB.trans (BL.mono BB.size)).trans (b9.mono (by have := BB.size; have := BL.size; omega))⟩
theorem own : ownKnob Tryz.prog.godebug = none := by kernel_rfl
theorem laidOut : laidOutB Tryz.prog = true := by kernel_rfl

abbrev laid1 : List (String × DataW Unit) := [("math/bits.deBruijn64tab", Rows.laid_math_bits_deBruijn64tab)]
theorem gTab : Tryz.prog.globalNamed "math/bits.deBruijn64tab" = some 0 := by kernel_rfl
theorem gTabType : (Tryz.prog.globals[0]?).map (·.type) = some 192 := by kernel_rfl
theorem uTab : Tryz.prog.underlying 192 = some (.array 64 5) := by kernel_rfl
theorem uCell : Tryz.prog.underlying 5 = some (.int .u8) := by kernel_rfl
theorem cCell : Tryz.prog.cellsOf 5 = 1 := by kernel_rfl
theorem cTab : Tryz.prog.cellsOf 192 = 64 := by kernel_rfl
/-- The listed table lies in its cells. -/
theorem tab_of {W : World} (h : laidMetH Tryz.prog laid1 W) : Tab W := by
 rw [MakeChecks.laidMetH_plain _ _ _ (by kernel_rfl)] at h
 have hd : laid1 = [("math/bits.deBruijn64tab", Lib.tabData .u8 (Lib.deBruijn64tab.map fun (n : Nat) => Int.ofNat n))] := rfl
 rw [hd] at h
 have hT := Lib.tabIs_of_head gTab gTabType uTab uCell cCell cTab h
 intro i hi
 have hc := hT.cell gTab i (by rw [List.length_map]; exact hi)
 rw [hc]
 congr 2
 rw [List.getD_eq_getElem?_getD, List.getElem?_map, List.getD_eq_getElem?_getD]
 cases Lib.deBruijn64tab[i]? <;> rfl
/-- A start for the witness: the heap that the run of the program's own initialisers leaves. -/
noncomputable def startW (os : Os) : World := { World.holding Tryz.prog os ⟨#[], #[], []⟩ with heap := (varsWorld Tryz.prog 400 (varsId Tryz.prog) os (fun _ _ => 0)).heap }
theorem start_met (os : Os) (args : Array Value) : laidMetH Tryz.prog laid1 ((startW os).forCall (fun _ _ => 0) ⟨#[], args, []⟩).memory :=
 laidMetH_of_parts3 (fuel := 8) (laidMet_of_run' 8 (by kernel_rfl) (by kernel_rfl)) (by kernel_rfl) (by kernel_rfl)

set_option maxRecDepth 100000 in
theorem lifted (os : Os) (started : os.Started) (H : Type) (enc : TypeId × Value → H) :
  ReturnsInHanded {} Tryz.checked os 5 .any (fun w args => (Rows.expectNodesSpec.pre enc Tryz.prog Tryz.f5 [] false w args ∧ laidMetH Tryz.prog laid1 w) ∧ sizedMet enc Tryz.prog Tryz.f5 (OpenSpec.ofChange Rows.expectNodesSpec) false w args) (Rows.expectNodesSpec.post enc Tryz.prog Tryz.f5 false true false false) := by
 refine returnsInHanded_of_change_and (C := Tryz.checked) (X := fun w _ => laidMetH Tryz.prog laid1 w) (fun _ _ _ hh h => h.of_heap hh) own started (by kernel_rfl) Tryz.func5
  (ChangeSpec.witness_shaped (enc := enc) (C := Tryz.checked) (os := os) (X := fun w _ => laidMetH Tryz.prog laid1 w) false (startW os) #[.slice none 0 0, .int .i64 0] 8 rfl (World.shaped_of_RefB (by kernel_rfl) (by kernel_rfl)) (by kernel_rfl) (by kernel_rfl) (by kernel_rfl) (start_met os _)) ?_
 intro W base args ds gs before hval0 hW _ _ hL _
 have hval : ∀ (j : Nat) t v, Tryz.f5.params[j]? = some t → args[j]? = some v → Value.okWide Tryz.prog W .any base t v := hval0
 have hW' := hW
 obtain ⟨p, q, hA0, hV, rfl, hfz, hnd⟩ := hW
 have hA : DataW.TrodAll enc Tryz.prog W 0 (fun _ => true) true Tryz.f5.params.toList args.toList ds p := hA0
 rw [Tryz.params5] at hA hval
 obtain ⟨v0, vs0, d0, ds0, p0, q0, hargs, rfl, rfl, h0, r0⟩ := trodAll_cons hA
 obtain ⟨v1, vs1, d1, ds1, p1, q1, rfl, rfl, rfl, h1, r1⟩ := trodAll_cons r0
 obtain ⟨rfl, rfl, rfl⟩ := trodAll_nil r1
 obtain rfl : args = #[v0, v1] := by cases args; simp_all
 obtain ⟨rfl, rfl⟩ := trodVars_none hV
 have k0 := h0
 have lt0 : ∀ x ∈ p0, x.block < W.heap.size := by obtain ⟨m, hm⟩ := k0; exact DataW.trod_lt m _ _ _ hm
 obtain ⟨n0, z0, w0⟩ := open_nodes 4 (hval 0 47 v0 rfl rfl) h0
 obtain ⟨a1, rfl, rfl, rfl, w1⟩ := open_int Tryz.underlying3 (hval 1 3 v1 rfl rfl) h1
 clear hA0 hval0
 refine (walk _ _ _ a1 W w0 w1 (tab_of hL)).mono fun e W' ⟨he, bel⟩ => ?_
 subst he
 exact ⟨_, rfl, _, _, _, [], _, [], hW', trodAll_mk1 (shut_bool Tryz.underlying4 _), (trodAll_cons_mk (Below.trod laidOut (by kernel_rfl) (of_decide_eq_true (by kernel_rfl)) k0 bel lt0) (trodAll_cons_mk (shut_int Tryz.underlying3 w1) trodAll_mk0)), rfl, bel.frame _, fun h => by cases h⟩

theorem over : Rows.expectNodesRow.holds Tryz.pinned (OpenSpec.ofChange Rows.expectNodesSpec) :=
 OpenClaim.holds_of_wide 5 Tryz.f5 rfl rfl rfl rfl rfl rfl rfl ⟨rfl, rfl, rfl, rfl, rfl⟩ rfl rfl rfl rfl rfl (by kernel_rfl) Tryz.func5 (by kernel_rfl)
  (of_decide_eq_true (by kernel_rfl)) (by unfold Func.isWrapper; first | (rw [if_pos (by decide +kernel)]; kernel_rfl) | (rw [if_neg (by decide +kernel)]; exact ⟨rfl, rfl⟩))
  (fun os started H enc _ => lifted os started H enc)

end Go.Proofs.YtcackghehjbeeaaGreatDoor.expectNodes
namespace Go.Proofs.YtcackghehjbeeaaGreatDoor
/-- The statement: the row, tied to the text of the program. -/
theorem expectNodes_holds : Rows.ExpectNodesCardSaid :=
 Claim7.holds_tied_plain_at .later [] [.data] true (true, "f1372680ce68651806104b41e34c7c02812a880fb8b4d6c3acbcef32c7b1ad34") false
  expectNodes.over (fun _ h => by cases h) (by kernel_rfl) (fun _ h => by cases h) expectNodes_row_tie rfl ⟨rfl, rfl⟩ (by kernel_rfl) rfl
  (fun f fn hf hfn => by
   obtain rfl : f = 5 := Option.some.inj ((show Tryz.prog.funcNamed "dendron/dendronlaw11.ExpectNodes" = some 5 by kernel_rfl).symm.trans hf) |>.symm
   obtain rfl : fn = Tryz.f5 := (Option.some.inj (Tryz.func5.symm.trans hfn)).symm
   exact ⟨by kernel_rfl, fun j t ht => by
    rw [Tryz.params5] at ht
    have hm : t ∈ [47, 3] := by simpa using Array.mem_of_getElem? ht
    have hall : ([47, 3].all fun u => !Tryz.prog.wantsStandIn u) = true := by kernel_rfl
    exact (show Tryz.prog.wantsStandIn t = false by simpa using List.all_eq_true.1 hall t hm)⟩)
  (by kernel_rfl)
end Go.Proofs.YtcackghehjbeeaaGreatDoor
