/-
  Proves that Clean, Degree, Add, Sub, Scale and Same answer form, degree, sum, difference, multiples of any two polynomials of up to 8 coefficients of up to 2 limbs, and whether they are one, whatever comes in (the statement PolySums, its tied card); the table of math/bits lies as the program's text lays it; no other condition.
-/
import Derived.Test.YtnidadaofgmplaaGreatDoorRows
import Derived.Test.YtnidadaofgmplaaGreatDoorJ56ed474f6d
import Derived.WalkKit
import Derived.ProofKit
import Derived.OpenShut
import Derived.ShutString
import Derived.ChangeOld
import Derived.Below
import Derived.Test.YtnidadaofgmplaaGreatDoorTie
import Derived.Test.YtnidadaofgmplaaGreatDoorCards
import Derived.LaidByTextLater
import Derived.LaidHandle
import Derived.Lib.LaidTab
import Derived.SevenTiedAt
namespace Go.Proofs.YtnidadaofgmplaaGreatDoor.polySums
open Go.ChangeShapes Go.WideShapes Go.ChangeAt Go.RowKit
open Go.ChangeMaps (open_string shut_string)
set_option linter.unusedVariables false
set_option linter.unusedSimpArgs false

def KLIST : Nat := 2

set_option maxRecDepth 100000 in
set_option maxHeartbeats 16000000 in
theorem walk (v1 : Value) (n1 : Nat) (q1 : Nat → Rat) (v2 : Value) (n2 : Nat) (q2 : Nat → Rat) (p : Bool) (ao : Option Addr) (l c : Nat) (bo : Option Addr) (k d : Nat) (f g : Nat → Int) (w : World) (h1 : RawQ w v1 n1 q1 KLIST) (h2 : RawQ w v2 n2 q2 KLIST) (h3 : Raw w (.slice ao l c) l f) (h4 : Raw w (.slice bo k d) k g) (ht : Tab w) :
    Calls Tryz.prog 3 #[v1, v2, .agg #[.bool p, .slice ao l c, .slice bo k d]] w fun e w' => e = .returned (.bool true) ∧ Below w.heap.size w w' := by
  unfold KLIST at h1 h2
  have BB : Below w.heap.size w w := Below.refl _ _
  obtain ⟨Wb0, hW0, hS0, hL0, VB⟩ := V3.lay w 28 (.bool p) (.slice ao l c) (.slice bo k d)
  replace h1 := h1.below hL0
  replace h2 := h2.below hL0
  replace h3 := h3.below hL0
  replace h4 := h4.below hL0
  replace ht := ht.below hL0
  replace BB := BB.trans (hL0.mono BB.size)
  clear hL0
  go_enter Tryz.func3, Tryz.ntmps3
  go_wp2_with fail
  rw [← hW0]
  clear hW0 hS0
  have hB0 := VB.lt
  refine (few4_at _ n1 8 q1 _ h1 (by omega)).mono ?_
  rintro e w1 ⟨ra, rfl, QA, b1⟩
  replace h1 := h1.below b1
  replace h2 := h2.below b1
  replace h3 := h3.below b1
  replace h4 := h4.below b1
  replace ht := ht.below b1
  replace VB := VB.below b1
  replace BB := BB.trans (b1.mono BB.size)
  clear b1
  have hB1 := VB.lt
  go_wp2_with fail
  refine (few4_at _ n2 8 q2 _ h2 (by omega)).mono ?_
  rintro e w2 ⟨rb, rfl, QB, b2⟩
  replace h1 := h1.below b2
  replace h2 := h2.below b2
  replace h3 := h3.below b2
  replace h4 := h4.below b2
  replace ht := ht.below b2
  replace QA := QA.below b2
  replace VB := VB.below b2
  replace BB := BB.trans (b2.mono BB.size)
  clear b2
  clear h1 h2
  obtain ⟨n, hn⟩ : ∃ n, n = min n1 8 := ⟨_, rfl⟩
  rw [← hn] at QA
  have hn8 : n ≤ 8 := by omega
  obtain ⟨m, hm⟩ : ∃ m, m = min n2 8 := ⟨_, rfl⟩
  rw [← hm] at QB
  have hm8 : m ≤ 8 := by omega
  clear hn hm
  obtain ⟨aa, ca, rfl, hac, hac63, _⟩ := QA.row.open
  obtain ⟨ab, cb, rfl, hbc, hbc63, _⟩ := QB.row.open
  obtain ⟨VB_0, VB_1, VB_2, VB_3, VB_4, VB_5⟩ := id VB
  go_wp2_with fail
  clear VB_0 VB_1 VB_2 VB_3 VB_4 VB_5
  refine (number4_at _ _ _ _ _ _ _ _ h3 h4).mono ?_
  rintro e w3 ⟨ao4, c4, bo4, d4, rfl, hu4, uf4, hv4, vf4, b3⟩
  replace h3 := h3.below b3
  replace h4 := h4.below b3
  replace ht := ht.below b3
  replace QA := QA.below b3
  replace QB := QB.below b3
  replace VB := VB.below b3
  replace BB := BB.trans (b3.mono BB.size)
  clear b3
  clear h3 h4
  obtain ⟨s, hs⟩ : ∃ s, s = mkRat (zof p (num f (min l 2))) (num g (min k 2)) := ⟨_, rfl⟩
  have XS : RatAt w3 (.agg #[.bool p, .slice ao4 (min l 2) c4, .slice bo4 (min k 2) d4]) s 2 := by rw [hs]; exact RatAt.raw hu4 uf4 hv4 vf4 (Nat.min_le_right _ _) (Nat.min_le_right _ _)
  clear hu4 uf4 hv4 vf4 hs
  generalize min l 2 = l4 at XS ⊢
  generalize min k 2 = k4 at XS ⊢
  have hKp := VB.keepJ (.bool p) (.slice ao4 l4 c4) (.slice bo4 k4 d4)
  have VB_n := VB.same (.bool p) (.slice ao4 l4 c4) (.slice bo4 k4 d4)
  have ht_n := ht.keep hKp
  have QA_n := QA.other (grown_set3 w3 (w.heap.size) (.bool p) (.slice ao4 l4 c4) (.slice bo4 k4 d4)) hKp (fun g hg => by cases hg; omega)
  have QB_n := QB.other (grown_set3 w3 (w.heap.size) (.bool p) (.slice ao4 l4 c4) (.slice bo4 k4 d4)) hKp (fun g hg => by cases hg; omega)
  have XS_n := XS.keep hKp
  have BB_n := below_store3 (R := w.heap.size) BB (by omega) (.bool p) (.slice ao4 l4 c4) (.slice bo4 k4 d4)
  clear hKp
  obtain ⟨VB_0, VB_1, VB_2, VB_3, VB_4, VB_5⟩ := id VB
  go_wp2
  clear VB_0 VB_1 VB_2 VB_3 VB_4 VB_5
  clear BB ht QA QB XS VB
  generalize ((w3.setCell ⟨w.heap.size, 0, none⟩ (.bool p)).setCell ⟨w.heap.size, 1, none⟩ (.slice ao4 l4 c4)).setCell ⟨w.heap.size, 2, none⟩ (.slice bo4 k4 d4) = W1 at *
  have BB := BB_n
  have ht := ht_n
  have QA := QA_n
  have QB := QB_n
  have XS := XS_n
  have VB := VB_n
  clear BB_n ht_n QA_n QB_n XS_n VB_n
  have QA0 := QA.row
  have QB0 := QB.row
  clear QA QB
  have HBB : Hid (Below w.heap.size w W1) := BB
  clear BB
  go_loopw [7, 8, 9, 10, 11, 12] (fun vs vd vc vsm vdg vi wr => ∃ (k : Nat) (sm : Bool) (dg : Int), k ≤ 8 ∧ vi = .int .i64 (k : Int) ∧ vsm = .bool sm ∧ vdg = .int .i64 dg ∧ -1 ≤ dg ∧ dg ≤ 8 ∧ Hid (sm = decide (∀ i, i < k → co n q1 i = co m q2 i)) ∧ Hid (dg = (trimN (co n q1) k : Int) - 1) ∧ FOwn W1.heap.size wr vs k (fun i => co n q1 i + co m q2 i) ∧ FOwn W1.heap.size wr vd k (fun i => co n q1 i - co m q2 i) ∧ FOwn W1.heap.size wr vc k (fun i => co n q1 i * s) ∧ Aside vs vd ∧ Aside vs vc ∧ Aside vd vc ∧ Below W1.heap.size W1 wr) (fun _ _ _ _ _ vi _ => 8 - (intOf vi).toNat)
  case atStart => exact ⟨0, true, -1, by omega, rfl, rfl, rfl, by omega, by omega, by show true = decide _; simp, by show (-1 : Int) = _; simp [trimN], FOwn.nil _ _ _, FOwn.nil _ _ _, FOwn.nil _ _ _, aside_nil _, aside_nil _, aside_nil _, Below.refl _ _⟩
  case round =>
    obtain ⟨k, sm, dg, hk, rfl, rfl, rfl, hd1, hd2, HSM, HDG, OS, OD, OC, A1, A2, A3, BB⟩ := hrel
    obtain ⟨as_, cs_, rfl⟩ := OS.row.open
    obtain ⟨ad_, cd_, rfl⟩ := OD.row.open
    obtain ⟨ac_, cc_, rfl⟩ := OC.row.open
    by_cases hlt : k < 8
    · have hki : (k : Int) < 8 := by omega
      go_wp2_with fail
      refine (at4_at _ n k q1 2 _ (QA0.below BB) (by omega) (by omega) (by omega)).mono ?_
      rintro e w1 ⟨x1, rfl, G1, b1⟩
      replace OS := OS.below b1
      replace OD := OD.below b1
      replace OC := OC.below b1
      replace BB := BB.trans (b1.mono BB.size)
      clear b1
      go_wp2_with fail
      refine (at4_at _ m k q2 2 _ (QB0.below BB) (by omega) (by omega) (by omega)).mono ?_
      rintro e w2 ⟨x2, rfl, G2, b2⟩
      replace OS := OS.below b2
      replace OD := OD.below b2
      replace OC := OC.below b2
      replace G1 := G1.below b2
      replace BB := BB.trans (b2.mono BB.size)
      clear b2
      go_wp2_with fail
      refine (qadd_at _ _ (co n q1 k) (co m q2 k) 2 _ G1 G2 (by omega) (by omega) (ht.below BB)).mono ?_
      rintro e w3 ⟨x3, rfl, hr, b3⟩
      replace OS := OS.below b3
      replace OD := OD.below b3
      replace OC := OC.below b3
      replace G1 := G1.below b3
      replace G2 := G2.below b3
      replace BB := BB.trans (b3.mono BB.size)
      clear b3
      obtain ⟨p3, a3, n3, c3, bo3, m3, d3, rfl⟩ := hr.open
      clear G1 G2
      obtain ⟨us, el', o1, o2, o3, o4⟩ := id OS
      have hul : us.length = k * 3 := o1.1
      have HO3 : Hid (∀ i', i' < k → ∀ j, j < 3 → us[i' * 3 + j]? = some (el' i' j)) := o3
      have HO4 : Hid (∀ i', i' < k → RepQ w3 (.agg #[el' i' 0, el' i' 1, el' i' 2]) ((fun i => co n q1 i + co m q2 i) i')) := o4
      have hPO : Hid (∀ g0, Value.ownBlock (.slice as_ k cs_) = some g0 → PureB IsNum w3 g0) := o2
      have hOb : Hid (∀ g0, Value.ownBlock (.slice as_ k cs_) = some g0 → W1.heap.size ≤ g0) := fun g0 hg0 => (o1.lt g0 hg0).1
      clear o2 o3 o4
      have A9 : Below w3.heap.size w3 (w3.alloc (.cells #[.bool p3, .slice a3 n3 c3, .slice bo3 m3 d3] 28)) := (Below.refl _ _).alloc (Nat.le_refl _) _
      go_wp2_with (at_builtin; refine wpList_append_pure (Q' := IsNum) rfl _ _ _ rfl W1.heap.size 28 (.agg #[.bool false, .slice none 0 0, .slice none 0 0]) 3 56 Tryz.underlying22 info_wrat rfl (by omega) (.slice as_ k cs_) rfl k us (o1.alloc _) (fun g0 hg0 => (hPO.out g0 hg0).below A9 (o1.lt g0 hg0).2) ⟨w3.heap.size, 0, none⟩ 1 rfl [.bool p3, .slice a3 n3 c3, .slice bo3 m3 d3] rfl (news_block (heap_alloc_new _ _)) (by simp [Value.oneCell']) (by simp [num_slice, num_bool]) (by simp [Value.cells, num_slice, num_bool]) (by omega) (by omega) (by have := BB.size; simp; omega) ?_)
      intro ga capa wa ho5 hg5 hat5 hp5 hk5
      replace hat5 : Value.ownBlock (.slice as_ k cs_) = some ga ∨ ga = (w3.alloc (.cells #[.bool p3, .slice a3 n3 c3, .slice bo3 m3 d3] 28)).heap.size := by rw [World.size_alloc]; exact hat5
      have X_n : FOwn W1.heap.size wa (.slice (some ⟨ga, 0, none⟩) (k + 1) capa) (k + 1) (fun i => co n q1 i + co m q2 i) := FOwn.more ho5 hp5 hul HO3.out (fun i' hi' => (HO4.out i' hi').below A9) (hr.below A9) hk5
      replace OD := OD.below A9
      replace OC := OC.below A9
      have BB_n : Below W1.heap.size W1 wa := below_grownB (BB.trans (A9.mono BB.size)) hg5 (by have := BB.size; have := A9.size; omega) (fun g0 hg0 => hOb.out g0 hg0)
      have OD_n := OD.stay (x := .slice as_ k cs_) hg5 hk5 A1.symm
      have NOD := aside_new (m := k + 1) (c := capa) OD A1.symm hat5
      have OC_n := OC.stay (x := .slice as_ k cs_) hg5 hk5 A2.symm
      have NOC := aside_new (m := k + 1) (c := capa) OC A2.symm hat5
      clear OS OD OC
      have OD := OD_n
      clear OD_n
      have OC := OC_n
      clear OC_n
      replace A1 := NOD.symm
      clear NOD
      replace A2 := NOC.symm
      clear NOC
      have OS := X_n
      clear BB
      have BB := BB_n
      clear X_n BB_n A9 o1 hPO HO3 HO4 hOb hul ho5 hg5 hat5 hp5 hk5 hr
      go_wp2_with fail
      refine (at4_at _ n k q1 2 _ (QA0.below BB) (by omega) (by omega) (by omega)).mono ?_
      rintro e w4 ⟨x1, rfl, G1, b4⟩
      replace OS := OS.below b4
      replace OD := OD.below b4
      replace OC := OC.below b4
      replace BB := BB.trans (b4.mono BB.size)
      clear b4
      go_wp2_with fail
      refine (at4_at _ m k q2 2 _ (QB0.below BB) (by omega) (by omega) (by omega)).mono ?_
      rintro e w5 ⟨x2, rfl, G2, b5⟩
      replace OS := OS.below b5
      replace OD := OD.below b5
      replace OC := OC.below b5
      replace G1 := G1.below b5
      replace BB := BB.trans (b5.mono BB.size)
      clear b5
      go_wp2_with fail
      refine (qsub_at _ _ (co n q1 k) (co m q2 k) 2 _ G1 G2 (by omega) (by omega) (ht.below BB)).mono ?_
      rintro e w6 ⟨x3, rfl, hr, b6⟩
      replace OS := OS.below b6
      replace OD := OD.below b6
      replace OC := OC.below b6
      replace G1 := G1.below b6
      replace G2 := G2.below b6
      replace BB := BB.trans (b6.mono BB.size)
      clear b6
      obtain ⟨p3, a3, n3, c3, bo3, m3, d3, rfl⟩ := hr.open
      clear G1 G2
      obtain ⟨us, el', o1, o2, o3, o4⟩ := id OD
      have hul : us.length = k * 3 := o1.1
      have HO3 : Hid (∀ i', i' < k → ∀ j, j < 3 → us[i' * 3 + j]? = some (el' i' j)) := o3
      have HO4 : Hid (∀ i', i' < k → RepQ w6 (.agg #[el' i' 0, el' i' 1, el' i' 2]) ((fun i => co n q1 i - co m q2 i) i')) := o4
      have hPO : Hid (∀ g0, Value.ownBlock (.slice ad_ k cd_) = some g0 → PureB IsNum w6 g0) := o2
      have hOb : Hid (∀ g0, Value.ownBlock (.slice ad_ k cd_) = some g0 → W1.heap.size ≤ g0) := fun g0 hg0 => (o1.lt g0 hg0).1
      clear o2 o3 o4
      have A9 : Below w6.heap.size w6 (w6.alloc (.cells #[.bool p3, .slice a3 n3 c3, .slice bo3 m3 d3] 28)) := (Below.refl _ _).alloc (Nat.le_refl _) _
      go_wp2_with (at_builtin; refine wpList_append_pure (Q' := IsNum) rfl _ _ _ rfl W1.heap.size 28 (.agg #[.bool false, .slice none 0 0, .slice none 0 0]) 3 56 Tryz.underlying22 info_wrat rfl (by omega) (.slice ad_ k cd_) rfl k us (o1.alloc _) (fun g0 hg0 => (hPO.out g0 hg0).below A9 (o1.lt g0 hg0).2) ⟨w6.heap.size, 0, none⟩ 1 rfl [.bool p3, .slice a3 n3 c3, .slice bo3 m3 d3] rfl (news_block (heap_alloc_new _ _)) (by simp [Value.oneCell']) (by simp [num_slice, num_bool]) (by simp [Value.cells, num_slice, num_bool]) (by omega) (by omega) (by have := BB.size; simp; omega) ?_)
      intro gb capb wb ho5 hg5 hat5 hp5 hk5
      replace hat5 : Value.ownBlock (.slice ad_ k cd_) = some gb ∨ gb = (w6.alloc (.cells #[.bool p3, .slice a3 n3 c3, .slice bo3 m3 d3] 28)).heap.size := by rw [World.size_alloc]; exact hat5
      have X_n : FOwn W1.heap.size wb (.slice (some ⟨gb, 0, none⟩) (k + 1) capb) (k + 1) (fun i => co n q1 i - co m q2 i) := FOwn.more ho5 hp5 hul HO3.out (fun i' hi' => (HO4.out i' hi').below A9) (hr.below A9) hk5
      replace OS := OS.below A9
      replace OC := OC.below A9
      have BB_n : Below W1.heap.size W1 wb := below_grownB (BB.trans (A9.mono BB.size)) hg5 (by have := BB.size; have := A9.size; omega) (fun g0 hg0 => hOb.out g0 hg0)
      have OS_n := OS.stay (x := .slice ad_ k cd_) hg5 hk5 A1
      have NOS := aside_new (m := k + 1) (c := capb) OS A1 hat5
      have OC_n := OC.stay (x := .slice ad_ k cd_) hg5 hk5 A3.symm
      have NOC := aside_new (m := k + 1) (c := capb) OC A3.symm hat5
      clear OD OS OC
      have OS := OS_n
      clear OS_n
      have OC := OC_n
      clear OC_n
      replace A1 := NOS
      clear NOS
      replace A3 := NOC.symm
      clear NOC
      have OD := X_n
      clear BB
      have BB := BB_n
      clear X_n BB_n A9 o1 hPO HO3 HO4 hOb hul ho5 hg5 hat5 hp5 hk5 hr
      go_wp2_with fail
      have VBc := VB.below BB
      have XSc := XS.below BB
      have htc := ht.below BB
      have QAc := QA0.below BB
      refine wp_region_until 7 #[true, true, true, true, true, true, true, false, false] (fun aF lsd a' w' => ∃ vu0 vu1 vu2 vu3 vu4 vu5 vu6 : Value, a' = ((((((aF.put (some 43) vu0).put (some 44) vu1).put (some 45) vu2).put (some 46) vu3).put (some 47) vu4).put (some 48) vu5).put (some 49) vu6 ∧ Below wb.heap.size wb w' ∧ (lsd.getD 0 false = true → vu0 = .slice ac_ k cc_) ∧ (lsd.getD 1 false = true → vu1 = .slice aa n ca) ∧ (lsd.getD 2 false = true → vu2 = .int .i64 (k : Int)) ∧ (lsd.getD 3 false = true → RatAt w' vu3 (co n q1 k) 2) ∧ (lsd.getD 4 false = true → vu4 = .agg #[.bool p, .slice ao4 l4 c4, .slice bo4 k4 d4]) ∧ (lsd.getD 5 false = true → RepQ w' vu5 (co n q1 k * s)) ∧ (lsd.getD 6 false = true → BuiltQ wb.heap.size w' vu6 (co n q1 k * s))) (by kernel_rfl) (by decide) (by kernel_rfl) (by rfl) (by kernel_rfl) ?_ ?_ ?_
      · exact ⟨_, _, _, _, _, _, _, by simp only [Act.put, List.setIfInBounds_toArray, List.set_cons_zero, List.set_cons_succ]; rfl, (Below.refl _ _).drew, fun h => absurd h (fun h => mark_none h), fun h => absurd h (fun h => mark_none h), fun h => absurd h (fun h => mark_none h), fun h => absurd h (fun h => mark_none h), fun h => absurd h (fun h => mark_none h), fun h => absurd h (fun h => mark_none h), fun h => absurd h (fun h => mark_none h)⟩
      · rintro lsd au wn iu hszu ⟨vu0, vu1, vu2, vu3, vu4, vu5, vu6, rfl, hbu, fu0, fu1, fu2, fu3, fu4, fu5, fu6⟩ himu hru
        rcases (show iu = 0 ∨ iu = 1 ∨ iu = 2 ∨ iu = 3 ∨ iu = 4 ∨ iu = 5 ∨ iu = 6 by omega) with rfl | rfl | rfl | rfl | rfl | rfl | rfl
        · refine wpOp_shut (by rfl) (fun K hK => ?_)
          simp only [Act.put, List.setIfInBounds_toArray, List.set_cons_zero, List.set_cons_succ]
          go_simp
          exact hK.out _ _ ⟨(.slice ac_ k cc_), vu1, vu2, vu3, vu4, vu5, vu6, by simp only [Act.put, List.setIfInBounds_toArray, List.set_cons_zero, List.set_cons_succ], hbu, fun _ => rfl, fun h => fu1 (mark_of (by decide) h), fun h => fu2 (mark_of (by decide) h), fun h => fu3 (mark_of (by decide) h), fun h => fu4 (mark_of (by decide) h), fun h => fu5 (mark_of (by decide) h), fun h => fu6 (mark_of (by decide) h)⟩
        · refine wpOp_shut (by rfl) (fun K hK => ?_)
          simp only [Act.put, List.setIfInBounds_toArray, List.set_cons_zero, List.set_cons_succ]
          go_simp
          exact hK.out _ _ ⟨vu0, (.slice aa n ca), vu2, vu3, vu4, vu5, vu6, by simp only [Act.put, List.setIfInBounds_toArray, List.set_cons_zero, List.set_cons_succ], hbu, fun h => fu0 (mark_of (by decide) h), fun _ => rfl, fun h => fu2 (mark_of (by decide) h), fun h => fu3 (mark_of (by decide) h), fun h => fu4 (mark_of (by decide) h), fun h => fu5 (mark_of (by decide) h), fun h => fu6 (mark_of (by decide) h)⟩
        · refine wpOp_shut (by rfl) (fun K hK => ?_)
          simp only [Act.put, List.setIfInBounds_toArray, List.set_cons_zero, List.set_cons_succ]
          go_simp
          exact hK.out _ _ ⟨vu0, vu1, (.int .i64 (k : Int)), vu3, vu4, vu5, vu6, by simp only [Act.put, List.setIfInBounds_toArray, List.set_cons_zero, List.set_cons_succ], hbu, fun h => fu0 (mark_of (by decide) h), fun h => fu1 (mark_of (by decide) h), fun _ => rfl, fun h => fu3 (mark_of (by decide) h), fun h => fu4 (mark_of (by decide) h), fun h => fu5 (mark_of (by decide) h), fun h => fu6 (mark_of (by decide) h)⟩
        · have eu1 := fu1 (dep_of 1 hru rfl (by kernel_rfl))
          have eu2 := fu2 (dep_of 2 hru rfl (by kernel_rfl))
          replace eu1 := eu1.symm
          subst eu1
          replace eu2 := eu2.symm
          subst eu2
          refine wpOp_shut (by rfl) (fun K hK => ?_)
          simp only [Act.put, List.setIfInBounds_toArray, List.set_cons_zero, List.set_cons_succ]
          have QAc := QAc.below hbu
          go_simp
          refine (at4_at _ n k q1 2 _ QAc (by omega) (by omega) (by omega)).mono ?_
          rintro eu wx ⟨x1, rfl, G1, bu⟩
          go_wp2_with fail
          have hbu2 := hbu.trans (bu.mono hbu.size)
          exact hK.out _ _ ⟨vu0, (.slice aa n ca), (.int .i64 (k : Int)), _, vu4, vu5, vu6, by simp only [Act.put, List.setIfInBounds_toArray, List.set_cons_zero, List.set_cons_succ], hbu2, fun h => fu0 (mark_of (by decide) h), fun _ => rfl, fun _ => rfl, fun _ => G1, fun h => fu4 (mark_of (by decide) h), fun h => (fu5 (mark_of (by decide) h)).below bu, fun h => (fu6 (mark_of (by decide) h)).below bu⟩
        · refine wpOp_shut (by rfl) (fun K hK => ?_)
          simp only [Act.put, List.setIfInBounds_toArray, List.set_cons_zero, List.set_cons_succ]
          obtain ⟨VBc_0, VBc_1, VBc_2, VBc_3, VBc_4, VBc_5⟩ := VBc.below hbu
          go_simp
          exact hK.out _ _ ⟨vu0, vu1, vu2, vu3, (.agg #[.bool p, .slice ao4 l4 c4, .slice bo4 k4 d4]), vu5, vu6, by simp only [Act.put, List.setIfInBounds_toArray, List.set_cons_zero, List.set_cons_succ], hbu, fun h => fu0 (mark_of (by decide) h), fun h => fu1 (mark_of (by decide) h), fun h => fu2 (mark_of (by decide) h), fun h => fu3 (mark_of (by decide) h), fun _ => rfl, fun h => fu5 (mark_of (by decide) h), fun h => fu6 (mark_of (by decide) h)⟩
        · have eu4 := fu4 (dep_of 4 hru rfl (by kernel_rfl))
          replace eu4 := eu4.symm
          subst eu4
          have G1 := fu3 (dep_of 3 hru rfl (by kernel_rfl))
          refine wpOp_shut (by rfl) (fun K hK => ?_)
          simp only [Act.put, List.setIfInBounds_toArray, List.set_cons_zero, List.set_cons_succ]
          have XSc := XSc.below hbu
          have htc := htc.below hbu
          go_simp
          refine (qmul_at _ _ (co n q1 k) s 2 _ G1 XSc (by omega) (by omega) htc).mono ?_
          rintro eu wx ⟨x3, rfl, hr, bu⟩
          go_wp2_with fail
          have hbu2 := hbu.trans (bu.mono hbu.size)
          exact hK.out _ _ ⟨vu0, vu1, vu2, vu3, (.agg #[.bool p, .slice ao4 l4 c4, .slice bo4 k4 d4]), _, vu6, by simp only [Act.put, List.setIfInBounds_toArray, List.set_cons_zero, List.set_cons_succ], hbu2, fun h => fu0 (mark_of (by decide) h), fun h => fu1 (mark_of (by decide) h), fun h => fu2 (mark_of (by decide) h), fun h => (fu3 (mark_of (by decide) h)).below bu, fun _ => rfl, fun _ => hr, fun h => (fu6 (mark_of (by decide) h)).below bu⟩
        · have hr := fu5 (dep_of 5 hru rfl (by kernel_rfl))
          obtain ⟨pB, aB, nB, cB, bB, mB, dB, rfl⟩ := hr.open
          refine wpOp_shut (by rfl) (fun K hK => ?_)
          simp only [Act.put, List.setIfInBounds_toArray, List.set_cons_zero, List.set_cons_succ]
          go_simp
          obtain ⟨wx, hWx, hSx, bu, VXu⟩ := V3.lay wn 28 (.bool pB) (.slice aB nB cB) (.slice bB mB dB)
          rw [← hWx]
          have hbu2 := hbu.trans (bu.mono hbu.size)
          exact hK.out _ _ ⟨vu0, vu1, vu2, vu3, vu4, (.agg #[.bool pB, .slice aB nB cB, .slice bB mB dB]), _, by simp only [Act.put, List.setIfInBounds_toArray, List.set_cons_zero, List.set_cons_succ], hbu2, fun h => fu0 (mark_of (by decide) h), fun h => fu1 (mark_of (by decide) h), fun h => fu2 (mark_of (by decide) h), fun h => (fu3 (mark_of (by decide) h)).below bu, fun h => fu4 (mark_of (by decide) h), fun h => (fu5 (mark_of (by decide) h)).below bu, fun _ => ⟨_, pB, aB, nB, cB, bB, mB, dB, rfl, hbu.size, VXu, hr.below bu⟩⟩
      rintro au Wu1 ⟨vu0, vu1, vu2, vu3, vu4, vu5, vu6, rfl, hbu, fu0, fu1, fu2, fu3, fu4, fu5, fu6⟩
      have eu0 := (fu0 rfl).symm
      subst eu0
      have eu1 := (fu1 rfl).symm
      subst eu1
      have eu2 := (fu2 rfl).symm
      subst eu2
      have G1 := fu3 rfl
      have eu4 := (fu4 rfl).symm
      subst eu4
      have hr := fu5 rfl
      obtain ⟨RB6, p3, a3, n3, c3, bo3, m3, d3, rfl, hRB6, VB6, hbq⟩ := fu6 rfl
      clear fu0 fu1 fu2 fu3 fu4 fu5 fu6
      have hlVBc : w.heap.size < wb.heap.size := VBc.lt
      replace OS := OS.below hbu
      replace OD := OD.below hbu
      replace OC := OC.below hbu
      replace XSc := XSc.below hbu
      replace htc := htc.below hbu
      replace QAc := QAc.below hbu
      replace VBc := VBc.below hbu
      replace BB := BB.trans (hbu.mono BB.size)
      clear hbu
      simp only [Act.put, List.setIfInBounds_toArray, List.set_cons_zero, List.set_cons_succ]
      refine wpAnyH_ready (rs := [7]) (by kernel_rfl) (by simp) ?_
      refine AllReadyH.cons (by rfl) (fun K hK => ?_) AllReadyH.nil
      obtain ⟨us, el', o1, o2, o3, o4⟩ := id OC
      have hul : us.length = k * 3 := o1.1
      have HO3 : Hid (∀ i', i' < k → ∀ j, j < 3 → us[i' * 3 + j]? = some (el' i' j)) := o3
      have HO4 : Hid (∀ i', i' < k → RepQ Wu1 (.agg #[el' i' 0, el' i' 1, el' i' 2]) ((fun i => co n q1 i * s) i')) := o4
      have hPO : Hid (∀ g0, Value.ownBlock (.slice ac_ k cc_) = some g0 → PureB IsNum Wu1 g0) := o2
      have hOb : Hid (∀ g0, Value.ownBlock (.slice ac_ k cc_) = some g0 → W1.heap.size ≤ g0) := fun g0 hg0 => (o1.lt g0 hg0).1
      clear o2 o3 o4
      have hWb9 : W1.heap.size ≤ Wu1.heap.size := BB.size
      refine step_append_pure (Q' := IsNum) (by rfl) _ _ _ (by rfl) W1.heap.size 28 (.agg #[.bool false, .slice none 0 0, .slice none 0 0]) 3 56 Tryz.underlying22 info_wrat (by rfl) (by omega) (.slice ac_ k cc_) (by rfl) k us o1 hPO.out ⟨RB6, 0, none⟩ 1 (by rfl) [.bool p3, .slice a3 n3 c3, .slice bo3 m3 d3] rfl (news_v3 VB6) (by simp [Value.oneCell']) (by simp [num_slice, num_bool]) (by simp [Value.cells, num_slice, num_bool]) (by omega) (by omega) hWb9 ?_
      intro gc capc wc ho5 hg5 hat5 hp5 hk5
      have X_n : FOwn W1.heap.size wc (.slice (some ⟨gc, 0, none⟩) (k + 1) capc) (k + 1) (fun i => co n q1 i * s) := FOwn.more ho5 hp5 hul HO3.out HO4.out hbq hk5
      have BB_n : Below W1.heap.size W1 wc := below_grownB BB hg5 hWb9 (fun g0 hg0 => hOb.out g0 hg0)
      have OS_n := OS.stay (x := .slice ac_ k cc_) hg5 hk5 A2
      have NOS := aside_new (m := k + 1) (c := capc) OS A2 hat5
      have OD_n := OD.stay (x := .slice ac_ k cc_) hg5 hk5 A3
      have NOD := aside_new (m := k + 1) (c := capc) OD A3 hat5
      clear OC OS OD
      have OS := OS_n
      clear OS_n
      have OD := OD_n
      clear OD_n
      replace A2 := NOS
      clear NOS
      replace A3 := NOD
      clear NOD
      have OC := X_n
      clear BB
      have BB := BB_n
      clear X_n BB_n o1 hPO HO3 HO4 hOb hul ho5 hg5 hat5 hp5 hk5 hbq VB6 hWb9
      refine hK.out _ _ trivial (fun _ => ?_)
      clear hK K
      simp only [Act.put, List.setIfInBounds_toArray, List.set_cons_zero, List.set_cons_succ]
      refine wpAnyH_ready (rs := [8]) (by kernel_rfl) (by simp) ?_
      refine AllReadyH.cons (by rfl) (fun K hK => ?_) AllReadyH.nil
      go_simp
      refine hK.out _ _ trivial (fun _ => ?_)
      clear hK K
      simp only [Act.put, List.setIfInBounds_toArray, List.set_cons_zero, List.set_cons_succ]
      refine wpAnyH_done (by kernel_rfl) ?_ _
      have HS1 : Hid (trimN (co n q1) (k + 1) = if co n q1 k = 0 then trimN (co n q1) k else k + 1) := rfl
      cases sm with
      | false =>
        go_wp2_with fail
        have HF : Hid (false = decide (∀ i, i < k + 1 → co n q1 i = co m q2 i)) := by
          have h := HSM.out
          refine (decide_eq_false (fun h2 => ?_)).symm
          exact absurd (decide_eq_true (fun i hi => h2 i (by omega) : ∀ i, i < k → co n q1 i = co m q2 i)) (by rw [← h]; decide)
        refine (at4_at _ n k q1 2 _ (QA0.below BB) (by omega) (by omega) (by omega)).mono ?_
        rintro e w7 ⟨x1, rfl, G1, b7⟩
        replace OS := OS.below b7
        replace OD := OD.below b7
        replace OC := OC.below b7
        replace BB := BB.trans (b7.mono BB.size)
        clear b7
        go_wp2_with fail
        refine (qsign_at _ (co n q1 k) 2 _ G1 (by omega) (by omega)).mono ?_
        rintro e w8 ⟨rfl, b8⟩
        replace OS := OS.below b8
        replace OD := OD.below b8
        replace OC := OC.below b8
        replace G1 := G1.below b8
        replace BB := BB.trans (b8.mono BB.size)
        clear b8
        clear G1
        by_cases hz : co n q1 k = 0
        · have e1 : (cmpQ (co n q1 k) 0 == 0) = true := by rw [cmpQ_nil]; exact decide_eq_true hz
          have e2 : (cmpQ (co n q1 k) 0 != 0) = false := by rw [bne, e1]; rfl
          have e3 : cmpQ (co n q1 k) 0 = 0 := by simpa using e1
          have HD2 : Hid (dg = (trimN (co n q1) (k + 1) : Int) - 1) := by rw [Hid, HS1.out, if_pos hz]; exact HDG.out
          clear hz e1
          generalize cmpQ (co n q1 k) 0 = CQ at *
          go_wp2
          go_roundw
          case rel => exact ⟨k + 1, false, dg, by omega, by go_num, rfl, rfl, by omega, by omega, HF, HD2, OS, OD, OC, A1, A2, A3, BB⟩
          case measure => simp [intOf]; omega
        · have e1 : (cmpQ (co n q1 k) 0 == 0) = false := by rw [cmpQ_nil]; exact decide_eq_false hz
          have e2 : (cmpQ (co n q1 k) 0 != 0) = true := by rw [bne, e1]; rfl
          have e3 : ¬ cmpQ (co n q1 k) 0 = 0 := by simpa using e1
          have HD2 : Hid ((k : Int) = (trimN (co n q1) (k + 1) : Int) - 1) := by rw [Hid, HS1.out, if_neg hz]; omega
          clear hz e1
          generalize cmpQ (co n q1 k) 0 = CQ at *
          go_wp2
          go_roundw
          case rel => exact ⟨k + 1, false, (k : Int), by omega, by go_num, rfl, rfl, by omega, by omega, HF, HD2, OS, OD, OC, A1, A2, A3, BB⟩
          case measure => simp [intOf]; omega
      | true =>
        go_wp2_with fail
        refine (at4_at _ n k q1 2 _ (QA0.below BB) (by omega) (by omega) (by omega)).mono ?_
        rintro e w7 ⟨x1, rfl, G1, b7⟩
        replace OS := OS.below b7
        replace OD := OD.below b7
        replace OC := OC.below b7
        replace BB := BB.trans (b7.mono BB.size)
        clear b7
        go_wp2_with fail
        refine (at4_at _ m k q2 2 _ (QB0.below BB) (by omega) (by omega) (by omega)).mono ?_
        rintro e w8 ⟨x2, rfl, G2, b8⟩
        replace OS := OS.below b8
        replace OD := OD.below b8
        replace OC := OC.below b8
        replace G1 := G1.below b8
        replace BB := BB.trans (b8.mono BB.size)
        clear b8
        go_wp2_with fail
        refine (qsame_at _ _ (co n q1 k) (co m q2 k) 2 _ G1 G2 (by omega) (by omega)).mono ?_
        rintro e w9 ⟨rfl, b9⟩
        replace OS := OS.below b9
        replace OD := OD.below b9
        replace OC := OC.below b9
        replace G1 := G1.below b9
        replace G2 := G2.below b9
        replace BB := BB.trans (b9.mono BB.size)
        clear b9
        have HF : Hid (decide (co n q1 k = co m q2 k) = decide (∀ i, i < k + 1 → co n q1 i = co m q2 i)) := by
          have h := of_decide_eq_true HSM.out.symm
          refine decide_eq_decide.2 ⟨fun h2 i hi => ?_, fun h2 => h2 k (by omega)⟩
          by_cases e : i = k
          · subst e; exact h2
          · exact h i (by omega)
        generalize decide (co n q1 k = co m q2 k) = SB at *
        go_wp2_with fail
        clear G1 G2
        refine (at4_at _ n k q1 2 _ (QA0.below BB) (by omega) (by omega) (by omega)).mono ?_
        rintro e w10 ⟨x1, rfl, G1, b10⟩
        replace OS := OS.below b10
        replace OD := OD.below b10
        replace OC := OC.below b10
        replace BB := BB.trans (b10.mono BB.size)
        clear b10
        go_wp2_with fail
        refine (qsign_at _ (co n q1 k) 2 _ G1 (by omega) (by omega)).mono ?_
        rintro e w11 ⟨rfl, b11⟩
        replace OS := OS.below b11
        replace OD := OD.below b11
        replace OC := OC.below b11
        replace G1 := G1.below b11
        replace BB := BB.trans (b11.mono BB.size)
        clear b11
        clear G1
        by_cases hz : co n q1 k = 0
        · have e1 : (cmpQ (co n q1 k) 0 == 0) = true := by rw [cmpQ_nil]; exact decide_eq_true hz
          have e2 : (cmpQ (co n q1 k) 0 != 0) = false := by rw [bne, e1]; rfl
          have e3 : cmpQ (co n q1 k) 0 = 0 := by simpa using e1
          have HD2 : Hid (dg = (trimN (co n q1) (k + 1) : Int) - 1) := by rw [Hid, HS1.out, if_pos hz]; exact HDG.out
          clear hz e1
          generalize cmpQ (co n q1 k) 0 = CQ at *
          go_wp2
          go_roundw
          case rel => exact ⟨k + 1, SB, dg, by omega, by go_num, rfl, rfl, by omega, by omega, HF, HD2, OS, OD, OC, A1, A2, A3, BB⟩
          case measure => simp [intOf]; omega
        · have e1 : (cmpQ (co n q1 k) 0 == 0) = false := by rw [cmpQ_nil]; exact decide_eq_false hz
          have e2 : (cmpQ (co n q1 k) 0 != 0) = true := by rw [bne, e1]; rfl
          have e3 : ¬ cmpQ (co n q1 k) 0 = 0 := by simpa using e1
          have HD2 : Hid ((k : Int) = (trimN (co n q1) (k + 1) : Int) - 1) := by rw [Hid, HS1.out, if_neg hz]; omega
          clear hz e1
          generalize cmpQ (co n q1 k) 0 = CQ at *
          go_wp2
          go_roundw
          case rel => exact ⟨k + 1, SB, (k : Int), by omega, by go_num, rfl, rfl, by omega, by omega, HF, HD2, OS, OD, OC, A1, A2, A3, BB⟩
          case measure => simp [intOf]; omega
    · obtain rfl : k = 8 := by omega
      have QA := QA0.below BB
      have QB := QB0.below BB
      have XS2 := XS.below BB
      have ht2 := ht.below BB
      replace VB := VB.below BB
      replace BB := HBB.out.trans (BB.mono HBB.out.size)
      have sA : ∀ i, i < n → qsz (q1 i) ≤ 2 := fun i hi => QA.sz (by omega) i hi
      have sB : ∀ i, i < m → qsz (q2 i) ≤ 2 := fun i hi => QB.sz (by omega) i hi
      have sS := XS2.qsz (by omega)
      have tA := trimN_le q1 n
      have cA : ∀ i, qsz (co n q1 i) ≤ 2 := fun i => co_sz sA (by omega) i
      have cB : ∀ i, qsz (co m q2 i) ≤ 2 := fun i => co_sz sB (by omega) i
      have zS : ∀ i, max n m ≤ i → (fun i => co n q1 i + co m q2 i) i = 0 := fun i hi => by show co n q1 i + co m q2 i = 0; rw [co_beyond n q1 i (by omega), co_beyond m q2 i (by omega)]; grind
      have zD : ∀ i, max n m ≤ i → (fun i => co n q1 i - co m q2 i) i = 0 := fun i hi => by show co n q1 i - co m q2 i = 0; rw [co_beyond n q1 i (by omega), co_beyond m q2 i (by omega)]; grind
      go_wp2_with fail
      refine (pclean_at _ n q1 2 _ QA ht2 (by omega) (by omega) (by omega)).mono ?_
      rintro e w1 ⟨rc, rfl, FC, b1⟩
      replace QA := QA.below b1
      replace QB := QB.below b1
      replace XS2 := XS2.below b1
      replace ht2 := ht2.below b1
      replace OS := OS.below b1
      replace OD := OD.below b1
      replace OC := OC.below b1
      replace VB := VB.below b1
      replace BB := BB.trans (b1.mono BB.size)
      clear b1
      go_wp2_with fail
      refine (is4_at _ _ _ n q1 q1 2 _ FC.1 QA (fun i hi => sA i (by omega)) ht2 (by omega) (by omega) (by omega) (by omega) (trimN_top q1 n) (co_trim q1 n)).mono ?_
      rintro e w2 ⟨rfl, b2⟩
      replace QA := QA.below b2
      replace QB := QB.below b2
      replace XS2 := XS2.below b2
      replace ht2 := ht2.below b2
      replace OS := OS.below b2
      replace OD := OD.below b2
      replace OC := OC.below b2
      replace FC := FC.below b2
      replace VB := VB.below b2
      replace BB := BB.trans (b2.mono BB.size)
      clear b2
      go_wp2_with fail
      clear FC
      refine (pdegree_at _ n q1 2 _ QA (by omega) (by omega) (by omega)).mono ?_
      rintro e w3 ⟨rfl, b3⟩
      replace QA := QA.below b3
      replace QB := QB.below b3
      replace XS2 := XS2.below b3
      replace ht2 := ht2.below b3
      replace OS := OS.below b3
      replace OD := OD.below b3
      replace OC := OC.below b3
      replace VB := VB.below b3
      replace BB := BB.trans (b3.mono BB.size)
      clear b3
      have hdq : dg = (trimN q1 n : Int) - 1 := by rw [HDG.out, trimN_co n q1 8 hn8]
      subst hdq
      clear HDG
      go_wp2_with fail
      refine (padd_at _ _ n m q1 q2 2 _ QA QB ht2 (by omega) (by omega) (by omega) (by omega)).mono ?_
      rintro e w4 ⟨rs, rfl, FS, b4⟩
      replace QA := QA.below b4
      replace QB := QB.below b4
      replace XS2 := XS2.below b4
      replace ht2 := ht2.below b4
      replace OS := OS.below b4
      replace OD := OD.below b4
      replace OC := OC.below b4
      replace VB := VB.below b4
      replace BB := BB.trans (b4.mono BB.size)
      clear b4
      go_wp2_with fail
      refine (is4_at _ _ _ 8 (fun i => co n q1 i + co m q2 i) (fun i => co n q1 i + co m q2 i) 5 _ FS.1 (OS.row.q 5 (fun i _ => qsz_add _ _ (cA i) (cB i))) (fun i _ => qsz_add _ _ (cA i) (cB i)) ht2 (by have := trimN_le (fun i => co n q1 i + co m q2 i) (max n m); omega) (by omega) (by omega) (by omega) (trimN_top _ _) (co_list (max n m) 8 _ (by omega) zS)).mono ?_
      rintro e w5 ⟨rfl, b5⟩
      replace QA := QA.below b5
      replace QB := QB.below b5
      replace XS2 := XS2.below b5
      replace ht2 := ht2.below b5
      replace OS := OS.below b5
      replace OD := OD.below b5
      replace OC := OC.below b5
      replace FS := FS.below b5
      replace VB := VB.below b5
      replace BB := BB.trans (b5.mono BB.size)
      clear b5
      go_wp2_with fail
      clear FS
      refine (psub_at _ _ n m q1 q2 2 _ QA QB ht2 (by omega) (by omega) (by omega) (by omega)).mono ?_
      rintro e w6 ⟨rd, rfl, FD, b6⟩
      replace QA := QA.below b6
      replace QB := QB.below b6
      replace XS2 := XS2.below b6
      replace ht2 := ht2.below b6
      replace OS := OS.below b6
      replace OD := OD.below b6
      replace OC := OC.below b6
      replace VB := VB.below b6
      replace BB := BB.trans (b6.mono BB.size)
      clear b6
      go_wp2_with fail
      refine (is4_at _ _ _ 8 (fun i => co n q1 i - co m q2 i) (fun i => co n q1 i - co m q2 i) 5 _ FD.1 (OD.row.q 5 (fun i _ => qsz_sub _ _ (cA i) (cB i))) (fun i _ => qsz_sub _ _ (cA i) (cB i)) ht2 (by have := trimN_le (fun i => co n q1 i - co m q2 i) (max n m); omega) (by omega) (by omega) (by omega) (trimN_top _ _) (co_list (max n m) 8 _ (by omega) zD)).mono ?_
      rintro e w7 ⟨rfl, b7⟩
      replace QA := QA.below b7
      replace QB := QB.below b7
      replace XS2 := XS2.below b7
      replace ht2 := ht2.below b7
      replace OS := OS.below b7
      replace OD := OD.below b7
      replace OC := OC.below b7
      replace FD := FD.below b7
      replace VB := VB.below b7
      replace BB := BB.trans (b7.mono BB.size)
      clear b7
      obtain ⟨VB_0, VB_1, VB_2, VB_3, VB_4, VB_5⟩ := id VB
      go_wp2_with fail
      clear VB_0 VB_1 VB_2 VB_3 VB_4 VB_5
      clear FD
      refine (pscale_at _ _ n q1 s 2 _ QA XS2 ht2 (by omega) (by omega) (by omega)).mono ?_
      rintro e w8 ⟨rk, rfl, FK, b8⟩
      replace QA := QA.below b8
      replace QB := QB.below b8
      replace XS2 := XS2.below b8
      replace ht2 := ht2.below b8
      replace OS := OS.below b8
      replace OD := OD.below b8
      replace OC := OC.below b8
      replace VB := VB.below b8
      replace BB := BB.trans (b8.mono BB.size)
      clear b8
      go_wp2_with fail
      refine (is4_at _ _ _ 8 (fun i => q1 i * s) (fun i => co n q1 i * s) 5 _ FK.1 (OC.row.q 5 (fun i _ => Nat.le_trans (qsz_mul _ _ (cA i) sS) (by omega))) (fun i hi => Nat.le_trans (qsz_mul _ _ (sA i (by have := trimN_le (fun i => q1 i * s) n; omega)) sS) (by omega)) ht2 (by have := trimN_le (fun i => q1 i * s) n; omega) (by omega) (by omega) (by omega) (trimN_top _ _) (co_scale n 8 q1 s hn8)).mono ?_
      rintro e w9 ⟨rfl, b9⟩
      replace QA := QA.below b9
      replace QB := QB.below b9
      replace XS2 := XS2.below b9
      replace ht2 := ht2.below b9
      replace OS := OS.below b9
      replace OD := OD.below b9
      replace OC := OC.below b9
      replace FK := FK.below b9
      replace VB := VB.below b9
      replace BB := BB.trans (b9.mono BB.size)
      clear b9
      go_wp2_with fail
      clear FK
      refine (psame_at _ _ n m q1 q2 2 _ QA QB (by omega) (by omega) (by omega) (by omega)).mono ?_
      rintro e w10 ⟨rfl, b10⟩
      replace QA := QA.below b10
      replace QB := QB.below b10
      replace XS2 := XS2.below b10
      replace ht2 := ht2.below b10
      replace OS := OS.below b10
      replace OD := OD.below b10
      replace OC := OC.below b10
      replace VB := VB.below b10
      replace BB := BB.trans (b10.mono BB.size)
      clear b10
      rw [same_co hn8 hm8, ← HSM.out]
      go_wp2_with fail
      refine (awake4_at _ ht2).mono ?_
      rintro e w11 ⟨rfl, b11⟩
      replace QA := QA.below b11
      replace QB := QB.below b11
      replace XS2 := XS2.below b11
      replace ht2 := ht2.below b11
      replace OS := OS.below b11
      replace OD := OD.below b11
      replace OC := OC.below b11
      replace VB := VB.below b11
      replace BB := BB.trans (b11.mono BB.size)
      clear b11
      go_wp2
      go_ret
      exact ⟨rfl, BB⟩

theorem own : ownKnob Tryz.prog.godebug = none := by kernel_rfl
theorem laidOut : laidOutB Tryz.prog = true := by kernel_rfl

abbrev laid1 : List (String × DataW Unit) := [("math/bits.deBruijn64tab", Rows.laid_math_bits_deBruijn64tab)]
theorem gTab : Tryz.prog.globalNamed "math/bits.deBruijn64tab" = some 0 := by kernel_rfl
theorem gTabType : (Tryz.prog.globals[0]?).map (·.type) = some 135 := by kernel_rfl
theorem uTab : Tryz.prog.underlying 135 = some (.array 64 5) := by kernel_rfl
theorem uCell : Tryz.prog.underlying 5 = some (.int .u8) := by kernel_rfl
theorem cCell : Tryz.prog.cellsOf 5 = 1 := by kernel_rfl
theorem cTab : Tryz.prog.cellsOf 135 = 64 := by kernel_rfl
/-- The listed table lies in its cells. -/
theorem tab_of {W : World} (h : laidMetH Tryz.prog laid1 W) : Tab W := by
  rw [MakeChecks.laidMetH_plain _ _ _ (by kernel_rfl)] at h
  have hd : laid1 = [("math/bits.deBruijn64tab", Lib.tabData .u8 (Lib.deBruijn64tab.map fun (n : Nat) => Int.ofNat n))] := rfl
  rw [hd] at h
  have hT := Lib.tabIs_of_head gTab gTabType uTab uCell cCell cTab h
  intro i hi
  have hc := hT.cell gTab i (by rw [List.length_map]; exact hi)
  rw [hc]
  congr 2
  rw [List.getD_eq_getElem?_getD, List.getElem?_map, List.getD_eq_getElem?_getD]
  cases Lib.deBruijn64tab[i]? <;> rfl
/-- A start for the witness: the heap that the run of the program's own initialisers leaves. -/
noncomputable def startW (os : Os) : World := { World.holding Tryz.prog os ⟨#[], #[], []⟩ with heap := (varsWorld Tryz.prog 400 (varsId Tryz.prog) os (fun _ _ => 0)).heap }
theorem start_met (os : Os) (args : Array Value) : laidMetH Tryz.prog laid1 ((startW os).forCall (fun _ _ => 0) ⟨#[], args, []⟩).memory :=
  laidMetH_of_parts3 (fuel := 8) (laidMet_of_run' 8 (by kernel_rfl) (by kernel_rfl)) (by kernel_rfl) (by kernel_rfl)

set_option maxRecDepth 100000 in
theorem lifted (os : Os) (started : os.Started) (H : Type) (enc : TypeId × Value → H) :
    ReturnsInHanded {} Tryz.checked os 3 .any (fun w args => (Rows.polySumsSpec.pre enc Tryz.prog Tryz.f3 [] false w args ∧ laidMetH Tryz.prog laid1 w) ∧ sizedMet enc Tryz.prog Tryz.f3 (OpenSpec.ofChange Rows.polySumsSpec) false w args) (Rows.polySumsSpec.post enc Tryz.prog Tryz.f3 false true false false) := by
  refine returnsInHanded_of_change_and (C := Tryz.checked) (X := fun w _ => laidMetH Tryz.prog laid1 w) (fun _ _ _ hh h => h.of_heap hh) own started (by kernel_rfl) Tryz.func3
    (ChangeSpec.witness_shaped (enc := enc) (C := Tryz.checked) (os := os) (X := fun w _ => laidMetH Tryz.prog laid1 w) false (startW os) #[.slice none 0 0, .slice none 0 0, .agg #[.bool false, .slice none 0 0, .slice none 0 0]] 8 rfl (World.shaped_of_RefB (by kernel_rfl) (by kernel_rfl)) (by kernel_rfl) (by kernel_rfl) (by kernel_rfl) (start_met os _)) ?_
  intro W base args ds gs before hval0 hW _ _ hL _
  have hval : ∀ (j : Nat) t v, Tryz.f3.params[j]? = some t → args[j]? = some v → Value.okWide Tryz.prog W .any base t v := hval0
  have hW' := hW
  obtain ⟨p, q, hA0, hV, rfl, hfz, hnd⟩ := hW
  have hA : DataW.TrodAll enc Tryz.prog W 0 (fun _ => true) true Tryz.f3.params.toList args.toList ds p := hA0
  rw [Tryz.params3] at hA hval
  obtain ⟨v0, vs0, d0, ds0, p0, q0, hargs, rfl, rfl, h0, r0⟩ := trodAll_cons hA
  obtain ⟨v1, vs1, d1, ds1, p1, q1, rfl, rfl, rfl, h1, r1⟩ := trodAll_cons r0
  obtain ⟨v2, vs2, d2, ds2, p2, q2, rfl, rfl, rfl, h2, r2⟩ := trodAll_cons r1
  obtain ⟨rfl, rfl, rfl⟩ := trodAll_nil r2
  obtain rfl : args = #[v0, v1, v2] := by cases args; simp_all
  obtain ⟨rfl, rfl⟩ := trodVars_none hV
  have k0 := h0
  have lt0 : ∀ x ∈ p0, x.block < W.heap.size := by obtain ⟨m, hm⟩ := k0; exact DataW.trod_lt m _ _ _ hm
  obtain ⟨n0, z0, w0⟩ := open_wrats KLIST (hval 0 22 v0 rfl rfl) h0
  have k1 := h1
  have lt1 : ∀ x ∈ p1, x.block < W.heap.size := by obtain ⟨m, hm⟩ := k1; exact DataW.trod_lt m _ _ _ hm
  obtain ⟨n1, z1, w1⟩ := open_wrats KLIST (hval 1 22 v1 rfl rfl) h1
  have k2 := h2
  have lt2 : ∀ x ∈ p2, x.block < W.heap.size := by obtain ⟨m, hm⟩ := k2; exact DataW.trod_lt m _ _ _ hm
  obtain ⟨neg2, ao2, n2, c2, bo2, m2, d2, f2, g2, rfl, w2, x2⟩ := open_wrat (hval 2 28 v2 rfl rfl) h2
  clear hA0 hval0
  refine (walk _ _ _ _ _ _ _ _ _ _ _ _ _ _ _ W w0 w1 w2 x2 (tab_of hL)).mono fun e W' ⟨he, bel⟩ => ?_
  subst he
  exact ⟨_, rfl, _, _, _, [], _, [], hW', trodAll_mk1 (shut_bool Tryz.underlying4 _), (trodAll_cons_mk (Below.trod laidOut (by kernel_rfl) (of_decide_eq_true (by kernel_rfl)) k0 bel lt0) (trodAll_cons_mk (Below.trod laidOut (by kernel_rfl) (of_decide_eq_true (by kernel_rfl)) k1 bel lt1) (trodAll_cons_mk (Below.trod laidOut (by kernel_rfl) (of_decide_eq_true (by kernel_rfl)) k2 bel lt2) trodAll_mk0))), rfl, bel.frame _, fun h => by cases h⟩

theorem over : Rows.polySumsRow.holds Tryz.pinned (OpenSpec.ofChange Rows.polySumsSpec) :=
  OpenClaim.holds_of_wide 3 Tryz.f3 rfl rfl rfl rfl rfl rfl rfl ⟨rfl, rfl, rfl, rfl, rfl⟩ rfl rfl rfl rfl rfl (by kernel_rfl) Tryz.func3 (by kernel_rfl)
    (of_decide_eq_true (by kernel_rfl)) (by unfold Func.isWrapper; first | (rw [if_pos (by decide +kernel)]; kernel_rfl) | (rw [if_neg (by decide +kernel)]; exact ⟨rfl, rfl⟩))
    (fun os started H enc _ => lifted os started H enc)

end Go.Proofs.YtnidadaofgmplaaGreatDoor.polySums
namespace Go.Proofs.YtnidadaofgmplaaGreatDoor
/-- The statement: the row, tied to the text of the program. -/
theorem polySums_holds : Rows.PolySumsCardSaid :=
  Claim7.holds_tied_plain_at .later [] [.data] true (true, "0cfe95d4fadc5bca50ac3cff0bd48b6ce193538a916b09b42f72aaaec3f612ed") false
    polySums.over (fun _ h => by cases h) (by kernel_rfl) (fun _ h => by cases h) polySums_row_tie rfl ⟨rfl, rfl⟩ (by kernel_rfl) rfl
    (fun f fn hf hfn => by
      obtain rfl : f = 3 := Option.some.inj ((show Tryz.prog.funcNamed "dendron/dendronlaw04.PolySums" = some 3 by kernel_rfl).symm.trans hf) |>.symm
      obtain rfl : fn = Tryz.f3 := (Option.some.inj (Tryz.func3.symm.trans hfn)).symm
      exact ⟨by kernel_rfl, fun j t ht => by
        rw [Tryz.params3] at ht
        have hm : t ∈ [22, 22, 28] := by simpa using Array.mem_of_getElem? ht
        have hall : ([22, 22, 28].all fun u => !Tryz.prog.wantsStandIn u) = true := by kernel_rfl
        exact (show Tryz.prog.wantsStandIn t = false by simpa using List.all_eq_true.1 hall t hm)⟩)
    (by kernel_rfl)
end Go.Proofs.YtnidadaofgmplaaGreatDoor
