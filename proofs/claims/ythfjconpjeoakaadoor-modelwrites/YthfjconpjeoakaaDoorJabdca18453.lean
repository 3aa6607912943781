/-
  Texts of mine.
-/
import Derived.Test.YthfjconpjeoakaaDoorJd0d5574d42
import Derived.Test.YthfjconpjeoakaaDoorJ6b7aed9c3c
import Derived.Test.YthfjconpjeoakaaDoorJ17c60280fb
import Derived.Test.YthfjconpjeoakaaDoorJb8143f06d2
import Derived.Test.YthfjconpjeoakaaDoorJce21b076bd
namespace Go.Proofs.YthfjconpjeoakaaDoor
open Go.RowKit
set_option linter.unusedVariables false
set_option linter.unusedSimpArgs false

/-- A count as text. -/
def ktxt (z : Int) : ByteArray := ⟨(Lib.decDigits z.toNat).toArray⟩
def sideT (b : Bool) : ByteArray := if b = true then { data := #[109, 105, 115, 115, 45, 108, 101, 102, 116] } else { data := #[109, 105, 115, 115, 45, 114, 105, 103, 104, 116] }
/-- A node's words. -/
def nwL (d : Nd) : List ByteArray := if d.leaf = true then [{ data := #[108, 101, 97, 102] }, qtxt d.val, qtxt d.cov] else [{ data := #[115, 112, 108, 105, 116] }, ktxt d.feat, qtxt d.cut, ktxt d.left, ktxt d.right, sideT d.miss, qtxt d.cov]
def nwF (d : Nd) (i : Nat) : ByteArray := (nwL d).getD i ByteArray.empty


set_option maxRecDepth 100000 in
set_option maxHeartbeats 4000000 in
theorem nwords_at (d : Nd) (p1 p2 p3 : Bool) (a1 b1 a2 b2 a3 b3 : Option Addr) (n1 c1 m1 d1 n2 c2 m2 d2 n3 c3 m3 d3 : Nat) (L : Nat) (w : World) (hu : RatAt w (.agg #[.bool p1, .slice a1 n1 c1, .slice b1 m1 d1]) d.cut L) (hv : RatAt w (.agg #[.bool p2, .slice a2 n2 c2, .slice b2 m2 d2]) d.val L) (hc : RatAt w (.agg #[.bool p3, .slice a3 n3 c3, .slice b3 m3 d3]) d.cov L) (hi : 0 ≤ d.feat ∧ d.feat ≤ 64 ∧ 0 ≤ d.left ∧ d.left ≤ 255 ∧ 0 ≤ d.right ∧ d.right ≤ 255) (h1 : 1 ≤ L) (hM : L ≤ 9000) (ht : Tab w) (hp : Pow w) :
    Calls Tryd.prog 17 #[.agg #[.bool d.leaf, .int .i64 d.feat, .bool p1, .slice a1 n1 c1, .slice b1 m1 d1, .int .i64 d.left, .int .i64 d.right, .bool d.miss, .bool p2, .slice a2 n2 c2, .slice b2 m2 d2, .bool p3, .slice a3 n3 c3, .slice b3 m3 d3]] w fun e w' => ∃ g, e = .returned (.slice (some ⟨g, 0, none⟩) (nwL d).length (nwL d).length) ∧ StrC w' g (nwL d).length (nwF d) ∧ Below w.heap.size w w' := by
  rcases d with ⟨lf, ft, q, ll, rr0, ms, vl, cv⟩
  dsimp only at hu hv hc hi ⊢
  cases lf
  · obtain ⟨i1, i2, i3, i4, i5, i6⟩ := hi
    obtain ⟨fn, rfl⟩ : ∃ fn : Nat, ft = (fn : Int) := ⟨ft.toNat, by omega⟩
    obtain ⟨lr, rfl⟩ : ∃ fn : Nat, ll = (fn : Int) := ⟨ll.toNat, by omega⟩
    obtain ⟨rr, rfl⟩ : ∃ fn : Nat, rr0 = (fn : Int) := ⟨rr0.toNat, by omega⟩
    have j1 : fn ≤ 64 := by omega
    have j2 : lr ≤ 255 := by omega
    have j3 : rr ≤ 255 := by omega
    clear i1 i2 i3 i4 i5 i6
    cases ms
    · have BB : Below w.heap.size w w := Below.refl _ _
      obtain ⟨W0, hW0, hS0, hL0, VN, FN⟩ := V14.lay w 41 (.bool false) (.int .i64 (fn : Int)) (.bool p1) (.slice a1 n1 c1) (.slice b1 m1 d1) (.int .i64 (lr : Int)) (.int .i64 (rr : Int)) (.bool false) (.bool p2) (.slice a2 n2 c2) (.slice b2 m2 d2) (.bool p3) (.slice a3 n3 c3) (.slice b3 m3 d3)
      replace hu := hu.below hL0
      replace hv := hv.below hL0
      replace hc := hc.below hL0
      replace ht := ht.below hL0
      replace hp := hp.below hL0
      replace BB := BB.trans (hL0.mono BB.size)
      clear hL0
      obtain ⟨V_0, V_1, V_2, V_3, V_4, V_5, V_6, V_7, V_8, V_9, V_10, V_11, V_12, V_13⟩ := id VN
      rw [hW0] at V_0 V_1 V_2 V_3 V_4 V_5 V_6 V_7 V_8 V_9 V_10 V_11 V_12 V_13
      go_enter Tryd.func17, Tryd.ntmps17
      go_wp2_with fail
      clear V_0 V_1 V_2 V_3 V_4 V_5 V_6 V_7 V_8 V_9 V_10 V_11 V_12 V_13
      rw [← hW0]
      clear hW0 hS0 FN
      refine (qprint_at _ cv L _ hc h1 hM ht).mono ?_
      rintro e w1 ⟨rfl, b1⟩
      replace hu := hu.below b1
      replace hv := hv.below b1
      replace ht := ht.below b1
      replace hp := hp.below b1
      replace VN := VN.below b1
      replace BB := BB.trans (b1.mono BB.size)
      clear b1 hc
      obtain ⟨tc, htc⟩ : ∃ x, qtxt cv = x := ⟨_, rfl⟩
      rw [htc]
      obtain ⟨V_0, V_1, V_2, V_3, V_4, V_5, V_6, V_7, V_8, V_9, V_10, V_11, V_12, V_13⟩ := id VN
      go_wp2_with fail
      clear V_0 V_1 V_2 V_3 V_4 V_5 V_6 V_7 V_8 V_9 V_10 V_11 V_12 V_13
      refine wp_region_until 14 #[true, true, true, true, true, true, true, true, true, true, true, true, true, true, false, false] (fun aF lsd a' w' => ∃ vu0 vu1 vu2 vu3 vu4 vu5 vu6 vu7 vu8 vu9 vu10 vu11 vu12 vu13 : Value, a' = (((((((((((((aF.put (some 17) vu0).put (some 18) vu1).put (some 19) vu2).put (some 20) vu3).put (some 21) vu4).put (some 22) vu5).put (some 23) vu6).put (some 24) vu7).put (some 25) vu8).put (some 26) vu9).put (some 27) vu10).put (some 28) vu11).put (some 29) vu12).put (some 30) vu13 ∧ Below w1.heap.size w1 w' ∧ (lsd.getD 0 false = true → vu0 = .pointer (some ⟨w.heap.size, 1, none⟩)) ∧ (lsd.getD 1 false = true → vu1 = .int .i64 (fn : Int)) ∧ (lsd.getD 2 false = true → vu2 = .string ⟨(Lib.decDigits fn).toArray⟩) ∧ (lsd.getD 3 false = true → vu3 = .pointer (some ⟨w.heap.size, 2, none⟩)) ∧ (lsd.getD 4 false = true → vu4 = .agg #[.bool p1, .slice a1 n1 c1, .slice b1 m1 d1]) ∧ (lsd.getD 5 false = true → vu5 = .string (qtxt q)) ∧ (lsd.getD 6 false = true → vu6 = .pointer (some ⟨w.heap.size, 5, none⟩)) ∧ (lsd.getD 7 false = true → vu7 = .int .i64 (lr : Int)) ∧ (lsd.getD 8 false = true → vu8 = .string ⟨(Lib.decDigits lr).toArray⟩) ∧ (lsd.getD 9 false = true → vu9 = .pointer (some ⟨w.heap.size, 6, none⟩)) ∧ (lsd.getD 10 false = true → vu10 = .int .i64 (rr : Int)) ∧ (lsd.getD 11 false = true → vu11 = .string ⟨(Lib.decDigits rr).toArray⟩) ∧ (lsd.getD 12 false = true → vu12 = .string { data := #[109, 105, 115, 115, 45, 114, 105, 103, 104, 116] }) ∧ (lsd.getD 13 false = true → vu13 = .string tc)) (by kernel_rfl) (by decide) (by kernel_rfl) (by rfl) (by kernel_rfl) ?_ ?_ ?_
      · exact ⟨_, _, _, _, _, _, _, _, _, _, _, _, _, _, by simp only [Act.put, List.setIfInBounds_toArray, List.set_cons_zero, List.set_cons_succ]; rfl, (Below.refl _ _).drew, fun h => absurd h (fun h => mark_none h), fun h => absurd h (fun h => mark_none h), fun h => absurd h (fun h => mark_none h), fun h => absurd h (fun h => mark_none h), fun h => absurd h (fun h => mark_none h), fun h => absurd h (fun h => mark_none h), fun h => absurd h (fun h => mark_none h), fun h => absurd h (fun h => mark_none h), fun h => absurd h (fun h => mark_none h), fun h => absurd h (fun h => mark_none h), fun h => absurd h (fun h => mark_none h), fun h => absurd h (fun h => mark_none h), fun h => absurd h (fun h => mark_none h), fun h => absurd h (fun h => mark_none h)⟩
      · rintro lsd au wn iu hszu ⟨vu0, vu1, vu2, vu3, vu4, vu5, vu6, vu7, vu8, vu9, vu10, vu11, vu12, vu13, rfl, hbu, fu0, fu1, fu2, fu3, fu4, fu5, fu6, fu7, fu8, fu9, fu10, fu11, fu12, fu13⟩ himu hru
        rcases (show iu = 0 ∨ iu = 1 ∨ iu = 2 ∨ iu = 3 ∨ iu = 4 ∨ iu = 5 ∨ iu = 6 ∨ iu = 7 ∨ iu = 8 ∨ iu = 9 ∨ iu = 10 ∨ iu = 11 ∨ iu = 12 ∨ iu = 13 by omega) with rfl | rfl | rfl | rfl | rfl | rfl | rfl | rfl | rfl | rfl | rfl | rfl | rfl | rfl
        · refine wpOp_shut (by rfl) (fun K hK => ?_)
          simp only [Act.put, List.setIfInBounds_toArray, List.set_cons_zero, List.set_cons_succ]
          go_simp
          exact hK.out _ _ ⟨(.pointer (some ⟨w.heap.size, 1, none⟩)), vu1, vu2, vu3, vu4, vu5, vu6, vu7, vu8, vu9, vu10, vu11, vu12, vu13, by simp only [Act.put, List.setIfInBounds_toArray, List.set_cons_zero, List.set_cons_succ], hbu, fun _ => rfl, fun h => fu1 (mark_of (by decide) h), fun h => fu2 (mark_of (by decide) h), fun h => fu3 (mark_of (by decide) h), fun h => fu4 (mark_of (by decide) h), fun h => fu5 (mark_of (by decide) h), fun h => fu6 (mark_of (by decide) h), fun h => fu7 (mark_of (by decide) h), fun h => fu8 (mark_of (by decide) h), fun h => fu9 (mark_of (by decide) h), fun h => fu10 (mark_of (by decide) h), fun h => fu11 (mark_of (by decide) h), fun h => fu12 (mark_of (by decide) h), fun h => fu13 (mark_of (by decide) h)⟩
        · have eu0 := fu0 (dep_of 0 hru rfl (by kernel_rfl))
          replace eu0 := eu0.symm
          subst eu0
          refine wpOp_shut (by rfl) (fun K hK => ?_)
          simp only [Act.put, List.setIfInBounds_toArray, List.set_cons_zero, List.set_cons_succ]
          obtain ⟨V_0, V_1, V_2, V_3, V_4, V_5, V_6, V_7, V_8, V_9, V_10, V_11, V_12, V_13⟩ := VN.below hbu
          go_simp
          exact hK.out _ _ ⟨(.pointer (some ⟨w.heap.size, 1, none⟩)), (.int .i64 (fn : Int)), vu2, vu3, vu4, vu5, vu6, vu7, vu8, vu9, vu10, vu11, vu12, vu13, by simp only [Act.put, List.setIfInBounds_toArray, List.set_cons_zero, List.set_cons_succ], hbu, fun _ => rfl, fun _ => rfl, fun h => fu2 (mark_of (by decide) h), fun h => fu3 (mark_of (by decide) h), fun h => fu4 (mark_of (by decide) h), fun h => fu5 (mark_of (by decide) h), fun h => fu6 (mark_of (by decide) h), fun h => fu7 (mark_of (by decide) h), fun h => fu8 (mark_of (by decide) h), fun h => fu9 (mark_of (by decide) h), fun h => fu10 (mark_of (by decide) h), fun h => fu11 (mark_of (by decide) h), fun h => fu12 (mark_of (by decide) h), fun h => fu13 (mark_of (by decide) h)⟩
        · have eu1 := fu1 (dep_of 1 hru rfl (by kernel_rfl))
          replace eu1 := eu1.symm
          subst eu1
          refine wpOp_shut (by rfl) (fun K hK => ?_)
          simp only [Act.put, List.setIfInBounds_toArray, List.set_cons_zero, List.set_cons_succ]
          have hp := hp.below hbu
          go_simp
          refine (itoa_at fn wn (by omega) hp).mono ?_
          rintro eu wx ⟨rfl, bu⟩
          go_wp2_with fail
          have hbu2 := hbu.trans (bu.mono hbu.size)
          exact hK.out _ _ ⟨vu0, (.int .i64 (fn : Int)), (.string ⟨(Lib.decDigits fn).toArray⟩), vu3, vu4, vu5, vu6, vu7, vu8, vu9, vu10, vu11, vu12, vu13, by simp only [Act.put, List.setIfInBounds_toArray, List.set_cons_zero, List.set_cons_succ], hbu2, fun h => fu0 (mark_of (by decide) h), fun _ => rfl, fun _ => rfl, fun h => fu3 (mark_of (by decide) h), fun h => fu4 (mark_of (by decide) h), fun h => fu5 (mark_of (by decide) h), fun h => fu6 (mark_of (by decide) h), fun h => fu7 (mark_of (by decide) h), fun h => fu8 (mark_of (by decide) h), fun h => fu9 (mark_of (by decide) h), fun h => fu10 (mark_of (by decide) h), fun h => fu11 (mark_of (by decide) h), fun h => fu12 (mark_of (by decide) h), fun h => fu13 (mark_of (by decide) h)⟩
        · refine wpOp_shut (by rfl) (fun K hK => ?_)
          simp only [Act.put, List.setIfInBounds_toArray, List.set_cons_zero, List.set_cons_succ]
          go_simp
          exact hK.out _ _ ⟨vu0, vu1, vu2, (.pointer (some ⟨w.heap.size, 2, none⟩)), vu4, vu5, vu6, vu7, vu8, vu9, vu10, vu11, vu12, vu13, by simp only [Act.put, List.setIfInBounds_toArray, List.set_cons_zero, List.set_cons_succ], hbu, fun h => fu0 (mark_of (by decide) h), fun h => fu1 (mark_of (by decide) h), fun h => fu2 (mark_of (by decide) h), fun _ => rfl, fun h => fu4 (mark_of (by decide) h), fun h => fu5 (mark_of (by decide) h), fun h => fu6 (mark_of (by decide) h), fun h => fu7 (mark_of (by decide) h), fun h => fu8 (mark_of (by decide) h), fun h => fu9 (mark_of (by decide) h), fun h => fu10 (mark_of (by decide) h), fun h => fu11 (mark_of (by decide) h), fun h => fu12 (mark_of (by decide) h), fun h => fu13 (mark_of (by decide) h)⟩
        · have eu3 := fu3 (dep_of 3 hru rfl (by kernel_rfl))
          replace eu3 := eu3.symm
          subst eu3
          refine wpOp_shut (by rfl) (fun K hK => ?_)
          simp only [Act.put, List.setIfInBounds_toArray, List.set_cons_zero, List.set_cons_succ]
          obtain ⟨V_0, V_1, V_2, V_3, V_4, V_5, V_6, V_7, V_8, V_9, V_10, V_11, V_12, V_13⟩ := VN.below hbu
          go_simp
          exact hK.out _ _ ⟨vu0, vu1, vu2, (.pointer (some ⟨w.heap.size, 2, none⟩)), (.agg #[.bool p1, .slice a1 n1 c1, .slice b1 m1 d1]), vu5, vu6, vu7, vu8, vu9, vu10, vu11, vu12, vu13, by simp only [Act.put, List.setIfInBounds_toArray, List.set_cons_zero, List.set_cons_succ], hbu, fun h => fu0 (mark_of (by decide) h), fun h => fu1 (mark_of (by decide) h), fun h => fu2 (mark_of (by decide) h), fun _ => rfl, fun _ => rfl, fun h => fu5 (mark_of (by decide) h), fun h => fu6 (mark_of (by decide) h), fun h => fu7 (mark_of (by decide) h), fun h => fu8 (mark_of (by decide) h), fun h => fu9 (mark_of (by decide) h), fun h => fu10 (mark_of (by decide) h), fun h => fu11 (mark_of (by decide) h), fun h => fu12 (mark_of (by decide) h), fun h => fu13 (mark_of (by decide) h)⟩
        · have eu2 := fu2 (dep_of 2 hru rfl (by kernel_rfl))
          have eu4 := fu4 (dep_of 4 hru rfl (by kernel_rfl))
          replace eu2 := eu2.symm
          subst eu2
          replace eu4 := eu4.symm
          subst eu4
          refine wpOp_shut (by rfl) (fun K hK => ?_)
          simp only [Act.put, List.setIfInBounds_toArray, List.set_cons_zero, List.set_cons_succ]
          have hu := hu.below hbu
          have ht := ht.below hbu
          go_simp
          refine (qprint_at _ q L wn hu h1 hM ht).mono ?_
          rintro eu wx ⟨rfl, bu⟩
          go_wp2_with fail
          have hbu2 := hbu.trans (bu.mono hbu.size)
          exact hK.out _ _ ⟨vu0, vu1, (.string ⟨(Lib.decDigits fn).toArray⟩), vu3, (.agg #[.bool p1, .slice a1 n1 c1, .slice b1 m1 d1]), (.string (qtxt q)), vu6, vu7, vu8, vu9, vu10, vu11, vu12, vu13, by simp only [Act.put, List.setIfInBounds_toArray, List.set_cons_zero, List.set_cons_succ], hbu2, fun h => fu0 (mark_of (by decide) h), fun h => fu1 (mark_of (by decide) h), fun _ => rfl, fun h => fu3 (mark_of (by decide) h), fun _ => rfl, fun _ => rfl, fun h => fu6 (mark_of (by decide) h), fun h => fu7 (mark_of (by decide) h), fun h => fu8 (mark_of (by decide) h), fun h => fu9 (mark_of (by decide) h), fun h => fu10 (mark_of (by decide) h), fun h => fu11 (mark_of (by decide) h), fun h => fu12 (mark_of (by decide) h), fun h => fu13 (mark_of (by decide) h)⟩
        · refine wpOp_shut (by rfl) (fun K hK => ?_)
          simp only [Act.put, List.setIfInBounds_toArray, List.set_cons_zero, List.set_cons_succ]
          go_simp
          exact hK.out _ _ ⟨vu0, vu1, vu2, vu3, vu4, vu5, (.pointer (some ⟨w.heap.size, 5, none⟩)), vu7, vu8, vu9, vu10, vu11, vu12, vu13, by simp only [Act.put, List.setIfInBounds_toArray, List.set_cons_zero, List.set_cons_succ], hbu, fun h => fu0 (mark_of (by decide) h), fun h => fu1 (mark_of (by decide) h), fun h => fu2 (mark_of (by decide) h), fun h => fu3 (mark_of (by decide) h), fun h => fu4 (mark_of (by decide) h), fun h => fu5 (mark_of (by decide) h), fun _ => rfl, fun h => fu7 (mark_of (by decide) h), fun h => fu8 (mark_of (by decide) h), fun h => fu9 (mark_of (by decide) h), fun h => fu10 (mark_of (by decide) h), fun h => fu11 (mark_of (by decide) h), fun h => fu12 (mark_of (by decide) h), fun h => fu13 (mark_of (by decide) h)⟩
        · have eu6 := fu6 (dep_of 6 hru rfl (by kernel_rfl))
          replace eu6 := eu6.symm
          subst eu6
          refine wpOp_shut (by rfl) (fun K hK => ?_)
          simp only [Act.put, List.setIfInBounds_toArray, List.set_cons_zero, List.set_cons_succ]
          obtain ⟨V_0, V_1, V_2, V_3, V_4, V_5, V_6, V_7, V_8, V_9, V_10, V_11, V_12, V_13⟩ := VN.below hbu
          go_simp
          exact hK.out _ _ ⟨vu0, vu1, vu2, vu3, vu4, vu5, (.pointer (some ⟨w.heap.size, 5, none⟩)), (.int .i64 (lr : Int)), vu8, vu9, vu10, vu11, vu12, vu13, by simp only [Act.put, List.setIfInBounds_toArray, List.set_cons_zero, List.set_cons_succ], hbu, fun h => fu0 (mark_of (by decide) h), fun h => fu1 (mark_of (by decide) h), fun h => fu2 (mark_of (by decide) h), fun h => fu3 (mark_of (by decide) h), fun h => fu4 (mark_of (by decide) h), fun h => fu5 (mark_of (by decide) h), fun _ => rfl, fun _ => rfl, fun h => fu8 (mark_of (by decide) h), fun h => fu9 (mark_of (by decide) h), fun h => fu10 (mark_of (by decide) h), fun h => fu11 (mark_of (by decide) h), fun h => fu12 (mark_of (by decide) h), fun h => fu13 (mark_of (by decide) h)⟩
        · have eu5 := fu5 (dep_of 5 hru rfl (by kernel_rfl))
          have eu7 := fu7 (dep_of 7 hru rfl (by kernel_rfl))
          replace eu5 := eu5.symm
          subst eu5
          replace eu7 := eu7.symm
          subst eu7
          refine wpOp_shut (by rfl) (fun K hK => ?_)
          simp only [Act.put, List.setIfInBounds_toArray, List.set_cons_zero, List.set_cons_succ]
          have hp := hp.below hbu
          go_simp
          refine (itoa_at lr wn (by omega) hp).mono ?_
          rintro eu wx ⟨rfl, bu⟩
          go_wp2_with fail
          have hbu2 := hbu.trans (bu.mono hbu.size)
          exact hK.out _ _ ⟨vu0, vu1, vu2, vu3, vu4, (.string (qtxt q)), vu6, (.int .i64 (lr : Int)), (.string ⟨(Lib.decDigits lr).toArray⟩), vu9, vu10, vu11, vu12, vu13, by simp only [Act.put, List.setIfInBounds_toArray, List.set_cons_zero, List.set_cons_succ], hbu2, fun h => fu0 (mark_of (by decide) h), fun h => fu1 (mark_of (by decide) h), fun h => fu2 (mark_of (by decide) h), fun h => fu3 (mark_of (by decide) h), fun h => fu4 (mark_of (by decide) h), fun _ => rfl, fun h => fu6 (mark_of (by decide) h), fun _ => rfl, fun _ => rfl, fun h => fu9 (mark_of (by decide) h), fun h => fu10 (mark_of (by decide) h), fun h => fu11 (mark_of (by decide) h), fun h => fu12 (mark_of (by decide) h), fun h => fu13 (mark_of (by decide) h)⟩
        · refine wpOp_shut (by rfl) (fun K hK => ?_)
          simp only [Act.put, List.setIfInBounds_toArray, List.set_cons_zero, List.set_cons_succ]
          go_simp
          exact hK.out _ _ ⟨vu0, vu1, vu2, vu3, vu4, vu5, vu6, vu7, vu8, (.pointer (some ⟨w.heap.size, 6, none⟩)), vu10, vu11, vu12, vu13, by simp only [Act.put, List.setIfInBounds_toArray, List.set_cons_zero, List.set_cons_succ], hbu, fun h => fu0 (mark_of (by decide) h), fun h => fu1 (mark_of (by decide) h), fun h => fu2 (mark_of (by decide) h), fun h => fu3 (mark_of (by decide) h), fun h => fu4 (mark_of (by decide) h), fun h => fu5 (mark_of (by decide) h), fun h => fu6 (mark_of (by decide) h), fun h => fu7 (mark_of (by decide) h), fun h => fu8 (mark_of (by decide) h), fun _ => rfl, fun h => fu10 (mark_of (by decide) h), fun h => fu11 (mark_of (by decide) h), fun h => fu12 (mark_of (by decide) h), fun h => fu13 (mark_of (by decide) h)⟩
        · have eu9 := fu9 (dep_of 9 hru rfl (by kernel_rfl))
          replace eu9 := eu9.symm
          subst eu9
          refine wpOp_shut (by rfl) (fun K hK => ?_)
          simp only [Act.put, List.setIfInBounds_toArray, List.set_cons_zero, List.set_cons_succ]
          obtain ⟨V_0, V_1, V_2, V_3, V_4, V_5, V_6, V_7, V_8, V_9, V_10, V_11, V_12, V_13⟩ := VN.below hbu
          go_simp
          exact hK.out _ _ ⟨vu0, vu1, vu2, vu3, vu4, vu5, vu6, vu7, vu8, (.pointer (some ⟨w.heap.size, 6, none⟩)), (.int .i64 (rr : Int)), vu11, vu12, vu13, by simp only [Act.put, List.setIfInBounds_toArray, List.set_cons_zero, List.set_cons_succ], hbu, fun h => fu0 (mark_of (by decide) h), fun h => fu1 (mark_of (by decide) h), fun h => fu2 (mark_of (by decide) h), fun h => fu3 (mark_of (by decide) h), fun h => fu4 (mark_of (by decide) h), fun h => fu5 (mark_of (by decide) h), fun h => fu6 (mark_of (by decide) h), fun h => fu7 (mark_of (by decide) h), fun h => fu8 (mark_of (by decide) h), fun _ => rfl, fun _ => rfl, fun h => fu11 (mark_of (by decide) h), fun h => fu12 (mark_of (by decide) h), fun h => fu13 (mark_of (by decide) h)⟩
        · have eu8 := fu8 (dep_of 8 hru rfl (by kernel_rfl))
          have eu10 := fu10 (dep_of 10 hru rfl (by kernel_rfl))
          replace eu8 := eu8.symm
          subst eu8
          replace eu10 := eu10.symm
          subst eu10
          refine wpOp_shut (by rfl) (fun K hK => ?_)
          simp only [Act.put, List.setIfInBounds_toArray, List.set_cons_zero, List.set_cons_succ]
          have hp := hp.below hbu
          go_simp
          refine (itoa_at rr wn (by omega) hp).mono ?_
          rintro eu wx ⟨rfl, bu⟩
          go_wp2_with fail
          have hbu2 := hbu.trans (bu.mono hbu.size)
          exact hK.out _ _ ⟨vu0, vu1, vu2, vu3, vu4, vu5, vu6, vu7, (.string ⟨(Lib.decDigits lr).toArray⟩), vu9, (.int .i64 (rr : Int)), (.string ⟨(Lib.decDigits rr).toArray⟩), vu12, vu13, by simp only [Act.put, List.setIfInBounds_toArray, List.set_cons_zero, List.set_cons_succ], hbu2, fun h => fu0 (mark_of (by decide) h), fun h => fu1 (mark_of (by decide) h), fun h => fu2 (mark_of (by decide) h), fun h => fu3 (mark_of (by decide) h), fun h => fu4 (mark_of (by decide) h), fun h => fu5 (mark_of (by decide) h), fun h => fu6 (mark_of (by decide) h), fun h => fu7 (mark_of (by decide) h), fun _ => rfl, fun h => fu9 (mark_of (by decide) h), fun _ => rfl, fun _ => rfl, fun h => fu12 (mark_of (by decide) h), fun h => fu13 (mark_of (by decide) h)⟩
        · refine wpOp_shut (by rfl) (fun K hK => ?_)
          simp only [Act.put, List.setIfInBounds_toArray, List.set_cons_zero, List.set_cons_succ]
          go_simp
          exact hK.out _ _ ⟨vu0, vu1, vu2, vu3, vu4, vu5, vu6, vu7, vu8, vu9, vu10, vu11, (.string { data := #[109, 105, 115, 115, 45, 114, 105, 103, 104, 116] }), vu13, by simp only [Act.put, List.setIfInBounds_toArray, List.set_cons_zero, List.set_cons_succ], hbu, fun h => fu0 (mark_of (by decide) h), fun h => fu1 (mark_of (by decide) h), fun h => fu2 (mark_of (by decide) h), fun h => fu3 (mark_of (by decide) h), fun h => fu4 (mark_of (by decide) h), fun h => fu5 (mark_of (by decide) h), fun h => fu6 (mark_of (by decide) h), fun h => fu7 (mark_of (by decide) h), fun h => fu8 (mark_of (by decide) h), fun h => fu9 (mark_of (by decide) h), fun h => fu10 (mark_of (by decide) h), fun h => fu11 (mark_of (by decide) h), fun _ => rfl, fun h => fu13 (mark_of (by decide) h)⟩
        · refine wpOp_shut (by rfl) (fun K hK => ?_)
          simp only [Act.put, List.setIfInBounds_toArray, List.set_cons_zero, List.set_cons_succ]
          go_simp
          exact hK.out _ _ ⟨vu0, vu1, vu2, vu3, vu4, vu5, vu6, vu7, vu8, vu9, vu10, vu11, vu12, (.string tc), by simp only [Act.put, List.setIfInBounds_toArray, List.set_cons_zero, List.set_cons_succ], hbu, fun h => fu0 (mark_of (by decide) h), fun h => fu1 (mark_of (by decide) h), fun h => fu2 (mark_of (by decide) h), fun h => fu3 (mark_of (by decide) h), fun h => fu4 (mark_of (by decide) h), fun h => fu5 (mark_of (by decide) h), fun h => fu6 (mark_of (by decide) h), fun h => fu7 (mark_of (by decide) h), fun h => fu8 (mark_of (by decide) h), fun h => fu9 (mark_of (by decide) h), fun h => fu10 (mark_of (by decide) h), fun h => fu11 (mark_of (by decide) h), fun h => fu12 (mark_of (by decide) h), fun _ => rfl⟩
      rintro au Wu1 ⟨vu0, vu1, vu2, vu3, vu4, vu5, vu6, vu7, vu8, vu9, vu10, vu11, vu12, vu13, rfl, hbu, fu0, fu1, fu2, fu3, fu4, fu5, fu6, fu7, fu8, fu9, fu10, fu11, fu12, fu13⟩
      have eu0 := (fu0 rfl).symm
      subst eu0
      have eu1 := (fu1 rfl).symm
      subst eu1
      have eu2 := (fu2 rfl).symm
      subst eu2
      have eu3 := (fu3 rfl).symm
      subst eu3
      have eu4 := (fu4 rfl).symm
      subst eu4
      have eu5 := (fu5 rfl).symm
      subst eu5
      have eu6 := (fu6 rfl).symm
      subst eu6
      have eu7 := (fu7 rfl).symm
      subst eu7
      have eu8 := (fu8 rfl).symm
      subst eu8
      have eu9 := (fu9 rfl).symm
      subst eu9
      have eu10 := (fu10 rfl).symm
      subst eu10
      have eu11 := (fu11 rfl).symm
      subst eu11
      have eu12 := (fu12 rfl).symm
      subst eu12
      have eu13 := (fu13 rfl).symm
      subst eu13
      clear fu0 fu1 fu2 fu3 fu4 fu5 fu6 fu7 fu8 fu9 fu10 fu11 fu12 fu13
      replace hu := hu.below hbu
      replace ht := ht.below hbu
      replace hp := hp.below hbu
      replace VN := VN.below hbu
      replace BB := BB.trans (hbu.mono BB.size)
      clear hbu
      simp only [Act.put, List.setIfInBounds_toArray, List.set_cons_zero, List.set_cons_succ]
      refine wpAnyH_ready (rs := [14]) (by kernel_rfl) (by simp) ?_
      refine AllReadyH.cons (by rfl) (fun K hK => ?_) AllReadyH.nil
      obtain ⟨W9, hW9, hS9, hL9, hSt⟩ := strs_lay Wu1 9 [{ data := #[115, 112, 108, 105, 116] }, ⟨(Lib.decDigits fn).toArray⟩, (qtxt q), ⟨(Lib.decDigits lr).toArray⟩, ⟨(Lib.decDigits rr).toArray⟩, { data := #[109, 105, 115, 115, 45, 114, 105, 103, 104, 116] }, tc] #[.string { data := #[115, 112, 108, 105, 116] }, .string ⟨(Lib.decDigits fn).toArray⟩, .string (qtxt q), .string ⟨(Lib.decDigits lr).toArray⟩, .string ⟨(Lib.decDigits rr).toArray⟩, .string { data := #[109, 105, 115, 115, 45, 114, 105, 103, 104, 116] }, .string tc] rfl
      have HE : Hid (∀ i, ([{ data := #[115, 112, 108, 105, 116] }, ⟨(Lib.decDigits fn).toArray⟩, (qtxt q), ⟨(Lib.decDigits lr).toArray⟩, ⟨(Lib.decDigits rr).toArray⟩, { data := #[109, 105, 115, 115, 45, 114, 105, 103, 104, 116] }, tc] : List ByteArray).getD i ByteArray.empty = nwF ⟨false, (fn : Int), q, (lr : Int), (rr : Int), false, vl, cv⟩ i) := fun i => by rw [← htc]; rfl
      replace BB := BB.trans (hL9.mono BB.size)
      clear hL9
      have HT : Hid (StrC W9 Wu1.heap.size 7 (nwF ⟨false, (fn : Int), q, (lr : Int), (rr : Int), false, vl, cv⟩) ∧ Below w.heap.size w W9) := ⟨⟨hSt.1, fun j hj => by rw [hSt.2 j hj]; exact congrArg (fun x => some (Value.string x)) (HE.out j)⟩, BB⟩
      clear hSt BB HE
      go_simp
      rw [← hW9]
      refine hK.out _ _ trivial (fun _ => ?_)
      clear hK K
      simp only [Act.put, List.setIfInBounds_toArray, List.set_cons_zero, List.set_cons_succ]
      refine wpAnyH_ready (rs := [15]) (by kernel_rfl) (by simp) ?_
      refine AllReadyH.cons (by rfl) (fun K hK => ?_) AllReadyH.nil
      go_simp
      refine hK.out _ _ trivial (fun _ => ?_)
      clear hK K
      simp only [Act.put, List.setIfInBounds_toArray, List.set_cons_zero, List.set_cons_succ]
      refine wpAnyH_done (by kernel_rfl) ?_ _
      go_wp2_with fail
      go_ret
      subst hW9
      exact ⟨_, rfl, HT.out⟩
    · have BB : Below w.heap.size w w := Below.refl _ _
      obtain ⟨W0, hW0, hS0, hL0, VN, FN⟩ := V14.lay w 41 (.bool false) (.int .i64 (fn : Int)) (.bool p1) (.slice a1 n1 c1) (.slice b1 m1 d1) (.int .i64 (lr : Int)) (.int .i64 (rr : Int)) (.bool true) (.bool p2) (.slice a2 n2 c2) (.slice b2 m2 d2) (.bool p3) (.slice a3 n3 c3) (.slice b3 m3 d3)
      replace hu := hu.below hL0
      replace hv := hv.below hL0
      replace hc := hc.below hL0
      replace ht := ht.below hL0
      replace hp := hp.below hL0
      replace BB := BB.trans (hL0.mono BB.size)
      clear hL0
      obtain ⟨V_0, V_1, V_2, V_3, V_4, V_5, V_6, V_7, V_8, V_9, V_10, V_11, V_12, V_13⟩ := id VN
      rw [hW0] at V_0 V_1 V_2 V_3 V_4 V_5 V_6 V_7 V_8 V_9 V_10 V_11 V_12 V_13
      go_enter Tryd.func17, Tryd.ntmps17
      go_wp2_with fail
      clear V_0 V_1 V_2 V_3 V_4 V_5 V_6 V_7 V_8 V_9 V_10 V_11 V_12 V_13
      rw [← hW0]
      clear hW0 hS0 FN
      refine (qprint_at _ cv L _ hc h1 hM ht).mono ?_
      rintro e w1 ⟨rfl, b1⟩
      replace hu := hu.below b1
      replace hv := hv.below b1
      replace ht := ht.below b1
      replace hp := hp.below b1
      replace VN := VN.below b1
      replace BB := BB.trans (b1.mono BB.size)
      clear b1 hc
      obtain ⟨tc, htc⟩ : ∃ x, qtxt cv = x := ⟨_, rfl⟩
      rw [htc]
      obtain ⟨V_0, V_1, V_2, V_3, V_4, V_5, V_6, V_7, V_8, V_9, V_10, V_11, V_12, V_13⟩ := id VN
      go_wp2_with fail
      clear V_0 V_1 V_2 V_3 V_4 V_5 V_6 V_7 V_8 V_9 V_10 V_11 V_12 V_13
      refine wp_region_until 14 #[true, true, true, true, true, true, true, true, true, true, true, true, true, true, false, false] (fun aF lsd a' w' => ∃ vu0 vu1 vu2 vu3 vu4 vu5 vu6 vu7 vu8 vu9 vu10 vu11 vu12 vu13 : Value, a' = (((((((((((((aF.put (some 17) vu0).put (some 18) vu1).put (some 19) vu2).put (some 20) vu3).put (some 21) vu4).put (some 22) vu5).put (some 23) vu6).put (some 24) vu7).put (some 25) vu8).put (some 26) vu9).put (some 27) vu10).put (some 28) vu11).put (some 29) vu12).put (some 30) vu13 ∧ Below w1.heap.size w1 w' ∧ (lsd.getD 0 false = true → vu0 = .pointer (some ⟨w.heap.size, 1, none⟩)) ∧ (lsd.getD 1 false = true → vu1 = .int .i64 (fn : Int)) ∧ (lsd.getD 2 false = true → vu2 = .string ⟨(Lib.decDigits fn).toArray⟩) ∧ (lsd.getD 3 false = true → vu3 = .pointer (some ⟨w.heap.size, 2, none⟩)) ∧ (lsd.getD 4 false = true → vu4 = .agg #[.bool p1, .slice a1 n1 c1, .slice b1 m1 d1]) ∧ (lsd.getD 5 false = true → vu5 = .string (qtxt q)) ∧ (lsd.getD 6 false = true → vu6 = .pointer (some ⟨w.heap.size, 5, none⟩)) ∧ (lsd.getD 7 false = true → vu7 = .int .i64 (lr : Int)) ∧ (lsd.getD 8 false = true → vu8 = .string ⟨(Lib.decDigits lr).toArray⟩) ∧ (lsd.getD 9 false = true → vu9 = .pointer (some ⟨w.heap.size, 6, none⟩)) ∧ (lsd.getD 10 false = true → vu10 = .int .i64 (rr : Int)) ∧ (lsd.getD 11 false = true → vu11 = .string ⟨(Lib.decDigits rr).toArray⟩) ∧ (lsd.getD 12 false = true → vu12 = .string { data := #[109, 105, 115, 115, 45, 108, 101, 102, 116] }) ∧ (lsd.getD 13 false = true → vu13 = .string tc)) (by kernel_rfl) (by decide) (by kernel_rfl) (by rfl) (by kernel_rfl) ?_ ?_ ?_
      · exact ⟨_, _, _, _, _, _, _, _, _, _, _, _, _, _, by simp only [Act.put, List.setIfInBounds_toArray, List.set_cons_zero, List.set_cons_succ]; rfl, (Below.refl _ _).drew, fun h => absurd h (fun h => mark_none h), fun h => absurd h (fun h => mark_none h), fun h => absurd h (fun h => mark_none h), fun h => absurd h (fun h => mark_none h), fun h => absurd h (fun h => mark_none h), fun h => absurd h (fun h => mark_none h), fun h => absurd h (fun h => mark_none h), fun h => absurd h (fun h => mark_none h), fun h => absurd h (fun h => mark_none h), fun h => absurd h (fun h => mark_none h), fun h => absurd h (fun h => mark_none h), fun h => absurd h (fun h => mark_none h), fun h => absurd h (fun h => mark_none h), fun h => absurd h (fun h => mark_none h)⟩
      · rintro lsd au wn iu hszu ⟨vu0, vu1, vu2, vu3, vu4, vu5, vu6, vu7, vu8, vu9, vu10, vu11, vu12, vu13, rfl, hbu, fu0, fu1, fu2, fu3, fu4, fu5, fu6, fu7, fu8, fu9, fu10, fu11, fu12, fu13⟩ himu hru
        rcases (show iu = 0 ∨ iu = 1 ∨ iu = 2 ∨ iu = 3 ∨ iu = 4 ∨ iu = 5 ∨ iu = 6 ∨ iu = 7 ∨ iu = 8 ∨ iu = 9 ∨ iu = 10 ∨ iu = 11 ∨ iu = 12 ∨ iu = 13 by omega) with rfl | rfl | rfl | rfl | rfl | rfl | rfl | rfl | rfl | rfl | rfl | rfl | rfl | rfl
        · refine wpOp_shut (by rfl) (fun K hK => ?_)
          simp only [Act.put, List.setIfInBounds_toArray, List.set_cons_zero, List.set_cons_succ]
          go_simp
          exact hK.out _ _ ⟨(.pointer (some ⟨w.heap.size, 1, none⟩)), vu1, vu2, vu3, vu4, vu5, vu6, vu7, vu8, vu9, vu10, vu11, vu12, vu13, by simp only [Act.put, List.setIfInBounds_toArray, List.set_cons_zero, List.set_cons_succ], hbu, fun _ => rfl, fun h => fu1 (mark_of (by decide) h), fun h => fu2 (mark_of (by decide) h), fun h => fu3 (mark_of (by decide) h), fun h => fu4 (mark_of (by decide) h), fun h => fu5 (mark_of (by decide) h), fun h => fu6 (mark_of (by decide) h), fun h => fu7 (mark_of (by decide) h), fun h => fu8 (mark_of (by decide) h), fun h => fu9 (mark_of (by decide) h), fun h => fu10 (mark_of (by decide) h), fun h => fu11 (mark_of (by decide) h), fun h => fu12 (mark_of (by decide) h), fun h => fu13 (mark_of (by decide) h)⟩
        · have eu0 := fu0 (dep_of 0 hru rfl (by kernel_rfl))
          replace eu0 := eu0.symm
          subst eu0
          refine wpOp_shut (by rfl) (fun K hK => ?_)
          simp only [Act.put, List.setIfInBounds_toArray, List.set_cons_zero, List.set_cons_succ]
          obtain ⟨V_0, V_1, V_2, V_3, V_4, V_5, V_6, V_7, V_8, V_9, V_10, V_11, V_12, V_13⟩ := VN.below hbu
          go_simp
          exact hK.out _ _ ⟨(.pointer (some ⟨w.heap.size, 1, none⟩)), (.int .i64 (fn : Int)), vu2, vu3, vu4, vu5, vu6, vu7, vu8, vu9, vu10, vu11, vu12, vu13, by simp only [Act.put, List.setIfInBounds_toArray, List.set_cons_zero, List.set_cons_succ], hbu, fun _ => rfl, fun _ => rfl, fun h => fu2 (mark_of (by decide) h), fun h => fu3 (mark_of (by decide) h), fun h => fu4 (mark_of (by decide) h), fun h => fu5 (mark_of (by decide) h), fun h => fu6 (mark_of (by decide) h), fun h => fu7 (mark_of (by decide) h), fun h => fu8 (mark_of (by decide) h), fun h => fu9 (mark_of (by decide) h), fun h => fu10 (mark_of (by decide) h), fun h => fu11 (mark_of (by decide) h), fun h => fu12 (mark_of (by decide) h), fun h => fu13 (mark_of (by decide) h)⟩
        · have eu1 := fu1 (dep_of 1 hru rfl (by kernel_rfl))
          replace eu1 := eu1.symm
          subst eu1
          refine wpOp_shut (by rfl) (fun K hK => ?_)
          simp only [Act.put, List.setIfInBounds_toArray, List.set_cons_zero, List.set_cons_succ]
          have hp := hp.below hbu
          go_simp
          refine (itoa_at fn wn (by omega) hp).mono ?_
          rintro eu wx ⟨rfl, bu⟩
          go_wp2_with fail
          have hbu2 := hbu.trans (bu.mono hbu.size)
          exact hK.out _ _ ⟨vu0, (.int .i64 (fn : Int)), (.string ⟨(Lib.decDigits fn).toArray⟩), vu3, vu4, vu5, vu6, vu7, vu8, vu9, vu10, vu11, vu12, vu13, by simp only [Act.put, List.setIfInBounds_toArray, List.set_cons_zero, List.set_cons_succ], hbu2, fun h => fu0 (mark_of (by decide) h), fun _ => rfl, fun _ => rfl, fun h => fu3 (mark_of (by decide) h), fun h => fu4 (mark_of (by decide) h), fun h => fu5 (mark_of (by decide) h), fun h => fu6 (mark_of (by decide) h), fun h => fu7 (mark_of (by decide) h), fun h => fu8 (mark_of (by decide) h), fun h => fu9 (mark_of (by decide) h), fun h => fu10 (mark_of (by decide) h), fun h => fu11 (mark_of (by decide) h), fun h => fu12 (mark_of (by decide) h), fun h => fu13 (mark_of (by decide) h)⟩
        · refine wpOp_shut (by rfl) (fun K hK => ?_)
          simp only [Act.put, List.setIfInBounds_toArray, List.set_cons_zero, List.set_cons_succ]
          go_simp
          exact hK.out _ _ ⟨vu0, vu1, vu2, (.pointer (some ⟨w.heap.size, 2, none⟩)), vu4, vu5, vu6, vu7, vu8, vu9, vu10, vu11, vu12, vu13, by simp only [Act.put, List.setIfInBounds_toArray, List.set_cons_zero, List.set_cons_succ], hbu, fun h => fu0 (mark_of (by decide) h), fun h => fu1 (mark_of (by decide) h), fun h => fu2 (mark_of (by decide) h), fun _ => rfl, fun h => fu4 (mark_of (by decide) h), fun h => fu5 (mark_of (by decide) h), fun h => fu6 (mark_of (by decide) h), fun h => fu7 (mark_of (by decide) h), fun h => fu8 (mark_of (by decide) h), fun h => fu9 (mark_of (by decide) h), fun h => fu10 (mark_of (by decide) h), fun h => fu11 (mark_of (by decide) h), fun h => fu12 (mark_of (by decide) h), fun h => fu13 (mark_of (by decide) h)⟩
        · have eu3 := fu3 (dep_of 3 hru rfl (by kernel_rfl))
          replace eu3 := eu3.symm
          subst eu3
          refine wpOp_shut (by rfl) (fun K hK => ?_)
          simp only [Act.put, List.setIfInBounds_toArray, List.set_cons_zero, List.set_cons_succ]
          obtain ⟨V_0, V_1, V_2, V_3, V_4, V_5, V_6, V_7, V_8, V_9, V_10, V_11, V_12, V_13⟩ := VN.below hbu
          go_simp
          exact hK.out _ _ ⟨vu0, vu1, vu2, (.pointer (some ⟨w.heap.size, 2, none⟩)), (.agg #[.bool p1, .slice a1 n1 c1, .slice b1 m1 d1]), vu5, vu6, vu7, vu8, vu9, vu10, vu11, vu12, vu13, by simp only [Act.put, List.setIfInBounds_toArray, List.set_cons_zero, List.set_cons_succ], hbu, fun h => fu0 (mark_of (by decide) h), fun h => fu1 (mark_of (by decide) h), fun h => fu2 (mark_of (by decide) h), fun _ => rfl, fun _ => rfl, fun h => fu5 (mark_of (by decide) h), fun h => fu6 (mark_of (by decide) h), fun h => fu7 (mark_of (by decide) h), fun h => fu8 (mark_of (by decide) h), fun h => fu9 (mark_of (by decide) h), fun h => fu10 (mark_of (by decide) h), fun h => fu11 (mark_of (by decide) h), fun h => fu12 (mark_of (by decide) h), fun h => fu13 (mark_of (by decide) h)⟩
        · have eu2 := fu2 (dep_of 2 hru rfl (by kernel_rfl))
          have eu4 := fu4 (dep_of 4 hru rfl (by kernel_rfl))
          replace eu2 := eu2.symm
          subst eu2
          replace eu4 := eu4.symm
          subst eu4
          refine wpOp_shut (by rfl) (fun K hK => ?_)
          simp only [Act.put, List.setIfInBounds_toArray, List.set_cons_zero, List.set_cons_succ]
          have hu := hu.below hbu
          have ht := ht.below hbu
          go_simp
          refine (qprint_at _ q L wn hu h1 hM ht).mono ?_
          rintro eu wx ⟨rfl, bu⟩
          go_wp2_with fail
          have hbu2 := hbu.trans (bu.mono hbu.size)
          exact hK.out _ _ ⟨vu0, vu1, (.string ⟨(Lib.decDigits fn).toArray⟩), vu3, (.agg #[.bool p1, .slice a1 n1 c1, .slice b1 m1 d1]), (.string (qtxt q)), vu6, vu7, vu8, vu9, vu10, vu11, vu12, vu13, by simp only [Act.put, List.setIfInBounds_toArray, List.set_cons_zero, List.set_cons_succ], hbu2, fun h => fu0 (mark_of (by decide) h), fun h => fu1 (mark_of (by decide) h), fun _ => rfl, fun h => fu3 (mark_of (by decide) h), fun _ => rfl, fun _ => rfl, fun h => fu6 (mark_of (by decide) h), fun h => fu7 (mark_of (by decide) h), fun h => fu8 (mark_of (by decide) h), fun h => fu9 (mark_of (by decide) h), fun h => fu10 (mark_of (by decide) h), fun h => fu11 (mark_of (by decide) h), fun h => fu12 (mark_of (by decide) h), fun h => fu13 (mark_of (by decide) h)⟩
        · refine wpOp_shut (by rfl) (fun K hK => ?_)
          simp only [Act.put, List.setIfInBounds_toArray, List.set_cons_zero, List.set_cons_succ]
          go_simp
          exact hK.out _ _ ⟨vu0, vu1, vu2, vu3, vu4, vu5, (.pointer (some ⟨w.heap.size, 5, none⟩)), vu7, vu8, vu9, vu10, vu11, vu12, vu13, by simp only [Act.put, List.setIfInBounds_toArray, List.set_cons_zero, List.set_cons_succ], hbu, fun h => fu0 (mark_of (by decide) h), fun h => fu1 (mark_of (by decide) h), fun h => fu2 (mark_of (by decide) h), fun h => fu3 (mark_of (by decide) h), fun h => fu4 (mark_of (by decide) h), fun h => fu5 (mark_of (by decide) h), fun _ => rfl, fun h => fu7 (mark_of (by decide) h), fun h => fu8 (mark_of (by decide) h), fun h => fu9 (mark_of (by decide) h), fun h => fu10 (mark_of (by decide) h), fun h => fu11 (mark_of (by decide) h), fun h => fu12 (mark_of (by decide) h), fun h => fu13 (mark_of (by decide) h)⟩
        · have eu6 := fu6 (dep_of 6 hru rfl (by kernel_rfl))
          replace eu6 := eu6.symm
          subst eu6
          refine wpOp_shut (by rfl) (fun K hK => ?_)
          simp only [Act.put, List.setIfInBounds_toArray, List.set_cons_zero, List.set_cons_succ]
          obtain ⟨V_0, V_1, V_2, V_3, V_4, V_5, V_6, V_7, V_8, V_9, V_10, V_11, V_12, V_13⟩ := VN.below hbu
          go_simp
          exact hK.out _ _ ⟨vu0, vu1, vu2, vu3, vu4, vu5, (.pointer (some ⟨w.heap.size, 5, none⟩)), (.int .i64 (lr : Int)), vu8, vu9, vu10, vu11, vu12, vu13, by simp only [Act.put, List.setIfInBounds_toArray, List.set_cons_zero, List.set_cons_succ], hbu, fun h => fu0 (mark_of (by decide) h), fun h => fu1 (mark_of (by decide) h), fun h => fu2 (mark_of (by decide) h), fun h => fu3 (mark_of (by decide) h), fun h => fu4 (mark_of (by decide) h), fun h => fu5 (mark_of (by decide) h), fun _ => rfl, fun _ => rfl, fun h => fu8 (mark_of (by decide) h), fun h => fu9 (mark_of (by decide) h), fun h => fu10 (mark_of (by decide) h), fun h => fu11 (mark_of (by decide) h), fun h => fu12 (mark_of (by decide) h), fun h => fu13 (mark_of (by decide) h)⟩
        · have eu5 := fu5 (dep_of 5 hru rfl (by kernel_rfl))
          have eu7 := fu7 (dep_of 7 hru rfl (by kernel_rfl))
          replace eu5 := eu5.symm
          subst eu5
          replace eu7 := eu7.symm
          subst eu7
          refine wpOp_shut (by rfl) (fun K hK => ?_)
          simp only [Act.put, List.setIfInBounds_toArray, List.set_cons_zero, List.set_cons_succ]
          have hp := hp.below hbu
          go_simp
          refine (itoa_at lr wn (by omega) hp).mono ?_
          rintro eu wx ⟨rfl, bu⟩
          go_wp2_with fail
          have hbu2 := hbu.trans (bu.mono hbu.size)
          exact hK.out _ _ ⟨vu0, vu1, vu2, vu3, vu4, (.string (qtxt q)), vu6, (.int .i64 (lr : Int)), (.string ⟨(Lib.decDigits lr).toArray⟩), vu9, vu10, vu11, vu12, vu13, by simp only [Act.put, List.setIfInBounds_toArray, List.set_cons_zero, List.set_cons_succ], hbu2, fun h => fu0 (mark_of (by decide) h), fun h => fu1 (mark_of (by decide) h), fun h => fu2 (mark_of (by decide) h), fun h => fu3 (mark_of (by decide) h), fun h => fu4 (mark_of (by decide) h), fun _ => rfl, fun h => fu6 (mark_of (by decide) h), fun _ => rfl, fun _ => rfl, fun h => fu9 (mark_of (by decide) h), fun h => fu10 (mark_of (by decide) h), fun h => fu11 (mark_of (by decide) h), fun h => fu12 (mark_of (by decide) h), fun h => fu13 (mark_of (by decide) h)⟩
        · refine wpOp_shut (by rfl) (fun K hK => ?_)
          simp only [Act.put, List.setIfInBounds_toArray, List.set_cons_zero, List.set_cons_succ]
          go_simp
          exact hK.out _ _ ⟨vu0, vu1, vu2, vu3, vu4, vu5, vu6, vu7, vu8, (.pointer (some ⟨w.heap.size, 6, none⟩)), vu10, vu11, vu12, vu13, by simp only [Act.put, List.setIfInBounds_toArray, List.set_cons_zero, List.set_cons_succ], hbu, fun h => fu0 (mark_of (by decide) h), fun h => fu1 (mark_of (by decide) h), fun h => fu2 (mark_of (by decide) h), fun h => fu3 (mark_of (by decide) h), fun h => fu4 (mark_of (by decide) h), fun h => fu5 (mark_of (by decide) h), fun h => fu6 (mark_of (by decide) h), fun h => fu7 (mark_of (by decide) h), fun h => fu8 (mark_of (by decide) h), fun _ => rfl, fun h => fu10 (mark_of (by decide) h), fun h => fu11 (mark_of (by decide) h), fun h => fu12 (mark_of (by decide) h), fun h => fu13 (mark_of (by decide) h)⟩
        · have eu9 := fu9 (dep_of 9 hru rfl (by kernel_rfl))
          replace eu9 := eu9.symm
          subst eu9
          refine wpOp_shut (by rfl) (fun K hK => ?_)
          simp only [Act.put, List.setIfInBounds_toArray, List.set_cons_zero, List.set_cons_succ]
          obtain ⟨V_0, V_1, V_2, V_3, V_4, V_5, V_6, V_7, V_8, V_9, V_10, V_11, V_12, V_13⟩ := VN.below hbu
          go_simp
          exact hK.out _ _ ⟨vu0, vu1, vu2, vu3, vu4, vu5, vu6, vu7, vu8, (.pointer (some ⟨w.heap.size, 6, none⟩)), (.int .i64 (rr : Int)), vu11, vu12, vu13, by simp only [Act.put, List.setIfInBounds_toArray, List.set_cons_zero, List.set_cons_succ], hbu, fun h => fu0 (mark_of (by decide) h), fun h => fu1 (mark_of (by decide) h), fun h => fu2 (mark_of (by decide) h), fun h => fu3 (mark_of (by decide) h), fun h => fu4 (mark_of (by decide) h), fun h => fu5 (mark_of (by decide) h), fun h => fu6 (mark_of (by decide) h), fun h => fu7 (mark_of (by decide) h), fun h => fu8 (mark_of (by decide) h), fun _ => rfl, fun _ => rfl, fun h => fu11 (mark_of (by decide) h), fun h => fu12 (mark_of (by decide) h), fun h => fu13 (mark_of (by decide) h)⟩
        · have eu8 := fu8 (dep_of 8 hru rfl (by kernel_rfl))
          have eu10 := fu10 (dep_of 10 hru rfl (by kernel_rfl))
          replace eu8 := eu8.symm
          subst eu8
          replace eu10 := eu10.symm
          subst eu10
          refine wpOp_shut (by rfl) (fun K hK => ?_)
          simp only [Act.put, List.setIfInBounds_toArray, List.set_cons_zero, List.set_cons_succ]
          have hp := hp.below hbu
          go_simp
          refine (itoa_at rr wn (by omega) hp).mono ?_
          rintro eu wx ⟨rfl, bu⟩
          go_wp2_with fail
          have hbu2 := hbu.trans (bu.mono hbu.size)
          exact hK.out _ _ ⟨vu0, vu1, vu2, vu3, vu4, vu5, vu6, vu7, (.string ⟨(Lib.decDigits lr).toArray⟩), vu9, (.int .i64 (rr : Int)), (.string ⟨(Lib.decDigits rr).toArray⟩), vu12, vu13, by simp only [Act.put, List.setIfInBounds_toArray, List.set_cons_zero, List.set_cons_succ], hbu2, fun h => fu0 (mark_of (by decide) h), fun h => fu1 (mark_of (by decide) h), fun h => fu2 (mark_of (by decide) h), fun h => fu3 (mark_of (by decide) h), fun h => fu4 (mark_of (by decide) h), fun h => fu5 (mark_of (by decide) h), fun h => fu6 (mark_of (by decide) h), fun h => fu7 (mark_of (by decide) h), fun _ => rfl, fun h => fu9 (mark_of (by decide) h), fun _ => rfl, fun _ => rfl, fun h => fu12 (mark_of (by decide) h), fun h => fu13 (mark_of (by decide) h)⟩
        · refine wpOp_shut (by rfl) (fun K hK => ?_)
          simp only [Act.put, List.setIfInBounds_toArray, List.set_cons_zero, List.set_cons_succ]
          go_simp
          exact hK.out _ _ ⟨vu0, vu1, vu2, vu3, vu4, vu5, vu6, vu7, vu8, vu9, vu10, vu11, (.string { data := #[109, 105, 115, 115, 45, 108, 101, 102, 116] }), vu13, by simp only [Act.put, List.setIfInBounds_toArray, List.set_cons_zero, List.set_cons_succ], hbu, fun h => fu0 (mark_of (by decide) h), fun h => fu1 (mark_of (by decide) h), fun h => fu2 (mark_of (by decide) h), fun h => fu3 (mark_of (by decide) h), fun h => fu4 (mark_of (by decide) h), fun h => fu5 (mark_of (by decide) h), fun h => fu6 (mark_of (by decide) h), fun h => fu7 (mark_of (by decide) h), fun h => fu8 (mark_of (by decide) h), fun h => fu9 (mark_of (by decide) h), fun h => fu10 (mark_of (by decide) h), fun h => fu11 (mark_of (by decide) h), fun _ => rfl, fun h => fu13 (mark_of (by decide) h)⟩
        · refine wpOp_shut (by rfl) (fun K hK => ?_)
          simp only [Act.put, List.setIfInBounds_toArray, List.set_cons_zero, List.set_cons_succ]
          go_simp
          exact hK.out _ _ ⟨vu0, vu1, vu2, vu3, vu4, vu5, vu6, vu7, vu8, vu9, vu10, vu11, vu12, (.string tc), by simp only [Act.put, List.setIfInBounds_toArray, List.set_cons_zero, List.set_cons_succ], hbu, fun h => fu0 (mark_of (by decide) h), fun h => fu1 (mark_of (by decide) h), fun h => fu2 (mark_of (by decide) h), fun h => fu3 (mark_of (by decide) h), fun h => fu4 (mark_of (by decide) h), fun h => fu5 (mark_of (by decide) h), fun h => fu6 (mark_of (by decide) h), fun h => fu7 (mark_of (by decide) h), fun h => fu8 (mark_of (by decide) h), fun h => fu9 (mark_of (by decide) h), fun h => fu10 (mark_of (by decide) h), fun h => fu11 (mark_of (by decide) h), fun h => fu12 (mark_of (by decide) h), fun _ => rfl⟩
      rintro au Wu1 ⟨vu0, vu1, vu2, vu3, vu4, vu5, vu6, vu7, vu8, vu9, vu10, vu11, vu12, vu13, rfl, hbu, fu0, fu1, fu2, fu3, fu4, fu5, fu6, fu7, fu8, fu9, fu10, fu11, fu12, fu13⟩
      have eu0 := (fu0 rfl).symm
      subst eu0
      have eu1 := (fu1 rfl).symm
      subst eu1
      have eu2 := (fu2 rfl).symm
      subst eu2
      have eu3 := (fu3 rfl).symm
      subst eu3
      have eu4 := (fu4 rfl).symm
      subst eu4
      have eu5 := (fu5 rfl).symm
      subst eu5
      have eu6 := (fu6 rfl).symm
      subst eu6
      have eu7 := (fu7 rfl).symm
      subst eu7
      have eu8 := (fu8 rfl).symm
      subst eu8
      have eu9 := (fu9 rfl).symm
      subst eu9
      have eu10 := (fu10 rfl).symm
      subst eu10
      have eu11 := (fu11 rfl).symm
      subst eu11
      have eu12 := (fu12 rfl).symm
      subst eu12
      have eu13 := (fu13 rfl).symm
      subst eu13
      clear fu0 fu1 fu2 fu3 fu4 fu5 fu6 fu7 fu8 fu9 fu10 fu11 fu12 fu13
      replace hu := hu.below hbu
      replace ht := ht.below hbu
      replace hp := hp.below hbu
      replace VN := VN.below hbu
      replace BB := BB.trans (hbu.mono BB.size)
      clear hbu
      simp only [Act.put, List.setIfInBounds_toArray, List.set_cons_zero, List.set_cons_succ]
      refine wpAnyH_ready (rs := [14]) (by kernel_rfl) (by simp) ?_
      refine AllReadyH.cons (by rfl) (fun K hK => ?_) AllReadyH.nil
      obtain ⟨W9, hW9, hS9, hL9, hSt⟩ := strs_lay Wu1 9 [{ data := #[115, 112, 108, 105, 116] }, ⟨(Lib.decDigits fn).toArray⟩, (qtxt q), ⟨(Lib.decDigits lr).toArray⟩, ⟨(Lib.decDigits rr).toArray⟩, { data := #[109, 105, 115, 115, 45, 108, 101, 102, 116] }, tc] #[.string { data := #[115, 112, 108, 105, 116] }, .string ⟨(Lib.decDigits fn).toArray⟩, .string (qtxt q), .string ⟨(Lib.decDigits lr).toArray⟩, .string ⟨(Lib.decDigits rr).toArray⟩, .string { data := #[109, 105, 115, 115, 45, 108, 101, 102, 116] }, .string tc] rfl
      have HE : Hid (∀ i, ([{ data := #[115, 112, 108, 105, 116] }, ⟨(Lib.decDigits fn).toArray⟩, (qtxt q), ⟨(Lib.decDigits lr).toArray⟩, ⟨(Lib.decDigits rr).toArray⟩, { data := #[109, 105, 115, 115, 45, 108, 101, 102, 116] }, tc] : List ByteArray).getD i ByteArray.empty = nwF ⟨false, (fn : Int), q, (lr : Int), (rr : Int), true, vl, cv⟩ i) := fun i => by rw [← htc]; rfl
      replace BB := BB.trans (hL9.mono BB.size)
      clear hL9
      have HT : Hid (StrC W9 Wu1.heap.size 7 (nwF ⟨false, (fn : Int), q, (lr : Int), (rr : Int), true, vl, cv⟩) ∧ Below w.heap.size w W9) := ⟨⟨hSt.1, fun j hj => by rw [hSt.2 j hj]; exact congrArg (fun x => some (Value.string x)) (HE.out j)⟩, BB⟩
      clear hSt BB HE
      go_simp
      rw [← hW9]
      refine hK.out _ _ trivial (fun _ => ?_)
      clear hK K
      simp only [Act.put, List.setIfInBounds_toArray, List.set_cons_zero, List.set_cons_succ]
      refine wpAnyH_ready (rs := [15]) (by kernel_rfl) (by simp) ?_
      refine AllReadyH.cons (by rfl) (fun K hK => ?_) AllReadyH.nil
      go_simp
      refine hK.out _ _ trivial (fun _ => ?_)
      clear hK K
      simp only [Act.put, List.setIfInBounds_toArray, List.set_cons_zero, List.set_cons_succ]
      refine wpAnyH_done (by kernel_rfl) ?_ _
      go_wp2_with fail
      go_ret
      subst hW9
      exact ⟨_, rfl, HT.out⟩
  · have BB : Below w.heap.size w w := Below.refl _ _
    obtain ⟨W0, hW0, hS0, hL0, VN, FN⟩ := V14.lay w 41 (.bool true) (.int .i64 ft) (.bool p1) (.slice a1 n1 c1) (.slice b1 m1 d1) (.int .i64 ll) (.int .i64 rr0) (.bool ms) (.bool p2) (.slice a2 n2 c2) (.slice b2 m2 d2) (.bool p3) (.slice a3 n3 c3) (.slice b3 m3 d3)
    replace hu := hu.below hL0
    replace hv := hv.below hL0
    replace hc := hc.below hL0
    replace ht := ht.below hL0
    replace hp := hp.below hL0
    replace BB := BB.trans (hL0.mono BB.size)
    clear hL0
    obtain ⟨V_0, V_1, V_2, V_3, V_4, V_5, V_6, V_7, V_8, V_9, V_10, V_11, V_12, V_13⟩ := id VN
    rw [hW0] at V_0 V_1 V_2 V_3 V_4 V_5 V_6 V_7 V_8 V_9 V_10 V_11 V_12 V_13
    go_enter Tryd.func17, Tryd.ntmps17
    go_wp2_with fail
    clear V_0 V_1 V_2 V_3 V_4 V_5 V_6 V_7 V_8 V_9 V_10 V_11 V_12 V_13
    rw [← hW0]
    clear hW0 hS0 FN
    refine (qprint_at _ cv L _ hc h1 hM ht).mono ?_
    rintro e w1 ⟨rfl, b1⟩
    replace hu := hu.below b1
    replace hv := hv.below b1
    replace ht := ht.below b1
    replace hp := hp.below b1
    replace VN := VN.below b1
    replace BB := BB.trans (b1.mono BB.size)
    clear b1 hc
    obtain ⟨tc, htc⟩ : ∃ x, qtxt cv = x := ⟨_, rfl⟩
    rw [htc]
    obtain ⟨V_0, V_1, V_2, V_3, V_4, V_5, V_6, V_7, V_8, V_9, V_10, V_11, V_12, V_13⟩ := id VN
    go_wp2_with fail
    clear V_0 V_1 V_2 V_3 V_4 V_5 V_6 V_7 V_8 V_9 V_10 V_11 V_12 V_13
    refine (qprint_at _ vl L _ hv h1 hM ht).mono ?_
    rintro e w2 ⟨rfl, b2⟩
    replace BB := BB.trans (b2.mono BB.size)
    clear b2 hu hv ht hp VN
    obtain ⟨tv, htv⟩ : ∃ x, qtxt vl = x := ⟨_, rfl⟩
    rw [htv]
    obtain ⟨W9, hW9, hS9, hL9, hSt⟩ := strs_lay w2 9 [{ data := #[108, 101, 97, 102] }, tv, tc] #[.string { data := #[108, 101, 97, 102] }, .string tv, .string tc] rfl
    have HE : Hid (∀ i, [{ data := #[108, 101, 97, 102] }, tv, tc].getD i ByteArray.empty = nwF ⟨true, ft, q, ll, rr0, ms, vl, cv⟩ i) := fun i => by rw [← htv, ← htc]; rfl
    replace BB := BB.trans (hL9.mono BB.size)
    clear htv htc hL9
    have HT : Hid (StrC W9 w2.heap.size 3 (nwF ⟨true, ft, q, ll, rr0, ms, vl, cv⟩) ∧ Below w.heap.size w W9) := ⟨⟨hSt.1, fun j hj => by rw [hSt.2 j hj]; exact congrArg (fun x => some (Value.string x)) (HE.out j)⟩, BB⟩
    clear hSt BB HE
    go_wp2_with fail
    rw [← hW9]
    go_wp2_with fail
    go_ret
    exact ⟨_, rfl, HT.out⟩

def two7 (x y : ByteArray) (i : Nat) : ByteArray := [x, y].getD i ByteArray.empty
def one7 (x : ByteArray) (i : Nat) : ByteArray := [x].getD i ByteArray.empty
def nodesT (t : Nat → Nd) : Nat → List UInt8
  | 0 => []
  | n + 1 => nodesT t n ++ lnT (nwL (t n)).length (nwF (t n))
def treesT (N : Nat → Nat) (T : Nat → Nat → Nd) : Nat → List UInt8
  | 0 => []
  | k + 1 => treesT N T k ++ (lnT 2 (two7 { data := #[116, 114, 101, 101] } (ktxt (N k))) ++ nodesT (T k) (N k))
def headT (F : Int) (k : Nat) : List UInt8 := lnT 2 (two7 { data := #[100, 101, 110, 100, 114, 111, 110] } { data := #[49] }) ++ lnT 2 (two7 { data := #[102, 101, 97, 116, 117, 114, 101, 115] } (ktxt F)) ++ lnT 2 (two7 { data := #[116, 114, 101, 101, 115] } (ktxt k))
def modT (F : Int) (k : Nat) (N : Nat → Nat) (T : Nat → Nat → Nd) : List UInt8 := headT F k ++ treesT N T k ++ lnT 1 (one7 { data := #[101, 110, 100] })
theorem dec_len : ∀ (m x : Nat), x < 10 ^ m → 1 ≤ m → (Lib.decDigits x).length ≤ m := by
  intro m
  induction m with
  | zero => intro x _ h; omega
  | succ m ih =>
    intro x hx _
    rw [Lib.decDigits]
    split
    · simp
    · rename_i h
      rw [List.length_append]
      rcases Nat.eq_zero_or_pos m with e | e
      · subst e
        simp at hx
        omega
      · have := ih (x / 10) (by rw [Nat.div_lt_iff_lt_mul (by omega)]; rw [Nat.pow_succ] at hx; exact hx) e
        simp only [List.length_singleton]
        omega
theorem ktxt_size (z : Int) (h : z ≤ 255) : (ktxt z).size ≤ 3 := by
  show (Lib.decDigits z.toNat).toArray.size ≤ 3
  rw [List.size_toArray]
  exact dec_len 3 _ (by show z.toNat < 1000; omega) (by omega)
theorem side_size (b : Bool) : (sideT b).size ≤ 10 := by cases b <;> decide
theorem two_size (x y : ByteArray) (hx : x.size ≤ 100) (hy : y.size ≤ 100) : ∀ i, i < 2 → (two7 x y i).size ≤ 100 := by
  intro i hi
  match i, hi with
  | 0, _ => exact hx
  | 1, _ => exact hy
theorem one_size (x : ByteArray) (hx : x.size ≤ 100) : ∀ i, i < 1 → (one7 x i).size ≤ 100 := by
  intro i hi
  match i, hi with
  | 0, _ => exact hx
/-- A node that may be written. -/
def WrN (d : Nd) : Prop := (0 ≤ d.feat ∧ d.feat ≤ 64 ∧ 0 ≤ d.left ∧ d.left ≤ 255 ∧ 0 ≤ d.right ∧ d.right ≤ 255) ∧ qsz d.cut ≤ 4 ∧ qsz d.val ≤ 4 ∧ qsz d.cov ≤ 4
theorem nw_size (d : Nd) (h : WrN d) : (nwL d).length ≤ 7 ∧ ∀ i, i < (nwL d).length → (nwF d i).size ≤ 100 := by
  obtain ⟨⟨h1, h2, h3, h4, h5, h6⟩, q1, q2, q3⟩ := h
  have s1 := qtxt_size _ _ q1
  have s2 := qtxt_size _ _ q2
  have s3 := qtxt_size _ _ q3
  have key : (nwL d).length ≤ 7 ∧ ∀ x ∈ nwL d, x.size ≤ 100 := by
    unfold nwL
    split
    · refine ⟨by simp, fun x hx => ?_⟩
      simp only [List.mem_cons, List.not_mem_nil, or_false] at hx
      rcases hx with rfl | rfl | rfl
      · decide
      · omega
      · omega
    · refine ⟨by simp, fun x hx => ?_⟩
      simp only [List.mem_cons, List.not_mem_nil, or_false] at hx
      rcases hx with rfl | rfl | rfl | rfl | rfl | rfl | rfl
      · decide
      · have := ktxt_size d.feat (by omega); omega
      · omega
      · have := ktxt_size d.left (by omega); omega
      · have := ktxt_size d.right (by omega); omega
      · have := side_size d.miss; omega
      · omega
  refine ⟨key.1, fun i hi => ?_⟩
  unfold nwF
  rw [List.getD_eq_getElem?_getD, List.getElem?_eq_getElem hi]
  exact key.2 _ (List.getElem_mem hi)
theorem ln_len (n : Nat) (f : Nat → ByteArray) (hn : n ≤ 7) (h : ∀ i, i < n → (f i).size ≤ 100) : (lnT n f).length ≤ 1000 := by
  have h1 := lineT_len n 100 f h
  have h2 : n * (100 + 1) ≤ 7 * 101 := Nat.mul_le_mul hn (by omega)
  unfold lnT
  rw [List.length_append]
  simp only [List.length_singleton]
  omega
theorem nodes_len (t : Nat → Nd) : ∀ n, (∀ i, i < n → WrN (t i)) → (nodesT t n).length ≤ n * 1000
  | 0, _ => by simp [nodesT]
  | n + 1, h => by
    have h1 := nodes_len t n (fun i hi => h i (by omega))
    obtain ⟨h2, h3⟩ := nw_size (t n) (h n (by omega))
    have h4 := ln_len _ _ h2 h3
    unfold nodesT
    rw [List.length_append]
    omega
theorem tree_len (a : Nat) (ha : a ≤ 255) : (lnT 2 (two7 { data := #[116, 114, 101, 101] } (ktxt a))).length ≤ 1000 :=
  ln_len _ _ (by omega) (two_size _ _ (by decide) (by have := ktxt_size (a : Int) (by omega); omega))
theorem trees_len (N : Nat → Nat) (T : Nat → Nat → Nd) : ∀ k, (∀ i, i < k → N i ≤ 15 ∧ ∀ j, j < N i → WrN (T i j)) → (treesT N T k).length ≤ k * 16000
  | 0, _ => by simp [treesT]
  | k + 1, h => by
    have h1 := trees_len N T k (fun i hi => h i (by omega))
    obtain ⟨h2, h3⟩ := h k (by omega)
    have h4 := tree_len (N k) (by omega)
    have h5 := nodes_len (T k) (N k) h3
    unfold treesT
    rw [List.length_append, List.length_append]
    omega
theorem head_len (F : Int) (k : Nat) (hF : F ≤ 255) (hk : k ≤ 255) : (headT F k).length ≤ 3000 := by
  have h1 := ln_len 2 (two7 { data := #[100, 101, 110, 100, 114, 111, 110] } { data := #[49] }) (by omega) (two_size _ _ (by decide) (by decide))
  have h2 := ln_len 2 (two7 { data := #[102, 101, 97, 116, 117, 114, 101, 115] } (ktxt F)) (by omega) (two_size _ _ (by decide) (by have := ktxt_size F (by omega); omega))
  have h3 := ln_len 2 (two7 { data := #[116, 114, 101, 101, 115] } (ktxt k)) (by omega) (two_size _ _ (by decide) (by have := ktxt_size (k : Int) (by omega); omega))
  unfold headT
  rw [List.length_append, List.length_append]
  omega
/-- A builder that holds nothing yet. -/
theorem bld_lay (w : World) : ∃ W, W = w.alloc (.cells #[.pointer none, .slice none 0 0] 46) ∧ W.heap.size = w.heap.size + 1 ∧ Below w.heap.size w W ∧ Bld w.heap.size W w.heap.size [] :=
  ⟨_, rfl, by simp, (Below.refl _ _).alloc (Nat.le_refl _) _, .inl ⟨Nat.le_refl _, _, heap_alloc_new w _, World.ownsRow_nil _ _ _ _, by simp [Value.ownBlock]⟩⟩

theorem dec_low (x : Nat) (h : x < 10) : Lib.decDigits x = [UInt8.ofNat (48 + x)] := by
  rw [Lib.decDigits, dif_pos h]
theorem dec_high (x : Nat) (h : ¬ x < 10) : Lib.decDigits x = Lib.decDigits (x / 10) ++ [UInt8.ofNat (48 + x % 10)] := by
  rw [Lib.decDigits, dif_neg h]
theorem dd_nat (x p : Nat) : (dd x p).toNat = 48 + x / 10 ^ p % 10 := by unfold dd; omega
theorem ndec_le7 (x n : Nat) (h : x < 10 ^ n) (hn : 1 ≤ n) : ndec x ≤ n := by
  unfold ndec
  split
  · omega
  · exact nl_le 10 x n (by decide) h
theorem txt_dec (x : Nat) (h : x < 1000) : txt x = ⟨(Lib.decDigits x).toArray⟩ := by
  have h1 := lt_ndec x
  have h0 := ndec_pos x
  have h2 : ndec x ≤ 3 := ndec_le7 x 3 (by omega) (by omega)
  have hl : ∀ n, 1 ≤ n → x < 10 ^ n → ndec x ≤ n := fun n hn hx => ndec_le7 x n hx hn
  have key : (txt x).data.toList = Lib.decDigits x := by
    unfold txt
    rw [strOfNums_data]
    rcases (show ndec x = 1 ∨ ndec x = 2 ∨ ndec x = 3 by omega) with e | e | e
    · rw [e] at h1 ⊢
      rw [dec_low x (by omega)]
      simp [decs, dd_nat, List.range, List.range.loop]
      rw [Nat.mod_eq_of_lt (by omega)]
    · have h3 : ¬ x < 10 := fun hx => by have := hl 1 (by omega) (by omega); omega
      rw [e] at h1 ⊢
      rw [dec_high x h3, dec_low (x / 10) (by omega)]
      simp [decs, dd_nat, List.range, List.range.loop]
      rw [Nat.mod_eq_of_lt (show x / 10 < 10 by omega)]
    · have h3 : ¬ x < 100 := fun hx => by have := hl 2 (by omega) (by omega); omega
      rw [dec_high x (by omega), dec_high (x / 10) (by omega), dec_low (x / 10 / 10) (by omega), e]
      simp [decs, dd_nat, List.range, List.range.loop]
      rw [Nat.div_div_eq_div_mul, Nat.mod_eq_of_lt (show x / 100 < 10 by omega)]
  apply ByteArray.ext
  apply Array.toList_inj.1
  rw [key]
theorem qtxt_nat (x : Nat) (h : x < 1000) : qtxt ((x : Int) : Rat) = ktxt (x : Int) := by
  unfold qtxt
  rw [if_pos (by rfl)]
  show ztxt (x : Int) = _
  unfold ztxt
  rw [if_neg (by omega), Int.natAbs_natCast, txt_dec x h]
  rfl
set_option maxRecDepth 100000 in
set_option maxHeartbeats 2000000 in
theorem ldigits_at (x : Nat) (w : World) (h : x ≤ 255) (ht : Tab w) : Calls Tryd.prog 21 #[.int .i64 (x : Int)] w fun e w' => e = .returned (.string (ktxt (x : Int))) ∧ Below w.heap.size w w' := by
  go_enter Tryd.func21, Tryd.ntmps21
  go_wp2_with fail
  refine (qof_at (x : Int) _ (by omega) (by omega)).mono ?_
  rintro e w1 ⟨r, rfl, hr, b1⟩
  have ht1 := ht.below b1
  have hq : qsz ((x : Int) : Rat) ≤ 1000 := qsz_int _ (by rw [Int.natAbs_natCast]; exact Nat.le_trans (nl_small7 x (by omega)) (by omega)) (by omega)
  go_wp2_with fail
  refine (qprint_at _ _ 1000 _ (hr.at 1000 hq) (by omega) (by omega) ht1).mono ?_
  rintro e w2 ⟨rfl, b2⟩
  rw [qtxt_nat x (by omega)]
  have BB : Below w.heap.size w w2 := b1.trans (b2.mono b1.size)
  clear b1 b2 hr ht1 ht
  obtain ⟨tx, hx⟩ : ∃ y, ktxt (x : Int) = y := ⟨_, rfl⟩
  have HX : Hid (ktxt (x : Int) = tx) := hx
  rw [hx]
  clear hx
  go_wp2
  go_ret
  exact ⟨by rw [HX.out]; rfl, BB⟩

theorem mfit_node {F : Int} {k : Nat} {N : Nat → Nat} {T : Nat → Nat → Nd} (h : mfit F k N T = true) {i j : Nat} (hi : i < k) (hj : j < N i) : 0 ≤ (T i j).feat ∧ (T i j).feat ≤ 64 ∧ 0 ≤ (T i j).left ∧ (T i j).left ≤ 255 ∧ 0 ≤ (T i j).right ∧ (T i j).right ≤ 255 := by
  unfold mfit at h
  simp only [Bool.and_eq_true, decide_eq_true_eq, Option.isNone_iff_eq_none] at h
  have h1 := fb_is h.2 i hi
  simp only [Bool.not_eq_eq_eq_not, Bool.not_false] at h1
  unfold tfit at h1
  simp only [Bool.and_eq_true, decide_eq_true_eq, Option.isNone_iff_eq_none] at h1
  have h2 := fb_is h1.2 j hj
  unfold badF at h2
  simp only [Bool.not_eq_eq_eq_not, Bool.not_false, Bool.and_eq_true, decide_eq_true_eq] at h2
  exact ⟨h2.1.1.1, h2.1.1.2, h2.1.2.1, h2.1.2.2, h2.2.1, h2.2.2⟩
theorem MRow.wr {F : Int} {w : World} {v : Value} {k : Nat} {N : Nat → Nat} {T : Nat → Nat → Nd} (h : MRow w v k N T 4) (hf : mfit F k N T = true) {i j : Nat} (hi : i < k) (hj : j < N i) : WrN (T i j) := by
  obtain ⟨_, _, _, _, _, _, _, _, TR⟩ := h.at hi
  obtain ⟨_, _, _, _, _, _, _, _, _, _, _, _, _, _, _, _, _, _, _, _, _, _, _, _, _, _, _, _, r1, r2, r3, _⟩ := TR.at hj
  exact ⟨mfit_node hf hi hj, r1.qsz (by omega), r2.qsz (by omega), r3.qsz (by omega)⟩


set_option maxRecDepth 100000 in
set_option maxHeartbeats 4000000 in
theorem rwriteM_no (F : Int) (v : Value) (k : Nat) (N : Nat → Nat) (T : Nat → Nat → Nd) (L : Nat) (w : World) (hv : MRow w v k N T L) (h : mfit F k N T = false) :
    Calls Tryd.prog 6 #[.agg #[.int .i64 F, v]] w fun e w' => e = .returned (.tuple #[.string { data := #[] }, .int .i64 1]) ∧ Below w.heap.size w w' := by
  obtain ⟨ao, c, rfl, hnc, hc63⟩ := hv.open
  have BB : Below w.heap.size w w := Below.refl _ _
  obtain ⟨Wb0, hW0, hS0, hL0, VM⟩ := V2.lay w 24 (.int .i64 F) (.slice ao k c)
  replace hv := hv.below hL0
  replace BB := BB.trans (hL0.mono BB.size)
  clear hL0
  go_enter Tryd.func6, Tryd.ntmps6
  go_wp2_with fail
  rw [← hW0]
  clear hW0 hS0
  refine (fits_at F _ k N T L _ hv).mono ?_
  rintro e w1 ⟨rfl, b1⟩
  replace BB := BB.trans (b1.mono BB.size)
  rw [h]
  clear b1 VM hv
  go_wp2_with fail
  (try simp only [Exit.inBlock, Exit.then])
  refine bodyPost_ret (v := .tuple #[.string { data := #[] }, .int .i64 1]) (by simp [results, go_sem]) rfl ?_
  exact ⟨rfl, BB⟩


set_option maxRecDepth 100000 in
set_option maxHeartbeats 8000000 in
theorem rwriteM_at (F : Int) (v : Value) (k : Nat) (N : Nat → Nat) (T : Nat → Nat → Nd) (w : World) (hv : MRow w v k N T 4) (h : mfit F k N T = true) (hk : k ≤ 6) (hN : ∀ i, i < k → N i ≤ 15) (ht : Tab w) (hp : Pow w) :
    Calls Tryd.prog 6 #[.agg #[.int .i64 F, v]] w fun e w' => e = .returned (.tuple #[.string ⟨(modT F k N T).toArray⟩, .int .i64 0]) ∧ Below w.heap.size w w' := by
  obtain ⟨ao, c, rfl, hnc, hc63⟩ := hv.open
  have BB : Below w.heap.size w w := Below.refl _ _
  obtain ⟨Wb0, hW0, hS0, hL0, VM⟩ := V2.lay w 24 (.int .i64 F) (.slice ao k c)
  replace hv := hv.below hL0
  replace ht := ht.below hL0
  replace hp := hp.below hL0
  replace BB := BB.trans (hL0.mono BB.size)
  clear hL0
  have hms := mfit_is h
  obtain ⟨fn, rfl⟩ : ∃ fn : Nat, F = (fn : Int) := ⟨F.toNat, by omega⟩
  have hfn : fn ≤ 64 := by omega
  have HWR : Hid (∀ i, i < k → N i ≤ 15 ∧ ∀ j, j < N i → WrN (T i j)) := fun i hi => ⟨hN i hi, fun j hj => hv.wr h hi hj⟩
  have HN1 : Hid (∀ i, i < k → 1 ≤ N i) := fun i hi => (hms.2.2.2 i hi).1
  clear hms hN
  go_enter Tryd.func6, Tryd.ntmps6
  go_wp2_with fail
  rw [← hW0]
  clear hW0 hS0
  refine (fits_at (fn : Int) _ k N T 4 _ hv).mono ?_
  rintro e w1 ⟨rfl, b1⟩
  replace BB := BB.trans (b1.mono BB.size)
  have hv0 := hv.below b1
  have ht0 := ht.below b1
  have hp0 := hp.below b1
  have VM0 := VM.below b1
  rw [h]
  clear b1 VM hv ht hp h
  have BB0 : Hid (Below w.heap.size w w1) := BB
  clear BB
  obtain ⟨Wn, hWn, hSn, hLn, BD⟩ := bld_lay w1
  have BL : Below w1.heap.size w1 Wn := hLn
  clear hLn
  have hhd := head_len (fn : Int) k (by omega) (by omega)
  obtain ⟨W9, hW9, hS9, hL9, hSt⟩ := strs_lay Wn 9 [{ data := #[100, 101, 110, 100, 114, 111, 110] }, { data := #[49] }] #[.string { data := #[100, 101, 110, 100, 114, 111, 110] }, .string { data := #[49] }] rfl
  go_wp2_with fail
  rw [← hWn]
  rw [← hW9]
  replace BD := BD.below hL9
  replace BL := BL.trans (hL9.mono BL.size)
  rw [hSn] at hSt
  have hSt2 : StrC W9 (w1.heap.size + 1) 2 (two7 { data := #[100, 101, 110, 100, 114, 111, 110] } { data := #[49] }) := ⟨hSt.1, fun j hj => by rw [hSt.2 j hj]; rfl⟩
  clear hW9 hS9 hL9 hSt
  refine (wline_at BD hSt2 (two_size _ _ (by decide) (by decide)) (by omega) (by omega) (by simp)).mono ?_
  rintro e x1 ⟨rfl, BD2, b2⟩
  replace BL := BL.trans b2
  replace BD := BD2
  clear BD2 b2 hSt2
  clear hWn hSn
  obtain ⟨VM_0, VM_1, VM_2, VM_3⟩ := VM0.below BL
  go_wp2_with fail
  clear VM_0 VM_1 VM_2 VM_3
  refine (itoa_at fn _ (by omega) (hp0.below BL)).mono ?_
  rintro e yfn ⟨rfl, b2⟩
  replace BL := BL.trans (b2.mono BL.size)
  replace BD := BD.below b2
  clear b2
  rw [List.nil_append] at BD
  obtain ⟨W9, hW9, hS9, hL9, hSt⟩ := strs_lay yfn 9 [{ data := #[102, 101, 97, 116, 117, 114, 101, 115] }, ⟨(Lib.decDigits fn).toArray⟩] #[.string { data := #[102, 101, 97, 116, 117, 114, 101, 115] }, .string ⟨(Lib.decDigits fn).toArray⟩] rfl
  go_wp2_with fail
  rw [← hW9]
  replace BD := BD.below hL9
  replace BL := BL.trans (hL9.mono BL.size)
  have hSt2 : StrC W9 yfn.heap.size 2 (two7 { data := #[102, 101, 97, 116, 117, 114, 101, 115] } (ktxt (fn : Int))) := ⟨hSt.1, fun j hj => by rw [hSt.2 j hj]; rfl⟩
  clear hW9 hS9 hL9 hSt
  refine (wline_at BD hSt2 (two_size _ _ (by decide) (by have := ktxt_size ((fn : Nat) : Int) (by omega); exact Nat.le_trans this (by omega))) (by omega) (by omega) (by have := ln_len 2 (two7 { data := #[100, 101, 110, 100, 114, 111, 110] } { data := #[49] }) (by omega) (two_size _ _ (by decide) (by decide)); omega)).mono ?_
  rintro e x2 ⟨rfl, BD2, b2⟩
  replace BL := BL.trans b2
  replace BD := BD2
  clear BD2 b2 hSt2
  obtain ⟨VM_0, VM_1, VM_2, VM_3⟩ := VM0.below BL
  go_wp2_with fail
  clear VM_0 VM_1 VM_2 VM_3
  refine (itoa_at k _ (by omega) (hp0.below BL)).mono ?_
  rintro e yk ⟨rfl, b2⟩
  replace BL := BL.trans (b2.mono BL.size)
  replace BD := BD.below b2
  clear b2
  obtain ⟨W9, hW9, hS9, hL9, hSt⟩ := strs_lay yk 9 [{ data := #[116, 114, 101, 101, 115] }, ⟨(Lib.decDigits k).toArray⟩] #[.string { data := #[116, 114, 101, 101, 115] }, .string ⟨(Lib.decDigits k).toArray⟩] rfl
  go_wp2_with fail
  rw [← hW9]
  replace BD := BD.below hL9
  replace BL := BL.trans (hL9.mono BL.size)
  have hSt2 : StrC W9 yk.heap.size 2 (two7 { data := #[116, 114, 101, 101, 115] } (ktxt (k : Int))) := ⟨hSt.1, fun j hj => by rw [hSt.2 j hj]; rfl⟩
  clear hW9 hS9 hL9 hSt
  refine (wline_at BD hSt2 (two_size _ _ (by decide) (by have := ktxt_size ((k : Nat) : Int) (by omega); exact Nat.le_trans this (by omega))) (by omega) (by omega) (by have h1 := ln_len 2 (two7 { data := #[100, 101, 110, 100, 114, 111, 110] } { data := #[49] }) (by omega) (two_size _ _ (by decide) (by decide)); have h2 := ln_len 2 (two7 { data := #[102, 101, 97, 116, 117, 114, 101, 115] } (ktxt (fn : Int))) (by omega) (two_size _ _ (by decide) (by have := ktxt_size ((fn : Nat) : Int) (by omega); exact Nat.le_trans this (by omega))); rw [List.length_append]; omega)).mono ?_
  rintro e x3 ⟨rfl, BD2, b2⟩
  replace BL := BL.trans b2
  replace BD := BD2
  clear BD2 b2 hSt2
  have BD1 : Bld w1.heap.size x3 w1.heap.size (headT (fn : Int) k ++ treesT N T 0) := by rw [treesT, List.append_nil]; exact BD
  clear BD
  obtain ⟨hd, hhD⟩ : ∃ x, headT (fn : Int) k = x := ⟨_, rfl⟩
  have HHD : Hid (headT (fn : Int) k = hd) := hhD
  rw [hhD] at BD1 hhd
  clear hhD
  obtain ⟨VM_0, VM_1, VM_2, VM_3⟩ := VM0.below BL
  go_wp2
  clear VM_0 VM_1 VM_2 VM_3
  go_loopw [28] (fun vi wr => ∃ i : Nat, i ≤ k ∧ vi = .int .i64 (i : Int) ∧ Bld w1.heap.size wr w1.heap.size (hd ++ treesT N T i) ∧ Below w1.heap.size w1 wr) (fun vi _ => k - (intOf vi).toNat)
  case atStart => exact ⟨0, by omega, rfl, BD1, BL⟩
  case round =>
    clear BD1 BL
    obtain ⟨i, hi, rfl, BD, BL⟩ := hrel
    by_cases hlt : i < k
    · have g1 : (i : Int) < (k : Int) := by omega
      have g0 : (0 : Int) ≤ (i : Int) := by omega
      obtain ⟨bt, ot, ct, at_, dt, hvv, hcc, XC0, TR0⟩ := hv0.at hlt
      cases hvv
      have XC := (BL.cell (World.block_lt_of_cell? _ _ XC0)).trans XC0
      clear XC0
      have hni := (HWR.out i hlt).1
      have hn1 := HN1.out i hlt
      have htl := trees_len N T i (fun j hj => HWR.out j (by omega))
      obtain ⟨ni, hNi⟩ : ∃ ni, N i = ni := ⟨_, rfl⟩
      have HNI : Hid (N i = ni) := hNi
      rw [hNi] at XC TR0 hni hn1
      clear hNi
      go_wp2_with fail
      refine (itoa_at ni _ (by omega) (hp0.below BL)).mono ?_
      rintro e yni ⟨rfl, b2⟩
      replace BL := BL.trans (b2.mono BL.size)
      replace BD := BD.below b2
      clear b2
      clear XC
      obtain ⟨W9, hW9, hS9, hL9, hSt⟩ := strs_lay yni 9 [{ data := #[116, 114, 101, 101] }, ⟨(Lib.decDigits ni).toArray⟩] #[.string { data := #[116, 114, 101, 101] }, .string ⟨(Lib.decDigits ni).toArray⟩] rfl
      go_wp2_with fail
      rw [← hW9]
      replace BD := BD.below hL9
      replace BL := BL.trans (hL9.mono BL.size)
      have hSt2 : StrC W9 yni.heap.size 2 (two7 { data := #[116, 114, 101, 101] } (ktxt (ni : Int))) := ⟨hSt.1, fun j hj => by rw [hSt.2 j hj]; rfl⟩
      clear hW9 hS9 hL9 hSt
      refine (wline_at BD hSt2 (two_size _ _ (by decide) (by have := ktxt_size ((ni : Nat) : Int) (by omega); exact Nat.le_trans this (by omega))) (by omega) (by omega) (by rw [List.length_append]; omega)).mono ?_
      rintro e x1 ⟨rfl, BD2, b2⟩
      replace BL := BL.trans b2
      replace BD := BD2
      clear BD2 b2 hSt2
      obtain ⟨l0, hl0⟩ : ∃ x, hd ++ treesT N T i ++ lnT 2 (two7 { data := #[116, 114, 101, 101] } (ktxt (ni : Int))) = x := ⟨_, rfl⟩
      have HL0 : Hid (hd ++ treesT N T i ++ lnT 2 (two7 { data := #[116, 114, 101, 101] } (ktxt (ni : Int))) = l0) := hl0
      have hll : l0.length ≤ 110000 := by rw [← hl0, List.length_append, List.length_append]; have h2 := tree_len ni (by omega); omega
      have BD1 : Bld w1.heap.size x1 w1.heap.size (l0 ++ nodesT (T i) 0) := by rw [nodesT, List.append_nil, ← hl0]; exact BD
      clear BD hl0 htl
      go_wp2
      go_loopw [39] (fun vj wr => ∃ j : Nat, j ≤ ni ∧ vj = .int .i64 (j : Int) ∧ Bld w1.heap.size wr w1.heap.size (l0 ++ nodesT (T i) j) ∧ Below w1.heap.size w1 wr) (fun vj _ => ni - (intOf vj).toNat)
      case atStart => exact ⟨0, by omega, rfl, BD1, BL⟩
      case round =>
        clear BD1 BL
        obtain ⟨j, hj, rfl, BD, BL⟩ := hrel
        by_cases hlj : j < ni
        · have g2 : (j : Int) < (ni : Int) := by omega
          have g3 : (0 : Int) ≤ (j : Int) := by omega
          have TR1 := TR0.below BL
          have hWR := (HWR.out i hlt).2 j (by rw [HNI.out]; exact hlj)
          have hnl := nodes_len (T i) j (fun q hq => (HWR.out i hlt).2 q (by rw [HNI.out]; omega))
          have BB : Below w1.heap.size w1 wr := BL
          clear BL
          obtain ⟨b, off, cc, p1, a1, n1, c1, b1, m1, d1, p2, a2, n2, c2, b2, m2, d2, p3, a3, n3, c3, b3, m3, d3, hvv, hcc, hc6, NN, r1, r2, r3, i1, i2, i3⟩ := TR1.at hlj
          cases hvv
          obtain ⟨N_0, N_1, N_2, N_3, N_4, N_5, N_6, N_7, N_8, N_9, N_10, N_11, N_12, N_13⟩ := id NN
          obtain ⟨W1, hW1, hS1, hL1, VN, FN⟩ := V14.lay wr 41 (.bool ((T i) j).leaf) (.int .i64 ((T i) j).feat) (.bool p1) (.slice a1 n1 c1) (.slice b1 m1 d1) (.int .i64 ((T i) j).left) (.int .i64 ((T i) j).right) (.bool ((T i) j).miss) (.bool p2) (.slice a2 n2 c2) (.slice b2 m2 d2) (.bool p3) (.slice a3 n3 c3) (.slice b3 m3 d3)
          replace r1 := r1.below hL1
          replace r2 := r2.below hL1
          replace r3 := r3.below hL1
          replace BD := BD.below hL1
          replace BB := BB.trans (hL1.mono BB.size)
          clear hL1
          obtain ⟨V_0, V_1, V_2, V_3, V_4, V_5, V_6, V_7, V_8, V_9, V_10, V_11, V_12, V_13⟩ := id VN
          rw [hW1] at V_0 V_1 V_2 V_3 V_4 V_5 V_6 V_7 V_8 V_9 V_10 V_11 V_12 V_13
          go_wp2_with fail
          clear V_0 V_1 V_2 V_3 V_4 V_5 V_6 V_7 V_8 V_9 V_10 V_11 V_12 V_13
          clear N_0 N_1 N_2 N_3 N_4 N_5 N_6 N_7 N_8 N_9 N_10 N_11 N_12 N_13
          rw [← hW1]
          generalize wr.heap.size = R1 at *
          clear hW1 hS1
          have BL := BB
          clear BB
          clear NN TR1
          refine (nwords_at (T i j) _ _ _ _ _ _ _ _ _ _ _ _ _ _ _ _ _ _ _ _ _ 4 _ r1 r2 r3 hWR.1 (by omega) (by omega) (ht0.below BL) (hp0.below BL)).mono ?_
          rintro e w5 ⟨gw, rfl, hSt, b2⟩
          replace BL := BL.trans (b2.mono BL.size)
          replace BD := BD.below b2
          clear b2 r1 r2 r3 VN FN
          obtain ⟨hs1, hs2⟩ := nw_size _ hWR
          go_wp2_with fail
          refine (wline_at BD hSt hs2 (by omega) (Nat.le_refl _) (by rw [List.length_append]; omega)).mono ?_
          rintro e w6 ⟨rfl, BD2, b2⟩
          replace BL := BL.trans b2
          clear b2 hSt hs1 hs2 BD
          have BD3 : Bld w1.heap.size w6 w1.heap.size (l0 ++ nodesT (T i) (j + 1)) := by rw [nodesT, ← List.append_assoc]; exact BD2
          clear BD2
          go_wp2
          go_roundw
          case rel => exact ⟨j + 1, by omega, by go_num, BD3, BL⟩
          case measure => simp [intOf]; omega
        · obtain rfl : j = ni := by omega
          have g2 : ¬ (j : Int) < (j : Int) := by omega
          have BD3 : Bld w1.heap.size wr w1.heap.size (hd ++ treesT N T (i + 1)) := by rw [treesT, HNI.out, ← List.append_assoc, ← List.append_assoc, HL0.out]; exact BD
          clear BD
          go_wp2
          go_roundw
          case rel => exact ⟨i + 1, by omega, by go_num, BD3, BL⟩
          case measure => simp [intOf]; omega
    · obtain rfl : i = k := by omega
      have g1 : ¬ (i : Int) < (i : Int) := by omega
      have htl := trees_len N T i (fun j hj => HWR.out j (by omega))
      obtain ⟨W9, hW9, hS9, hL9, hSt⟩ := strs_lay wr 9 [{ data := #[101, 110, 100] }] #[.string { data := #[101, 110, 100] }] rfl
      go_wp2_with fail
      rw [← hW9]
      replace BD := BD.below hL9
      replace BL := BL.trans (hL9.mono BL.size)
      have hSt2 : StrC W9 wr.heap.size 1 (one7 { data := #[101, 110, 100] }) := ⟨hSt.1, fun j hj => by rw [hSt.2 j hj]; rfl⟩
      clear hW9 hS9 hL9 hSt
      refine (wline_at BD hSt2 (one_size _ (by decide)) (by omega) (by omega) (by rw [List.length_append]; omega)).mono ?_
      rintro e x1 ⟨rfl, BD2, b2⟩
      replace BL := BL.trans b2
      replace BD := BD2
      clear BD2 b2 hSt2
      go_wp2_with fail
      refine (bstr_at BD).mono ?_
      rintro e w7 ⟨rfl, b2⟩
      replace BL := BL.trans b2
      have HT : Hid (hd ++ treesT N T i ++ lnT 1 (one7 { data := #[101, 110, 100] }) = modT (fn : Int) i N T) := by rw [← HHD.out]; rfl
      rw [HT.out]
      clear BD b2 htl
      obtain ⟨tx, htx⟩ : ∃ x, modT (fn : Int) i N T = x := ⟨_, rfl⟩
      have HTX : Hid (modT (fn : Int) i N T = tx) := htx
      rw [htx]
      clear htx HT
      dsimp only
      repeat go_step
      (try simp only [Exit.inBlock, Exit.then])
      refine bodyPost_ret (v := .tuple #[.string ⟨tx.toArray⟩, .int .i64 0]) (by simp [results, go_sem]) rfl ?_
      exact ⟨by rw [HTX.out], BB0.out.trans (BL.mono BB0.out.size)⟩

/-- A text of these bytes. -/
def byS (l : List UInt8) : ByteArray := ⟨l.toArray⟩
theorem byS_app (l : List UInt8) (x : ByteArray) : byS l ++ x = byS (l ++ x.data.toList) := by
  apply ByteArray.ext
  apply Array.toList_inj.1
  simp [byS, ByteArray.data_append]
theorem byS_size (l : List UInt8) : (byS l).size = l.length := by
  show l.toArray.size = _
  rw [List.size_toArray]
theorem ln2 (x y : ByteArray) : lnT 2 (two7 x y) = x.data.toList ++ [32] ++ y.data.toList ++ [10] := by
  simp [lnT, lineT, two7, List.range, List.range.loop, Lib.join_cons, Lib.joinTail]
theorem ln1 (x : ByteArray) : lnT 1 (one7 x) = x.data.toList ++ [10] := by
  simp [lnT, lineT, one7, List.range, List.range.loop, Lib.join_cons, Lib.joinTail]
theorem lnN (d : Nd) : lnT (nwL d).length (nwF d) = if d.leaf = true then [108, 101, 97, 102] ++ [32] ++ (qtxt d.val).data.toList ++ [32] ++ (qtxt d.cov).data.toList ++ [10] else [115, 112, 108, 105, 116] ++ [32] ++ (ktxt d.feat).data.toList ++ [32] ++ (qtxt d.cut).data.toList ++ [32] ++ (ktxt d.left).data.toList ++ [32] ++ (ktxt d.right).data.toList ++ [32] ++ (sideT d.miss).data.toList ++ [32] ++ (qtxt d.cov).data.toList ++ [10] := by
  unfold nwF nwL
  split
  · simp [lnT, lineT, List.range, List.range.loop, Lib.join_cons, Lib.joinTail]
  · simp [lnT, lineT, List.range, List.range.loop, Lib.join_cons, Lib.joinTail]


set_option maxRecDepth 100000 in
set_option maxHeartbeats 8000000 in
theorem ltext_at (F : Int) (v : Value) (k : Nat) (N : Nat → Nat) (T : Nat → Nat → Nd) (w : World) (hv : MRow w v k N T 4) (h : mfit F k N T = true) (hk : k ≤ 6) (hN : ∀ i, i < k → N i ≤ 15) (ht : Tab w) :
    Calls Tryd.prog 10 #[.agg #[.int .i64 F, v]] w fun e w' => e = .returned (.string (byS (modT F k N T))) ∧ Below w.heap.size w w' := by
  obtain ⟨ao, c, rfl, hnc, hc63⟩ := hv.open
  obtain ⟨Wb0, hW0, hS0, hL0, VM0⟩ := V2.lay w 24 (.int .i64 F) (.slice ao k c)
  have hms := mfit_is h
  obtain ⟨fn, rfl⟩ : ∃ fn : Nat, F = (fn : Int) := ⟨F.toNat, by omega⟩
  have hfn : fn ≤ 64 := by omega
  have HWR : Hid (∀ i, i < k → N i ≤ 15 ∧ ∀ j, j < N i → WrN (T i j)) := fun i hi => ⟨hN i hi, fun j hj => hv.wr h hi hj⟩
  clear hms hN
  have hv0 := hv.below hL0
  have ht0 := ht.below hL0
  have BB0 : Hid (Below w.heap.size w Wb0) := hL0
  clear hv ht hL0 h
  have BL : Below Wb0.heap.size Wb0 Wb0 := Below.refl _ _
  go_enter Tryd.func10, Tryd.ntmps10
  go_wp2_with fail
  rw [← hW0]
  clear hW0 hS0
  have sF := ktxt_size (fn : Int) (by omega)
  have sK := ktxt_size (k : Int) (by omega)
  obtain ⟨tF, htF⟩ : ∃ y, ktxt (fn : Int) = y := ⟨_, rfl⟩
  have HTF : Hid (ktxt (fn : Int) = tF) := htF
  obtain ⟨tK, htK⟩ : ∃ y, ktxt (k : Int) = y := ⟨_, rfl⟩
  have HTK : Hid (ktxt (k : Int) = tK) := htK
  rw [htF] at sF
  rw [htK] at sK
  have CF := fun W (hT : Tab W) => ldigits_at fn W (by omega) hT
  have CK := fun W (hT : Tab W) => ldigits_at k W (by omega) hT
  rw [htF] at CF
  rw [htK] at CK
  clear htF htK
  have BB := BL
  have VMB := VM0
  have htB := ht0
  clear BL
  refine wp_region_until 11 #[true, true, true, true, true, true, true, true, true, true, true, false] (fun aF lsd a' w' => ∃ vu0 vu1 vu2 vu3 vu4 vu5 vu6 vu7 vu8 vu9 vu10 : Value, a' = ((((((((((aF.put (some 8) vu0).put (some 9) vu1).put (some 10) vu2).put (some 11) vu3).put (some 12) vu4).put (some 13) vu5).put (some 14) vu6).put (some 15) vu7).put (some 16) vu8).put (some 17) vu9).put (some 18) vu10 ∧ Below Wb0.heap.size Wb0 w' ∧ (lsd.getD 0 false = true → vu0 = .pointer (some ⟨w.heap.size, 0, none⟩)) ∧ (lsd.getD 1 false = true → vu1 = .int .i64 (fn : Int)) ∧ (lsd.getD 2 false = true → vu2 = .string tF) ∧ (lsd.getD 3 false = true → vu3 = .string ({ data := #[100, 101, 110, 100, 114, 111, 110, 32, 49, 10, 102, 101, 97, 116, 117, 114, 101, 115, 32] } ++ tF)) ∧ (lsd.getD 4 false = true → vu4 = .string ({ data := #[100, 101, 110, 100, 114, 111, 110, 32, 49, 10, 102, 101, 97, 116, 117, 114, 101, 115, 32] } ++ tF ++ { data := #[10, 116, 114, 101, 101, 115, 32] })) ∧ (lsd.getD 5 false = true → vu5 = .pointer (some ⟨w.heap.size, 1, none⟩)) ∧ (lsd.getD 6 false = true → vu6 = .slice ao k c) ∧ (lsd.getD 7 false = true → vu7 = .int .i64 (k : Int)) ∧ (lsd.getD 8 false = true → vu8 = .string tK) ∧ (lsd.getD 9 false = true → vu9 = .string ({ data := #[100, 101, 110, 100, 114, 111, 110, 32, 49, 10, 102, 101, 97, 116, 117, 114, 101, 115, 32] } ++ tF ++ { data := #[10, 116, 114, 101, 101, 115, 32] } ++ tK)) ∧ (lsd.getD 10 false = true → vu10 = .string ({ data := #[100, 101, 110, 100, 114, 111, 110, 32, 49, 10, 102, 101, 97, 116, 117, 114, 101, 115, 32] } ++ tF ++ { data := #[10, 116, 114, 101, 101, 115, 32] } ++ tK ++ { data := #[10] }))) (by kernel_rfl) (by decide) (by kernel_rfl) (by rfl) (by kernel_rfl) ?_ ?_ ?_
  · exact ⟨_, _, _, _, _, _, _, _, _, _, _, by simp only [Act.put, List.setIfInBounds_toArray, List.set_cons_zero, List.set_cons_succ]; rfl, (Below.refl _ _).drew, fun h => absurd h (fun h => mark_none h), fun h => absurd h (fun h => mark_none h), fun h => absurd h (fun h => mark_none h), fun h => absurd h (fun h => mark_none h), fun h => absurd h (fun h => mark_none h), fun h => absurd h (fun h => mark_none h), fun h => absurd h (fun h => mark_none h), fun h => absurd h (fun h => mark_none h), fun h => absurd h (fun h => mark_none h), fun h => absurd h (fun h => mark_none h), fun h => absurd h (fun h => mark_none h)⟩
  · rintro lsd au wn iu hszu ⟨vu0, vu1, vu2, vu3, vu4, vu5, vu6, vu7, vu8, vu9, vu10, rfl, hbu, fu0, fu1, fu2, fu3, fu4, fu5, fu6, fu7, fu8, fu9, fu10⟩ himu hru
    rcases (show iu = 0 ∨ iu = 1 ∨ iu = 2 ∨ iu = 3 ∨ iu = 4 ∨ iu = 5 ∨ iu = 6 ∨ iu = 7 ∨ iu = 8 ∨ iu = 9 ∨ iu = 10 by omega) with rfl | rfl | rfl | rfl | rfl | rfl | rfl | rfl | rfl | rfl | rfl
    · refine wpOp_shut (by rfl) (fun K hK => ?_)
      simp only [Act.put, List.setIfInBounds_toArray, List.set_cons_zero, List.set_cons_succ]
      go_simp
      exact hK.out _ _ ⟨(.pointer (some ⟨w.heap.size, 0, none⟩)), vu1, vu2, vu3, vu4, vu5, vu6, vu7, vu8, vu9, vu10, by simp only [Act.put, List.setIfInBounds_toArray, List.set_cons_zero, List.set_cons_succ], hbu, fun _ => rfl, fun h => fu1 (mark_of (by decide) h), fun h => fu2 (mark_of (by decide) h), fun h => fu3 (mark_of (by decide) h), fun h => fu4 (mark_of (by decide) h), fun h => fu5 (mark_of (by decide) h), fun h => fu6 (mark_of (by decide) h), fun h => fu7 (mark_of (by decide) h), fun h => fu8 (mark_of (by decide) h), fun h => fu9 (mark_of (by decide) h), fun h => fu10 (mark_of (by decide) h)⟩
    · have eu0 := fu0 (dep_of 0 hru rfl (by kernel_rfl))
      replace eu0 := eu0.symm
      subst eu0
      refine wpOp_shut (by rfl) (fun K hK => ?_)
      simp only [Act.put, List.setIfInBounds_toArray, List.set_cons_zero, List.set_cons_succ]
      obtain ⟨VM_0, VM_1, VM_2, VM_3⟩ := VM0.below hbu
      go_simp
      exact hK.out _ _ ⟨(.pointer (some ⟨w.heap.size, 0, none⟩)), (.int .i64 (fn : Int)), vu2, vu3, vu4, vu5, vu6, vu7, vu8, vu9, vu10, by simp only [Act.put, List.setIfInBounds_toArray, List.set_cons_zero, List.set_cons_succ], hbu, fun _ => rfl, fun _ => rfl, fun h => fu2 (mark_of (by decide) h), fun h => fu3 (mark_of (by decide) h), fun h => fu4 (mark_of (by decide) h), fun h => fu5 (mark_of (by decide) h), fun h => fu6 (mark_of (by decide) h), fun h => fu7 (mark_of (by decide) h), fun h => fu8 (mark_of (by decide) h), fun h => fu9 (mark_of (by decide) h), fun h => fu10 (mark_of (by decide) h)⟩
    · have eu1 := fu1 (dep_of 1 hru rfl (by kernel_rfl))
      replace eu1 := eu1.symm
      subst eu1
      refine wpOp_shut (by rfl) (fun K hK => ?_)
      simp only [Act.put, List.setIfInBounds_toArray, List.set_cons_zero, List.set_cons_succ]
      have ht0 := ht0.below hbu
      go_simp
      refine (CF wn ht0).mono ?_
      rintro eu wx ⟨rfl, bu⟩
      go_wp2_with fail
      have hbu2 := hbu.trans (bu.mono hbu.size)
      exact hK.out _ _ ⟨vu0, (.int .i64 (fn : Int)), (.string tF), vu3, vu4, vu5, vu6, vu7, vu8, vu9, vu10, by simp only [Act.put, List.setIfInBounds_toArray, List.set_cons_zero, List.set_cons_succ], hbu2, fun h => fu0 (mark_of (by decide) h), fun _ => rfl, fun _ => rfl, fun h => fu3 (mark_of (by decide) h), fun h => fu4 (mark_of (by decide) h), fun h => fu5 (mark_of (by decide) h), fun h => fu6 (mark_of (by decide) h), fun h => fu7 (mark_of (by decide) h), fun h => fu8 (mark_of (by decide) h), fun h => fu9 (mark_of (by decide) h), fun h => fu10 (mark_of (by decide) h)⟩
    · have eu2 := fu2 (dep_of 2 hru rfl (by kernel_rfl))
      replace eu2 := eu2.symm
      subst eu2
      refine wpOp_shut (by rfl) (fun K hK => ?_)
      simp only [Act.put, List.setIfInBounds_toArray, List.set_cons_zero, List.set_cons_succ]
      have nn : ¬ 9223372036854775807 < 19 + tF.size := by omega
      go_simp
      exact hK.out _ _ ⟨vu0, vu1, (.string tF), (.string ({ data := #[100, 101, 110, 100, 114, 111, 110, 32, 49, 10, 102, 101, 97, 116, 117, 114, 101, 115, 32] } ++ tF)), vu4, vu5, vu6, vu7, vu8, vu9, vu10, by simp only [Act.put, List.setIfInBounds_toArray, List.set_cons_zero, List.set_cons_succ], hbu, fun h => fu0 (mark_of (by decide) h), fun h => fu1 (mark_of (by decide) h), fun _ => rfl, fun _ => rfl, fun h => fu4 (mark_of (by decide) h), fun h => fu5 (mark_of (by decide) h), fun h => fu6 (mark_of (by decide) h), fun h => fu7 (mark_of (by decide) h), fun h => fu8 (mark_of (by decide) h), fun h => fu9 (mark_of (by decide) h), fun h => fu10 (mark_of (by decide) h)⟩
    · have eu3 := fu3 (dep_of 3 hru rfl (by kernel_rfl))
      replace eu3 := eu3.symm
      subst eu3
      refine wpOp_shut (by rfl) (fun K hK => ?_)
      simp only [Act.put, List.setIfInBounds_toArray, List.set_cons_zero, List.set_cons_succ]
      have nn : ¬ 9223372036854775807 < 19 + tF.size + 7 := by omega
      go_simp
      exact hK.out _ _ ⟨vu0, vu1, vu2, (.string ({ data := #[100, 101, 110, 100, 114, 111, 110, 32, 49, 10, 102, 101, 97, 116, 117, 114, 101, 115, 32] } ++ tF)), (.string ({ data := #[100, 101, 110, 100, 114, 111, 110, 32, 49, 10, 102, 101, 97, 116, 117, 114, 101, 115, 32] } ++ tF ++ { data := #[10, 116, 114, 101, 101, 115, 32] })), vu5, vu6, vu7, vu8, vu9, vu10, by simp only [Act.put, List.setIfInBounds_toArray, List.set_cons_zero, List.set_cons_succ], hbu, fun h => fu0 (mark_of (by decide) h), fun h => fu1 (mark_of (by decide) h), fun h => fu2 (mark_of (by decide) h), fun _ => rfl, fun _ => rfl, fun h => fu5 (mark_of (by decide) h), fun h => fu6 (mark_of (by decide) h), fun h => fu7 (mark_of (by decide) h), fun h => fu8 (mark_of (by decide) h), fun h => fu9 (mark_of (by decide) h), fun h => fu10 (mark_of (by decide) h)⟩
    · refine wpOp_shut (by rfl) (fun K hK => ?_)
      simp only [Act.put, List.setIfInBounds_toArray, List.set_cons_zero, List.set_cons_succ]
      go_simp
      exact hK.out _ _ ⟨vu0, vu1, vu2, vu3, vu4, (.pointer (some ⟨w.heap.size, 1, none⟩)), vu6, vu7, vu8, vu9, vu10, by simp only [Act.put, List.setIfInBounds_toArray, List.set_cons_zero, List.set_cons_succ], hbu, fun h => fu0 (mark_of (by decide) h), fun h => fu1 (mark_of (by decide) h), fun h => fu2 (mark_of (by decide) h), fun h => fu3 (mark_of (by decide) h), fun h => fu4 (mark_of (by decide) h), fun _ => rfl, fun h => fu6 (mark_of (by decide) h), fun h => fu7 (mark_of (by decide) h), fun h => fu8 (mark_of (by decide) h), fun h => fu9 (mark_of (by decide) h), fun h => fu10 (mark_of (by decide) h)⟩
    · have eu5 := fu5 (dep_of 5 hru rfl (by kernel_rfl))
      replace eu5 := eu5.symm
      subst eu5
      refine wpOp_shut (by rfl) (fun K hK => ?_)
      simp only [Act.put, List.setIfInBounds_toArray, List.set_cons_zero, List.set_cons_succ]
      obtain ⟨VM_0, VM_1, VM_2, VM_3⟩ := VM0.below hbu
      go_simp
      exact hK.out _ _ ⟨vu0, vu1, vu2, vu3, vu4, (.pointer (some ⟨w.heap.size, 1, none⟩)), (.slice ao k c), vu7, vu8, vu9, vu10, by simp only [Act.put, List.setIfInBounds_toArray, List.set_cons_zero, List.set_cons_succ], hbu, fun h => fu0 (mark_of (by decide) h), fun h => fu1 (mark_of (by decide) h), fun h => fu2 (mark_of (by decide) h), fun h => fu3 (mark_of (by decide) h), fun h => fu4 (mark_of (by decide) h), fun _ => rfl, fun _ => rfl, fun h => fu7 (mark_of (by decide) h), fun h => fu8 (mark_of (by decide) h), fun h => fu9 (mark_of (by decide) h), fun h => fu10 (mark_of (by decide) h)⟩
    · have eu6 := fu6 (dep_of 6 hru rfl (by kernel_rfl))
      replace eu6 := eu6.symm
      subst eu6
      refine wpOp_shut (by rfl) (fun K hK => ?_)
      simp only [Act.put, List.setIfInBounds_toArray, List.set_cons_zero, List.set_cons_succ]
      go_simp
      exact hK.out _ _ ⟨vu0, vu1, vu2, vu3, vu4, vu5, (.slice ao k c), (.int .i64 (k : Int)), vu8, vu9, vu10, by simp only [Act.put, List.setIfInBounds_toArray, List.set_cons_zero, List.set_cons_succ], hbu, fun h => fu0 (mark_of (by decide) h), fun h => fu1 (mark_of (by decide) h), fun h => fu2 (mark_of (by decide) h), fun h => fu3 (mark_of (by decide) h), fun h => fu4 (mark_of (by decide) h), fun h => fu5 (mark_of (by decide) h), fun _ => rfl, fun _ => rfl, fun h => fu8 (mark_of (by decide) h), fun h => fu9 (mark_of (by decide) h), fun h => fu10 (mark_of (by decide) h)⟩
    · have eu2 := fu2 (dep_of 2 hru rfl (by kernel_rfl))
      have eu7 := fu7 (dep_of 7 hru rfl (by kernel_rfl))
      replace eu2 := eu2.symm
      subst eu2
      replace eu7 := eu7.symm
      subst eu7
      refine wpOp_shut (by rfl) (fun K hK => ?_)
      simp only [Act.put, List.setIfInBounds_toArray, List.set_cons_zero, List.set_cons_succ]
      have ht0 := ht0.below hbu
      go_simp
      refine (CK wn ht0).mono ?_
      rintro eu wx ⟨rfl, bu⟩
      go_wp2_with fail
      have hbu2 := hbu.trans (bu.mono hbu.size)
      exact hK.out _ _ ⟨vu0, vu1, (.string tF), vu3, vu4, vu5, vu6, (.int .i64 (k : Int)), (.string tK), vu9, vu10, by simp only [Act.put, List.setIfInBounds_toArray, List.set_cons_zero, List.set_cons_succ], hbu2, fun h => fu0 (mark_of (by decide) h), fun h => fu1 (mark_of (by decide) h), fun _ => rfl, fun h => fu3 (mark_of (by decide) h), fun h => fu4 (mark_of (by decide) h), fun h => fu5 (mark_of (by decide) h), fun h => fu6 (mark_of (by decide) h), fun _ => rfl, fun _ => rfl, fun h => fu9 (mark_of (by decide) h), fun h => fu10 (mark_of (by decide) h)⟩
    · have eu4 := fu4 (dep_of 4 hru rfl (by kernel_rfl))
      have eu8 := fu8 (dep_of 8 hru rfl (by kernel_rfl))
      replace eu4 := eu4.symm
      subst eu4
      replace eu8 := eu8.symm
      subst eu8
      refine wpOp_shut (by rfl) (fun K hK => ?_)
      simp only [Act.put, List.setIfInBounds_toArray, List.set_cons_zero, List.set_cons_succ]
      have nn : ¬ 9223372036854775807 < 19 + tF.size + 7 + tK.size := by omega
      go_simp
      exact hK.out _ _ ⟨vu0, vu1, vu2, vu3, (.string ({ data := #[100, 101, 110, 100, 114, 111, 110, 32, 49, 10, 102, 101, 97, 116, 117, 114, 101, 115, 32] } ++ tF ++ { data := #[10, 116, 114, 101, 101, 115, 32] })), vu5, vu6, vu7, (.string tK), (.string ({ data := #[100, 101, 110, 100, 114, 111, 110, 32, 49, 10, 102, 101, 97, 116, 117, 114, 101, 115, 32] } ++ tF ++ { data := #[10, 116, 114, 101, 101, 115, 32] } ++ tK)), vu10, by simp only [Act.put, List.setIfInBounds_toArray, List.set_cons_zero, List.set_cons_succ], hbu, fun h => fu0 (mark_of (by decide) h), fun h => fu1 (mark_of (by decide) h), fun h => fu2 (mark_of (by decide) h), fun h => fu3 (mark_of (by decide) h), fun _ => rfl, fun h => fu5 (mark_of (by decide) h), fun h => fu6 (mark_of (by decide) h), fun h => fu7 (mark_of (by decide) h), fun _ => rfl, fun _ => rfl, fun h => fu10 (mark_of (by decide) h)⟩
    · have eu9 := fu9 (dep_of 9 hru rfl (by kernel_rfl))
      replace eu9 := eu9.symm
      subst eu9
      refine wpOp_shut (by rfl) (fun K hK => ?_)
      simp only [Act.put, List.setIfInBounds_toArray, List.set_cons_zero, List.set_cons_succ]
      have nn : ¬ 9223372036854775807 < 19 + tF.size + 7 + tK.size + 1 := by omega
      go_simp
      exact hK.out _ _ ⟨vu0, vu1, vu2, vu3, vu4, vu5, vu6, vu7, vu8, (.string ({ data := #[100, 101, 110, 100, 114, 111, 110, 32, 49, 10, 102, 101, 97, 116, 117, 114, 101, 115, 32] } ++ tF ++ { data := #[10, 116, 114, 101, 101, 115, 32] } ++ tK)), (.string ({ data := #[100, 101, 110, 100, 114, 111, 110, 32, 49, 10, 102, 101, 97, 116, 117, 114, 101, 115, 32] } ++ tF ++ { data := #[10, 116, 114, 101, 101, 115, 32] } ++ tK ++ { data := #[10] })), by simp only [Act.put, List.setIfInBounds_toArray, List.set_cons_zero, List.set_cons_succ], hbu, fun h => fu0 (mark_of (by decide) h), fun h => fu1 (mark_of (by decide) h), fun h => fu2 (mark_of (by decide) h), fun h => fu3 (mark_of (by decide) h), fun h => fu4 (mark_of (by decide) h), fun h => fu5 (mark_of (by decide) h), fun h => fu6 (mark_of (by decide) h), fun h => fu7 (mark_of (by decide) h), fun h => fu8 (mark_of (by decide) h), fun _ => rfl, fun _ => rfl⟩
  rintro au Wu1 ⟨vu0, vu1, vu2, vu3, vu4, vu5, vu6, vu7, vu8, vu9, vu10, rfl, hbu, fu0, fu1, fu2, fu3, fu4, fu5, fu6, fu7, fu8, fu9, fu10⟩
  have eu0 := (fu0 rfl).symm
  subst eu0
  have eu1 := (fu1 rfl).symm
  subst eu1
  have eu2 := (fu2 rfl).symm
  subst eu2
  have eu3 := (fu3 rfl).symm
  subst eu3
  have eu4 := (fu4 rfl).symm
  subst eu4
  have eu5 := (fu5 rfl).symm
  subst eu5
  have eu6 := (fu6 rfl).symm
  subst eu6
  have eu7 := (fu7 rfl).symm
  subst eu7
  have eu8 := (fu8 rfl).symm
  subst eu8
  have eu9 := (fu9 rfl).symm
  subst eu9
  have eu10 := (fu10 rfl).symm
  subst eu10
  clear fu0 fu1 fu2 fu3 fu4 fu5 fu6 fu7 fu8 fu9 fu10
  replace VM0 := VM0.below hbu
  replace ht0 := ht0.below hbu
  replace BB := BB.trans (hbu.mono BB.size)
  clear hbu
  simp only [Act.put, List.setIfInBounds_toArray, List.set_cons_zero, List.set_cons_succ]
  refine wpAnyH_ready (rs := [11]) (by kernel_rfl) (by simp) ?_
  refine AllReadyH.cons (by rfl) (fun K hK => ?_) AllReadyH.nil
  go_simp
  refine hK.out _ _ trivial (fun _ => ?_)
  clear hK K
  simp only [Act.put, List.setIfInBounds_toArray, List.set_cons_zero, List.set_cons_succ]
  refine wpAnyH_done (by kernel_rfl) ?_ _
  clear VM0 ht0
  obtain ⟨s0, hs0⟩ : ∃ y, { data := #[100, 101, 110, 100, 114, 111, 110, 32, 49, 10, 102, 101, 97, 116, 117, 114, 101, 115, 32] } ++ tF ++ { data := #[10, 116, 114, 101, 101, 115, 32] } ++ tK ++ { data := #[10] } = y := ⟨_, rfl⟩
  have HS0 : s0 = byS (headT (fn : Int) k ++ treesT N T 0) := by
      rw [← hs0]
      apply ByteArray.ext
      apply Array.toList_inj.1
      unfold headT
      rw [ln2, ln2, ln2, HTF.out, HTK.out]
      simp [treesT, byS, ByteArray.data_append]
  rw [hs0, HS0]
  clear hs0 HS0 s0 sF sK CF CK
  have hhd := head_len (fn : Int) k (by omega) (by omega)
  obtain ⟨hd, hhD⟩ : ∃ x, headT (fn : Int) k = x := ⟨_, rfl⟩
  have HHD : Hid (headT (fn : Int) k = hd) := hhD
  rw [hhD] at hhd ⊢
  clear hhD
  have BL := BB
  clear BB
  go_wp2
  have hsz0 : Hid (True) := trivial
  go_loopw [3, 4] (fun vs vi wr => ∃ i : Nat, i ≤ k ∧ vs = .string (byS (hd ++ treesT N T i)) ∧ vi = .int .i64 (i : Int) ∧ Below Wb0.heap.size Wb0 wr) (fun _ vi _ => k - (intOf vi).toNat)
  case atStart => exact ⟨0, by omega, rfl, rfl, BL⟩
  case round =>
    clear BL
    obtain ⟨i, hi, rfl, rfl, BL⟩ := hrel
    have htl := trees_len N T i (fun j hj => HWR.out j (by omega))
    obtain ⟨s, hs⟩ : ∃ y, byS (hd ++ treesT N T i) = y := ⟨_, rfl⟩
    have HS : Hid (byS (hd ++ treesT N T i) = s) := hs
    have hsz : s.size ≤ 100000 := by rw [← hs, byS_size, List.length_append]; omega
    rw [hs]
    clear hs
    obtain ⟨VM_0, VM_1, VM_2, VM_3⟩ := VMB.below BL
    by_cases hlt : i < k
    · have g1 : (i : Int) < (k : Int) := by omega
      have g0 : (0 : Int) ≤ (i : Int) := by omega
      obtain ⟨bt, ot, ct, at_, dt, hvv, hcc, XC0, TR0⟩ := hv0.at hlt
      cases hvv
      have XC := (BL.cell (World.block_lt_of_cell? _ _ XC0)).trans XC0
      have hni := (HWR.out i hlt).1
      obtain ⟨ni, hNi⟩ : ∃ ni, N i = ni := ⟨_, rfl⟩
      have HNI : Hid (N i = ni) := hNi
      rw [hNi] at XC XC0 TR0 hni
      clear hNi
      have sN := ktxt_size (ni : Int) (by omega)
      obtain ⟨tN, htN⟩ : ∃ y, ktxt (ni : Int) = y := ⟨_, rfl⟩
      have CN := fun W (hT : Tab W) => ldigits_at ni W (by omega) hT
      rw [htN] at sN CN
      obtain ⟨l0, hl0⟩ : ∃ x, hd ++ treesT N T i ++ lnT 2 (two7 { data := #[116, 114, 101, 101] } (ktxt (ni : Int))) = x := ⟨_, rfl⟩
      have HL0 : Hid (hd ++ treesT N T i ++ lnT 2 (two7 { data := #[116, 114, 101, 101] } (ktxt (ni : Int))) = l0) := hl0
      have hll : l0.length ≤ 110000 := by rw [← hl0, List.length_append, List.length_append]; have h2 := tree_len ni (by omega); omega
      have HE : Hid (s ++ { data := #[116, 114, 101, 101, 32] } ++ tN ++ { data := #[10] } = byS (l0 ++ nodesT (T i) 0)) := by
              show _ = _
              rw [← hl0, ln2, htN, ← HS.out]
              apply ByteArray.ext
              apply Array.toList_inj.1
              simp [nodesT, byS, ByteArray.data_append]
      clear htN hl0 htl
      have nz1 : ¬ 9223372036854775807 < s.size + 5 := by omega
      have nz2 : ¬ 9223372036854775807 < s.size + 5 + tN.size := by omega
      have nz3 : ¬ 9223372036854775807 < s.size + 5 + tN.size + 1 := by omega
      go_wp2_with fail
      refine (CN _ (htB.below BL)).mono ?_
      rintro e w5 ⟨rfl, b2⟩
      replace BL := BL.trans (b2.mono BL.size)
      clear b2 CN VM_0 VM_1 VM_2 VM_3 XC
      obtain ⟨VM_0, VM_1, VM_2, VM_3⟩ := VMB.below BL
      have XC := (BL.cell (World.block_lt_of_cell? _ _ XC0)).trans XC0
      go_wp2
      rw [HE.out]
      clear VM_0 VM_1 VM_2 VM_3 XC nz1 nz2 nz3 HE sN
      go_loopw [3, 5] (fun vs vj wr => ∃ j : Nat, j ≤ ni ∧ vs = .string (byS (l0 ++ nodesT (T i) j)) ∧ vj = .int .i64 (j : Int) ∧ Below Wb0.heap.size Wb0 wr) (fun _ vj _ => ni - (intOf vj).toNat)
      case atStart => exact ⟨0, by omega, rfl, rfl, BL⟩
      case round =>
        clear BL hsz HS
        obtain ⟨j, hj, rfl, rfl, BL⟩ := hrel
        have hnl := nodes_len (T i) j (fun q hq => (HWR.out i hlt).2 q (by rw [HNI.out]; omega))
        obtain ⟨s, hs⟩ : ∃ y, byS (l0 ++ nodesT (T i) j) = y := ⟨_, rfl⟩
        have HS : Hid (byS (l0 ++ nodesT (T i) j) = s) := hs
        have hsz : s.size ≤ 130000 := by rw [← hs, byS_size, List.length_append]; omega
        rw [hs]
        clear hs hnl
        obtain ⟨VM_0, VM_1, VM_2, VM_3⟩ := VMB.below BL
        have XC := (BL.cell (World.block_lt_of_cell? _ _ XC0)).trans XC0
        by_cases hlj : j < ni
        · have g2 : (j : Int) < (ni : Int) := by omega
          have g3 : (0 : Int) ≤ (j : Int) := by omega
          have TR1 := TR0.below BL
          have hWR := (HWR.out i hlt).2 j (by rw [HNI.out]; exact hlj)
          obtain ⟨⟨w1, w2, w3, w4, w5, w6⟩, q1, q2, q3⟩ := hWR
          obtain ⟨b, off, cc, p1, a1, n1, c1, b1, m1, d1, p2, a2, n2, c2, b2, m2, d2, p3, a3, n3, c3, b3, m3, d3, hvv, hcc, hc6, NN, r1, r2, r3, i1, i2, i3⟩ := TR1.at hlj
          cases hvv
          clear TR1 i1 i2 i3
          obtain ⟨x1, hx1⟩ : ∃ x : Nat, (T i j).feat = (x : Int) := ⟨(T i j).feat.toNat, by omega⟩
          obtain ⟨x2, hx2⟩ : ∃ x : Nat, (T i j).left = (x : Int) := ⟨(T i j).left.toNat, by omega⟩
          obtain ⟨x3, hx3⟩ : ∃ x : Nat, (T i j).right = (x : Int) := ⟨(T i j).right.toNat, by omega⟩
          rw [hx1, hx2, hx3] at NN
          have e1 : x1 ≤ 64 := by omega
          have e2 : x2 ≤ 255 := by omega
          have e3 : x3 ≤ 255 := by omega
          have stq := qtxt_size _ _ q1
          obtain ⟨tq, htq⟩ : ∃ y, qtxt (T i j).cut = y := ⟨_, rfl⟩
          rw [htq] at stq
          have stv := qtxt_size _ _ q2
          obtain ⟨tv, htv⟩ : ∃ y, qtxt (T i j).val = y := ⟨_, rfl⟩
          rw [htv] at stv
          have stc := qtxt_size _ _ q3
          obtain ⟨tc, htc⟩ : ∃ y, qtxt (T i j).cov = y := ⟨_, rfl⟩
          rw [htc] at stc
          have Ctq := fun W (hr : RatAt W (.agg #[.bool p1, .slice a1 n1 c1, .slice b1 m1 d1]) (T i j).cut 4) (hT : Tab W) => qprint_at _ _ 4 W hr (by omega) (by omega) hT
          rw [htq] at Ctq
          have Ctv := fun W (hr : RatAt W (.agg #[.bool p2, .slice a2 n2 c2, .slice b2 m2 d2]) (T i j).val 4) (hT : Tab W) => qprint_at _ _ 4 W hr (by omega) (by omega) hT
          rw [htv] at Ctv
          have Ctc := fun W (hr : RatAt W (.agg #[.bool p3, .slice a3 n3 c3, .slice b3 m3 d3]) (T i j).cov 4) (hT : Tab W) => qprint_at _ _ 4 W hr (by omega) (by omega) hT
          rw [htc] at Ctc
          have st1 := ktxt_size (x1 : Int) (by omega)
          obtain ⟨t1, ht1⟩ : ∃ y, ktxt (x1 : Int) = y := ⟨_, rfl⟩
          have Ct1 := fun W (hT : Tab W) => ldigits_at x1 W (by omega) hT
          rw [ht1] at st1 Ct1
          have st2 := ktxt_size (x2 : Int) (by omega)
          obtain ⟨t2, ht2⟩ : ∃ y, ktxt (x2 : Int) = y := ⟨_, rfl⟩
          have Ct2 := fun W (hT : Tab W) => ldigits_at x2 W (by omega) hT
          rw [ht2] at st2 Ct2
          have st3 := ktxt_size (x3 : Int) (by omega)
          obtain ⟨t3, ht3⟩ : ∃ y, ktxt (x3 : Int) = y := ⟨_, rfl⟩
          have Ct3 := fun W (hT : Tab W) => ldigits_at x3 W (by omega) hT
          rw [ht3] at st3 Ct3
          obtain ⟨lf, hlf⟩ : ∃ y, (T i j).leaf = y := ⟨_, rfl⟩
          obtain ⟨ms, hms⟩ : ∃ y, (T i j).miss = y := ⟨_, rfl⟩
          rw [hlf, hms] at NN
          have htT := htB.below BL
          cases lf
          · cases ms
            · obtain ⟨y1, hy1⟩ : ∃ y, s ++ { data := #[115, 112, 108, 105, 116, 32] } = y := ⟨_, rfl⟩
              have zy1 : y1.size = s.size + 6 := by rw [← hy1, ByteArray.size_append]; first | done | rfl
              obtain ⟨y2, hy2⟩ : ∃ y, y1 ++ t1 = y := ⟨_, rfl⟩
              have zy2 : y2.size = y1.size + t1.size := by rw [← hy2, ByteArray.size_append]; first | done | rfl
              obtain ⟨y3, hy3⟩ : ∃ y, y2 ++ { data := #[32] } = y := ⟨_, rfl⟩
              have zy3 : y3.size = y2.size + 1 := by rw [← hy3, ByteArray.size_append]; first | done | rfl
              obtain ⟨y4, hy4⟩ : ∃ y, y3 ++ tq = y := ⟨_, rfl⟩
              have zy4 : y4.size = y3.size + tq.size := by rw [← hy4, ByteArray.size_append]; first | done | rfl
              obtain ⟨y5, hy5⟩ : ∃ y, y4 ++ { data := #[32] } = y := ⟨_, rfl⟩
              have zy5 : y5.size = y4.size + 1 := by rw [← hy5, ByteArray.size_append]; first | done | rfl
              obtain ⟨y6, hy6⟩ : ∃ y, y5 ++ t2 = y := ⟨_, rfl⟩
              have zy6 : y6.size = y5.size + t2.size := by rw [← hy6, ByteArray.size_append]; first | done | rfl
              obtain ⟨y7, hy7⟩ : ∃ y, y6 ++ { data := #[32] } = y := ⟨_, rfl⟩
              have zy7 : y7.size = y6.size + 1 := by rw [← hy7, ByteArray.size_append]; first | done | rfl
              obtain ⟨y8, hy8⟩ : ∃ y, y7 ++ t3 = y := ⟨_, rfl⟩
              have zy8 : y8.size = y7.size + t3.size := by rw [← hy8, ByteArray.size_append]; first | done | rfl
              obtain ⟨y9, hy9⟩ : ∃ y, y8 ++ { data := #[32] } = y := ⟨_, rfl⟩
              have zy9 : y9.size = y8.size + 1 := by rw [← hy9, ByteArray.size_append]; first | done | rfl
              obtain ⟨y10, hy10⟩ : ∃ y, y9 ++ { data := #[109, 105, 115, 115, 45, 114, 105, 103, 104, 116] } = y := ⟨_, rfl⟩
              have zy10 : y10.size = y9.size + 10 := by rw [← hy10, ByteArray.size_append]; first | done | rfl
              have HE : Hid (y10 ++ { data := #[32] } ++ tc ++ { data := #[10] } = byS (l0 ++ nodesT (T i) (j + 1))) := by
                              show _ = _
                              rw [nodesT, lnN, hlf, if_neg (by simp), hx1, hx2, hx3, hms, htq, htc, ht1, ht2, ht3, ← hy10, ← hy9, ← hy8, ← hy7, ← hy6, ← hy5, ← hy4, ← hy3, ← hy2, ← hy1, ← HS.out]
                              apply ByteArray.ext
                              apply Array.toList_inj.1
                              simp [byS, sideT, ByteArray.data_append]
              clear hlf hms hx1 hx2 hx3 htq htv htc ht1 ht2 ht3 Ctv
              have nz1 : ¬ 9223372036854775807 < s.size + 6 := by omega
              have nz2 : ¬ 9223372036854775807 < y1.size + t1.size := by omega
              have nz3 : ¬ 9223372036854775807 < y2.size + 1 := by omega
              have nz4 : ¬ 9223372036854775807 < y3.size + tq.size := by omega
              have nz5 : ¬ 9223372036854775807 < y4.size + 1 := by omega
              have nz6 : ¬ 9223372036854775807 < y5.size + t2.size := by omega
              have nz7 : ¬ 9223372036854775807 < y6.size + 1 := by omega
              have nz8 : ¬ 9223372036854775807 < y7.size + t3.size := by omega
              have nz9 : ¬ 9223372036854775807 < y8.size + 1 := by omega
              have nz10 : ¬ 9223372036854775807 < y9.size + 10 := by omega
              have nz11 : ¬ 9223372036854775807 < y10.size + 1 := by omega
              have nz12 : ¬ 9223372036854775807 < y10.size + 1 + tc.size := by omega
              have nz13 : ¬ 9223372036854775807 < y10.size + 1 + tc.size + 1 := by omega
              clear zy1 zy2 zy3 zy4 zy5 zy6 zy7 zy8 zy9 zy10
              obtain ⟨N_0, N_1, N_2, N_3, N_4, N_5, N_6, N_7, N_8, N_9, N_10, N_11, N_12, N_13⟩ := id NN
              obtain ⟨W1, hW1, hS1, hL1, VN, FN⟩ := V14.lay wr 41 (.bool false) (.int .i64 (x1 : Int)) (.bool p1) (.slice a1 n1 c1) (.slice b1 m1 d1) (.int .i64 (x2 : Int)) (.int .i64 (x3 : Int)) (.bool false) (.bool p2) (.slice a2 n2 c2) (.slice b2 m2 d2) (.bool p3) (.slice a3 n3 c3) (.slice b3 m3 d3)
              replace r1 := r1.below hL1
              replace r2 := r2.below hL1
              replace r3 := r3.below hL1
              replace htT := htT.below hL1
              replace BL := BL.trans (hL1.mono BL.size)
              clear hL1
              obtain ⟨V_0, V_1, V_2, V_3, V_4, V_5, V_6, V_7, V_8, V_9, V_10, V_11, V_12, V_13⟩ := id VN
              rw [hW1] at V_0 V_1 V_2 V_3 V_4 V_5 V_6 V_7 V_8 V_9 V_10 V_11 V_12 V_13
              go_wp2_with fail
              clear VM_0 VM_1 VM_2 VM_3 XC NN FN N_0 V_0 N_1 V_1 N_2 V_2 N_3 V_3 N_4 V_4 N_5 V_5 N_6 V_6 N_7 V_7 N_8 V_8 N_9 V_9 N_10 V_10 N_11 V_11 N_12 V_12 N_13 V_13
              rw [← hW1]
              generalize wr.heap.size = R1 at *
              clear hW1 hS1
              clear r2
              have BB := BL
              clear BL
              refine wp_region_until 24 #[true, true, true, true, true, true, true, true, true, true, true, true, true, true, true, true, true, true, true, true, true, true, true, true, false] (fun aF lsd a' w' => ∃ vu0 vu1 vu2 vu3 vu4 vu5 vu6 vu7 vu8 vu9 vu10 vu11 vu12 vu13 vu14 vu15 vu16 vu17 vu18 vu19 vu20 vu21 vu22 vu23 : Value, a' = (((((((((((((((((((((((aF.put (some 65) vu0).put (some 66) vu1).put (some 67) vu2).put (some 68) vu3).put (some 69) vu4).put (some 70) vu5).put (some 71) vu6).put (some 72) vu7).put (some 73) vu8).put (some 74) vu9).put (some 75) vu10).put (some 76) vu11).put (some 77) vu12).put (some 78) vu13).put (some 79) vu14).put (some 80) vu15).put (some 81) vu16).put (some 82) vu17).put (some 83) vu18).put (some 84) vu19).put (some 85) vu20).put (some 86) vu21).put (some 87) vu22).put (some 88) vu23 ∧ Below W1.heap.size W1 w' ∧ (lsd.getD 0 false = true → vu0 = .string s) ∧ (lsd.getD 1 false = true → vu1 = .string y1) ∧ (lsd.getD 2 false = true → vu2 = .pointer (some ⟨R1, 1, none⟩)) ∧ (lsd.getD 3 false = true → vu3 = .int .i64 (x1 : Int)) ∧ (lsd.getD 4 false = true → vu4 = .string t1) ∧ (lsd.getD 5 false = true → vu5 = .string y2) ∧ (lsd.getD 6 false = true → vu6 = .string y3) ∧ (lsd.getD 7 false = true → vu7 = .pointer (some ⟨R1, 2, none⟩)) ∧ (lsd.getD 8 false = true → vu8 = .agg #[.bool p1, .slice a1 n1 c1, .slice b1 m1 d1]) ∧ (lsd.getD 9 false = true → vu9 = .string tq) ∧ (lsd.getD 10 false = true → vu10 = .string y4) ∧ (lsd.getD 11 false = true → vu11 = .string y5) ∧ (lsd.getD 12 false = true → vu12 = .pointer (some ⟨R1, 5, none⟩)) ∧ (lsd.getD 13 false = true → vu13 = .int .i64 (x2 : Int)) ∧ (lsd.getD 14 false = true → vu14 = .string t2) ∧ (lsd.getD 15 false = true → vu15 = .string y6) ∧ (lsd.getD 16 false = true → vu16 = .string y7) ∧ (lsd.getD 17 false = true → vu17 = .pointer (some ⟨R1, 6, none⟩)) ∧ (lsd.getD 18 false = true → vu18 = .int .i64 (x3 : Int)) ∧ (lsd.getD 19 false = true → vu19 = .string t3) ∧ (lsd.getD 20 false = true → vu20 = .string y8) ∧ (lsd.getD 21 false = true → vu21 = .string y9) ∧ (lsd.getD 22 false = true → vu22 = .string { data := #[109, 105, 115, 115, 45, 114, 105, 103, 104, 116] }) ∧ (lsd.getD 23 false = true → vu23 = .string y10)) (by kernel_rfl) (by decide) (by kernel_rfl) (by rfl) (by kernel_rfl) ?_ ?_ ?_
              · exact ⟨_, _, _, _, _, _, _, _, _, _, _, _, _, _, _, _, _, _, _, _, _, _, _, _, by simp only [Act.put, List.setIfInBounds_toArray, List.set_cons_zero, List.set_cons_succ]; rfl, (Below.refl _ _).drew, fun h => absurd h (fun h => mark_none h), fun h => absurd h (fun h => mark_none h), fun h => absurd h (fun h => mark_none h), fun h => absurd h (fun h => mark_none h), fun h => absurd h (fun h => mark_none h), fun h => absurd h (fun h => mark_none h), fun h => absurd h (fun h => mark_none h), fun h => absurd h (fun h => mark_none h), fun h => absurd h (fun h => mark_none h), fun h => absurd h (fun h => mark_none h), fun h => absurd h (fun h => mark_none h), fun h => absurd h (fun h => mark_none h), fun h => absurd h (fun h => mark_none h), fun h => absurd h (fun h => mark_none h), fun h => absurd h (fun h => mark_none h), fun h => absurd h (fun h => mark_none h), fun h => absurd h (fun h => mark_none h), fun h => absurd h (fun h => mark_none h), fun h => absurd h (fun h => mark_none h), fun h => absurd h (fun h => mark_none h), fun h => absurd h (fun h => mark_none h), fun h => absurd h (fun h => mark_none h), fun h => absurd h (fun h => mark_none h), fun h => absurd h (fun h => mark_none h)⟩
              · rintro lsd au wn iu hszu ⟨vu0, vu1, vu2, vu3, vu4, vu5, vu6, vu7, vu8, vu9, vu10, vu11, vu12, vu13, vu14, vu15, vu16, vu17, vu18, vu19, vu20, vu21, vu22, vu23, rfl, hbu, fu0, fu1, fu2, fu3, fu4, fu5, fu6, fu7, fu8, fu9, fu10, fu11, fu12, fu13, fu14, fu15, fu16, fu17, fu18, fu19, fu20, fu21, fu22, fu23⟩ himu hru
                rcases (show iu = 0 ∨ iu = 1 ∨ iu = 2 ∨ iu = 3 ∨ iu = 4 ∨ iu = 5 ∨ iu = 6 ∨ iu = 7 ∨ iu = 8 ∨ iu = 9 ∨ iu = 10 ∨ iu = 11 ∨ iu = 12 ∨ iu = 13 ∨ iu = 14 ∨ iu = 15 ∨ iu = 16 ∨ iu = 17 ∨ iu = 18 ∨ iu = 19 ∨ iu = 20 ∨ iu = 21 ∨ iu = 22 ∨ iu = 23 by omega) with rfl | rfl | rfl | rfl | rfl | rfl | rfl | rfl | rfl | rfl | rfl | rfl | rfl | rfl | rfl | rfl | rfl | rfl | rfl | rfl | rfl | rfl | rfl | rfl
                · refine wpOp_shut (by rfl) (fun K hK => ?_)
                  simp only [Act.put, List.setIfInBounds_toArray, List.set_cons_zero, List.set_cons_succ]
                  go_simp
                  exact hK.out _ _ ⟨(.string s), vu1, vu2, vu3, vu4, vu5, vu6, vu7, vu8, vu9, vu10, vu11, vu12, vu13, vu14, vu15, vu16, vu17, vu18, vu19, vu20, vu21, vu22, vu23, by simp only [Act.put, List.setIfInBounds_toArray, List.set_cons_zero, List.set_cons_succ], hbu, fun _ => rfl, fun h => fu1 (mark_of (by decide) h), fun h => fu2 (mark_of (by decide) h), fun h => fu3 (mark_of (by decide) h), fun h => fu4 (mark_of (by decide) h), fun h => fu5 (mark_of (by decide) h), fun h => fu6 (mark_of (by decide) h), fun h => fu7 (mark_of (by decide) h), fun h => fu8 (mark_of (by decide) h), fun h => fu9 (mark_of (by decide) h), fun h => fu10 (mark_of (by decide) h), fun h => fu11 (mark_of (by decide) h), fun h => fu12 (mark_of (by decide) h), fun h => fu13 (mark_of (by decide) h), fun h => fu14 (mark_of (by decide) h), fun h => fu15 (mark_of (by decide) h), fun h => fu16 (mark_of (by decide) h), fun h => fu17 (mark_of (by decide) h), fun h => fu18 (mark_of (by decide) h), fun h => fu19 (mark_of (by decide) h), fun h => fu20 (mark_of (by decide) h), fun h => fu21 (mark_of (by decide) h), fun h => fu22 (mark_of (by decide) h), fun h => fu23 (mark_of (by decide) h)⟩
                · have eu0 := fu0 (dep_of 0 hru rfl (by kernel_rfl))
                  replace eu0 := eu0.symm
                  subst eu0
                  refine wpOp_shut (by rfl) (fun K hK => ?_)
                  simp only [Act.put, List.setIfInBounds_toArray, List.set_cons_zero, List.set_cons_succ]
                  go_simp
                  exact hK.out _ _ ⟨(.string s), (.string y1), vu2, vu3, vu4, vu5, vu6, vu7, vu8, vu9, vu10, vu11, vu12, vu13, vu14, vu15, vu16, vu17, vu18, vu19, vu20, vu21, vu22, vu23, by simp only [Act.put, List.setIfInBounds_toArray, List.set_cons_zero, List.set_cons_succ], hbu, fun _ => rfl, fun _ => rfl, fun h => fu2 (mark_of (by decide) h), fun h => fu3 (mark_of (by decide) h), fun h => fu4 (mark_of (by decide) h), fun h => fu5 (mark_of (by decide) h), fun h => fu6 (mark_of (by decide) h), fun h => fu7 (mark_of (by decide) h), fun h => fu8 (mark_of (by decide) h), fun h => fu9 (mark_of (by decide) h), fun h => fu10 (mark_of (by decide) h), fun h => fu11 (mark_of (by decide) h), fun h => fu12 (mark_of (by decide) h), fun h => fu13 (mark_of (by decide) h), fun h => fu14 (mark_of (by decide) h), fun h => fu15 (mark_of (by decide) h), fun h => fu16 (mark_of (by decide) h), fun h => fu17 (mark_of (by decide) h), fun h => fu18 (mark_of (by decide) h), fun h => fu19 (mark_of (by decide) h), fun h => fu20 (mark_of (by decide) h), fun h => fu21 (mark_of (by decide) h), fun h => fu22 (mark_of (by decide) h), fun h => fu23 (mark_of (by decide) h)⟩
                · refine wpOp_shut (by rfl) (fun K hK => ?_)
                  simp only [Act.put, List.setIfInBounds_toArray, List.set_cons_zero, List.set_cons_succ]
                  go_simp
                  exact hK.out _ _ ⟨vu0, vu1, (.pointer (some ⟨R1, 1, none⟩)), vu3, vu4, vu5, vu6, vu7, vu8, vu9, vu10, vu11, vu12, vu13, vu14, vu15, vu16, vu17, vu18, vu19, vu20, vu21, vu22, vu23, by simp only [Act.put, List.setIfInBounds_toArray, List.set_cons_zero, List.set_cons_succ], hbu, fun h => fu0 (mark_of (by decide) h), fun h => fu1 (mark_of (by decide) h), fun _ => rfl, fun h => fu3 (mark_of (by decide) h), fun h => fu4 (mark_of (by decide) h), fun h => fu5 (mark_of (by decide) h), fun h => fu6 (mark_of (by decide) h), fun h => fu7 (mark_of (by decide) h), fun h => fu8 (mark_of (by decide) h), fun h => fu9 (mark_of (by decide) h), fun h => fu10 (mark_of (by decide) h), fun h => fu11 (mark_of (by decide) h), fun h => fu12 (mark_of (by decide) h), fun h => fu13 (mark_of (by decide) h), fun h => fu14 (mark_of (by decide) h), fun h => fu15 (mark_of (by decide) h), fun h => fu16 (mark_of (by decide) h), fun h => fu17 (mark_of (by decide) h), fun h => fu18 (mark_of (by decide) h), fun h => fu19 (mark_of (by decide) h), fun h => fu20 (mark_of (by decide) h), fun h => fu21 (mark_of (by decide) h), fun h => fu22 (mark_of (by decide) h), fun h => fu23 (mark_of (by decide) h)⟩
                · have eu2 := fu2 (dep_of 2 hru rfl (by kernel_rfl))
                  replace eu2 := eu2.symm
                  subst eu2
                  refine wpOp_shut (by rfl) (fun K hK => ?_)
                  simp only [Act.put, List.setIfInBounds_toArray, List.set_cons_zero, List.set_cons_succ]
                  obtain ⟨V_0, V_1, V_2, V_3, V_4, V_5, V_6, V_7, V_8, V_9, V_10, V_11, V_12, V_13⟩ := VN.below hbu
                  go_simp
                  exact hK.out _ _ ⟨vu0, vu1, (.pointer (some ⟨R1, 1, none⟩)), (.int .i64 (x1 : Int)), vu4, vu5, vu6, vu7, vu8, vu9, vu10, vu11, vu12, vu13, vu14, vu15, vu16, vu17, vu18, vu19, vu20, vu21, vu22, vu23, by simp only [Act.put, List.setIfInBounds_toArray, List.set_cons_zero, List.set_cons_succ], hbu, fun h => fu0 (mark_of (by decide) h), fun h => fu1 (mark_of (by decide) h), fun _ => rfl, fun _ => rfl, fun h => fu4 (mark_of (by decide) h), fun h => fu5 (mark_of (by decide) h), fun h => fu6 (mark_of (by decide) h), fun h => fu7 (mark_of (by decide) h), fun h => fu8 (mark_of (by decide) h), fun h => fu9 (mark_of (by decide) h), fun h => fu10 (mark_of (by decide) h), fun h => fu11 (mark_of (by decide) h), fun h => fu12 (mark_of (by decide) h), fun h => fu13 (mark_of (by decide) h), fun h => fu14 (mark_of (by decide) h), fun h => fu15 (mark_of (by decide) h), fun h => fu16 (mark_of (by decide) h), fun h => fu17 (mark_of (by decide) h), fun h => fu18 (mark_of (by decide) h), fun h => fu19 (mark_of (by decide) h), fun h => fu20 (mark_of (by decide) h), fun h => fu21 (mark_of (by decide) h), fun h => fu22 (mark_of (by decide) h), fun h => fu23 (mark_of (by decide) h)⟩
                · have eu3 := fu3 (dep_of 3 hru rfl (by kernel_rfl))
                  replace eu3 := eu3.symm
                  subst eu3
                  refine wpOp_shut (by rfl) (fun K hK => ?_)
                  simp only [Act.put, List.setIfInBounds_toArray, List.set_cons_zero, List.set_cons_succ]
                  have htT := htT.below hbu
                  go_simp
                  refine (Ct1 wn htT).mono ?_
                  rintro eu wx ⟨rfl, bu⟩
                  go_wp2_with fail
                  have hbu2 := hbu.trans (bu.mono hbu.size)
                  exact hK.out _ _ ⟨vu0, vu1, vu2, (.int .i64 (x1 : Int)), (.string t1), vu5, vu6, vu7, vu8, vu9, vu10, vu11, vu12, vu13, vu14, vu15, vu16, vu17, vu18, vu19, vu20, vu21, vu22, vu23, by simp only [Act.put, List.setIfInBounds_toArray, List.set_cons_zero, List.set_cons_succ], hbu2, fun h => fu0 (mark_of (by decide) h), fun h => fu1 (mark_of (by decide) h), fun h => fu2 (mark_of (by decide) h), fun _ => rfl, fun _ => rfl, fun h => fu5 (mark_of (by decide) h), fun h => fu6 (mark_of (by decide) h), fun h => fu7 (mark_of (by decide) h), fun h => fu8 (mark_of (by decide) h), fun h => fu9 (mark_of (by decide) h), fun h => fu10 (mark_of (by decide) h), fun h => fu11 (mark_of (by decide) h), fun h => fu12 (mark_of (by decide) h), fun h => fu13 (mark_of (by decide) h), fun h => fu14 (mark_of (by decide) h), fun h => fu15 (mark_of (by decide) h), fun h => fu16 (mark_of (by decide) h), fun h => fu17 (mark_of (by decide) h), fun h => fu18 (mark_of (by decide) h), fun h => fu19 (mark_of (by decide) h), fun h => fu20 (mark_of (by decide) h), fun h => fu21 (mark_of (by decide) h), fun h => fu22 (mark_of (by decide) h), fun h => fu23 (mark_of (by decide) h)⟩
                · have eu1 := fu1 (dep_of 1 hru rfl (by kernel_rfl))
                  have eu4 := fu4 (dep_of 4 hru rfl (by kernel_rfl))
                  replace eu1 := eu1.symm
                  subst eu1
                  replace eu4 := eu4.symm
                  subst eu4
                  refine wpOp_shut (by rfl) (fun K hK => ?_)
                  simp only [Act.put, List.setIfInBounds_toArray, List.set_cons_zero, List.set_cons_succ]
                  go_simp
                  exact hK.out _ _ ⟨vu0, (.string y1), vu2, vu3, (.string t1), (.string y2), vu6, vu7, vu8, vu9, vu10, vu11, vu12, vu13, vu14, vu15, vu16, vu17, vu18, vu19, vu20, vu21, vu22, vu23, by simp only [Act.put, List.setIfInBounds_toArray, List.set_cons_zero, List.set_cons_succ], hbu, fun h => fu0 (mark_of (by decide) h), fun _ => rfl, fun h => fu2 (mark_of (by decide) h), fun h => fu3 (mark_of (by decide) h), fun _ => rfl, fun _ => rfl, fun h => fu6 (mark_of (by decide) h), fun h => fu7 (mark_of (by decide) h), fun h => fu8 (mark_of (by decide) h), fun h => fu9 (mark_of (by decide) h), fun h => fu10 (mark_of (by decide) h), fun h => fu11 (mark_of (by decide) h), fun h => fu12 (mark_of (by decide) h), fun h => fu13 (mark_of (by decide) h), fun h => fu14 (mark_of (by decide) h), fun h => fu15 (mark_of (by decide) h), fun h => fu16 (mark_of (by decide) h), fun h => fu17 (mark_of (by decide) h), fun h => fu18 (mark_of (by decide) h), fun h => fu19 (mark_of (by decide) h), fun h => fu20 (mark_of (by decide) h), fun h => fu21 (mark_of (by decide) h), fun h => fu22 (mark_of (by decide) h), fun h => fu23 (mark_of (by decide) h)⟩
                · have eu5 := fu5 (dep_of 5 hru rfl (by kernel_rfl))
                  replace eu5 := eu5.symm
                  subst eu5
                  refine wpOp_shut (by rfl) (fun K hK => ?_)
                  simp only [Act.put, List.setIfInBounds_toArray, List.set_cons_zero, List.set_cons_succ]
                  go_simp
                  exact hK.out _ _ ⟨vu0, vu1, vu2, vu3, vu4, (.string y2), (.string y3), vu7, vu8, vu9, vu10, vu11, vu12, vu13, vu14, vu15, vu16, vu17, vu18, vu19, vu20, vu21, vu22, vu23, by simp only [Act.put, List.setIfInBounds_toArray, List.set_cons_zero, List.set_cons_succ], hbu, fun h => fu0 (mark_of (by decide) h), fun h => fu1 (mark_of (by decide) h), fun h => fu2 (mark_of (by decide) h), fun h => fu3 (mark_of (by decide) h), fun h => fu4 (mark_of (by decide) h), fun _ => rfl, fun _ => rfl, fun h => fu7 (mark_of (by decide) h), fun h => fu8 (mark_of (by decide) h), fun h => fu9 (mark_of (by decide) h), fun h => fu10 (mark_of (by decide) h), fun h => fu11 (mark_of (by decide) h), fun h => fu12 (mark_of (by decide) h), fun h => fu13 (mark_of (by decide) h), fun h => fu14 (mark_of (by decide) h), fun h => fu15 (mark_of (by decide) h), fun h => fu16 (mark_of (by decide) h), fun h => fu17 (mark_of (by decide) h), fun h => fu18 (mark_of (by decide) h), fun h => fu19 (mark_of (by decide) h), fun h => fu20 (mark_of (by decide) h), fun h => fu21 (mark_of (by decide) h), fun h => fu22 (mark_of (by decide) h), fun h => fu23 (mark_of (by decide) h)⟩
                · refine wpOp_shut (by rfl) (fun K hK => ?_)
                  simp only [Act.put, List.setIfInBounds_toArray, List.set_cons_zero, List.set_cons_succ]
                  go_simp
                  exact hK.out _ _ ⟨vu0, vu1, vu2, vu3, vu4, vu5, vu6, (.pointer (some ⟨R1, 2, none⟩)), vu8, vu9, vu10, vu11, vu12, vu13, vu14, vu15, vu16, vu17, vu18, vu19, vu20, vu21, vu22, vu23, by simp only [Act.put, List.setIfInBounds_toArray, List.set_cons_zero, List.set_cons_succ], hbu, fun h => fu0 (mark_of (by decide) h), fun h => fu1 (mark_of (by decide) h), fun h => fu2 (mark_of (by decide) h), fun h => fu3 (mark_of (by decide) h), fun h => fu4 (mark_of (by decide) h), fun h => fu5 (mark_of (by decide) h), fun h => fu6 (mark_of (by decide) h), fun _ => rfl, fun h => fu8 (mark_of (by decide) h), fun h => fu9 (mark_of (by decide) h), fun h => fu10 (mark_of (by decide) h), fun h => fu11 (mark_of (by decide) h), fun h => fu12 (mark_of (by decide) h), fun h => fu13 (mark_of (by decide) h), fun h => fu14 (mark_of (by decide) h), fun h => fu15 (mark_of (by decide) h), fun h => fu16 (mark_of (by decide) h), fun h => fu17 (mark_of (by decide) h), fun h => fu18 (mark_of (by decide) h), fun h => fu19 (mark_of (by decide) h), fun h => fu20 (mark_of (by decide) h), fun h => fu21 (mark_of (by decide) h), fun h => fu22 (mark_of (by decide) h), fun h => fu23 (mark_of (by decide) h)⟩
                · have eu7 := fu7 (dep_of 7 hru rfl (by kernel_rfl))
                  replace eu7 := eu7.symm
                  subst eu7
                  refine wpOp_shut (by rfl) (fun K hK => ?_)
                  simp only [Act.put, List.setIfInBounds_toArray, List.set_cons_zero, List.set_cons_succ]
                  obtain ⟨V_0, V_1, V_2, V_3, V_4, V_5, V_6, V_7, V_8, V_9, V_10, V_11, V_12, V_13⟩ := VN.below hbu
                  go_simp
                  exact hK.out _ _ ⟨vu0, vu1, vu2, vu3, vu4, vu5, vu6, (.pointer (some ⟨R1, 2, none⟩)), (.agg #[.bool p1, .slice a1 n1 c1, .slice b1 m1 d1]), vu9, vu10, vu11, vu12, vu13, vu14, vu15, vu16, vu17, vu18, vu19, vu20, vu21, vu22, vu23, by simp only [Act.put, List.setIfInBounds_toArray, List.set_cons_zero, List.set_cons_succ], hbu, fun h => fu0 (mark_of (by decide) h), fun h => fu1 (mark_of (by decide) h), fun h => fu2 (mark_of (by decide) h), fun h => fu3 (mark_of (by decide) h), fun h => fu4 (mark_of (by decide) h), fun h => fu5 (mark_of (by decide) h), fun h => fu6 (mark_of (by decide) h), fun _ => rfl, fun _ => rfl, fun h => fu9 (mark_of (by decide) h), fun h => fu10 (mark_of (by decide) h), fun h => fu11 (mark_of (by decide) h), fun h => fu12 (mark_of (by decide) h), fun h => fu13 (mark_of (by decide) h), fun h => fu14 (mark_of (by decide) h), fun h => fu15 (mark_of (by decide) h), fun h => fu16 (mark_of (by decide) h), fun h => fu17 (mark_of (by decide) h), fun h => fu18 (mark_of (by decide) h), fun h => fu19 (mark_of (by decide) h), fun h => fu20 (mark_of (by decide) h), fun h => fu21 (mark_of (by decide) h), fun h => fu22 (mark_of (by decide) h), fun h => fu23 (mark_of (by decide) h)⟩
                · have eu4 := fu4 (dep_of 4 hru rfl (by kernel_rfl))
                  have eu8 := fu8 (dep_of 8 hru rfl (by kernel_rfl))
                  replace eu4 := eu4.symm
                  subst eu4
                  replace eu8 := eu8.symm
                  subst eu8
                  refine wpOp_shut (by rfl) (fun K hK => ?_)
                  simp only [Act.put, List.setIfInBounds_toArray, List.set_cons_zero, List.set_cons_succ]
                  have r1 := r1.below hbu
                  have htT := htT.below hbu
                  go_simp
                  refine (Ctq wn r1 htT).mono ?_
                  rintro eu wx ⟨rfl, bu⟩
                  go_wp2_with fail
                  have hbu2 := hbu.trans (bu.mono hbu.size)
                  exact hK.out _ _ ⟨vu0, vu1, vu2, vu3, (.string t1), vu5, vu6, vu7, (.agg #[.bool p1, .slice a1 n1 c1, .slice b1 m1 d1]), (.string tq), vu10, vu11, vu12, vu13, vu14, vu15, vu16, vu17, vu18, vu19, vu20, vu21, vu22, vu23, by simp only [Act.put, List.setIfInBounds_toArray, List.set_cons_zero, List.set_cons_succ], hbu2, fun h => fu0 (mark_of (by decide) h), fun h => fu1 (mark_of (by decide) h), fun h => fu2 (mark_of (by decide) h), fun h => fu3 (mark_of (by decide) h), fun _ => rfl, fun h => fu5 (mark_of (by decide) h), fun h => fu6 (mark_of (by decide) h), fun h => fu7 (mark_of (by decide) h), fun _ => rfl, fun _ => rfl, fun h => fu10 (mark_of (by decide) h), fun h => fu11 (mark_of (by decide) h), fun h => fu12 (mark_of (by decide) h), fun h => fu13 (mark_of (by decide) h), fun h => fu14 (mark_of (by decide) h), fun h => fu15 (mark_of (by decide) h), fun h => fu16 (mark_of (by decide) h), fun h => fu17 (mark_of (by decide) h), fun h => fu18 (mark_of (by decide) h), fun h => fu19 (mark_of (by decide) h), fun h => fu20 (mark_of (by decide) h), fun h => fu21 (mark_of (by decide) h), fun h => fu22 (mark_of (by decide) h), fun h => fu23 (mark_of (by decide) h)⟩
                · have eu6 := fu6 (dep_of 6 hru rfl (by kernel_rfl))
                  have eu9 := fu9 (dep_of 9 hru rfl (by kernel_rfl))
                  replace eu6 := eu6.symm
                  subst eu6
                  replace eu9 := eu9.symm
                  subst eu9
                  refine wpOp_shut (by rfl) (fun K hK => ?_)
                  simp only [Act.put, List.setIfInBounds_toArray, List.set_cons_zero, List.set_cons_succ]
                  go_simp
                  exact hK.out _ _ ⟨vu0, vu1, vu2, vu3, vu4, vu5, (.string y3), vu7, vu8, (.string tq), (.string y4), vu11, vu12, vu13, vu14, vu15, vu16, vu17, vu18, vu19, vu20, vu21, vu22, vu23, by simp only [Act.put, List.setIfInBounds_toArray, List.set_cons_zero, List.set_cons_succ], hbu, fun h => fu0 (mark_of (by decide) h), fun h => fu1 (mark_of (by decide) h), fun h => fu2 (mark_of (by decide) h), fun h => fu3 (mark_of (by decide) h), fun h => fu4 (mark_of (by decide) h), fun h => fu5 (mark_of (by decide) h), fun _ => rfl, fun h => fu7 (mark_of (by decide) h), fun h => fu8 (mark_of (by decide) h), fun _ => rfl, fun _ => rfl, fun h => fu11 (mark_of (by decide) h), fun h => fu12 (mark_of (by decide) h), fun h => fu13 (mark_of (by decide) h), fun h => fu14 (mark_of (by decide) h), fun h => fu15 (mark_of (by decide) h), fun h => fu16 (mark_of (by decide) h), fun h => fu17 (mark_of (by decide) h), fun h => fu18 (mark_of (by decide) h), fun h => fu19 (mark_of (by decide) h), fun h => fu20 (mark_of (by decide) h), fun h => fu21 (mark_of (by decide) h), fun h => fu22 (mark_of (by decide) h), fun h => fu23 (mark_of (by decide) h)⟩
                · have eu10 := fu10 (dep_of 10 hru rfl (by kernel_rfl))
                  replace eu10 := eu10.symm
                  subst eu10
                  refine wpOp_shut (by rfl) (fun K hK => ?_)
                  simp only [Act.put, List.setIfInBounds_toArray, List.set_cons_zero, List.set_cons_succ]
                  go_simp
                  exact hK.out _ _ ⟨vu0, vu1, vu2, vu3, vu4, vu5, vu6, vu7, vu8, vu9, (.string y4), (.string y5), vu12, vu13, vu14, vu15, vu16, vu17, vu18, vu19, vu20, vu21, vu22, vu23, by simp only [Act.put, List.setIfInBounds_toArray, List.set_cons_zero, List.set_cons_succ], hbu, fun h => fu0 (mark_of (by decide) h), fun h => fu1 (mark_of (by decide) h), fun h => fu2 (mark_of (by decide) h), fun h => fu3 (mark_of (by decide) h), fun h => fu4 (mark_of (by decide) h), fun h => fu5 (mark_of (by decide) h), fun h => fu6 (mark_of (by decide) h), fun h => fu7 (mark_of (by decide) h), fun h => fu8 (mark_of (by decide) h), fun h => fu9 (mark_of (by decide) h), fun _ => rfl, fun _ => rfl, fun h => fu12 (mark_of (by decide) h), fun h => fu13 (mark_of (by decide) h), fun h => fu14 (mark_of (by decide) h), fun h => fu15 (mark_of (by decide) h), fun h => fu16 (mark_of (by decide) h), fun h => fu17 (mark_of (by decide) h), fun h => fu18 (mark_of (by decide) h), fun h => fu19 (mark_of (by decide) h), fun h => fu20 (mark_of (by decide) h), fun h => fu21 (mark_of (by decide) h), fun h => fu22 (mark_of (by decide) h), fun h => fu23 (mark_of (by decide) h)⟩
                · refine wpOp_shut (by rfl) (fun K hK => ?_)
                  simp only [Act.put, List.setIfInBounds_toArray, List.set_cons_zero, List.set_cons_succ]
                  go_simp
                  exact hK.out _ _ ⟨vu0, vu1, vu2, vu3, vu4, vu5, vu6, vu7, vu8, vu9, vu10, vu11, (.pointer (some ⟨R1, 5, none⟩)), vu13, vu14, vu15, vu16, vu17, vu18, vu19, vu20, vu21, vu22, vu23, by simp only [Act.put, List.setIfInBounds_toArray, List.set_cons_zero, List.set_cons_succ], hbu, fun h => fu0 (mark_of (by decide) h), fun h => fu1 (mark_of (by decide) h), fun h => fu2 (mark_of (by decide) h), fun h => fu3 (mark_of (by decide) h), fun h => fu4 (mark_of (by decide) h), fun h => fu5 (mark_of (by decide) h), fun h => fu6 (mark_of (by decide) h), fun h => fu7 (mark_of (by decide) h), fun h => fu8 (mark_of (by decide) h), fun h => fu9 (mark_of (by decide) h), fun h => fu10 (mark_of (by decide) h), fun h => fu11 (mark_of (by decide) h), fun _ => rfl, fun h => fu13 (mark_of (by decide) h), fun h => fu14 (mark_of (by decide) h), fun h => fu15 (mark_of (by decide) h), fun h => fu16 (mark_of (by decide) h), fun h => fu17 (mark_of (by decide) h), fun h => fu18 (mark_of (by decide) h), fun h => fu19 (mark_of (by decide) h), fun h => fu20 (mark_of (by decide) h), fun h => fu21 (mark_of (by decide) h), fun h => fu22 (mark_of (by decide) h), fun h => fu23 (mark_of (by decide) h)⟩
                · have eu12 := fu12 (dep_of 12 hru rfl (by kernel_rfl))
                  replace eu12 := eu12.symm
                  subst eu12
                  refine wpOp_shut (by rfl) (fun K hK => ?_)
                  simp only [Act.put, List.setIfInBounds_toArray, List.set_cons_zero, List.set_cons_succ]
                  obtain ⟨V_0, V_1, V_2, V_3, V_4, V_5, V_6, V_7, V_8, V_9, V_10, V_11, V_12, V_13⟩ := VN.below hbu
                  go_simp
                  exact hK.out _ _ ⟨vu0, vu1, vu2, vu3, vu4, vu5, vu6, vu7, vu8, vu9, vu10, vu11, (.pointer (some ⟨R1, 5, none⟩)), (.int .i64 (x2 : Int)), vu14, vu15, vu16, vu17, vu18, vu19, vu20, vu21, vu22, vu23, by simp only [Act.put, List.setIfInBounds_toArray, List.set_cons_zero, List.set_cons_succ], hbu, fun h => fu0 (mark_of (by decide) h), fun h => fu1 (mark_of (by decide) h), fun h => fu2 (mark_of (by decide) h), fun h => fu3 (mark_of (by decide) h), fun h => fu4 (mark_of (by decide) h), fun h => fu5 (mark_of (by decide) h), fun h => fu6 (mark_of (by decide) h), fun h => fu7 (mark_of (by decide) h), fun h => fu8 (mark_of (by decide) h), fun h => fu9 (mark_of (by decide) h), fun h => fu10 (mark_of (by decide) h), fun h => fu11 (mark_of (by decide) h), fun _ => rfl, fun _ => rfl, fun h => fu14 (mark_of (by decide) h), fun h => fu15 (mark_of (by decide) h), fun h => fu16 (mark_of (by decide) h), fun h => fu17 (mark_of (by decide) h), fun h => fu18 (mark_of (by decide) h), fun h => fu19 (mark_of (by decide) h), fun h => fu20 (mark_of (by decide) h), fun h => fu21 (mark_of (by decide) h), fun h => fu22 (mark_of (by decide) h), fun h => fu23 (mark_of (by decide) h)⟩
                · have eu9 := fu9 (dep_of 9 hru rfl (by kernel_rfl))
                  have eu13 := fu13 (dep_of 13 hru rfl (by kernel_rfl))
                  replace eu9 := eu9.symm
                  subst eu9
                  replace eu13 := eu13.symm
                  subst eu13
                  refine wpOp_shut (by rfl) (fun K hK => ?_)
                  simp only [Act.put, List.setIfInBounds_toArray, List.set_cons_zero, List.set_cons_succ]
                  have htT := htT.below hbu
                  go_simp
                  refine (Ct2 wn htT).mono ?_
                  rintro eu wx ⟨rfl, bu⟩
                  go_wp2_with fail
                  have hbu2 := hbu.trans (bu.mono hbu.size)
                  exact hK.out _ _ ⟨vu0, vu1, vu2, vu3, vu4, vu5, vu6, vu7, vu8, (.string tq), vu10, vu11, vu12, (.int .i64 (x2 : Int)), (.string t2), vu15, vu16, vu17, vu18, vu19, vu20, vu21, vu22, vu23, by simp only [Act.put, List.setIfInBounds_toArray, List.set_cons_zero, List.set_cons_succ], hbu2, fun h => fu0 (mark_of (by decide) h), fun h => fu1 (mark_of (by decide) h), fun h => fu2 (mark_of (by decide) h), fun h => fu3 (mark_of (by decide) h), fun h => fu4 (mark_of (by decide) h), fun h => fu5 (mark_of (by decide) h), fun h => fu6 (mark_of (by decide) h), fun h => fu7 (mark_of (by decide) h), fun h => fu8 (mark_of (by decide) h), fun _ => rfl, fun h => fu10 (mark_of (by decide) h), fun h => fu11 (mark_of (by decide) h), fun h => fu12 (mark_of (by decide) h), fun _ => rfl, fun _ => rfl, fun h => fu15 (mark_of (by decide) h), fun h => fu16 (mark_of (by decide) h), fun h => fu17 (mark_of (by decide) h), fun h => fu18 (mark_of (by decide) h), fun h => fu19 (mark_of (by decide) h), fun h => fu20 (mark_of (by decide) h), fun h => fu21 (mark_of (by decide) h), fun h => fu22 (mark_of (by decide) h), fun h => fu23 (mark_of (by decide) h)⟩
                · have eu11 := fu11 (dep_of 11 hru rfl (by kernel_rfl))
                  have eu14 := fu14 (dep_of 14 hru rfl (by kernel_rfl))
                  replace eu11 := eu11.symm
                  subst eu11
                  replace eu14 := eu14.symm
                  subst eu14
                  refine wpOp_shut (by rfl) (fun K hK => ?_)
                  simp only [Act.put, List.setIfInBounds_toArray, List.set_cons_zero, List.set_cons_succ]
                  go_simp
                  exact hK.out _ _ ⟨vu0, vu1, vu2, vu3, vu4, vu5, vu6, vu7, vu8, vu9, vu10, (.string y5), vu12, vu13, (.string t2), (.string y6), vu16, vu17, vu18, vu19, vu20, vu21, vu22, vu23, by simp only [Act.put, List.setIfInBounds_toArray, List.set_cons_zero, List.set_cons_succ], hbu, fun h => fu0 (mark_of (by decide) h), fun h => fu1 (mark_of (by decide) h), fun h => fu2 (mark_of (by decide) h), fun h => fu3 (mark_of (by decide) h), fun h => fu4 (mark_of (by decide) h), fun h => fu5 (mark_of (by decide) h), fun h => fu6 (mark_of (by decide) h), fun h => fu7 (mark_of (by decide) h), fun h => fu8 (mark_of (by decide) h), fun h => fu9 (mark_of (by decide) h), fun h => fu10 (mark_of (by decide) h), fun _ => rfl, fun h => fu12 (mark_of (by decide) h), fun h => fu13 (mark_of (by decide) h), fun _ => rfl, fun _ => rfl, fun h => fu16 (mark_of (by decide) h), fun h => fu17 (mark_of (by decide) h), fun h => fu18 (mark_of (by decide) h), fun h => fu19 (mark_of (by decide) h), fun h => fu20 (mark_of (by decide) h), fun h => fu21 (mark_of (by decide) h), fun h => fu22 (mark_of (by decide) h), fun h => fu23 (mark_of (by decide) h)⟩
                · have eu15 := fu15 (dep_of 15 hru rfl (by kernel_rfl))
                  replace eu15 := eu15.symm
                  subst eu15
                  refine wpOp_shut (by rfl) (fun K hK => ?_)
                  simp only [Act.put, List.setIfInBounds_toArray, List.set_cons_zero, List.set_cons_succ]
                  go_simp
                  exact hK.out _ _ ⟨vu0, vu1, vu2, vu3, vu4, vu5, vu6, vu7, vu8, vu9, vu10, vu11, vu12, vu13, vu14, (.string y6), (.string y7), vu17, vu18, vu19, vu20, vu21, vu22, vu23, by simp only [Act.put, List.setIfInBounds_toArray, List.set_cons_zero, List.set_cons_succ], hbu, fun h => fu0 (mark_of (by decide) h), fun h => fu1 (mark_of (by decide) h), fun h => fu2 (mark_of (by decide) h), fun h => fu3 (mark_of (by decide) h), fun h => fu4 (mark_of (by decide) h), fun h => fu5 (mark_of (by decide) h), fun h => fu6 (mark_of (by decide) h), fun h => fu7 (mark_of (by decide) h), fun h => fu8 (mark_of (by decide) h), fun h => fu9 (mark_of (by decide) h), fun h => fu10 (mark_of (by decide) h), fun h => fu11 (mark_of (by decide) h), fun h => fu12 (mark_of (by decide) h), fun h => fu13 (mark_of (by decide) h), fun h => fu14 (mark_of (by decide) h), fun _ => rfl, fun _ => rfl, fun h => fu17 (mark_of (by decide) h), fun h => fu18 (mark_of (by decide) h), fun h => fu19 (mark_of (by decide) h), fun h => fu20 (mark_of (by decide) h), fun h => fu21 (mark_of (by decide) h), fun h => fu22 (mark_of (by decide) h), fun h => fu23 (mark_of (by decide) h)⟩
                · refine wpOp_shut (by rfl) (fun K hK => ?_)
                  simp only [Act.put, List.setIfInBounds_toArray, List.set_cons_zero, List.set_cons_succ]
                  go_simp
                  exact hK.out _ _ ⟨vu0, vu1, vu2, vu3, vu4, vu5, vu6, vu7, vu8, vu9, vu10, vu11, vu12, vu13, vu14, vu15, vu16, (.pointer (some ⟨R1, 6, none⟩)), vu18, vu19, vu20, vu21, vu22, vu23, by simp only [Act.put, List.setIfInBounds_toArray, List.set_cons_zero, List.set_cons_succ], hbu, fun h => fu0 (mark_of (by decide) h), fun h => fu1 (mark_of (by decide) h), fun h => fu2 (mark_of (by decide) h), fun h => fu3 (mark_of (by decide) h), fun h => fu4 (mark_of (by decide) h), fun h => fu5 (mark_of (by decide) h), fun h => fu6 (mark_of (by decide) h), fun h => fu7 (mark_of (by decide) h), fun h => fu8 (mark_of (by decide) h), fun h => fu9 (mark_of (by decide) h), fun h => fu10 (mark_of (by decide) h), fun h => fu11 (mark_of (by decide) h), fun h => fu12 (mark_of (by decide) h), fun h => fu13 (mark_of (by decide) h), fun h => fu14 (mark_of (by decide) h), fun h => fu15 (mark_of (by decide) h), fun h => fu16 (mark_of (by decide) h), fun _ => rfl, fun h => fu18 (mark_of (by decide) h), fun h => fu19 (mark_of (by decide) h), fun h => fu20 (mark_of (by decide) h), fun h => fu21 (mark_of (by decide) h), fun h => fu22 (mark_of (by decide) h), fun h => fu23 (mark_of (by decide) h)⟩
                · have eu17 := fu17 (dep_of 17 hru rfl (by kernel_rfl))
                  replace eu17 := eu17.symm
                  subst eu17
                  refine wpOp_shut (by rfl) (fun K hK => ?_)
                  simp only [Act.put, List.setIfInBounds_toArray, List.set_cons_zero, List.set_cons_succ]
                  obtain ⟨V_0, V_1, V_2, V_3, V_4, V_5, V_6, V_7, V_8, V_9, V_10, V_11, V_12, V_13⟩ := VN.below hbu
                  go_simp
                  exact hK.out _ _ ⟨vu0, vu1, vu2, vu3, vu4, vu5, vu6, vu7, vu8, vu9, vu10, vu11, vu12, vu13, vu14, vu15, vu16, (.pointer (some ⟨R1, 6, none⟩)), (.int .i64 (x3 : Int)), vu19, vu20, vu21, vu22, vu23, by simp only [Act.put, List.setIfInBounds_toArray, List.set_cons_zero, List.set_cons_succ], hbu, fun h => fu0 (mark_of (by decide) h), fun h => fu1 (mark_of (by decide) h), fun h => fu2 (mark_of (by decide) h), fun h => fu3 (mark_of (by decide) h), fun h => fu4 (mark_of (by decide) h), fun h => fu5 (mark_of (by decide) h), fun h => fu6 (mark_of (by decide) h), fun h => fu7 (mark_of (by decide) h), fun h => fu8 (mark_of (by decide) h), fun h => fu9 (mark_of (by decide) h), fun h => fu10 (mark_of (by decide) h), fun h => fu11 (mark_of (by decide) h), fun h => fu12 (mark_of (by decide) h), fun h => fu13 (mark_of (by decide) h), fun h => fu14 (mark_of (by decide) h), fun h => fu15 (mark_of (by decide) h), fun h => fu16 (mark_of (by decide) h), fun _ => rfl, fun _ => rfl, fun h => fu19 (mark_of (by decide) h), fun h => fu20 (mark_of (by decide) h), fun h => fu21 (mark_of (by decide) h), fun h => fu22 (mark_of (by decide) h), fun h => fu23 (mark_of (by decide) h)⟩
                · have eu14 := fu14 (dep_of 14 hru rfl (by kernel_rfl))
                  have eu18 := fu18 (dep_of 18 hru rfl (by kernel_rfl))
                  replace eu14 := eu14.symm
                  subst eu14
                  replace eu18 := eu18.symm
                  subst eu18
                  refine wpOp_shut (by rfl) (fun K hK => ?_)
                  simp only [Act.put, List.setIfInBounds_toArray, List.set_cons_zero, List.set_cons_succ]
                  have htT := htT.below hbu
                  go_simp
                  refine (Ct3 wn htT).mono ?_
                  rintro eu wx ⟨rfl, bu⟩
                  go_wp2_with fail
                  have hbu2 := hbu.trans (bu.mono hbu.size)
                  exact hK.out _ _ ⟨vu0, vu1, vu2, vu3, vu4, vu5, vu6, vu7, vu8, vu9, vu10, vu11, vu12, vu13, (.string t2), vu15, vu16, vu17, (.int .i64 (x3 : Int)), (.string t3), vu20, vu21, vu22, vu23, by simp only [Act.put, List.setIfInBounds_toArray, List.set_cons_zero, List.set_cons_succ], hbu2, fun h => fu0 (mark_of (by decide) h), fun h => fu1 (mark_of (by decide) h), fun h => fu2 (mark_of (by decide) h), fun h => fu3 (mark_of (by decide) h), fun h => fu4 (mark_of (by decide) h), fun h => fu5 (mark_of (by decide) h), fun h => fu6 (mark_of (by decide) h), fun h => fu7 (mark_of (by decide) h), fun h => fu8 (mark_of (by decide) h), fun h => fu9 (mark_of (by decide) h), fun h => fu10 (mark_of (by decide) h), fun h => fu11 (mark_of (by decide) h), fun h => fu12 (mark_of (by decide) h), fun h => fu13 (mark_of (by decide) h), fun _ => rfl, fun h => fu15 (mark_of (by decide) h), fun h => fu16 (mark_of (by decide) h), fun h => fu17 (mark_of (by decide) h), fun _ => rfl, fun _ => rfl, fun h => fu20 (mark_of (by decide) h), fun h => fu21 (mark_of (by decide) h), fun h => fu22 (mark_of (by decide) h), fun h => fu23 (mark_of (by decide) h)⟩
                · have eu16 := fu16 (dep_of 16 hru rfl (by kernel_rfl))
                  have eu19 := fu19 (dep_of 19 hru rfl (by kernel_rfl))
                  replace eu16 := eu16.symm
                  subst eu16
                  replace eu19 := eu19.symm
                  subst eu19
                  refine wpOp_shut (by rfl) (fun K hK => ?_)
                  simp only [Act.put, List.setIfInBounds_toArray, List.set_cons_zero, List.set_cons_succ]
                  go_simp
                  exact hK.out _ _ ⟨vu0, vu1, vu2, vu3, vu4, vu5, vu6, vu7, vu8, vu9, vu10, vu11, vu12, vu13, vu14, vu15, (.string y7), vu17, vu18, (.string t3), (.string y8), vu21, vu22, vu23, by simp only [Act.put, List.setIfInBounds_toArray, List.set_cons_zero, List.set_cons_succ], hbu, fun h => fu0 (mark_of (by decide) h), fun h => fu1 (mark_of (by decide) h), fun h => fu2 (mark_of (by decide) h), fun h => fu3 (mark_of (by decide) h), fun h => fu4 (mark_of (by decide) h), fun h => fu5 (mark_of (by decide) h), fun h => fu6 (mark_of (by decide) h), fun h => fu7 (mark_of (by decide) h), fun h => fu8 (mark_of (by decide) h), fun h => fu9 (mark_of (by decide) h), fun h => fu10 (mark_of (by decide) h), fun h => fu11 (mark_of (by decide) h), fun h => fu12 (mark_of (by decide) h), fun h => fu13 (mark_of (by decide) h), fun h => fu14 (mark_of (by decide) h), fun h => fu15 (mark_of (by decide) h), fun _ => rfl, fun h => fu17 (mark_of (by decide) h), fun h => fu18 (mark_of (by decide) h), fun _ => rfl, fun _ => rfl, fun h => fu21 (mark_of (by decide) h), fun h => fu22 (mark_of (by decide) h), fun h => fu23 (mark_of (by decide) h)⟩
                · have eu20 := fu20 (dep_of 20 hru rfl (by kernel_rfl))
                  replace eu20 := eu20.symm
                  subst eu20
                  refine wpOp_shut (by rfl) (fun K hK => ?_)
                  simp only [Act.put, List.setIfInBounds_toArray, List.set_cons_zero, List.set_cons_succ]
                  go_simp
                  exact hK.out _ _ ⟨vu0, vu1, vu2, vu3, vu4, vu5, vu6, vu7, vu8, vu9, vu10, vu11, vu12, vu13, vu14, vu15, vu16, vu17, vu18, vu19, (.string y8), (.string y9), vu22, vu23, by simp only [Act.put, List.setIfInBounds_toArray, List.set_cons_zero, List.set_cons_succ], hbu, fun h => fu0 (mark_of (by decide) h), fun h => fu1 (mark_of (by decide) h), fun h => fu2 (mark_of (by decide) h), fun h => fu3 (mark_of (by decide) h), fun h => fu4 (mark_of (by decide) h), fun h => fu5 (mark_of (by decide) h), fun h => fu6 (mark_of (by decide) h), fun h => fu7 (mark_of (by decide) h), fun h => fu8 (mark_of (by decide) h), fun h => fu9 (mark_of (by decide) h), fun h => fu10 (mark_of (by decide) h), fun h => fu11 (mark_of (by decide) h), fun h => fu12 (mark_of (by decide) h), fun h => fu13 (mark_of (by decide) h), fun h => fu14 (mark_of (by decide) h), fun h => fu15 (mark_of (by decide) h), fun h => fu16 (mark_of (by decide) h), fun h => fu17 (mark_of (by decide) h), fun h => fu18 (mark_of (by decide) h), fun h => fu19 (mark_of (by decide) h), fun _ => rfl, fun _ => rfl, fun h => fu22 (mark_of (by decide) h), fun h => fu23 (mark_of (by decide) h)⟩
                · refine wpOp_shut (by rfl) (fun K hK => ?_)
                  simp only [Act.put, List.setIfInBounds_toArray, List.set_cons_zero, List.set_cons_succ]
                  go_simp
                  exact hK.out _ _ ⟨vu0, vu1, vu2, vu3, vu4, vu5, vu6, vu7, vu8, vu9, vu10, vu11, vu12, vu13, vu14, vu15, vu16, vu17, vu18, vu19, vu20, vu21, (.string { data := #[109, 105, 115, 115, 45, 114, 105, 103, 104, 116] }), vu23, by simp only [Act.put, List.setIfInBounds_toArray, List.set_cons_zero, List.set_cons_succ], hbu, fun h => fu0 (mark_of (by decide) h), fun h => fu1 (mark_of (by decide) h), fun h => fu2 (mark_of (by decide) h), fun h => fu3 (mark_of (by decide) h), fun h => fu4 (mark_of (by decide) h), fun h => fu5 (mark_of (by decide) h), fun h => fu6 (mark_of (by decide) h), fun h => fu7 (mark_of (by decide) h), fun h => fu8 (mark_of (by decide) h), fun h => fu9 (mark_of (by decide) h), fun h => fu10 (mark_of (by decide) h), fun h => fu11 (mark_of (by decide) h), fun h => fu12 (mark_of (by decide) h), fun h => fu13 (mark_of (by decide) h), fun h => fu14 (mark_of (by decide) h), fun h => fu15 (mark_of (by decide) h), fun h => fu16 (mark_of (by decide) h), fun h => fu17 (mark_of (by decide) h), fun h => fu18 (mark_of (by decide) h), fun h => fu19 (mark_of (by decide) h), fun h => fu20 (mark_of (by decide) h), fun h => fu21 (mark_of (by decide) h), fun _ => rfl, fun h => fu23 (mark_of (by decide) h)⟩
                · have eu21 := fu21 (dep_of 21 hru rfl (by kernel_rfl))
                  have eu22 := fu22 (dep_of 22 hru rfl (by kernel_rfl))
                  replace eu21 := eu21.symm
                  subst eu21
                  replace eu22 := eu22.symm
                  subst eu22
                  refine wpOp_shut (by rfl) (fun K hK => ?_)
                  simp only [Act.put, List.setIfInBounds_toArray, List.set_cons_zero, List.set_cons_succ]
                  go_simp
                  exact hK.out _ _ ⟨vu0, vu1, vu2, vu3, vu4, vu5, vu6, vu7, vu8, vu9, vu10, vu11, vu12, vu13, vu14, vu15, vu16, vu17, vu18, vu19, vu20, (.string y9), (.string { data := #[109, 105, 115, 115, 45, 114, 105, 103, 104, 116] }), (.string y10), by simp only [Act.put, List.setIfInBounds_toArray, List.set_cons_zero, List.set_cons_succ], hbu, fun h => fu0 (mark_of (by decide) h), fun h => fu1 (mark_of (by decide) h), fun h => fu2 (mark_of (by decide) h), fun h => fu3 (mark_of (by decide) h), fun h => fu4 (mark_of (by decide) h), fun h => fu5 (mark_of (by decide) h), fun h => fu6 (mark_of (by decide) h), fun h => fu7 (mark_of (by decide) h), fun h => fu8 (mark_of (by decide) h), fun h => fu9 (mark_of (by decide) h), fun h => fu10 (mark_of (by decide) h), fun h => fu11 (mark_of (by decide) h), fun h => fu12 (mark_of (by decide) h), fun h => fu13 (mark_of (by decide) h), fun h => fu14 (mark_of (by decide) h), fun h => fu15 (mark_of (by decide) h), fun h => fu16 (mark_of (by decide) h), fun h => fu17 (mark_of (by decide) h), fun h => fu18 (mark_of (by decide) h), fun h => fu19 (mark_of (by decide) h), fun h => fu20 (mark_of (by decide) h), fun _ => rfl, fun _ => rfl, fun _ => rfl⟩
              rintro au Wu1 ⟨vu0, vu1, vu2, vu3, vu4, vu5, vu6, vu7, vu8, vu9, vu10, vu11, vu12, vu13, vu14, vu15, vu16, vu17, vu18, vu19, vu20, vu21, vu22, vu23, rfl, hbu, fu0, fu1, fu2, fu3, fu4, fu5, fu6, fu7, fu8, fu9, fu10, fu11, fu12, fu13, fu14, fu15, fu16, fu17, fu18, fu19, fu20, fu21, fu22, fu23⟩
              have eu0 := (fu0 rfl).symm
              subst eu0
              have eu1 := (fu1 rfl).symm
              subst eu1
              have eu2 := (fu2 rfl).symm
              subst eu2
              have eu3 := (fu3 rfl).symm
              subst eu3
              have eu4 := (fu4 rfl).symm
              subst eu4
              have eu5 := (fu5 rfl).symm
              subst eu5
              have eu6 := (fu6 rfl).symm
              subst eu6
              have eu7 := (fu7 rfl).symm
              subst eu7
              have eu8 := (fu8 rfl).symm
              subst eu8
              have eu9 := (fu9 rfl).symm
              subst eu9
              have eu10 := (fu10 rfl).symm
              subst eu10
              have eu11 := (fu11 rfl).symm
              subst eu11
              have eu12 := (fu12 rfl).symm
              subst eu12
              have eu13 := (fu13 rfl).symm
              subst eu13
              have eu14 := (fu14 rfl).symm
              subst eu14
              have eu15 := (fu15 rfl).symm
              subst eu15
              have eu16 := (fu16 rfl).symm
              subst eu16
              have eu17 := (fu17 rfl).symm
              subst eu17
              have eu18 := (fu18 rfl).symm
              subst eu18
              have eu19 := (fu19 rfl).symm
              subst eu19
              have eu20 := (fu20 rfl).symm
              subst eu20
              have eu21 := (fu21 rfl).symm
              subst eu21
              have eu22 := (fu22 rfl).symm
              subst eu22
              have eu23 := (fu23 rfl).symm
              subst eu23
              clear fu0 fu1 fu2 fu3 fu4 fu5 fu6 fu7 fu8 fu9 fu10 fu11 fu12 fu13 fu14 fu15 fu16 fu17 fu18 fu19 fu20 fu21 fu22 fu23
              replace r1 := r1.below hbu
              replace r3 := r3.below hbu
              replace htT := htT.below hbu
              replace VN := VN.below hbu
              replace BB := BB.trans (hbu.mono BB.size)
              clear hbu
              simp only [Act.put, List.setIfInBounds_toArray, List.set_cons_zero, List.set_cons_succ]
              refine wpAnyH_ready (rs := [24]) (by kernel_rfl) (by simp) ?_
              refine AllReadyH.cons (by rfl) (fun K hK => ?_) AllReadyH.nil
              go_simp
              refine hK.out _ _ trivial (fun _ => ?_)
              clear hK K
              simp only [Act.put, List.setIfInBounds_toArray, List.set_cons_zero, List.set_cons_succ]
              refine wpAnyH_done (by kernel_rfl) ?_ _
              clear hy1 hy2 hy3 hy4 hy5 hy6 hy7 hy8 hy9 hy10
              have BL := BB
              clear BB
              obtain ⟨V_0, V_1, V_2, V_3, V_4, V_5, V_6, V_7, V_8, V_9, V_10, V_11, V_12, V_13⟩ := id VN
              go_wp2_with fail
              clear V_0 V_1 V_2 V_3 V_4 V_5 V_6 V_7 V_8 V_9 V_10 V_11 V_12 V_13
              refine (Ctc _ r3 htT).mono ?_
              rintro e w9 ⟨rfl, b2⟩
              replace BL := BL.trans (b2.mono BL.size)
              clear b2 r3 htT Ctc VN
              go_wp2
              go_roundw
              case rel => exact ⟨j + 1, by omega, congrArg Value.string HE.out, by go_num, BL⟩
              case measure => simp [intOf]; omega
            · obtain ⟨y1, hy1⟩ : ∃ y, s ++ { data := #[115, 112, 108, 105, 116, 32] } = y := ⟨_, rfl⟩
              have zy1 : y1.size = s.size + 6 := by rw [← hy1, ByteArray.size_append]; first | done | rfl
              obtain ⟨y2, hy2⟩ : ∃ y, y1 ++ t1 = y := ⟨_, rfl⟩
              have zy2 : y2.size = y1.size + t1.size := by rw [← hy2, ByteArray.size_append]; first | done | rfl
              obtain ⟨y3, hy3⟩ : ∃ y, y2 ++ { data := #[32] } = y := ⟨_, rfl⟩
              have zy3 : y3.size = y2.size + 1 := by rw [← hy3, ByteArray.size_append]; first | done | rfl
              obtain ⟨y4, hy4⟩ : ∃ y, y3 ++ tq = y := ⟨_, rfl⟩
              have zy4 : y4.size = y3.size + tq.size := by rw [← hy4, ByteArray.size_append]; first | done | rfl
              obtain ⟨y5, hy5⟩ : ∃ y, y4 ++ { data := #[32] } = y := ⟨_, rfl⟩
              have zy5 : y5.size = y4.size + 1 := by rw [← hy5, ByteArray.size_append]; first | done | rfl
              obtain ⟨y6, hy6⟩ : ∃ y, y5 ++ t2 = y := ⟨_, rfl⟩
              have zy6 : y6.size = y5.size + t2.size := by rw [← hy6, ByteArray.size_append]; first | done | rfl
              obtain ⟨y7, hy7⟩ : ∃ y, y6 ++ { data := #[32] } = y := ⟨_, rfl⟩
              have zy7 : y7.size = y6.size + 1 := by rw [← hy7, ByteArray.size_append]; first | done | rfl
              obtain ⟨y8, hy8⟩ : ∃ y, y7 ++ t3 = y := ⟨_, rfl⟩
              have zy8 : y8.size = y7.size + t3.size := by rw [← hy8, ByteArray.size_append]; first | done | rfl
              obtain ⟨y9, hy9⟩ : ∃ y, y8 ++ { data := #[32] } = y := ⟨_, rfl⟩
              have zy9 : y9.size = y8.size + 1 := by rw [← hy9, ByteArray.size_append]; first | done | rfl
              obtain ⟨y10, hy10⟩ : ∃ y, y9 ++ { data := #[109, 105, 115, 115, 45, 108, 101, 102, 116] } = y := ⟨_, rfl⟩
              have zy10 : y10.size = y9.size + 9 := by rw [← hy10, ByteArray.size_append]; first | done | rfl
              have HE : Hid (y10 ++ { data := #[32] } ++ tc ++ { data := #[10] } = byS (l0 ++ nodesT (T i) (j + 1))) := by
                              show _ = _
                              rw [nodesT, lnN, hlf, if_neg (by simp), hx1, hx2, hx3, hms, htq, htc, ht1, ht2, ht3, ← hy10, ← hy9, ← hy8, ← hy7, ← hy6, ← hy5, ← hy4, ← hy3, ← hy2, ← hy1, ← HS.out]
                              apply ByteArray.ext
                              apply Array.toList_inj.1
                              simp [byS, sideT, ByteArray.data_append]
              clear hlf hms hx1 hx2 hx3 htq htv htc ht1 ht2 ht3 Ctv
              have nz1 : ¬ 9223372036854775807 < s.size + 6 := by omega
              have nz2 : ¬ 9223372036854775807 < y1.size + t1.size := by omega
              have nz3 : ¬ 9223372036854775807 < y2.size + 1 := by omega
              have nz4 : ¬ 9223372036854775807 < y3.size + tq.size := by omega
              have nz5 : ¬ 9223372036854775807 < y4.size + 1 := by omega
              have nz6 : ¬ 9223372036854775807 < y5.size + t2.size := by omega
              have nz7 : ¬ 9223372036854775807 < y6.size + 1 := by omega
              have nz8 : ¬ 9223372036854775807 < y7.size + t3.size := by omega
              have nz9 : ¬ 9223372036854775807 < y8.size + 1 := by omega
              have nz10 : ¬ 9223372036854775807 < y9.size + 9 := by omega
              have nz11 : ¬ 9223372036854775807 < y10.size + 1 := by omega
              have nz12 : ¬ 9223372036854775807 < y10.size + 1 + tc.size := by omega
              have nz13 : ¬ 9223372036854775807 < y10.size + 1 + tc.size + 1 := by omega
              clear zy1 zy2 zy3 zy4 zy5 zy6 zy7 zy8 zy9 zy10
              obtain ⟨N_0, N_1, N_2, N_3, N_4, N_5, N_6, N_7, N_8, N_9, N_10, N_11, N_12, N_13⟩ := id NN
              obtain ⟨W1, hW1, hS1, hL1, VN, FN⟩ := V14.lay wr 41 (.bool false) (.int .i64 (x1 : Int)) (.bool p1) (.slice a1 n1 c1) (.slice b1 m1 d1) (.int .i64 (x2 : Int)) (.int .i64 (x3 : Int)) (.bool true) (.bool p2) (.slice a2 n2 c2) (.slice b2 m2 d2) (.bool p3) (.slice a3 n3 c3) (.slice b3 m3 d3)
              replace r1 := r1.below hL1
              replace r2 := r2.below hL1
              replace r3 := r3.below hL1
              replace htT := htT.below hL1
              replace BL := BL.trans (hL1.mono BL.size)
              clear hL1
              obtain ⟨V_0, V_1, V_2, V_3, V_4, V_5, V_6, V_7, V_8, V_9, V_10, V_11, V_12, V_13⟩ := id VN
              rw [hW1] at V_0 V_1 V_2 V_3 V_4 V_5 V_6 V_7 V_8 V_9 V_10 V_11 V_12 V_13
              go_wp2_with fail
              clear VM_0 VM_1 VM_2 VM_3 XC NN FN N_0 V_0 N_1 V_1 N_2 V_2 N_3 V_3 N_4 V_4 N_5 V_5 N_6 V_6 N_7 V_7 N_8 V_8 N_9 V_9 N_10 V_10 N_11 V_11 N_12 V_12 N_13 V_13
              rw [← hW1]
              generalize wr.heap.size = R1 at *
              clear hW1 hS1
              clear r2
              have BB := BL
              clear BL
              refine wp_region_until 24 #[true, true, true, true, true, true, true, true, true, true, true, true, true, true, true, true, true, true, true, true, true, true, true, true, false] (fun aF lsd a' w' => ∃ vu0 vu1 vu2 vu3 vu4 vu5 vu6 vu7 vu8 vu9 vu10 vu11 vu12 vu13 vu14 vu15 vu16 vu17 vu18 vu19 vu20 vu21 vu22 vu23 : Value, a' = (((((((((((((((((((((((aF.put (some 65) vu0).put (some 66) vu1).put (some 67) vu2).put (some 68) vu3).put (some 69) vu4).put (some 70) vu5).put (some 71) vu6).put (some 72) vu7).put (some 73) vu8).put (some 74) vu9).put (some 75) vu10).put (some 76) vu11).put (some 77) vu12).put (some 78) vu13).put (some 79) vu14).put (some 80) vu15).put (some 81) vu16).put (some 82) vu17).put (some 83) vu18).put (some 84) vu19).put (some 85) vu20).put (some 86) vu21).put (some 87) vu22).put (some 88) vu23 ∧ Below W1.heap.size W1 w' ∧ (lsd.getD 0 false = true → vu0 = .string s) ∧ (lsd.getD 1 false = true → vu1 = .string y1) ∧ (lsd.getD 2 false = true → vu2 = .pointer (some ⟨R1, 1, none⟩)) ∧ (lsd.getD 3 false = true → vu3 = .int .i64 (x1 : Int)) ∧ (lsd.getD 4 false = true → vu4 = .string t1) ∧ (lsd.getD 5 false = true → vu5 = .string y2) ∧ (lsd.getD 6 false = true → vu6 = .string y3) ∧ (lsd.getD 7 false = true → vu7 = .pointer (some ⟨R1, 2, none⟩)) ∧ (lsd.getD 8 false = true → vu8 = .agg #[.bool p1, .slice a1 n1 c1, .slice b1 m1 d1]) ∧ (lsd.getD 9 false = true → vu9 = .string tq) ∧ (lsd.getD 10 false = true → vu10 = .string y4) ∧ (lsd.getD 11 false = true → vu11 = .string y5) ∧ (lsd.getD 12 false = true → vu12 = .pointer (some ⟨R1, 5, none⟩)) ∧ (lsd.getD 13 false = true → vu13 = .int .i64 (x2 : Int)) ∧ (lsd.getD 14 false = true → vu14 = .string t2) ∧ (lsd.getD 15 false = true → vu15 = .string y6) ∧ (lsd.getD 16 false = true → vu16 = .string y7) ∧ (lsd.getD 17 false = true → vu17 = .pointer (some ⟨R1, 6, none⟩)) ∧ (lsd.getD 18 false = true → vu18 = .int .i64 (x3 : Int)) ∧ (lsd.getD 19 false = true → vu19 = .string t3) ∧ (lsd.getD 20 false = true → vu20 = .string y8) ∧ (lsd.getD 21 false = true → vu21 = .string y9) ∧ (lsd.getD 22 false = true → vu22 = .string { data := #[109, 105, 115, 115, 45, 108, 101, 102, 116] }) ∧ (lsd.getD 23 false = true → vu23 = .string y10)) (by kernel_rfl) (by decide) (by kernel_rfl) (by rfl) (by kernel_rfl) ?_ ?_ ?_
              · exact ⟨_, _, _, _, _, _, _, _, _, _, _, _, _, _, _, _, _, _, _, _, _, _, _, _, by simp only [Act.put, List.setIfInBounds_toArray, List.set_cons_zero, List.set_cons_succ]; rfl, (Below.refl _ _).drew, fun h => absurd h (fun h => mark_none h), fun h => absurd h (fun h => mark_none h), fun h => absurd h (fun h => mark_none h), fun h => absurd h (fun h => mark_none h), fun h => absurd h (fun h => mark_none h), fun h => absurd h (fun h => mark_none h), fun h => absurd h (fun h => mark_none h), fun h => absurd h (fun h => mark_none h), fun h => absurd h (fun h => mark_none h), fun h => absurd h (fun h => mark_none h), fun h => absurd h (fun h => mark_none h), fun h => absurd h (fun h => mark_none h), fun h => absurd h (fun h => mark_none h), fun h => absurd h (fun h => mark_none h), fun h => absurd h (fun h => mark_none h), fun h => absurd h (fun h => mark_none h), fun h => absurd h (fun h => mark_none h), fun h => absurd h (fun h => mark_none h), fun h => absurd h (fun h => mark_none h), fun h => absurd h (fun h => mark_none h), fun h => absurd h (fun h => mark_none h), fun h => absurd h (fun h => mark_none h), fun h => absurd h (fun h => mark_none h), fun h => absurd h (fun h => mark_none h)⟩
              · rintro lsd au wn iu hszu ⟨vu0, vu1, vu2, vu3, vu4, vu5, vu6, vu7, vu8, vu9, vu10, vu11, vu12, vu13, vu14, vu15, vu16, vu17, vu18, vu19, vu20, vu21, vu22, vu23, rfl, hbu, fu0, fu1, fu2, fu3, fu4, fu5, fu6, fu7, fu8, fu9, fu10, fu11, fu12, fu13, fu14, fu15, fu16, fu17, fu18, fu19, fu20, fu21, fu22, fu23⟩ himu hru
                rcases (show iu = 0 ∨ iu = 1 ∨ iu = 2 ∨ iu = 3 ∨ iu = 4 ∨ iu = 5 ∨ iu = 6 ∨ iu = 7 ∨ iu = 8 ∨ iu = 9 ∨ iu = 10 ∨ iu = 11 ∨ iu = 12 ∨ iu = 13 ∨ iu = 14 ∨ iu = 15 ∨ iu = 16 ∨ iu = 17 ∨ iu = 18 ∨ iu = 19 ∨ iu = 20 ∨ iu = 21 ∨ iu = 22 ∨ iu = 23 by omega) with rfl | rfl | rfl | rfl | rfl | rfl | rfl | rfl | rfl | rfl | rfl | rfl | rfl | rfl | rfl | rfl | rfl | rfl | rfl | rfl | rfl | rfl | rfl | rfl
                · refine wpOp_shut (by rfl) (fun K hK => ?_)
                  simp only [Act.put, List.setIfInBounds_toArray, List.set_cons_zero, List.set_cons_succ]
                  go_simp
                  exact hK.out _ _ ⟨(.string s), vu1, vu2, vu3, vu4, vu5, vu6, vu7, vu8, vu9, vu10, vu11, vu12, vu13, vu14, vu15, vu16, vu17, vu18, vu19, vu20, vu21, vu22, vu23, by simp only [Act.put, List.setIfInBounds_toArray, List.set_cons_zero, List.set_cons_succ], hbu, fun _ => rfl, fun h => fu1 (mark_of (by decide) h), fun h => fu2 (mark_of (by decide) h), fun h => fu3 (mark_of (by decide) h), fun h => fu4 (mark_of (by decide) h), fun h => fu5 (mark_of (by decide) h), fun h => fu6 (mark_of (by decide) h), fun h => fu7 (mark_of (by decide) h), fun h => fu8 (mark_of (by decide) h), fun h => fu9 (mark_of (by decide) h), fun h => fu10 (mark_of (by decide) h), fun h => fu11 (mark_of (by decide) h), fun h => fu12 (mark_of (by decide) h), fun h => fu13 (mark_of (by decide) h), fun h => fu14 (mark_of (by decide) h), fun h => fu15 (mark_of (by decide) h), fun h => fu16 (mark_of (by decide) h), fun h => fu17 (mark_of (by decide) h), fun h => fu18 (mark_of (by decide) h), fun h => fu19 (mark_of (by decide) h), fun h => fu20 (mark_of (by decide) h), fun h => fu21 (mark_of (by decide) h), fun h => fu22 (mark_of (by decide) h), fun h => fu23 (mark_of (by decide) h)⟩
                · have eu0 := fu0 (dep_of 0 hru rfl (by kernel_rfl))
                  replace eu0 := eu0.symm
                  subst eu0
                  refine wpOp_shut (by rfl) (fun K hK => ?_)
                  simp only [Act.put, List.setIfInBounds_toArray, List.set_cons_zero, List.set_cons_succ]
                  go_simp
                  exact hK.out _ _ ⟨(.string s), (.string y1), vu2, vu3, vu4, vu5, vu6, vu7, vu8, vu9, vu10, vu11, vu12, vu13, vu14, vu15, vu16, vu17, vu18, vu19, vu20, vu21, vu22, vu23, by simp only [Act.put, List.setIfInBounds_toArray, List.set_cons_zero, List.set_cons_succ], hbu, fun _ => rfl, fun _ => rfl, fun h => fu2 (mark_of (by decide) h), fun h => fu3 (mark_of (by decide) h), fun h => fu4 (mark_of (by decide) h), fun h => fu5 (mark_of (by decide) h), fun h => fu6 (mark_of (by decide) h), fun h => fu7 (mark_of (by decide) h), fun h => fu8 (mark_of (by decide) h), fun h => fu9 (mark_of (by decide) h), fun h => fu10 (mark_of (by decide) h), fun h => fu11 (mark_of (by decide) h), fun h => fu12 (mark_of (by decide) h), fun h => fu13 (mark_of (by decide) h), fun h => fu14 (mark_of (by decide) h), fun h => fu15 (mark_of (by decide) h), fun h => fu16 (mark_of (by decide) h), fun h => fu17 (mark_of (by decide) h), fun h => fu18 (mark_of (by decide) h), fun h => fu19 (mark_of (by decide) h), fun h => fu20 (mark_of (by decide) h), fun h => fu21 (mark_of (by decide) h), fun h => fu22 (mark_of (by decide) h), fun h => fu23 (mark_of (by decide) h)⟩
                · refine wpOp_shut (by rfl) (fun K hK => ?_)
                  simp only [Act.put, List.setIfInBounds_toArray, List.set_cons_zero, List.set_cons_succ]
                  go_simp
                  exact hK.out _ _ ⟨vu0, vu1, (.pointer (some ⟨R1, 1, none⟩)), vu3, vu4, vu5, vu6, vu7, vu8, vu9, vu10, vu11, vu12, vu13, vu14, vu15, vu16, vu17, vu18, vu19, vu20, vu21, vu22, vu23, by simp only [Act.put, List.setIfInBounds_toArray, List.set_cons_zero, List.set_cons_succ], hbu, fun h => fu0 (mark_of (by decide) h), fun h => fu1 (mark_of (by decide) h), fun _ => rfl, fun h => fu3 (mark_of (by decide) h), fun h => fu4 (mark_of (by decide) h), fun h => fu5 (mark_of (by decide) h), fun h => fu6 (mark_of (by decide) h), fun h => fu7 (mark_of (by decide) h), fun h => fu8 (mark_of (by decide) h), fun h => fu9 (mark_of (by decide) h), fun h => fu10 (mark_of (by decide) h), fun h => fu11 (mark_of (by decide) h), fun h => fu12 (mark_of (by decide) h), fun h => fu13 (mark_of (by decide) h), fun h => fu14 (mark_of (by decide) h), fun h => fu15 (mark_of (by decide) h), fun h => fu16 (mark_of (by decide) h), fun h => fu17 (mark_of (by decide) h), fun h => fu18 (mark_of (by decide) h), fun h => fu19 (mark_of (by decide) h), fun h => fu20 (mark_of (by decide) h), fun h => fu21 (mark_of (by decide) h), fun h => fu22 (mark_of (by decide) h), fun h => fu23 (mark_of (by decide) h)⟩
                · have eu2 := fu2 (dep_of 2 hru rfl (by kernel_rfl))
                  replace eu2 := eu2.symm
                  subst eu2
                  refine wpOp_shut (by rfl) (fun K hK => ?_)
                  simp only [Act.put, List.setIfInBounds_toArray, List.set_cons_zero, List.set_cons_succ]
                  obtain ⟨V_0, V_1, V_2, V_3, V_4, V_5, V_6, V_7, V_8, V_9, V_10, V_11, V_12, V_13⟩ := VN.below hbu
                  go_simp
                  exact hK.out _ _ ⟨vu0, vu1, (.pointer (some ⟨R1, 1, none⟩)), (.int .i64 (x1 : Int)), vu4, vu5, vu6, vu7, vu8, vu9, vu10, vu11, vu12, vu13, vu14, vu15, vu16, vu17, vu18, vu19, vu20, vu21, vu22, vu23, by simp only [Act.put, List.setIfInBounds_toArray, List.set_cons_zero, List.set_cons_succ], hbu, fun h => fu0 (mark_of (by decide) h), fun h => fu1 (mark_of (by decide) h), fun _ => rfl, fun _ => rfl, fun h => fu4 (mark_of (by decide) h), fun h => fu5 (mark_of (by decide) h), fun h => fu6 (mark_of (by decide) h), fun h => fu7 (mark_of (by decide) h), fun h => fu8 (mark_of (by decide) h), fun h => fu9 (mark_of (by decide) h), fun h => fu10 (mark_of (by decide) h), fun h => fu11 (mark_of (by decide) h), fun h => fu12 (mark_of (by decide) h), fun h => fu13 (mark_of (by decide) h), fun h => fu14 (mark_of (by decide) h), fun h => fu15 (mark_of (by decide) h), fun h => fu16 (mark_of (by decide) h), fun h => fu17 (mark_of (by decide) h), fun h => fu18 (mark_of (by decide) h), fun h => fu19 (mark_of (by decide) h), fun h => fu20 (mark_of (by decide) h), fun h => fu21 (mark_of (by decide) h), fun h => fu22 (mark_of (by decide) h), fun h => fu23 (mark_of (by decide) h)⟩
                · have eu3 := fu3 (dep_of 3 hru rfl (by kernel_rfl))
                  replace eu3 := eu3.symm
                  subst eu3
                  refine wpOp_shut (by rfl) (fun K hK => ?_)
                  simp only [Act.put, List.setIfInBounds_toArray, List.set_cons_zero, List.set_cons_succ]
                  have htT := htT.below hbu
                  go_simp
                  refine (Ct1 wn htT).mono ?_
                  rintro eu wx ⟨rfl, bu⟩
                  go_wp2_with fail
                  have hbu2 := hbu.trans (bu.mono hbu.size)
                  exact hK.out _ _ ⟨vu0, vu1, vu2, (.int .i64 (x1 : Int)), (.string t1), vu5, vu6, vu7, vu8, vu9, vu10, vu11, vu12, vu13, vu14, vu15, vu16, vu17, vu18, vu19, vu20, vu21, vu22, vu23, by simp only [Act.put, List.setIfInBounds_toArray, List.set_cons_zero, List.set_cons_succ], hbu2, fun h => fu0 (mark_of (by decide) h), fun h => fu1 (mark_of (by decide) h), fun h => fu2 (mark_of (by decide) h), fun _ => rfl, fun _ => rfl, fun h => fu5 (mark_of (by decide) h), fun h => fu6 (mark_of (by decide) h), fun h => fu7 (mark_of (by decide) h), fun h => fu8 (mark_of (by decide) h), fun h => fu9 (mark_of (by decide) h), fun h => fu10 (mark_of (by decide) h), fun h => fu11 (mark_of (by decide) h), fun h => fu12 (mark_of (by decide) h), fun h => fu13 (mark_of (by decide) h), fun h => fu14 (mark_of (by decide) h), fun h => fu15 (mark_of (by decide) h), fun h => fu16 (mark_of (by decide) h), fun h => fu17 (mark_of (by decide) h), fun h => fu18 (mark_of (by decide) h), fun h => fu19 (mark_of (by decide) h), fun h => fu20 (mark_of (by decide) h), fun h => fu21 (mark_of (by decide) h), fun h => fu22 (mark_of (by decide) h), fun h => fu23 (mark_of (by decide) h)⟩
                · have eu1 := fu1 (dep_of 1 hru rfl (by kernel_rfl))
                  have eu4 := fu4 (dep_of 4 hru rfl (by kernel_rfl))
                  replace eu1 := eu1.symm
                  subst eu1
                  replace eu4 := eu4.symm
                  subst eu4
                  refine wpOp_shut (by rfl) (fun K hK => ?_)
                  simp only [Act.put, List.setIfInBounds_toArray, List.set_cons_zero, List.set_cons_succ]
                  go_simp
                  exact hK.out _ _ ⟨vu0, (.string y1), vu2, vu3, (.string t1), (.string y2), vu6, vu7, vu8, vu9, vu10, vu11, vu12, vu13, vu14, vu15, vu16, vu17, vu18, vu19, vu20, vu21, vu22, vu23, by simp only [Act.put, List.setIfInBounds_toArray, List.set_cons_zero, List.set_cons_succ], hbu, fun h => fu0 (mark_of (by decide) h), fun _ => rfl, fun h => fu2 (mark_of (by decide) h), fun h => fu3 (mark_of (by decide) h), fun _ => rfl, fun _ => rfl, fun h => fu6 (mark_of (by decide) h), fun h => fu7 (mark_of (by decide) h), fun h => fu8 (mark_of (by decide) h), fun h => fu9 (mark_of (by decide) h), fun h => fu10 (mark_of (by decide) h), fun h => fu11 (mark_of (by decide) h), fun h => fu12 (mark_of (by decide) h), fun h => fu13 (mark_of (by decide) h), fun h => fu14 (mark_of (by decide) h), fun h => fu15 (mark_of (by decide) h), fun h => fu16 (mark_of (by decide) h), fun h => fu17 (mark_of (by decide) h), fun h => fu18 (mark_of (by decide) h), fun h => fu19 (mark_of (by decide) h), fun h => fu20 (mark_of (by decide) h), fun h => fu21 (mark_of (by decide) h), fun h => fu22 (mark_of (by decide) h), fun h => fu23 (mark_of (by decide) h)⟩
                · have eu5 := fu5 (dep_of 5 hru rfl (by kernel_rfl))
                  replace eu5 := eu5.symm
                  subst eu5
                  refine wpOp_shut (by rfl) (fun K hK => ?_)
                  simp only [Act.put, List.setIfInBounds_toArray, List.set_cons_zero, List.set_cons_succ]
                  go_simp
                  exact hK.out _ _ ⟨vu0, vu1, vu2, vu3, vu4, (.string y2), (.string y3), vu7, vu8, vu9, vu10, vu11, vu12, vu13, vu14, vu15, vu16, vu17, vu18, vu19, vu20, vu21, vu22, vu23, by simp only [Act.put, List.setIfInBounds_toArray, List.set_cons_zero, List.set_cons_succ], hbu, fun h => fu0 (mark_of (by decide) h), fun h => fu1 (mark_of (by decide) h), fun h => fu2 (mark_of (by decide) h), fun h => fu3 (mark_of (by decide) h), fun h => fu4 (mark_of (by decide) h), fun _ => rfl, fun _ => rfl, fun h => fu7 (mark_of (by decide) h), fun h => fu8 (mark_of (by decide) h), fun h => fu9 (mark_of (by decide) h), fun h => fu10 (mark_of (by decide) h), fun h => fu11 (mark_of (by decide) h), fun h => fu12 (mark_of (by decide) h), fun h => fu13 (mark_of (by decide) h), fun h => fu14 (mark_of (by decide) h), fun h => fu15 (mark_of (by decide) h), fun h => fu16 (mark_of (by decide) h), fun h => fu17 (mark_of (by decide) h), fun h => fu18 (mark_of (by decide) h), fun h => fu19 (mark_of (by decide) h), fun h => fu20 (mark_of (by decide) h), fun h => fu21 (mark_of (by decide) h), fun h => fu22 (mark_of (by decide) h), fun h => fu23 (mark_of (by decide) h)⟩
                · refine wpOp_shut (by rfl) (fun K hK => ?_)
                  simp only [Act.put, List.setIfInBounds_toArray, List.set_cons_zero, List.set_cons_succ]
                  go_simp
                  exact hK.out _ _ ⟨vu0, vu1, vu2, vu3, vu4, vu5, vu6, (.pointer (some ⟨R1, 2, none⟩)), vu8, vu9, vu10, vu11, vu12, vu13, vu14, vu15, vu16, vu17, vu18, vu19, vu20, vu21, vu22, vu23, by simp only [Act.put, List.setIfInBounds_toArray, List.set_cons_zero, List.set_cons_succ], hbu, fun h => fu0 (mark_of (by decide) h), fun h => fu1 (mark_of (by decide) h), fun h => fu2 (mark_of (by decide) h), fun h => fu3 (mark_of (by decide) h), fun h => fu4 (mark_of (by decide) h), fun h => fu5 (mark_of (by decide) h), fun h => fu6 (mark_of (by decide) h), fun _ => rfl, fun h => fu8 (mark_of (by decide) h), fun h => fu9 (mark_of (by decide) h), fun h => fu10 (mark_of (by decide) h), fun h => fu11 (mark_of (by decide) h), fun h => fu12 (mark_of (by decide) h), fun h => fu13 (mark_of (by decide) h), fun h => fu14 (mark_of (by decide) h), fun h => fu15 (mark_of (by decide) h), fun h => fu16 (mark_of (by decide) h), fun h => fu17 (mark_of (by decide) h), fun h => fu18 (mark_of (by decide) h), fun h => fu19 (mark_of (by decide) h), fun h => fu20 (mark_of (by decide) h), fun h => fu21 (mark_of (by decide) h), fun h => fu22 (mark_of (by decide) h), fun h => fu23 (mark_of (by decide) h)⟩
                · have eu7 := fu7 (dep_of 7 hru rfl (by kernel_rfl))
                  replace eu7 := eu7.symm
                  subst eu7
                  refine wpOp_shut (by rfl) (fun K hK => ?_)
                  simp only [Act.put, List.setIfInBounds_toArray, List.set_cons_zero, List.set_cons_succ]
                  obtain ⟨V_0, V_1, V_2, V_3, V_4, V_5, V_6, V_7, V_8, V_9, V_10, V_11, V_12, V_13⟩ := VN.below hbu
                  go_simp
                  exact hK.out _ _ ⟨vu0, vu1, vu2, vu3, vu4, vu5, vu6, (.pointer (some ⟨R1, 2, none⟩)), (.agg #[.bool p1, .slice a1 n1 c1, .slice b1 m1 d1]), vu9, vu10, vu11, vu12, vu13, vu14, vu15, vu16, vu17, vu18, vu19, vu20, vu21, vu22, vu23, by simp only [Act.put, List.setIfInBounds_toArray, List.set_cons_zero, List.set_cons_succ], hbu, fun h => fu0 (mark_of (by decide) h), fun h => fu1 (mark_of (by decide) h), fun h => fu2 (mark_of (by decide) h), fun h => fu3 (mark_of (by decide) h), fun h => fu4 (mark_of (by decide) h), fun h => fu5 (mark_of (by decide) h), fun h => fu6 (mark_of (by decide) h), fun _ => rfl, fun _ => rfl, fun h => fu9 (mark_of (by decide) h), fun h => fu10 (mark_of (by decide) h), fun h => fu11 (mark_of (by decide) h), fun h => fu12 (mark_of (by decide) h), fun h => fu13 (mark_of (by decide) h), fun h => fu14 (mark_of (by decide) h), fun h => fu15 (mark_of (by decide) h), fun h => fu16 (mark_of (by decide) h), fun h => fu17 (mark_of (by decide) h), fun h => fu18 (mark_of (by decide) h), fun h => fu19 (mark_of (by decide) h), fun h => fu20 (mark_of (by decide) h), fun h => fu21 (mark_of (by decide) h), fun h => fu22 (mark_of (by decide) h), fun h => fu23 (mark_of (by decide) h)⟩
                · have eu4 := fu4 (dep_of 4 hru rfl (by kernel_rfl))
                  have eu8 := fu8 (dep_of 8 hru rfl (by kernel_rfl))
                  replace eu4 := eu4.symm
                  subst eu4
                  replace eu8 := eu8.symm
                  subst eu8
                  refine wpOp_shut (by rfl) (fun K hK => ?_)
                  simp only [Act.put, List.setIfInBounds_toArray, List.set_cons_zero, List.set_cons_succ]
                  have r1 := r1.below hbu
                  have htT := htT.below hbu
                  go_simp
                  refine (Ctq wn r1 htT).mono ?_
                  rintro eu wx ⟨rfl, bu⟩
                  go_wp2_with fail
                  have hbu2 := hbu.trans (bu.mono hbu.size)
                  exact hK.out _ _ ⟨vu0, vu1, vu2, vu3, (.string t1), vu5, vu6, vu7, (.agg #[.bool p1, .slice a1 n1 c1, .slice b1 m1 d1]), (.string tq), vu10, vu11, vu12, vu13, vu14, vu15, vu16, vu17, vu18, vu19, vu20, vu21, vu22, vu23, by simp only [Act.put, List.setIfInBounds_toArray, List.set_cons_zero, List.set_cons_succ], hbu2, fun h => fu0 (mark_of (by decide) h), fun h => fu1 (mark_of (by decide) h), fun h => fu2 (mark_of (by decide) h), fun h => fu3 (mark_of (by decide) h), fun _ => rfl, fun h => fu5 (mark_of (by decide) h), fun h => fu6 (mark_of (by decide) h), fun h => fu7 (mark_of (by decide) h), fun _ => rfl, fun _ => rfl, fun h => fu10 (mark_of (by decide) h), fun h => fu11 (mark_of (by decide) h), fun h => fu12 (mark_of (by decide) h), fun h => fu13 (mark_of (by decide) h), fun h => fu14 (mark_of (by decide) h), fun h => fu15 (mark_of (by decide) h), fun h => fu16 (mark_of (by decide) h), fun h => fu17 (mark_of (by decide) h), fun h => fu18 (mark_of (by decide) h), fun h => fu19 (mark_of (by decide) h), fun h => fu20 (mark_of (by decide) h), fun h => fu21 (mark_of (by decide) h), fun h => fu22 (mark_of (by decide) h), fun h => fu23 (mark_of (by decide) h)⟩
                · have eu6 := fu6 (dep_of 6 hru rfl (by kernel_rfl))
                  have eu9 := fu9 (dep_of 9 hru rfl (by kernel_rfl))
                  replace eu6 := eu6.symm
                  subst eu6
                  replace eu9 := eu9.symm
                  subst eu9
                  refine wpOp_shut (by rfl) (fun K hK => ?_)
                  simp only [Act.put, List.setIfInBounds_toArray, List.set_cons_zero, List.set_cons_succ]
                  go_simp
                  exact hK.out _ _ ⟨vu0, vu1, vu2, vu3, vu4, vu5, (.string y3), vu7, vu8, (.string tq), (.string y4), vu11, vu12, vu13, vu14, vu15, vu16, vu17, vu18, vu19, vu20, vu21, vu22, vu23, by simp only [Act.put, List.setIfInBounds_toArray, List.set_cons_zero, List.set_cons_succ], hbu, fun h => fu0 (mark_of (by decide) h), fun h => fu1 (mark_of (by decide) h), fun h => fu2 (mark_of (by decide) h), fun h => fu3 (mark_of (by decide) h), fun h => fu4 (mark_of (by decide) h), fun h => fu5 (mark_of (by decide) h), fun _ => rfl, fun h => fu7 (mark_of (by decide) h), fun h => fu8 (mark_of (by decide) h), fun _ => rfl, fun _ => rfl, fun h => fu11 (mark_of (by decide) h), fun h => fu12 (mark_of (by decide) h), fun h => fu13 (mark_of (by decide) h), fun h => fu14 (mark_of (by decide) h), fun h => fu15 (mark_of (by decide) h), fun h => fu16 (mark_of (by decide) h), fun h => fu17 (mark_of (by decide) h), fun h => fu18 (mark_of (by decide) h), fun h => fu19 (mark_of (by decide) h), fun h => fu20 (mark_of (by decide) h), fun h => fu21 (mark_of (by decide) h), fun h => fu22 (mark_of (by decide) h), fun h => fu23 (mark_of (by decide) h)⟩
                · have eu10 := fu10 (dep_of 10 hru rfl (by kernel_rfl))
                  replace eu10 := eu10.symm
                  subst eu10
                  refine wpOp_shut (by rfl) (fun K hK => ?_)
                  simp only [Act.put, List.setIfInBounds_toArray, List.set_cons_zero, List.set_cons_succ]
                  go_simp
                  exact hK.out _ _ ⟨vu0, vu1, vu2, vu3, vu4, vu5, vu6, vu7, vu8, vu9, (.string y4), (.string y5), vu12, vu13, vu14, vu15, vu16, vu17, vu18, vu19, vu20, vu21, vu22, vu23, by simp only [Act.put, List.setIfInBounds_toArray, List.set_cons_zero, List.set_cons_succ], hbu, fun h => fu0 (mark_of (by decide) h), fun h => fu1 (mark_of (by decide) h), fun h => fu2 (mark_of (by decide) h), fun h => fu3 (mark_of (by decide) h), fun h => fu4 (mark_of (by decide) h), fun h => fu5 (mark_of (by decide) h), fun h => fu6 (mark_of (by decide) h), fun h => fu7 (mark_of (by decide) h), fun h => fu8 (mark_of (by decide) h), fun h => fu9 (mark_of (by decide) h), fun _ => rfl, fun _ => rfl, fun h => fu12 (mark_of (by decide) h), fun h => fu13 (mark_of (by decide) h), fun h => fu14 (mark_of (by decide) h), fun h => fu15 (mark_of (by decide) h), fun h => fu16 (mark_of (by decide) h), fun h => fu17 (mark_of (by decide) h), fun h => fu18 (mark_of (by decide) h), fun h => fu19 (mark_of (by decide) h), fun h => fu20 (mark_of (by decide) h), fun h => fu21 (mark_of (by decide) h), fun h => fu22 (mark_of (by decide) h), fun h => fu23 (mark_of (by decide) h)⟩
                · refine wpOp_shut (by rfl) (fun K hK => ?_)
                  simp only [Act.put, List.setIfInBounds_toArray, List.set_cons_zero, List.set_cons_succ]
                  go_simp
                  exact hK.out _ _ ⟨vu0, vu1, vu2, vu3, vu4, vu5, vu6, vu7, vu8, vu9, vu10, vu11, (.pointer (some ⟨R1, 5, none⟩)), vu13, vu14, vu15, vu16, vu17, vu18, vu19, vu20, vu21, vu22, vu23, by simp only [Act.put, List.setIfInBounds_toArray, List.set_cons_zero, List.set_cons_succ], hbu, fun h => fu0 (mark_of (by decide) h), fun h => fu1 (mark_of (by decide) h), fun h => fu2 (mark_of (by decide) h), fun h => fu3 (mark_of (by decide) h), fun h => fu4 (mark_of (by decide) h), fun h => fu5 (mark_of (by decide) h), fun h => fu6 (mark_of (by decide) h), fun h => fu7 (mark_of (by decide) h), fun h => fu8 (mark_of (by decide) h), fun h => fu9 (mark_of (by decide) h), fun h => fu10 (mark_of (by decide) h), fun h => fu11 (mark_of (by decide) h), fun _ => rfl, fun h => fu13 (mark_of (by decide) h), fun h => fu14 (mark_of (by decide) h), fun h => fu15 (mark_of (by decide) h), fun h => fu16 (mark_of (by decide) h), fun h => fu17 (mark_of (by decide) h), fun h => fu18 (mark_of (by decide) h), fun h => fu19 (mark_of (by decide) h), fun h => fu20 (mark_of (by decide) h), fun h => fu21 (mark_of (by decide) h), fun h => fu22 (mark_of (by decide) h), fun h => fu23 (mark_of (by decide) h)⟩
                · have eu12 := fu12 (dep_of 12 hru rfl (by kernel_rfl))
                  replace eu12 := eu12.symm
                  subst eu12
                  refine wpOp_shut (by rfl) (fun K hK => ?_)
                  simp only [Act.put, List.setIfInBounds_toArray, List.set_cons_zero, List.set_cons_succ]
                  obtain ⟨V_0, V_1, V_2, V_3, V_4, V_5, V_6, V_7, V_8, V_9, V_10, V_11, V_12, V_13⟩ := VN.below hbu
                  go_simp
                  exact hK.out _ _ ⟨vu0, vu1, vu2, vu3, vu4, vu5, vu6, vu7, vu8, vu9, vu10, vu11, (.pointer (some ⟨R1, 5, none⟩)), (.int .i64 (x2 : Int)), vu14, vu15, vu16, vu17, vu18, vu19, vu20, vu21, vu22, vu23, by simp only [Act.put, List.setIfInBounds_toArray, List.set_cons_zero, List.set_cons_succ], hbu, fun h => fu0 (mark_of (by decide) h), fun h => fu1 (mark_of (by decide) h), fun h => fu2 (mark_of (by decide) h), fun h => fu3 (mark_of (by decide) h), fun h => fu4 (mark_of (by decide) h), fun h => fu5 (mark_of (by decide) h), fun h => fu6 (mark_of (by decide) h), fun h => fu7 (mark_of (by decide) h), fun h => fu8 (mark_of (by decide) h), fun h => fu9 (mark_of (by decide) h), fun h => fu10 (mark_of (by decide) h), fun h => fu11 (mark_of (by decide) h), fun _ => rfl, fun _ => rfl, fun h => fu14 (mark_of (by decide) h), fun h => fu15 (mark_of (by decide) h), fun h => fu16 (mark_of (by decide) h), fun h => fu17 (mark_of (by decide) h), fun h => fu18 (mark_of (by decide) h), fun h => fu19 (mark_of (by decide) h), fun h => fu20 (mark_of (by decide) h), fun h => fu21 (mark_of (by decide) h), fun h => fu22 (mark_of (by decide) h), fun h => fu23 (mark_of (by decide) h)⟩
                · have eu9 := fu9 (dep_of 9 hru rfl (by kernel_rfl))
                  have eu13 := fu13 (dep_of 13 hru rfl (by kernel_rfl))
                  replace eu9 := eu9.symm
                  subst eu9
                  replace eu13 := eu13.symm
                  subst eu13
                  refine wpOp_shut (by rfl) (fun K hK => ?_)
                  simp only [Act.put, List.setIfInBounds_toArray, List.set_cons_zero, List.set_cons_succ]
                  have htT := htT.below hbu
                  go_simp
                  refine (Ct2 wn htT).mono ?_
                  rintro eu wx ⟨rfl, bu⟩
                  go_wp2_with fail
                  have hbu2 := hbu.trans (bu.mono hbu.size)
                  exact hK.out _ _ ⟨vu0, vu1, vu2, vu3, vu4, vu5, vu6, vu7, vu8, (.string tq), vu10, vu11, vu12, (.int .i64 (x2 : Int)), (.string t2), vu15, vu16, vu17, vu18, vu19, vu20, vu21, vu22, vu23, by simp only [Act.put, List.setIfInBounds_toArray, List.set_cons_zero, List.set_cons_succ], hbu2, fun h => fu0 (mark_of (by decide) h), fun h => fu1 (mark_of (by decide) h), fun h => fu2 (mark_of (by decide) h), fun h => fu3 (mark_of (by decide) h), fun h => fu4 (mark_of (by decide) h), fun h => fu5 (mark_of (by decide) h), fun h => fu6 (mark_of (by decide) h), fun h => fu7 (mark_of (by decide) h), fun h => fu8 (mark_of (by decide) h), fun _ => rfl, fun h => fu10 (mark_of (by decide) h), fun h => fu11 (mark_of (by decide) h), fun h => fu12 (mark_of (by decide) h), fun _ => rfl, fun _ => rfl, fun h => fu15 (mark_of (by decide) h), fun h => fu16 (mark_of (by decide) h), fun h => fu17 (mark_of (by decide) h), fun h => fu18 (mark_of (by decide) h), fun h => fu19 (mark_of (by decide) h), fun h => fu20 (mark_of (by decide) h), fun h => fu21 (mark_of (by decide) h), fun h => fu22 (mark_of (by decide) h), fun h => fu23 (mark_of (by decide) h)⟩
                · have eu11 := fu11 (dep_of 11 hru rfl (by kernel_rfl))
                  have eu14 := fu14 (dep_of 14 hru rfl (by kernel_rfl))
                  replace eu11 := eu11.symm
                  subst eu11
                  replace eu14 := eu14.symm
                  subst eu14
                  refine wpOp_shut (by rfl) (fun K hK => ?_)
                  simp only [Act.put, List.setIfInBounds_toArray, List.set_cons_zero, List.set_cons_succ]
                  go_simp
                  exact hK.out _ _ ⟨vu0, vu1, vu2, vu3, vu4, vu5, vu6, vu7, vu8, vu9, vu10, (.string y5), vu12, vu13, (.string t2), (.string y6), vu16, vu17, vu18, vu19, vu20, vu21, vu22, vu23, by simp only [Act.put, List.setIfInBounds_toArray, List.set_cons_zero, List.set_cons_succ], hbu, fun h => fu0 (mark_of (by decide) h), fun h => fu1 (mark_of (by decide) h), fun h => fu2 (mark_of (by decide) h), fun h => fu3 (mark_of (by decide) h), fun h => fu4 (mark_of (by decide) h), fun h => fu5 (mark_of (by decide) h), fun h => fu6 (mark_of (by decide) h), fun h => fu7 (mark_of (by decide) h), fun h => fu8 (mark_of (by decide) h), fun h => fu9 (mark_of (by decide) h), fun h => fu10 (mark_of (by decide) h), fun _ => rfl, fun h => fu12 (mark_of (by decide) h), fun h => fu13 (mark_of (by decide) h), fun _ => rfl, fun _ => rfl, fun h => fu16 (mark_of (by decide) h), fun h => fu17 (mark_of (by decide) h), fun h => fu18 (mark_of (by decide) h), fun h => fu19 (mark_of (by decide) h), fun h => fu20 (mark_of (by decide) h), fun h => fu21 (mark_of (by decide) h), fun h => fu22 (mark_of (by decide) h), fun h => fu23 (mark_of (by decide) h)⟩
                · have eu15 := fu15 (dep_of 15 hru rfl (by kernel_rfl))
                  replace eu15 := eu15.symm
                  subst eu15
                  refine wpOp_shut (by rfl) (fun K hK => ?_)
                  simp only [Act.put, List.setIfInBounds_toArray, List.set_cons_zero, List.set_cons_succ]
                  go_simp
                  exact hK.out _ _ ⟨vu0, vu1, vu2, vu3, vu4, vu5, vu6, vu7, vu8, vu9, vu10, vu11, vu12, vu13, vu14, (.string y6), (.string y7), vu17, vu18, vu19, vu20, vu21, vu22, vu23, by simp only [Act.put, List.setIfInBounds_toArray, List.set_cons_zero, List.set_cons_succ], hbu, fun h => fu0 (mark_of (by decide) h), fun h => fu1 (mark_of (by decide) h), fun h => fu2 (mark_of (by decide) h), fun h => fu3 (mark_of (by decide) h), fun h => fu4 (mark_of (by decide) h), fun h => fu5 (mark_of (by decide) h), fun h => fu6 (mark_of (by decide) h), fun h => fu7 (mark_of (by decide) h), fun h => fu8 (mark_of (by decide) h), fun h => fu9 (mark_of (by decide) h), fun h => fu10 (mark_of (by decide) h), fun h => fu11 (mark_of (by decide) h), fun h => fu12 (mark_of (by decide) h), fun h => fu13 (mark_of (by decide) h), fun h => fu14 (mark_of (by decide) h), fun _ => rfl, fun _ => rfl, fun h => fu17 (mark_of (by decide) h), fun h => fu18 (mark_of (by decide) h), fun h => fu19 (mark_of (by decide) h), fun h => fu20 (mark_of (by decide) h), fun h => fu21 (mark_of (by decide) h), fun h => fu22 (mark_of (by decide) h), fun h => fu23 (mark_of (by decide) h)⟩
                · refine wpOp_shut (by rfl) (fun K hK => ?_)
                  simp only [Act.put, List.setIfInBounds_toArray, List.set_cons_zero, List.set_cons_succ]
                  go_simp
                  exact hK.out _ _ ⟨vu0, vu1, vu2, vu3, vu4, vu5, vu6, vu7, vu8, vu9, vu10, vu11, vu12, vu13, vu14, vu15, vu16, (.pointer (some ⟨R1, 6, none⟩)), vu18, vu19, vu20, vu21, vu22, vu23, by simp only [Act.put, List.setIfInBounds_toArray, List.set_cons_zero, List.set_cons_succ], hbu, fun h => fu0 (mark_of (by decide) h), fun h => fu1 (mark_of (by decide) h), fun h => fu2 (mark_of (by decide) h), fun h => fu3 (mark_of (by decide) h), fun h => fu4 (mark_of (by decide) h), fun h => fu5 (mark_of (by decide) h), fun h => fu6 (mark_of (by decide) h), fun h => fu7 (mark_of (by decide) h), fun h => fu8 (mark_of (by decide) h), fun h => fu9 (mark_of (by decide) h), fun h => fu10 (mark_of (by decide) h), fun h => fu11 (mark_of (by decide) h), fun h => fu12 (mark_of (by decide) h), fun h => fu13 (mark_of (by decide) h), fun h => fu14 (mark_of (by decide) h), fun h => fu15 (mark_of (by decide) h), fun h => fu16 (mark_of (by decide) h), fun _ => rfl, fun h => fu18 (mark_of (by decide) h), fun h => fu19 (mark_of (by decide) h), fun h => fu20 (mark_of (by decide) h), fun h => fu21 (mark_of (by decide) h), fun h => fu22 (mark_of (by decide) h), fun h => fu23 (mark_of (by decide) h)⟩
                · have eu17 := fu17 (dep_of 17 hru rfl (by kernel_rfl))
                  replace eu17 := eu17.symm
                  subst eu17
                  refine wpOp_shut (by rfl) (fun K hK => ?_)
                  simp only [Act.put, List.setIfInBounds_toArray, List.set_cons_zero, List.set_cons_succ]
                  obtain ⟨V_0, V_1, V_2, V_3, V_4, V_5, V_6, V_7, V_8, V_9, V_10, V_11, V_12, V_13⟩ := VN.below hbu
                  go_simp
                  exact hK.out _ _ ⟨vu0, vu1, vu2, vu3, vu4, vu5, vu6, vu7, vu8, vu9, vu10, vu11, vu12, vu13, vu14, vu15, vu16, (.pointer (some ⟨R1, 6, none⟩)), (.int .i64 (x3 : Int)), vu19, vu20, vu21, vu22, vu23, by simp only [Act.put, List.setIfInBounds_toArray, List.set_cons_zero, List.set_cons_succ], hbu, fun h => fu0 (mark_of (by decide) h), fun h => fu1 (mark_of (by decide) h), fun h => fu2 (mark_of (by decide) h), fun h => fu3 (mark_of (by decide) h), fun h => fu4 (mark_of (by decide) h), fun h => fu5 (mark_of (by decide) h), fun h => fu6 (mark_of (by decide) h), fun h => fu7 (mark_of (by decide) h), fun h => fu8 (mark_of (by decide) h), fun h => fu9 (mark_of (by decide) h), fun h => fu10 (mark_of (by decide) h), fun h => fu11 (mark_of (by decide) h), fun h => fu12 (mark_of (by decide) h), fun h => fu13 (mark_of (by decide) h), fun h => fu14 (mark_of (by decide) h), fun h => fu15 (mark_of (by decide) h), fun h => fu16 (mark_of (by decide) h), fun _ => rfl, fun _ => rfl, fun h => fu19 (mark_of (by decide) h), fun h => fu20 (mark_of (by decide) h), fun h => fu21 (mark_of (by decide) h), fun h => fu22 (mark_of (by decide) h), fun h => fu23 (mark_of (by decide) h)⟩
                · have eu14 := fu14 (dep_of 14 hru rfl (by kernel_rfl))
                  have eu18 := fu18 (dep_of 18 hru rfl (by kernel_rfl))
                  replace eu14 := eu14.symm
                  subst eu14
                  replace eu18 := eu18.symm
                  subst eu18
                  refine wpOp_shut (by rfl) (fun K hK => ?_)
                  simp only [Act.put, List.setIfInBounds_toArray, List.set_cons_zero, List.set_cons_succ]
                  have htT := htT.below hbu
                  go_simp
                  refine (Ct3 wn htT).mono ?_
                  rintro eu wx ⟨rfl, bu⟩
                  go_wp2_with fail
                  have hbu2 := hbu.trans (bu.mono hbu.size)
                  exact hK.out _ _ ⟨vu0, vu1, vu2, vu3, vu4, vu5, vu6, vu7, vu8, vu9, vu10, vu11, vu12, vu13, (.string t2), vu15, vu16, vu17, (.int .i64 (x3 : Int)), (.string t3), vu20, vu21, vu22, vu23, by simp only [Act.put, List.setIfInBounds_toArray, List.set_cons_zero, List.set_cons_succ], hbu2, fun h => fu0 (mark_of (by decide) h), fun h => fu1 (mark_of (by decide) h), fun h => fu2 (mark_of (by decide) h), fun h => fu3 (mark_of (by decide) h), fun h => fu4 (mark_of (by decide) h), fun h => fu5 (mark_of (by decide) h), fun h => fu6 (mark_of (by decide) h), fun h => fu7 (mark_of (by decide) h), fun h => fu8 (mark_of (by decide) h), fun h => fu9 (mark_of (by decide) h), fun h => fu10 (mark_of (by decide) h), fun h => fu11 (mark_of (by decide) h), fun h => fu12 (mark_of (by decide) h), fun h => fu13 (mark_of (by decide) h), fun _ => rfl, fun h => fu15 (mark_of (by decide) h), fun h => fu16 (mark_of (by decide) h), fun h => fu17 (mark_of (by decide) h), fun _ => rfl, fun _ => rfl, fun h => fu20 (mark_of (by decide) h), fun h => fu21 (mark_of (by decide) h), fun h => fu22 (mark_of (by decide) h), fun h => fu23 (mark_of (by decide) h)⟩
                · have eu16 := fu16 (dep_of 16 hru rfl (by kernel_rfl))
                  have eu19 := fu19 (dep_of 19 hru rfl (by kernel_rfl))
                  replace eu16 := eu16.symm
                  subst eu16
                  replace eu19 := eu19.symm
                  subst eu19
                  refine wpOp_shut (by rfl) (fun K hK => ?_)
                  simp only [Act.put, List.setIfInBounds_toArray, List.set_cons_zero, List.set_cons_succ]
                  go_simp
                  exact hK.out _ _ ⟨vu0, vu1, vu2, vu3, vu4, vu5, vu6, vu7, vu8, vu9, vu10, vu11, vu12, vu13, vu14, vu15, (.string y7), vu17, vu18, (.string t3), (.string y8), vu21, vu22, vu23, by simp only [Act.put, List.setIfInBounds_toArray, List.set_cons_zero, List.set_cons_succ], hbu, fun h => fu0 (mark_of (by decide) h), fun h => fu1 (mark_of (by decide) h), fun h => fu2 (mark_of (by decide) h), fun h => fu3 (mark_of (by decide) h), fun h => fu4 (mark_of (by decide) h), fun h => fu5 (mark_of (by decide) h), fun h => fu6 (mark_of (by decide) h), fun h => fu7 (mark_of (by decide) h), fun h => fu8 (mark_of (by decide) h), fun h => fu9 (mark_of (by decide) h), fun h => fu10 (mark_of (by decide) h), fun h => fu11 (mark_of (by decide) h), fun h => fu12 (mark_of (by decide) h), fun h => fu13 (mark_of (by decide) h), fun h => fu14 (mark_of (by decide) h), fun h => fu15 (mark_of (by decide) h), fun _ => rfl, fun h => fu17 (mark_of (by decide) h), fun h => fu18 (mark_of (by decide) h), fun _ => rfl, fun _ => rfl, fun h => fu21 (mark_of (by decide) h), fun h => fu22 (mark_of (by decide) h), fun h => fu23 (mark_of (by decide) h)⟩
                · have eu20 := fu20 (dep_of 20 hru rfl (by kernel_rfl))
                  replace eu20 := eu20.symm
                  subst eu20
                  refine wpOp_shut (by rfl) (fun K hK => ?_)
                  simp only [Act.put, List.setIfInBounds_toArray, List.set_cons_zero, List.set_cons_succ]
                  go_simp
                  exact hK.out _ _ ⟨vu0, vu1, vu2, vu3, vu4, vu5, vu6, vu7, vu8, vu9, vu10, vu11, vu12, vu13, vu14, vu15, vu16, vu17, vu18, vu19, (.string y8), (.string y9), vu22, vu23, by simp only [Act.put, List.setIfInBounds_toArray, List.set_cons_zero, List.set_cons_succ], hbu, fun h => fu0 (mark_of (by decide) h), fun h => fu1 (mark_of (by decide) h), fun h => fu2 (mark_of (by decide) h), fun h => fu3 (mark_of (by decide) h), fun h => fu4 (mark_of (by decide) h), fun h => fu5 (mark_of (by decide) h), fun h => fu6 (mark_of (by decide) h), fun h => fu7 (mark_of (by decide) h), fun h => fu8 (mark_of (by decide) h), fun h => fu9 (mark_of (by decide) h), fun h => fu10 (mark_of (by decide) h), fun h => fu11 (mark_of (by decide) h), fun h => fu12 (mark_of (by decide) h), fun h => fu13 (mark_of (by decide) h), fun h => fu14 (mark_of (by decide) h), fun h => fu15 (mark_of (by decide) h), fun h => fu16 (mark_of (by decide) h), fun h => fu17 (mark_of (by decide) h), fun h => fu18 (mark_of (by decide) h), fun h => fu19 (mark_of (by decide) h), fun _ => rfl, fun _ => rfl, fun h => fu22 (mark_of (by decide) h), fun h => fu23 (mark_of (by decide) h)⟩
                · refine wpOp_shut (by rfl) (fun K hK => ?_)
                  simp only [Act.put, List.setIfInBounds_toArray, List.set_cons_zero, List.set_cons_succ]
                  go_simp
                  exact hK.out _ _ ⟨vu0, vu1, vu2, vu3, vu4, vu5, vu6, vu7, vu8, vu9, vu10, vu11, vu12, vu13, vu14, vu15, vu16, vu17, vu18, vu19, vu20, vu21, (.string { data := #[109, 105, 115, 115, 45, 108, 101, 102, 116] }), vu23, by simp only [Act.put, List.setIfInBounds_toArray, List.set_cons_zero, List.set_cons_succ], hbu, fun h => fu0 (mark_of (by decide) h), fun h => fu1 (mark_of (by decide) h), fun h => fu2 (mark_of (by decide) h), fun h => fu3 (mark_of (by decide) h), fun h => fu4 (mark_of (by decide) h), fun h => fu5 (mark_of (by decide) h), fun h => fu6 (mark_of (by decide) h), fun h => fu7 (mark_of (by decide) h), fun h => fu8 (mark_of (by decide) h), fun h => fu9 (mark_of (by decide) h), fun h => fu10 (mark_of (by decide) h), fun h => fu11 (mark_of (by decide) h), fun h => fu12 (mark_of (by decide) h), fun h => fu13 (mark_of (by decide) h), fun h => fu14 (mark_of (by decide) h), fun h => fu15 (mark_of (by decide) h), fun h => fu16 (mark_of (by decide) h), fun h => fu17 (mark_of (by decide) h), fun h => fu18 (mark_of (by decide) h), fun h => fu19 (mark_of (by decide) h), fun h => fu20 (mark_of (by decide) h), fun h => fu21 (mark_of (by decide) h), fun _ => rfl, fun h => fu23 (mark_of (by decide) h)⟩
                · have eu21 := fu21 (dep_of 21 hru rfl (by kernel_rfl))
                  have eu22 := fu22 (dep_of 22 hru rfl (by kernel_rfl))
                  replace eu21 := eu21.symm
                  subst eu21
                  replace eu22 := eu22.symm
                  subst eu22
                  refine wpOp_shut (by rfl) (fun K hK => ?_)
                  simp only [Act.put, List.setIfInBounds_toArray, List.set_cons_zero, List.set_cons_succ]
                  go_simp
                  exact hK.out _ _ ⟨vu0, vu1, vu2, vu3, vu4, vu5, vu6, vu7, vu8, vu9, vu10, vu11, vu12, vu13, vu14, vu15, vu16, vu17, vu18, vu19, vu20, (.string y9), (.string { data := #[109, 105, 115, 115, 45, 108, 101, 102, 116] }), (.string y10), by simp only [Act.put, List.setIfInBounds_toArray, List.set_cons_zero, List.set_cons_succ], hbu, fun h => fu0 (mark_of (by decide) h), fun h => fu1 (mark_of (by decide) h), fun h => fu2 (mark_of (by decide) h), fun h => fu3 (mark_of (by decide) h), fun h => fu4 (mark_of (by decide) h), fun h => fu5 (mark_of (by decide) h), fun h => fu6 (mark_of (by decide) h), fun h => fu7 (mark_of (by decide) h), fun h => fu8 (mark_of (by decide) h), fun h => fu9 (mark_of (by decide) h), fun h => fu10 (mark_of (by decide) h), fun h => fu11 (mark_of (by decide) h), fun h => fu12 (mark_of (by decide) h), fun h => fu13 (mark_of (by decide) h), fun h => fu14 (mark_of (by decide) h), fun h => fu15 (mark_of (by decide) h), fun h => fu16 (mark_of (by decide) h), fun h => fu17 (mark_of (by decide) h), fun h => fu18 (mark_of (by decide) h), fun h => fu19 (mark_of (by decide) h), fun h => fu20 (mark_of (by decide) h), fun _ => rfl, fun _ => rfl, fun _ => rfl⟩
              rintro au Wu1 ⟨vu0, vu1, vu2, vu3, vu4, vu5, vu6, vu7, vu8, vu9, vu10, vu11, vu12, vu13, vu14, vu15, vu16, vu17, vu18, vu19, vu20, vu21, vu22, vu23, rfl, hbu, fu0, fu1, fu2, fu3, fu4, fu5, fu6, fu7, fu8, fu9, fu10, fu11, fu12, fu13, fu14, fu15, fu16, fu17, fu18, fu19, fu20, fu21, fu22, fu23⟩
              have eu0 := (fu0 rfl).symm
              subst eu0
              have eu1 := (fu1 rfl).symm
              subst eu1
              have eu2 := (fu2 rfl).symm
              subst eu2
              have eu3 := (fu3 rfl).symm
              subst eu3
              have eu4 := (fu4 rfl).symm
              subst eu4
              have eu5 := (fu5 rfl).symm
              subst eu5
              have eu6 := (fu6 rfl).symm
              subst eu6
              have eu7 := (fu7 rfl).symm
              subst eu7
              have eu8 := (fu8 rfl).symm
              subst eu8
              have eu9 := (fu9 rfl).symm
              subst eu9
              have eu10 := (fu10 rfl).symm
              subst eu10
              have eu11 := (fu11 rfl).symm
              subst eu11
              have eu12 := (fu12 rfl).symm
              subst eu12
              have eu13 := (fu13 rfl).symm
              subst eu13
              have eu14 := (fu14 rfl).symm
              subst eu14
              have eu15 := (fu15 rfl).symm
              subst eu15
              have eu16 := (fu16 rfl).symm
              subst eu16
              have eu17 := (fu17 rfl).symm
              subst eu17
              have eu18 := (fu18 rfl).symm
              subst eu18
              have eu19 := (fu19 rfl).symm
              subst eu19
              have eu20 := (fu20 rfl).symm
              subst eu20
              have eu21 := (fu21 rfl).symm
              subst eu21
              have eu22 := (fu22 rfl).symm
              subst eu22
              have eu23 := (fu23 rfl).symm
              subst eu23
              clear fu0 fu1 fu2 fu3 fu4 fu5 fu6 fu7 fu8 fu9 fu10 fu11 fu12 fu13 fu14 fu15 fu16 fu17 fu18 fu19 fu20 fu21 fu22 fu23
              replace r1 := r1.below hbu
              replace r3 := r3.below hbu
              replace htT := htT.below hbu
              replace VN := VN.below hbu
              replace BB := BB.trans (hbu.mono BB.size)
              clear hbu
              simp only [Act.put, List.setIfInBounds_toArray, List.set_cons_zero, List.set_cons_succ]
              refine wpAnyH_ready (rs := [24]) (by kernel_rfl) (by simp) ?_
              refine AllReadyH.cons (by rfl) (fun K hK => ?_) AllReadyH.nil
              go_simp
              refine hK.out _ _ trivial (fun _ => ?_)
              clear hK K
              simp only [Act.put, List.setIfInBounds_toArray, List.set_cons_zero, List.set_cons_succ]
              refine wpAnyH_done (by kernel_rfl) ?_ _
              clear hy1 hy2 hy3 hy4 hy5 hy6 hy7 hy8 hy9 hy10
              have BL := BB
              clear BB
              obtain ⟨V_0, V_1, V_2, V_3, V_4, V_5, V_6, V_7, V_8, V_9, V_10, V_11, V_12, V_13⟩ := id VN
              go_wp2_with fail
              clear V_0 V_1 V_2 V_3 V_4 V_5 V_6 V_7 V_8 V_9 V_10 V_11 V_12 V_13
              refine (Ctc _ r3 htT).mono ?_
              rintro e w9 ⟨rfl, b2⟩
              replace BL := BL.trans (b2.mono BL.size)
              clear b2 r3 htT Ctc VN
              go_wp2
              go_roundw
              case rel => exact ⟨j + 1, by omega, congrArg Value.string HE.out, by go_num, BL⟩
              case measure => simp [intOf]; omega
          · have HE : Hid (s ++ { data := #[108, 101, 97, 102, 32] } ++ tv ++ { data := #[32] } ++ tc ++ { data := #[10] } = byS (l0 ++ nodesT (T i) (j + 1))) := by
                          show _ = _
                          rw [nodesT, lnN, hlf, if_pos rfl, htv, htc, ← HS.out]
                          apply ByteArray.ext
                          apply Array.toList_inj.1
                          simp [byS, ByteArray.data_append]
            clear hlf hms hx1 hx2 hx3 htq htv htc ht1 ht2 ht3 Ct1 Ct2 Ct3 Ctq
            have nz0 : ¬ 9223372036854775807 < s.size + 5 := by omega
            have nz1 : ¬ 9223372036854775807 < s.size + 5 + tv.size := by omega
            have nz2 : ¬ 9223372036854775807 < s.size + 5 + tv.size + 1 := by omega
            have nz3 : ¬ 9223372036854775807 < s.size + 5 + tv.size + 1 + tc.size := by omega
            have nz4 : ¬ 9223372036854775807 < s.size + 5 + tv.size + 1 + tc.size + 1 := by omega
            obtain ⟨N_0, N_1, N_2, N_3, N_4, N_5, N_6, N_7, N_8, N_9, N_10, N_11, N_12, N_13⟩ := id NN
            obtain ⟨W1, hW1, hS1, hL1, VN, FN⟩ := V14.lay wr 41 (.bool true) (.int .i64 (x1 : Int)) (.bool p1) (.slice a1 n1 c1) (.slice b1 m1 d1) (.int .i64 (x2 : Int)) (.int .i64 (x3 : Int)) (.bool ms) (.bool p2) (.slice a2 n2 c2) (.slice b2 m2 d2) (.bool p3) (.slice a3 n3 c3) (.slice b3 m3 d3)
            replace r1 := r1.below hL1
            replace r2 := r2.below hL1
            replace r3 := r3.below hL1
            replace htT := htT.below hL1
            replace BL := BL.trans (hL1.mono BL.size)
            clear hL1
            obtain ⟨V_0, V_1, V_2, V_3, V_4, V_5, V_6, V_7, V_8, V_9, V_10, V_11, V_12, V_13⟩ := id VN
            rw [hW1] at V_0 V_1 V_2 V_3 V_4 V_5 V_6 V_7 V_8 V_9 V_10 V_11 V_12 V_13
            go_wp2_with fail
            clear VM_0 VM_1 VM_2 VM_3 XC NN FN N_0 V_0 N_1 V_1 N_2 V_2 N_3 V_3 N_4 V_4 N_5 V_5 N_6 V_6 N_7 V_7 N_8 V_8 N_9 V_9 N_10 V_10 N_11 V_11 N_12 V_12 N_13 V_13
            rw [← hW1]
            generalize wr.heap.size = R1 at *
            clear hW1 hS1
            refine (Ctv _ r2 htT).mono ?_
            rintro e w7 ⟨rfl, b2⟩
            replace r3 := r3.below b2
            replace htT := htT.below b2
            replace VN := VN.below b2
            replace BL := BL.trans (b2.mono BL.size)
            clear b2 r1 r2 Ctv
            obtain ⟨V_0, V_1, V_2, V_3, V_4, V_5, V_6, V_7, V_8, V_9, V_10, V_11, V_12, V_13⟩ := id VN
            go_wp2_with fail
            clear V_0 V_1 V_2 V_3 V_4 V_5 V_6 V_7 V_8 V_9 V_10 V_11 V_12 V_13
            refine (Ctc _ r3 htT).mono ?_
            rintro e w9 ⟨rfl, b2⟩
            replace BL := BL.trans (b2.mono BL.size)
            clear b2 r3 htT Ctc VN
            go_wp2
            go_roundw
            case rel => exact ⟨j + 1, by omega, congrArg Value.string HE.out, by go_num, BL⟩
            case measure => simp [intOf]; omega
        · obtain rfl : j = ni := by omega
          have g2 : ¬ (j : Int) < (j : Int) := by omega
          have HE2 : Hid (s = byS (hd ++ treesT N T (i + 1))) := by
                      show _ = _
                      rw [treesT, HNI.out, ← List.append_assoc, ← List.append_assoc, HL0.out]
                      exact HS.out.symm
          go_wp2
          go_roundw
          case rel => exact ⟨i + 1, by omega, congrArg Value.string HE2.out, by go_num, BL⟩
          case measure => simp [intOf]; omega
    · obtain rfl : i = k := by omega
      have g1 : ¬ (i : Int) < (i : Int) := by omega
      have nz1 : ¬ 9223372036854775807 < s.size + 4 := by omega
      have HE3 : Hid (s ++ { data := #[101, 110, 100, 10] } = byS (modT (fn : Int) i N T)) := by
              show _ = _
              unfold modT
              rw [ln1, HHD.out, ← HS.out]
              apply ByteArray.ext
              apply Array.toList_inj.1
              simp [byS, ByteArray.data_append]
      go_wp2
      go_ret
      exact ⟨congrArg (fun x => Ending.returned (Value.string x)) HE3.out, BB0.out.trans (BL.mono BB0.out.size)⟩

/-- Any node. -/
def ndZero : Nd := ⟨false, 0, 0, 0, 0, false, 0, 0⟩
theorem none_fits : mfit 0 0 (fun _ => 0) (fun _ _ => ndZero) = true := mfit_yes (by omega) (by omega) (fun j hj => absurd hj (by omega))
theorem none_text : byS (modT 0 0 (fun _ => 0) (fun _ _ => ndZero)) = { data := #[100, 101, 110, 100, 114, 111, 110, 32, 49, 10, 102, 101, 97, 116, 117, 114, 101, 115, 32, 48, 10, 116, 114, 101, 101, 115, 32, 48, 10, 101, 110, 100, 10] } := by
  unfold modT headT
  rw [ln2, ln2, ln2, ln1]
  have e : ktxt 0 = { data := #[48] } := by
    show (⟨(Lib.decDigits 0).toArray⟩ : ByteArray) = _
    rw [dec_low 0 (by omega)]
    rfl
  show byS (_ ++ (_ ++ (ktxt 0).data.toList ++ _) ++ (_ ++ (ktxt 0).data.toList ++ _) ++ _ ++ _) = _
  rw [e]
  rfl
set_option maxRecDepth 100000 in
set_option maxHeartbeats 2000000 in
theorem awake7_at (w : World) (ht : Tab w) (hp : Pow w) : Calls Tryd.prog 9 #[] w fun e w' => e = .returned (.bool true) ∧ Below w.heap.size w w' := by
  have hv : MRow w (.slice none 0 0) 0 (fun _ => 0) (fun _ _ => ndZero) 4 := ⟨fun _ _ => .bool false, RowAt.nil _ _ _, fun i hi => absurd hi (by omega)⟩
  have c1 := rwriteM_at 0 _ 0 _ _ w hv none_fits (by omega) (fun i hi => absurd hi (by omega)) ht hp
  have c2 : Calls Tryd.prog 6 #[.agg #[.int .i64 0, .slice none 0 0]] w fun e w' => e = .returned (.tuple #[.string { data := #[100, 101, 110, 100, 114, 111, 110, 32, 49, 10, 102, 101, 97, 116, 117, 114, 101, 115, 32, 48, 10, 116, 114, 101, 101, 115, 32, 48, 10, 101, 110, 100, 10] }, .int .i64 0]) ∧ Below w.heap.size w w' := by
    rw [← none_text]
    exact c1
  clear c1 hv ht hp
  go_enter Tryd.func9, Tryd.ntmps9
  go_wp2_with fail
  refine c2.mono ?_
  rintro e w1 ⟨rfl, b1⟩
  go_wp2
  go_ret
  exact ⟨rfl, b1⟩

end Go.Proofs.YthfjconpjeoakaaDoor
