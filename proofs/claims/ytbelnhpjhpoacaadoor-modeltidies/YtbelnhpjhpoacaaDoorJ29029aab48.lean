/-
  Texts of mine.
-/
import Derived.Test.YtbelnhpjhpoacaaDoorJfd3bcd257c
import Derived.Test.YtbelnhpjhpoacaaDoorJ0c5723db7a
import Derived.Test.YtbelnhpjhpoacaaDoorJ132f1d6029
import Derived.Test.YtbelnhpjhpoacaaDoorJ2ba676209e
import Derived.Test.YtbelnhpjhpoacaaDoorJea6269ff18
namespace Go.Proofs.YtbelnhpjhpoacaaDoor
open Go.RowKit
set_option linter.unusedVariables false
set_option linter.unusedSimpArgs false

/-- A count as text. -/
def ktxt (z : Int) : ByteArray := ⟨(Lib.decDigits z.toNat).toArray⟩
def sideT (b : Bool) : ByteArray := if b = true then { data := #[109, 105, 115, 115, 45, 108, 101, 102, 116] } else { data := #[109, 105, 115, 115, 45, 114, 105, 103, 104, 116] }
/-- A node's words. -/
def nwL (d : Nd) : List ByteArray := if d.leaf = true then [{ data := #[108, 101, 97, 102] }, qtxt d.val, qtxt d.cov] else [{ data := #[115, 112, 108, 105, 116] }, ktxt d.feat, qtxt d.cut, ktxt d.left, ktxt d.right, sideT d.miss, qtxt d.cov]
def nwF (d : Nd) (i : Nat) : ByteArray := (nwL d).getD i ByteArray.empty


set_option maxRecDepth 100000 in
set_option maxHeartbeats 4000000 in
theorem nwords_at (d : Nd) (p1 p2 p3 : Bool) (a1 b1 a2 b2 a3 b3 : Option Addr) (n1 c1 m1 d1 n2 c2 m2 d2 n3 c3 m3 d3 : Nat) (L : Nat) (w : World) (hu : RatAt w (.agg #[.bool p1, .slice a1 n1 c1, .slice b1 m1 d1]) d.cut L) (hv : RatAt w (.agg #[.bool p2, .slice a2 n2 c2, .slice b2 m2 d2]) d.val L) (hc : RatAt w (.agg #[.bool p3, .slice a3 n3 c3, .slice b3 m3 d3]) d.cov L) (hi : 0 ≤ d.feat ∧ d.feat ≤ 64 ∧ 0 ≤ d.left ∧ d.left ≤ 255 ∧ 0 ≤ d.right ∧ d.right ≤ 255) (h1 : 1 ≤ L) (hM : L ≤ 9000) (ht : Tab w) (hp : Pow w) :
    Calls Tryd.prog 20 #[.agg #[.bool d.leaf, .int .i64 d.feat, .bool p1, .slice a1 n1 c1, .slice b1 m1 d1, .int .i64 d.left, .int .i64 d.right, .bool d.miss, .bool p2, .slice a2 n2 c2, .slice b2 m2 d2, .bool p3, .slice a3 n3 c3, .slice b3 m3 d3]] w fun e w' => ∃ g, e = .returned (.slice (some ⟨g, 0, none⟩) (nwL d).length (nwL d).length) ∧ StrC w' g (nwL d).length (nwF d) ∧ Below w.heap.size w w' := by
  rcases d with ⟨lf, ft, q, ll, rr0, ms, vl, cv⟩
  dsimp only at hu hv hc hi ⊢
  cases lf
  · obtain ⟨i1, i2, i3, i4, i5, i6⟩ := hi
    obtain ⟨fn, rfl⟩ : ∃ fn : Nat, ft = (fn : Int) := ⟨ft.toNat, by omega⟩
    obtain ⟨lr, rfl⟩ : ∃ fn : Nat, ll = (fn : Int) := ⟨ll.toNat, by omega⟩
    obtain ⟨rr, rfl⟩ : ∃ fn : Nat, rr0 = (fn : Int) := ⟨rr0.toNat, by omega⟩
    have j1 : fn ≤ 64 := by omega
    have j2 : lr ≤ 255 := by omega
    have j3 : rr ≤ 255 := by omega
    clear i1 i2 i3 i4 i5 i6
    cases ms
    · have BB : Below w.heap.size w w := Below.refl _ _
      obtain ⟨W0, hW0, hS0, hL0, VN, FN⟩ := V14.lay w 37 (.bool false) (.int .i64 (fn : Int)) (.bool p1) (.slice a1 n1 c1) (.slice b1 m1 d1) (.int .i64 (lr : Int)) (.int .i64 (rr : Int)) (.bool false) (.bool p2) (.slice a2 n2 c2) (.slice b2 m2 d2) (.bool p3) (.slice a3 n3 c3) (.slice b3 m3 d3)
      replace hu := hu.below hL0
      replace hv := hv.below hL0
      replace hc := hc.below hL0
      replace ht := ht.below hL0
      replace hp := hp.below hL0
      replace BB := BB.trans (hL0.mono BB.size)
      clear hL0
      obtain ⟨V_0, V_1, V_2, V_3, V_4, V_5, V_6, V_7, V_8, V_9, V_10, V_11, V_12, V_13⟩ := id VN
      rw [hW0] at V_0 V_1 V_2 V_3 V_4 V_5 V_6 V_7 V_8 V_9 V_10 V_11 V_12 V_13
      go_enter Tryd.func20, Tryd.ntmps20
      go_wp2_with fail
      clear V_0 V_1 V_2 V_3 V_4 V_5 V_6 V_7 V_8 V_9 V_10 V_11 V_12 V_13
      rw [← hW0]
      clear hW0 hS0 FN
      refine (qprint_at _ cv L _ hc h1 hM ht).mono ?_
      rintro e w1 ⟨rfl, b1⟩
      replace hu := hu.below b1
      replace hv := hv.below b1
      replace ht := ht.below b1
      replace hp := hp.below b1
      replace VN := VN.below b1
      replace BB := BB.trans (b1.mono BB.size)
      clear b1 hc
      obtain ⟨tc, htc⟩ : ∃ x, qtxt cv = x := ⟨_, rfl⟩
      rw [htc]
      obtain ⟨V_0, V_1, V_2, V_3, V_4, V_5, V_6, V_7, V_8, V_9, V_10, V_11, V_12, V_13⟩ := id VN
      go_wp2_with fail
      clear V_0 V_1 V_2 V_3 V_4 V_5 V_6 V_7 V_8 V_9 V_10 V_11 V_12 V_13
      refine wp_region_until 14 #[true, true, true, true, true, true, true, true, true, true, true, true, true, true, false, false] (fun aF lsd a' w' => ∃ vu0 vu1 vu2 vu3 vu4 vu5 vu6 vu7 vu8 vu9 vu10 vu11 vu12 vu13 : Value, a' = (((((((((((((aF.put (some 17) vu0).put (some 18) vu1).put (some 19) vu2).put (some 20) vu3).put (some 21) vu4).put (some 22) vu5).put (some 23) vu6).put (some 24) vu7).put (some 25) vu8).put (some 26) vu9).put (some 27) vu10).put (some 28) vu11).put (some 29) vu12).put (some 30) vu13 ∧ Below w1.heap.size w1 w' ∧ (lsd.getD 0 false = true → vu0 = .pointer (some ⟨w.heap.size, 1, none⟩)) ∧ (lsd.getD 1 false = true → vu1 = .int .i64 (fn : Int)) ∧ (lsd.getD 2 false = true → vu2 = .string ⟨(Lib.decDigits fn).toArray⟩) ∧ (lsd.getD 3 false = true → vu3 = .pointer (some ⟨w.heap.size, 2, none⟩)) ∧ (lsd.getD 4 false = true → vu4 = .agg #[.bool p1, .slice a1 n1 c1, .slice b1 m1 d1]) ∧ (lsd.getD 5 false = true → vu5 = .string (qtxt q)) ∧ (lsd.getD 6 false = true → vu6 = .pointer (some ⟨w.heap.size, 5, none⟩)) ∧ (lsd.getD 7 false = true → vu7 = .int .i64 (lr : Int)) ∧ (lsd.getD 8 false = true → vu8 = .string ⟨(Lib.decDigits lr).toArray⟩) ∧ (lsd.getD 9 false = true → vu9 = .pointer (some ⟨w.heap.size, 6, none⟩)) ∧ (lsd.getD 10 false = true → vu10 = .int .i64 (rr : Int)) ∧ (lsd.getD 11 false = true → vu11 = .string ⟨(Lib.decDigits rr).toArray⟩) ∧ (lsd.getD 12 false = true → vu12 = .string { data := #[109, 105, 115, 115, 45, 114, 105, 103, 104, 116] }) ∧ (lsd.getD 13 false = true → vu13 = .string tc)) (by kernel_rfl) (by decide) (by kernel_rfl) (by rfl) (by kernel_rfl) ?_ ?_ ?_
      · exact ⟨_, _, _, _, _, _, _, _, _, _, _, _, _, _, by simp only [Act.put, List.setIfInBounds_toArray, List.set_cons_zero, List.set_cons_succ]; rfl, (Below.refl _ _).drew, fun h => absurd h (fun h => mark_none h), fun h => absurd h (fun h => mark_none h), fun h => absurd h (fun h => mark_none h), fun h => absurd h (fun h => mark_none h), fun h => absurd h (fun h => mark_none h), fun h => absurd h (fun h => mark_none h), fun h => absurd h (fun h => mark_none h), fun h => absurd h (fun h => mark_none h), fun h => absurd h (fun h => mark_none h), fun h => absurd h (fun h => mark_none h), fun h => absurd h (fun h => mark_none h), fun h => absurd h (fun h => mark_none h), fun h => absurd h (fun h => mark_none h), fun h => absurd h (fun h => mark_none h)⟩
      · rintro lsd au wn iu hszu ⟨vu0, vu1, vu2, vu3, vu4, vu5, vu6, vu7, vu8, vu9, vu10, vu11, vu12, vu13, rfl, hbu, fu0, fu1, fu2, fu3, fu4, fu5, fu6, fu7, fu8, fu9, fu10, fu11, fu12, fu13⟩ himu hru
        rcases (show iu = 0 ∨ iu = 1 ∨ iu = 2 ∨ iu = 3 ∨ iu = 4 ∨ iu = 5 ∨ iu = 6 ∨ iu = 7 ∨ iu = 8 ∨ iu = 9 ∨ iu = 10 ∨ iu = 11 ∨ iu = 12 ∨ iu = 13 by omega) with rfl | rfl | rfl | rfl | rfl | rfl | rfl | rfl | rfl | rfl | rfl | rfl | rfl | rfl
        · refine wpOp_shut (by rfl) (fun K hK => ?_)
          simp only [Act.put, List.setIfInBounds_toArray, List.set_cons_zero, List.set_cons_succ]
          go_simp
          exact hK.out _ _ ⟨(.pointer (some ⟨w.heap.size, 1, none⟩)), vu1, vu2, vu3, vu4, vu5, vu6, vu7, vu8, vu9, vu10, vu11, vu12, vu13, by simp only [Act.put, List.setIfInBounds_toArray, List.set_cons_zero, List.set_cons_succ], hbu, fun _ => rfl, fun h => fu1 (mark_of (by decide) h), fun h => fu2 (mark_of (by decide) h), fun h => fu3 (mark_of (by decide) h), fun h => fu4 (mark_of (by decide) h), fun h => fu5 (mark_of (by decide) h), fun h => fu6 (mark_of (by decide) h), fun h => fu7 (mark_of (by decide) h), fun h => fu8 (mark_of (by decide) h), fun h => fu9 (mark_of (by decide) h), fun h => fu10 (mark_of (by decide) h), fun h => fu11 (mark_of (by decide) h), fun h => fu12 (mark_of (by decide) h), fun h => fu13 (mark_of (by decide) h)⟩
        · have eu0 := fu0 (dep_of 0 hru rfl (by kernel_rfl))
          replace eu0 := eu0.symm
          subst eu0
          refine wpOp_shut (by rfl) (fun K hK => ?_)
          simp only [Act.put, List.setIfInBounds_toArray, List.set_cons_zero, List.set_cons_succ]
          obtain ⟨V_0, V_1, V_2, V_3, V_4, V_5, V_6, V_7, V_8, V_9, V_10, V_11, V_12, V_13⟩ := VN.below hbu
          go_simp
          exact hK.out _ _ ⟨(.pointer (some ⟨w.heap.size, 1, none⟩)), (.int .i64 (fn : Int)), vu2, vu3, vu4, vu5, vu6, vu7, vu8, vu9, vu10, vu11, vu12, vu13, by simp only [Act.put, List.setIfInBounds_toArray, List.set_cons_zero, List.set_cons_succ], hbu, fun _ => rfl, fun _ => rfl, fun h => fu2 (mark_of (by decide) h), fun h => fu3 (mark_of (by decide) h), fun h => fu4 (mark_of (by decide) h), fun h => fu5 (mark_of (by decide) h), fun h => fu6 (mark_of (by decide) h), fun h => fu7 (mark_of (by decide) h), fun h => fu8 (mark_of (by decide) h), fun h => fu9 (mark_of (by decide) h), fun h => fu10 (mark_of (by decide) h), fun h => fu11 (mark_of (by decide) h), fun h => fu12 (mark_of (by decide) h), fun h => fu13 (mark_of (by decide) h)⟩
        · have eu1 := fu1 (dep_of 1 hru rfl (by kernel_rfl))
          replace eu1 := eu1.symm
          subst eu1
          refine wpOp_shut (by rfl) (fun K hK => ?_)
          simp only [Act.put, List.setIfInBounds_toArray, List.set_cons_zero, List.set_cons_succ]
          have hp := hp.below hbu
          go_simp
          refine (itoa_at fn wn (by omega) hp).mono ?_
          rintro eu wx ⟨rfl, bu⟩
          go_wp2_with fail
          have hbu2 := hbu.trans (bu.mono hbu.size)
          exact hK.out _ _ ⟨vu0, (.int .i64 (fn : Int)), (.string ⟨(Lib.decDigits fn).toArray⟩), vu3, vu4, vu5, vu6, vu7, vu8, vu9, vu10, vu11, vu12, vu13, by simp only [Act.put, List.setIfInBounds_toArray, List.set_cons_zero, List.set_cons_succ], hbu2, fun h => fu0 (mark_of (by decide) h), fun _ => rfl, fun _ => rfl, fun h => fu3 (mark_of (by decide) h), fun h => fu4 (mark_of (by decide) h), fun h => fu5 (mark_of (by decide) h), fun h => fu6 (mark_of (by decide) h), fun h => fu7 (mark_of (by decide) h), fun h => fu8 (mark_of (by decide) h), fun h => fu9 (mark_of (by decide) h), fun h => fu10 (mark_of (by decide) h), fun h => fu11 (mark_of (by decide) h), fun h => fu12 (mark_of (by decide) h), fun h => fu13 (mark_of (by decide) h)⟩
        · refine wpOp_shut (by rfl) (fun K hK => ?_)
          simp only [Act.put, List.setIfInBounds_toArray, List.set_cons_zero, List.set_cons_succ]
          go_simp
          exact hK.out _ _ ⟨vu0, vu1, vu2, (.pointer (some ⟨w.heap.size, 2, none⟩)), vu4, vu5, vu6, vu7, vu8, vu9, vu10, vu11, vu12, vu13, by simp only [Act.put, List.setIfInBounds_toArray, List.set_cons_zero, List.set_cons_succ], hbu, fun h => fu0 (mark_of (by decide) h), fun h => fu1 (mark_of (by decide) h), fun h => fu2 (mark_of (by decide) h), fun _ => rfl, fun h => fu4 (mark_of (by decide) h), fun h => fu5 (mark_of (by decide) h), fun h => fu6 (mark_of (by decide) h), fun h => fu7 (mark_of (by decide) h), fun h => fu8 (mark_of (by decide) h), fun h => fu9 (mark_of (by decide) h), fun h => fu10 (mark_of (by decide) h), fun h => fu11 (mark_of (by decide) h), fun h => fu12 (mark_of (by decide) h), fun h => fu13 (mark_of (by decide) h)⟩
        · have eu3 := fu3 (dep_of 3 hru rfl (by kernel_rfl))
          replace eu3 := eu3.symm
          subst eu3
          refine wpOp_shut (by rfl) (fun K hK => ?_)
          simp only [Act.put, List.setIfInBounds_toArray, List.set_cons_zero, List.set_cons_succ]
          obtain ⟨V_0, V_1, V_2, V_3, V_4, V_5, V_6, V_7, V_8, V_9, V_10, V_11, V_12, V_13⟩ := VN.below hbu
          go_simp
          exact hK.out _ _ ⟨vu0, vu1, vu2, (.pointer (some ⟨w.heap.size, 2, none⟩)), (.agg #[.bool p1, .slice a1 n1 c1, .slice b1 m1 d1]), vu5, vu6, vu7, vu8, vu9, vu10, vu11, vu12, vu13, by simp only [Act.put, List.setIfInBounds_toArray, List.set_cons_zero, List.set_cons_succ], hbu, fun h => fu0 (mark_of (by decide) h), fun h => fu1 (mark_of (by decide) h), fun h => fu2 (mark_of (by decide) h), fun _ => rfl, fun _ => rfl, fun h => fu5 (mark_of (by decide) h), fun h => fu6 (mark_of (by decide) h), fun h => fu7 (mark_of (by decide) h), fun h => fu8 (mark_of (by decide) h), fun h => fu9 (mark_of (by decide) h), fun h => fu10 (mark_of (by decide) h), fun h => fu11 (mark_of (by decide) h), fun h => fu12 (mark_of (by decide) h), fun h => fu13 (mark_of (by decide) h)⟩
        · have eu2 := fu2 (dep_of 2 hru rfl (by kernel_rfl))
          have eu4 := fu4 (dep_of 4 hru rfl (by kernel_rfl))
          replace eu2 := eu2.symm
          subst eu2
          replace eu4 := eu4.symm
          subst eu4
          refine wpOp_shut (by rfl) (fun K hK => ?_)
          simp only [Act.put, List.setIfInBounds_toArray, List.set_cons_zero, List.set_cons_succ]
          have hu := hu.below hbu
          have ht := ht.below hbu
          go_simp
          refine (qprint_at _ q L wn hu h1 hM ht).mono ?_
          rintro eu wx ⟨rfl, bu⟩
          go_wp2_with fail
          have hbu2 := hbu.trans (bu.mono hbu.size)
          exact hK.out _ _ ⟨vu0, vu1, (.string ⟨(Lib.decDigits fn).toArray⟩), vu3, (.agg #[.bool p1, .slice a1 n1 c1, .slice b1 m1 d1]), (.string (qtxt q)), vu6, vu7, vu8, vu9, vu10, vu11, vu12, vu13, by simp only [Act.put, List.setIfInBounds_toArray, List.set_cons_zero, List.set_cons_succ], hbu2, fun h => fu0 (mark_of (by decide) h), fun h => fu1 (mark_of (by decide) h), fun _ => rfl, fun h => fu3 (mark_of (by decide) h), fun _ => rfl, fun _ => rfl, fun h => fu6 (mark_of (by decide) h), fun h => fu7 (mark_of (by decide) h), fun h => fu8 (mark_of (by decide) h), fun h => fu9 (mark_of (by decide) h), fun h => fu10 (mark_of (by decide) h), fun h => fu11 (mark_of (by decide) h), fun h => fu12 (mark_of (by decide) h), fun h => fu13 (mark_of (by decide) h)⟩
        · refine wpOp_shut (by rfl) (fun K hK => ?_)
          simp only [Act.put, List.setIfInBounds_toArray, List.set_cons_zero, List.set_cons_succ]
          go_simp
          exact hK.out _ _ ⟨vu0, vu1, vu2, vu3, vu4, vu5, (.pointer (some ⟨w.heap.size, 5, none⟩)), vu7, vu8, vu9, vu10, vu11, vu12, vu13, by simp only [Act.put, List.setIfInBounds_toArray, List.set_cons_zero, List.set_cons_succ], hbu, fun h => fu0 (mark_of (by decide) h), fun h => fu1 (mark_of (by decide) h), fun h => fu2 (mark_of (by decide) h), fun h => fu3 (mark_of (by decide) h), fun h => fu4 (mark_of (by decide) h), fun h => fu5 (mark_of (by decide) h), fun _ => rfl, fun h => fu7 (mark_of (by decide) h), fun h => fu8 (mark_of (by decide) h), fun h => fu9 (mark_of (by decide) h), fun h => fu10 (mark_of (by decide) h), fun h => fu11 (mark_of (by decide) h), fun h => fu12 (mark_of (by decide) h), fun h => fu13 (mark_of (by decide) h)⟩
        · have eu6 := fu6 (dep_of 6 hru rfl (by kernel_rfl))
          replace eu6 := eu6.symm
          subst eu6
          refine wpOp_shut (by rfl) (fun K hK => ?_)
          simp only [Act.put, List.setIfInBounds_toArray, List.set_cons_zero, List.set_cons_succ]
          obtain ⟨V_0, V_1, V_2, V_3, V_4, V_5, V_6, V_7, V_8, V_9, V_10, V_11, V_12, V_13⟩ := VN.below hbu
          go_simp
          exact hK.out _ _ ⟨vu0, vu1, vu2, vu3, vu4, vu5, (.pointer (some ⟨w.heap.size, 5, none⟩)), (.int .i64 (lr : Int)), vu8, vu9, vu10, vu11, vu12, vu13, by simp only [Act.put, List.setIfInBounds_toArray, List.set_cons_zero, List.set_cons_succ], hbu, fun h => fu0 (mark_of (by decide) h), fun h => fu1 (mark_of (by decide) h), fun h => fu2 (mark_of (by decide) h), fun h => fu3 (mark_of (by decide) h), fun h => fu4 (mark_of (by decide) h), fun h => fu5 (mark_of (by decide) h), fun _ => rfl, fun _ => rfl, fun h => fu8 (mark_of (by decide) h), fun h => fu9 (mark_of (by decide) h), fun h => fu10 (mark_of (by decide) h), fun h => fu11 (mark_of (by decide) h), fun h => fu12 (mark_of (by decide) h), fun h => fu13 (mark_of (by decide) h)⟩
        · have eu5 := fu5 (dep_of 5 hru rfl (by kernel_rfl))
          have eu7 := fu7 (dep_of 7 hru rfl (by kernel_rfl))
          replace eu5 := eu5.symm
          subst eu5
          replace eu7 := eu7.symm
          subst eu7
          refine wpOp_shut (by rfl) (fun K hK => ?_)
          simp only [Act.put, List.setIfInBounds_toArray, List.set_cons_zero, List.set_cons_succ]
          have hp := hp.below hbu
          go_simp
          refine (itoa_at lr wn (by omega) hp).mono ?_
          rintro eu wx ⟨rfl, bu⟩
          go_wp2_with fail
          have hbu2 := hbu.trans (bu.mono hbu.size)
          exact hK.out _ _ ⟨vu0, vu1, vu2, vu3, vu4, (.string (qtxt q)), vu6, (.int .i64 (lr : Int)), (.string ⟨(Lib.decDigits lr).toArray⟩), vu9, vu10, vu11, vu12, vu13, by simp only [Act.put, List.setIfInBounds_toArray, List.set_cons_zero, List.set_cons_succ], hbu2, fun h => fu0 (mark_of (by decide) h), fun h => fu1 (mark_of (by decide) h), fun h => fu2 (mark_of (by decide) h), fun h => fu3 (mark_of (by decide) h), fun h => fu4 (mark_of (by decide) h), fun _ => rfl, fun h => fu6 (mark_of (by decide) h), fun _ => rfl, fun _ => rfl, fun h => fu9 (mark_of (by decide) h), fun h => fu10 (mark_of (by decide) h), fun h => fu11 (mark_of (by decide) h), fun h => fu12 (mark_of (by decide) h), fun h => fu13 (mark_of (by decide) h)⟩
        · refine wpOp_shut (by rfl) (fun K hK => ?_)
          simp only [Act.put, List.setIfInBounds_toArray, List.set_cons_zero, List.set_cons_succ]
          go_simp
          exact hK.out _ _ ⟨vu0, vu1, vu2, vu3, vu4, vu5, vu6, vu7, vu8, (.pointer (some ⟨w.heap.size, 6, none⟩)), vu10, vu11, vu12, vu13, by simp only [Act.put, List.setIfInBounds_toArray, List.set_cons_zero, List.set_cons_succ], hbu, fun h => fu0 (mark_of (by decide) h), fun h => fu1 (mark_of (by decide) h), fun h => fu2 (mark_of (by decide) h), fun h => fu3 (mark_of (by decide) h), fun h => fu4 (mark_of (by decide) h), fun h => fu5 (mark_of (by decide) h), fun h => fu6 (mark_of (by decide) h), fun h => fu7 (mark_of (by decide) h), fun h => fu8 (mark_of (by decide) h), fun _ => rfl, fun h => fu10 (mark_of (by decide) h), fun h => fu11 (mark_of (by decide) h), fun h => fu12 (mark_of (by decide) h), fun h => fu13 (mark_of (by decide) h)⟩
        · have eu9 := fu9 (dep_of 9 hru rfl (by kernel_rfl))
          replace eu9 := eu9.symm
          subst eu9
          refine wpOp_shut (by rfl) (fun K hK => ?_)
          simp only [Act.put, List.setIfInBounds_toArray, List.set_cons_zero, List.set_cons_succ]
          obtain ⟨V_0, V_1, V_2, V_3, V_4, V_5, V_6, V_7, V_8, V_9, V_10, V_11, V_12, V_13⟩ := VN.below hbu
          go_simp
          exact hK.out _ _ ⟨vu0, vu1, vu2, vu3, vu4, vu5, vu6, vu7, vu8, (.pointer (some ⟨w.heap.size, 6, none⟩)), (.int .i64 (rr : Int)), vu11, vu12, vu13, by simp only [Act.put, List.setIfInBounds_toArray, List.set_cons_zero, List.set_cons_succ], hbu, fun h => fu0 (mark_of (by decide) h), fun h => fu1 (mark_of (by decide) h), fun h => fu2 (mark_of (by decide) h), fun h => fu3 (mark_of (by decide) h), fun h => fu4 (mark_of (by decide) h), fun h => fu5 (mark_of (by decide) h), fun h => fu6 (mark_of (by decide) h), fun h => fu7 (mark_of (by decide) h), fun h => fu8 (mark_of (by decide) h), fun _ => rfl, fun _ => rfl, fun h => fu11 (mark_of (by decide) h), fun h => fu12 (mark_of (by decide) h), fun h => fu13 (mark_of (by decide) h)⟩
        · have eu8 := fu8 (dep_of 8 hru rfl (by kernel_rfl))
          have eu10 := fu10 (dep_of 10 hru rfl (by kernel_rfl))
          replace eu8 := eu8.symm
          subst eu8
          replace eu10 := eu10.symm
          subst eu10
          refine wpOp_shut (by rfl) (fun K hK => ?_)
          simp only [Act.put, List.setIfInBounds_toArray, List.set_cons_zero, List.set_cons_succ]
          have hp := hp.below hbu
          go_simp
          refine (itoa_at rr wn (by omega) hp).mono ?_
          rintro eu wx ⟨rfl, bu⟩
          go_wp2_with fail
          have hbu2 := hbu.trans (bu.mono hbu.size)
          exact hK.out _ _ ⟨vu0, vu1, vu2, vu3, vu4, vu5, vu6, vu7, (.string ⟨(Lib.decDigits lr).toArray⟩), vu9, (.int .i64 (rr : Int)), (.string ⟨(Lib.decDigits rr).toArray⟩), vu12, vu13, by simp only [Act.put, List.setIfInBounds_toArray, List.set_cons_zero, List.set_cons_succ], hbu2, fun h => fu0 (mark_of (by decide) h), fun h => fu1 (mark_of (by decide) h), fun h => fu2 (mark_of (by decide) h), fun h => fu3 (mark_of (by decide) h), fun h => fu4 (mark_of (by decide) h), fun h => fu5 (mark_of (by decide) h), fun h => fu6 (mark_of (by decide) h), fun h => fu7 (mark_of (by decide) h), fun _ => rfl, fun h => fu9 (mark_of (by decide) h), fun _ => rfl, fun _ => rfl, fun h => fu12 (mark_of (by decide) h), fun h => fu13 (mark_of (by decide) h)⟩
        · refine wpOp_shut (by rfl) (fun K hK => ?_)
          simp only [Act.put, List.setIfInBounds_toArray, List.set_cons_zero, List.set_cons_succ]
          go_simp
          exact hK.out _ _ ⟨vu0, vu1, vu2, vu3, vu4, vu5, vu6, vu7, vu8, vu9, vu10, vu11, (.string { data := #[109, 105, 115, 115, 45, 114, 105, 103, 104, 116] }), vu13, by simp only [Act.put, List.setIfInBounds_toArray, List.set_cons_zero, List.set_cons_succ], hbu, fun h => fu0 (mark_of (by decide) h), fun h => fu1 (mark_of (by decide) h), fun h => fu2 (mark_of (by decide) h), fun h => fu3 (mark_of (by decide) h), fun h => fu4 (mark_of (by decide) h), fun h => fu5 (mark_of (by decide) h), fun h => fu6 (mark_of (by decide) h), fun h => fu7 (mark_of (by decide) h), fun h => fu8 (mark_of (by decide) h), fun h => fu9 (mark_of (by decide) h), fun h => fu10 (mark_of (by decide) h), fun h => fu11 (mark_of (by decide) h), fun _ => rfl, fun h => fu13 (mark_of (by decide) h)⟩
        · refine wpOp_shut (by rfl) (fun K hK => ?_)
          simp only [Act.put, List.setIfInBounds_toArray, List.set_cons_zero, List.set_cons_succ]
          go_simp
          exact hK.out _ _ ⟨vu0, vu1, vu2, vu3, vu4, vu5, vu6, vu7, vu8, vu9, vu10, vu11, vu12, (.string tc), by simp only [Act.put, List.setIfInBounds_toArray, List.set_cons_zero, List.set_cons_succ], hbu, fun h => fu0 (mark_of (by decide) h), fun h => fu1 (mark_of (by decide) h), fun h => fu2 (mark_of (by decide) h), fun h => fu3 (mark_of (by decide) h), fun h => fu4 (mark_of (by decide) h), fun h => fu5 (mark_of (by decide) h), fun h => fu6 (mark_of (by decide) h), fun h => fu7 (mark_of (by decide) h), fun h => fu8 (mark_of (by decide) h), fun h => fu9 (mark_of (by decide) h), fun h => fu10 (mark_of (by decide) h), fun h => fu11 (mark_of (by decide) h), fun h => fu12 (mark_of (by decide) h), fun _ => rfl⟩
      rintro au Wu1 ⟨vu0, vu1, vu2, vu3, vu4, vu5, vu6, vu7, vu8, vu9, vu10, vu11, vu12, vu13, rfl, hbu, fu0, fu1, fu2, fu3, fu4, fu5, fu6, fu7, fu8, fu9, fu10, fu11, fu12, fu13⟩
      have eu0 := (fu0 rfl).symm
      subst eu0
      have eu1 := (fu1 rfl).symm
      subst eu1
      have eu2 := (fu2 rfl).symm
      subst eu2
      have eu3 := (fu3 rfl).symm
      subst eu3
      have eu4 := (fu4 rfl).symm
      subst eu4
      have eu5 := (fu5 rfl).symm
      subst eu5
      have eu6 := (fu6 rfl).symm
      subst eu6
      have eu7 := (fu7 rfl).symm
      subst eu7
      have eu8 := (fu8 rfl).symm
      subst eu8
      have eu9 := (fu9 rfl).symm
      subst eu9
      have eu10 := (fu10 rfl).symm
      subst eu10
      have eu11 := (fu11 rfl).symm
      subst eu11
      have eu12 := (fu12 rfl).symm
      subst eu12
      have eu13 := (fu13 rfl).symm
      subst eu13
      clear fu0 fu1 fu2 fu3 fu4 fu5 fu6 fu7 fu8 fu9 fu10 fu11 fu12 fu13
      replace hu := hu.below hbu
      replace ht := ht.below hbu
      replace hp := hp.below hbu
      replace VN := VN.below hbu
      replace BB := BB.trans (hbu.mono BB.size)
      clear hbu
      simp only [Act.put, List.setIfInBounds_toArray, List.set_cons_zero, List.set_cons_succ]
      refine wpAnyH_ready (rs := [14]) (by kernel_rfl) (by simp) ?_
      refine AllReadyH.cons (by rfl) (fun K hK => ?_) AllReadyH.nil
      obtain ⟨W9, hW9, hS9, hL9, hSt⟩ := strs_lay Wu1 9 [{ data := #[115, 112, 108, 105, 116] }, ⟨(Lib.decDigits fn).toArray⟩, (qtxt q), ⟨(Lib.decDigits lr).toArray⟩, ⟨(Lib.decDigits rr).toArray⟩, { data := #[109, 105, 115, 115, 45, 114, 105, 103, 104, 116] }, tc] #[.string { data := #[115, 112, 108, 105, 116] }, .string ⟨(Lib.decDigits fn).toArray⟩, .string (qtxt q), .string ⟨(Lib.decDigits lr).toArray⟩, .string ⟨(Lib.decDigits rr).toArray⟩, .string { data := #[109, 105, 115, 115, 45, 114, 105, 103, 104, 116] }, .string tc] rfl
      have HE : Hid (∀ i, ([{ data := #[115, 112, 108, 105, 116] }, ⟨(Lib.decDigits fn).toArray⟩, (qtxt q), ⟨(Lib.decDigits lr).toArray⟩, ⟨(Lib.decDigits rr).toArray⟩, { data := #[109, 105, 115, 115, 45, 114, 105, 103, 104, 116] }, tc] : List ByteArray).getD i ByteArray.empty = nwF ⟨false, (fn : Int), q, (lr : Int), (rr : Int), false, vl, cv⟩ i) := fun i => by rw [← htc]; rfl
      replace BB := BB.trans (hL9.mono BB.size)
      clear hL9
      have HT : Hid (StrC W9 Wu1.heap.size 7 (nwF ⟨false, (fn : Int), q, (lr : Int), (rr : Int), false, vl, cv⟩) ∧ Below w.heap.size w W9) := ⟨⟨hSt.1, fun j hj => by rw [hSt.2 j hj]; exact congrArg (fun x => some (Value.string x)) (HE.out j)⟩, BB⟩
      clear hSt BB HE
      go_simp
      rw [← hW9]
      refine hK.out _ _ trivial (fun _ => ?_)
      clear hK K
      simp only [Act.put, List.setIfInBounds_toArray, List.set_cons_zero, List.set_cons_succ]
      refine wpAnyH_ready (rs := [15]) (by kernel_rfl) (by simp) ?_
      refine AllReadyH.cons (by rfl) (fun K hK => ?_) AllReadyH.nil
      go_simp
      refine hK.out _ _ trivial (fun _ => ?_)
      clear hK K
      simp only [Act.put, List.setIfInBounds_toArray, List.set_cons_zero, List.set_cons_succ]
      refine wpAnyH_done (by kernel_rfl) ?_ _
      go_wp2_with fail
      go_ret
      subst hW9
      exact ⟨_, rfl, HT.out⟩
    · have BB : Below w.heap.size w w := Below.refl _ _
      obtain ⟨W0, hW0, hS0, hL0, VN, FN⟩ := V14.lay w 37 (.bool false) (.int .i64 (fn : Int)) (.bool p1) (.slice a1 n1 c1) (.slice b1 m1 d1) (.int .i64 (lr : Int)) (.int .i64 (rr : Int)) (.bool true) (.bool p2) (.slice a2 n2 c2) (.slice b2 m2 d2) (.bool p3) (.slice a3 n3 c3) (.slice b3 m3 d3)
      replace hu := hu.below hL0
      replace hv := hv.below hL0
      replace hc := hc.below hL0
      replace ht := ht.below hL0
      replace hp := hp.below hL0
      replace BB := BB.trans (hL0.mono BB.size)
      clear hL0
      obtain ⟨V_0, V_1, V_2, V_3, V_4, V_5, V_6, V_7, V_8, V_9, V_10, V_11, V_12, V_13⟩ := id VN
      rw [hW0] at V_0 V_1 V_2 V_3 V_4 V_5 V_6 V_7 V_8 V_9 V_10 V_11 V_12 V_13
      go_enter Tryd.func20, Tryd.ntmps20
      go_wp2_with fail
      clear V_0 V_1 V_2 V_3 V_4 V_5 V_6 V_7 V_8 V_9 V_10 V_11 V_12 V_13
      rw [← hW0]
      clear hW0 hS0 FN
      refine (qprint_at _ cv L _ hc h1 hM ht).mono ?_
      rintro e w1 ⟨rfl, b1⟩
      replace hu := hu.below b1
      replace hv := hv.below b1
      replace ht := ht.below b1
      replace hp := hp.below b1
      replace VN := VN.below b1
      replace BB := BB.trans (b1.mono BB.size)
      clear b1 hc
      obtain ⟨tc, htc⟩ : ∃ x, qtxt cv = x := ⟨_, rfl⟩
      rw [htc]
      obtain ⟨V_0, V_1, V_2, V_3, V_4, V_5, V_6, V_7, V_8, V_9, V_10, V_11, V_12, V_13⟩ := id VN
      go_wp2_with fail
      clear V_0 V_1 V_2 V_3 V_4 V_5 V_6 V_7 V_8 V_9 V_10 V_11 V_12 V_13
      refine wp_region_until 14 #[true, true, true, true, true, true, true, true, true, true, true, true, true, true, false, false] (fun aF lsd a' w' => ∃ vu0 vu1 vu2 vu3 vu4 vu5 vu6 vu7 vu8 vu9 vu10 vu11 vu12 vu13 : Value, a' = (((((((((((((aF.put (some 17) vu0).put (some 18) vu1).put (some 19) vu2).put (some 20) vu3).put (some 21) vu4).put (some 22) vu5).put (some 23) vu6).put (some 24) vu7).put (some 25) vu8).put (some 26) vu9).put (some 27) vu10).put (some 28) vu11).put (some 29) vu12).put (some 30) vu13 ∧ Below w1.heap.size w1 w' ∧ (lsd.getD 0 false = true → vu0 = .pointer (some ⟨w.heap.size, 1, none⟩)) ∧ (lsd.getD 1 false = true → vu1 = .int .i64 (fn : Int)) ∧ (lsd.getD 2 false = true → vu2 = .string ⟨(Lib.decDigits fn).toArray⟩) ∧ (lsd.getD 3 false = true → vu3 = .pointer (some ⟨w.heap.size, 2, none⟩)) ∧ (lsd.getD 4 false = true → vu4 = .agg #[.bool p1, .slice a1 n1 c1, .slice b1 m1 d1]) ∧ (lsd.getD 5 false = true → vu5 = .string (qtxt q)) ∧ (lsd.getD 6 false = true → vu6 = .pointer (some ⟨w.heap.size, 5, none⟩)) ∧ (lsd.getD 7 false = true → vu7 = .int .i64 (lr : Int)) ∧ (lsd.getD 8 false = true → vu8 = .string ⟨(Lib.decDigits lr).toArray⟩) ∧ (lsd.getD 9 false = true → vu9 = .pointer (some ⟨w.heap.size, 6, none⟩)) ∧ (lsd.getD 10 false = true → vu10 = .int .i64 (rr : Int)) ∧ (lsd.getD 11 false = true → vu11 = .string ⟨(Lib.decDigits rr).toArray⟩) ∧ (lsd.getD 12 false = true → vu12 = .string { data := #[109, 105, 115, 115, 45, 108, 101, 102, 116] }) ∧ (lsd.getD 13 false = true → vu13 = .string tc)) (by kernel_rfl) (by decide) (by kernel_rfl) (by rfl) (by kernel_rfl) ?_ ?_ ?_
      · exact ⟨_, _, _, _, _, _, _, _, _, _, _, _, _, _, by simp only [Act.put, List.setIfInBounds_toArray, List.set_cons_zero, List.set_cons_succ]; rfl, (Below.refl _ _).drew, fun h => absurd h (fun h => mark_none h), fun h => absurd h (fun h => mark_none h), fun h => absurd h (fun h => mark_none h), fun h => absurd h (fun h => mark_none h), fun h => absurd h (fun h => mark_none h), fun h => absurd h (fun h => mark_none h), fun h => absurd h (fun h => mark_none h), fun h => absurd h (fun h => mark_none h), fun h => absurd h (fun h => mark_none h), fun h => absurd h (fun h => mark_none h), fun h => absurd h (fun h => mark_none h), fun h => absurd h (fun h => mark_none h), fun h => absurd h (fun h => mark_none h), fun h => absurd h (fun h => mark_none h)⟩
      · rintro lsd au wn iu hszu ⟨vu0, vu1, vu2, vu3, vu4, vu5, vu6, vu7, vu8, vu9, vu10, vu11, vu12, vu13, rfl, hbu, fu0, fu1, fu2, fu3, fu4, fu5, fu6, fu7, fu8, fu9, fu10, fu11, fu12, fu13⟩ himu hru
        rcases (show iu = 0 ∨ iu = 1 ∨ iu = 2 ∨ iu = 3 ∨ iu = 4 ∨ iu = 5 ∨ iu = 6 ∨ iu = 7 ∨ iu = 8 ∨ iu = 9 ∨ iu = 10 ∨ iu = 11 ∨ iu = 12 ∨ iu = 13 by omega) with rfl | rfl | rfl | rfl | rfl | rfl | rfl | rfl | rfl | rfl | rfl | rfl | rfl | rfl
        · refine wpOp_shut (by rfl) (fun K hK => ?_)
          simp only [Act.put, List.setIfInBounds_toArray, List.set_cons_zero, List.set_cons_succ]
          go_simp
          exact hK.out _ _ ⟨(.pointer (some ⟨w.heap.size, 1, none⟩)), vu1, vu2, vu3, vu4, vu5, vu6, vu7, vu8, vu9, vu10, vu11, vu12, vu13, by simp only [Act.put, List.setIfInBounds_toArray, List.set_cons_zero, List.set_cons_succ], hbu, fun _ => rfl, fun h => fu1 (mark_of (by decide) h), fun h => fu2 (mark_of (by decide) h), fun h => fu3 (mark_of (by decide) h), fun h => fu4 (mark_of (by decide) h), fun h => fu5 (mark_of (by decide) h), fun h => fu6 (mark_of (by decide) h), fun h => fu7 (mark_of (by decide) h), fun h => fu8 (mark_of (by decide) h), fun h => fu9 (mark_of (by decide) h), fun h => fu10 (mark_of (by decide) h), fun h => fu11 (mark_of (by decide) h), fun h => fu12 (mark_of (by decide) h), fun h => fu13 (mark_of (by decide) h)⟩
        · have eu0 := fu0 (dep_of 0 hru rfl (by kernel_rfl))
          replace eu0 := eu0.symm
          subst eu0
          refine wpOp_shut (by rfl) (fun K hK => ?_)
          simp only [Act.put, List.setIfInBounds_toArray, List.set_cons_zero, List.set_cons_succ]
          obtain ⟨V_0, V_1, V_2, V_3, V_4, V_5, V_6, V_7, V_8, V_9, V_10, V_11, V_12, V_13⟩ := VN.below hbu
          go_simp
          exact hK.out _ _ ⟨(.pointer (some ⟨w.heap.size, 1, none⟩)), (.int .i64 (fn : Int)), vu2, vu3, vu4, vu5, vu6, vu7, vu8, vu9, vu10, vu11, vu12, vu13, by simp only [Act.put, List.setIfInBounds_toArray, List.set_cons_zero, List.set_cons_succ], hbu, fun _ => rfl, fun _ => rfl, fun h => fu2 (mark_of (by decide) h), fun h => fu3 (mark_of (by decide) h), fun h => fu4 (mark_of (by decide) h), fun h => fu5 (mark_of (by decide) h), fun h => fu6 (mark_of (by decide) h), fun h => fu7 (mark_of (by decide) h), fun h => fu8 (mark_of (by decide) h), fun h => fu9 (mark_of (by decide) h), fun h => fu10 (mark_of (by decide) h), fun h => fu11 (mark_of (by decide) h), fun h => fu12 (mark_of (by decide) h), fun h => fu13 (mark_of (by decide) h)⟩
        · have eu1 := fu1 (dep_of 1 hru rfl (by kernel_rfl))
          replace eu1 := eu1.symm
          subst eu1
          refine wpOp_shut (by rfl) (fun K hK => ?_)
          simp only [Act.put, List.setIfInBounds_toArray, List.set_cons_zero, List.set_cons_succ]
          have hp := hp.below hbu
          go_simp
          refine (itoa_at fn wn (by omega) hp).mono ?_
          rintro eu wx ⟨rfl, bu⟩
          go_wp2_with fail
          have hbu2 := hbu.trans (bu.mono hbu.size)
          exact hK.out _ _ ⟨vu0, (.int .i64 (fn : Int)), (.string ⟨(Lib.decDigits fn).toArray⟩), vu3, vu4, vu5, vu6, vu7, vu8, vu9, vu10, vu11, vu12, vu13, by simp only [Act.put, List.setIfInBounds_toArray, List.set_cons_zero, List.set_cons_succ], hbu2, fun h => fu0 (mark_of (by decide) h), fun _ => rfl, fun _ => rfl, fun h => fu3 (mark_of (by decide) h), fun h => fu4 (mark_of (by decide) h), fun h => fu5 (mark_of (by decide) h), fun h => fu6 (mark_of (by decide) h), fun h => fu7 (mark_of (by decide) h), fun h => fu8 (mark_of (by decide) h), fun h => fu9 (mark_of (by decide) h), fun h => fu10 (mark_of (by decide) h), fun h => fu11 (mark_of (by decide) h), fun h => fu12 (mark_of (by decide) h), fun h => fu13 (mark_of (by decide) h)⟩
        · refine wpOp_shut (by rfl) (fun K hK => ?_)
          simp only [Act.put, List.setIfInBounds_toArray, List.set_cons_zero, List.set_cons_succ]
          go_simp
          exact hK.out _ _ ⟨vu0, vu1, vu2, (.pointer (some ⟨w.heap.size, 2, none⟩)), vu4, vu5, vu6, vu7, vu8, vu9, vu10, vu11, vu12, vu13, by simp only [Act.put, List.setIfInBounds_toArray, List.set_cons_zero, List.set_cons_succ], hbu, fun h => fu0 (mark_of (by decide) h), fun h => fu1 (mark_of (by decide) h), fun h => fu2 (mark_of (by decide) h), fun _ => rfl, fun h => fu4 (mark_of (by decide) h), fun h => fu5 (mark_of (by decide) h), fun h => fu6 (mark_of (by decide) h), fun h => fu7 (mark_of (by decide) h), fun h => fu8 (mark_of (by decide) h), fun h => fu9 (mark_of (by decide) h), fun h => fu10 (mark_of (by decide) h), fun h => fu11 (mark_of (by decide) h), fun h => fu12 (mark_of (by decide) h), fun h => fu13 (mark_of (by decide) h)⟩
        · have eu3 := fu3 (dep_of 3 hru rfl (by kernel_rfl))
          replace eu3 := eu3.symm
          subst eu3
          refine wpOp_shut (by rfl) (fun K hK => ?_)
          simp only [Act.put, List.setIfInBounds_toArray, List.set_cons_zero, List.set_cons_succ]
          obtain ⟨V_0, V_1, V_2, V_3, V_4, V_5, V_6, V_7, V_8, V_9, V_10, V_11, V_12, V_13⟩ := VN.below hbu
          go_simp
          exact hK.out _ _ ⟨vu0, vu1, vu2, (.pointer (some ⟨w.heap.size, 2, none⟩)), (.agg #[.bool p1, .slice a1 n1 c1, .slice b1 m1 d1]), vu5, vu6, vu7, vu8, vu9, vu10, vu11, vu12, vu13, by simp only [Act.put, List.setIfInBounds_toArray, List.set_cons_zero, List.set_cons_succ], hbu, fun h => fu0 (mark_of (by decide) h), fun h => fu1 (mark_of (by decide) h), fun h => fu2 (mark_of (by decide) h), fun _ => rfl, fun _ => rfl, fun h => fu5 (mark_of (by decide) h), fun h => fu6 (mark_of (by decide) h), fun h => fu7 (mark_of (by decide) h), fun h => fu8 (mark_of (by decide) h), fun h => fu9 (mark_of (by decide) h), fun h => fu10 (mark_of (by decide) h), fun h => fu11 (mark_of (by decide) h), fun h => fu12 (mark_of (by decide) h), fun h => fu13 (mark_of (by decide) h)⟩
        · have eu2 := fu2 (dep_of 2 hru rfl (by kernel_rfl))
          have eu4 := fu4 (dep_of 4 hru rfl (by kernel_rfl))
          replace eu2 := eu2.symm
          subst eu2
          replace eu4 := eu4.symm
          subst eu4
          refine wpOp_shut (by rfl) (fun K hK => ?_)
          simp only [Act.put, List.setIfInBounds_toArray, List.set_cons_zero, List.set_cons_succ]
          have hu := hu.below hbu
          have ht := ht.below hbu
          go_simp
          refine (qprint_at _ q L wn hu h1 hM ht).mono ?_
          rintro eu wx ⟨rfl, bu⟩
          go_wp2_with fail
          have hbu2 := hbu.trans (bu.mono hbu.size)
          exact hK.out _ _ ⟨vu0, vu1, (.string ⟨(Lib.decDigits fn).toArray⟩), vu3, (.agg #[.bool p1, .slice a1 n1 c1, .slice b1 m1 d1]), (.string (qtxt q)), vu6, vu7, vu8, vu9, vu10, vu11, vu12, vu13, by simp only [Act.put, List.setIfInBounds_toArray, List.set_cons_zero, List.set_cons_succ], hbu2, fun h => fu0 (mark_of (by decide) h), fun h => fu1 (mark_of (by decide) h), fun _ => rfl, fun h => fu3 (mark_of (by decide) h), fun _ => rfl, fun _ => rfl, fun h => fu6 (mark_of (by decide) h), fun h => fu7 (mark_of (by decide) h), fun h => fu8 (mark_of (by decide) h), fun h => fu9 (mark_of (by decide) h), fun h => fu10 (mark_of (by decide) h), fun h => fu11 (mark_of (by decide) h), fun h => fu12 (mark_of (by decide) h), fun h => fu13 (mark_of (by decide) h)⟩
        · refine wpOp_shut (by rfl) (fun K hK => ?_)
          simp only [Act.put, List.setIfInBounds_toArray, List.set_cons_zero, List.set_cons_succ]
          go_simp
          exact hK.out _ _ ⟨vu0, vu1, vu2, vu3, vu4, vu5, (.pointer (some ⟨w.heap.size, 5, none⟩)), vu7, vu8, vu9, vu10, vu11, vu12, vu13, by simp only [Act.put, List.setIfInBounds_toArray, List.set_cons_zero, List.set_cons_succ], hbu, fun h => fu0 (mark_of (by decide) h), fun h => fu1 (mark_of (by decide) h), fun h => fu2 (mark_of (by decide) h), fun h => fu3 (mark_of (by decide) h), fun h => fu4 (mark_of (by decide) h), fun h => fu5 (mark_of (by decide) h), fun _ => rfl, fun h => fu7 (mark_of (by decide) h), fun h => fu8 (mark_of (by decide) h), fun h => fu9 (mark_of (by decide) h), fun h => fu10 (mark_of (by decide) h), fun h => fu11 (mark_of (by decide) h), fun h => fu12 (mark_of (by decide) h), fun h => fu13 (mark_of (by decide) h)⟩
        · have eu6 := fu6 (dep_of 6 hru rfl (by kernel_rfl))
          replace eu6 := eu6.symm
          subst eu6
          refine wpOp_shut (by rfl) (fun K hK => ?_)
          simp only [Act.put, List.setIfInBounds_toArray, List.set_cons_zero, List.set_cons_succ]
          obtain ⟨V_0, V_1, V_2, V_3, V_4, V_5, V_6, V_7, V_8, V_9, V_10, V_11, V_12, V_13⟩ := VN.below hbu
          go_simp
          exact hK.out _ _ ⟨vu0, vu1, vu2, vu3, vu4, vu5, (.pointer (some ⟨w.heap.size, 5, none⟩)), (.int .i64 (lr : Int)), vu8, vu9, vu10, vu11, vu12, vu13, by simp only [Act.put, List.setIfInBounds_toArray, List.set_cons_zero, List.set_cons_succ], hbu, fun h => fu0 (mark_of (by decide) h), fun h => fu1 (mark_of (by decide) h), fun h => fu2 (mark_of (by decide) h), fun h => fu3 (mark_of (by decide) h), fun h => fu4 (mark_of (by decide) h), fun h => fu5 (mark_of (by decide) h), fun _ => rfl, fun _ => rfl, fun h => fu8 (mark_of (by decide) h), fun h => fu9 (mark_of (by decide) h), fun h => fu10 (mark_of (by decide) h), fun h => fu11 (mark_of (by decide) h), fun h => fu12 (mark_of (by decide) h), fun h => fu13 (mark_of (by decide) h)⟩
        · have eu5 := fu5 (dep_of 5 hru rfl (by kernel_rfl))
          have eu7 := fu7 (dep_of 7 hru rfl (by kernel_rfl))
          replace eu5 := eu5.symm
          subst eu5
          replace eu7 := eu7.symm
          subst eu7
          refine wpOp_shut (by rfl) (fun K hK => ?_)
          simp only [Act.put, List.setIfInBounds_toArray, List.set_cons_zero, List.set_cons_succ]
          have hp := hp.below hbu
          go_simp
          refine (itoa_at lr wn (by omega) hp).mono ?_
          rintro eu wx ⟨rfl, bu⟩
          go_wp2_with fail
          have hbu2 := hbu.trans (bu.mono hbu.size)
          exact hK.out _ _ ⟨vu0, vu1, vu2, vu3, vu4, (.string (qtxt q)), vu6, (.int .i64 (lr : Int)), (.string ⟨(Lib.decDigits lr).toArray⟩), vu9, vu10, vu11, vu12, vu13, by simp only [Act.put, List.setIfInBounds_toArray, List.set_cons_zero, List.set_cons_succ], hbu2, fun h => fu0 (mark_of (by decide) h), fun h => fu1 (mark_of (by decide) h), fun h => fu2 (mark_of (by decide) h), fun h => fu3 (mark_of (by decide) h), fun h => fu4 (mark_of (by decide) h), fun _ => rfl, fun h => fu6 (mark_of (by decide) h), fun _ => rfl, fun _ => rfl, fun h => fu9 (mark_of (by decide) h), fun h => fu10 (mark_of (by decide) h), fun h => fu11 (mark_of (by decide) h), fun h => fu12 (mark_of (by decide) h), fun h => fu13 (mark_of (by decide) h)⟩
        · refine wpOp_shut (by rfl) (fun K hK => ?_)
          simp only [Act.put, List.setIfInBounds_toArray, List.set_cons_zero, List.set_cons_succ]
          go_simp
          exact hK.out _ _ ⟨vu0, vu1, vu2, vu3, vu4, vu5, vu6, vu7, vu8, (.pointer (some ⟨w.heap.size, 6, none⟩)), vu10, vu11, vu12, vu13, by simp only [Act.put, List.setIfInBounds_toArray, List.set_cons_zero, List.set_cons_succ], hbu, fun h => fu0 (mark_of (by decide) h), fun h => fu1 (mark_of (by decide) h), fun h => fu2 (mark_of (by decide) h), fun h => fu3 (mark_of (by decide) h), fun h => fu4 (mark_of (by decide) h), fun h => fu5 (mark_of (by decide) h), fun h => fu6 (mark_of (by decide) h), fun h => fu7 (mark_of (by decide) h), fun h => fu8 (mark_of (by decide) h), fun _ => rfl, fun h => fu10 (mark_of (by decide) h), fun h => fu11 (mark_of (by decide) h), fun h => fu12 (mark_of (by decide) h), fun h => fu13 (mark_of (by decide) h)⟩
        · have eu9 := fu9 (dep_of 9 hru rfl (by kernel_rfl))
          replace eu9 := eu9.symm
          subst eu9
          refine wpOp_shut (by rfl) (fun K hK => ?_)
          simp only [Act.put, List.setIfInBounds_toArray, List.set_cons_zero, List.set_cons_succ]
          obtain ⟨V_0, V_1, V_2, V_3, V_4, V_5, V_6, V_7, V_8, V_9, V_10, V_11, V_12, V_13⟩ := VN.below hbu
          go_simp
          exact hK.out _ _ ⟨vu0, vu1, vu2, vu3, vu4, vu5, vu6, vu7, vu8, (.pointer (some ⟨w.heap.size, 6, none⟩)), (.int .i64 (rr : Int)), vu11, vu12, vu13, by simp only [Act.put, List.setIfInBounds_toArray, List.set_cons_zero, List.set_cons_succ], hbu, fun h => fu0 (mark_of (by decide) h), fun h => fu1 (mark_of (by decide) h), fun h => fu2 (mark_of (by decide) h), fun h => fu3 (mark_of (by decide) h), fun h => fu4 (mark_of (by decide) h), fun h => fu5 (mark_of (by decide) h), fun h => fu6 (mark_of (by decide) h), fun h => fu7 (mark_of (by decide) h), fun h => fu8 (mark_of (by decide) h), fun _ => rfl, fun _ => rfl, fun h => fu11 (mark_of (by decide) h), fun h => fu12 (mark_of (by decide) h), fun h => fu13 (mark_of (by decide) h)⟩
        · have eu8 := fu8 (dep_of 8 hru rfl (by kernel_rfl))
          have eu10 := fu10 (dep_of 10 hru rfl (by kernel_rfl))
          replace eu8 := eu8.symm
          subst eu8
          replace eu10 := eu10.symm
          subst eu10
          refine wpOp_shut (by rfl) (fun K hK => ?_)
          simp only [Act.put, List.setIfInBounds_toArray, List.set_cons_zero, List.set_cons_succ]
          have hp := hp.below hbu
          go_simp
          refine (itoa_at rr wn (by omega) hp).mono ?_
          rintro eu wx ⟨rfl, bu⟩
          go_wp2_with fail
          have hbu2 := hbu.trans (bu.mono hbu.size)
          exact hK.out _ _ ⟨vu0, vu1, vu2, vu3, vu4, vu5, vu6, vu7, (.string ⟨(Lib.decDigits lr).toArray⟩), vu9, (.int .i64 (rr : Int)), (.string ⟨(Lib.decDigits rr).toArray⟩), vu12, vu13, by simp only [Act.put, List.setIfInBounds_toArray, List.set_cons_zero, List.set_cons_succ], hbu2, fun h => fu0 (mark_of (by decide) h), fun h => fu1 (mark_of (by decide) h), fun h => fu2 (mark_of (by decide) h), fun h => fu3 (mark_of (by decide) h), fun h => fu4 (mark_of (by decide) h), fun h => fu5 (mark_of (by decide) h), fun h => fu6 (mark_of (by decide) h), fun h => fu7 (mark_of (by decide) h), fun _ => rfl, fun h => fu9 (mark_of (by decide) h), fun _ => rfl, fun _ => rfl, fun h => fu12 (mark_of (by decide) h), fun h => fu13 (mark_of (by decide) h)⟩
        · refine wpOp_shut (by rfl) (fun K hK => ?_)
          simp only [Act.put, List.setIfInBounds_toArray, List.set_cons_zero, List.set_cons_succ]
          go_simp
          exact hK.out _ _ ⟨vu0, vu1, vu2, vu3, vu4, vu5, vu6, vu7, vu8, vu9, vu10, vu11, (.string { data := #[109, 105, 115, 115, 45, 108, 101, 102, 116] }), vu13, by simp only [Act.put, List.setIfInBounds_toArray, List.set_cons_zero, List.set_cons_succ], hbu, fun h => fu0 (mark_of (by decide) h), fun h => fu1 (mark_of (by decide) h), fun h => fu2 (mark_of (by decide) h), fun h => fu3 (mark_of (by decide) h), fun h => fu4 (mark_of (by decide) h), fun h => fu5 (mark_of (by decide) h), fun h => fu6 (mark_of (by decide) h), fun h => fu7 (mark_of (by decide) h), fun h => fu8 (mark_of (by decide) h), fun h => fu9 (mark_of (by decide) h), fun h => fu10 (mark_of (by decide) h), fun h => fu11 (mark_of (by decide) h), fun _ => rfl, fun h => fu13 (mark_of (by decide) h)⟩
        · refine wpOp_shut (by rfl) (fun K hK => ?_)
          simp only [Act.put, List.setIfInBounds_toArray, List.set_cons_zero, List.set_cons_succ]
          go_simp
          exact hK.out _ _ ⟨vu0, vu1, vu2, vu3, vu4, vu5, vu6, vu7, vu8, vu9, vu10, vu11, vu12, (.string tc), by simp only [Act.put, List.setIfInBounds_toArray, List.set_cons_zero, List.set_cons_succ], hbu, fun h => fu0 (mark_of (by decide) h), fun h => fu1 (mark_of (by decide) h), fun h => fu2 (mark_of (by decide) h), fun h => fu3 (mark_of (by decide) h), fun h => fu4 (mark_of (by decide) h), fun h => fu5 (mark_of (by decide) h), fun h => fu6 (mark_of (by decide) h), fun h => fu7 (mark_of (by decide) h), fun h => fu8 (mark_of (by decide) h), fun h => fu9 (mark_of (by decide) h), fun h => fu10 (mark_of (by decide) h), fun h => fu11 (mark_of (by decide) h), fun h => fu12 (mark_of (by decide) h), fun _ => rfl⟩
      rintro au Wu1 ⟨vu0, vu1, vu2, vu3, vu4, vu5, vu6, vu7, vu8, vu9, vu10, vu11, vu12, vu13, rfl, hbu, fu0, fu1, fu2, fu3, fu4, fu5, fu6, fu7, fu8, fu9, fu10, fu11, fu12, fu13⟩
      have eu0 := (fu0 rfl).symm
      subst eu0
      have eu1 := (fu1 rfl).symm
      subst eu1
      have eu2 := (fu2 rfl).symm
      subst eu2
      have eu3 := (fu3 rfl).symm
      subst eu3
      have eu4 := (fu4 rfl).symm
      subst eu4
      have eu5 := (fu5 rfl).symm
      subst eu5
      have eu6 := (fu6 rfl).symm
      subst eu6
      have eu7 := (fu7 rfl).symm
      subst eu7
      have eu8 := (fu8 rfl).symm
      subst eu8
      have eu9 := (fu9 rfl).symm
      subst eu9
      have eu10 := (fu10 rfl).symm
      subst eu10
      have eu11 := (fu11 rfl).symm
      subst eu11
      have eu12 := (fu12 rfl).symm
      subst eu12
      have eu13 := (fu13 rfl).symm
      subst eu13
      clear fu0 fu1 fu2 fu3 fu4 fu5 fu6 fu7 fu8 fu9 fu10 fu11 fu12 fu13
      replace hu := hu.below hbu
      replace ht := ht.below hbu
      replace hp := hp.below hbu
      replace VN := VN.below hbu
      replace BB := BB.trans (hbu.mono BB.size)
      clear hbu
      simp only [Act.put, List.setIfInBounds_toArray, List.set_cons_zero, List.set_cons_succ]
      refine wpAnyH_ready (rs := [14]) (by kernel_rfl) (by simp) ?_
      refine AllReadyH.cons (by rfl) (fun K hK => ?_) AllReadyH.nil
      obtain ⟨W9, hW9, hS9, hL9, hSt⟩ := strs_lay Wu1 9 [{ data := #[115, 112, 108, 105, 116] }, ⟨(Lib.decDigits fn).toArray⟩, (qtxt q), ⟨(Lib.decDigits lr).toArray⟩, ⟨(Lib.decDigits rr).toArray⟩, { data := #[109, 105, 115, 115, 45, 108, 101, 102, 116] }, tc] #[.string { data := #[115, 112, 108, 105, 116] }, .string ⟨(Lib.decDigits fn).toArray⟩, .string (qtxt q), .string ⟨(Lib.decDigits lr).toArray⟩, .string ⟨(Lib.decDigits rr).toArray⟩, .string { data := #[109, 105, 115, 115, 45, 108, 101, 102, 116] }, .string tc] rfl
      have HE : Hid (∀ i, ([{ data := #[115, 112, 108, 105, 116] }, ⟨(Lib.decDigits fn).toArray⟩, (qtxt q), ⟨(Lib.decDigits lr).toArray⟩, ⟨(Lib.decDigits rr).toArray⟩, { data := #[109, 105, 115, 115, 45, 108, 101, 102, 116] }, tc] : List ByteArray).getD i ByteArray.empty = nwF ⟨false, (fn : Int), q, (lr : Int), (rr : Int), true, vl, cv⟩ i) := fun i => by rw [← htc]; rfl
      replace BB := BB.trans (hL9.mono BB.size)
      clear hL9
      have HT : Hid (StrC W9 Wu1.heap.size 7 (nwF ⟨false, (fn : Int), q, (lr : Int), (rr : Int), true, vl, cv⟩) ∧ Below w.heap.size w W9) := ⟨⟨hSt.1, fun j hj => by rw [hSt.2 j hj]; exact congrArg (fun x => some (Value.string x)) (HE.out j)⟩, BB⟩
      clear hSt BB HE
      go_simp
      rw [← hW9]
      refine hK.out _ _ trivial (fun _ => ?_)
      clear hK K
      simp only [Act.put, List.setIfInBounds_toArray, List.set_cons_zero, List.set_cons_succ]
      refine wpAnyH_ready (rs := [15]) (by kernel_rfl) (by simp) ?_
      refine AllReadyH.cons (by rfl) (fun K hK => ?_) AllReadyH.nil
      go_simp
      refine hK.out _ _ trivial (fun _ => ?_)
      clear hK K
      simp only [Act.put, List.setIfInBounds_toArray, List.set_cons_zero, List.set_cons_succ]
      refine wpAnyH_done (by kernel_rfl) ?_ _
      go_wp2_with fail
      go_ret
      subst hW9
      exact ⟨_, rfl, HT.out⟩
  · have BB : Below w.heap.size w w := Below.refl _ _
    obtain ⟨W0, hW0, hS0, hL0, VN, FN⟩ := V14.lay w 37 (.bool true) (.int .i64 ft) (.bool p1) (.slice a1 n1 c1) (.slice b1 m1 d1) (.int .i64 ll) (.int .i64 rr0) (.bool ms) (.bool p2) (.slice a2 n2 c2) (.slice b2 m2 d2) (.bool p3) (.slice a3 n3 c3) (.slice b3 m3 d3)
    replace hu := hu.below hL0
    replace hv := hv.below hL0
    replace hc := hc.below hL0
    replace ht := ht.below hL0
    replace hp := hp.below hL0
    replace BB := BB.trans (hL0.mono BB.size)
    clear hL0
    obtain ⟨V_0, V_1, V_2, V_3, V_4, V_5, V_6, V_7, V_8, V_9, V_10, V_11, V_12, V_13⟩ := id VN
    rw [hW0] at V_0 V_1 V_2 V_3 V_4 V_5 V_6 V_7 V_8 V_9 V_10 V_11 V_12 V_13
    go_enter Tryd.func20, Tryd.ntmps20
    go_wp2_with fail
    clear V_0 V_1 V_2 V_3 V_4 V_5 V_6 V_7 V_8 V_9 V_10 V_11 V_12 V_13
    rw [← hW0]
    clear hW0 hS0 FN
    refine (qprint_at _ cv L _ hc h1 hM ht).mono ?_
    rintro e w1 ⟨rfl, b1⟩
    replace hu := hu.below b1
    replace hv := hv.below b1
    replace ht := ht.below b1
    replace hp := hp.below b1
    replace VN := VN.below b1
    replace BB := BB.trans (b1.mono BB.size)
    clear b1 hc
    obtain ⟨tc, htc⟩ : ∃ x, qtxt cv = x := ⟨_, rfl⟩
    rw [htc]
    obtain ⟨V_0, V_1, V_2, V_3, V_4, V_5, V_6, V_7, V_8, V_9, V_10, V_11, V_12, V_13⟩ := id VN
    go_wp2_with fail
    clear V_0 V_1 V_2 V_3 V_4 V_5 V_6 V_7 V_8 V_9 V_10 V_11 V_12 V_13
    refine (qprint_at _ vl L _ hv h1 hM ht).mono ?_
    rintro e w2 ⟨rfl, b2⟩
    replace BB := BB.trans (b2.mono BB.size)
    clear b2 hu hv ht hp VN
    obtain ⟨tv, htv⟩ : ∃ x, qtxt vl = x := ⟨_, rfl⟩
    rw [htv]
    obtain ⟨W9, hW9, hS9, hL9, hSt⟩ := strs_lay w2 9 [{ data := #[108, 101, 97, 102] }, tv, tc] #[.string { data := #[108, 101, 97, 102] }, .string tv, .string tc] rfl
    have HE : Hid (∀ i, [{ data := #[108, 101, 97, 102] }, tv, tc].getD i ByteArray.empty = nwF ⟨true, ft, q, ll, rr0, ms, vl, cv⟩ i) := fun i => by rw [← htv, ← htc]; rfl
    replace BB := BB.trans (hL9.mono BB.size)
    clear htv htc hL9
    have HT : Hid (StrC W9 w2.heap.size 3 (nwF ⟨true, ft, q, ll, rr0, ms, vl, cv⟩) ∧ Below w.heap.size w W9) := ⟨⟨hSt.1, fun j hj => by rw [hSt.2 j hj]; exact congrArg (fun x => some (Value.string x)) (HE.out j)⟩, BB⟩
    clear hSt BB HE
    go_wp2_with fail
    rw [← hW9]
    go_wp2_with fail
    go_ret
    exact ⟨_, rfl, HT.out⟩

def two7 (x y : ByteArray) (i : Nat) : ByteArray := [x, y].getD i ByteArray.empty
def one7 (x : ByteArray) (i : Nat) : ByteArray := [x].getD i ByteArray.empty
def nodesT (t : Nat → Nd) : Nat → List UInt8
  | 0 => []
  | n + 1 => nodesT t n ++ lnT (nwL (t n)).length (nwF (t n))
def treesT (N : Nat → Nat) (T : Nat → Nat → Nd) : Nat → List UInt8
  | 0 => []
  | k + 1 => treesT N T k ++ (lnT 2 (two7 { data := #[116, 114, 101, 101] } (ktxt (N k))) ++ nodesT (T k) (N k))
def headT (F : Int) (k : Nat) : List UInt8 := lnT 2 (two7 { data := #[100, 101, 110, 100, 114, 111, 110] } { data := #[49] }) ++ lnT 2 (two7 { data := #[102, 101, 97, 116, 117, 114, 101, 115] } (ktxt F)) ++ lnT 2 (two7 { data := #[116, 114, 101, 101, 115] } (ktxt k))
def modT (F : Int) (k : Nat) (N : Nat → Nat) (T : Nat → Nat → Nd) : List UInt8 := headT F k ++ treesT N T k ++ lnT 1 (one7 { data := #[101, 110, 100] })
theorem dec_len : ∀ (m x : Nat), x < 10 ^ m → 1 ≤ m → (Lib.decDigits x).length ≤ m := by
  intro m
  induction m with
  | zero => intro x _ h; omega
  | succ m ih =>
    intro x hx _
    rw [Lib.decDigits]
    split
    · simp
    · rename_i h
      rw [List.length_append]
      rcases Nat.eq_zero_or_pos m with e | e
      · subst e
        simp at hx
        omega
      · have := ih (x / 10) (by rw [Nat.div_lt_iff_lt_mul (by omega)]; rw [Nat.pow_succ] at hx; exact hx) e
        simp only [List.length_singleton]
        omega
theorem ktxt_size (z : Int) (h : z ≤ 255) : (ktxt z).size ≤ 3 := by
  show (Lib.decDigits z.toNat).toArray.size ≤ 3
  rw [List.size_toArray]
  exact dec_len 3 _ (by show z.toNat < 1000; omega) (by omega)
theorem side_size (b : Bool) : (sideT b).size ≤ 10 := by cases b <;> decide
theorem two_size (x y : ByteArray) (hx : x.size ≤ 100) (hy : y.size ≤ 100) : ∀ i, i < 2 → (two7 x y i).size ≤ 100 := by
  intro i hi
  match i, hi with
  | 0, _ => exact hx
  | 1, _ => exact hy
theorem one_size (x : ByteArray) (hx : x.size ≤ 100) : ∀ i, i < 1 → (one7 x i).size ≤ 100 := by
  intro i hi
  match i, hi with
  | 0, _ => exact hx
/-- A node that may be written. -/
def WrN (d : Nd) : Prop := (0 ≤ d.feat ∧ d.feat ≤ 64 ∧ 0 ≤ d.left ∧ d.left ≤ 255 ∧ 0 ≤ d.right ∧ d.right ≤ 255) ∧ qsz d.cut ≤ 4 ∧ qsz d.val ≤ 4 ∧ qsz d.cov ≤ 4
theorem nw_size (d : Nd) (h : WrN d) : (nwL d).length ≤ 7 ∧ ∀ i, i < (nwL d).length → (nwF d i).size ≤ 100 := by
  obtain ⟨⟨h1, h2, h3, h4, h5, h6⟩, q1, q2, q3⟩ := h
  have s1 := qtxt_size _ _ q1
  have s2 := qtxt_size _ _ q2
  have s3 := qtxt_size _ _ q3
  have key : (nwL d).length ≤ 7 ∧ ∀ x ∈ nwL d, x.size ≤ 100 := by
    unfold nwL
    split
    · refine ⟨by simp, fun x hx => ?_⟩
      simp only [List.mem_cons, List.not_mem_nil, or_false] at hx
      rcases hx with rfl | rfl | rfl
      · decide
      · omega
      · omega
    · refine ⟨by simp, fun x hx => ?_⟩
      simp only [List.mem_cons, List.not_mem_nil, or_false] at hx
      rcases hx with rfl | rfl | rfl | rfl | rfl | rfl | rfl
      · decide
      · have := ktxt_size d.feat (by omega); omega
      · omega
      · have := ktxt_size d.left (by omega); omega
      · have := ktxt_size d.right (by omega); omega
      · have := side_size d.miss; omega
      · omega
  refine ⟨key.1, fun i hi => ?_⟩
  unfold nwF
  rw [List.getD_eq_getElem?_getD, List.getElem?_eq_getElem hi]
  exact key.2 _ (List.getElem_mem hi)
theorem ln_len (n : Nat) (f : Nat → ByteArray) (hn : n ≤ 7) (h : ∀ i, i < n → (f i).size ≤ 100) : (lnT n f).length ≤ 1000 := by
  have h1 := lineT_len n 100 f h
  have h2 : n * (100 + 1) ≤ 7 * 101 := Nat.mul_le_mul hn (by omega)
  unfold lnT
  rw [List.length_append]
  simp only [List.length_singleton]
  omega
theorem nodes_len (t : Nat → Nd) : ∀ n, (∀ i, i < n → WrN (t i)) → (nodesT t n).length ≤ n * 1000
  | 0, _ => by simp [nodesT]
  | n + 1, h => by
    have h1 := nodes_len t n (fun i hi => h i (by omega))
    obtain ⟨h2, h3⟩ := nw_size (t n) (h n (by omega))
    have h4 := ln_len _ _ h2 h3
    unfold nodesT
    rw [List.length_append]
    omega
theorem tree_len (a : Nat) (ha : a ≤ 255) : (lnT 2 (two7 { data := #[116, 114, 101, 101] } (ktxt a))).length ≤ 1000 :=
  ln_len _ _ (by omega) (two_size _ _ (by decide) (by have := ktxt_size (a : Int) (by omega); omega))
theorem trees_len (N : Nat → Nat) (T : Nat → Nat → Nd) : ∀ k, (∀ i, i < k → N i ≤ 15 ∧ ∀ j, j < N i → WrN (T i j)) → (treesT N T k).length ≤ k * 16000
  | 0, _ => by simp [treesT]
  | k + 1, h => by
    have h1 := trees_len N T k (fun i hi => h i (by omega))
    obtain ⟨h2, h3⟩ := h k (by omega)
    have h4 := tree_len (N k) (by omega)
    have h5 := nodes_len (T k) (N k) h3
    unfold treesT
    rw [List.length_append, List.length_append]
    omega
theorem head_len (F : Int) (k : Nat) (hF : F ≤ 255) (hk : k ≤ 255) : (headT F k).length ≤ 3000 := by
  have h1 := ln_len 2 (two7 { data := #[100, 101, 110, 100, 114, 111, 110] } { data := #[49] }) (by omega) (two_size _ _ (by decide) (by decide))
  have h2 := ln_len 2 (two7 { data := #[102, 101, 97, 116, 117, 114, 101, 115] } (ktxt F)) (by omega) (two_size _ _ (by decide) (by have := ktxt_size F (by omega); omega))
  have h3 := ln_len 2 (two7 { data := #[116, 114, 101, 101, 115] } (ktxt k)) (by omega) (two_size _ _ (by decide) (by have := ktxt_size (k : Int) (by omega); omega))
  unfold headT
  rw [List.length_append, List.length_append]
  omega
/-- A builder that holds nothing yet. -/
theorem bld_lay (w : World) : ∃ W, W = w.alloc (.cells #[.pointer none, .slice none 0 0] 52) ∧ W.heap.size = w.heap.size + 1 ∧ Below w.heap.size w W ∧ Bld w.heap.size W w.heap.size [] :=
  ⟨_, rfl, by simp, (Below.refl _ _).alloc (Nat.le_refl _) _, .inl ⟨Nat.le_refl _, _, heap_alloc_new w _, World.ownsRow_nil _ _ _ _, by simp [Value.ownBlock]⟩⟩

theorem dec_low (x : Nat) (h : x < 10) : Lib.decDigits x = [UInt8.ofNat (48 + x)] := by
  rw [Lib.decDigits, dif_pos h]
theorem dec_high (x : Nat) (h : ¬ x < 10) : Lib.decDigits x = Lib.decDigits (x / 10) ++ [UInt8.ofNat (48 + x % 10)] := by
  rw [Lib.decDigits, dif_neg h]
theorem dd_nat (x p : Nat) : (dd x p).toNat = 48 + x / 10 ^ p % 10 := by unfold dd; omega
theorem ndec_le7 (x n : Nat) (h : x < 10 ^ n) (hn : 1 ≤ n) : ndec x ≤ n := by
  unfold ndec
  split
  · omega
  · exact nl_le 10 x n (by decide) h
theorem txt_dec (x : Nat) (h : x < 1000) : txt x = ⟨(Lib.decDigits x).toArray⟩ := by
  have h1 := lt_ndec x
  have h0 := ndec_pos x
  have h2 : ndec x ≤ 3 := ndec_le7 x 3 (by omega) (by omega)
  have hl : ∀ n, 1 ≤ n → x < 10 ^ n → ndec x ≤ n := fun n hn hx => ndec_le7 x n hx hn
  have key : (txt x).data.toList = Lib.decDigits x := by
    unfold txt
    rw [strOfNums_data]
    rcases (show ndec x = 1 ∨ ndec x = 2 ∨ ndec x = 3 by omega) with e | e | e
    · rw [e] at h1 ⊢
      rw [dec_low x (by omega)]
      simp [decs, dd_nat, List.range, List.range.loop]
      rw [Nat.mod_eq_of_lt (by omega)]
    · have h3 : ¬ x < 10 := fun hx => by have := hl 1 (by omega) (by omega); omega
      rw [e] at h1 ⊢
      rw [dec_high x h3, dec_low (x / 10) (by omega)]
      simp [decs, dd_nat, List.range, List.range.loop]
      rw [Nat.mod_eq_of_lt (show x / 10 < 10 by omega)]
    · have h3 : ¬ x < 100 := fun hx => by have := hl 2 (by omega) (by omega); omega
      rw [dec_high x (by omega), dec_high (x / 10) (by omega), dec_low (x / 10 / 10) (by omega), e]
      simp [decs, dd_nat, List.range, List.range.loop]
      rw [Nat.div_div_eq_div_mul, Nat.mod_eq_of_lt (show x / 100 < 10 by omega)]
  apply ByteArray.ext
  apply Array.toList_inj.1
  rw [key]
theorem qtxt_nat (x : Nat) (h : x < 1000) : qtxt ((x : Int) : Rat) = ktxt (x : Int) := by
  unfold qtxt
  rw [if_pos (by rfl)]
  show ztxt (x : Int) = _
  unfold ztxt
  rw [if_neg (by omega), Int.natAbs_natCast, txt_dec x h]
  rfl

theorem mfit_node {F : Int} {k : Nat} {N : Nat → Nat} {T : Nat → Nat → Nd} (h : mfit F k N T = true) {i j : Nat} (hi : i < k) (hj : j < N i) : 0 ≤ (T i j).feat ∧ (T i j).feat ≤ 64 ∧ 0 ≤ (T i j).left ∧ (T i j).left ≤ 255 ∧ 0 ≤ (T i j).right ∧ (T i j).right ≤ 255 := by
  unfold mfit at h
  simp only [Bool.and_eq_true, decide_eq_true_eq, Option.isNone_iff_eq_none] at h
  have h1 := fb_is h.2 i hi
  simp only [Bool.not_eq_eq_eq_not, Bool.not_false] at h1
  unfold tfit at h1
  simp only [Bool.and_eq_true, decide_eq_true_eq, Option.isNone_iff_eq_none] at h1
  have h2 := fb_is h1.2 j hj
  unfold badF at h2
  simp only [Bool.not_eq_eq_eq_not, Bool.not_false, Bool.and_eq_true, decide_eq_true_eq] at h2
  exact ⟨h2.1.1.1, h2.1.1.2, h2.1.2.1, h2.1.2.2, h2.2.1, h2.2.2⟩
theorem MRow.wr {F : Int} {w : World} {v : Value} {k : Nat} {N : Nat → Nat} {T : Nat → Nat → Nd} (h : MRow w v k N T 4) (hf : mfit F k N T = true) {i j : Nat} (hi : i < k) (hj : j < N i) : WrN (T i j) := by
  obtain ⟨_, _, _, _, _, _, _, _, TR⟩ := h.at hi
  obtain ⟨_, _, _, _, _, _, _, _, _, _, _, _, _, _, _, _, _, _, _, _, _, _, _, _, _, _, _, _, r1, r2, r3, _⟩ := TR.at hj
  exact ⟨mfit_node hf hi hj, r1.qsz (by omega), r2.qsz (by omega), r3.qsz (by omega)⟩


set_option maxRecDepth 100000 in
set_option maxHeartbeats 4000000 in
theorem rwriteM_no (F : Int) (v : Value) (k : Nat) (N : Nat → Nat) (T : Nat → Nat → Nd) (L : Nat) (w : World) (hv : MRow w v k N T L) (h : mfit F k N T = false) :
    Calls Tryd.prog 13 #[.agg #[.int .i64 F, v]] w fun e w' => e = .returned (.tuple #[.string { data := #[] }, .int .i64 1]) ∧ Below w.heap.size w w' := by
  obtain ⟨ao, c, rfl, hnc, hc63⟩ := hv.open
  have BB : Below w.heap.size w w := Below.refl _ _
  obtain ⟨Wb0, hW0, hS0, hL0, VM⟩ := V2.lay w 24 (.int .i64 F) (.slice ao k c)
  replace hv := hv.below hL0
  replace BB := BB.trans (hL0.mono BB.size)
  clear hL0
  go_enter Tryd.func13, Tryd.ntmps13
  go_wp2_with fail
  rw [← hW0]
  clear hW0 hS0
  refine (fits_at F _ k N T L _ hv).mono ?_
  rintro e w1 ⟨rfl, b1⟩
  replace BB := BB.trans (b1.mono BB.size)
  rw [h]
  clear b1 VM hv
  go_wp2_with fail
  (try simp only [Exit.inBlock, Exit.then])
  refine bodyPost_ret (v := .tuple #[.string { data := #[] }, .int .i64 1]) (by simp [results, go_sem]) rfl ?_
  exact ⟨rfl, BB⟩


set_option maxRecDepth 100000 in
set_option maxHeartbeats 8000000 in
theorem rwriteM_at (F : Int) (v : Value) (k : Nat) (N : Nat → Nat) (T : Nat → Nat → Nd) (w : World) (hv : MRow w v k N T 4) (h : mfit F k N T = true) (hk : k ≤ 6) (hN : ∀ i, i < k → N i ≤ 15) (ht : Tab w) (hp : Pow w) :
    Calls Tryd.prog 13 #[.agg #[.int .i64 F, v]] w fun e w' => e = .returned (.tuple #[.string ⟨(modT F k N T).toArray⟩, .int .i64 0]) ∧ Below w.heap.size w w' := by
  obtain ⟨ao, c, rfl, hnc, hc63⟩ := hv.open
  have BB : Below w.heap.size w w := Below.refl _ _
  obtain ⟨Wb0, hW0, hS0, hL0, VM⟩ := V2.lay w 24 (.int .i64 F) (.slice ao k c)
  replace hv := hv.below hL0
  replace ht := ht.below hL0
  replace hp := hp.below hL0
  replace BB := BB.trans (hL0.mono BB.size)
  clear hL0
  have hms := mfit_is h
  obtain ⟨fn, rfl⟩ : ∃ fn : Nat, F = (fn : Int) := ⟨F.toNat, by omega⟩
  have hfn : fn ≤ 64 := by omega
  have HWR : Hid (∀ i, i < k → N i ≤ 15 ∧ ∀ j, j < N i → WrN (T i j)) := fun i hi => ⟨hN i hi, fun j hj => hv.wr h hi hj⟩
  have HN1 : Hid (∀ i, i < k → 1 ≤ N i) := fun i hi => (hms.2.2.2 i hi).1
  clear hms hN
  go_enter Tryd.func13, Tryd.ntmps13
  go_wp2_with fail
  rw [← hW0]
  clear hW0 hS0
  refine (fits_at (fn : Int) _ k N T 4 _ hv).mono ?_
  rintro e w1 ⟨rfl, b1⟩
  replace BB := BB.trans (b1.mono BB.size)
  have hv0 := hv.below b1
  have ht0 := ht.below b1
  have hp0 := hp.below b1
  have VM0 := VM.below b1
  rw [h]
  clear b1 VM hv ht hp h
  have BB0 : Hid (Below w.heap.size w w1) := BB
  clear BB
  obtain ⟨Wn, hWn, hSn, hLn, BD⟩ := bld_lay w1
  have BL : Below w1.heap.size w1 Wn := hLn
  clear hLn
  have hhd := head_len (fn : Int) k (by omega) (by omega)
  obtain ⟨W9, hW9, hS9, hL9, hSt⟩ := strs_lay Wn 9 [{ data := #[100, 101, 110, 100, 114, 111, 110] }, { data := #[49] }] #[.string { data := #[100, 101, 110, 100, 114, 111, 110] }, .string { data := #[49] }] rfl
  go_wp2_with fail
  rw [← hWn]
  rw [← hW9]
  replace BD := BD.below hL9
  replace BL := BL.trans (hL9.mono BL.size)
  rw [hSn] at hSt
  have hSt2 : StrC W9 (w1.heap.size + 1) 2 (two7 { data := #[100, 101, 110, 100, 114, 111, 110] } { data := #[49] }) := ⟨hSt.1, fun j hj => by rw [hSt.2 j hj]; rfl⟩
  clear hW9 hS9 hL9 hSt
  refine (wline_at BD hSt2 (two_size _ _ (by decide) (by decide)) (by omega) (by omega) (by simp)).mono ?_
  rintro e x1 ⟨rfl, BD2, b2⟩
  replace BL := BL.trans b2
  replace BD := BD2
  clear BD2 b2 hSt2
  clear hWn hSn
  obtain ⟨VM_0, VM_1, VM_2, VM_3⟩ := VM0.below BL
  go_wp2_with fail
  clear VM_0 VM_1 VM_2 VM_3
  refine (itoa_at fn _ (by omega) (hp0.below BL)).mono ?_
  rintro e yfn ⟨rfl, b2⟩
  replace BL := BL.trans (b2.mono BL.size)
  replace BD := BD.below b2
  clear b2
  rw [List.nil_append] at BD
  obtain ⟨W9, hW9, hS9, hL9, hSt⟩ := strs_lay yfn 9 [{ data := #[102, 101, 97, 116, 117, 114, 101, 115] }, ⟨(Lib.decDigits fn).toArray⟩] #[.string { data := #[102, 101, 97, 116, 117, 114, 101, 115] }, .string ⟨(Lib.decDigits fn).toArray⟩] rfl
  go_wp2_with fail
  rw [← hW9]
  replace BD := BD.below hL9
  replace BL := BL.trans (hL9.mono BL.size)
  have hSt2 : StrC W9 yfn.heap.size 2 (two7 { data := #[102, 101, 97, 116, 117, 114, 101, 115] } (ktxt (fn : Int))) := ⟨hSt.1, fun j hj => by rw [hSt.2 j hj]; rfl⟩
  clear hW9 hS9 hL9 hSt
  refine (wline_at BD hSt2 (two_size _ _ (by decide) (by have := ktxt_size ((fn : Nat) : Int) (by omega); exact Nat.le_trans this (by omega))) (by omega) (by omega) (by have := ln_len 2 (two7 { data := #[100, 101, 110, 100, 114, 111, 110] } { data := #[49] }) (by omega) (two_size _ _ (by decide) (by decide)); omega)).mono ?_
  rintro e x2 ⟨rfl, BD2, b2⟩
  replace BL := BL.trans b2
  replace BD := BD2
  clear BD2 b2 hSt2
  obtain ⟨VM_0, VM_1, VM_2, VM_3⟩ := VM0.below BL
  go_wp2_with fail
  clear VM_0 VM_1 VM_2 VM_3
  refine (itoa_at k _ (by omega) (hp0.below BL)).mono ?_
  rintro e yk ⟨rfl, b2⟩
  replace BL := BL.trans (b2.mono BL.size)
  replace BD := BD.below b2
  clear b2
  obtain ⟨W9, hW9, hS9, hL9, hSt⟩ := strs_lay yk 9 [{ data := #[116, 114, 101, 101, 115] }, ⟨(Lib.decDigits k).toArray⟩] #[.string { data := #[116, 114, 101, 101, 115] }, .string ⟨(Lib.decDigits k).toArray⟩] rfl
  go_wp2_with fail
  rw [← hW9]
  replace BD := BD.below hL9
  replace BL := BL.trans (hL9.mono BL.size)
  have hSt2 : StrC W9 yk.heap.size 2 (two7 { data := #[116, 114, 101, 101, 115] } (ktxt (k : Int))) := ⟨hSt.1, fun j hj => by rw [hSt.2 j hj]; rfl⟩
  clear hW9 hS9 hL9 hSt
  refine (wline_at BD hSt2 (two_size _ _ (by decide) (by have := ktxt_size ((k : Nat) : Int) (by omega); exact Nat.le_trans this (by omega))) (by omega) (by omega) (by have h1 := ln_len 2 (two7 { data := #[100, 101, 110, 100, 114, 111, 110] } { data := #[49] }) (by omega) (two_size _ _ (by decide) (by decide)); have h2 := ln_len 2 (two7 { data := #[102, 101, 97, 116, 117, 114, 101, 115] } (ktxt (fn : Int))) (by omega) (two_size _ _ (by decide) (by have := ktxt_size ((fn : Nat) : Int) (by omega); exact Nat.le_trans this (by omega))); rw [List.length_append]; omega)).mono ?_
  rintro e x3 ⟨rfl, BD2, b2⟩
  replace BL := BL.trans b2
  replace BD := BD2
  clear BD2 b2 hSt2
  have BD1 : Bld w1.heap.size x3 w1.heap.size (headT (fn : Int) k ++ treesT N T 0) := by rw [treesT, List.append_nil]; exact BD
  clear BD
  obtain ⟨hd, hhD⟩ : ∃ x, headT (fn : Int) k = x := ⟨_, rfl⟩
  have HHD : Hid (headT (fn : Int) k = hd) := hhD
  rw [hhD] at BD1 hhd
  clear hhD
  obtain ⟨VM_0, VM_1, VM_2, VM_3⟩ := VM0.below BL
  go_wp2
  clear VM_0 VM_1 VM_2 VM_3
  go_loopw [28] (fun vi wr => ∃ i : Nat, i ≤ k ∧ vi = .int .i64 (i : Int) ∧ Bld w1.heap.size wr w1.heap.size (hd ++ treesT N T i) ∧ Below w1.heap.size w1 wr) (fun vi _ => k - (intOf vi).toNat)
  case atStart => exact ⟨0, by omega, rfl, BD1, BL⟩
  case round =>
    clear BD1 BL
    obtain ⟨i, hi, rfl, BD, BL⟩ := hrel
    by_cases hlt : i < k
    · have g1 : (i : Int) < (k : Int) := by omega
      have g0 : (0 : Int) ≤ (i : Int) := by omega
      obtain ⟨bt, ot, ct, at_, dt, hvv, hcc, XC0, TR0⟩ := hv0.at hlt
      cases hvv
      have XC := (BL.cell (World.block_lt_of_cell? _ _ XC0)).trans XC0
      clear XC0
      have hni := (HWR.out i hlt).1
      have hn1 := HN1.out i hlt
      have htl := trees_len N T i (fun j hj => HWR.out j (by omega))
      obtain ⟨ni, hNi⟩ : ∃ ni, N i = ni := ⟨_, rfl⟩
      have HNI : Hid (N i = ni) := hNi
      rw [hNi] at XC TR0 hni hn1
      clear hNi
      go_wp2_with fail
      refine (itoa_at ni _ (by omega) (hp0.below BL)).mono ?_
      rintro e yni ⟨rfl, b2⟩
      replace BL := BL.trans (b2.mono BL.size)
      replace BD := BD.below b2
      clear b2
      clear XC
      obtain ⟨W9, hW9, hS9, hL9, hSt⟩ := strs_lay yni 9 [{ data := #[116, 114, 101, 101] }, ⟨(Lib.decDigits ni).toArray⟩] #[.string { data := #[116, 114, 101, 101] }, .string ⟨(Lib.decDigits ni).toArray⟩] rfl
      go_wp2_with fail
      rw [← hW9]
      replace BD := BD.below hL9
      replace BL := BL.trans (hL9.mono BL.size)
      have hSt2 : StrC W9 yni.heap.size 2 (two7 { data := #[116, 114, 101, 101] } (ktxt (ni : Int))) := ⟨hSt.1, fun j hj => by rw [hSt.2 j hj]; rfl⟩
      clear hW9 hS9 hL9 hSt
      refine (wline_at BD hSt2 (two_size _ _ (by decide) (by have := ktxt_size ((ni : Nat) : Int) (by omega); exact Nat.le_trans this (by omega))) (by omega) (by omega) (by rw [List.length_append]; omega)).mono ?_
      rintro e x1 ⟨rfl, BD2, b2⟩
      replace BL := BL.trans b2
      replace BD := BD2
      clear BD2 b2 hSt2
      obtain ⟨l0, hl0⟩ : ∃ x, hd ++ treesT N T i ++ lnT 2 (two7 { data := #[116, 114, 101, 101] } (ktxt (ni : Int))) = x := ⟨_, rfl⟩
      have HL0 : Hid (hd ++ treesT N T i ++ lnT 2 (two7 { data := #[116, 114, 101, 101] } (ktxt (ni : Int))) = l0) := hl0
      have hll : l0.length ≤ 110000 := by rw [← hl0, List.length_append, List.length_append]; have h2 := tree_len ni (by omega); omega
      have BD1 : Bld w1.heap.size x1 w1.heap.size (l0 ++ nodesT (T i) 0) := by rw [nodesT, List.append_nil, ← hl0]; exact BD
      clear BD hl0 htl
      go_wp2
      go_loopw [39] (fun vj wr => ∃ j : Nat, j ≤ ni ∧ vj = .int .i64 (j : Int) ∧ Bld w1.heap.size wr w1.heap.size (l0 ++ nodesT (T i) j) ∧ Below w1.heap.size w1 wr) (fun vj _ => ni - (intOf vj).toNat)
      case atStart => exact ⟨0, by omega, rfl, BD1, BL⟩
      case round =>
        clear BD1 BL
        obtain ⟨j, hj, rfl, BD, BL⟩ := hrel
        by_cases hlj : j < ni
        · have g2 : (j : Int) < (ni : Int) := by omega
          have g3 : (0 : Int) ≤ (j : Int) := by omega
          have TR1 := TR0.below BL
          have hWR := (HWR.out i hlt).2 j (by rw [HNI.out]; exact hlj)
          have hnl := nodes_len (T i) j (fun q hq => (HWR.out i hlt).2 q (by rw [HNI.out]; omega))
          have BB : Below w1.heap.size w1 wr := BL
          clear BL
          obtain ⟨b, off, cc, p1, a1, n1, c1, b1, m1, d1, p2, a2, n2, c2, b2, m2, d2, p3, a3, n3, c3, b3, m3, d3, hvv, hcc, hc6, NN, r1, r2, r3, i1, i2, i3⟩ := TR1.at hlj
          cases hvv
          obtain ⟨N_0, N_1, N_2, N_3, N_4, N_5, N_6, N_7, N_8, N_9, N_10, N_11, N_12, N_13⟩ := id NN
          obtain ⟨W1, hW1, hS1, hL1, VN, FN⟩ := V14.lay wr 37 (.bool ((T i) j).leaf) (.int .i64 ((T i) j).feat) (.bool p1) (.slice a1 n1 c1) (.slice b1 m1 d1) (.int .i64 ((T i) j).left) (.int .i64 ((T i) j).right) (.bool ((T i) j).miss) (.bool p2) (.slice a2 n2 c2) (.slice b2 m2 d2) (.bool p3) (.slice a3 n3 c3) (.slice b3 m3 d3)
          replace r1 := r1.below hL1
          replace r2 := r2.below hL1
          replace r3 := r3.below hL1
          replace BD := BD.below hL1
          replace BB := BB.trans (hL1.mono BB.size)
          clear hL1
          obtain ⟨V_0, V_1, V_2, V_3, V_4, V_5, V_6, V_7, V_8, V_9, V_10, V_11, V_12, V_13⟩ := id VN
          rw [hW1] at V_0 V_1 V_2 V_3 V_4 V_5 V_6 V_7 V_8 V_9 V_10 V_11 V_12 V_13
          go_wp2_with fail
          clear V_0 V_1 V_2 V_3 V_4 V_5 V_6 V_7 V_8 V_9 V_10 V_11 V_12 V_13
          clear N_0 N_1 N_2 N_3 N_4 N_5 N_6 N_7 N_8 N_9 N_10 N_11 N_12 N_13
          rw [← hW1]
          generalize wr.heap.size = R1 at *
          clear hW1 hS1
          have BL := BB
          clear BB
          clear NN TR1
          refine (nwords_at (T i j) _ _ _ _ _ _ _ _ _ _ _ _ _ _ _ _ _ _ _ _ _ 4 _ r1 r2 r3 hWR.1 (by omega) (by omega) (ht0.below BL) (hp0.below BL)).mono ?_
          rintro e w5 ⟨gw, rfl, hSt, b2⟩
          replace BL := BL.trans (b2.mono BL.size)
          replace BD := BD.below b2
          clear b2 r1 r2 r3 VN FN
          obtain ⟨hs1, hs2⟩ := nw_size _ hWR
          go_wp2_with fail
          refine (wline_at BD hSt hs2 (by omega) (Nat.le_refl _) (by rw [List.length_append]; omega)).mono ?_
          rintro e w6 ⟨rfl, BD2, b2⟩
          replace BL := BL.trans b2
          clear b2 hSt hs1 hs2 BD
          have BD3 : Bld w1.heap.size w6 w1.heap.size (l0 ++ nodesT (T i) (j + 1)) := by rw [nodesT, ← List.append_assoc]; exact BD2
          clear BD2
          go_wp2
          go_roundw
          case rel => exact ⟨j + 1, by omega, by go_num, BD3, BL⟩
          case measure => simp [intOf]; omega
        · obtain rfl : j = ni := by omega
          have g2 : ¬ (j : Int) < (j : Int) := by omega
          have BD3 : Bld w1.heap.size wr w1.heap.size (hd ++ treesT N T (i + 1)) := by rw [treesT, HNI.out, ← List.append_assoc, ← List.append_assoc, HL0.out]; exact BD
          clear BD
          go_wp2
          go_roundw
          case rel => exact ⟨i + 1, by omega, by go_num, BD3, BL⟩
          case measure => simp [intOf]; omega
    · obtain rfl : i = k := by omega
      have g1 : ¬ (i : Int) < (i : Int) := by omega
      have htl := trees_len N T i (fun j hj => HWR.out j (by omega))
      obtain ⟨W9, hW9, hS9, hL9, hSt⟩ := strs_lay wr 9 [{ data := #[101, 110, 100] }] #[.string { data := #[101, 110, 100] }] rfl
      go_wp2_with fail
      rw [← hW9]
      replace BD := BD.below hL9
      replace BL := BL.trans (hL9.mono BL.size)
      have hSt2 : StrC W9 wr.heap.size 1 (one7 { data := #[101, 110, 100] }) := ⟨hSt.1, fun j hj => by rw [hSt.2 j hj]; rfl⟩
      clear hW9 hS9 hL9 hSt
      refine (wline_at BD hSt2 (one_size _ (by decide)) (by omega) (by omega) (by rw [List.length_append]; omega)).mono ?_
      rintro e x1 ⟨rfl, BD2, b2⟩
      replace BL := BL.trans b2
      replace BD := BD2
      clear BD2 b2 hSt2
      go_wp2_with fail
      refine (bstr_at BD).mono ?_
      rintro e w7 ⟨rfl, b2⟩
      replace BL := BL.trans b2
      have HT : Hid (hd ++ treesT N T i ++ lnT 1 (one7 { data := #[101, 110, 100] }) = modT (fn : Int) i N T) := by rw [← HHD.out]; rfl
      rw [HT.out]
      clear BD b2 htl
      obtain ⟨tx, htx⟩ : ∃ x, modT (fn : Int) i N T = x := ⟨_, rfl⟩
      have HTX : Hid (modT (fn : Int) i N T = tx) := htx
      rw [htx]
      clear htx HT
      dsimp only
      repeat go_step
      (try simp only [Exit.inBlock, Exit.then])
      refine bodyPost_ret (v := .tuple #[.string ⟨tx.toArray⟩, .int .i64 0]) (by simp [results, go_sem]) rfl ?_
      exact ⟨by rw [HTX.out], BB0.out.trans (BL.mono BB0.out.size)⟩

/-- A text of these bytes. -/
def byS (l : List UInt8) : ByteArray := ⟨l.toArray⟩
theorem byS_app (l : List UInt8) (x : ByteArray) : byS l ++ x = byS (l ++ x.data.toList) := by
  apply ByteArray.ext
  apply Array.toList_inj.1
  simp [byS, ByteArray.data_append]
theorem byS_size (l : List UInt8) : (byS l).size = l.length := by
  show l.toArray.size = _
  rw [List.size_toArray]
theorem ln2 (x y : ByteArray) : lnT 2 (two7 x y) = x.data.toList ++ [32] ++ y.data.toList ++ [10] := by
  simp [lnT, lineT, two7, List.range, List.range.loop, Lib.join_cons, Lib.joinTail]
theorem ln1 (x : ByteArray) : lnT 1 (one7 x) = x.data.toList ++ [10] := by
  simp [lnT, lineT, one7, List.range, List.range.loop, Lib.join_cons, Lib.joinTail]
theorem lnN (d : Nd) : lnT (nwL d).length (nwF d) = if d.leaf = true then [108, 101, 97, 102] ++ [32] ++ (qtxt d.val).data.toList ++ [32] ++ (qtxt d.cov).data.toList ++ [10] else [115, 112, 108, 105, 116] ++ [32] ++ (ktxt d.feat).data.toList ++ [32] ++ (qtxt d.cut).data.toList ++ [32] ++ (ktxt d.left).data.toList ++ [32] ++ (ktxt d.right).data.toList ++ [32] ++ (sideT d.miss).data.toList ++ [32] ++ (qtxt d.cov).data.toList ++ [10] := by
  unfold nwF nwL
  split
  · simp [lnT, lineT, List.range, List.range.loop, Lib.join_cons, Lib.joinTail]
  · simp [lnT, lineT, List.range, List.range.loop, Lib.join_cons, Lib.joinTail]

/-- Any node. -/
def ndZero : Nd := ⟨false, 0, 0, 0, 0, false, 0, 0⟩
theorem none_fits : mfit 0 0 (fun _ => 0) (fun _ _ => ndZero) = true := mfit_yes (by omega) (by omega) (fun j hj => absurd hj (by omega))
theorem none_text : byS (modT 0 0 (fun _ => 0) (fun _ _ => ndZero)) = { data := #[100, 101, 110, 100, 114, 111, 110, 32, 49, 10, 102, 101, 97, 116, 117, 114, 101, 115, 32, 48, 10, 116, 114, 101, 101, 115, 32, 48, 10, 101, 110, 100, 10] } := by
  unfold modT headT
  rw [ln2, ln2, ln2, ln1]
  have e : ktxt 0 = { data := #[48] } := by
    show (⟨(Lib.decDigits 0).toArray⟩ : ByteArray) = _
    rw [dec_low 0 (by omega)]
    rfl
  show byS (_ ++ (_ ++ (ktxt 0).data.toList ++ _) ++ (_ ++ (ktxt 0).data.toList ++ _) ++ _ ++ _) = _
  rw [e]
  rfl
set_option maxRecDepth 100000 in
set_option maxHeartbeats 2000000 in
theorem awake7_at (w : World) (ht : Tab w) (hp : Pow w) : Calls Tryd.prog 8 #[] w fun e w' => e = .returned (.bool true) ∧ Below w.heap.size w w' := by
  have hv : MRow w (.slice none 0 0) 0 (fun _ => 0) (fun _ _ => ndZero) 4 := ⟨fun _ _ => .bool false, RowAt.nil _ _ _, fun i hi => absurd hi (by omega)⟩
  have c1 := rwriteM_at 0 _ 0 _ _ w hv none_fits (by omega) (fun i hi => absurd hi (by omega)) ht hp
  have c2 : Calls Tryd.prog 13 #[.agg #[.int .i64 0, .slice none 0 0]] w fun e w' => e = .returned (.tuple #[.string { data := #[100, 101, 110, 100, 114, 111, 110, 32, 49, 10, 102, 101, 97, 116, 117, 114, 101, 115, 32, 48, 10, 116, 114, 101, 101, 115, 32, 48, 10, 101, 110, 100, 10] }, .int .i64 0]) ∧ Below w.heap.size w w' := by
    rw [← none_text]
    exact c1
  clear c1 hv ht hp
  go_enter Tryd.func8, Tryd.ntmps8
  go_wp2_with fail
  refine c2.mono ?_
  rintro e w1 ⟨rfl, b1⟩
  go_wp2
  go_ret
  exact ⟨rfl, b1⟩

end Go.Proofs.YtbelnhpjhpoacaaDoor
