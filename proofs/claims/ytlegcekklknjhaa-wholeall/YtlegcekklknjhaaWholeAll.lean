/-
  Proves that Sum answers the sum of any list of whole numbers, of up to 30 of up to 10 limbs each, whatever comes in (the statement WholeAll); no condition.
-/
import Derived.Test.YtlegcekklknjhaaRows
import Derived.Test.YtlegcekklknjhaaJ3
import Derived.WalkKit
import Derived.ProofKit
import Derived.OpenShut
import Derived.ShutString
import Derived.ChangeOld
import Derived.Below
namespace Go.Proofs.Ytlegcekklknjhaa.wholeAll
open Go.ChangeShapes Go.WideShapes Go.ChangeAt Go.RowKit
open Go.ChangeMaps (open_string shut_string)
set_option linter.unusedVariables false
set_option linter.unusedSimpArgs false

def KLIST : Nat := 10

theorem IntAt.of_few {w : World} {p : Bool} {ao : Option Addr} {n c : Nat} {f : Nat → Int} {K : Nat} (h : Nums .u64 w (.slice ao n c) n f) (hf : U64 n f) (hn : n ≤ K) : IntAt w (.agg #[.bool p, .slice ao n c]) (zof p (num f n)) K :=
  ⟨_, _, _, _, _, rfl, h, hf, rfl, hn⟩

set_option maxRecDepth 20000 in
set_option maxHeartbeats 4000000 in
theorem walk (v : Value) (n : Nat) (z : Nat → Int) (w : World) (hv : RawRow w v n z KLIST) :
    Calls Try.prog 3 #[v] w fun e w' => e = .returned (.bool true) ∧ Below w.heap.size w w' := by
  unfold KLIST at hv
  have HV : Hid (RawRow w v n z 10) := hv
  obtain ⟨el, ⟨a, c, rfl, hnc, hcm, _⟩, _⟩ := hv
  go_enter Try.func3, Try.ntmps3
  go_wp2_with fail
  refine (rsmall_any 0 _ (by omega) (by omega)).mono ?_
  rintro e w3 ⟨r3, rfl, hr3, b3⟩
  obtain ⟨p3, ao3, n3, c3, rfl⟩ := hr3.open
  have A3 : Below w3.heap.size w3 (w3.alloc (.cells #[.bool p3, .slice ao3 n3 c3] 26)) := (Below.refl _ _).alloc (Nat.le_refl _) _
  have B3 : Below w.heap.size w (w3.alloc (.cells #[.bool p3, .slice ao3 n3 c3] 26)) := b3.trans (A3.mono b3.size)
  have V3 : V2 (w3.alloc (.cells #[.bool p3, .slice ao3 n3 c3] 26)) w3.heap.size (.bool p3) (.slice ao3 n3 c3) := resW w3 26 _ _
  have hR3 : w.heap.size ≤ w3.heap.size := b3.size
  have hs3 : (w3.alloc (.cells #[.bool p3, .slice ao3 n3 c3] 26)).heap.size = w3.heap.size + 1 := by simp
  replace hr3 := hr3.below A3
  clear A3 b3
  go_wp2
  generalize w3.alloc (.cells #[.bool p3, .slice ao3 n3 c3] 26) = W3 at *
  generalize w3.heap.size = R3 at *
  have hz0 : Hid (sumz z 0 = 0) := rfl
  go_loopw [3, 5] (fun vm vi wr => ∃ (i : Nat) (p : Bool) (ao : Option Addr) (m c : Nat), i ≤ n ∧ i ≤ 30 ∧ vi = .int .i64 (i : Int) ∧ V2 wr R3 (.bool p) (.slice ao m c) ∧ RepJ wr (.agg #[.bool p, .slice ao m c]) (sumz z i) ∧ IOwn (R3 + 1) wr vm i z 10 ∧ Below w.heap.size w wr) (fun _ vi _ => (31 - intOf vi).toNat)
  case atStart => exact ⟨0, p3, ao3, n3, c3, by omega, by omega, rfl, V3, by rw [hz0.out]; exact hr3, IOwn.nil _ _ _ _, B3⟩
  case round =>
    clear hr3 V3
    obtain ⟨i, p, ao, m, c', hin, hi30, rfl, V, J, O, B⟩ := hrel
    by_cases hgo : i < n ∧ i < 30
    · have j1 : (i : Int) < (n : Int) := by omega
      have j2 : (i : Int) < 30 := by omega
      have i0 : (0 : Int) ≤ (i : Int) := by omega
      obtain ⟨b, off, cc, q, bo, l, d, f, hvv, hcc, e0, e1, hraw, hz⟩ := (HV.out.below B).at i hgo.1
      cases hvv
      have HZ : Hid (z i = zof q (num f (min l 10))) := hz
      clear hz
      go_wp2_with fail
      refine (wfew_any _ _ _ 10 _ _ hraw (by omega)).mono ?_
      rintro e w4 ⟨ao4, c4, rfl, hu4, uf4, b4⟩
      have hl10 : min l 10 ≤ 10 := Nat.min_le_right _ _
      have X4 : IntAt w4 (.agg #[.bool q, .slice ao4 (min l 10) c4]) (z i) 10 := by rw [HZ.out]; exact IntAt.of_few hu4 uf4 hl10
      generalize min l 10 = l4 at *
      obtain ⟨us, el', o1, o2, o3, o4⟩ := O
      have hul : us.length = i * 2 := o1.1
      have HO3 : Hid (∀ i', i' < i → ∀ j, j < 2 → us[i' * 2 + j]? = some (el' i' j)) := o3
      have HO4 : Hid (∀ i', i' < i → IntAt wr (.agg #[el' i' 0, el' i' 1]) (z i') 10) := o4
      have hwr : R3 + 1 ≤ wr.heap.size := V.lt
      have b4' : Below wr.heap.size wr (w4.alloc (.cells #[.bool q, .slice ao4 l4 c4] 31)) := b4.alloc b4.size _
      have hPO : Hid (∀ g0, Value.ownBlock u3 = some g0 → PureB IsNum (w4.alloc (.cells #[.bool q, .slice ao4 l4 c4] 31)) g0) := fun g0 hg0 => (o2 g0 hg0).below b4' (o1.lt g0 hg0).2
      have hlt : Hid (∀ g0, Value.ownBlock u3 = some g0 → R3 + 1 ≤ g0) := fun g0 hg0 => (o1.lt g0 hg0).1
      clear o2 o3 o4
      go_wp2_with (at_builtin; refine wpList_append_pure (Q' := IsNum) rfl _ _ _ rfl (R3 + 1) 31 (.agg #[.bool false, .slice none 0 0]) 2 32 Try.underlying22 info_wint rfl (by omega) u3 rfl i us ((owns_later o1 b4).alloc _) hPO.out ⟨w4.heap.size, 0, none⟩ 1 rfl [.bool q, .slice ao4 l4 c4] rfl (news_block (heap_alloc_new _ _)) (by simp [Value.oneCell']) (by simp [num_slice, num_bool]) (by simp [Value.cells, num_slice, num_bool]) (by omega) (by omega) (by have := b4'.size; simp at this ⊢; omega) ?_)
      intro g5 cap5 w5 ho5 hg5 hat5 hp5 hk5
      have E5 : IOwn (R3 + 1) w5 (.slice (some ⟨g5, 0, none⟩) (i + 1) cap5) (i + 1) z 10 := IOwn.more ho5 hp5 hul HO3.out (fun i' hi' => (HO4.out i' hi').below b4') (X4.below ((Below.refl _ _).alloc (Nat.le_refl _) _)) hk5
      have B4 := B.trans (b4'.mono B.size)
      have B5 : Below w.heap.size w w5 := below_grownB B4 hg5 (by have := B4.size; omega) (fun g0 hg0 => by have := hlt.out g0 hg0; omega)
      have V5 := (V.below b4').grown hg5 (fun e => by have := hlt.out R3 e.symm; omega)
      have J5 := (J.below b4').keep hk5
      clear o1 hPO hlt HO3 HO4 hu4 uf4 b4 b4' X4 ho5 hg5 hat5 hp5 hk5 V J B B4 e0 e1 hraw HZ
      obtain ⟨b', off', cc', q', bo', l', d', f', hvv, hcc', e0, e1, hraw, hz⟩ := (HV.out.below B5).at i hgo.1
      cases hvv
      have HZ : Hid (z i = zof q' (num f' (min l' 10))) := hz
      clear hz
      have hd : Below w5.heap.size w5 w5.drew := (Below.refl _ _).drew
      have V6 := V5.below hd
      have J6 := J5.below hd
      have E6 := E5.below hd
      have B6 := B5.drew
      have R6 := hraw.below hd
      obtain ⟨v1, v2, v3, v4⟩ := V6
      have V6' : V2 w5.drew R3 (.bool p) (.slice ao m c') := ⟨v1, v2, v3, v4⟩
      have lj : nl W32 (sumz z i).natAbs ≤ 1000 := by
        obtain ⟨_, h4⟩ := (IOwn.row E5)
        exact Nat.le_trans (nl_sumz z 10 i (fun i' hi' => (h4.2 i' (by omega)).nl)) (by omega)
      have lz : nl W32 (z i).natAbs ≤ 10 := by
        obtain ⟨_, h4⟩ := (IOwn.row E5)
        exact (h4.2 i (by omega)).nl
      clear V5 J5 E5 B5 hraw hd
      go_wp2
      go_region_with (first
        | (go_at_call 6; refine (wfew_any _ _ _ 10 _ _ R6 (by omega)).mono ?_; rintro e w7 ⟨ao7, c7, rfl, hu7, uf7, b7⟩; have X7 : IntAt w7 (.agg #[.bool q', .slice ao7 (min l' 10) c7]) (z i) 10 := (by rw [HZ.out]; exact IntAt.of_few hu7 uf7 (Nat.min_le_right _ _)); obtain ⟨y1, y2, y3, y4⟩ := V6'.below b7)
        | (go_at_call 8; refine (rfrom_any _ _ _ _ X7 (by omega)).mono ?_; rintro e w8 ⟨r8, rfl, hr8, b8⟩; obtain ⟨y5, y6, y7, y8⟩ := (V6'.below b7).below b8)
        | (go_at_call 7; refine (rplus_any _ _ _ _ _ ((J6.below b7).below b8) hr8 (nlj lj (by omega)) (nlj lz (by omega))).mono ?_; rintro e w9 ⟨r9, rfl, hr9, b9⟩; obtain ⟨p9, ao9, n9, c9, rfl⟩ := hr9.open; obtain ⟨y9, y10, y11, y12⟩ := ((V6'.below b7).below b8).below b9))
      all_goals
        have V9 : V2 w9 R3 (.bool p) (.slice ao m c') := ⟨y9, y10, y11, y12⟩
        have B7 := B6.trans (b7.mono B6.size)
        have B8 := B7.trans (b8.mono B7.size)
        have B9 := B8.trans (b9.mono B8.size)
        have K9 := V9.keepJ (.bool p9) (.slice ao9 n9 c9)
        have J10 : RepJ _ _ (sumz z (i + 1)) := hr9.keep K9
        have V10 := V9.same (.bool p9) (.slice ao9 n9 c9)
        have B10 := below_store2 B9 hR3 (.bool p9) (.slice ao9 n9 c9)
        have E10 := (((E6.below b7).below b8).below b9).other (grown_set2 w9 R3 (.bool p9) (.slice ao9 n9 c9)) K9 (fun g hg => by cases hg; omega)
        clear V6' J6 E6 B6 R6 X7 b7 b8 b9 hr8 hr9 B7 B8 B9 K9 V9
        go_wp2
        go_roundw
        case rel => exact ⟨i + 1, p9, ao9, n9, c9, by omega, by omega, by go_num, V10, J10, E10, B10⟩
        case measure => simp [intOf]; omega
    · have hend : Hid True := trivial
      have hd : Below wr.heap.size wr wr.drew := (Below.refl _ _).drew
      have V6 := V.below hd
      have J6 := J.below hd
      have E6 := O.row.below hd
      have B6 := B.drew
      have lj : nl W32 (sumz z i).natAbs ≤ 1000 := by
        obtain ⟨_, h4⟩ := O.row
        exact Nat.le_trans (nl_sumz z 10 i (fun i' hi' => (h4.2 i' (by omega)).nl)) (by omega)
      have S0 := And.intro V6.1 V6.2.1
      clear V J O B hd V6
      by_cases hin' : i < n
      · have j1 : (i : Int) < (n : Int) := by omega
        have j2 : ¬ (i : Int) < 30 := by omega
        go_wp2
        go_region_held3 (fun w' => w'.cell? ⟨R3, 0, none⟩ = some (.bool p) ∧ w'.cell? ⟨R3, 1, none⟩ = some (.slice ao m c')) (first | exact S0 | exact keep2 (by assumption) (by exact Nat.le_refl _) (by assumption)) (first
          | (go_at_call 10; refine (isum_any _ _ _ _ _ E6 (by omega) (by omega)).mono ?_; rintro e y1 ⟨r1, rfl, hr1, k1⟩)
          | (go_at_call 9; refine (ris_rep _ _ _ _ hr1 lj (J6.below k1)).mono ?_; rintro e y2 ⟨rfl, k2⟩)
          | (go_at_call 11; refine (wawake_any _).mono ?_; rintro e y3 ⟨rfl, k3⟩))
        go_wp2
        go_ret
        have Y1 := B6.trans (k1.mono B6.size)
        have Y2 := Y1.trans (k2.mono Y1.size)
        exact ⟨rfl, Y2.trans (k3.mono Y2.size)⟩
      · have j1 : ¬ (i : Int) < (n : Int) := by omega
        go_wp2
        go_region_held3 (fun w' => w'.cell? ⟨R3, 0, none⟩ = some (.bool p) ∧ w'.cell? ⟨R3, 1, none⟩ = some (.slice ao m c')) (first | exact S0 | exact keep2 (by assumption) (by exact Nat.le_refl _) (by assumption)) (first
          | (go_at_call 10; refine (isum_any _ _ _ _ _ E6 (by omega) (by omega)).mono ?_; rintro e y1 ⟨r1, rfl, hr1, k1⟩)
          | (go_at_call 9; refine (ris_rep _ _ _ _ hr1 lj (J6.below k1)).mono ?_; rintro e y2 ⟨rfl, k2⟩)
          | (go_at_call 11; refine (wawake_any _).mono ?_; rintro e y3 ⟨rfl, k3⟩))
        go_wp2
        go_ret
        have Y1 := B6.trans (k1.mono B6.size)
        have Y2 := Y1.trans (k2.mono Y1.size)
        exact ⟨rfl, Y2.trans (k3.mono Y2.size)⟩

theorem own : ownKnob Try.prog.godebug = none := by kernel_rfl
theorem laidOut : laidOutB Try.prog = true := by kernel_rfl

set_option maxRecDepth 100000 in
theorem lifted (os : Os) (started : os.Started) (H : Type) (enc : TypeId × Value → H) :
    ReturnsInHanded {} Try.checked os 3 .any (Rows.wholeAllSpec.pre6 enc Try.prog Try.f3 Rows.wholeAllRow.domain false) (Rows.wholeAllSpec.post enc Try.prog Try.f3 false true false false) := by
  refine returnsInHanded_of_change (C := Try.checked) own started (by kernel_rfl) Try.func3
    (ChangeSpec.witness6 (enc := enc) (C := Try.checked) false ⟨#[], #[.slice none 0 0], []⟩ 8 (by kernel_rfl) (by kernel_rfl) (by kernel_rfl) (by kernel_rfl)) ?_
  intro W base args ds gs before hval0 hW hcnd _
  have hval : ∀ (j : Nat) t v, Try.f3.params[j]? = some t → args[j]? = some v → Value.okWide Try.prog W .any base t v := hval0
  have hW' := hW
  obtain ⟨p, q, hA0, hV, rfl, hfz, hnd⟩ := hW
  have hA : DataW.TrodAll enc Try.prog W 0 (fun _ => true) true Try.f3.params.toList args.toList ds p := hA0
  rw [Try.params3] at hA hval
  obtain ⟨v0, vs0, d0, ds0, p0, q0, hargs, rfl, rfl, h0, r0⟩ := trodAll_cons hA
  obtain ⟨rfl, rfl, rfl⟩ := trodAll_nil r0
  obtain rfl : args = #[v0] := by cases args; simp_all
  obtain ⟨rfl, rfl⟩ := trodVars_none hV
  have k0 := h0
  have lt0 : ∀ x ∈ p0, x.block < W.heap.size := by obtain ⟨m, hm⟩ := k0; exact DataW.trod_lt m _ _ _ hm
  obtain ⟨n0, z0, w0⟩ := open_wints KLIST (hval 0 22 v0 rfl rfl) h0
  clear hA0 hval0
  refine (walk _ _ _ W w0).mono fun e W' ⟨he, bel⟩ => ?_
  subst he
  exact ⟨_, rfl, _, _, _, [], _, [], hW', trodAll_mk1 (shut_bool Try.underlying4 _), (trodAll_cons_mk (Below.trod laidOut (by kernel_rfl) (of_decide_eq_true (by kernel_rfl)) k0 bel lt0) trodAll_mk0), rfl, bel.frame _, fun h => by cases h⟩

theorem over : Rows.wholeAllRow.holds Try.pinned (OpenSpec.ofChange Rows.wholeAllSpec) :=
  OpenClaim.holds_of_wide 3 Try.f3 rfl rfl rfl rfl rfl rfl rfl ⟨rfl, rfl, rfl, rfl, rfl⟩ rfl rfl rfl rfl rfl (by kernel_rfl) Try.func3 (by kernel_rfl)
    (of_decide_eq_true (by kernel_rfl)) (by unfold Func.isWrapper; first | (rw [if_pos (by decide +kernel)]; kernel_rfl) | (rw [if_neg (by decide +kernel)]; exact ⟨rfl, rfl⟩))
    (fun os started H enc _ => lifted os started H enc)

end Go.Proofs.Ytlegcekklknjhaa.wholeAll
namespace Go.Proofs.Ytlegcekklknjhaa
/-- The statement. -/
theorem wholeAll_holds : Rows.WholeAllSaid := wholeAll.over
end Go.Proofs.Ytlegcekklknjhaa
