/-
  Proves that Print answers any whole number's text, as the document's own Text does, and that Parse reads the number again, of up to 20 limbs, whatever comes in (the statement WholeTexts); no condition.
-/
import Derived.Test.YtbnjogbbjoinnabRows
import Derived.Test.YtbnjogbbjoinnabWText
import Derived.Test.YtbnjogbbjoinnabWMem
import Derived.Test.YtbnjogbbjoinnabWOpen
import Derived.WalkKit
import Derived.ProofKit
import Derived.OpenShut
import Derived.ShutString
import Derived.ChangeOld
import Derived.Below
namespace Go.Proofs.Ytbnjogbbjoinnab.wholeTexts
open Go.ChangeShapes Go.WideShapes Go.ChangeAt Go.RowKit
open Go.ChangeMaps (open_string shut_string)
set_option linter.unusedVariables false
set_option linter.unusedSimpArgs false

theorem lt_ndec (x : Nat) : x < 10 ^ ndec x := by
  unfold ndec
  have h := lt_pow_nl 10 x (by decide)
  split
  · rename_i h0
    rw [h0] at h
    omega
  · exact h
theorem ndec_pos (x : Nat) : 0 < ndec x := by
  unfold ndec
  split
  · omega
  · omega
theorem txt_byte (x i : Nat) (h : i < ndec x) : ((txt x).data.toList.getD i 0).toNat = 48 + x / 10 ^ (ndec x - 1 - i) % 10 := by
  unfold txt
  rw [strOfNums_data]
  have e : ((decs x (ndec x)).map fun n => UInt8.ofNat n.toNat)[i]? = some (UInt8.ofNat (dd x (ndec x - 1 - i)).toNat) := by
    simp [decs, h]
  rw [List.getD, e]
  have hd : (dd x (ndec x - 1 - i)).toNat = 48 + x / 10 ^ (ndec x - 1 - i) % 10 := by unfold dd; omega
  simp only [Option.getD_some]
  rw [hd, UInt8.toNat_ofNat_of_lt']
  show _ < 256
  omega
theorem txt_digits (x : Nat) : digitsB (txt x) = true := by
  have hs := txt_size x
  simp only [digitsB, decide_eq_true_eq]
  refine ⟨by rw [hs]; exact ndec_pos x, fun i hi => ?_⟩
  rw [hs] at hi
  unfold isDig
  rw [txt_byte x i hi]
  omega
theorem txt_dval (x : Nat) : ∀ n, n ≤ ndec x → dval (txt x) n = x / 10 ^ (ndec x - n) := by
  intro n
  induction n with
  | zero => exact fun _ => by rw [Nat.sub_zero, Nat.div_eq_of_lt (lt_ndec x)]; rfl
  | succ n ih =>
    intro h
    simp only [dval]
    rw [ih (by omega), txt_byte x n (by omega)]
    have e : 10 ^ (ndec x - n) = 10 ^ (ndec x - (n + 1)) * 10 := by rw [← Nat.pow_succ]; congr 1; omega
    rw [e, ← Nat.div_div_eq_div_mul, show ndec x - 1 - n = ndec x - (n + 1) by omega]
    generalize x / 10 ^ (ndec x - (n + 1)) = y
    omega
theorem txt_read (x : Nat) : dval (txt x) (txt x).size = x := by
  rw [txt_size, txt_dval x _ (Nat.le_refl _), Nat.sub_self, Nat.pow_zero, Nat.div_one]
theorem minus_data (T : ByteArray) : (({ data := #[45] } : ByteArray) ++ T).data.toList = 45 :: T.data.toList := by
  rw [ByteArray.data_append, Array.toList_append]; rfl
theorem minus_size (T : ByteArray) : (({ data := #[45] } : ByteArray) ++ T).size = T.size + 1 := by
  rw [ByteArray.size_append]; show 1 + T.size = _; omega
theorem minus_cut (T : ByteArray) : (({ data := #[45] } : ByteArray) ++ T).extract 1 (({ data := #[45] } : ByteArray) ++ T).size = T := by
  have h : ((({ data := #[45] } : ByteArray) ++ T).extract 1 (({ data := #[45] } : ByteArray) ++ T).size).data.toList = T.data.toList := by
    rw [ByteArray.data_extract, Array.toList_extract, minus_data, minus_size]
    have hl : T.data.toList.length = T.size := by simp
    show List.take (T.size + 1 - 1) T.data.toList = _
    rw [Nat.add_sub_cancel, ← hl, List.take_length]
  exact ByteArray.ext (Array.toList_inj.1 h)
theorem ztxt_pneg (z : Int) : pneg (ztxt z) = decide (z < 0) := by
  by_cases h : z < 0
  · rw [decide_eq_true h]
    unfold ztxt; rw [if_pos h]
    unfold pneg; rw [minus_data, minus_size]; simp
  · rw [decide_eq_false h]
    unfold ztxt; rw [if_neg h]
    unfold pneg
    have hs := txt_size z.natAbs
    have hp := ndec_pos z.natAbs
    have hb := txt_byte z.natAbs 0 hp
    have hne : ((txt z.natAbs).data.toList.getD 0 0 == 45) = false := by
      rw [beq_eq_false_iff_ne]; intro e
      rw [e] at hb; simp at hb; omega
    rw [hne, Bool.and_false]
theorem ztxt_pdig (z : Int) : pdig (ztxt z) = txt z.natAbs := by
  by_cases h : z < 0
  · rw [pdig_pos (by rw [ztxt_pneg]; exact decide_eq_true h)]
    unfold ztxt; rw [if_pos h]; exact minus_cut _
  · rw [pdig_neg (by rw [ztxt_pneg]; exact decide_eq_false h)]
    unfold ztxt; rw [if_neg h]

set_option maxRecDepth 20000 in
set_option maxHeartbeats 4000000 in
theorem walk (p : Bool) (s : Value) (n0 : Nat) (f : Nat → Int) (w : World) (hs0 : Raw w s n0 f) :
    Calls Try.prog 4 #[.agg #[.bool p, s]] w fun e w' => e = .returned (.bool true) ∧ Below w.heap.size w w' := by
  have hs := hs0
  obtain ⟨ao0, c0, rfl, _⟩ := hs0
  have hA : ∀ o, Below w.heap.size w (w.alloc o) := fun o => (Below.refl _ _).alloc (Nat.le_refl _) _
  have r0 := resW w 26 (.bool p) (.slice ao0 n0 c0)
  go_enter Try.func4, Try.ntmps4
  go_wp2_with fail
  refine (wfew_any _ _ _ 20 _ _ (hs.below (hA _)) (by omega)).mono ?_
  rintro e w1 ⟨ao, c, rfl, hu, uf, hb1⟩
  have hn : min n0 20 ≤ 20 := Nat.min_le_right _ _
  generalize min n0 20 = n at *
  have B1 : Below w.heap.size w w1 := (hA _).trans (hb1.mono (by simp))
  obtain ⟨a1, a2, a3, a4⟩ := keepW hb1 (by simp) r0
  have A0 := put2_same (x' := .bool p) (y' := .slice ao n c) ⟨a1, a2, a3, a4⟩
  have N1 := hu.store2 a1 a2 (.bool p) (.slice ao n c)
  have I1 : IntAt ((w1.setCell ⟨w.heap.size, 0, none⟩ (.bool p)).setCell ⟨w.heap.size, 1, none⟩ (.slice ao n c)) (.agg #[.bool p, .slice ao n c]) (zof p (num f n)) 20 := ⟨_, _, _, _, _, rfl, N1, uf, rfl, hn⟩
  have B1' := below_store2 (R := w.heap.size) B1 (Nat.le_refl _) (.bool p) (.slice ao n c)
  clear r0
  go_wp2_with fail
  clear a1 a2 a3 a4 hs hb1 hu B1 N1
  generalize (w1.setCell ⟨w.heap.size, 0, none⟩ (.bool p)).setCell ⟨w.heap.size, 1, none⟩ (.slice ao n c) = W1 at *
  generalize hx : zof p (num f n) = x at *
  refine (rfrom_any _ _ _ _ I1 (by omega)).mono ?_
  rintro e w2 ⟨vx, rfl, hx2, hb2⟩
  obtain ⟨px, aox, nx, cx, rfl⟩ := hx2.open
  have HA2 : Below w2.heap.size w2 (w2.alloc (.cells #[.bool px, .slice aox nx cx] 35)) := (Below.refl _ _).alloc (Nat.le_refl _) _
  have B2 : Below w.heap.size w w2 := B1'.trans (hb2.mono B1'.size)
  have B2' := B2.trans (HA2.mono B2.size)
  obtain ⟨g1, g2, _, _⟩ := keepW HA2 (Nat.le_refl _) (keepW hb2 (Nat.le_refl _) A0)
  have C1 := resW w2 35 (.bool px) (.slice aox nx cx)
  have I2 := (I1.below hb2).below HA2
  have J2 := hx2.below HA2
  clear A0 I1 hx2 B1' B2 HA2
  go_wp2_with fail
  clear hb2
  generalize w2.heap.size = RX at *
  generalize w2.alloc (.cells #[.bool px, .slice aox nx cx] 35) = W2 at *
  have lx := I2.nl
  refine (wprint_any _ _ _ _ I2 (by omega)).mono ?_
  rintro e w3 ⟨rfl, hb3⟩
  have C2 := keepW hb3 (Nat.le_refl _) C1
  have J3 := J2.below hb3
  have B3 := B2'.trans (hb3.mono B2'.size)
  clear C1 J2 I2 g1 g2 B2' hx
  have hsz : (pdig (ztxt x)).size ≤ 10000 := by
    rw [ztxt_pdig, txt_size]; have := ndec_le x.natAbs 20 (abs_lt_pow lx); omega
  have hd : digitsB (pdig (ztxt x)) = true := by rw [ztxt_pdig]; exact txt_digits _
  have hv : zof (pneg (ztxt x)) (dval (pdig (ztxt x)) (pdig (ztxt x)).size) = x := by
    rw [ztxt_pneg, ztxt_pdig, txt_read]; exact zof_self x
  go_wp2_with fail
  refine (wparse_yes _ _ hd hsz).mono ?_
  rw [hv]
  rintro e w4 ⟨vr, rfl, hr4, hb4⟩
  obtain ⟨pr, aor, nr, cr, rfl⟩ := hr4.open
  have HA4 : Below w4.heap.size w4 (w4.alloc (.cells #[.bool pr, .slice aor nr cr] 26)) := (Below.refl _ _).alloc (Nat.le_refl _) _
  have B4 := B3.trans (hb4.mono B3.size)
  have B4' := B4.trans (HA4.mono B4.size)
  obtain ⟨g1, g2, _, _⟩ := keepW HA4 (Nat.le_refl _) (keepW hb4 (Nat.le_refl _) C2)
  obtain ⟨g3, g4, _, _⟩ := resW w4 26 (.bool pr) (.slice aor nr cr)
  have J4 := (J3.below hb4).below HA4
  have R4 := hr4.below HA4
  clear C2 J3 hr4 B3 B4 HA4 hv hd hsz
  generalize hT : ztxt x = T at *
  go_wp2_with fail
  clear hb4
  generalize w4.heap.size = RR at *
  generalize w4.alloc (.cells #[.bool pr, .slice aor nr cr] 26) = W4 at *
  refine (rtext_any _ _ _ J4 (Nat.le_trans (nl10_le _ _ lx) (by omega))).mono ?_
  rintro e w5 ⟨rfl, hb5⟩
  rw [hT]
  obtain ⟨g5, g6⟩ := keep2 hb5 (Nat.le_refl _) ⟨g1, g2⟩
  obtain ⟨g7, g8⟩ := keep2 hb5 (Nat.le_refl _) ⟨g3, g4⟩
  have B5 := B4'.trans (hb5.mono B4'.size)
  clear g1 g2 g3 g4
  go_wp2_with fail
  refine (ris_rep _ _ _ _ (R4.below hb5) (by omega) (J4.below hb5)).mono ?_
  rintro e w6 ⟨rfl, hb6⟩
  have B6 := B5.trans (hb6.mono B5.size)
  go_wp2_with fail
  refine (wawake_any _).mono ?_
  rintro e w7 ⟨rfl, hb7⟩
  go_wp2
  go_ret
  exact ⟨rfl, B6.trans (hb7.mono B6.size)⟩

theorem own : ownKnob Try.prog.godebug = none := by kernel_rfl
theorem laidOut : laidOutB Try.prog = true := by kernel_rfl

set_option maxRecDepth 100000 in
theorem lifted (os : Os) (started : os.Started) (H : Type) (enc : TypeId × Value → H) :
    ReturnsInHanded {} Try.checked os 4 .any (Rows.wholeTextsSpec.pre6 enc Try.prog Try.f4 Rows.wholeTextsRow.domain false) (Rows.wholeTextsSpec.post enc Try.prog Try.f4 false true false false) := by
  refine returnsInHanded_of_change (C := Try.checked) own started (by kernel_rfl) Try.func4
    (ChangeSpec.witness6 (enc := enc) (C := Try.checked) false ⟨#[], #[.agg #[.bool false, .slice none 0 0]], []⟩ 8 (by kernel_rfl) (by kernel_rfl) (by kernel_rfl) (by kernel_rfl)) ?_
  intro W base args ds gs before hval0 hW hcnd _
  have hval : ∀ (j : Nat) t v, Try.f4.params[j]? = some t → args[j]? = some v → Value.okWide Try.prog W .any base t v := hval0
  have hW' := hW
  obtain ⟨p, q, hA0, hV, rfl, hfz, hnd⟩ := hW
  have hA : DataW.TrodAll enc Try.prog W 0 (fun _ => true) true Try.f4.params.toList args.toList ds p := hA0
  rw [Try.params4] at hA hval
  obtain ⟨v0, vs0, d0, ds0, p0, q0, hargs, rfl, rfl, h0, r0⟩ := trodAll_cons hA
  obtain ⟨rfl, rfl, rfl⟩ := trodAll_nil r0
  obtain rfl : args = #[v0] := by cases args; simp_all
  obtain ⟨rfl, rfl⟩ := trodVars_none hV
  have k0 := h0
  have lt0 : ∀ x ∈ p0, x.block < W.heap.size := by obtain ⟨m, hm⟩ := k0; exact DataW.trod_lt m _ _ _ hm
  obtain ⟨neg0, ao0, n0, c0, f0, rfl, w0⟩ := open_wint (hval 0 26 v0 rfl rfl) h0
  clear hA0 hval0
  refine (walk _ _ _ _ W w0).mono fun e W' ⟨he, bel⟩ => ?_
  subst he
  exact ⟨_, rfl, _, _, _, [], _, [], hW', trodAll_mk1 (shut_bool Try.underlying4 _), (trodAll_cons_mk (Below.trod laidOut (by kernel_rfl) (of_decide_eq_true (by kernel_rfl)) k0 bel lt0) trodAll_mk0), rfl, bel.frame _, fun h => by cases h⟩

theorem over : Rows.wholeTextsRow.holds Try.pinned (OpenSpec.ofChange Rows.wholeTextsSpec) :=
  OpenClaim.holds_of_wide 4 Try.f4 rfl rfl rfl rfl rfl rfl rfl ⟨rfl, rfl, rfl, rfl, rfl⟩ rfl rfl rfl rfl rfl (by kernel_rfl) Try.func4 (by kernel_rfl)
    (of_decide_eq_true (by kernel_rfl)) (by unfold Func.isWrapper; first | (rw [if_pos (by decide +kernel)]; kernel_rfl) | (rw [if_neg (by decide +kernel)]; exact ⟨rfl, rfl⟩))
    (fun os started H enc _ => lifted os started H enc)

end Go.Proofs.Ytbnjogbbjoinnab.wholeTexts
namespace Go.Proofs.Ytbnjogbbjoinnab
/-- The statement. -/
theorem wholeTexts_holds : Rows.WholeTextsSaid := wholeTexts.over
end Go.Proofs.Ytbnjogbbjoinnab
