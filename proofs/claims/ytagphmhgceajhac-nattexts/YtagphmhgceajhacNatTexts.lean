/-
  Proves that Print answers a number's decimal digits, as the document's own Text does, that Digits counts them and that Parse reads the number again, of up to 30 limbs, whatever limbs come in (the statement NatTexts); no condition.
-/
import Derived.Test.YtagphmhgceajhacRows
import Derived.Test.YtagphmhgceajhacLaw
import Derived.Test.YtagphmhgceajhacRefText
import Derived.Test.YtagphmhgceajhacParse
import Derived.WalkKit
import Derived.ProofKit
import Derived.OpenShut
import Derived.ShutString
import Derived.ChangeOld
import Derived.Below
namespace Go.Proofs.Ytagphmhgceajhac.natTexts
open Go.ChangeShapes Go.WideShapes Go.ChangeAt Go.RowKit
open Go.ChangeMaps (open_string shut_string)
set_option linter.unusedVariables false

theorem lt_ndec (x : Nat) : x < 10 ^ ndec x := by
  unfold ndec
  have h := lt_pow_nl 10 x (by decide)
  split
  · rename_i h0
    rw [h0] at h
    omega
  · exact h
theorem ndec_pos (x : Nat) : 0 < ndec x := by
  unfold ndec
  split
  · omega
  · omega
theorem txt_byte (x i : Nat) (h : i < ndec x) : ((txt x).data.toList.getD i 0).toNat = 48 + x / 10 ^ (ndec x - 1 - i) % 10 := by
  unfold txt
  rw [strOfNums_data]
  have e : ((decs x (ndec x)).map fun n => UInt8.ofNat n.toNat)[i]? = some (UInt8.ofNat (dd x (ndec x - 1 - i)).toNat) := by
    simp [decs, h]
  rw [List.getD, e]
  have hd : (dd x (ndec x - 1 - i)).toNat = 48 + x / 10 ^ (ndec x - 1 - i) % 10 := by unfold dd; omega
  simp only [Option.getD_some]
  rw [hd, UInt8.toNat_ofNat_of_lt']
  show _ < 256
  omega
theorem txt_digits (x : Nat) : digitsB (txt x) = true := by
  have hs := txt_size x
  simp only [digitsB, decide_eq_true_eq]
  refine ⟨by rw [hs]; exact ndec_pos x, fun i hi => ?_⟩
  rw [hs] at hi
  unfold isDig
  rw [txt_byte x i hi]
  omega
theorem txt_dval (x : Nat) : ∀ n, n ≤ ndec x → dval (txt x) n = x / 10 ^ (ndec x - n) := by
  intro n
  induction n with
  | zero => exact fun _ => by rw [Nat.sub_zero, Nat.div_eq_of_lt (lt_ndec x)]; rfl
  | succ n ih =>
    intro h
    simp only [dval]
    rw [ih (by omega), txt_byte x n (by omega)]
    have e : 10 ^ (ndec x - n) = 10 ^ (ndec x - (n + 1)) * 10 := by rw [← Nat.pow_succ]; congr 1; omega
    rw [e, ← Nat.div_div_eq_div_mul, show ndec x - 1 - n = ndec x - (n + 1) by omega]
    generalize x / 10 ^ (ndec x - (n + 1)) = y
    omega
theorem txt_read (x : Nat) : dval (txt x) (txt x).size = x := by
  rw [txt_size, txt_dval x _ (Nat.le_refl _), Nat.sub_self, Nat.pow_zero, Nat.div_one]
theorem ndec_le (x n : Nat) (h : x < 10 ^ n) (hn : 0 < n) : ndec x ≤ n := by
  unfold ndec
  split
  · omega
  · exact nl_le 10 x n (by decide) h
theorem ndec_small (x n : Nat) (hx : x < W32 ^ n) (hn : n ≤ 30) : ndec x ≤ 301 := by
  have h2 : W32 ^ n ≤ (10 ^ 10) ^ n := Nat.pow_le_pow_left (by decide) n
  rw [← Nat.pow_mul] at h2
  have h3 : 10 ^ (10 * n) ≤ 10 ^ (10 * n + 1) := Nat.pow_le_pow_right (by omega) (by omega)
  have := ndec_le x (10 * n + 1) (by omega) (by omega)
  omega

set_option maxHeartbeats 2000000 in
theorem walk (u : Value) (n0 : Nat) (f : Nat → Int) (w : World) (hu0 : Raw w u n0 f) :
    Calls Try.prog 3 #[u] w fun e w' => e = .returned (.bool true) ∧ Below w.heap.size w w' := by
  go_enter Try.func3, Try.ntmps3
  go_wp2_with fail
  refine (few_any _ _ 30 _ _ hu0 (by omega)).mono ?_
  rintro e w' ⟨u1, rfl, hu, uf, _, rfl⟩
  have hn : min n0 30 ≤ 30 := Nat.min_le_right _ _
  generalize min n0 30 = n at *
  clear hu0
  have hbx := nl_num f n (by omega)
  have hxn := nl_le W32 (num f n) n (by decide) (num_lt f n)
  have hsm := ndec_small (num f n) n (num_lt f n) hn
  have hsz := txt_size (num f n)
  have hdg := txt_digits (num f n)
  have hrd := txt_read (num f n)
  have hPR := fun w1 (h : Nums .u64 w1 u1 n f) => print_any u1 n f w1 h uf (by omega)
  have hDG := fun w1 (h : Nums .u64 w1 u1 n f) => digits_any u1 n f w1 h uf (by omega)
  have hFR := fun w1 (h : Nums .u64 w1 u1 n f) => from_any u1 n f w1 h uf (by omega)
  have hTX := fun r w1 (h : RepD w1 r (num f n)) => refText_any r (num f n) w1 h (by omega)
  have hPA := fun w1 => parse_yes (txt (num f n)) w1 (by rw [hsz]; omega) hdg
  rw [hrd] at hPA
  generalize num f n = x at *
  generalize hT : txt x = T at *
  generalize ndec x = d at *
  have hTs : ((d : Int) == (T.size : Int)) = true := by simp; omega
  clear hrd hdg hT
  go_wp2_with fail
  refine (hFR _ hu).mono ?_
  rintro e w1 ⟨r1, rfl, hr1, hb1⟩
  have hu1 := hu.below hb1
  go_wp2_with fail
  refine (hPR _ hu1).mono ?_
  rintro e w2 ⟨rfl, hb2⟩
  have B2 : Below w'.heap.size w' w2 := hb1.trans (hb2.mono hb1.size)
  have hu2 := hu1.below hb2
  have hr2 := Nums.below hr1 hb2
  go_wp2_with fail
  refine (hPA _).mono ?_
  rintro e w3 ⟨v3, rfl, hv3, hb3⟩
  have B3 : Below w'.heap.size w' w3 := B2.trans (hb3.mono B2.size)
  have hu3 := hu2.below hb3
  have hr3 := Nums.below hr2 hb3
  go_wp2_with fail
  refine (hTX _ _ hr3).mono ?_
  rintro e w4 ⟨rfl, hb4⟩
  have B4 : Below w'.heap.size w' w4 := B3.trans (hb4.mono B3.size)
  have hu4 := hu3.below hb4
  have hr4 := Nums.below hr3 hb4
  have hv4 := Nums.below hv3.rep hb4
  go_wp2_with fail
  refine (hDG _ hu4).mono ?_
  rintro e w5 ⟨rfl, hb5⟩
  have B5 : Below w'.heap.size w' w5 := B4.trans (hb5.mono B4.size)
  have hr5 := Nums.below hr4 hb5
  have hv5 := Nums.below hv4 hb5
  go_wp2_with fail
  refine (is_rep _ _ _ _ _ hv5 (by omega) hr5 rfl).mono ?_
  rintro e w6 ⟨rfl, hb6⟩
  have B6 : Below w'.heap.size w' w6 := B5.trans (hb6.mono B5.size)
  go_wp2_with fail
  refine (awake_any _).mono ?_
  rintro e w7 ⟨rfl, hb7⟩
  go_wp2
  go_ret
  exact ⟨rfl, B6.trans (hb7.mono B6.size)⟩

theorem own : ownKnob Try.prog.godebug = none := by kernel_rfl
theorem laidOut : laidOutB Try.prog = true := by kernel_rfl

set_option maxRecDepth 100000 in
theorem lifted (os : Os) (started : os.Started) (H : Type) (enc : TypeId × Value → H) :
    ReturnsInHanded {} Try.checked os 3 .any (Rows.natTextsSpec.pre6 enc Try.prog Try.f3 Rows.natTextsRow.domain false) (Rows.natTextsSpec.post enc Try.prog Try.f3 false true false false) := by
  refine returnsInHanded_of_change (C := Try.checked) own started (by kernel_rfl) Try.func3
    (ChangeSpec.witness6 (enc := enc) (C := Try.checked) false ⟨#[], #[.slice none 0 0], []⟩ 8 (by kernel_rfl) (by kernel_rfl) (by kernel_rfl) (by kernel_rfl)) ?_
  intro W base args ds gs before hval0 hW hcnd _
  have hval : ∀ (j : Nat) t v, Try.f3.params[j]? = some t → args[j]? = some v → Value.okWide Try.prog W .any base t v := hval0
  have hW' := hW
  obtain ⟨p, q, hA0, hV, rfl, hfz, hnd⟩ := hW
  have hA : DataW.TrodAll enc Try.prog W 0 (fun _ => true) true Try.f3.params.toList args.toList ds p := hA0
  rw [Try.params3] at hA hval
  obtain ⟨v0, vs0, d0, ds0, p0, q0, hargs, rfl, rfl, h0, r0⟩ := trodAll_cons hA
  obtain ⟨rfl, rfl, rfl⟩ := trodAll_nil r0
  obtain rfl : args = #[v0] := by cases args; simp_all
  obtain ⟨rfl, rfl⟩ := trodVars_none hV
  obtain ⟨a0, len0, cap0, rfl⟩ := okWide_slice Try.underlying23 (hval 0 23 v0 rfl rfl)
  have k0 := h0
  have lt0 : ∀ x ∈ p0, x.block < W.heap.size := by obtain ⟨m, hm⟩ := k0; exact DataW.trod_lt m _ _ _ hm
  obtain ⟨z0, w0⟩ : ∃ f, Raw W (.slice a0 len0 cap0) len0 f := by
    obtain ⟨fuel, hf⟩ := h0
    rcases open_ints Try.underlying23 Try.underlying43 (by kernel_rfl) hf with ⟨hcs, _⟩ | ⟨x, l, c, zs, hcs, _, hl, hm, hz, _, hcell, hwz⟩
    · simp [Value.cells] at hcs
      obtain ⟨rfl, rfl, rfl⟩ := hcs
      exact ⟨_, raw_nil W⟩
    · simp [Value.cells] at hcs
      obtain ⟨rfl, rfl, rfl⟩ := hcs
      exact ⟨_, raw_row W x _ _ zs hl hm (by simpa using hz) hcell hwz⟩
  clear hA0 hval0
  refine (walk _ _ _ W w0).mono fun e W' ⟨he, bel⟩ => ?_
  subst he
  exact ⟨_, rfl, _, _, _, [], _, [], hW', trodAll_mk1 (shut_bool Try.underlying4 _), (trodAll_cons_mk (Below.trod laidOut (by kernel_rfl) (of_decide_eq_true (by kernel_rfl)) k0 bel lt0) trodAll_mk0), rfl, bel.frame _, fun h => by cases h⟩

theorem over : Rows.natTextsRow.holds Try.pinned (OpenSpec.ofChange Rows.natTextsSpec) :=
  OpenClaim.holds_of_wide 3 Try.f3 rfl rfl rfl rfl rfl rfl rfl ⟨rfl, rfl, rfl, rfl, rfl⟩ rfl rfl rfl rfl rfl (by kernel_rfl) Try.func3 (by kernel_rfl)
    (of_decide_eq_true (by kernel_rfl)) (by unfold Func.isWrapper; first | (rw [if_pos (by decide +kernel)]; kernel_rfl) | (rw [if_neg (by decide +kernel)]; exact ⟨rfl, rfl⟩))
    (fun os started H enc _ => lifted os started H enc)

end Go.Proofs.Ytagphmhgceajhac.natTexts
namespace Go.Proofs.Ytagphmhgceajhac
/-- The statement. -/
theorem natTexts_holds : Rows.NatTextsSaid := natTexts.over
end Go.Proofs.Ytagphmhgceajhac
