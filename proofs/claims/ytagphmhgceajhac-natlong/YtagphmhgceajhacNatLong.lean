/-
  Proves that Parse takes texts of 10000 digits and none longer, and that powers, products, quotients and digits of such numbers are as they must be (the statement NatLong); no condition.
-/
import Derived.Test.YtagphmhgceajhacRows
import Derived.Test.YtagphmhgceajhacLaw
import Derived.Test.YtagphmhgceajhacPrintAll
import Derived.Test.YtagphmhgceajhacPowMod
import Derived.Test.YtagphmhgceajhacDivAll
import Derived.Test.YtagphmhgceajhacParse
import Derived.WalkKit
import Derived.ProofKit
import Derived.OpenShut
import Derived.ShutString
import Derived.ChangeOld
import Derived.Below
namespace Go.Proofs.Ytagphmhgceajhac.natLong
open Go.ChangeShapes Go.WideShapes Go.ChangeAt Go.RowKit
open Go.ChangeMaps (open_string shut_string)
set_option linter.unusedVariables false

/-- A power of ten. -/
def tp (k : Nat) : Nat := 10 ^ k
theorem tp_mul (a b : Nat) : tp a * tp b = tp (a + b) := (Nat.pow_add 10 a b).symm
theorem tp_pos (k : Nat) : 0 < tp k := Nat.pow_pos (by omega)
theorem tp_succ (k : Nat) : tp (k + 1) = tp k * 10 := Nat.pow_succ 10 k
/-- The text: a digit, and zeros behind it. -/
def digs (N d : Nat) : List Int := (List.range N).map (fun i => if i = 0 then 48 + (d : Int) else 48)
theorem digs_length (N d : Nat) : (digs N d).length = N := by simp [digs]
theorem digs_at (N d i : Nat) (h : i < N) : (digs N d).getD i 0 = if i = 0 then 48 + (d : Int) else 48 := by simp [digs, List.getD, h]
theorem digs_byte (N d i : Nat) (h : i < N) (hd : d < 10) : ((strOfNums (digs N d)).data.toList.getD i 0).toNat = if i = 0 then 48 + d else 48 := by
  rw [strOfNums_data]
  have e : ((digs N d).map fun n => UInt8.ofNat n.toNat)[i]? = some (UInt8.ofNat (if i = 0 then 48 + (d : Int) else 48).toNat) := by
    simp [digs, h]
  rw [List.getD, e]
  simp only [Option.getD_some]
  by_cases hi : i = 0
  · rw [if_pos hi, if_pos hi, show (48 + (d : Int)).toNat = 48 + d by omega, UInt8.toNat_ofNat_of_lt']
    show _ < 256
    omega
  · rw [if_neg hi, if_neg hi]; rfl
theorem digs_size (N d : Nat) : (strOfNums (digs N d)).size = N := by rw [strOfNums_size, digs_length]
theorem digs_digits (N d : Nat) (hN : 0 < N) (hd : d < 10) : digitsB (strOfNums (digs N d)) = true := by
  simp only [digitsB, decide_eq_true_eq]
  rw [digs_size]
  refine ⟨hN, fun i hi => ?_⟩
  unfold isDig
  rw [digs_byte N d i hi hd]
  split <;> omega
theorem digs_dval (N d : Nat) (hd : d < 10) : ∀ n, n < N → dval (strOfNums (digs N d)) (n + 1) = d * tp n := by
  intro n
  induction n with
  | zero =>
    intro h
    simp only [dval]
    rw [digs_byte N d 0 h hd, if_pos rfl, show tp 0 = 1 from rfl]
    omega
  | succ n ih =>
    intro h
    rw [dval, ih (by omega), digs_byte N d (n + 1) h hd, if_neg (by omega), tp_succ, Nat.mul_assoc]
    omega
theorem nl_tp (d k : Nat) (hd : d < 10) : nl W32 (d * tp k) ≤ k + 1 := by
  refine nl_pow10 _ _ ?_
  have h : d * tp k < 10 * tp k := Nat.mul_lt_mul_of_pos_right hd (tp_pos k)
  have e : 10 ^ (k + 1) = tp k * 10 := Nat.pow_succ 10 k
  omega
theorem ndec_tp (d k : Nat) (h0 : 0 < d) (hd : d < 10) : ndec (d * tp k) = k + 1 := by
  have h1 : d * tp k < 10 * tp k := Nat.mul_lt_mul_of_pos_right hd (tp_pos k)
  have h2 : 1 * tp k ≤ d * tp k := Nat.mul_le_mul_right _ h0
  have e : 10 ^ (k + 1) = tp k * 10 := Nat.pow_succ 10 k
  have h3 := nl_le 10 (d * tp k) (k + 1) (by decide) (by omega)
  have h4 := lt_pow_nl 10 (d * tp k) (by decide)
  have h5 : k < nl 10 (d * tp k) := by
    by_cases g : k < nl 10 (d * tp k)
    · exact g
    · have : 10 ^ nl 10 (d * tp k) ≤ 10 ^ k := Nat.pow_le_pow_right (by omega) (by omega)
      have e2 : tp k = 10 ^ k := rfl
      omega
  unfold ndec
  rw [if_neg (by omega)]
  omega

set_option maxHeartbeats 400000 in
theorem mul_all (u v : Value) (x y : Nat) (w : World) (hu : Rep w u x) (hv : Rep w v y) (h : nl W32 x + nl W32 y ≤ 400000) :
    Calls Try.prog 18 #[u, v] w fun e w' => ∃ r, e = .returned r ∧ RepM w.heap.size w' r (x * y) ∧ Below w.heap.size w w' := by
  have hP : Hid (ProdAt x y) := product_all x y h
  have p1 := fun w1 (h1 : Rep w1 u x) => plain_any u (nl W32 x) (dg W32 x) w1 h1 (u64_dg _ _)
  have p2 := fun w1 (h1 : Rep w1 v y) => plain_any v (nl W32 y) (dg W32 y) w1 h1 (u64_dg _ _)
  rw [num_nl] at p1 p2
  go_enter Try.func18, Try.ntmps18
  go_wp2_with fail
  refine (p1 _ hu).mono ?_
  rintro e w1 ⟨r1, rfl, hr1, hb1⟩
  go_wp2_with fail
  refine (p2 _ (Nums.below hv hb1)).mono ?_
  rintro e w2 ⟨r2, rfl, hr2, hb2⟩
  go_wp2_with fail
  refine (hP.out _ _ _ (Nums.below hr1 hb2) hr2).mono ?_
  rintro e w3 ⟨r, rfl, hr, hb3⟩
  go_wp2
  go_ret
  have := hb1.size
  have := hb2.size
  exact ⟨_, rfl, hr.le (by omega), hb1.trans ((hb2.mono (by omega)).trans (hb3.mono (by omega)))⟩

theorem pow_tp (u : Value) (w : World) (hu : Rep w u 10) :
    Calls Try.prog 15 #[u, .int .i64 4000] w fun e w' => ∃ r, e = .returned (.tuple #[r, .int .i64 0]) ∧ RepM w.heap.size w' r (tp 4000) ∧ Below w.heap.size w w' := by
  have h : ∀ K : Nat, K ≤ 4096 → Calls Try.prog 15 #[u, .int .i64 (K : Int)] w fun e w' => ∃ r, e = .returned (.tuple #[r, .int .i64 0]) ∧ RepM w.heap.size w' r (tp K) ∧ Below w.heap.size w w' := by
    intro K hK
    have h1 := pow_ok u _ K _ w hu (u64_dg _ _) (Nat.le_trans (nl_le W32 10 1 (by decide) (by decide)) (by omega)) hK
    rw [num_nl] at h1
    exact h1
  have h2 := h 4000 (by omega)
  have e : ((4000 : Nat) : Int) = 4000 := rfl
  rw [e] at h2
  exact h2

set_option maxHeartbeats 400000 in
theorem least_any (n : Int) (w : World) : Calls Try.prog 19 #[.int .i64 n] w fun e w' => e = .returned (.int .i64 (if 0 < n then 1 else 0)) ∧ w' = w := by
  by_cases h : 0 < n
  · rw [if_pos h]
    go_enter Try.func19, Try.ntmps19
    go_wp2
    go_ret
    exact ⟨rfl, rfl⟩
  · rw [if_neg h]
    go_enter Try.func19, Try.ntmps19
    go_wp2
    go_ret
    exact ⟨rfl, rfl⟩

set_option maxHeartbeats 2000000 in
theorem walk (a : Int) (c : Int) (w : World) (ha : (Lit.int .i64 a).wf = true) (hc : (Lit.int .u8 c).wf = true) :
    Calls Try.prog 5 #[.int .i64 a, .int .u8 c] w fun e w' => e = .returned (.bool true) ∧ Below w.heap.size w w' := by
  obtain ⟨i0, hi, hz0, hz1, hz2⟩ := info_parts info_u8
  have hab := bounds_i64 ha
  have hcb := bounds_u8 hc
  clear ha hc
  by_cases hout : a < 0 ∨ 1 < a
  · by_cases hneg : a < 0
    · go_enter Try.func5, Try.ntmps5
      go_wp2_with fail
      refine (awake_any _).mono ?_
      rintro e w7 ⟨rfl, hb7⟩
      go_wp2
      go_ret
      exact ⟨rfl, hb7⟩
    · have h1 : 1 < a := by omega
      go_enter Try.func5, Try.ntmps5
      go_wp2_with fail
      refine (awake_any _).mono ?_
      rintro e w7 ⟨rfl, hb7⟩
      go_wp2
      go_ret
      exact ⟨rfl, hb7⟩
  · obtain ⟨m, rfl⟩ : ∃ m : Nat, a = (m : Int) := ⟨a.toNat, by omega⟩
    obtain ⟨d, hd⟩ : ∃ d : Nat, c % 10 = (d : Int) := ⟨(c % 10).toNat, by omega⟩
    have hd10 : d < 10 := by omega
    have hm1 : m ≤ 1 := by omega
    have j1 : ¬ (m : Int) < 0 := by omega
    have j2 : ¬ (1 : Int) < (m : Int) := by omega
    obtain ⟨N, hN⟩ : ∃ N, N = 10000 + m := ⟨_, rfl⟩
    have HN : Hid (N = 10000 + m) := hN
    have hNi : (10000 : Int) + (m : Int) = (N : Int) := by omega
    have hNb : 10000 ≤ N ∧ N ≤ 10001 := by omega
    have hNm : N ≤ maxLen := by unfold maxLen; omega
    have hNa : i0.bytes * N ≤ 281474976710656 := by rw [hz2]; omega
    clear hout hN hab
    go_enter Try.func5, Try.ntmps5
    go_wp2_with (at_make; refine wpList_make_full _ rfl _ _ 40 rfl _ 5 i0 (.int .u8 0) 1 Try.underlying40 hi hz0 hz1 _ _ _ _ N rfl rfl (by first | exact hNi | rfl) (by first | exact hNi | rfl) hNa hNm (Nat.le_refl _) ?_; intro w1 hown hgrow)
    clear hNi hNa hNm
    have hb1 := below_grown hgrow
    obtain ⟨hc1, hs1⟩ := mine_made (k := .u8) (w := w) hown (fun _ => 0) (fun i hi => made_zero .u8 N i hi)
    clear hown hgrow
    have hlt1 := hc1.lt (by omega)
    have sz1 := hb1.size
    go_loopw [6] (fun vi wr => ∃ (i : Nat) (h : Nat → Int), i ≤ N ∧ vi = .int .i64 (i : Int) ∧ Cells wr .u8 w.heap.size 0 N h ∧ (∀ j, j < i → h j = 48) ∧ Soft wr w.heap.size 0 N ∧ Below w.heap.size w wr) (fun vi _ => N - (intOf vi).toNat)
    case atStart => exact ⟨0, fun _ => 0, Nat.zero_le _, rfl, hc1, fun j hj => by omega, hs1, hb1⟩
    case round =>
      clear hc1 hs1 hb1
      obtain ⟨i, h, hiN, rfl, hcr, h48, hsr, hbel⟩ := hrel
      have H48 : Hid (∀ j, j < i → h j = 48) := h48
      clear h48
      by_cases hlt : i < N
      · have hcell : wr.cell? ⟨w.heap.size, i, none⟩ = some (.int .u8 (h i)) := by have := hcr i hlt; rw [Nat.zero_add] at this; exact this
        have hfr : wr.frozen? ⟨w.heap.size, i, none⟩ = false := by have := hsr i hlt; rw [Nat.zero_add] at this; exact this
        go_wp2
        go_roundw
        case rel =>
          refine ⟨i + 1, put h i 48, by omega, by go_num, ?_, ?_, hsr.set _ _, hbel.setCell (by simp) _⟩
          · have := hcr.set i hlt 48; rw [Nat.zero_add] at this; exact this
          · intro j hj
            by_cases e : j = i
            · rw [e, put_same]
            · rw [put_other _ _ _ _ e]; exact H48.out j (by omega)
        case measure => simp [intOf]; omega
      · have hiN' : i = N := by omega
        subst hiN'
        have hcell : wr.cell? ⟨w.heap.size, 0, none⟩ = some (.int .u8 (h 0)) := by have := hcr 0 (by omega); rw [Nat.zero_add] at this; exact this
        have hfr : wr.frozen? ⟨w.heap.size, 0, none⟩ = false := by have := hsr 0 (by omega); rw [Nat.zero_add] at this; exact this
        have hc2 := hcr.set 0 (by omega) (48 + (d : Int))
        rw [Nat.zero_add] at hc2
        have hbel2 : Below w.heap.size w (wr.setCell ⟨w.heap.size, 0, none⟩ (.int .u8 (48 + (d : Int)))) := hbel.setCell (by simp) _
        have hconv := run_convert_bytes_arg (P := Try.prog) (wr.setCell ⟨w.heap.size, 0, none⟩ (.int .u8 (48 + (d : Int)))) 40 5 Try.underlying40 Try.underlying5 w.heap.size 0 i i (digs i d) (digs_length _ _)
          (fun j hj => by
            rw [digs_at _ _ _ hj, hc2 j hj]
            by_cases e : j = 0
            · rw [e, put_same, if_pos rfl]
            · rw [put_other _ _ _ _ e, if_neg e, H48.out j hj]) 9 Try.underlying9
        have hdgs := digs_digits i d (by omega) hd10
        have hsz := digs_size i d
        have hdv := digs_dval i d hd10 (i - 1) (by omega)
        rw [show i - 1 + 1 = i by omega] at hdv
        generalize hS : strOfNums (digs i d) = S at *
        have HDV : Hid (dval S i = d * tp (i - 1)) := hdv
        clear hc2 hcr hsr hS hdv H48
        go_wp2_with fail
        generalize hW2 : wr.setCell ⟨w.heap.size, 0, none⟩ (.int .u8 (48 + (d : Int))) = W2 at *
        clear hW2 hconv hcell hfr hbel
        have sz2 := hbel2.size
        by_cases hm : m = 1
        · subst hm
          have hbig : 10000 < S.size := by have := HN.out; omega
          refine (parse_long S _ hdgs hbig).mono ?_
          rintro e w3 ⟨rfl, hb3⟩
          go_wp2_with fail
          refine (awake_any _).mono ?_
          rintro e w4 ⟨rfl, hb4⟩
          go_wp2
          go_ret
          exact ⟨rfl, hbel2.trans ((hb3.mono sz2).trans (hb4.mono (by have := hb3.size; omega)))⟩
        · obtain rfl : m = 0 := by omega
          have hi4 : i = 10000 := by have := HN.out; omega
          have hS4 : S.size ≤ 10000 := by omega
          have hv4 : dval S S.size = d * tp 9999 := by rw [hsz, HDV.out, hi4]
          have hPA := parse_yes S W2 hS4 hdgs
          rw [hv4] at hPA
          clear HDV hi4 hv4 hS4 hdgs HN
          refine hPA.mono ?_
          rintro e w3 ⟨v3, rfl, hv3, hb3⟩
          have s3 := hb3.size
          go_wp2_with fail
          refine (of_any 10 _ (by omega) (by omega)).mono ?_
          rintro e w4 ⟨o4, rfl, ho4, hb4⟩
          have s4 := hb4.size
          have ho4' : Rep w4 o4 10 := Mine.nums ho4
          go_wp2_with fail
          refine (pow_tp o4 _ ho4').mono ?_
          rintro e w5 ⟨p5, rfl, hp5, hb5⟩
          have s5 := hb5.size
          have hp5' := hp5.rep
          have hn4 : nl W32 (tp 4000) ≤ 4001 := by have := nl_tp 1 4000 (by omega); rw [Nat.one_mul] at this; exact this
          go_wp2_with fail
          refine (mul_all _ _ _ _ _ hp5' hp5' (by omega)).mono ?_
          rintro e w6 ⟨p6, rfl, hp60, hb6⟩
          have s6 := hb6.size
          have e8 : tp 4000 * tp 4000 = tp 8000 := tp_mul 4000 4000
          rw [e8] at hp60
          have hp6 := hp60.rep
          have hv6 : Rep w6 v3 (d * tp 9999) := Nums.below (Nums.below (Nums.below hv3.rep hb4) hb5) hb6
          have h8p : tp 8000 ≠ 0 := Nat.ne_of_gt (tp_pos 8000)
          have e9 : d * tp 9999 = d * tp 1999 * tp 8000 := by rw [Nat.mul_assoc, tp_mul]
          have eq : d * tp 9999 / tp 8000 = d * tp 1999 := by rw [e9]; exact Nat.mul_div_cancel _ (tp_pos 8000)
          have er : d * tp 9999 % tp 8000 = 0 := by rw [e9]; exact Nat.mul_mod_left _ _
          have hn9 := nl_tp d 9999 hd10
          have hDM := divMod_of v3 p6 _ _ _ _ w6 hv6 hp6 (u64_dg _ _) (u64_dg _ _) (by rw [num_nl]; exact h8p) (by rw [num_nl, num_nl]; exact divide_any _ _ (tp_pos 8000) (by omega))
          rw [num_nl, num_nl, eq, er] at hDM
          clear e8 e9 eq er hn4
          go_wp2_with fail
          refine hDM.mono ?_
          rintro e w7 ⟨q7, r7, rfl, hq7, hr7, hb7⟩
          have s7 := hb7.size
          have hq7' := hq7.rep
          obtain ⟨ra, rc, rfl, hrl⟩ := rep_val hr7.rep
          rw [nl_zero]
          have hn1 := nl_tp d 1999 hd10
          have hDG := digits_any q7 _ _ w7 hq7' (u64_dg _ _) (by omega)
          rw [num_nl] at hDG
          have hnd : (0 < d → ndec (d * tp 1999) = 2000) ∧ (d = 0 → ndec (d * tp 1999) = 1) := by
            refine ⟨fun h => ndec_tp d 1999 h hd10, fun h => ?_⟩
            rw [h, Nat.zero_mul]; unfold ndec; rw [if_pos (nl_zero 10)]
          have B7 : Below w.heap.size w w7 := hbel2.trans ((hb3.mono (by omega)).trans ((hb4.mono (by omega)).trans ((hb5.mono (by omega)).trans ((hb6.mono (by omega)).trans (hb7.mono (by omega))))))
          generalize ndec (d * tp 1999) = D at *
          clear hDM hq7 hr7 hq7' hv6 hp6 hp60 hp5 hp5' hv3 ho4 ho4' hb3 hb4 hb5 hb6 hb7 hPA
          go_wp2_with fail
          refine hDG.mono ?_
          rintro e w8 ⟨rfl, hb8⟩
          have B8 : Below w.heap.size w w8 := B7.trans (hb8.mono (by omega))
          go_wp2_with fail
          refine (least_any (d : Int) _).mono ?_
          rintro e w9 ⟨rfl, hw9⟩
          subst hw9
          by_cases hd0 : 0 < d
          · have hD := hnd.1 hd0
            subst hD
            rw [if_pos (by omega)]
            go_wp2_with fail
            refine (awake_any _).mono ?_
            rintro e w10 ⟨rfl, hb10⟩
            go_wp2
            go_ret
            exact ⟨rfl, B8.trans (hb10.mono B8.size)⟩
          · have hD := hnd.2 (by omega)
            subst hD
            rw [if_neg (by omega)]
            go_wp2_with fail
            refine (awake_any _).mono ?_
            rintro e w10 ⟨rfl, hb10⟩
            go_wp2
            go_ret
            exact ⟨rfl, B8.trans (hb10.mono B8.size)⟩

theorem own : ownKnob Try.prog.godebug = none := by kernel_rfl

set_option maxRecDepth 100000 in
theorem lifted (os : Os) (started : os.Started) (H : Type) (enc : TypeId × Value → H) :
    ReturnsInHanded {} Try.checked os 5 .any (Rows.natLongSpec.pre6 enc Try.prog Try.f5 Rows.natLongRow.domain false) (Rows.natLongSpec.post enc Try.prog Try.f5 false true false false) := by
  refine returnsInHanded_of_change (C := Try.checked) own started (by kernel_rfl) Try.func5
    (ChangeSpec.witness6 (enc := enc) (C := Try.checked) false ⟨#[], #[.int .i64 0, .int .u8 0], []⟩ 8 (by kernel_rfl) (by kernel_rfl) (by kernel_rfl) (by kernel_rfl)) ?_
  intro W base args ds gs before hval0 hW hcnd _
  have hval : ∀ (j : Nat) t v, Try.f5.params[j]? = some t → args[j]? = some v → Value.okWide Try.prog W .any base t v := hval0
  have hW' := hW
  obtain ⟨p, q, hA0, hV, rfl, hfz, hnd⟩ := hW
  have hA : DataW.TrodAll enc Try.prog W 0 (fun _ => true) true Try.f5.params.toList args.toList ds p := hA0
  rw [Try.params5] at hA hval
  obtain ⟨v0, vs0, d0, ds0, p0, q0, hargs, rfl, rfl, h0, r0⟩ := trodAll_cons hA
  obtain ⟨v1, vs1, d1, ds1, p1, q1, rfl, rfl, rfl, h1, r1⟩ := trodAll_cons r0
  obtain ⟨rfl, rfl, rfl⟩ := trodAll_nil r1
  obtain rfl : args = #[v0, v1] := by cases args; simp_all
  obtain ⟨rfl, rfl⟩ := trodVars_none hV
  obtain ⟨a0, rfl, rfl, rfl, w0⟩ := open_int Try.underlying3 (hval 0 3 v0 rfl rfl) h0
  obtain ⟨a1, rfl, rfl, rfl, w1⟩ := open_int Try.underlying5 (hval 1 5 v1 rfl rfl) h1
  clear hA0 hval0
  refine (walk a0 a1 W w0 w1).mono fun e W' ⟨he, bel⟩ => ?_
  subst he
  exact ⟨_, rfl, _, _, _, [], _, [], hW', trodAll_mk1 (shut_bool Try.underlying4 _), (trodAll_cons_mk (shut_int Try.underlying3 w0) (trodAll_cons_mk (shut_int Try.underlying5 w1) trodAll_mk0)), rfl, bel.frame _, fun h => by cases h⟩

theorem over : Rows.natLongRow.holds Try.pinned (OpenSpec.ofChange Rows.natLongSpec) :=
  OpenClaim.holds_of_wide 5 Try.f5 rfl rfl rfl rfl rfl rfl rfl ⟨rfl, rfl, rfl, rfl, rfl⟩ rfl rfl rfl rfl rfl (by kernel_rfl) Try.func5 (by kernel_rfl)
    (of_decide_eq_true (by kernel_rfl)) (by unfold Func.isWrapper; first | (rw [if_pos (by decide +kernel)]; kernel_rfl) | (rw [if_neg (by decide +kernel)]; exact ⟨rfl, rfl⟩))
    (fun os started H enc _ => lifted os started H enc)

end Go.Proofs.Ytagphmhgceajhac.natLong
namespace Go.Proofs.Ytagphmhgceajhac
/-- The statement. -/
theorem natLong_holds : Rows.NatLongSaid := natLong.over
end Go.Proofs.Ytagphmhgceajhac
