/-
  Proves that Right, Clean, Sign, Neg and Abs say of anything of up to 20 limbs which number it is, in its form (the statement WholeForms); no condition.
-/
import Derived.Test.YtbnjogbbjoinnaaRows
import Derived.Test.YtbnjogbbjoinnaaWMem
import Derived.Test.YtbnjogbbjoinnaaWOpen
import Derived.WalkKit
import Derived.ProofKit
import Derived.OpenShut
import Derived.ShutString
import Derived.ChangeOld
import Derived.Below
namespace Go.Proofs.Ytbnjogbbjoinnaa.wholeForms
open Go.ChangeShapes Go.WideShapes Go.ChangeAt Go.RowKit
open Go.ChangeMaps (open_string shut_string)
set_option linter.unusedVariables false

/-- A number that came in and what it is to the document, in a world behind wb. -/
structure One (B : Nat) (wb : World) (p : Bool) (ao : Option Addr) (n c : Nat) (f : Nat → Int) (vx sx : Value) (x : Int) (L : Nat) (w : World) : Prop where
  bel : Below B wb w
  nums : Nums .u64 w (.slice ao n c) n f
  a : IntAt w (.agg #[.bool p, .slice ao n c]) x L
  jx : RepJ w vx x
  d : RepD w sx x.natAbs
theorem One.next {B : Nat} {wb : World} {p : Bool} {ao : Option Addr} {n c : Nat} {f : Nat → Int} {vx sx : Value} {x : Int} {L : Nat} {w w' : World} (h : One B wb p ao n c f vx sx x L w) (hB : B ≤ w.heap.size) (hb : Below w.heap.size w w') : One B wb p ao n c f vx sx x L w' :=
  ⟨h.bel.trans (hb.mono hB), h.nums.below hb, h.a.below hb, h.jx.below hb, Nums.below h.d hb⟩

set_option maxRecDepth 20000 in
set_option maxHeartbeats 4000000 in
theorem walk (p : Bool) (s : Value) (n0 : Nat) (f : Nat → Int) (w : World) (hs0 : Raw w s n0 f) :
    Calls Try.prog 3 #[.agg #[.bool p, s]] w fun e w' => e = .returned (.bool true) ∧ Below w.heap.size w w' := by
  have hs := hs0
  obtain ⟨ao0, c0, rfl, _⟩ := hs0
  have hA : ∀ o, Below w.heap.size w (w.alloc o) := fun o => (Below.refl _ _).alloc (Nat.le_refl _) _
  have r0 := resW w 25 (.bool p) (.slice ao0 n0 c0)
  go_enter Try.func3, Try.ntmps3
  go_wp2_with fail
  refine (wfew_any _ _ _ 20 _ _ (hs.below (hA _)) (by omega)).mono ?_
  rintro e w1 ⟨ao, c, rfl, hu, uf, hb1⟩
  have hn : min n0 20 ≤ 20 := Nat.min_le_right _ _
  generalize min n0 20 = n at *
  have B1 : Below w.heap.size w w1 := (hA _).trans (hb1.mono (by simp))
  obtain ⟨a1, a2, a3, a4⟩ := keepW hb1 (by simp) r0
  have A0 := put2_same (x' := .bool p) (y' := .slice ao n c) ⟨a1, a2, a3, a4⟩
  have N1 := hu.store2 a1 a2 (.bool p) (.slice ao n c)
  have I1 : IntAt ((w1.setCell ⟨w.heap.size, 0, none⟩ (.bool p)).setCell ⟨w.heap.size, 1, none⟩ (.slice ao n c)) (.agg #[.bool p, .slice ao n c]) (zof p (num f n)) 20 := ⟨_, _, _, _, _, rfl, N1, uf, rfl, hn⟩
  have B1' := below_store2 (R := w.heap.size) B1 (Nat.le_refl _) (.bool p) (.slice ao n c)
  clear r0
  go_wp2_with fail
  clear a1 a2 a3 a4 hs hb1 hu B1
  generalize (w1.setCell ⟨w.heap.size, 0, none⟩ (.bool p)).setCell ⟨w.heap.size, 1, none⟩ (.slice ao n c) = W1 at *
  generalize hx : zof p (num f n) = x at *
  refine (rfrom_any _ _ _ _ I1 (by omega)).mono ?_
  rintro e w2 ⟨vx, rfl, hx2, hb2⟩
  obtain ⟨px, aox, nx, cx, rfl, hd2⟩ : ∃ px aox nx cx, vx = .agg #[.bool px, .slice aox nx cx] ∧ RepD w2 (.slice aox nx cx) x.natAbs := by
    obtain ⟨ao, c, h1, h2⟩ := hx2; exact ⟨_, _, _, _, h1, h2⟩
  have HA2 : Below w2.heap.size w2 (w2.alloc (.cells #[.bool px, .slice aox nx cx] 30)) := (Below.refl _ _).alloc (Nat.le_refl _) _
  have B2 : Below w.heap.size w w2 := B1'.trans (hb2.mono B1'.size)
  have B2' := B2.trans (HA2.mono B2.size)
  have C0 := keepW HA2 (Nat.le_refl _) (keepW hb2 (Nat.le_refl _) A0)
  have C1 := resW w2 30 (.bool px) (.slice aox nx cx)
  have N2 := (N1.below hb2).below HA2
  have I2 := (I1.below hb2).below HA2
  have J2 := hx2.below HA2
  have D2 := Nums.below hd2 HA2
  clear A0 I1 N1 hx2 hd2 B1' B2 HA2
  go_wp2_with fail
  clear hb2
  generalize w2.heap.size = RX at *
  generalize w2.alloc (.cells #[.bool px, .slice aox nx cx] 30) = W2 at *
  have T0 : One w.heap.size w p ao n c f (.agg #[.bool px, .slice aox nx cx]) (.slice aox nx cx) x 20 W2.drew :=
    ⟨B2'.drew, N2.below (Below.refl _ _).drew, I2.below (Below.refl _ _).drew, J2.below (Below.refl _ _).drew, Nums.below D2 (Below.refl _ _).drew⟩
  have S0 := And.intro C0.1 (And.intro C0.2.1 (And.intro C1.1 C1.2.1))
  obtain ⟨g1, g2, _, _⟩ := C0
  obtain ⟨g3, g4, _, _⟩ := C1
  have lx := I2.nl
  have hnum : x.natAbs = num f n := by rw [← hx, zof_abs]
  clear I2 J2 D2
  refine (refRight_any _ _ _ _ N2).mono ?_
  rintro e wz ⟨rfl, hw⟩
  subst hw
  clear N2 B2'
  cases hR : rightB f n with
  | false =>
    have hV : (rightB f n && !(p && decide (num f n = 0))) = false := by rw [hR]; rfl
    clear hx
    go_wp2
    go_region_held3 (fun w' => w'.cell? ⟨w.heap.size, 0, none⟩ = some (.bool p) ∧ w'.cell? ⟨w.heap.size, 1, none⟩ = some (.slice ao n c) ∧ w'.cell? ⟨RX, 0, none⟩ = some (.bool px) ∧ w'.cell? ⟨RX, 1, none⟩ = some (.slice aox nx cx)) (first | exact keep4 (by assumption) (by exact Nat.le_refl _) (by assumption) | exact S0) (first
      | (go_at_call 13; refine (rsmall_any 0 _ (by omega) (by omega)).mono ?_; rintro e y1 ⟨z1, rfl, hz1, l1⟩; have T1 := T0.next T0.bel.size l1)
      | (go_at_call 12; refine (rorder_any _ _ _ _ _ T1.jx hz1).mono ?_; rintro e y2 ⟨rfl, l2⟩; have T2 := T1.next T1.bel.size l2))
    have S2 := keep4 (B := y2.heap.size) (w' := y2.drew) (Below.refl _ _).drew (Nat.le_refl _) (keep4 l2 (Nat.le_refl _) (keep4 l1 (Nat.le_refl _) S0))
    have V0 := T2.next T2.bel.size (Below.refl _ _).drew
    clear T0 T1 T2 S0 hz1
    clear l1 l2
    have S0 := S2
    clear S2
    go_wp2
    go_region_held3 (fun w' => w'.cell? ⟨w.heap.size, 0, none⟩ = some (.bool p) ∧ w'.cell? ⟨w.heap.size, 1, none⟩ = some (.slice ao n c) ∧ w'.cell? ⟨RX, 0, none⟩ = some (.bool px) ∧ w'.cell? ⟨RX, 1, none⟩ = some (.slice aox nx cx)) (first | exact keep4 (by assumption) (by exact Nat.le_refl _) (by assumption) | exact S0) (first
      | (go_at_call 14; refine (wright_any _ _ _ _ _ _ V0.nums uf).mono ?_; rintro e u1 ⟨rfl, k1⟩; rw [hV]; have V1 := V0.next V0.bel.size k1)
      | (go_at_call 16; refine (wclean_any _ _ _ _ V1.a).mono ?_; rintro e u2 ⟨ra, rfl, hra, k2⟩; have V2 := V1.next V1.bel.size k2)
      | (go_at_call_of 15 ra; refine (ris_rep _ _ _ _ hra (by omega) V2.jx).mono ?_; rintro e u3 ⟨rfl, k3⟩; have V3 := V2.next V2.bel.size k3)
      | (go_at_call 17; refine (sign_any _ _ _ _ V3.a).mono ?_; rintro e u4 ⟨rfl, k4⟩; have V4 := V3.next V3.bel.size k4)
      | (go_at_call 18; refine (wneg_any _ _ _ _ V4.a).mono ?_; rintro e u5 ⟨rn, rfl, hrn, k5⟩; have V5 := V4.next V4.bel.size k5)
      | (go_at_call 19; refine (rminus_any _ _ _ V5.jx).mono ?_; rintro e u6 ⟨rm, rfl, hrm, k6⟩; have V6 := V5.next V5.bel.size k6; have hrn6 := hrn.below k6)
      | (go_at_call_of 15 rn; refine (ris_rep _ _ _ _ hrn6 (nlz_neg (by omega)) hrm).mono ?_; rintro e u7 ⟨rfl, k7⟩; have V7 := V6.next V6.bel.size k7)
      | (go_at_call 20; refine (wabs_any _ _ _ _ V7.a).mono ?_; rintro e u8 ⟨rb, rfl, hrb, k8⟩; have V8 := V7.next V7.bel.size k8)
      | (go_at_call 21; refine (rmake_any false _ _ _ V8.d).mono ?_; rintro e u9 ⟨rk, rfl, hrk, k9⟩; have V9 := V8.next V8.bel.size k9; have hrb9 := hrb.below k9; rw [zof_false] at hrk)
      | (go_at_call_of 15 rb; refine (ris_rep _ _ _ _ hrb9 (by rw [Int.natAbs_natCast]; omega) hrk).mono ?_; rintro e u10 ⟨rfl, k10⟩; have V10 := V9.next V9.bel.size k10)
      | (go_at_call 22; refine (wawake_any _).mono ?_; rintro e u11 ⟨rfl, k11⟩; have V11 := V10.next V10.bel.size k11))
    go_wp2
    go_ret
    exact ⟨rfl, V11.bel⟩
  | true =>
    have hfm := (right_form f n uf hR).1
    by_cases h0 : n = 0
    · have hV : (rightB f n && !(p && decide (num f n = 0))) = !p := by
        have : num f n = 0 := (nl_eq_zero W32 _ (by decide)).1 (by omega)
        rw [hR, decide_eq_true this]; cases p <;> rfl
      clear hx hfm
      subst h0
      go_wp2
      go_region_held3 (fun w' => w'.cell? ⟨w.heap.size, 0, none⟩ = some (.bool p) ∧ w'.cell? ⟨w.heap.size, 1, none⟩ = some (.slice ao 0 c) ∧ w'.cell? ⟨RX, 0, none⟩ = some (.bool px) ∧ w'.cell? ⟨RX, 1, none⟩ = some (.slice aox nx cx)) (first | exact keep4 (by assumption) (by exact Nat.le_refl _) (by assumption) | exact S0) (first
        | (go_at_call 13; refine (rsmall_any 0 _ (by omega) (by omega)).mono ?_; rintro e y1 ⟨z1, rfl, hz1, l1⟩; have T1 := T0.next T0.bel.size l1)
        | (go_at_call 12; refine (rorder_any _ _ _ _ _ T1.jx hz1).mono ?_; rintro e y2 ⟨rfl, l2⟩; have T2 := T1.next T1.bel.size l2))
      have S2 := keep4 (B := y2.heap.size) (w' := y2.drew) (Below.refl _ _).drew (Nat.le_refl _) (keep4 l2 (Nat.le_refl _) (keep4 l1 (Nat.le_refl _) S0))
      have V0 := T2.next T2.bel.size (Below.refl _ _).drew
      clear T0 T1 T2 S0 hz1
      clear l1 l2
      have S0 := S2
      clear S2
      go_wp2
      go_region_held3 (fun w' => w'.cell? ⟨w.heap.size, 0, none⟩ = some (.bool p) ∧ w'.cell? ⟨w.heap.size, 1, none⟩ = some (.slice ao 0 c) ∧ w'.cell? ⟨RX, 0, none⟩ = some (.bool px) ∧ w'.cell? ⟨RX, 1, none⟩ = some (.slice aox nx cx)) (first | exact keep4 (by assumption) (by exact Nat.le_refl _) (by assumption) | exact S0) (first
        | (go_at_call 14; refine (wright_any _ _ _ _ _ _ V0.nums uf).mono ?_; rintro e u1 ⟨rfl, k1⟩; rw [hV]; have V1 := V0.next V0.bel.size k1)
        | (go_at_call 16; refine (wclean_any _ _ _ _ V1.a).mono ?_; rintro e u2 ⟨ra, rfl, hra, k2⟩; have V2 := V1.next V1.bel.size k2)
        | (go_at_call_of 15 ra; refine (ris_rep _ _ _ _ hra (by omega) V2.jx).mono ?_; rintro e u3 ⟨rfl, k3⟩; have V3 := V2.next V2.bel.size k3)
        | (go_at_call 17; refine (sign_any _ _ _ _ V3.a).mono ?_; rintro e u4 ⟨rfl, k4⟩; have V4 := V3.next V3.bel.size k4)
        | (go_at_call 18; refine (wneg_any _ _ _ _ V4.a).mono ?_; rintro e u5 ⟨rn, rfl, hrn, k5⟩; have V5 := V4.next V4.bel.size k5)
        | (go_at_call 19; refine (rminus_any _ _ _ V5.jx).mono ?_; rintro e u6 ⟨rm, rfl, hrm, k6⟩; have V6 := V5.next V5.bel.size k6; have hrn6 := hrn.below k6)
        | (go_at_call_of 15 rn; refine (ris_rep _ _ _ _ hrn6 (nlz_neg (by omega)) hrm).mono ?_; rintro e u7 ⟨rfl, k7⟩; have V7 := V6.next V6.bel.size k7)
        | (go_at_call 20; refine (wabs_any _ _ _ _ V7.a).mono ?_; rintro e u8 ⟨rb, rfl, hrb, k8⟩; have V8 := V7.next V7.bel.size k8)
        | (go_at_call 21; refine (rmake_any false _ _ _ V8.d).mono ?_; rintro e u9 ⟨rk, rfl, hrk, k9⟩; have V9 := V8.next V8.bel.size k9; have hrb9 := hrb.below k9; rw [zof_false] at hrk)
        | (go_at_call_of 15 rb; refine (ris_rep _ _ _ _ hrb9 (by rw [Int.natAbs_natCast]; omega) hrk).mono ?_; rintro e u10 ⟨rfl, k10⟩; have V10 := V9.next V9.bel.size k10)
        | (go_at_call 22; refine (wawake_any _).mono ?_; rintro e u11 ⟨rfl, k11⟩; have V11 := V10.next V10.bel.size k11))
      go_wp2
      go_ret
      exact ⟨rfl, V11.bel⟩
    · have hV : (rightB f n && !(p && decide (num f n = 0))) = true := by
        have : num f n ≠ 0 := fun h => h0 (by rw [hfm, h, nl_zero])
        rw [hR, decide_eq_false this]; cases p <;> rfl
      have h0' : (0 : Int) < (n : Int) := by omega
      clear hx hfm
      go_wp2
      go_region_held3 (fun w' => w'.cell? ⟨w.heap.size, 0, none⟩ = some (.bool p) ∧ w'.cell? ⟨w.heap.size, 1, none⟩ = some (.slice ao n c) ∧ w'.cell? ⟨RX, 0, none⟩ = some (.bool px) ∧ w'.cell? ⟨RX, 1, none⟩ = some (.slice aox nx cx)) (first | exact keep4 (by assumption) (by exact Nat.le_refl _) (by assumption) | exact S0) (first
        | (go_at_call 13; refine (rsmall_any 0 _ (by omega) (by omega)).mono ?_; rintro e y1 ⟨z1, rfl, hz1, l1⟩; have T1 := T0.next T0.bel.size l1)
        | (go_at_call 12; refine (rorder_any _ _ _ _ _ T1.jx hz1).mono ?_; rintro e y2 ⟨rfl, l2⟩; have T2 := T1.next T1.bel.size l2))
      have S2 := keep4 (B := y2.heap.size) (w' := y2.drew) (Below.refl _ _).drew (Nat.le_refl _) (keep4 l2 (Nat.le_refl _) (keep4 l1 (Nat.le_refl _) S0))
      have V0 := T2.next T2.bel.size (Below.refl _ _).drew
      clear T0 T1 T2 S0 hz1
      clear l1 l2
      have S0 := S2
      clear S2
      go_wp2
      go_region_held3 (fun w' => w'.cell? ⟨w.heap.size, 0, none⟩ = some (.bool p) ∧ w'.cell? ⟨w.heap.size, 1, none⟩ = some (.slice ao n c) ∧ w'.cell? ⟨RX, 0, none⟩ = some (.bool px) ∧ w'.cell? ⟨RX, 1, none⟩ = some (.slice aox nx cx)) (first | exact keep4 (by assumption) (by exact Nat.le_refl _) (by assumption) | exact S0) (first
        | (go_at_call 14; refine (wright_any _ _ _ _ _ _ V0.nums uf).mono ?_; rintro e u1 ⟨rfl, k1⟩; rw [hV]; have V1 := V0.next V0.bel.size k1)
        | (go_at_call 16; refine (wclean_any _ _ _ _ V1.a).mono ?_; rintro e u2 ⟨ra, rfl, hra, k2⟩; have V2 := V1.next V1.bel.size k2)
        | (go_at_call_of 15 ra; refine (ris_rep _ _ _ _ hra (by omega) V2.jx).mono ?_; rintro e u3 ⟨rfl, k3⟩; have V3 := V2.next V2.bel.size k3)
        | (go_at_call 17; refine (sign_any _ _ _ _ V3.a).mono ?_; rintro e u4 ⟨rfl, k4⟩; have V4 := V3.next V3.bel.size k4)
        | (go_at_call 18; refine (wneg_any _ _ _ _ V4.a).mono ?_; rintro e u5 ⟨rn, rfl, hrn, k5⟩; have V5 := V4.next V4.bel.size k5)
        | (go_at_call 19; refine (rminus_any _ _ _ V5.jx).mono ?_; rintro e u6 ⟨rm, rfl, hrm, k6⟩; have V6 := V5.next V5.bel.size k6; have hrn6 := hrn.below k6)
        | (go_at_call_of 15 rn; refine (ris_rep _ _ _ _ hrn6 (nlz_neg (by omega)) hrm).mono ?_; rintro e u7 ⟨rfl, k7⟩; have V7 := V6.next V6.bel.size k7)
        | (go_at_call 20; refine (wabs_any _ _ _ _ V7.a).mono ?_; rintro e u8 ⟨rb, rfl, hrb, k8⟩; have V8 := V7.next V7.bel.size k8)
        | (go_at_call 21; refine (rmake_any false _ _ _ V8.d).mono ?_; rintro e u9 ⟨rk, rfl, hrk, k9⟩; have V9 := V8.next V8.bel.size k9; have hrb9 := hrb.below k9; rw [zof_false] at hrk)
        | (go_at_call_of 15 rb; refine (ris_rep _ _ _ _ hrb9 (by rw [Int.natAbs_natCast]; omega) hrk).mono ?_; rintro e u10 ⟨rfl, k10⟩; have V10 := V9.next V9.bel.size k10)
        | (go_at_call 22; refine (wawake_any _).mono ?_; rintro e u11 ⟨rfl, k11⟩; have V11 := V10.next V10.bel.size k11))
      go_wp2
      go_ret
      exact ⟨rfl, V11.bel⟩

theorem own : ownKnob Try.prog.godebug = none := by kernel_rfl
theorem laidOut : laidOutB Try.prog = true := by kernel_rfl

set_option maxRecDepth 100000 in
theorem lifted (os : Os) (started : os.Started) (H : Type) (enc : TypeId × Value → H) :
    ReturnsInHanded {} Try.checked os 3 .any (Rows.wholeFormsSpec.pre6 enc Try.prog Try.f3 Rows.wholeFormsRow.domain false) (Rows.wholeFormsSpec.post enc Try.prog Try.f3 false true false false) := by
  refine returnsInHanded_of_change (C := Try.checked) own started (by kernel_rfl) Try.func3
    (ChangeSpec.witness6 (enc := enc) (C := Try.checked) false ⟨#[], #[.agg #[.bool false, .slice none 0 0]], []⟩ 8 (by kernel_rfl) (by kernel_rfl) (by kernel_rfl) (by kernel_rfl)) ?_
  intro W base args ds gs before hval0 hW hcnd _
  have hval : ∀ (j : Nat) t v, Try.f3.params[j]? = some t → args[j]? = some v → Value.okWide Try.prog W .any base t v := hval0
  have hW' := hW
  obtain ⟨p, q, hA0, hV, rfl, hfz, hnd⟩ := hW
  have hA : DataW.TrodAll enc Try.prog W 0 (fun _ => true) true Try.f3.params.toList args.toList ds p := hA0
  rw [Try.params3] at hA hval
  obtain ⟨v0, vs0, d0, ds0, p0, q0, hargs, rfl, rfl, h0, r0⟩ := trodAll_cons hA
  obtain ⟨rfl, rfl, rfl⟩ := trodAll_nil r0
  obtain rfl : args = #[v0] := by cases args; simp_all
  obtain ⟨rfl, rfl⟩ := trodVars_none hV
  have k0 := h0
  have lt0 : ∀ x ∈ p0, x.block < W.heap.size := by obtain ⟨m, hm⟩ := k0; exact DataW.trod_lt m _ _ _ hm
  obtain ⟨neg0, ao0, n0, c0, f0, rfl, w0⟩ := open_wint (hval 0 25 v0 rfl rfl) h0
  clear hA0 hval0
  refine (walk _ _ _ _ W w0).mono fun e W' ⟨he, bel⟩ => ?_
  subst he
  exact ⟨_, rfl, _, _, _, [], _, [], hW', trodAll_mk1 (shut_bool Try.underlying4 _), (trodAll_cons_mk (Below.trod laidOut (by kernel_rfl) (of_decide_eq_true (by kernel_rfl)) k0 bel lt0) trodAll_mk0), rfl, bel.frame _, fun h => by cases h⟩

theorem over : Rows.wholeFormsRow.holds Try.pinned (OpenSpec.ofChange Rows.wholeFormsSpec) :=
  OpenClaim.holds_of_wide 3 Try.f3 rfl rfl rfl rfl rfl rfl rfl ⟨rfl, rfl, rfl, rfl, rfl⟩ rfl rfl rfl rfl rfl (by kernel_rfl) Try.func3 (by kernel_rfl)
    (of_decide_eq_true (by kernel_rfl)) (by unfold Func.isWrapper; first | (rw [if_pos (by decide +kernel)]; kernel_rfl) | (rw [if_neg (by decide +kernel)]; exact ⟨rfl, rfl⟩))
    (fun os started H enc _ => lifted os started H enc)

end Go.Proofs.Ytbnjogbbjoinnaa.wholeForms
namespace Go.Proofs.Ytbnjogbbjoinnaa
/-- The statement. -/
theorem wholeForms_holds : Rows.WholeFormsSaid := wholeForms.over
end Go.Proofs.Ytbnjogbbjoinnaa
