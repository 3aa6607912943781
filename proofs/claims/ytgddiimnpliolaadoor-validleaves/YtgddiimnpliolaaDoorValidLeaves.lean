/-
  Proves that the leaves, the depth, their number and their covers of any tree of up to 15 nodes are what the document says.
-/
import Derived.Test.YtgddiimnpliolaaDoorRows
import Derived.Test.YtgddiimnpliolaaDoorJ57d3204701
import Derived.Test.YtgddiimnpliolaaDoorJff91650ec9
import Derived.Test.YtgddiimnpliolaaDoorJ4e73de5de4
import Derived.WalkKit
import Derived.ProofKit
import Derived.OpenShut
import Derived.ShutString
import Derived.ChangeOld
import Derived.Below
import Derived.Test.YtgddiimnpliolaaDoorTie
import Derived.Test.YtgddiimnpliolaaDoorCards
import Derived.LaidByTextLater
import Derived.LaidHandle
import Derived.Lib.LaidTab
import Derived.SevenTiedAt
namespace Go.Proofs.YtgddiimnpliolaaDoor.validLeaves
open Go.ChangeShapes Go.WideShapes Go.ChangeAt Go.RowKit
open Go.ChangeMaps (open_string shut_string)
set_option linter.unusedVariables false
set_option linter.unusedSimpArgs false

theorem cov_take {t : Nat → Nd} {zs : List Nat} {i x : Nat} (hx : zs[i]? = some x) : covS t (zs.take (i + 1)) = covS t (zs.take i) + (t x).cov := by
  rw [List.take_add_one, hx, covS_app]
  show covS t (zs.take i) + (0 + (t x).cov) = _
  rw [Rat.zero_add]
theorem cov_sz {t : Nat → Nd} : ∀ l : List Nat, (∀ x, x ∈ l → qsz (t x).cov ≤ 4) → qsz (covS t l) ≤ 5 * l.length + 1
  | [], _ => (show qsz 0 ≤ 1 by decide +kernel)
  | x :: l, h => by
    have h1 := cov_sz l (fun y hy => h y (List.mem_cons_of_mem _ hy))
    have h2 := qsz_add (covS t l) (t x).cov h1 (h x (by simp))
    show qsz (covS t l + (t x).cov) ≤ 5 * (l.length + 1) + 1
    omega
theorem cov_few {t : Nat → Nd} {nn : Nat} {zs : List Nat} (h : ∀ x, x < nn → qsz (t x).cov ≤ 4) (hz : ∀ x, x ∈ zs → x < nn) (hl : zs.length ≤ 300) (i : Nat) : qsz (covS t (zs.take i)) ≤ 2000 := by
  have h1 := cov_sz (t := t) (zs.take i) (fun x hx => h x (hz x (List.mem_of_mem_take hx)))
  have h2 : (zs.take i).length ≤ zs.length := by rw [List.length_take]; omega
  omega

set_option maxRecDepth 100000 in
set_option maxHeartbeats 16000000 in
theorem walk (v : Value) (n : Nat) (t : Nat → Nd) (F : Int) (w : World) (hv : TRaw w v n t 4) (hF : (Lit.int .i64 F).wf = true) (ht : Tab w) :
    Calls Tryd.prog 3 #[v, .int .i64 F] w fun e w' => e = .returned (.bool true) ∧ Below w.heap.size w w' := by
  clear hF
  obtain ⟨ao, c, rfl, hnc, hc63⟩ := hv.open
  have BB : Below w.heap.size w w := Below.refl _ _
  have M1 := one_raw hv 22
  have hA : Below w.heap.size w (w.alloc (.cells #[.slice ao n c] 22)) := (Below.refl _ _).alloc (Nat.le_refl _) _
  replace ht := ht.below hA
  replace BB := BB.trans (hA.mono BB.size)
  go_enter Tryd.func3, Tryd.ntmps3
  go_wp2_with fail
  refine (few7_at F _ 1 (fun _ => n) (fun _ => t) _ M1).mono ?_
  rintro e w1 ⟨r, rfl, MO, b1⟩
  replace ht := ht.below b1
  replace BB := BB.trans (b1.mono BB.size)
  clear b1
  obtain ⟨ar, cr, rfl⟩ := MO.form
  clear M1 hA
  have MR := MO.row
  clear MO
  generalize hnn : min n 15 = nn at MR
  clear hnn
  have MR : MRow w1 (.slice ar 1 cr) 1 (fun _ => nn) (fun _ => t) 4 := MR
  (try rw [show min 1 6 = 1 by omega])
  obtain ⟨bT, oT, cT, aT, dT, hvv, hcc, XT, TR⟩ := MR.at (i := 0) (by omega)
  cases hvv
  rw [Nat.add_zero] at XT
  have XC : Cel10 w1 bT oT (.slice aT nn dT) := ⟨XT⟩
  clear XT
  obtain ⟨W3, hW3, hS3, hL3, VM⟩ := V2.lay w1 25 (.int .i64 F) (.slice (some ⟨bT, oT, none⟩) 1 cr)
  obtain ⟨q1, q2, q3, q4⟩ := id VM
  rw [hW3] at q1 q2 q3 q4
  have x9 := (XC.below hL3).cell
  rw [hW3] at x9
  go_wp2_with fail
  clear q1 q2 q3 q4 x9 XC
  rw [← hW3]
  clear hW3 hS3
  replace ht := ht.below hL3
  replace MR := MR.below hL3
  replace TR := TR.below hL3
  replace BB := BB.trans (hL3.mono BB.size)
  clear hL3
  generalize w1.heap.size = R3 at *
  obtain ⟨B, hB⟩ : ∃ B, mayB F 1 (fun _ => nn) (fun _ => t) = B := ⟨_, rfl⟩
  have HB : Hid (mayB F 1 (fun _ => nn) (fun _ => t) = B) := hB
  clear hB
  cases B
  · refine (leaves8_no F _ nn t 4 _ TR ht (by omega) (by omega) HB.out).mono ?_
    rintro e w6 ⟨rfl, b6⟩
    replace ht := ht.below b6
    replace MR := MR.below b6
    replace TR := TR.below b6
    replace VM := VM.below b6
    replace BB := BB.trans (b6.mono BB.size)
    clear b6
    go_wp2_with fail
    refine (depth8_no F _ nn t 4 _ TR ht (by omega) (by omega) HB.out).mono ?_
    rintro e w7 ⟨rfl, b7⟩
    replace ht := ht.below b7
    replace MR := MR.below b7
    replace TR := TR.below b7
    replace VM := VM.below b7
    replace BB := BB.trans (b7.mono BB.size)
    clear b7
    obtain ⟨VM_0, VM_1, VM_2, VM_3⟩ := id VM
    go_wp2_with fail
    clear VM_0 VM_1 VM_2 VM_3
    refine (lcheck_at F _ 1 (fun _ => nn) (fun _ => t) 4 _ MR ht (by omega) (by omega)).mono ?_
    rintro e w8 ⟨u2, rfl, HC2, b8⟩
    replace ht := ht.below b8
    replace MR := MR.below b8
    replace TR := TR.below b8
    replace VM := VM.below b8
    replace BB := BB.trans (b8.mono BB.size)
    clear b8
    obtain ⟨a, s, d, rfl, hz⟩ := HC2.open
    have ha0 : ¬ a = 0 := by have h9 := mayB_of HC2; rw [HB.out] at h9; exact of_decide_eq_false h9
    have hab : (a != 0) = true := by simpa using ha0
    clear HC2 hz
    obtain ⟨W21, hW21, hS21, hL21, VF⟩ := V4.lay w8 32 (.int .i64 a) (.int .i64 0) (.int .i64 s) (.int .i64 d)
    obtain ⟨⟨y1, y2, y3, y4, y5, y6⟩, y7, y8⟩ := id VF
    rw [hW21] at y1 y2 y3 y4 y5 y6 y7 y8
    go_wp2_with fail
    clear y1 y2 y3 y4 y5 y6 y7 y8
    rw [← hW21]
    clear hW21 hS21
    replace ht := ht.below hL21
    replace MR := MR.below hL21
    replace TR := TR.below hL21
    replace VM := VM.below hL21
    replace BB := BB.trans (hL21.mono BB.size)
    clear hL21
    refine (awake8_at _ ht).mono ?_
    rintro e w9 ⟨rfl, b9⟩
    replace ht := ht.below b9
    replace MR := MR.below b9
    replace TR := TR.below b9
    replace VM := VM.below b9
    replace BB := BB.trans (b9.mono BB.size)
    clear b9
    go_wp2
    go_ret
    exact ⟨rfl, BB⟩
  · obtain ⟨hF0, hF64, hk64, hmy⟩ := mayB_may HB.out
    have HMY : Hid (MayT F t nn) := hmy 0 (by omega)
    clear hmy hk64 hF0 hF64
    obtain ⟨zs, hzs⟩ : ∃ zs, lvs t nn 0 = zs := ⟨_, rfl⟩
    obtain ⟨m, hm⟩ : ∃ m, zs.length = m := ⟨_, rfl⟩
    have HZS : Hid (lvs t nn 0 = zs) := hzs
    have HLM : Hid (zs.length = m) := hm
    have hm2 : 2 * m = nn + 1 := by
      have h1 := HMY.out.count HMY.out.pos
      rw [HMY.out.pre_count8, hzs, hm] at h1
      exact h1
    have hn255 := HMY.out.few
    have hn1 := HMY.out.pos
    have HIN : Hid (∀ x, x ∈ zs → x < nn) := fun x hx => by
      rw [← hzs] at hx
      exact ((HMY.out.pre_sub HMY.out.pos) x (List.mem_filter.1 hx).1).1
    have HCV : Hid (covS t zs = (t 0).cov) := by
      have h1 := HMY.out.covers HMY.out.pos
      rw [hzs] at h1
      exact h1
    clear hzs hm
    refine (leaves8_yes F _ nn t 4 _ TR ht (by omega) (by omega) HB.out HMY.out).mono ?_
    rintro e w6 ⟨u0, rfl, LO, b6⟩
    replace ht := ht.below b6
    replace MR := MR.below b6
    replace TR := TR.below b6
    replace VM := VM.below b6
    replace BB := BB.trans (b6.mono BB.size)
    clear b6
    rw [HZS.out] at LO
    obtain ⟨gl, cl, rfl, hlc⟩ := LO.open (by have := HLM.out; omega)
    rw [HLM.out] at LO hlc ⊢
    go_wp2_with fail
    refine (depth8_yes F _ nn t 4 _ TR ht (by omega) (by omega) HB.out HMY.out).mono ?_
    rintro e w7 ⟨rfl, b7⟩
    replace ht := ht.below b7
    replace MR := MR.below b7
    replace TR := TR.below b7
    replace LO := LO.below b7
    replace VM := VM.below b7
    replace BB := BB.trans (b7.mono BB.size)
    clear b7
    have HDP : Hid (dp t nn 0 ≤ nn) := by have := HMY.out.dp_le HMY.out.pos; exact (by omega : dp t nn 0 ≤ nn)
    generalize hdp : dp t nn 0 = dd at *
    have HDD : Hid (dp t nn 0 = dd) := hdp
    clear hdp
    obtain ⟨VM_0, VM_1, VM_2, VM_3⟩ := id VM
    go_wp2_with fail
    clear VM_0 VM_1 VM_2 VM_3
    refine (lcheck_at F _ 1 (fun _ => nn) (fun _ => t) 4 _ MR ht (by omega) (by omega)).mono ?_
    rintro e w8 ⟨u2, rfl, HC2, b8⟩
    replace ht := ht.below b8
    replace MR := MR.below b8
    replace TR := TR.below b8
    replace LO := LO.below b8
    replace VM := VM.below b8
    replace BB := BB.trans (b8.mono BB.size)
    clear b8
    obtain ⟨a, s, d, rfl, hz⟩ := HC2.open
    have ha0 : a = 0 := by have h9 := mayB_of HC2; rw [HB.out] at h9; exact of_decide_eq_true h9
    obtain ⟨rfl, rfl⟩ := hz ha0
    subst ha0
    clear HC2 hz
    obtain ⟨W21, hW21, hS21, hL21, VF⟩ := V4.lay w8 32 (.int .i64 0) (.int .i64 0) (.int .i64 0) (.int .i64 0)
    obtain ⟨⟨y1, y2, y3, y4, y5, y6⟩, y7, y8⟩ := id VF
    rw [hW21] at y1 y2 y3 y4 y5 y6 y7 y8
    go_wp2_with fail
    clear y1 y2 y3 y4 y5 y6 y7 y8
    rw [← hW21]
    clear hW21 hS21
    replace ht := ht.below hL21
    replace MR := MR.below hL21
    replace TR := TR.below hL21
    replace LO := LO.below hL21
    replace VM := VM.below hL21
    replace BB := BB.trans (hL21.mono BB.size)
    clear hL21 VF
    refine (lleaves8_at F _ nn 0 t 4 _ HMY.out HMY.out.pos TR).mono ?_
    rintro e w9 ⟨u1, rfl, WO, b9⟩
    replace ht := ht.below b9
    replace MR := MR.below b9
    replace TR := TR.below b9
    replace LO := LO.below b9
    replace VM := VM.below b9
    replace BB := BB.trans (b9.mono BB.size)
    clear b9
    rw [HZS.out] at WO
    obtain ⟨gw, cw, rfl, hwc⟩ := WO.open (by have := HLM.out; omega)
    rw [HLM.out] at WO hwc ⊢
    go_wp2_with fail
    refine (qzero_at _).mono ?_
    rintro e w10 ⟨x0, rfl, hx0, b10⟩
    replace ht := ht.below b10
    replace MR := MR.below b10
    replace TR := TR.below b10
    replace LO := LO.below b10
    replace WO := WO.below b10
    replace VM := VM.below b10
    replace BB := BB.trans (b10.mono BB.size)
    clear b10
    obtain ⟨p0, a0, n0, c0, b0, m0, d0, rfl⟩ := hx0.open
    have ht0 : Hid (Tab w10) := ht
    have TR0 : Hid (TRow w10 (.slice aT nn dT) nn t 4) := TR
    have LO0 : Hid (∀ j x : Nat, zs[j]? = some x → w10.cell? ⟨gl, j, none⟩ = some (.int .i64 (x : Int))) := fun j x hx => LO.cell HLM.out.symm hx
    have WO0 : Hid (∀ j x : Nat, zs[j]? = some x → w10.cell? ⟨gw, j, none⟩ = some (.int .i64 (x : Int))) := fun j x hx => WO.cell HLM.out.symm hx
    have BB0 : Hid (Below w.heap.size w w10) := BB
    obtain ⟨W9, hW9, hS9, hL9, VS⟩ := V3.lay w10 40 (.bool p0) (.slice a0 n0 c0) (.slice b0 m0 d0)
    obtain ⟨s1, s2, s3, s4, s5, s6⟩ := id VS
    rw [hW9] at s1 s2 s3 s4 s5 s6
    have wm : IntKind.i64.wrap (2 * (m : Int)) = 2 * (m : Int) := by rw [IntKind.wrap_i64]; omega
    have wn : IntKind.i64.wrap ((nn : Int) + 1) = 2 * (m : Int) := by rw [IntKind.wrap_i64]; omega
    go_wp2_with fail
    clear s1 s2 s3 s4 s5 s6
    rw [← hW9]
    clear hW9 hS9
    have RQ := hx0.below hL9
    clear hx0 ht TR MR VM LO WO BB
    refine (ldepth8_at _ nn t 4 F _ HMY.out (TR0.out.below hL9)).mono ?_
    rintro e wD ⟨rfl, bD⟩
    rw [HDD.out]
    replace VS := VS.below bD
    replace RQ := RQ.below bD
    have BL := hL9.trans (bD.mono hL9.size)
    clear bD hL9
    have RQ : RepQ wD (.agg #[.bool p0, .slice a0 n0 c0, .slice b0 m0 d0]) (covS t (zs.take 0)) := RQ
    go_wp2
    have HSZ : Hid (∀ x, x < nn → qsz (t x).cov ≤ 4) := fun x hx => by obtain ⟨b, off, cc, p1, a1, n1, c1, b1, m1, d1, p2, a2, n2, c2, b2, m2, d2, p3, a3, n3, c3, b3, m3, d3, hvv, hcc, hc6, NN, r1, r2, r3, i1, i2, i3⟩ := TR0.out.at hx; exact r3.qsz (by omega)
    go_loopw [11] (fun vi wr => ∃ (i : Nat) (p : Bool) (a : Option Addr) (n c : Nat) (b : Option Addr) (k d : Nat), i ≤ m ∧ vi = .int .i64 (i : Int) ∧ V3 wr w10.heap.size (.bool p) (.slice a n c) (.slice b k d) ∧ RepQ wr (.agg #[.bool p, .slice a n c, .slice b k d]) (covS t (zs.take i)) ∧ Below w10.heap.size w10 wr) (fun vi _ => m - (intOf vi).toNat)
    case atStart => exact ⟨0, p0, a0, n0, c0, b0, m0, d0, by omega, rfl, VS, RQ, BL⟩
    case round =>
      clear VS RQ BL
      obtain ⟨i, p9, a9, n9, c9, b9, k9, d9, hi, rfl, VS, RQ, BB⟩ := hrel
      have HQS : Hid (qsz (covS t (zs.take i)) ≤ 2000) := cov_few (HSZ.out) (HIN.out) (by have := HLM.out; omega) i
      by_cases hlt : i < m
      · obtain ⟨x, hx⟩ : ∃ x, zs[i]? = some x := ⟨_, List.getElem?_eq_getElem (by have := HLM.out; omega)⟩
        have hxn : x < nn := HIN.out x (List.mem_of_getElem? hx)
        have HTK : Hid (covS t (zs.take (i + 1)) = covS t (zs.take i) + (t x).cov) := cov_take hx
        have XL : Hid (Cel10 w10 gl i (.int .i64 (x : Int))) := ⟨LO0.out i x hx⟩
        have XW : Hid (Cel10 w10 gw i (.int .i64 (x : Int))) := ⟨WO0.out i x hx⟩
        clear hx
        have f0 : (0 : Int) ≤ (i : Int) := by omega
        have f1 : (i : Int) < (m : Int) := by omega
        have wi : IntKind.i64.wrap ((i : Int) + 1) = (i : Int) + 1 := by rw [IntKind.wrap_i64]; omega
        have g0 : (0 : Int) ≤ (x : Int) := by omega
        have g1 : (x : Int) < (nn : Int) := by omega
        obtain ⟨b, off, cc, p1, a1, n1, c1, b1, m1, d1, p2, a2, n2, c2, b2, m2, d2, p3, a3, n3, c3, b3, m3, d3, hvv, hcc_, hc6, NN, r1, r2, r3, i1, i2, i3⟩ := TR0.out.at hxn
        cases hvv
        have X0 : Hid (Cel10 w10 b (off + x * 14 + 11) (.bool p3)) := ⟨NN.c11⟩
        have X1 : Hid (Cel10 w10 b (off + x * 14 + 11 + 1) (.slice a3 n3 c3)) := ⟨NN.c12⟩
        have X2 : Hid (Cel10 w10 b (off + x * 14 + 11 + 2) (.slice b3 m3 d3)) := ⟨NN.c13⟩
        have H3 : Hid (RatAt w10 (.agg #[.bool p3, .slice a3 n3 c3, .slice b3 m3 d3]) (t x).cov 4) := r3
        clear NN r1 r2 r3 i1 i2 i3
        go_wp2
        have hDr : Below wr.heap.size wr wr.drew := (Below.refl _ _).drew
        replace RQ := RQ.below hDr
        replace VS := VS.below hDr
        replace BB := BB.trans (hDr.mono BB.size)
        clear hDr
        refine wp_region_held_drew (S := (fun w' => w'.cell? ⟨gl, i, none⟩ = some (.int .i64 (x : Int)) ∧ w'.cell? ⟨gw, i, none⟩ = some (.int .i64 (x : Int)))) (by kernel_rfl) ?_ (fun hHeld => ?_)
        · exact ⟨(XL.out.below BB).cell, (XW.out.below BB).cell⟩
        generalize wr.drew = W61 at *
        refine wpAnyH_take (i := 0) (v := ?_) (by simp only [List.getElem?_toArray, List.getElem?_cons_succ, List.getElem?_cons_zero]; rfl) (by kernel_rfl) (by kernel_rfl) (by kernel_rfl) (by exact fun _ _ _ h => h) (Or.inl ⟨by rfl, ?_⟩) (by assumption) ?_
        rotate_left
        · (intro w hSw; (try dsimp only at hSw); go_simp; (try with_reducible rfl))
        (try simp only [Act.put, List.setIfInBounds_toArray, List.set_cons_zero, List.set_cons_succ])
        refine wpAnyH_take (i := 1) (v := ?_) (by simp only [List.getElem?_toArray, List.getElem?_cons_succ, List.getElem?_cons_zero]; rfl) (by kernel_rfl) (by kernel_rfl) (by kernel_rfl) (by exact fun _ _ _ h => h) (Or.inl ⟨by rfl, ?_⟩) (by assumption) ?_
        rotate_left
        · (intro w hSw; (try dsimp only at hSw); go_simp; (try with_reducible rfl))
        (try simp only [Act.put, List.setIfInBounds_toArray, List.set_cons_zero, List.set_cons_succ])
        refine wpAnyH_take (i := 2) (v := ?_) (by simp only [List.getElem?_toArray, List.getElem?_cons_succ, List.getElem?_cons_zero]; rfl) (by kernel_rfl) (by kernel_rfl) (by kernel_rfl) (by exact fun _ _ _ h => h) (Or.inl ⟨by rfl, ?_⟩) (by assumption) ?_
        rotate_left
        · (intro w hSw; (try dsimp only at hSw); go_simp; (try with_reducible rfl))
        (try simp only [Act.put, List.setIfInBounds_toArray, List.set_cons_zero, List.set_cons_succ])
        refine wpAnyH_take (i := 3) (v := ?_) (by simp only [List.getElem?_toArray, List.getElem?_cons_succ, List.getElem?_cons_zero]; rfl) (by kernel_rfl) (by kernel_rfl) (by kernel_rfl) (by exact fun _ _ _ h => h) (Or.inl ⟨by rfl, ?_⟩) (by assumption) ?_
        rotate_left
        · (intro w hSw; (try dsimp only at hSw); go_simp; (try with_reducible rfl))
        (try simp only [Act.put, List.setIfInBounds_toArray, List.set_cons_zero, List.set_cons_succ])
        refine wpAnyH_take (i := 4) (v := ?_) (by simp only [List.getElem?_toArray, List.getElem?_cons_succ, List.getElem?_cons_zero]; rfl) (by kernel_rfl) (by kernel_rfl) (by kernel_rfl) (by exact fun _ _ _ h => h) (Or.inl ⟨by rfl, ?_⟩) (by assumption) ?_
        rotate_left
        · (intro w hSw; (try dsimp only at hSw); go_simp; (try with_reducible rfl))
        (try simp only [Act.put, List.setIfInBounds_toArray, List.set_cons_zero, List.set_cons_succ])
        refine wpAnyH_take (i := 5) (v := ?_) (by simp only [List.getElem?_toArray, List.getElem?_cons_succ, List.getElem?_cons_zero]; rfl) (by kernel_rfl) (by kernel_rfl) (by kernel_rfl) (by exact fun _ _ _ h => h) (Or.inl ⟨by rfl, ?_⟩) (by assumption) ?_
        rotate_left
        · (intro w hSw; (try dsimp only at hSw); go_simp; (try with_reducible rfl))
        (try simp only [Act.put, List.setIfInBounds_toArray, List.set_cons_zero, List.set_cons_succ])
        refine wpAnyH_take (i := 6) (v := ?_) (by simp only [List.getElem?_toArray, List.getElem?_cons_succ, List.getElem?_cons_zero]; rfl) (by kernel_rfl) (by kernel_rfl) (by kernel_rfl) (by exact fun _ _ _ h => h) (Or.inl ⟨by rfl, ?_⟩) (by assumption) ?_
        rotate_left
        · (intro w hSw; (try dsimp only at hSw); go_simp; (try with_reducible rfl))
        (try simp only [Act.put, List.setIfInBounds_toArray, List.set_cons_zero, List.set_cons_succ])
        refine wpAnyH_take (i := 7) (v := ?_) (by simp only [List.getElem?_toArray, List.getElem?_cons_succ, List.getElem?_cons_zero]; rfl) (by kernel_rfl) (by kernel_rfl) (by kernel_rfl) (by exact fun _ _ _ h => h) (Or.inl ⟨by rfl, ?_⟩) (by assumption) ?_
        rotate_left
        · (intro w hSw; (try dsimp only at hSw); go_simp; (try with_reducible rfl))
        (try simp only [Act.put, List.setIfInBounds_toArray, List.set_cons_zero, List.set_cons_succ])
        refine wpAnyH_take (i := 8) (v := ?_) (by simp only [List.getElem?_toArray, List.getElem?_cons_succ, List.getElem?_cons_zero]; rfl) (by kernel_rfl) (by kernel_rfl) (by kernel_rfl) (by exact fun _ _ _ h => h) (Or.inl ⟨by rfl, ?_⟩) (by assumption) ?_
        rotate_left
        · (intro w hSw; (try dsimp only at hSw); go_simp; (try with_reducible rfl))
        (try simp only [Act.put, List.setIfInBounds_toArray, List.set_cons_zero, List.set_cons_succ])
        refine wpAnyH_done (by kernel_rfl) ?_ _
        clear hHeld
        go_wp2
        have hDr : Below W61.heap.size W61 W61.drew := (Below.refl _ _).drew
        replace RQ := RQ.below hDr
        replace VS := VS.below hDr
        replace BB := BB.trans (hDr.mono BB.size)
        clear hDr
        refine wp_region_held_drew (S := (fun w' => w'.cell? ⟨gl, i, none⟩ = some (.int .i64 (x : Int)) ∧ w'.cell? ⟨b, off + x * 14 + 11, none⟩ = some (.bool p3) ∧ w'.cell? ⟨b, off + x * 14 + 11 + 1, none⟩ = some (.slice a3 n3 c3) ∧ w'.cell? ⟨b, off + x * 14 + 11 + 2, none⟩ = some (.slice b3 m3 d3))) (by kernel_rfl) ?_ (fun hHeld => ?_)
        · exact ⟨(XL.out.below BB).cell, (X0.out.below BB).cell, (X1.out.below BB).cell, (X2.out.below BB).cell⟩
        generalize W61.drew = W62 at *
        refine wpAnyH_take (i := 1) (v := ?_) (by simp only [List.getElem?_toArray, List.getElem?_cons_succ, List.getElem?_cons_zero]; rfl) (by kernel_rfl) (by kernel_rfl) (by kernel_rfl) (by exact fun _ _ _ h => h) (Or.inl ⟨by rfl, ?_⟩) (by assumption) ?_
        rotate_left
        · (intro w hSw; (try dsimp only at hSw); go_simp; (try with_reducible rfl))
        (try simp only [Act.put, List.setIfInBounds_toArray, List.set_cons_zero, List.set_cons_succ])
        refine wpAnyH_take (i := 2) (v := ?_) (by simp only [List.getElem?_toArray, List.getElem?_cons_succ, List.getElem?_cons_zero]; rfl) (by kernel_rfl) (by kernel_rfl) (by kernel_rfl) (by exact fun _ _ _ h => h) (Or.inl ⟨by rfl, ?_⟩) (by assumption) ?_
        rotate_left
        · (intro w hSw; (try dsimp only at hSw); go_simp; (try with_reducible rfl))
        (try simp only [Act.put, List.setIfInBounds_toArray, List.set_cons_zero, List.set_cons_succ])
        refine wpAnyH_take (i := 3) (v := ?_) (by simp only [List.getElem?_toArray, List.getElem?_cons_succ, List.getElem?_cons_zero]; rfl) (by kernel_rfl) (by kernel_rfl) (by kernel_rfl) (by exact fun _ _ _ h => h) (Or.inl ⟨by rfl, ?_⟩) (by assumption) ?_
        rotate_left
        · (intro w hSw; (try dsimp only at hSw); go_simp; (try with_reducible rfl))
        (try simp only [Act.put, List.setIfInBounds_toArray, List.set_cons_zero, List.set_cons_succ])
        refine wpAnyH_take (i := 4) (v := ?_) (by simp only [List.getElem?_toArray, List.getElem?_cons_succ, List.getElem?_cons_zero]; rfl) (by kernel_rfl) (by kernel_rfl) (by kernel_rfl) (by exact fun _ _ _ h => h) (Or.inl ⟨by rfl, ?_⟩) (by assumption) ?_
        rotate_left
        · (intro w hSw; (try dsimp only at hSw); go_simp; (try with_reducible rfl))
        (try simp only [Act.put, List.setIfInBounds_toArray, List.set_cons_zero, List.set_cons_succ])
        refine wpAnyH_take (i := 5) (v := ?_) (by simp only [List.getElem?_toArray, List.getElem?_cons_succ, List.getElem?_cons_zero]; rfl) (by kernel_rfl) (by kernel_rfl) (by kernel_rfl) (by exact fun _ _ _ h => h) (Or.inl ⟨by rfl, ?_⟩) (by assumption) ?_
        rotate_left
        · (intro w hSw; (try dsimp only at hSw); go_simp; (try with_reducible rfl))
        (try simp only [Act.put, List.setIfInBounds_toArray, List.set_cons_zero, List.set_cons_succ])
        refine wpAnyH_take (i := 6) (v := ?_) (by simp only [List.getElem?_toArray, List.getElem?_cons_succ, List.getElem?_cons_zero]; rfl) (by kernel_rfl) (by kernel_rfl) (by kernel_rfl) (by exact fun _ _ _ h => h) (Or.inl ⟨by rfl, ?_⟩) (by assumption) ?_
        rotate_left
        · (intro w hSw; (try dsimp only at hSw); go_simp; (try with_reducible rfl))
        (try simp only [Act.put, List.setIfInBounds_toArray, List.set_cons_zero, List.set_cons_succ])
        refine wpAnyH_take (i := 7) (v := ?_) (by simp only [List.getElem?_toArray, List.getElem?_cons_succ, List.getElem?_cons_zero]; rfl) (by kernel_rfl) (by kernel_rfl) (by kernel_rfl) (by exact fun _ _ _ h => h) (Or.inl ⟨by rfl, ?_⟩) (by assumption) ?_
        rotate_left
        · (intro w hSw; (try dsimp only at hSw); go_simp; (try with_reducible rfl))
        (try simp only [Act.put, List.setIfInBounds_toArray, List.set_cons_zero, List.set_cons_succ])
        refine wpAnyH_take (i := 8) (v := ?_) (by simp only [List.getElem?_toArray, List.getElem?_cons_succ, List.getElem?_cons_zero]; rfl) (by kernel_rfl) (by kernel_rfl) (by kernel_rfl) (by exact fun _ _ _ h => h) (Or.inl ⟨by rfl, ?_⟩) (by assumption) ?_
        rotate_left
        · (intro w hSw; (try dsimp only at hSw); go_simp; (try with_reducible rfl))
        (try simp only [Act.put, List.setIfInBounds_toArray, List.set_cons_zero, List.set_cons_succ])
        refine wpAnyH_ready (rs := [0]) (by kernel_rfl) (by simp) ?_
        refine AllReadyH.cons (by simp only [List.getElem?_toArray, List.getElem?_cons_succ, List.getElem?_cons_zero]; rfl) (fun K hK => ?_) AllReadyH.nil
        obtain ⟨VS_0, VS_1, VS_2, VS_3, VS_4, VS_5⟩ := id VS
        go_simp
        clear VS_0 VS_1 VS_2 VS_3 VS_4 VS_5
        refine hK.out _ _ ?_ (fun hH1 => ?_)
        · exact ⟨(XL.out.below BB).cell, (X0.out.below BB).cell, (X1.out.below BB).cell, (X2.out.below BB).cell⟩
        clear hK K hHeld
        (try simp only [Act.put, List.setIfInBounds_toArray, List.set_cons_zero, List.set_cons_succ])
        refine wpAnyH_ready (rs := [9]) (by kernel_rfl) (by simp) ?_
        refine AllReadyH.cons (by simp only [List.getElem?_toArray, List.getElem?_cons_succ, List.getElem?_cons_zero]; rfl) (fun K hK => ?_) AllReadyH.nil
        go_simp
        refine (qadd_at _ _ (covS t (zs.take i)) (t x).cov 2000 _ (RQ.at _ HQS.out) ((H3.out.below BB).le (by omega)) (by omega) (by omega) (ht0.out.below BB)).mono ?_
        rintro e w21 ⟨x8, rfl, h8, b21⟩
        rw [← HTK.out] at h8
        obtain ⟨p8, a8, n8, c8, b8, k8, d8, rfl⟩ := h8.open
        go_wp2_with fail
        replace RQ := RQ.below b21
        replace VS := VS.below b21
        replace BB := BB.trans (b21.mono BB.size)
        clear b21
        refine hK.out _ _ ?_ (fun hH2 => ?_)
        · exact ⟨(XL.out.below BB).cell, (X0.out.below BB).cell, (X1.out.below BB).cell, (X2.out.below BB).cell⟩
        clear hK K hH1
        (try simp only [Act.put, List.setIfInBounds_toArray, List.set_cons_zero, List.set_cons_succ])
        refine wpAnyH_ready (rs := [10]) (by kernel_rfl) (by simp) ?_
        refine AllReadyH.cons (by simp only [List.getElem?_toArray, List.getElem?_cons_succ, List.getElem?_cons_zero]; rfl) (fun K hK => ?_) AllReadyH.nil
        have hKp := VS.keepJ (.bool p8) (.slice a8 n8 c8) (.slice b8 k8 d8)
        have VS_n := VS.same (.bool p8) (.slice a8 n8 c8) (.slice b8 k8 d8)
        have RQ_n := RQ.keep hKp
        have h8_n := h8.keep hKp
        have BB_n := below_store3 (R := w10.heap.size) BB (by omega) (.bool p8) (.slice a8 n8 c8) (.slice b8 k8 d8)
        clear hKp
        obtain ⟨VS_0, VS_1, VS_2, VS_3, VS_4, VS_5⟩ := id VS
        go_simp
        clear VS_0 VS_1 VS_2 VS_3 VS_4 VS_5
        clear BB RQ h8 VS
        generalize ((w21.setCell ⟨w10.heap.size, 0, none⟩ (.bool p8)).setCell ⟨w10.heap.size, 1, none⟩ (.slice a8 n8 c8)).setCell ⟨w10.heap.size, 2, none⟩ (.slice b8 k8 d8) = W63 at *
        have BB := BB_n
        have RQ := RQ_n
        have h8 := h8_n
        have VS := VS_n
        clear BB_n RQ_n h8_n VS_n
        refine hK.out _ _ ?_ (fun hH3 => ?_)
        · exact ⟨(XL.out.below BB).cell, (X0.out.below BB).cell, (X1.out.below BB).cell, (X2.out.below BB).cell⟩
        clear hK K hH2
        (try simp only [Act.put, List.setIfInBounds_toArray, List.set_cons_zero, List.set_cons_succ])
        refine wpAnyH_done (by kernel_rfl) ?_ _
        clear hH3
        go_wp2
        go_roundw
        case rel => exact ⟨i + 1, p8, a8, n8, c8, b8, k8, d8, by omega, by go_num, VS, h8, BB⟩
        case measure => simp [intOf]; omega
      · obtain rfl : i = m := by omega
        have f1 : ¬ (i : Int) < (i : Int) := by omega
        have e0 : zs.take i = zs := List.take_of_length_le (by have := HLM.out; omega)
        rw [e0, HCV.out] at RQ HQS
        clear e0
        have g1 : 0 < nn := by omega
        obtain ⟨b, off, cc, p1, a1, n1, c1, b1, m1, d1, p2, a2, n2, c2, b2, m2, d2, p3, a3, n3, c3, b3, m3, d3, hvv, hcc_, hc6, NN, r1, r2, r3, i1, i2, i3⟩ := TR0.out.at (show 0 < nn by omega)
        cases hvv
        rw [Nat.zero_mul, Nat.add_zero] at NN
        have X0 : Hid (Cel10 w10 b (off + 11) (.bool p3)) := ⟨NN.c11⟩
        have X1 : Hid (Cel10 w10 b (off + 11 + 1) (.slice a3 n3 c3)) := ⟨NN.c12⟩
        have X2 : Hid (Cel10 w10 b (off + 11 + 2) (.slice b3 m3 d3)) := ⟨NN.c13⟩
        have H3 : Hid (RatAt w10 (.agg #[.bool p3, .slice a3 n3 c3, .slice b3 m3 d3]) (t 0).cov 4) := r3
        clear NN r1 r2 r3 i1 i2 i3
        go_wp2
        have hDr : Below wr.heap.size wr wr.drew := (Below.refl _ _).drew
        replace RQ := RQ.below hDr
        replace VS := VS.below hDr
        replace BB := BB.trans (hDr.mono BB.size)
        clear hDr
        refine wp_region_held_drew (S := (fun w' => w'.cell? ⟨w10.heap.size, 0, none⟩ = some (.bool p9) ∧ w'.cell? ⟨w10.heap.size, 1, none⟩ = some (.slice a9 n9 c9) ∧ w'.cell? ⟨w10.heap.size, 2, none⟩ = some (.slice b9 k9 d9) ∧ w'.cell? ⟨b, off + 11, none⟩ = some (.bool p3) ∧ w'.cell? ⟨b, off + 11 + 1, none⟩ = some (.slice a3 n3 c3) ∧ w'.cell? ⟨b, off + 11 + 2, none⟩ = some (.slice b3 m3 d3))) (by kernel_rfl) ?_ (fun hHeld => ?_)
        · exact ⟨VS.1, VS.2.1, VS.2.2.1, (X0.out.below BB).cell, (X1.out.below BB).cell, (X2.out.below BB).cell⟩
        generalize wr.drew = W71 at *
        refine wpAnyH_take (i := 0) (v := ?_) (by simp only [List.getElem?_toArray, List.getElem?_cons_succ, List.getElem?_cons_zero]; rfl) (by kernel_rfl) (by kernel_rfl) (by kernel_rfl) (by exact fun _ _ _ h => h) (Or.inl ⟨by rfl, ?_⟩) (by assumption) ?_
        rotate_left
        · (intro w hSw; (try dsimp only at hSw); go_simp; (try with_reducible rfl))
        (try simp only [Act.put, List.setIfInBounds_toArray, List.set_cons_zero, List.set_cons_succ])
        refine wpAnyH_take (i := 1) (v := ?_) (by simp only [List.getElem?_toArray, List.getElem?_cons_succ, List.getElem?_cons_zero]; rfl) (by kernel_rfl) (by kernel_rfl) (by kernel_rfl) (by exact fun _ _ _ h => h) (Or.inl ⟨by rfl, ?_⟩) (by assumption) ?_
        rotate_left
        · (intro w hSw; (try dsimp only at hSw); go_simp; (try with_reducible rfl))
        (try simp only [Act.put, List.setIfInBounds_toArray, List.set_cons_zero, List.set_cons_succ])
        refine wpAnyH_take (i := 2) (v := ?_) (by simp only [List.getElem?_toArray, List.getElem?_cons_succ, List.getElem?_cons_zero]; rfl) (by kernel_rfl) (by kernel_rfl) (by kernel_rfl) (by exact fun _ _ _ h => h) (Or.inl ⟨by rfl, ?_⟩) (by assumption) ?_
        rotate_left
        · (intro w hSw; (try dsimp only at hSw); go_simp; (try with_reducible rfl))
        (try simp only [Act.put, List.setIfInBounds_toArray, List.set_cons_zero, List.set_cons_succ])
        refine wpAnyH_take (i := 3) (v := ?_) (by simp only [List.getElem?_toArray, List.getElem?_cons_succ, List.getElem?_cons_zero]; rfl) (by kernel_rfl) (by kernel_rfl) (by kernel_rfl) (by exact fun _ _ _ h => h) (Or.inl ⟨by rfl, ?_⟩) (by assumption) ?_
        rotate_left
        · (intro w hSw; (try dsimp only at hSw); go_simp; (try with_reducible rfl))
        (try simp only [Act.put, List.setIfInBounds_toArray, List.set_cons_zero, List.set_cons_succ])
        refine wpAnyH_take (i := 4) (v := ?_) (by simp only [List.getElem?_toArray, List.getElem?_cons_succ, List.getElem?_cons_zero]; rfl) (by kernel_rfl) (by kernel_rfl) (by kernel_rfl) (by exact fun _ _ _ h => h) (Or.inl ⟨by rfl, ?_⟩) (by assumption) ?_
        rotate_left
        · (intro w hSw; (try dsimp only at hSw); go_simp; (try with_reducible rfl))
        (try simp only [Act.put, List.setIfInBounds_toArray, List.set_cons_zero, List.set_cons_succ])
        refine wpAnyH_ready (rs := [5]) (by kernel_rfl) (by simp) ?_
        refine AllReadyH.cons (by simp only [List.getElem?_toArray, List.getElem?_cons_succ, List.getElem?_cons_zero]; rfl) (fun K hK => ?_) AllReadyH.nil
        go_simp
        refine (qsame_at _ _ (t 0).cov (t 0).cov 2000 _ (RQ.at _ HQS.out) ((H3.out.below BB).le (by omega)) (by omega) (by omega)).mono ?_
        rintro e w31 ⟨rfl, b31⟩
        rw [decide_eq_true rfl]
        go_wp2_with fail
        replace RQ := RQ.below b31
        replace VS := VS.below b31
        replace BB := BB.trans (b31.mono BB.size)
        clear b31
        refine hK.out _ _ ?_ (fun hH1 => ?_)
        · exact ⟨VS.1, VS.2.1, VS.2.2.1, (X0.out.below BB).cell, (X1.out.below BB).cell, (X2.out.below BB).cell⟩
        clear hK K hHeld
        (try simp only [Act.put, List.setIfInBounds_toArray, List.set_cons_zero, List.set_cons_succ])
        refine wpAnyH_take (i := 6) (v := ?_) (by simp only [List.getElem?_toArray, List.getElem?_cons_succ, List.getElem?_cons_zero]; rfl) (by kernel_rfl) (by kernel_rfl) (by kernel_rfl) (by exact fun _ _ _ h => h) (Or.inl ⟨by rfl, ?_⟩) (by assumption) ?_
        rotate_left
        · (intro w hSw; (try dsimp only at hSw); go_simp; (try with_reducible rfl))
        (try simp only [Act.put, List.setIfInBounds_toArray, List.set_cons_zero, List.set_cons_succ])
        refine wpAnyH_ready (rs := [7]) (by kernel_rfl) (by simp) ?_
        refine AllReadyH.cons (by simp only [List.getElem?_toArray, List.getElem?_cons_succ, List.getElem?_cons_zero]; rfl) (fun K hK => ?_) AllReadyH.nil
        go_simp
        refine (awake8_at _ (ht0.out.below BB)).mono ?_
        rintro e w32 ⟨rfl, b32⟩
        go_wp2_with fail
        replace RQ := RQ.below b32
        replace VS := VS.below b32
        replace BB := BB.trans (b32.mono BB.size)
        clear b32
        refine hK.out _ _ ?_ (fun hH2 => ?_)
        · exact ⟨VS.1, VS.2.1, VS.2.2.1, (X0.out.below BB).cell, (X1.out.below BB).cell, (X2.out.below BB).cell⟩
        clear hK K hH1
        (try simp only [Act.put, List.setIfInBounds_toArray, List.set_cons_zero, List.set_cons_succ])
        refine wpAnyH_take (i := 8) (v := ?_) (by simp only [List.getElem?_toArray, List.getElem?_cons_succ, List.getElem?_cons_zero]; rfl) (by kernel_rfl) (by kernel_rfl) (by kernel_rfl) (by exact fun _ _ _ h => h) (Or.inl ⟨by rfl, ?_⟩) (by assumption) ?_
        rotate_left
        · (intro w hSw; (try dsimp only at hSw); go_simp; (try with_reducible rfl))
        (try simp only [Act.put, List.setIfInBounds_toArray, List.set_cons_zero, List.set_cons_succ])
        refine wpAnyH_take (i := 9) (v := ?_) (by simp only [List.getElem?_toArray, List.getElem?_cons_succ, List.getElem?_cons_zero]; rfl) (by kernel_rfl) (by kernel_rfl) (by kernel_rfl) (by exact fun _ _ _ h => h) (Or.inl ⟨by rfl, ?_⟩) (by assumption) ?_
        rotate_left
        · (intro w hSw; (try dsimp only at hSw); go_simp; (try with_reducible rfl))
        (try simp only [Act.put, List.setIfInBounds_toArray, List.set_cons_zero, List.set_cons_succ])
        refine wpAnyH_done (by kernel_rfl) ?_ _
        clear hH2
        go_wp2
        go_ret
        exact ⟨rfl, BB0.out.trans (BB.mono BB0.out.size)⟩

theorem own : ownKnob Tryd.prog.godebug = none := by kernel_rfl
theorem laidOut : laidOutB Tryd.prog = true := by kernel_rfl

abbrev laid1 : List (String × DataW Unit) := [("math/bits.deBruijn64tab", Rows.laid_math_bits_deBruijn64tab)]
theorem gTab : Tryd.prog.globalNamed "math/bits.deBruijn64tab" = some 0 := by kernel_rfl
theorem gTabType : (Tryd.prog.globals[0]?).map (·.type) = some 126 := by kernel_rfl
theorem uTab : Tryd.prog.underlying 126 = some (.array 64 5) := by kernel_rfl
theorem uCell : Tryd.prog.underlying 5 = some (.int .u8) := by kernel_rfl
theorem cCell : Tryd.prog.cellsOf 5 = 1 := by kernel_rfl
theorem cTab : Tryd.prog.cellsOf 126 = 64 := by kernel_rfl
/-- The listed table lies in its cells. -/
theorem tab_of {W : World} (h : laidMetH Tryd.prog laid1 W) : Tab W := by
  rw [MakeChecks.laidMetH_plain _ _ _ (by kernel_rfl)] at h
  have hd : laid1 = [("math/bits.deBruijn64tab", Lib.tabData .u8 (Lib.deBruijn64tab.map fun (n : Nat) => Int.ofNat n))] := rfl
  rw [hd] at h
  have hT := Lib.tabIs_of_head gTab gTabType uTab uCell cCell cTab h
  intro i hi
  have hc := hT.cell gTab i (by rw [List.length_map]; exact hi)
  rw [hc]
  congr 2
  rw [List.getD_eq_getElem?_getD, List.getElem?_map, List.getD_eq_getElem?_getD]
  cases Lib.deBruijn64tab[i]? <;> rfl
/-- A start for the witness: the heap that the run of the program's own initialisers leaves. -/
noncomputable def startW (os : Os) : World := { World.holding Tryd.prog os ⟨#[], #[], []⟩ with heap := (varsWorld Tryd.prog 400 (varsId Tryd.prog) os (fun _ _ => 0)).heap }
theorem start_met (os : Os) (args : Array Value) : laidMetH Tryd.prog laid1 ((startW os).forCall (fun _ _ => 0) ⟨#[], args, []⟩).memory :=
  laidMetH_of_parts3 (fuel := 8) (laidMet_of_run' 8 (by kernel_rfl) (by kernel_rfl)) (by kernel_rfl) (by kernel_rfl)

set_option maxRecDepth 100000 in
theorem lifted (os : Os) (started : os.Started) (H : Type) (enc : TypeId × Value → H) :
    ReturnsInHanded {} Tryd.checked os 3 .any (fun w args => (Rows.validLeavesSpec.pre enc Tryd.prog Tryd.f3 [] false w args ∧ laidMetH Tryd.prog laid1 w) ∧ sizedMet enc Tryd.prog Tryd.f3 (OpenSpec.ofChange Rows.validLeavesSpec) false w args) (Rows.validLeavesSpec.post enc Tryd.prog Tryd.f3 false true false false) := by
  refine returnsInHanded_of_change_and (C := Tryd.checked) (X := fun w _ => laidMetH Tryd.prog laid1 w) (fun _ _ _ hh h => h.of_heap hh) own started (by kernel_rfl) Tryd.func3
    (ChangeSpec.witness_shaped (enc := enc) (C := Tryd.checked) (os := os) (X := fun w _ => laidMetH Tryd.prog laid1 w) false (startW os) #[.slice none 0 0, .int .i64 0] 8 rfl (World.shaped_of_RefB (by kernel_rfl) (by kernel_rfl)) (by kernel_rfl) (by kernel_rfl) (by kernel_rfl) (start_met os _)) ?_
  intro W base args ds gs before hval0 hW _ _ hL _
  have hval : ∀ (j : Nat) t v, Tryd.f3.params[j]? = some t → args[j]? = some v → Value.okWide Tryd.prog W .any base t v := hval0
  have hW' := hW
  obtain ⟨p, q, hA0, hV, rfl, hfz, hnd⟩ := hW
  have hA : DataW.TrodAll enc Tryd.prog W 0 (fun _ => true) true Tryd.f3.params.toList args.toList ds p := hA0
  rw [Tryd.params3] at hA hval
  obtain ⟨v0, vs0, d0, ds0, p0, q0, hargs, rfl, rfl, h0, r0⟩ := trodAll_cons hA
  obtain ⟨v1, vs1, d1, ds1, p1, q1, rfl, rfl, rfl, h1, r1⟩ := trodAll_cons r0
  obtain ⟨rfl, rfl, rfl⟩ := trodAll_nil r1
  obtain rfl : args = #[v0, v1] := by cases args; simp_all
  obtain ⟨rfl, rfl⟩ := trodVars_none hV
  have k0 := h0
  have lt0 : ∀ x ∈ p0, x.block < W.heap.size := by obtain ⟨m, hm⟩ := k0; exact DataW.trod_lt m _ _ _ hm
  obtain ⟨n0, z0, w0⟩ := open_nodes 4 (hval 0 22 v0 rfl rfl) h0
  obtain ⟨a1, rfl, rfl, rfl, w1⟩ := open_int Tryd.underlying3 (hval 1 3 v1 rfl rfl) h1
  clear hA0 hval0
  refine (walk _ _ _ a1 W w0 w1 (tab_of hL)).mono fun e W' ⟨he, bel⟩ => ?_
  subst he
  exact ⟨_, rfl, _, _, _, [], _, [], hW', trodAll_mk1 (shut_bool Tryd.underlying4 _), (trodAll_cons_mk (Below.trod laidOut (by kernel_rfl) (of_decide_eq_true (by kernel_rfl)) k0 bel lt0) (trodAll_cons_mk (shut_int Tryd.underlying3 w1) trodAll_mk0)), rfl, bel.frame _, fun h => by cases h⟩

theorem over : Rows.validLeavesRow.holds Tryd.pinned (OpenSpec.ofChange Rows.validLeavesSpec) :=
  OpenClaim.holds_of_wide 3 Tryd.f3 rfl rfl rfl rfl rfl rfl rfl ⟨rfl, rfl, rfl, rfl, rfl⟩ rfl rfl rfl rfl rfl (by kernel_rfl) Tryd.func3 (by kernel_rfl)
    (of_decide_eq_true (by kernel_rfl)) (by unfold Func.isWrapper; first | (rw [if_pos (by decide +kernel)]; kernel_rfl) | (rw [if_neg (by decide +kernel)]; exact ⟨rfl, rfl⟩))
    (fun os started H enc _ => lifted os started H enc)

end Go.Proofs.YtgddiimnpliolaaDoor.validLeaves
namespace Go.Proofs.YtgddiimnpliolaaDoor
/-- The statement: the row, tied to the text of the program. -/
theorem validLeaves_holds : Rows.ValidLeavesCardSaid :=
  Claim7.holds_tied_plain_at .later [] [.data] true (true, "456af802cdee95ae23ed01af2acc19d58be20befe2c00b4fb431ef1b1445b6f4") false
    validLeaves.over (fun _ h => by cases h) (by kernel_rfl) (fun _ h => by cases h) validLeaves_row_tie rfl ⟨rfl, rfl⟩ (by kernel_rfl) rfl
    (fun f fn hf hfn => by
      obtain rfl : f = 3 := Option.some.inj ((show Tryd.prog.funcNamed "dendron/dendronlaw08.ValidLeaves" = some 3 by kernel_rfl).symm.trans hf) |>.symm
      obtain rfl : fn = Tryd.f3 := (Option.some.inj (Tryd.func3.symm.trans hfn)).symm
      exact ⟨by kernel_rfl, fun j t ht => by
        rw [Tryd.params3] at ht
        have hm : t ∈ [22, 3] := by simpa using Array.mem_of_getElem? ht
        have hall : ([22, 3].all fun u => !Tryd.prog.wantsStandIn u) = true := by kernel_rfl
        exact (show Tryd.prog.wantsStandIn t = false by simpa using List.all_eq_true.1 hall t hm)⟩)
    (by kernel_rfl)
end Go.Proofs.YtgddiimnpliolaaDoor
