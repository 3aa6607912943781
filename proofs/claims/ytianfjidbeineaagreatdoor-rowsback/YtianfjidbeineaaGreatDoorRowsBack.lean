/-
  Proves that a row of up to 12 entries, and up to 12 such rows, are read again from their text, but for one empty row, whose text is that of none, whatever comes in (the statement RowsBack, its tied card); the table of math/bits lies as the program's text lays it; no other condition.
-/
import Derived.Test.YtianfjidbeineaaGreatDoorRows
import Derived.Test.YtianfjidbeineaaGreatDoorJe3525c03a9
import Derived.Test.YtianfjidbeineaaGreatDoorJ85cdcbe3e0
import Derived.Test.YtianfjidbeineaaGreatDoorJ695a547fab
import Derived.WalkKit
import Derived.ProofKit
import Derived.OpenShut
import Derived.ShutString
import Derived.ChangeOld
import Derived.Below
import Derived.Test.YtianfjidbeineaaGreatDoorTie
import Derived.Test.YtianfjidbeineaaGreatDoorCards
import Derived.LaidByTextLater
import Derived.LaidHandle
import Derived.Lib.LaidTab
import Derived.SevenTiedAt
namespace Go.Proofs.YtianfjidbeineaaGreatDoor.rowsBack
open Go.ChangeShapes Go.WideShapes Go.ChangeAt Go.RowKit
open Go.ChangeMaps (open_string shut_string)
set_option linter.unusedVariables false
set_option linter.unusedSimpArgs false

def Cell1 (w : World) (b o : Nat) (v : Value) : Prop := w.cell? ⟨b, o, none⟩ = some v
theorem Cell1.below {w w' : World} {b o : Nat} {v : Value} (h : Cell1 w b o v) (hb : Below w.heap.size w w') : Cell1 w' b o v := (hb.cell (World.block_lt_of_cell? w _ h)).trans h
theorem Cell1.out {w : World} {b o : Nat} {v : Value} (h : Cell1 w b o v) : w.cell? ⟨b, o, none⟩ = some v := h
theorem shortAll {w : World} {v : Value} {k : Nat} {N : Nat → Nat} {R : Nat → Nat → Cl} {qs : List (Nat × Nat)} (h : ARow w v k N R 3) (hk : k ≤ 12) (hN : ∀ i, N i ≤ 12) (hq : scan (allTxt k N R) 0 [] = .ok qs) (hs : (allTxt k N R).size ≤ 2000000) : ShortS 200 (allTxt k N R) := by
  refine ⟨hs, fun ws hw => ?_⟩
  rw [hq] at hw
  cases hw
  have hl : (toks (allTxt k N R) 0 0 qs).length ≤ 4096 := by rw [toks_length]; exact scan_len _ 0 [] qs (by simp) hq
  have hg : ∀ r ∈ rowsR k N R, ∀ u ∈ r, GoodW u ∧ u.length ≤ 70 := fun r hr u hu => by
    simp only [rowsR, List.mem_map, List.mem_range] at hr
    obtain ⟨i, hi, rfl⟩ := hr
    refine ⟨(wordsR_good _ _ u hu).1, ?_⟩
    simp only [wordsR, List.map_map, List.mem_map, List.mem_range] at hu
    obtain ⟨j, hj, rfl⟩ := hu
    obtain ⟨_, _, _, _, _, _, _, _, Rr⟩ := h.at hi
    obtain ⟨_, _, _, _, _, _, _, _, _, _, _, _, _, _, _, _, _, X9⟩ := Rr.at hj
    have := ctxt_size (R i j) 3 (X9.qsz (by omega))
    show (ctxt (R i j)).data.toList.length ≤ 70
    simpa using this
  have hp := parsed_rows (rowsR k N R) (fun r hr u hu => (hg r hr u hu).1)
  rw [← allTxt_bytes] at hp
  have hbl : (barred (rowsR k N R)).length ≤ 156 := by
    have := barred_len (rowsR k N R) (fun r hr => by
      simp only [rowsR, List.mem_map, List.mem_range] at hr
      obtain ⟨i, hi, rfl⟩ := hr
      rw [wordsR_len]; exact hN i)
    have e : (rowsR k N R).length = k := by simp [rowsR]
    rw [e] at this; omega
  obtain ⟨ps, p1, p2⟩ := parsed_all hp (by omega)
  rw [hq] at p1
  cases p1
  have hb : ∀ rows : List (List (List UInt8)), (∀ r ∈ rows, ∀ u ∈ r, u.length ≤ 70) → ∀ u ∈ barred rows, u.length ≤ 70 := fun rows => by
    induction rows using barred.induct with
    | case1 => intro _ u hu; simp [barred] at hu
    | case2 r => intro h9 u hu; exact h9 r (by simp) u hu
    | case3 r s rs ih =>
      intro h9 u hu
      simp only [barred, List.mem_append, List.mem_cons] at hu
      rcases hu with hu | rfl | hu
      · exact h9 r (by simp) u hu
      · decide
      · exact ih (fun x hx => h9 x (by simp at hx ⊢; exact .inr hx)) u hu
  refine ⟨by omega, fun i hi => ?_⟩
  have h8 := toks_txt p2 i
  have hs9 : (tx (toks (allTxt k N R) 0 0 qs) i).size ≤ 70 := by
    have h7 : (tx (toks (allTxt k N R) 0 0 qs) i).data.toList.length = (tx (toks (allTxt k N R) 0 0 qs) i).size := by simp
    rw [← h7, h8]
    rw [toks_len p2] at hi
    rw [List.getD_eq_getElem?_getD, List.getElem?_eq_getElem hi]
    exact hb _ (fun r hr u hu => (hg r hr u hu).2) _ (List.getElem_mem hi)
  exact ⟨by omega, short9 _ (by omega)⟩

set_option maxRecDepth 100000 in
set_option maxHeartbeats 32000000 in
theorem walk (u : Value) (n1 : Nat) (r1 : Nat → Cl) (v : Value) (k1 : Nat) (N1 : Nat → Nat) (R1 : Nat → Nat → Cl) (w : World) (h1 : CRaw w u n1 r1 3) (h2 : ARaw w v k1 N1 R1 3) (ht : Tab w) :
    Calls Tryz.prog 5 #[u, v] w fun e w' => e = .returned (.bool true) ∧ Below w.heap.size w w' := by
  have BB : Below w.heap.size w w := Below.refl _ _
  obtain ⟨a0, c0, rfl, _, _⟩ := h1.open
  obtain ⟨b0, d0, rfl, _, _⟩ := h2.open
  go_enter Tryz.func5, Tryz.ntmps5
  go_wp2_with fail
  refine (few9_at _ n1 12 r1 _ h1 (by omega)).mono ?_
  rintro e w1 ⟨ra, rfl, CA0, b1⟩
  replace ht := ht.below b1
  replace BB := BB.trans (b1.mono BB.size)
  clear b1
  obtain ⟨aa, ca, rfl⟩ := CA0.form
  have CA := CA0.row
  have h2 := h2.below BB
  clear CA0 h1
  go_wp2_with fail
  refine (all9_at _ k1 12 12 N1 R1 _ h2 (by omega) (by omega)).mono ?_
  rintro e w2 ⟨rb, rfl, AB0, b2⟩
  replace ht := ht.below b2
  replace CA := CA.below b2
  replace BB := BB.trans (b2.mono BB.size)
  clear b2
  obtain ⟨ab, cb, rfl⟩ := AB0.form
  have AB := AB0.row
  clear AB0 h2
  obtain ⟨n, hn⟩ : ∃ n, min n1 12 = n := ⟨_, rfl⟩
  obtain ⟨k, hk⟩ : ∃ k, min k1 12 = k := ⟨_, rfl⟩
  have hn12 : n ≤ 12 := by omega
  have hk12 : k ≤ 12 := by omega
  rw [hn] at CA ⊢
  rw [hk] at AB ⊢
  clear hn hk
  obtain ⟨N, hN⟩ : ∃ N : Nat → Nat, (fun i => min (N1 i) 12) = N := ⟨_, rfl⟩
  have HN12 : Hid (∀ i, N i ≤ 12) := fun i => by rw [← hN]; exact Nat.min_le_right _ _
  rw [hN] at AB
  clear hN
  go_wp2_with fail
  refine (rwrite9_at _ n r1 _ CA (by omega) ht).mono ?_
  rintro e w3 ⟨rfl, b3⟩
  replace ht := ht.below b3
  replace CA := CA.below b3
  replace AB := AB.below b3
  replace BB := BB.trans (b3.mono BB.size)
  clear b3
  obtain ⟨ps, hps, hlen, htx⟩ := row_back n r1 (by omega)
  have hsz := rowTxt_size n r1 (fun i hi => by obtain ⟨_, _, _, _, _, _, _, _, _, _, _, _, _, _, _, _, _, X9⟩ := CA.at hi; exact X9.qsz (by omega))
  have hsz9 : n * (70 + 1) ≤ 12 * 71 := Nat.mul_le_mul_right _ hn12
  have HSH : Hid (ShortS 200 (rowTxt n r1)) := ⟨by omega, fun ws hw => by
    rw [hps] at hw; cases hw
    refine ⟨by omega, fun i hi => ?_⟩
    rw [hlen] at hi
    rw [htx i hi]
    have h9 : (ctxt (r1 i)).size ≤ 70 := by obtain ⟨_, _, _, _, _, _, _, _, _, _, _, _, _, _, _, _, _, X9⟩ := CA.at hi; have := ctxt_size (r1 i) 3 (X9.qsz (by omega)); omega
    exact ⟨by omega, short9 _ (by omega)⟩⟩
  have HPS : Hid (scan (rowTxt n r1) 0 [] = .ok ps ∧ (toks (rowTxt n r1) 0 0 ps).length = n ∧ ∀ i, i < n → tx (toks (rowTxt n r1) 0 0 ps) i = ctxt (r1 i)) := ⟨hps, hlen, htx⟩
  clear hps hlen htx hsz hsz9
  generalize rowTxt n r1 = s1 at *
  go_wp2_with fail
  refine (rrow_at s1 200 _ HSH.out ht).mono ?_
  rintro e w4 ⟨hr, b4⟩
  replace ht := ht.below b4
  replace CA := CA.below b4
  replace AB := AB.below b4
  replace BB := BB.trans (b4.mono BB.size)
  clear b4
  have hr2 : WordsRes (toks s1 0 0 ps) 200 w3.heap.size e w4 := by unfold RowRes at hr; rw [HPS.out.1] at hr; exact hr
  obtain ⟨ax, cx, rfl, CX0⟩ := words_is hr2
  have hbw : badW (toks s1 0 0 ps) = none := badW_none (fun j hj => by rw [HPS.out.2.1] at hj; rw [HPS.out.2.2 j hj]; exact ctxt_err _)
  obtain ⟨e1, e2, e3⟩ := we_none hbw
  rw [HPS.out.2.1] at e3
  rw [e3] at CX0 ⊢
  rw [e1, e2]
  have CX : CRow w4 (.slice ax n cx) n (fun i => cval (ctxt (r1 i))) 200 := (CX0.congr (fun i hi => by rw [HPS.out.2.2 i hi])).row
  clear hr hr2 CX0 hbw e1 e2 e3 HSH HPS
  go_wp2_with fail
  refine (rwriteall9_at _ k N R1 _ AB (by omega) (fun i _ => by have := HN12.out i; omega) ht).mono ?_
  rintro e w5 ⟨rfl, b5⟩
  replace ht := ht.below b5
  replace CA := CA.below b5
  replace AB := AB.below b5
  replace CX := CX.below b5
  replace BB := BB.trans (b5.mono BB.size)
  clear b5
  by_cases hone : k = 1 ∧ N 0 = 0
  · obtain ⟨rfl, hN0⟩ := hone
    have hempty : allTxt 1 N R1 = { data := #[] } := bytes_eq (by rw [allTxt_bytes]; show Lib.join [Lib.join (wordsR (N 0) (R1 0)) [32]] [32, 124, 32] = []; rw [Lib.join_one, List.eq_nil_of_length_eq_zero (show (wordsR (N 0) (R1 0)).length = 0 by rw [wordsR_len]; exact hN0)]; rfl)
    have hsc : scan { data := #[] } 0 [] = .ok [] := scan_end (by decide)
    have HSH2 : Hid (ShortS 200 { data := #[] }) := ⟨by decide, fun ws hw => by
      rw [hsc] at hw; cases hw
      exact ⟨by decide, fun i hi => by simp [toks] at hi⟩⟩
    have HSC : Hid (scan { data := #[] } 0 [] = .ok []) := hsc
    have HEM : Hid (allTxt 1 N R1 = { data := #[] }) := hempty
    rw [hempty]
    clear hsc hempty
    go_wp2_with fail
    refine (rrows_at { data := #[] } 200 _ HSH2.out ht).mono ?_
    rintro e w6 ⟨hr, b6⟩
    replace ht := ht.below b6
    replace CA := CA.below b6
    replace AB := AB.below b6
    replace CX := CX.below b6
    replace BB := BB.trans (b6.mono BB.size)
    clear b6
    have hr2 : PartsRes [] 200 w5.heap.size e w6 := by unfold RowsRes at hr; rw [HSC.out] at hr; exact hr
    obtain ⟨ay, cy, rfl, AY0⟩ := parts_is hr2
    have hz := rp_fine (l := []) (fun j hj => by simp [partsOf] at hj)
    have hz1 : rk [] = 0 := hz.1
    rw [hz1, hz.2.1, hz.2.2]
    clear hr hr2 AY0 hz hz1 HSC HSH2
    have CX3 := CX
    go_wp2_with fail
    clear CX3
    have CA9 := CA.mono (show 3 ≤ 200 by omega)
    refine (jequal9_at _ _ n n _ r1 200 _ CX CA9 (by omega) (by omega)).mono ?_
    rintro e w7 ⟨rfl, b7⟩
    replace ht := ht.below b7
    replace CA := CA.below b7
    replace AB := AB.below b7
    replace CX := CX.below b7
    replace CA9 := CA9.below b7
    replace BB := BB.trans (b7.mono BB.size)
    clear b7
    rw [eqR_yes (fun i _ => sameC_back _)]
    go_wp2_with fail
    refine (requal9_at _ _ n n _ r1 200 _ CX CA9 (by omega) (by omega)).mono ?_
    rintro e w8 ⟨rfl, b8⟩
    replace ht := ht.below b8
    replace CA := CA.below b8
    replace AB := AB.below b8
    replace CX := CX.below b8
    replace CA9 := CA9.below b8
    replace BB := BB.trans (b8.mono BB.size)
    clear b8
    rw [eqR_yes (fun i _ => sameC_back _)]
    obtain ⟨bT, oT, cT, aT, dT, hvv, hcc, XT, TR⟩ := AB.at (i := 0) (by omega)
    cases hvv
    rw [hN0, Nat.add_zero] at XT
    go_wp2_with fail
    refine (rwriteall9_at _ 1 N R1 _ AB (by omega) (fun i _ => by have := HN12.out i; omega) ht).mono ?_
    rintro e w9 ⟨rfl, b9⟩
    replace ht := ht.below b9
    replace CA := CA.below b9
    replace AB := AB.below b9
    replace CX := CX.below b9
    replace CA9 := CA9.below b9
    replace BB := BB.trans (b9.mono BB.size)
    clear b9
    rw [HEM.out]
    go_wp2_with fail
    refine (awake9_at _ ht).mono ?_
    rintro e w10 ⟨rfl, b10⟩
    replace ht := ht.below b10
    replace CA := CA.below b10
    replace AB := AB.below b10
    replace CX := CX.below b10
    replace CA9 := CA9.below b10
    replace BB := BB.trans (b10.mono BB.size)
    clear b10
    go_wp2
    go_ret
    exact ⟨rfl, BB⟩
  · obtain ⟨qs, hqs, hplen, hpt⟩ := rows_back k N R1 hk12 (fun i _ => HN12.out i) hone
    have hsz2 : (allTxt k N R1).size ≤ k * (10000 + 3) := joinT_size k 10000 3 _ _ (by decide) (fun i hi => by
      obtain ⟨_, _, _, _, _, _, _, _, Rr⟩ := AB.at hi
      have h1 := rowTxt_size (N i) (R1 i) (fun j hj => by obtain ⟨_, _, _, _, _, _, _, _, _, _, _, _, _, _, _, _, _, X9⟩ := Rr.at hj; exact X9.qsz (by omega))
      have h3 : N i * (70 + 1) ≤ 12 * (70 + 1) := Nat.mul_le_mul_right _ (HN12.out i)
      omega)
    have hsz3 : k * (10000 + 3) ≤ 12 * 10003 := Nat.mul_le_mul_right _ hk12
    have HSH2 : Hid (ShortS 200 (allTxt k N R1)) := shortAll AB hk12 HN12.out hqs (by omega)
    have HQS : Hid (scan (allTxt k N R1) 0 [] = .ok qs) := hqs
    obtain ⟨l2, hl2⟩ : ∃ l, toks (allTxt k N R1) 0 0 qs = l := ⟨_, rfl⟩
    rw [hl2] at hplen hpt
    have HL2 : Hid (toks (allTxt k N R1) 0 0 qs = l2) := hl2
    have HPL : Hid ((partsOf l2).length = k) := hplen
    have HPT : Hid (∀ i, i < k → (pAt l2 i).2 = N i ∧ ∀ j, j < N i → tx l2 ((pAt l2 i).1 + j) = ctxt (R1 i j)) := hpt
    have HFI : Hid (∀ j, j < k → badW (part9 l2 (pAt l2 j)) = none) := fun j hj => fine_bad (partsOf_in (List.mem_of_getElem? (pAt_in (by rw [HPL.out]; exact hj)))) (fun x hx => by
      have h9 := HPT.out j hj
      rw [h9.1] at hx
      rw [h9.2 x hx]; exact ctxt_err _)
    clear hqs hplen hpt hsz2 hsz3 hl2
    generalize allTxt k N R1 = s2 at *
    go_wp2_with fail
    refine (rrows_at s2 200 _ HSH2.out ht).mono ?_
    rintro e w6 ⟨hr, b6⟩
    replace ht := ht.below b6
    replace CA := CA.below b6
    replace AB := AB.below b6
    replace CX := CX.below b6
    replace BB := BB.trans (b6.mono BB.size)
    clear b6
    have hr2 : PartsRes l2 200 w5.heap.size e w6 := by unfold RowsRes at hr; rw [HQS.out] at hr; rw [← HL2.out]; exact hr
    obtain ⟨ay, cy, rfl, AY0⟩ := parts_is hr2
    have hz := rp_fine (l := l2) (by rw [HPL.out]; exact HFI.out)
    rw [HPL.out] at hz
    rw [hz.1] at AY0 ⊢
    rw [hz.2.1, hz.2.2]
    have AY := AY0.row
    clear hr hr2 AY0 hz HSH2 HQS HL2
    go_wp2_with fail
    have CA9 := CA.mono (show 3 ≤ 200 by omega)
    refine (jequal9_at _ _ n n _ r1 200 _ CX CA9 (by omega) (by omega)).mono ?_
    rintro e w7 ⟨rfl, b7⟩
    replace ht := ht.below b7
    replace CA := CA.below b7
    replace AB := AB.below b7
    replace CX := CX.below b7
    replace AY := AY.below b7
    replace CA9 := CA9.below b7
    replace BB := BB.trans (b7.mono BB.size)
    clear b7
    rw [eqR_yes (fun i _ => sameC_back _)]
    go_wp2_with fail
    refine (requal9_at _ _ n n _ r1 200 _ CX CA9 (by omega) (by omega)).mono ?_
    rintro e w8 ⟨rfl, b8⟩
    replace ht := ht.below b8
    replace CA := CA.below b8
    replace AB := AB.below b8
    replace CX := CX.below b8
    replace AY := AY.below b8
    replace CA9 := CA9.below b8
    replace BB := BB.trans (b8.mono BB.size)
    clear b8
    rw [eqR_yes (fun i _ => sameC_back _)]
    have AB0 : Hid (ARow w8 (.slice ab k cb) k N R1 3) := AB
    have AY0 : Hid (ARow w8 (.slice ay k cy) k (fun i => (pAt l2 i).2) (fun i j => cval (tx l2 ((pAt l2 i).1 + j))) 200) := AY
    have ht0 : Hid (Tab w8) := ht
    have BB0 : Hid (Below w.heap.size w w8) := BB
    obtain ⟨_, _, ea, ha1, ha2⟩ := AB.open
    cases ea
    obtain ⟨_, _, eb, hb1, hb2⟩ := AY.open
    cases eb
    clear ht CA CX AY CA9 BB
    by_cases hk1 : k = 1
    · have hN0 : ¬ N 0 = 0 := fun h9 => hone ⟨hk1, h9⟩
      obtain ⟨bT, oT, cT, aT, dT, hvv, hcc, XT, TR⟩ := AB.at (i := 0) (by omega)
      cases hvv
      rw [Nat.add_zero] at XT
      clear TR AB
      have hk1i : (k : Int) = 1 := by omega
      have hk1b : ((k : Int) == 1) = true := by simpa using hk1i
      have hNz : ¬ (N 0 : Int) = 0 := by omega
      have hNb : ((N 0 : Int) == 0) = false := by simpa using hNz
      have HK1 : Hid (k = 1) := hk1
      clear hk1 hone hN0
      go_wp2
      clear XT
      (try clear hk1i)
      (try clear hk1b)
      (try clear hNz)
      (try clear hNb)
      clear hcc
      generalize (some ⟨bT, oT, none⟩ : Option Addr) = ab at *
      go_loopw [11] (fun vi wr => ∃ i : Nat, i ≤ k ∧ vi = .int .i64 (i : Int) ∧ Below w8.heap.size w8 wr) (fun vi _ => k - (intOf vi).toNat)
      case atStart => exact ⟨0, by omega, rfl, Below.refl _ _⟩
      case round =>
        obtain ⟨i, hi, rfl, BR⟩ := hrel
        by_cases hlt : i < k
        · have g1 : (i : Int) < (k : Int) := by omega
          have g0 : (0 : Int) ≤ (i : Int) := by omega
          obtain ⟨b1, o1, c1, a1, d1, hv1, hc1, X1, Q1⟩ := (AY0.out.below BR).at hlt
          cases hv1
          obtain ⟨b2, o2, c2, a2, d2, hv2, hc2, X2, Q2⟩ := (AB0.out.below BR).at hlt
          cases hv2
          have hpt := HPT.out i hlt
          have X1 : wr.cell? ⟨b1, o1 + i, none⟩ = some (.slice a1 (pAt l2 i).2 d1) := X1
          have Q1 : CRow wr (.slice a1 (pAt l2 i).2 d1) (pAt l2 i).2 (fun j => cval (tx l2 ((pAt l2 i).1 + j))) 200 := Q1
          rw [hpt.1] at X1 Q1
          have Q1 : CRow wr (.slice a1 (N i) d1) (N i) (fun j => cval (ctxt (R1 i j))) 200 := Q1.congr (fun j hj => by rw [hpt.2 j hj])
          have Q2 := Q2.mono (show 3 ≤ 200 by omega)
          clear hpt
          have C1 : Cell1 wr b1 (o1 + i) (.slice a1 (N i) d1) := X1
          have C2 : Cell1 wr b2 (o2 + i) (.slice a2 (N i) d2) := X2
          clear X1 X2
          generalize N i = m at *
          have BB := BR
          clear BR
          go_wp2
          have hDr : Below wr.heap.size wr wr.drew := (Below.refl _ _).drew
          replace C1 := C1.below hDr
          replace C2 := C2.below hDr
          replace Q1 := Q1.below hDr
          replace Q2 := Q2.below hDr
          replace BB := BB.trans (hDr.mono BB.size)
          clear hDr
          refine wp_region_held_drew (S := (fun w' => w'.cell? ⟨b1, o1 + i, none⟩ = some (.slice a1 m d1) ∧ w'.cell? ⟨b2, o2 + i, none⟩ = some (.slice a2 m d2))) (by kernel_rfl) ?_ (fun hHeld => ?_)
          · exact ⟨C1.out, C2.out⟩
          generalize wr.drew = W91 at *
          refine wpAnyH_take (i := 0) (v := ?_) (by simp only [List.getElem?_toArray, List.getElem?_cons_succ, List.getElem?_cons_zero]; rfl) (by kernel_rfl) (by kernel_rfl) (by kernel_rfl) (by exact fun _ _ _ h => h) (Or.inl ⟨by rfl, ?_⟩) (by assumption) ?_
          rotate_left
          · (intro w hSw; (try dsimp only at hSw); go_simp; (try with_reducible rfl))
          (try simp only [Act.put, List.setIfInBounds_toArray, List.set_cons_zero, List.set_cons_succ])
          refine wpAnyH_take (i := 1) (v := ?_) (by simp only [List.getElem?_toArray, List.getElem?_cons_succ, List.getElem?_cons_zero]; rfl) (by kernel_rfl) (by kernel_rfl) (by kernel_rfl) (by exact fun _ _ _ h => h) (Or.inl ⟨by rfl, ?_⟩) (by assumption) ?_
          rotate_left
          · (intro w hSw; (try dsimp only at hSw); go_simp; (try with_reducible rfl))
          (try simp only [Act.put, List.setIfInBounds_toArray, List.set_cons_zero, List.set_cons_succ])
          refine wpAnyH_take (i := 2) (v := ?_) (by simp only [List.getElem?_toArray, List.getElem?_cons_succ, List.getElem?_cons_zero]; rfl) (by kernel_rfl) (by kernel_rfl) (by kernel_rfl) (by exact fun _ _ _ h => h) (Or.inl ⟨by rfl, ?_⟩) (by assumption) ?_
          rotate_left
          · (intro w hSw; (try dsimp only at hSw); go_simp; (try with_reducible rfl))
          (try simp only [Act.put, List.setIfInBounds_toArray, List.set_cons_zero, List.set_cons_succ])
          refine wpAnyH_take (i := 3) (v := ?_) (by simp only [List.getElem?_toArray, List.getElem?_cons_succ, List.getElem?_cons_zero]; rfl) (by kernel_rfl) (by kernel_rfl) (by kernel_rfl) (by exact fun _ _ _ h => h) (Or.inl ⟨by rfl, ?_⟩) (by assumption) ?_
          rotate_left
          · (intro w hSw; (try dsimp only at hSw); go_simp; (try with_reducible rfl))
          (try simp only [Act.put, List.setIfInBounds_toArray, List.set_cons_zero, List.set_cons_succ])
          refine wpAnyH_take (i := 4) (v := ?_) (by simp only [List.getElem?_toArray, List.getElem?_cons_succ, List.getElem?_cons_zero]; rfl) (by kernel_rfl) (by kernel_rfl) (by kernel_rfl) (by exact fun _ _ _ h => h) (Or.inl ⟨by rfl, ?_⟩) (by assumption) ?_
          rotate_left
          · (intro w hSw; (try dsimp only at hSw); go_simp; (try with_reducible rfl))
          (try simp only [Act.put, List.setIfInBounds_toArray, List.set_cons_zero, List.set_cons_succ])
          refine wpAnyH_take (i := 5) (v := ?_) (by simp only [List.getElem?_toArray, List.getElem?_cons_succ, List.getElem?_cons_zero]; rfl) (by kernel_rfl) (by kernel_rfl) (by kernel_rfl) (by exact fun _ _ _ h => h) (Or.inl ⟨by rfl, ?_⟩) (by assumption) ?_
          rotate_left
          · (intro w hSw; (try dsimp only at hSw); go_simp; (try with_reducible rfl))
          (try simp only [Act.put, List.setIfInBounds_toArray, List.set_cons_zero, List.set_cons_succ])
          refine wpAnyH_take (i := 6) (v := ?_) (by simp only [List.getElem?_toArray, List.getElem?_cons_succ, List.getElem?_cons_zero]; rfl) (by kernel_rfl) (by kernel_rfl) (by kernel_rfl) (by exact fun _ _ _ h => h) (Or.inl ⟨by rfl, ?_⟩) (by assumption) ?_
          rotate_left
          · (intro w hSw; (try dsimp only at hSw); go_simp; (try with_reducible rfl))
          (try simp only [Act.put, List.setIfInBounds_toArray, List.set_cons_zero, List.set_cons_succ])
          refine wpAnyH_take (i := 7) (v := ?_) (by simp only [List.getElem?_toArray, List.getElem?_cons_succ, List.getElem?_cons_zero]; rfl) (by kernel_rfl) (by kernel_rfl) (by kernel_rfl) (by exact fun _ _ _ h => h) (Or.inl ⟨by rfl, ?_⟩) (by assumption) ?_
          rotate_left
          · (intro w hSw; (try dsimp only at hSw); go_simp; (try with_reducible rfl))
          (try simp only [Act.put, List.setIfInBounds_toArray, List.set_cons_zero, List.set_cons_succ])
          refine wpAnyH_ready (rs := [8]) (by kernel_rfl) (by simp) ?_
          refine AllReadyH.cons (by simp only [List.getElem?_toArray, List.getElem?_cons_succ, List.getElem?_cons_zero]; rfl) (fun K hK => ?_) AllReadyH.nil
          go_simp
          refine (jequal9_at _ _ m m _ _ 200 _ Q1 Q2 (by omega) (by omega)).mono ?_
          rintro e w91 ⟨rfl, b91⟩
          rw [eqR_yes (fun i _ => sameC_back _)]
          go_wp2_with fail
          replace C1 := C1.below b91
          replace C2 := C2.below b91
          replace Q1 := Q1.below b91
          replace Q2 := Q2.below b91
          replace BB := BB.trans (b91.mono BB.size)
          clear b91
          refine hK.out _ _ ?_ (fun hH1 => ?_)
          · exact ⟨C1.out, C2.out⟩
          clear hK K hHeld
          (try simp only [Act.put, List.setIfInBounds_toArray, List.set_cons_zero, List.set_cons_succ])
          refine wpAnyH_take (i := 9) (v := ?_) (by simp only [List.getElem?_toArray, List.getElem?_cons_succ, List.getElem?_cons_zero]; rfl) (by kernel_rfl) (by kernel_rfl) (by kernel_rfl) (by exact fun _ _ _ h => h) (Or.inl ⟨by rfl, ?_⟩) (by assumption) ?_
          rotate_left
          · (intro w hSw; (try dsimp only at hSw); go_simp; (try with_reducible rfl))
          (try simp only [Act.put, List.setIfInBounds_toArray, List.set_cons_zero, List.set_cons_succ])
          refine wpAnyH_done (by kernel_rfl) ?_ _
          clear hH1
          go_wp2
          go_roundw
          case rel => exact ⟨i + 1, by omega, by go_num, BB⟩
          case measure => simp [intOf]; omega
        · obtain rfl : i = k := by omega
          have g1 : ¬ (i : Int) < (i : Int) := by omega
          go_wp2_with fail
          refine (awake9_at _ (ht0.out.below BR)).mono ?_
          rintro e w9 ⟨rfl, b9⟩
          have BB := (BB0.out.trans (BR.mono BB0.out.size)).trans (b9.mono (by have := BB0.out.size; have := BR.size; omega))
          go_wp2
          go_ret
          exact ⟨rfl, BB⟩
    · have hk1i : ¬ (k : Int) = 1 := by omega
      have hk1b : ((k : Int) == 1) = false := by simpa using hk1i
      clear hone AB
      go_wp2
      go_loopw [11] (fun vi wr => ∃ i : Nat, i ≤ k ∧ vi = .int .i64 (i : Int) ∧ Below w8.heap.size w8 wr) (fun vi _ => k - (intOf vi).toNat)
      case atStart => exact ⟨0, by omega, rfl, Below.refl _ _⟩
      case round =>
        obtain ⟨i, hi, rfl, BR⟩ := hrel
        by_cases hlt : i < k
        · have g1 : (i : Int) < (k : Int) := by omega
          have g0 : (0 : Int) ≤ (i : Int) := by omega
          obtain ⟨b1, o1, c1, a1, d1, hv1, hc1, X1, Q1⟩ := (AY0.out.below BR).at hlt
          cases hv1
          obtain ⟨b2, o2, c2, a2, d2, hv2, hc2, X2, Q2⟩ := (AB0.out.below BR).at hlt
          cases hv2
          have hpt := HPT.out i hlt
          have X1 : wr.cell? ⟨b1, o1 + i, none⟩ = some (.slice a1 (pAt l2 i).2 d1) := X1
          have Q1 : CRow wr (.slice a1 (pAt l2 i).2 d1) (pAt l2 i).2 (fun j => cval (tx l2 ((pAt l2 i).1 + j))) 200 := Q1
          rw [hpt.1] at X1 Q1
          have Q1 : CRow wr (.slice a1 (N i) d1) (N i) (fun j => cval (ctxt (R1 i j))) 200 := Q1.congr (fun j hj => by rw [hpt.2 j hj])
          have Q2 := Q2.mono (show 3 ≤ 200 by omega)
          clear hpt
          have C1 : Cell1 wr b1 (o1 + i) (.slice a1 (N i) d1) := X1
          have C2 : Cell1 wr b2 (o2 + i) (.slice a2 (N i) d2) := X2
          clear X1 X2
          generalize N i = m at *
          have BB := BR
          clear BR
          go_wp2
          have hDr : Below wr.heap.size wr wr.drew := (Below.refl _ _).drew
          replace C1 := C1.below hDr
          replace C2 := C2.below hDr
          replace Q1 := Q1.below hDr
          replace Q2 := Q2.below hDr
          replace BB := BB.trans (hDr.mono BB.size)
          clear hDr
          refine wp_region_held_drew (S := (fun w' => w'.cell? ⟨b1, o1 + i, none⟩ = some (.slice a1 m d1) ∧ w'.cell? ⟨b2, o2 + i, none⟩ = some (.slice a2 m d2))) (by kernel_rfl) ?_ (fun hHeld => ?_)
          · exact ⟨C1.out, C2.out⟩
          generalize wr.drew = W91 at *
          refine wpAnyH_take (i := 0) (v := ?_) (by simp only [List.getElem?_toArray, List.getElem?_cons_succ, List.getElem?_cons_zero]; rfl) (by kernel_rfl) (by kernel_rfl) (by kernel_rfl) (by exact fun _ _ _ h => h) (Or.inl ⟨by rfl, ?_⟩) (by assumption) ?_
          rotate_left
          · (intro w hSw; (try dsimp only at hSw); go_simp; (try with_reducible rfl))
          (try simp only [Act.put, List.setIfInBounds_toArray, List.set_cons_zero, List.set_cons_succ])
          refine wpAnyH_take (i := 1) (v := ?_) (by simp only [List.getElem?_toArray, List.getElem?_cons_succ, List.getElem?_cons_zero]; rfl) (by kernel_rfl) (by kernel_rfl) (by kernel_rfl) (by exact fun _ _ _ h => h) (Or.inl ⟨by rfl, ?_⟩) (by assumption) ?_
          rotate_left
          · (intro w hSw; (try dsimp only at hSw); go_simp; (try with_reducible rfl))
          (try simp only [Act.put, List.setIfInBounds_toArray, List.set_cons_zero, List.set_cons_succ])
          refine wpAnyH_take (i := 2) (v := ?_) (by simp only [List.getElem?_toArray, List.getElem?_cons_succ, List.getElem?_cons_zero]; rfl) (by kernel_rfl) (by kernel_rfl) (by kernel_rfl) (by exact fun _ _ _ h => h) (Or.inl ⟨by rfl, ?_⟩) (by assumption) ?_
          rotate_left
          · (intro w hSw; (try dsimp only at hSw); go_simp; (try with_reducible rfl))
          (try simp only [Act.put, List.setIfInBounds_toArray, List.set_cons_zero, List.set_cons_succ])
          refine wpAnyH_take (i := 3) (v := ?_) (by simp only [List.getElem?_toArray, List.getElem?_cons_succ, List.getElem?_cons_zero]; rfl) (by kernel_rfl) (by kernel_rfl) (by kernel_rfl) (by exact fun _ _ _ h => h) (Or.inl ⟨by rfl, ?_⟩) (by assumption) ?_
          rotate_left
          · (intro w hSw; (try dsimp only at hSw); go_simp; (try with_reducible rfl))
          (try simp only [Act.put, List.setIfInBounds_toArray, List.set_cons_zero, List.set_cons_succ])
          refine wpAnyH_take (i := 4) (v := ?_) (by simp only [List.getElem?_toArray, List.getElem?_cons_succ, List.getElem?_cons_zero]; rfl) (by kernel_rfl) (by kernel_rfl) (by kernel_rfl) (by exact fun _ _ _ h => h) (Or.inl ⟨by rfl, ?_⟩) (by assumption) ?_
          rotate_left
          · (intro w hSw; (try dsimp only at hSw); go_simp; (try with_reducible rfl))
          (try simp only [Act.put, List.setIfInBounds_toArray, List.set_cons_zero, List.set_cons_succ])
          refine wpAnyH_take (i := 5) (v := ?_) (by simp only [List.getElem?_toArray, List.getElem?_cons_succ, List.getElem?_cons_zero]; rfl) (by kernel_rfl) (by kernel_rfl) (by kernel_rfl) (by exact fun _ _ _ h => h) (Or.inl ⟨by rfl, ?_⟩) (by assumption) ?_
          rotate_left
          · (intro w hSw; (try dsimp only at hSw); go_simp; (try with_reducible rfl))
          (try simp only [Act.put, List.setIfInBounds_toArray, List.set_cons_zero, List.set_cons_succ])
          refine wpAnyH_take (i := 6) (v := ?_) (by simp only [List.getElem?_toArray, List.getElem?_cons_succ, List.getElem?_cons_zero]; rfl) (by kernel_rfl) (by kernel_rfl) (by kernel_rfl) (by exact fun _ _ _ h => h) (Or.inl ⟨by rfl, ?_⟩) (by assumption) ?_
          rotate_left
          · (intro w hSw; (try dsimp only at hSw); go_simp; (try with_reducible rfl))
          (try simp only [Act.put, List.setIfInBounds_toArray, List.set_cons_zero, List.set_cons_succ])
          refine wpAnyH_take (i := 7) (v := ?_) (by simp only [List.getElem?_toArray, List.getElem?_cons_succ, List.getElem?_cons_zero]; rfl) (by kernel_rfl) (by kernel_rfl) (by kernel_rfl) (by exact fun _ _ _ h => h) (Or.inl ⟨by rfl, ?_⟩) (by assumption) ?_
          rotate_left
          · (intro w hSw; (try dsimp only at hSw); go_simp; (try with_reducible rfl))
          (try simp only [Act.put, List.setIfInBounds_toArray, List.set_cons_zero, List.set_cons_succ])
          refine wpAnyH_ready (rs := [8]) (by kernel_rfl) (by simp) ?_
          refine AllReadyH.cons (by simp only [List.getElem?_toArray, List.getElem?_cons_succ, List.getElem?_cons_zero]; rfl) (fun K hK => ?_) AllReadyH.nil
          go_simp
          refine (jequal9_at _ _ m m _ _ 200 _ Q1 Q2 (by omega) (by omega)).mono ?_
          rintro e w91 ⟨rfl, b91⟩
          rw [eqR_yes (fun i _ => sameC_back _)]
          go_wp2_with fail
          replace C1 := C1.below b91
          replace C2 := C2.below b91
          replace Q1 := Q1.below b91
          replace Q2 := Q2.below b91
          replace BB := BB.trans (b91.mono BB.size)
          clear b91
          refine hK.out _ _ ?_ (fun hH1 => ?_)
          · exact ⟨C1.out, C2.out⟩
          clear hK K hHeld
          (try simp only [Act.put, List.setIfInBounds_toArray, List.set_cons_zero, List.set_cons_succ])
          refine wpAnyH_take (i := 9) (v := ?_) (by simp only [List.getElem?_toArray, List.getElem?_cons_succ, List.getElem?_cons_zero]; rfl) (by kernel_rfl) (by kernel_rfl) (by kernel_rfl) (by exact fun _ _ _ h => h) (Or.inl ⟨by rfl, ?_⟩) (by assumption) ?_
          rotate_left
          · (intro w hSw; (try dsimp only at hSw); go_simp; (try with_reducible rfl))
          (try simp only [Act.put, List.setIfInBounds_toArray, List.set_cons_zero, List.set_cons_succ])
          refine wpAnyH_done (by kernel_rfl) ?_ _
          clear hH1
          go_wp2
          go_roundw
          case rel => exact ⟨i + 1, by omega, by go_num, BB⟩
          case measure => simp [intOf]; omega
        · obtain rfl : i = k := by omega
          have g1 : ¬ (i : Int) < (i : Int) := by omega
          go_wp2_with fail
          refine (awake9_at _ (ht0.out.below BR)).mono ?_
          rintro e w9 ⟨rfl, b9⟩
          have BB := (BB0.out.trans (BR.mono BB0.out.size)).trans (b9.mono (by have := BB0.out.size; have := BR.size; omega))
          go_wp2
          go_ret
          exact ⟨rfl, BB⟩

theorem own : ownKnob Tryz.prog.godebug = none := by kernel_rfl
theorem laidOut : laidOutB Tryz.prog = true := by kernel_rfl

abbrev laid1 : List (String × DataW Unit) := [("math/bits.deBruijn64tab", Rows.laid_math_bits_deBruijn64tab)]
theorem gTab : Tryz.prog.globalNamed "math/bits.deBruijn64tab" = some 1 := by kernel_rfl
theorem gTabType : (Tryz.prog.globals[1]?).map (·.type) = some 179 := by kernel_rfl
theorem uTab : Tryz.prog.underlying 179 = some (.array 64 5) := by kernel_rfl
theorem uCell : Tryz.prog.underlying 5 = some (.int .u8) := by kernel_rfl
theorem cCell : Tryz.prog.cellsOf 5 = 1 := by kernel_rfl
theorem cTab : Tryz.prog.cellsOf 179 = 64 := by kernel_rfl
/-- The listed table lies in its cells. -/
theorem tab_of {W : World} (h : laidMetH Tryz.prog laid1 W) : Tab W := by
  rw [MakeChecks.laidMetH_plain _ _ _ (by kernel_rfl)] at h
  have hd : laid1 = [("math/bits.deBruijn64tab", Lib.tabData .u8 (Lib.deBruijn64tab.map fun (n : Nat) => Int.ofNat n))] := rfl
  rw [hd] at h
  have hT := Lib.tabIs_of_head gTab gTabType uTab uCell cCell cTab h
  intro i hi
  have hc := hT.cell gTab i (by rw [List.length_map]; exact hi)
  rw [hc]
  congr 2
  rw [List.getD_eq_getElem?_getD, List.getElem?_map, List.getD_eq_getElem?_getD]
  cases Lib.deBruijn64tab[i]? <;> rfl
/-- A start for the witness: the heap that the run of the program's own initialisers leaves. -/
noncomputable def startW (os : Os) : World := { World.holding Tryz.prog os ⟨#[], #[], []⟩ with heap := (varsWorld Tryz.prog 400 (varsId Tryz.prog) os (fun _ _ => 0)).heap }
theorem start_met (os : Os) (args : Array Value) : laidMetH Tryz.prog laid1 ((startW os).forCall (fun _ _ => 0) ⟨#[], args, []⟩).memory :=
  laidMetH_of_parts3 (fuel := 8) (laidMet_of_run' 8 (by kernel_rfl) (by kernel_rfl)) (by kernel_rfl) (by kernel_rfl)

set_option maxRecDepth 100000 in
theorem lifted (os : Os) (started : os.Started) (H : Type) (enc : TypeId × Value → H) :
    ReturnsInHanded {} Tryz.checked os 5 .any (fun w args => (Rows.rowsBackSpec.pre enc Tryz.prog Tryz.f5 [] false w args ∧ laidMetH Tryz.prog laid1 w) ∧ sizedMet enc Tryz.prog Tryz.f5 (OpenSpec.ofChange Rows.rowsBackSpec) false w args) (Rows.rowsBackSpec.post enc Tryz.prog Tryz.f5 false true false false) := by
  refine returnsInHanded_of_change_and (C := Tryz.checked) (X := fun w _ => laidMetH Tryz.prog laid1 w) (fun _ _ _ hh h => h.of_heap hh) own started (by kernel_rfl) Tryz.func5
    (ChangeSpec.witness_shaped (enc := enc) (C := Tryz.checked) (os := os) (X := fun w _ => laidMetH Tryz.prog laid1 w) false (startW os) #[.slice none 0 0, .slice none 0 0] 8 rfl (World.shaped_of_RefB (by kernel_rfl) (by kernel_rfl)) (by kernel_rfl) (by kernel_rfl) (by kernel_rfl) (start_met os _)) ?_
  intro W base args ds gs before hval0 hW _ _ hL _
  have hval : ∀ (j : Nat) t v, Tryz.f5.params[j]? = some t → args[j]? = some v → Value.okWide Tryz.prog W .any base t v := hval0
  have hW' := hW
  obtain ⟨p, q, hA0, hV, rfl, hfz, hnd⟩ := hW
  have hA : DataW.TrodAll enc Tryz.prog W 0 (fun _ => true) true Tryz.f5.params.toList args.toList ds p := hA0
  rw [Tryz.params5] at hA hval
  obtain ⟨v0, vs0, d0, ds0, p0, q0, hargs, rfl, rfl, h0, r0⟩ := trodAll_cons hA
  obtain ⟨v1, vs1, d1, ds1, p1, q1, rfl, rfl, rfl, h1, r1⟩ := trodAll_cons r0
  obtain ⟨rfl, rfl, rfl⟩ := trodAll_nil r1
  obtain rfl : args = #[v0, v1] := by cases args; simp_all
  obtain ⟨rfl, rfl⟩ := trodVars_none hV
  have k0 := h0
  have lt0 : ∀ x ∈ p0, x.block < W.heap.size := by obtain ⟨m, hm⟩ := k0; exact DataW.trod_lt m _ _ _ hm
  obtain ⟨n0, z0, w0⟩ := open_cells 3 (hval 0 39 v0 rfl rfl) h0
  have k1 := h1
  have lt1 : ∀ x ∈ p1, x.block < W.heap.size := by obtain ⟨m, hm⟩ := k1; exact DataW.trod_lt m _ _ _ hm
  obtain ⟨n1, N1, z1, w1⟩ := open_rows 3 (hval 1 42 v1 rfl rfl) h1
  clear hA0 hval0
  refine (walk _ _ _ _ _ _ _ W w0 w1 (tab_of hL)).mono fun e W' ⟨he, bel⟩ => ?_
  subst he
  exact ⟨_, rfl, _, _, _, [], _, [], hW', trodAll_mk1 (shut_bool Tryz.underlying4 _), (trodAll_cons_mk (Below.trod laidOut (by kernel_rfl) (of_decide_eq_true (by kernel_rfl)) k0 bel lt0) (trodAll_cons_mk (Below.trod laidOut (by kernel_rfl) (of_decide_eq_true (by kernel_rfl)) k1 bel lt1) trodAll_mk0)), rfl, bel.frame _, fun h => by cases h⟩

theorem over : Rows.rowsBackRow.holds Tryz.pinned (OpenSpec.ofChange Rows.rowsBackSpec) :=
  OpenClaim.holds_of_wide 5 Tryz.f5 rfl rfl rfl rfl rfl rfl rfl ⟨rfl, rfl, rfl, rfl, rfl⟩ rfl rfl rfl rfl rfl (by kernel_rfl) Tryz.func5 (by kernel_rfl)
    (of_decide_eq_true (by kernel_rfl)) (by unfold Func.isWrapper; first | (rw [if_pos (by decide +kernel)]; kernel_rfl) | (rw [if_neg (by decide +kernel)]; exact ⟨rfl, rfl⟩))
    (fun os started H enc _ => lifted os started H enc)

end Go.Proofs.YtianfjidbeineaaGreatDoor.rowsBack
namespace Go.Proofs.YtianfjidbeineaaGreatDoor
/-- The statement: the row, tied to the text of the program. -/
theorem rowsBack_holds : Rows.RowsBackCardSaid :=
  Claim7.holds_tied_plain_at .later [] [.data] true (true, "885c1355689222cccb61c3139621a6636fb64cd2ef1af163d7343c3d7e634eb2") false
    rowsBack.over (fun _ h => by cases h) (by kernel_rfl) (fun _ h => by cases h) rowsBack_row_tie rfl ⟨rfl, rfl⟩ (by kernel_rfl) rfl
    (fun f fn hf hfn => by
      obtain rfl : f = 5 := Option.some.inj ((show Tryz.prog.funcNamed "dendron/dendronlaw09.RowsBack" = some 5 by kernel_rfl).symm.trans hf) |>.symm
      obtain rfl : fn = Tryz.f5 := (Option.some.inj (Tryz.func5.symm.trans hfn)).symm
      exact ⟨by kernel_rfl, fun j t ht => by
        rw [Tryz.params5] at ht
        have hm : t ∈ [39, 42] := by simpa using Array.mem_of_getElem? ht
        have hall : ([39, 42].all fun u => !Tryz.prog.wantsStandIn u) = true := by kernel_rfl
        exact (show Tryz.prog.wantsStandIn t = false by simpa using List.all_eq_true.1 hall t hm)⟩)
    (by kernel_rfl)
end Go.Proofs.YtianfjidbeineaaGreatDoor
