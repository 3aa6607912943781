/-
  Proves that Row and Rows tell which row, and which rows, any line of up to 600 bytes is, or where and why it is none, whatever comes in (the statement RowsReads, its tied card); the table of math/bits lies as the program's text lays it; no other condition.
-/
import Derived.Test.YtianfjidbeineaaGreatDoorRows
import Derived.Test.YtianfjidbeineaaGreatDoorJaccedf767a
import Derived.Test.YtianfjidbeineaaGreatDoorJd0b34c13e3
import Derived.WalkKit
import Derived.ProofKit
import Derived.OpenShut
import Derived.ShutString
import Derived.ChangeOld
import Derived.Below
import Derived.Test.YtianfjidbeineaaGreatDoorTie
import Derived.Test.YtianfjidbeineaaGreatDoorCards
import Derived.LaidByTextLater
import Derived.LaidHandle
import Derived.Lib.LaidTab
import Derived.SevenTiedAt
namespace Go.Proofs.YtianfjidbeineaaGreatDoor.rowsReads
open Go.ChangeShapes Go.WideShapes Go.ChangeAt Go.RowKit
open Go.ChangeMaps (open_string shut_string)
set_option linter.unusedVariables false
set_option linter.unusedSimpArgs false

def Cell1 (w : World) (b o : Nat) (v : Value) : Prop := w.cell? ⟨b, o, none⟩ = some v
theorem Cell1.below {w w' : World} {b o : Nat} {v : Value} (h : Cell1 w b o v) (hb : Below w.heap.size w w') : Cell1 w' b o v := (hb.cell (World.block_lt_of_cell? w _ h)).trans h
theorem Cell1.out {w : World} {b o : Nat} {v : Value} (h : Cell1 w b o v) : w.cell? ⟨b, o, none⟩ = some v := h
theorem limb_string (s : ByteArray) : ¬ IsLimb (.string s) := fun ⟨_, h⟩ => by rcases h with h | h <;> cases h

set_option maxRecDepth 100000 in
set_option maxHeartbeats 32000000 in
theorem walk (s : ByteArray) (w : World) (hs : s.size ≤ maxLen) (ht : Tab w) :
    Calls Tryz.prog 4 #[.string s] w fun e w' => e = .returned (.bool true) ∧ Below w.heap.size w w' := by
  unfold maxLen at hs
  go_enter Tryz.func4, Tryz.ntmps4
  by_cases h600 : 600 < s.size
  · have g1 : (s.size : Int) > 600 := by omega
    have hts : (s.extract 0 600).size ≤ 600 := by rw [ByteArray.size_extract]; omega
    go_wp2_with fail
    generalize s.extract 0 600 = t at *
    refine (rrow_at t 200 w (shortS9 hts) ht).mono ?_
    rintro e w1 ⟨hr, b1⟩
    cases hE : scan t 0 [] with
    | form i =>
      have HE : Hid (scan t 0 [] = .form i) := hE
      have hr : e = .returned (.tuple #[.slice none 0 0, .int .i64 (i : Int), .int .i64 4]) := by unfold RowRes at hr; rw [hE] at hr; exact hr
      subst hr
      clear hE
      have ht1 := ht.below b1
      go_wp2_with fail
      refine (rrows_at t 200 w1 (shortS9 hts) ht1).mono ?_
      rintro e w2 ⟨hr, b2⟩
      have hr : e = .returned (.tuple #[.slice none 0 0, .int .i64 (i : Int), .int .i64 4]) := by unfold RowsRes at hr; rw [HE.out] at hr; exact hr
      subst hr
      have ht2 := ht1.below b2
      go_wp2_with fail
      refine (Words_at t w2 (by omega)).mono ?_
      rintro e w3 ⟨hr, b3⟩
      have hr := form_out (by rw [HE.out] at hr; exact hr)
      subst hr
      have ht3 := ht2.below b3
      have BB := (b1.trans (b2.mono b1.size)).trans (b3.mono (by have := b1.size; have := b2.size; omega))
      clear b1 b2 b3 ht ht1 ht2
      go_wp2_with fail
      refine (awake9_at _ ht3).mono ?_
      rintro e w4 ⟨rfl, b4⟩
      replace BB := BB.trans (b4.mono BB.size)
      go_wp2
      go_ret
      exact ⟨rfl, BB⟩
    | limit i =>
      have HE : Hid (scan t 0 [] = .limit i) := hE
      have hr : e = .returned (.tuple #[.slice none 0 0, .int .i64 (i : Int), .int .i64 16]) := by unfold RowRes at hr; rw [hE] at hr; exact hr
      subst hr
      clear hE
      have ht1 := ht.below b1
      go_wp2_with fail
      refine (rrows_at t 200 w1 (shortS9 hts) ht1).mono ?_
      rintro e w2 ⟨hr, b2⟩
      have hr : e = .returned (.tuple #[.slice none 0 0, .int .i64 (i : Int), .int .i64 16]) := by unfold RowsRes at hr; rw [HE.out] at hr; exact hr
      subst hr
      have ht2 := ht1.below b2
      go_wp2_with fail
      refine (Words_at t w2 (by omega)).mono ?_
      rintro e w3 ⟨hr, b3⟩
      have hr := limit_out (by rw [HE.out] at hr; exact hr)
      subst hr
      have ht3 := ht2.below b3
      have BB := (b1.trans (b2.mono b1.size)).trans (b3.mono (by have := b1.size; have := b2.size; omega))
      clear b1 b2 b3 ht ht1 ht2
      go_wp2_with fail
      refine (awake9_at _ ht3).mono ?_
      rintro e w4 ⟨rfl, b4⟩
      replace BB := BB.trans (b4.mono BB.size)
      go_wp2
      go_ret
      exact ⟨rfl, BB⟩
    | ok ws =>
      have HE : Hid (scan t 0 [] = .ok ws) := hE
      have hr : WordsRes (toks t 0 0 ws) 200 w.heap.size e w1 := by unfold RowRes at hr; rw [hE] at hr; exact hr
      have hSh := (shortS9 hts).2 ws hE
      have hlen : (toks t 0 0 ws).length ≤ 4096 := by rw [toks_length]; exact scan_len t 0 [] ws (by simp) hE
      clear hE
      obtain ⟨l, hl⟩ : ∃ l, toks t 0 0 ws = l := ⟨_, rfl⟩
      have HL : Hid (toks t 0 0 ws = l) := hl
      rw [hl] at hr hSh hlen
      clear hl
      have HSH : Hid (Short 200 l) := hSh
      obtain ⟨aa, ca, rfl, CA0⟩ := words_is hr
      have CA := CA0.row
      clear hr CA0 hSh
      replace ht := ht.below b1
      have BB := b1
      clear b1
      obtain ⟨kA, hkA⟩ : ∃ k, wk l = k := ⟨_, rfl⟩
      obtain ⟨pA, hpA⟩ : ∃ k, wp l = k := ⟨_, rfl⟩
      obtain ⟨eA, heA⟩ : ∃ k, we l = k := ⟨_, rfl⟩
      have HKA : Hid (wk l = kA ∧ wp l = pA ∧ we l = eA) := ⟨hkA, hpA, heA⟩
      rw [hkA] at CA ⊢
      rw [hpA, heA]
      clear hkA hpA heA
      go_wp2_with fail
      refine (rrows_at t 200 _ (shortS9 hts) ht).mono ?_
      rintro e w71 ⟨hr, b71⟩
      replace ht := ht.below b71
      replace CA := CA.below b71
      replace BB := BB.trans (b71.mono BB.size)
      clear b71
      have hr : PartsRes l 200 w1.heap.size e w71 := by unfold RowsRes at hr; rw [HE.out] at hr; rw [← HL.out]; exact hr
      obtain ⟨ab, cb, rfl, AB0⟩ := parts_is hr
      have AB := AB0.row
      clear hr AB0
      obtain ⟨kB, hkB⟩ : ∃ k, rk l = k := ⟨_, rfl⟩
      obtain ⟨pB, hpB⟩ : ∃ k, rp l = k := ⟨_, rfl⟩
      obtain ⟨eB, heB⟩ : ∃ k, re9 l = k := ⟨_, rfl⟩
      have HRK : Hid (rk l = kB) := hkB
      have HRP : Hid (rp l = pB) := hpB
      have HRE : Hid (re9 l = eB) := heB
      rw [hkB] at AB ⊢
      rw [hpB, heB]
      clear hkB hpB heB
      go_wp2_with fail
      refine (Words_at t _ (by omega)).mono ?_
      rintro e w72 ⟨hr, b72⟩
      replace ht := ht.below b72
      replace CA := CA.below b72
      replace AB := AB.below b72
      replace BB := BB.trans (b72.mono BB.size)
      clear b72
      rw [HE.out] at hr
      obtain ⟨vl, rfl, TO⟩ := hr
      rw [HL.out] at TO
      have TK := TO.tk
      clear TO
      obtain ⟨al, cl, rfl, hlc, hlc6⟩ := TK.open
      obtain ⟨n, hn⟩ : ∃ n, l.length = n := ⟨_, rfl⟩
      have HN : Hid (l.length = n) := hn
      rw [hn] at hlen hlc
      rw [hn]
      clear hn
      clear HE HL
      have TK0 : Hid (TkAt w72 (.slice al l.length cl) l) := TK
      go_wp2_with fail
      have TKn := TK
      rw [HN.out] at TKn
      refine (lwords_at _ l 200 _ TKn HSH.out ht).mono ?_
      rintro e w73 ⟨hr, b73⟩
      replace ht := ht.below b73
      replace CA := CA.below b73
      replace AB := AB.below b73
      replace TK := TK.below b73
      replace BB := BB.trans (b73.mono BB.size)
      clear b73
      obtain ⟨ac, cc, rfl, CC0⟩ := words_is hr
      have CC := CC0.row
      clear hr CC0 TKn TK0
      rw [HKA.out.1] at CC ⊢
      rw [HKA.out.2.1, HKA.out.2.2]
      have hpp : (pA != pA) = false := by simp
      have hee : (eA != eA) = false := by simp
      go_wp2_with fail
      refine (jequal9_at _ _ kA kA _ _ 200 _ CA CC (by omega) (by omega)).mono ?_
      rintro e w74 ⟨rfl, b74⟩
      replace ht := ht.below b74
      replace CA := CA.below b74
      replace AB := AB.below b74
      replace TK := TK.below b74
      replace CC := CC.below b74
      replace BB := BB.trans (b74.mono BB.size)
      clear b74
      rw [eqR_yes (fun i _ => sameC_self _)]
      clear hpp hee
      clear CA CC
      have TK0 : Hid (TkAt w74 (.slice al l.length cl) l) := TK
      have AB0 : Hid (ARow w74 (.slice ab kB cb) kB (fun j => (pAt l j).2) (fun j k => cval (tx l ((pAt l j).1 + k))) 200) := AB
      have ht0 : Hid (Tab w74) := ht
      have BB0 : Hid (Below w.heap.size w w74) := BB
      obtain ⟨_, _, eb_, hb1_, hb2_⟩ := AB.open
      cases eb_
      clear TK AB ht BB
      obtain ⟨K, hK⟩ : ∃ K, (partsOf l).length = K := ⟨_, rfl⟩
      have HKP : Hid ((partsOf l).length = K) := hK
      have hK4 : K ≤ 4097 := by have := partsOf_len l; have h9 := HN.out; omega
      clear hK
      go_wp2
      go_loopw [15, 16, 17] (fun vw vp vi wr => ∃ i : Nat, vi = .int .i64 (i : Int) ∧ Below w74.heap.size w74 wr ∧ ((i ≤ n ∧ Hid (∀ j, j < (spl (tauL l) i).1.length → badW (part9 l (pAt l j)) = none) ∧ AOwn w74.heap.size wr vw (spl (tauL l) i).1.length (fun j => (pAt l j).2) (fun j k => cval (tx l ((pAt l j).1 + k))) 200 ∧ SOwn w74.heap.size wr vp (i - (spl (tauL l) i).2) (fun x => tauL l ((spl (tauL l) i).2 + x)) ∧ (∀ g, vp.ownBlock = some g → PureB IsLimb wr g)) ∨ (i = n + 1 ∧ Hid (∀ j, j < K → badW (part9 l (pAt l j)) = none) ∧ AOwn w74.heap.size wr vw K (fun j => (pAt l j).2) (fun j k => cval (tx l ((pAt l j).1 + k))) 200 ∧ ∃ c, vp = .slice none 0 c))) (fun _ _ vi _ => n + 1 - (intOf vi).toNat)
      case atStart => exact ⟨0, rfl, Below.refl _ _, .inl ⟨by omega, fun j hj => by simp [spl] at hj, AOwn.nil _ _ _ _ _, SOwn.nil _ _ _, fun g hg => by simp [Value.ownBlock] at hg⟩⟩
      case round =>
        obtain ⟨i, rfl, BR, hcase⟩ := hrel
        rcases hcase with ⟨hi, HF, AW, SO, HPu⟩ | ⟨hi, HFA, AW, cp, rfl⟩
        · obtain ⟨aw, cw, rfl⟩ := AW.form
          obtain ⟨ap, cp, rfl⟩ := SO.form
          have g1 : (i : Int) ≤ (n : Int) := by omega
          have hDl := spl_len (tauL l) i
          have hDa := spl_le (tauL l) i
          generalize hDD : (spl (tauL l) i).1 = D at *
          generalize hAA : (spl (tauL l) i).2 = a at *
          have HD : Hid ((spl (tauL l) i).1 = D ∧ (spl (tauL l) i).2 = a) := ⟨hDD, hAA⟩
          clear hDD hAA
          obtain ⟨kk, hkk⟩ : ∃ kk, D.length = kk := ⟨_, rfl⟩
          have HKK : Hid (D.length = kk) := hkk
          rw [hkk] at AW HF hDl
          rw [hkk]
          obtain ⟨ln, hln⟩ : ∃ ln, i - a = ln := ⟨_, rfl⟩
          have HLN : Hid (i - a = ln) := hln
          rw [hln] at SO
          rw [hln]
          have hlnb : ln ≤ 4096 := by omega
          clear hkk hln
          by_cases hlt : i < n
          · have g2 : (i : Int) < (n : Int) := by omega
            have g0 : (0 : Int) ≤ (i : Int) := by omega
            have hlt2 : i < l.length := by rw [HN.out]; exact hlt
            obtain ⟨b, off, c9, hvv, X0, X1, X2⟩ := (TK0.out.below BR).at (tok_get hlt2)
            rw [HN.out] at hvv
            cases hvv
            have HTAU : Hid (tauL l i = (((l.getD i noTok).1 : Int), ((l.getD i noTok).2.1 : Int), (l.getD i noTok).2.2)) := rfl
            generalize (l.getD i noTok).1 = tA at *
            generalize (l.getD i noTok).2.1 = tB at *
            generalize (l.getD i noTok).2.2 = s9 at *
            cases hbr : (s9.toList == [124])
            · have HB : Hid (bar (tauL l) i = false) := by show ((tauL l i).2.2.toList == [124]) = false; rw [HTAU.out]; exact hbr
              have hbn : (s9.toList != [124]) = true := by simp [bne, hbr]
              have hbe : ¬ s9.toList = [124] := by simpa using hbr
              have HSPL : Hid (spl (tauL l) (i + 1) = (D, a)) := by show _ = _; rw [spl_no HB.out, ← HD.out.1, ← HD.out.2]
              have hAl : Below wr.heap.size wr (wr.alloc (.cells #[.int .i64 (tA : Int), .int .i64 (tB : Int), .string s9] 51)) := (Below.refl _ _).alloc (Nat.le_refl _) _
              have AW2 := AW.below hAl
              have SO2 := SO.below hAl
              have BR2 := BR.trans (hAl.mono BR.size)
              obtain ⟨cs, hco, hcs⟩ := SO2
              have hsz2 := BR2.size
              have hbk := hco.lt
              have HPu2 : Hid (∀ g, Value.ownBlock (.slice ap ln cp) = some g → PureB IsLimb (wr.alloc (.cells #[.int .i64 (tA : Int), .int .i64 (tB : Int), .string s9] 51)) g) := fun g hg => (HPu g (by rw [HLN.out]; exact hg)).below hAl (by obtain ⟨cs9, c9, _⟩ := SO; exact (c9.lt g hg).2)
              have HCS : Hid (∀ x, x < ln → ∀ j, j < 3 → cs[x * 3 + j]? = some (tel (fun x => tauL l (a + x)) x j)) := hcs
              clear hcs HPu SO AW BR hAl
              go_wp2_with (first
                | (at_builtin
                   refine wpList_append_pure (Q' := IsLimb) rfl _ _ _ rfl w74.heap.size 51 (.agg #[.int .i64 0, .int .i64 0, .string ByteArray.empty]) 3 32 Tryz.underlying45 info_tok rfl (by omega) (.slice ap ln cp) rfl ln cs hco HPu2.out ⟨wr.heap.size, 0, none⟩ 1 rfl [.int .i64 (tA : Int), .int .i64 (tB : Int), .string s9] rfl ?g14 ?g15 ?g16 ?g17 (by omega) (by omega) hsz2 ?_
                   case g14 => exact news_block (heap_alloc_new _ _)
                   case g15 => simp [Value.oneCell']
                   case g16 => simp [limb_int, limb_string]
                   case g17 => simp [Value.cells, limb_int, limb_string]
                   intro gN cN w5 ho5 hg5 _ hp5 hk5
                   have AW5 := AW2.beside hco hg5 hk5
                   have BR5 : Below w74.heap.size w74 w5 := below_grownB BR2 hg5 hsz2 (fun g hg => (hbk g hg).1)
                   have SO5 : SOwn w74.heap.size w5 (.slice (some ⟨gN, 0, none⟩) (ln + 1) cN) (ln + 1) (fun x => tauL l (a + x)) := by
                     have e9 : ∀ j, tel (tauL l) i j = tel (fun x => tauL l (a + x)) ln j := fun j => by unfold tel; simp only [show a + ln = i by have := HLN.out; omega]
                     refine SOwn.more (cs := cs) ?_ hco.1 HCS.out
                     rw [← e9 0, ← e9 1, ← e9 2]
                     have e8 := HTAU.out
                     simp only [tel, if_pos, if_neg, Nat.one_ne_zero, e8, show ¬ (2 : Nat) = 0 by omega, show ¬ (2 : Nat) = 1 by omega, if_false, if_true]
                     exact ho5
                   clear ho5 hg5 hk5 hco HPu2 AW2 BR2 hbk HCS))
              go_roundw
              case rel => exact ⟨i + 1, by go_num, BR5, .inl ⟨by omega, by rw [HSPL.out, HKK.out]; exact HF, by rw [HSPL.out]; show AOwn _ _ _ D.length _ _ _; rw [HKK.out]; exact AW5, by rw [HSPL.out]; show SOwn _ _ _ (i + 1 - a) _; rw [show i + 1 - a = ln + 1 by have := HLN.out; omega]; exact SO5, fun g hg => by cases hg; exact hp5⟩⟩
              case measure => simp [intOf]; omega
            · have HB : Hid (bar (tauL l) i = true) := by show ((tauL l i).2.2.toList == [124]) = true; rw [HTAU.out]; exact hbr
              have hbn : (s9.toList != [124]) = false := by simp [bne, hbr]
              have hbe : s9.toList = [124] := by simpa using hbr
              have HSPL : Hid (spl (tauL l) (i + 1) = (D ++ [(a, ln)], i + 1)) := by show _ = _; rw [spl_bar HB.out, HD.out.1, HD.out.2, HLN.out]
              have hn0 : ¬ (n : Int) = 0 := by omega
              have hn0b : ((n : Int) == 0) = false := by simpa using hn0
              have HPG : Hid ((partsOf l)[kk]? = some (a, ln)) := by
                show _ = _
                unfold partsOf
                rw [if_neg (by have := HN.out; omega)]
                have h9 := part_now (tauL l) (i := i) (n := l.length) (by have := HN.out; omega) HB.out
                rw [HD.out.1, HD.out.2, HKK.out, HLN.out] at h9
                exact h9
              have HPA : Hid (pAt l kk = (a, ln)) := pAt_get HPG.out
              have hkK : kk < K := by rw [← HKP.out]; exact (List.getElem?_eq_some_iff.1 HPG.out).1
              have hpin : a + ln ≤ l.length := partsOf_in (List.mem_of_getElem? HPG.out)
              have hTp := (SOwn.tk9 (p := (a, ln)) SO hpin)
              have hSp := HSH.out.part (p := (a, ln)) hpin
              have ht1 := ht0.out.below BR
              go_wp2_with fail
              refine (lwords_at _ (part9 l (a, ln)) 200 wr hTp hSp ht1).mono ?_
              rintro e w6 ⟨hr, b6⟩
              obtain ⟨ad, cd, rfl, CD⟩ := words_is hr
              have hszr := BR.size
              replace CD := CD.le hszr
              replace AW := AW.below b6
              replace BR := BR.trans (b6.mono BR.size)
              replace ht1 := ht1.below b6
              clear b6 hr hTp hSp SO HPu
              have HWL : Hid (part9 l (pAt l kk) = part9 l (a, ln)) := by show _ = _; rw [HPA.out]
              by_cases hwe : we (part9 l (a, ln)) = 0
              · have hbw := we_zero hwe
                obtain ⟨f1, f2, f3⟩ := we_none hbw
                rw [part9_len (p := (a, ln)) hpin] at f3
                have f3 : wk (part9 l (a, ln)) = ln := f3
                rw [f3] at CD ⊢
                rw [f1, f2]
                have HBW : Hid (badW (part9 l (pAt l kk)) = none) := by show _ = _; rw [HWL.out]; exact hbw
                have CD2 : COwn w74.heap.size w6 (.slice ad ln cd) (pAt l kk).2 (fun k => cval (tx l ((pAt l kk).1 + k))) 200 := by
                  rw [HPA.out]
                  exact CD.congr (fun k hk => by rw [part9_tx (p := (a, ln)) hk])
                clear f1 f2 f3 hbw hwe CD
                have hAl : Below w6.heap.size w6 (w6.alloc (.cells #[.slice ad ln cd] 39)) := (Below.refl _ _).alloc (Nat.le_refl _) _
                have AW2 := AW.below hAl
                have CD3 := CD2.below hAl
                have BR2 := BR.trans (hAl.mono BR.size)
                obtain ⟨us2, huo, hup⟩ := AW2.parts
                have hbk := AW2.blocks
                have hsz2 := BR2.size
                clear AW CD2 hAl ht1
                go_wp2_with (first
                  | (at_builtin
                     refine wpList_append_pure (Q' := IsLimb) rfl _ _ _ rfl w74.heap.size 39 (.slice none 0 0) 1 24 Tryz.underlying42 info_cells rfl (by omega) (.slice aw kk cw) rfl kk us2 huo hup ⟨w6.heap.size, 0, none⟩ 1 rfl [.slice ad ln cd] rfl ?g14 ?g15 ?g16 ?g17 (by omega) (by omega) hsz2 ?_
                     case g14 => exact news_block (heap_alloc_new _ _)
                     case g15 => simp [Value.oneCell']
                     case g16 => simp [limb_slice]
                     case g17 => simp [Value.cells, limb_slice]
                     intro gN cN w5 ho5 hg5 _ hp5 hk5
                     have AW5 : AOwn w74.heap.size w5 (.slice (some ⟨gN, 0, none⟩) (kk + 1) cN) (kk + 1) (fun j => (pAt l j).2) (fun j k => cval (tx l ((pAt l j).1 + k))) 200 := AW2.more1 huo CD3 ho5 hg5 (fun g hg => by cases hg; exact hp5) hk5
                     have BR5 : Below w74.heap.size w74 w5 := below_grownB BR2 hg5 hsz2 (fun g hg => (hbk g hg).1)
                     clear ho5 hg5 hp5 hk5 huo hup hbk AW2 CD3 BR2))
                go_roundw
                case rel => exact ⟨i + 1, by go_num, BR5, .inl ⟨by omega, by
                  rw [HSPL.out]
                  show Hid (∀ j, j < (D ++ [(a, ln)]).length → _)
                  intro j hj
                  rw [List.length_append, HKK.out] at hj
                  by_cases e9 : j = kk
                  · rw [e9]; exact HBW.out
                  · exact HF.out j (by simp at hj; omega), by rw [HSPL.out]; show AOwn _ _ _ (D ++ [(a, ln)]).length _ _ _; rw [List.length_append, HKK.out]; exact AW5, by rw [HSPL.out]; show SOwn _ _ _ (i + 1 - (i + 1)) _; rw [Nat.sub_self]; exact SOwn.nil _ _ _, fun g hg => by simp [Value.ownBlock] at hg⟩⟩
                case measure => simp [intOf]; omega
              · have hb3 := rp_bad (l := l) (i := kk) (by rw [HKP.out]; exact hkK) HF.out (by rw [HWL.out]; exact hwe)
                rw [HWL.out] at hb3
                have e1 := HRK.out
                have e2 := HRP.out
                have e3 := HRE.out
                rw [hb3.1] at e1
                rw [hb3.2.1] at e2
                rw [hb3.2.2] at e3
                rw [e2, e3]
                subst e1
                have hne : (eB != 0) = true := by rw [← e3]; simp [hwe]
                have hne2 : ¬ eB = 0 := by rw [← e3]; exact hwe
                clear hb3 e2 e3 hwe CD AW
                generalize wk (part9 l (a, ln)) = kd
                go_wp2_with fail
                refine (awake9_at _ ht1).mono ?_
                rintro e w9 ⟨rfl, b9⟩
                have BB := (BB0.out.trans (BR.mono BB0.out.size)).trans (b9.mono (by have := BB0.out.size; have := BR.size; omega))
                go_wp2
                go_ret
                exact ⟨rfl, BB⟩
          · obtain rfl : i = n := by omega
            have g2 : ¬ (i : Int) < (i : Int) := by omega
            by_cases hn0 : i = 0
            · have HK0 : Hid (K = 0) := by show K = 0; rw [← HKP.out]; unfold partsOf; rw [if_pos (by rw [HN.out]; exact hn0)]; rfl
              have hk0 : kk = 0 := by omega
              have hKk : K = kk := by have := HK0.out; omega
              have HFA : Hid (∀ j, j < K → badW (part9 l (pAt l j)) = none) := fun j hj => by have := HK0.out; omega
              have hi0 : (i : Int) = 0 := by omega
              clear SO HPu HD HF hDl hDa
              subst hKk
              have hll0 : (i : Int) = 0 := hi0
              have AW := AW
              have hK3 := rp_fine (l := l) (by rw [HKP.out]; exact HFA.out)
              rw [HKP.out] at hK3
              have e1 := HRK.out
              have e2 := HRP.out
              have e3 := HRE.out
              rw [hK3.1] at e1
              rw [hK3.2.1] at e2
              rw [hK3.2.2] at e3
              subst e1 e2 e3
              clear hK3
              have hKz := HK0.out
              have BBo : Hid (Below w.heap.size w wr) := BB0.out.trans (BR.mono BB0.out.size)
              have hto : Hid (Tab wr) := ht0.out.below BR
              clear BR AB0 BB0 ht0 AW
              subst hKz
              subst hn0
              obtain ⟨wo, rfl⟩ : ∃ wo, wo = wr := ⟨_, rfl⟩
              go_wp2
              go_loopw [21] (fun vi wr => vi = .int .i64 0 ∧ Below wo.heap.size wo wr) (fun _ _ => 0)
              case atStart => exact ⟨rfl, Below.refl _ _⟩
              case round =>
                obtain ⟨rfl, BR⟩ := hrel
                go_wp2_with fail
                refine (awake9_at _ (hto.out.below BR)).mono ?_
                rintro e w9 ⟨rfl, b9⟩
                have BB := (BBo.out.trans (BR.mono BBo.out.size)).trans (b9.mono (by have := BBo.out.size; have := BR.size; omega))
                go_wp2
                go_ret
                exact ⟨rfl, BB⟩
            · have hn1 : ¬ (i : Int) = 0 := by omega
              have hn0b : ((i : Int) == 0) = false := by simpa using hn1
              have HPG : Hid ((partsOf l)[kk]? = some (a, ln)) ∧ Hid (K = kk + 1) := by
                have h9 := part_last (tauL l) l.length
                rw [HN.out, HD.out.1, HD.out.2, HKK.out, HLN.out] at h9
                have h8 : partsOf l = partsT (tauL l) i := by unfold partsOf; rw [HN.out, if_neg hn0]
                have h7 := HKP.out
                rw [h8] at h7
                refine ⟨?_, ?_⟩
                · show _ = _
                  rw [h8]; exact h9.1
                · show _ = _
                  rw [← h7]; exact h9.2
              obtain ⟨HPG, HKE⟩ := HPG
              have HPA : Hid (pAt l kk = (a, ln)) := pAt_get HPG.out
              have hkK : kk < K := by rw [← HKP.out]; exact (List.getElem?_eq_some_iff.1 HPG.out).1
              have hpin : a + ln ≤ l.length := partsOf_in (List.mem_of_getElem? HPG.out)
              have hTp := (SOwn.tk9 (p := (a, ln)) SO hpin)
              have hSp := HSH.out.part (p := (a, ln)) hpin
              have ht1 := ht0.out.below BR
              go_wp2_with fail
              refine (lwords_at _ (part9 l (a, ln)) 200 wr hTp hSp ht1).mono ?_
              rintro e w6 ⟨hr, b6⟩
              obtain ⟨ad, cd, rfl, CD⟩ := words_is hr
              have hszr := BR.size
              replace CD := CD.le hszr
              replace AW := AW.below b6
              replace BR := BR.trans (b6.mono BR.size)
              replace ht1 := ht1.below b6
              clear b6 hr hTp hSp SO HPu
              have HWL : Hid (part9 l (pAt l kk) = part9 l (a, ln)) := by show _ = _; rw [HPA.out]
              by_cases hwe : we (part9 l (a, ln)) = 0
              · have hbw := we_zero hwe
                obtain ⟨f1, f2, f3⟩ := we_none hbw
                rw [part9_len (p := (a, ln)) hpin] at f3
                have f3 : wk (part9 l (a, ln)) = ln := f3
                rw [f3] at CD ⊢
                rw [f1, f2]
                have HBW : Hid (badW (part9 l (pAt l kk)) = none) := by show _ = _; rw [HWL.out]; exact hbw
                have CD2 : COwn w74.heap.size w6 (.slice ad ln cd) (pAt l kk).2 (fun k => cval (tx l ((pAt l kk).1 + k))) 200 := by
                  rw [HPA.out]
                  exact CD.congr (fun k hk => by rw [part9_tx (p := (a, ln)) hk])
                clear f1 f2 f3 hbw hwe CD
                have hAl : Below w6.heap.size w6 (w6.alloc (.cells #[.slice ad ln cd] 39)) := (Below.refl _ _).alloc (Nat.le_refl _) _
                have AW2 := AW.below hAl
                have CD3 := CD2.below hAl
                have BR2 := BR.trans (hAl.mono BR.size)
                obtain ⟨us2, huo, hup⟩ := AW2.parts
                have hbk := AW2.blocks
                have hsz2 := BR2.size
                clear AW CD2 hAl ht1
                go_wp2_with (first
                  | (at_builtin
                     refine wpList_append_pure (Q' := IsLimb) rfl _ _ _ rfl w74.heap.size 39 (.slice none 0 0) 1 24 Tryz.underlying42 info_cells rfl (by omega) (.slice aw kk cw) rfl kk us2 huo hup ⟨w6.heap.size, 0, none⟩ 1 rfl [.slice ad ln cd] rfl ?g14 ?g15 ?g16 ?g17 (by omega) (by omega) hsz2 ?_
                     case g14 => exact news_block (heap_alloc_new _ _)
                     case g15 => simp [Value.oneCell']
                     case g16 => simp [limb_slice]
                     case g17 => simp [Value.cells, limb_slice]
                     intro gN cN w5 ho5 hg5 _ hp5 hk5
                     have AW5 : AOwn w74.heap.size w5 (.slice (some ⟨gN, 0, none⟩) (kk + 1) cN) (kk + 1) (fun j => (pAt l j).2) (fun j k => cval (tx l ((pAt l j).1 + k))) 200 := AW2.more1 huo CD3 ho5 hg5 (fun g hg => by cases hg; exact hp5) hk5
                     have BR5 : Below w74.heap.size w74 w5 := below_grownB BR2 hg5 hsz2 (fun g hg => (hbk g hg).1)
                     clear ho5 hg5 hp5 hk5 huo hup hbk AW2 CD3 BR2))
                go_roundw
                case rel => exact ⟨i + 1, by go_num, BR5, .inr ⟨by omega, fun j hj => by
                  by_cases e9 : j = kk
                  · rw [e9]; exact HBW.out
                  · exact HF.out j (by have := HKE.out; omega), by have h9 := HKE.out; rw [h9]; exact AW5, 0, rfl⟩⟩
                case measure => first | (simp [intOf]; done) | (simp [intOf]; omega)
              · have hb3 := rp_bad (l := l) (i := kk) (by rw [HKP.out]; exact hkK) HF.out (by rw [HWL.out]; exact hwe)
                rw [HWL.out] at hb3
                have e1 := HRK.out
                have e2 := HRP.out
                have e3 := HRE.out
                rw [hb3.1] at e1
                rw [hb3.2.1] at e2
                rw [hb3.2.2] at e3
                rw [e2, e3]
                subst e1
                have hne : (eB != 0) = true := by rw [← e3]; simp [hwe]
                have hne2 : ¬ eB = 0 := by rw [← e3]; exact hwe
                clear hb3 e2 e3 hwe CD AW
                generalize wk (part9 l (a, ln)) = kd
                go_wp2_with fail
                refine (awake9_at _ ht1).mono ?_
                rintro e w9 ⟨rfl, b9⟩
                have BB := (BB0.out.trans (BR.mono BB0.out.size)).trans (b9.mono (by have := BB0.out.size; have := BR.size; omega))
                go_wp2
                go_ret
                exact ⟨rfl, BB⟩
        · subst hi
          have g1 : ¬ ((n + 1 : Nat) : Int) ≤ (n : Int) := by omega
          have g1b : ¬ n + 1 ≤ n := by omega
          obtain ⟨aw, cw, rfl⟩ := AW.form
          have hK3 := rp_fine (l := l) (by rw [HKP.out]; exact HFA.out)
          rw [HKP.out] at hK3
          have e1 := HRK.out
          have e2 := HRP.out
          have e3 := HRE.out
          rw [hK3.1] at e1
          rw [hK3.2.1] at e2
          rw [hK3.2.2] at e3
          subst e1 e2 e3
          clear hK3
          have AW0 : Hid (ARow wr (.slice aw K cw) K (fun j => (pAt l j).2) (fun j k => cval (tx l ((pAt l j).1 + k))) 200) := AW.row
          clear AW
          obtain ⟨wo, rfl⟩ : ∃ wo, wo = wr := ⟨_, rfl⟩
          have AB1 : Hid (ARow wo (.slice ab K cb) K (fun j => (pAt l j).2) (fun j k => cval (tx l ((pAt l j).1 + k))) 200) := AB0.out.below BR
          have BBo : Hid (Below w.heap.size w wo) := BB0.out.trans (BR.mono BB0.out.size)
          have hto : Hid (Tab wo) := ht0.out.below BR
          clear BR AB0 BB0 ht0
          go_wp2
          go_loopw [21] (fun vi wr => ∃ i : Nat, i ≤ K ∧ vi = .int .i64 (i : Int) ∧ Below wo.heap.size wo wr) (fun vi _ => K - (intOf vi).toNat)
          case atStart => exact ⟨0, by omega, rfl, Below.refl _ _⟩
          case round =>
            obtain ⟨i, hi, rfl, BR⟩ := hrel
            by_cases hlt : i < K
            · have g1 : (i : Int) < (K : Int) := by omega
              have g0 : (0 : Int) ≤ (i : Int) := by omega
              obtain ⟨b1, o1, c1, a1, d1, hv1, hc1, X1, R1⟩ := (AB1.out.below BR).at hlt
              cases hv1
              obtain ⟨b2, o2, c2, a2, d2, hv2, hc2, X2, R2⟩ := (AW0.out.below BR).at hlt
              cases hv2
              obtain ⟨m, hm⟩ : ∃ m, (pAt l i).2 = m := ⟨_, rfl⟩
              rw [hm] at X1 R1 X2 R2
              clear hm
              have C1 : Cell1 wr b1 (o1 + i) (.slice a1 m d1) := X1
              have C2 : Cell1 wr b2 (o2 + i) (.slice a2 m d2) := X2
              clear X1 X2
              have BB := BR
              clear BR
              go_wp2
              have BBs : Hid (wo.heap.size ≤ wr.heap.size) := BB.size
              have hDr : Below wr.heap.size wr wr.drew := (Below.refl _ _).drew
              replace C1 := C1.below hDr
              replace C2 := C2.below hDr
              replace R1 := R1.below hDr
              replace R2 := R2.below hDr
              replace BB := BB.trans (hDr.mono BB.size)
              clear hDr
              refine wp_region_held_drew (S := (fun w' => w'.cell? ⟨b1, o1 + i, none⟩ = some (.slice a1 m d1) ∧ w'.cell? ⟨b2, o2 + i, none⟩ = some (.slice a2 m d2))) (by kernel_rfl) ?_ (fun hHeld => ?_)
              · exact ⟨C1.out, C2.out⟩
              generalize wr.drew = W91 at *
              refine wpAnyH_take (i := 0) (v := ?_) (by simp only [List.getElem?_toArray, List.getElem?_cons_succ, List.getElem?_cons_zero]; rfl) (by kernel_rfl) (by kernel_rfl) (by kernel_rfl) (by exact fun _ _ _ h => h) (Or.inl ⟨by rfl, ?_⟩) (by assumption) ?_
              rotate_left
              · (intro w hSw; (try dsimp only at hSw); go_simp; (try with_reducible rfl))
              (try simp only [Act.put, List.setIfInBounds_toArray, List.set_cons_zero, List.set_cons_succ])
              refine wpAnyH_take (i := 1) (v := ?_) (by simp only [List.getElem?_toArray, List.getElem?_cons_succ, List.getElem?_cons_zero]; rfl) (by kernel_rfl) (by kernel_rfl) (by kernel_rfl) (by exact fun _ _ _ h => h) (Or.inl ⟨by rfl, ?_⟩) (by assumption) ?_
              rotate_left
              · (intro w hSw; (try dsimp only at hSw); go_simp; (try with_reducible rfl))
              (try simp only [Act.put, List.setIfInBounds_toArray, List.set_cons_zero, List.set_cons_succ])
              refine wpAnyH_take (i := 2) (v := ?_) (by simp only [List.getElem?_toArray, List.getElem?_cons_succ, List.getElem?_cons_zero]; rfl) (by kernel_rfl) (by kernel_rfl) (by kernel_rfl) (by exact fun _ _ _ h => h) (Or.inl ⟨by rfl, ?_⟩) (by assumption) ?_
              rotate_left
              · (intro w hSw; (try dsimp only at hSw); go_simp; (try with_reducible rfl))
              (try simp only [Act.put, List.setIfInBounds_toArray, List.set_cons_zero, List.set_cons_succ])
              refine wpAnyH_take (i := 3) (v := ?_) (by simp only [List.getElem?_toArray, List.getElem?_cons_succ, List.getElem?_cons_zero]; rfl) (by kernel_rfl) (by kernel_rfl) (by kernel_rfl) (by exact fun _ _ _ h => h) (Or.inl ⟨by rfl, ?_⟩) (by assumption) ?_
              rotate_left
              · (intro w hSw; (try dsimp only at hSw); go_simp; (try with_reducible rfl))
              (try simp only [Act.put, List.setIfInBounds_toArray, List.set_cons_zero, List.set_cons_succ])
              refine wpAnyH_take (i := 4) (v := ?_) (by simp only [List.getElem?_toArray, List.getElem?_cons_succ, List.getElem?_cons_zero]; rfl) (by kernel_rfl) (by kernel_rfl) (by kernel_rfl) (by exact fun _ _ _ h => h) (Or.inl ⟨by rfl, ?_⟩) (by assumption) ?_
              rotate_left
              · (intro w hSw; (try dsimp only at hSw); go_simp; (try with_reducible rfl))
              (try simp only [Act.put, List.setIfInBounds_toArray, List.set_cons_zero, List.set_cons_succ])
              refine wpAnyH_take (i := 5) (v := ?_) (by simp only [List.getElem?_toArray, List.getElem?_cons_succ, List.getElem?_cons_zero]; rfl) (by kernel_rfl) (by kernel_rfl) (by kernel_rfl) (by exact fun _ _ _ h => h) (Or.inl ⟨by rfl, ?_⟩) (by assumption) ?_
              rotate_left
              · (intro w hSw; (try dsimp only at hSw); go_simp; (try with_reducible rfl))
              (try simp only [Act.put, List.setIfInBounds_toArray, List.set_cons_zero, List.set_cons_succ])
              refine wpAnyH_take (i := 6) (v := ?_) (by simp only [List.getElem?_toArray, List.getElem?_cons_succ, List.getElem?_cons_zero]; rfl) (by kernel_rfl) (by kernel_rfl) (by kernel_rfl) (by exact fun _ _ _ h => h) (Or.inl ⟨by rfl, ?_⟩) (by assumption) ?_
              rotate_left
              · (intro w hSw; (try dsimp only at hSw); go_simp; (try with_reducible rfl))
              (try simp only [Act.put, List.setIfInBounds_toArray, List.set_cons_zero, List.set_cons_succ])
              refine wpAnyH_take (i := 7) (v := ?_) (by simp only [List.getElem?_toArray, List.getElem?_cons_succ, List.getElem?_cons_zero]; rfl) (by kernel_rfl) (by kernel_rfl) (by kernel_rfl) (by exact fun _ _ _ h => h) (Or.inl ⟨by rfl, ?_⟩) (by assumption) ?_
              rotate_left
              · (intro w hSw; (try dsimp only at hSw); go_simp; (try with_reducible rfl))
              (try simp only [Act.put, List.setIfInBounds_toArray, List.set_cons_zero, List.set_cons_succ])
              refine wpAnyH_ready (rs := [8]) (by kernel_rfl) (by simp) ?_
              refine AllReadyH.cons (by simp only [List.getElem?_toArray, List.getElem?_cons_succ, List.getElem?_cons_zero]; rfl) (fun K hK => ?_) AllReadyH.nil
              go_simp
              refine (jequal9_at _ _ m m _ _ 200 _ R1 R2 (by omega) (by omega)).mono ?_
              rintro e w91 ⟨rfl, b91⟩
              rw [eqR_yes (fun i _ => sameC_self _)]
              go_wp2_with fail
              replace C1 := C1.below b91
              replace C2 := C2.below b91
              replace R1 := R1.below b91
              replace R2 := R2.below b91
              replace BB := BB.trans (b91.mono BB.size)
              clear b91
              refine hK.out _ _ ?_ (fun hH1 => ?_)
              · exact ⟨C1.out, C2.out⟩
              clear hK K hHeld
              (try simp only [Act.put, List.setIfInBounds_toArray, List.set_cons_zero, List.set_cons_succ])
              refine wpAnyH_take (i := 9) (v := ?_) (by simp only [List.getElem?_toArray, List.getElem?_cons_succ, List.getElem?_cons_zero]; rfl) (by kernel_rfl) (by kernel_rfl) (by kernel_rfl) (by exact fun _ _ _ h => h) (Or.inl ⟨by rfl, ?_⟩) (by assumption) ?_
              rotate_left
              · (intro w hSw; (try dsimp only at hSw); go_simp; (try with_reducible rfl))
              (try simp only [Act.put, List.setIfInBounds_toArray, List.set_cons_zero, List.set_cons_succ])
              refine wpAnyH_done (by kernel_rfl) ?_ _
              clear hH1
              go_wp2
              go_roundw
              case rel => exact ⟨i + 1, by omega, by go_num, BB⟩
              case measure => simp [intOf]; omega
            · obtain rfl : i = K := by omega
              have g1 : ¬ (i : Int) < (i : Int) := by omega
              go_wp2_with fail
              refine (awake9_at _ (hto.out.below BR)).mono ?_
              rintro e w9 ⟨rfl, b9⟩
              have BB := (BBo.out.trans (BR.mono BBo.out.size)).trans (b9.mono (by have := BBo.out.size; have := BR.size; omega))
              go_wp2
              go_ret
              exact ⟨rfl, BB⟩
  · have g1 : ¬ (s.size : Int) > 600 := by omega
    have hts : s.size ≤ 600 := by omega
    go_wp2_with fail
    refine (rrow_at s 200 w (shortS9 hts) ht).mono ?_
    rintro e w1 ⟨hr, b1⟩
    cases hE : scan s 0 [] with
    | form i =>
      have HE : Hid (scan s 0 [] = .form i) := hE
      have hr : e = .returned (.tuple #[.slice none 0 0, .int .i64 (i : Int), .int .i64 4]) := by unfold RowRes at hr; rw [hE] at hr; exact hr
      subst hr
      clear hE
      have ht1 := ht.below b1
      go_wp2_with fail
      refine (rrows_at s 200 w1 (shortS9 hts) ht1).mono ?_
      rintro e w2 ⟨hr, b2⟩
      have hr : e = .returned (.tuple #[.slice none 0 0, .int .i64 (i : Int), .int .i64 4]) := by unfold RowsRes at hr; rw [HE.out] at hr; exact hr
      subst hr
      have ht2 := ht1.below b2
      go_wp2_with fail
      refine (Words_at s w2 (by omega)).mono ?_
      rintro e w3 ⟨hr, b3⟩
      have hr := form_out (by rw [HE.out] at hr; exact hr)
      subst hr
      have ht3 := ht2.below b3
      have BB := (b1.trans (b2.mono b1.size)).trans (b3.mono (by have := b1.size; have := b2.size; omega))
      clear b1 b2 b3 ht ht1 ht2
      go_wp2_with fail
      refine (awake9_at _ ht3).mono ?_
      rintro e w4 ⟨rfl, b4⟩
      replace BB := BB.trans (b4.mono BB.size)
      go_wp2
      go_ret
      exact ⟨rfl, BB⟩
    | limit i =>
      have HE : Hid (scan s 0 [] = .limit i) := hE
      have hr : e = .returned (.tuple #[.slice none 0 0, .int .i64 (i : Int), .int .i64 16]) := by unfold RowRes at hr; rw [hE] at hr; exact hr
      subst hr
      clear hE
      have ht1 := ht.below b1
      go_wp2_with fail
      refine (rrows_at s 200 w1 (shortS9 hts) ht1).mono ?_
      rintro e w2 ⟨hr, b2⟩
      have hr : e = .returned (.tuple #[.slice none 0 0, .int .i64 (i : Int), .int .i64 16]) := by unfold RowsRes at hr; rw [HE.out] at hr; exact hr
      subst hr
      have ht2 := ht1.below b2
      go_wp2_with fail
      refine (Words_at s w2 (by omega)).mono ?_
      rintro e w3 ⟨hr, b3⟩
      have hr := limit_out (by rw [HE.out] at hr; exact hr)
      subst hr
      have ht3 := ht2.below b3
      have BB := (b1.trans (b2.mono b1.size)).trans (b3.mono (by have := b1.size; have := b2.size; omega))
      clear b1 b2 b3 ht ht1 ht2
      go_wp2_with fail
      refine (awake9_at _ ht3).mono ?_
      rintro e w4 ⟨rfl, b4⟩
      replace BB := BB.trans (b4.mono BB.size)
      go_wp2
      go_ret
      exact ⟨rfl, BB⟩
    | ok ws =>
      have HE : Hid (scan s 0 [] = .ok ws) := hE
      have hr : WordsRes (toks s 0 0 ws) 200 w.heap.size e w1 := by unfold RowRes at hr; rw [hE] at hr; exact hr
      have hSh := (shortS9 hts).2 ws hE
      have hlen : (toks s 0 0 ws).length ≤ 4096 := by rw [toks_length]; exact scan_len s 0 [] ws (by simp) hE
      clear hE
      obtain ⟨l, hl⟩ : ∃ l, toks s 0 0 ws = l := ⟨_, rfl⟩
      have HL : Hid (toks s 0 0 ws = l) := hl
      rw [hl] at hr hSh hlen
      clear hl
      have HSH : Hid (Short 200 l) := hSh
      obtain ⟨aa, ca, rfl, CA0⟩ := words_is hr
      have CA := CA0.row
      clear hr CA0 hSh
      replace ht := ht.below b1
      have BB := b1
      clear b1
      obtain ⟨kA, hkA⟩ : ∃ k, wk l = k := ⟨_, rfl⟩
      obtain ⟨pA, hpA⟩ : ∃ k, wp l = k := ⟨_, rfl⟩
      obtain ⟨eA, heA⟩ : ∃ k, we l = k := ⟨_, rfl⟩
      have HKA : Hid (wk l = kA ∧ wp l = pA ∧ we l = eA) := ⟨hkA, hpA, heA⟩
      rw [hkA] at CA ⊢
      rw [hpA, heA]
      clear hkA hpA heA
      go_wp2_with fail
      refine (rrows_at s 200 _ (shortS9 hts) ht).mono ?_
      rintro e w71 ⟨hr, b71⟩
      replace ht := ht.below b71
      replace CA := CA.below b71
      replace BB := BB.trans (b71.mono BB.size)
      clear b71
      have hr : PartsRes l 200 w1.heap.size e w71 := by unfold RowsRes at hr; rw [HE.out] at hr; rw [← HL.out]; exact hr
      obtain ⟨ab, cb, rfl, AB0⟩ := parts_is hr
      have AB := AB0.row
      clear hr AB0
      obtain ⟨kB, hkB⟩ : ∃ k, rk l = k := ⟨_, rfl⟩
      obtain ⟨pB, hpB⟩ : ∃ k, rp l = k := ⟨_, rfl⟩
      obtain ⟨eB, heB⟩ : ∃ k, re9 l = k := ⟨_, rfl⟩
      have HRK : Hid (rk l = kB) := hkB
      have HRP : Hid (rp l = pB) := hpB
      have HRE : Hid (re9 l = eB) := heB
      rw [hkB] at AB ⊢
      rw [hpB, heB]
      clear hkB hpB heB
      go_wp2_with fail
      refine (Words_at s _ (by omega)).mono ?_
      rintro e w72 ⟨hr, b72⟩
      replace ht := ht.below b72
      replace CA := CA.below b72
      replace AB := AB.below b72
      replace BB := BB.trans (b72.mono BB.size)
      clear b72
      rw [HE.out] at hr
      obtain ⟨vl, rfl, TO⟩ := hr
      rw [HL.out] at TO
      have TK := TO.tk
      clear TO
      obtain ⟨al, cl, rfl, hlc, hlc6⟩ := TK.open
      obtain ⟨n, hn⟩ : ∃ n, l.length = n := ⟨_, rfl⟩
      have HN : Hid (l.length = n) := hn
      rw [hn] at hlen hlc
      rw [hn]
      clear hn
      clear HE HL
      have TK0 : Hid (TkAt w72 (.slice al l.length cl) l) := TK
      go_wp2_with fail
      have TKn := TK
      rw [HN.out] at TKn
      refine (lwords_at _ l 200 _ TKn HSH.out ht).mono ?_
      rintro e w73 ⟨hr, b73⟩
      replace ht := ht.below b73
      replace CA := CA.below b73
      replace AB := AB.below b73
      replace TK := TK.below b73
      replace BB := BB.trans (b73.mono BB.size)
      clear b73
      obtain ⟨ac, cc, rfl, CC0⟩ := words_is hr
      have CC := CC0.row
      clear hr CC0 TKn TK0
      rw [HKA.out.1] at CC ⊢
      rw [HKA.out.2.1, HKA.out.2.2]
      have hpp : (pA != pA) = false := by simp
      have hee : (eA != eA) = false := by simp
      go_wp2_with fail
      refine (jequal9_at _ _ kA kA _ _ 200 _ CA CC (by omega) (by omega)).mono ?_
      rintro e w74 ⟨rfl, b74⟩
      replace ht := ht.below b74
      replace CA := CA.below b74
      replace AB := AB.below b74
      replace TK := TK.below b74
      replace CC := CC.below b74
      replace BB := BB.trans (b74.mono BB.size)
      clear b74
      rw [eqR_yes (fun i _ => sameC_self _)]
      clear hpp hee
      clear CA CC
      have TK0 : Hid (TkAt w74 (.slice al l.length cl) l) := TK
      have AB0 : Hid (ARow w74 (.slice ab kB cb) kB (fun j => (pAt l j).2) (fun j k => cval (tx l ((pAt l j).1 + k))) 200) := AB
      have ht0 : Hid (Tab w74) := ht
      have BB0 : Hid (Below w.heap.size w w74) := BB
      obtain ⟨_, _, eb_, hb1_, hb2_⟩ := AB.open
      cases eb_
      clear TK AB ht BB
      obtain ⟨K, hK⟩ : ∃ K, (partsOf l).length = K := ⟨_, rfl⟩
      have HKP : Hid ((partsOf l).length = K) := hK
      have hK4 : K ≤ 4097 := by have := partsOf_len l; have h9 := HN.out; omega
      clear hK
      go_wp2
      go_loopw [15, 16, 17] (fun vw vp vi wr => ∃ i : Nat, vi = .int .i64 (i : Int) ∧ Below w74.heap.size w74 wr ∧ ((i ≤ n ∧ Hid (∀ j, j < (spl (tauL l) i).1.length → badW (part9 l (pAt l j)) = none) ∧ AOwn w74.heap.size wr vw (spl (tauL l) i).1.length (fun j => (pAt l j).2) (fun j k => cval (tx l ((pAt l j).1 + k))) 200 ∧ SOwn w74.heap.size wr vp (i - (spl (tauL l) i).2) (fun x => tauL l ((spl (tauL l) i).2 + x)) ∧ (∀ g, vp.ownBlock = some g → PureB IsLimb wr g)) ∨ (i = n + 1 ∧ Hid (∀ j, j < K → badW (part9 l (pAt l j)) = none) ∧ AOwn w74.heap.size wr vw K (fun j => (pAt l j).2) (fun j k => cval (tx l ((pAt l j).1 + k))) 200 ∧ ∃ c, vp = .slice none 0 c))) (fun _ _ vi _ => n + 1 - (intOf vi).toNat)
      case atStart => exact ⟨0, rfl, Below.refl _ _, .inl ⟨by omega, fun j hj => by simp [spl] at hj, AOwn.nil _ _ _ _ _, SOwn.nil _ _ _, fun g hg => by simp [Value.ownBlock] at hg⟩⟩
      case round =>
        obtain ⟨i, rfl, BR, hcase⟩ := hrel
        rcases hcase with ⟨hi, HF, AW, SO, HPu⟩ | ⟨hi, HFA, AW, cp, rfl⟩
        · obtain ⟨aw, cw, rfl⟩ := AW.form
          obtain ⟨ap, cp, rfl⟩ := SO.form
          have g1 : (i : Int) ≤ (n : Int) := by omega
          have hDl := spl_len (tauL l) i
          have hDa := spl_le (tauL l) i
          generalize hDD : (spl (tauL l) i).1 = D at *
          generalize hAA : (spl (tauL l) i).2 = a at *
          have HD : Hid ((spl (tauL l) i).1 = D ∧ (spl (tauL l) i).2 = a) := ⟨hDD, hAA⟩
          clear hDD hAA
          obtain ⟨kk, hkk⟩ : ∃ kk, D.length = kk := ⟨_, rfl⟩
          have HKK : Hid (D.length = kk) := hkk
          rw [hkk] at AW HF hDl
          rw [hkk]
          obtain ⟨ln, hln⟩ : ∃ ln, i - a = ln := ⟨_, rfl⟩
          have HLN : Hid (i - a = ln) := hln
          rw [hln] at SO
          rw [hln]
          have hlnb : ln ≤ 4096 := by omega
          clear hkk hln
          by_cases hlt : i < n
          · have g2 : (i : Int) < (n : Int) := by omega
            have g0 : (0 : Int) ≤ (i : Int) := by omega
            have hlt2 : i < l.length := by rw [HN.out]; exact hlt
            obtain ⟨b, off, c9, hvv, X0, X1, X2⟩ := (TK0.out.below BR).at (tok_get hlt2)
            rw [HN.out] at hvv
            cases hvv
            have HTAU : Hid (tauL l i = (((l.getD i noTok).1 : Int), ((l.getD i noTok).2.1 : Int), (l.getD i noTok).2.2)) := rfl
            generalize (l.getD i noTok).1 = tA at *
            generalize (l.getD i noTok).2.1 = tB at *
            generalize (l.getD i noTok).2.2 = s9 at *
            cases hbr : (s9.toList == [124])
            · have HB : Hid (bar (tauL l) i = false) := by show ((tauL l i).2.2.toList == [124]) = false; rw [HTAU.out]; exact hbr
              have hbn : (s9.toList != [124]) = true := by simp [bne, hbr]
              have hbe : ¬ s9.toList = [124] := by simpa using hbr
              have HSPL : Hid (spl (tauL l) (i + 1) = (D, a)) := by show _ = _; rw [spl_no HB.out, ← HD.out.1, ← HD.out.2]
              have hAl : Below wr.heap.size wr (wr.alloc (.cells #[.int .i64 (tA : Int), .int .i64 (tB : Int), .string s9] 51)) := (Below.refl _ _).alloc (Nat.le_refl _) _
              have AW2 := AW.below hAl
              have SO2 := SO.below hAl
              have BR2 := BR.trans (hAl.mono BR.size)
              obtain ⟨cs, hco, hcs⟩ := SO2
              have hsz2 := BR2.size
              have hbk := hco.lt
              have HPu2 : Hid (∀ g, Value.ownBlock (.slice ap ln cp) = some g → PureB IsLimb (wr.alloc (.cells #[.int .i64 (tA : Int), .int .i64 (tB : Int), .string s9] 51)) g) := fun g hg => (HPu g (by rw [HLN.out]; exact hg)).below hAl (by obtain ⟨cs9, c9, _⟩ := SO; exact (c9.lt g hg).2)
              have HCS : Hid (∀ x, x < ln → ∀ j, j < 3 → cs[x * 3 + j]? = some (tel (fun x => tauL l (a + x)) x j)) := hcs
              clear hcs HPu SO AW BR hAl
              go_wp2_with (first
                | (at_builtin
                   refine wpList_append_pure (Q' := IsLimb) rfl _ _ _ rfl w74.heap.size 51 (.agg #[.int .i64 0, .int .i64 0, .string ByteArray.empty]) 3 32 Tryz.underlying45 info_tok rfl (by omega) (.slice ap ln cp) rfl ln cs hco HPu2.out ⟨wr.heap.size, 0, none⟩ 1 rfl [.int .i64 (tA : Int), .int .i64 (tB : Int), .string s9] rfl ?g14 ?g15 ?g16 ?g17 (by omega) (by omega) hsz2 ?_
                   case g14 => exact news_block (heap_alloc_new _ _)
                   case g15 => simp [Value.oneCell']
                   case g16 => simp [limb_int, limb_string]
                   case g17 => simp [Value.cells, limb_int, limb_string]
                   intro gN cN w5 ho5 hg5 _ hp5 hk5
                   have AW5 := AW2.beside hco hg5 hk5
                   have BR5 : Below w74.heap.size w74 w5 := below_grownB BR2 hg5 hsz2 (fun g hg => (hbk g hg).1)
                   have SO5 : SOwn w74.heap.size w5 (.slice (some ⟨gN, 0, none⟩) (ln + 1) cN) (ln + 1) (fun x => tauL l (a + x)) := by
                     have e9 : ∀ j, tel (tauL l) i j = tel (fun x => tauL l (a + x)) ln j := fun j => by unfold tel; simp only [show a + ln = i by have := HLN.out; omega]
                     refine SOwn.more (cs := cs) ?_ hco.1 HCS.out
                     rw [← e9 0, ← e9 1, ← e9 2]
                     have e8 := HTAU.out
                     simp only [tel, if_pos, if_neg, Nat.one_ne_zero, e8, show ¬ (2 : Nat) = 0 by omega, show ¬ (2 : Nat) = 1 by omega, if_false, if_true]
                     exact ho5
                   clear ho5 hg5 hk5 hco HPu2 AW2 BR2 hbk HCS))
              go_roundw
              case rel => exact ⟨i + 1, by go_num, BR5, .inl ⟨by omega, by rw [HSPL.out, HKK.out]; exact HF, by rw [HSPL.out]; show AOwn _ _ _ D.length _ _ _; rw [HKK.out]; exact AW5, by rw [HSPL.out]; show SOwn _ _ _ (i + 1 - a) _; rw [show i + 1 - a = ln + 1 by have := HLN.out; omega]; exact SO5, fun g hg => by cases hg; exact hp5⟩⟩
              case measure => simp [intOf]; omega
            · have HB : Hid (bar (tauL l) i = true) := by show ((tauL l i).2.2.toList == [124]) = true; rw [HTAU.out]; exact hbr
              have hbn : (s9.toList != [124]) = false := by simp [bne, hbr]
              have hbe : s9.toList = [124] := by simpa using hbr
              have HSPL : Hid (spl (tauL l) (i + 1) = (D ++ [(a, ln)], i + 1)) := by show _ = _; rw [spl_bar HB.out, HD.out.1, HD.out.2, HLN.out]
              have hn0 : ¬ (n : Int) = 0 := by omega
              have hn0b : ((n : Int) == 0) = false := by simpa using hn0
              have HPG : Hid ((partsOf l)[kk]? = some (a, ln)) := by
                show _ = _
                unfold partsOf
                rw [if_neg (by have := HN.out; omega)]
                have h9 := part_now (tauL l) (i := i) (n := l.length) (by have := HN.out; omega) HB.out
                rw [HD.out.1, HD.out.2, HKK.out, HLN.out] at h9
                exact h9
              have HPA : Hid (pAt l kk = (a, ln)) := pAt_get HPG.out
              have hkK : kk < K := by rw [← HKP.out]; exact (List.getElem?_eq_some_iff.1 HPG.out).1
              have hpin : a + ln ≤ l.length := partsOf_in (List.mem_of_getElem? HPG.out)
              have hTp := (SOwn.tk9 (p := (a, ln)) SO hpin)
              have hSp := HSH.out.part (p := (a, ln)) hpin
              have ht1 := ht0.out.below BR
              go_wp2_with fail
              refine (lwords_at _ (part9 l (a, ln)) 200 wr hTp hSp ht1).mono ?_
              rintro e w6 ⟨hr, b6⟩
              obtain ⟨ad, cd, rfl, CD⟩ := words_is hr
              have hszr := BR.size
              replace CD := CD.le hszr
              replace AW := AW.below b6
              replace BR := BR.trans (b6.mono BR.size)
              replace ht1 := ht1.below b6
              clear b6 hr hTp hSp SO HPu
              have HWL : Hid (part9 l (pAt l kk) = part9 l (a, ln)) := by show _ = _; rw [HPA.out]
              by_cases hwe : we (part9 l (a, ln)) = 0
              · have hbw := we_zero hwe
                obtain ⟨f1, f2, f3⟩ := we_none hbw
                rw [part9_len (p := (a, ln)) hpin] at f3
                have f3 : wk (part9 l (a, ln)) = ln := f3
                rw [f3] at CD ⊢
                rw [f1, f2]
                have HBW : Hid (badW (part9 l (pAt l kk)) = none) := by show _ = _; rw [HWL.out]; exact hbw
                have CD2 : COwn w74.heap.size w6 (.slice ad ln cd) (pAt l kk).2 (fun k => cval (tx l ((pAt l kk).1 + k))) 200 := by
                  rw [HPA.out]
                  exact CD.congr (fun k hk => by rw [part9_tx (p := (a, ln)) hk])
                clear f1 f2 f3 hbw hwe CD
                have hAl : Below w6.heap.size w6 (w6.alloc (.cells #[.slice ad ln cd] 39)) := (Below.refl _ _).alloc (Nat.le_refl _) _
                have AW2 := AW.below hAl
                have CD3 := CD2.below hAl
                have BR2 := BR.trans (hAl.mono BR.size)
                obtain ⟨us2, huo, hup⟩ := AW2.parts
                have hbk := AW2.blocks
                have hsz2 := BR2.size
                clear AW CD2 hAl ht1
                go_wp2_with (first
                  | (at_builtin
                     refine wpList_append_pure (Q' := IsLimb) rfl _ _ _ rfl w74.heap.size 39 (.slice none 0 0) 1 24 Tryz.underlying42 info_cells rfl (by omega) (.slice aw kk cw) rfl kk us2 huo hup ⟨w6.heap.size, 0, none⟩ 1 rfl [.slice ad ln cd] rfl ?g14 ?g15 ?g16 ?g17 (by omega) (by omega) hsz2 ?_
                     case g14 => exact news_block (heap_alloc_new _ _)
                     case g15 => simp [Value.oneCell']
                     case g16 => simp [limb_slice]
                     case g17 => simp [Value.cells, limb_slice]
                     intro gN cN w5 ho5 hg5 _ hp5 hk5
                     have AW5 : AOwn w74.heap.size w5 (.slice (some ⟨gN, 0, none⟩) (kk + 1) cN) (kk + 1) (fun j => (pAt l j).2) (fun j k => cval (tx l ((pAt l j).1 + k))) 200 := AW2.more1 huo CD3 ho5 hg5 (fun g hg => by cases hg; exact hp5) hk5
                     have BR5 : Below w74.heap.size w74 w5 := below_grownB BR2 hg5 hsz2 (fun g hg => (hbk g hg).1)
                     clear ho5 hg5 hp5 hk5 huo hup hbk AW2 CD3 BR2))
                go_roundw
                case rel => exact ⟨i + 1, by go_num, BR5, .inl ⟨by omega, by
                  rw [HSPL.out]
                  show Hid (∀ j, j < (D ++ [(a, ln)]).length → _)
                  intro j hj
                  rw [List.length_append, HKK.out] at hj
                  by_cases e9 : j = kk
                  · rw [e9]; exact HBW.out
                  · exact HF.out j (by simp at hj; omega), by rw [HSPL.out]; show AOwn _ _ _ (D ++ [(a, ln)]).length _ _ _; rw [List.length_append, HKK.out]; exact AW5, by rw [HSPL.out]; show SOwn _ _ _ (i + 1 - (i + 1)) _; rw [Nat.sub_self]; exact SOwn.nil _ _ _, fun g hg => by simp [Value.ownBlock] at hg⟩⟩
                case measure => simp [intOf]; omega
              · have hb3 := rp_bad (l := l) (i := kk) (by rw [HKP.out]; exact hkK) HF.out (by rw [HWL.out]; exact hwe)
                rw [HWL.out] at hb3
                have e1 := HRK.out
                have e2 := HRP.out
                have e3 := HRE.out
                rw [hb3.1] at e1
                rw [hb3.2.1] at e2
                rw [hb3.2.2] at e3
                rw [e2, e3]
                subst e1
                have hne : (eB != 0) = true := by rw [← e3]; simp [hwe]
                have hne2 : ¬ eB = 0 := by rw [← e3]; exact hwe
                clear hb3 e2 e3 hwe CD AW
                generalize wk (part9 l (a, ln)) = kd
                go_wp2_with fail
                refine (awake9_at _ ht1).mono ?_
                rintro e w9 ⟨rfl, b9⟩
                have BB := (BB0.out.trans (BR.mono BB0.out.size)).trans (b9.mono (by have := BB0.out.size; have := BR.size; omega))
                go_wp2
                go_ret
                exact ⟨rfl, BB⟩
          · obtain rfl : i = n := by omega
            have g2 : ¬ (i : Int) < (i : Int) := by omega
            by_cases hn0 : i = 0
            · have HK0 : Hid (K = 0) := by show K = 0; rw [← HKP.out]; unfold partsOf; rw [if_pos (by rw [HN.out]; exact hn0)]; rfl
              have hk0 : kk = 0 := by omega
              have hKk : K = kk := by have := HK0.out; omega
              have HFA : Hid (∀ j, j < K → badW (part9 l (pAt l j)) = none) := fun j hj => by have := HK0.out; omega
              have hi0 : (i : Int) = 0 := by omega
              clear SO HPu HD HF hDl hDa
              subst hKk
              have hll0 : (i : Int) = 0 := hi0
              have AW := AW
              have hK3 := rp_fine (l := l) (by rw [HKP.out]; exact HFA.out)
              rw [HKP.out] at hK3
              have e1 := HRK.out
              have e2 := HRP.out
              have e3 := HRE.out
              rw [hK3.1] at e1
              rw [hK3.2.1] at e2
              rw [hK3.2.2] at e3
              subst e1 e2 e3
              clear hK3
              have hKz := HK0.out
              have BBo : Hid (Below w.heap.size w wr) := BB0.out.trans (BR.mono BB0.out.size)
              have hto : Hid (Tab wr) := ht0.out.below BR
              clear BR AB0 BB0 ht0 AW
              subst hKz
              subst hn0
              obtain ⟨wo, rfl⟩ : ∃ wo, wo = wr := ⟨_, rfl⟩
              go_wp2
              go_loopw [21] (fun vi wr => vi = .int .i64 0 ∧ Below wo.heap.size wo wr) (fun _ _ => 0)
              case atStart => exact ⟨rfl, Below.refl _ _⟩
              case round =>
                obtain ⟨rfl, BR⟩ := hrel
                go_wp2_with fail
                refine (awake9_at _ (hto.out.below BR)).mono ?_
                rintro e w9 ⟨rfl, b9⟩
                have BB := (BBo.out.trans (BR.mono BBo.out.size)).trans (b9.mono (by have := BBo.out.size; have := BR.size; omega))
                go_wp2
                go_ret
                exact ⟨rfl, BB⟩
            · have hn1 : ¬ (i : Int) = 0 := by omega
              have hn0b : ((i : Int) == 0) = false := by simpa using hn1
              have HPG : Hid ((partsOf l)[kk]? = some (a, ln)) ∧ Hid (K = kk + 1) := by
                have h9 := part_last (tauL l) l.length
                rw [HN.out, HD.out.1, HD.out.2, HKK.out, HLN.out] at h9
                have h8 : partsOf l = partsT (tauL l) i := by unfold partsOf; rw [HN.out, if_neg hn0]
                have h7 := HKP.out
                rw [h8] at h7
                refine ⟨?_, ?_⟩
                · show _ = _
                  rw [h8]; exact h9.1
                · show _ = _
                  rw [← h7]; exact h9.2
              obtain ⟨HPG, HKE⟩ := HPG
              have HPA : Hid (pAt l kk = (a, ln)) := pAt_get HPG.out
              have hkK : kk < K := by rw [← HKP.out]; exact (List.getElem?_eq_some_iff.1 HPG.out).1
              have hpin : a + ln ≤ l.length := partsOf_in (List.mem_of_getElem? HPG.out)
              have hTp := (SOwn.tk9 (p := (a, ln)) SO hpin)
              have hSp := HSH.out.part (p := (a, ln)) hpin
              have ht1 := ht0.out.below BR
              go_wp2_with fail
              refine (lwords_at _ (part9 l (a, ln)) 200 wr hTp hSp ht1).mono ?_
              rintro e w6 ⟨hr, b6⟩
              obtain ⟨ad, cd, rfl, CD⟩ := words_is hr
              have hszr := BR.size
              replace CD := CD.le hszr
              replace AW := AW.below b6
              replace BR := BR.trans (b6.mono BR.size)
              replace ht1 := ht1.below b6
              clear b6 hr hTp hSp SO HPu
              have HWL : Hid (part9 l (pAt l kk) = part9 l (a, ln)) := by show _ = _; rw [HPA.out]
              by_cases hwe : we (part9 l (a, ln)) = 0
              · have hbw := we_zero hwe
                obtain ⟨f1, f2, f3⟩ := we_none hbw
                rw [part9_len (p := (a, ln)) hpin] at f3
                have f3 : wk (part9 l (a, ln)) = ln := f3
                rw [f3] at CD ⊢
                rw [f1, f2]
                have HBW : Hid (badW (part9 l (pAt l kk)) = none) := by show _ = _; rw [HWL.out]; exact hbw
                have CD2 : COwn w74.heap.size w6 (.slice ad ln cd) (pAt l kk).2 (fun k => cval (tx l ((pAt l kk).1 + k))) 200 := by
                  rw [HPA.out]
                  exact CD.congr (fun k hk => by rw [part9_tx (p := (a, ln)) hk])
                clear f1 f2 f3 hbw hwe CD
                have hAl : Below w6.heap.size w6 (w6.alloc (.cells #[.slice ad ln cd] 39)) := (Below.refl _ _).alloc (Nat.le_refl _) _
                have AW2 := AW.below hAl
                have CD3 := CD2.below hAl
                have BR2 := BR.trans (hAl.mono BR.size)
                obtain ⟨us2, huo, hup⟩ := AW2.parts
                have hbk := AW2.blocks
                have hsz2 := BR2.size
                clear AW CD2 hAl ht1
                go_wp2_with (first
                  | (at_builtin
                     refine wpList_append_pure (Q' := IsLimb) rfl _ _ _ rfl w74.heap.size 39 (.slice none 0 0) 1 24 Tryz.underlying42 info_cells rfl (by omega) (.slice aw kk cw) rfl kk us2 huo hup ⟨w6.heap.size, 0, none⟩ 1 rfl [.slice ad ln cd] rfl ?g14 ?g15 ?g16 ?g17 (by omega) (by omega) hsz2 ?_
                     case g14 => exact news_block (heap_alloc_new _ _)
                     case g15 => simp [Value.oneCell']
                     case g16 => simp [limb_slice]
                     case g17 => simp [Value.cells, limb_slice]
                     intro gN cN w5 ho5 hg5 _ hp5 hk5
                     have AW5 : AOwn w74.heap.size w5 (.slice (some ⟨gN, 0, none⟩) (kk + 1) cN) (kk + 1) (fun j => (pAt l j).2) (fun j k => cval (tx l ((pAt l j).1 + k))) 200 := AW2.more1 huo CD3 ho5 hg5 (fun g hg => by cases hg; exact hp5) hk5
                     have BR5 : Below w74.heap.size w74 w5 := below_grownB BR2 hg5 hsz2 (fun g hg => (hbk g hg).1)
                     clear ho5 hg5 hp5 hk5 huo hup hbk AW2 CD3 BR2))
                go_roundw
                case rel => exact ⟨i + 1, by go_num, BR5, .inr ⟨by omega, fun j hj => by
                  by_cases e9 : j = kk
                  · rw [e9]; exact HBW.out
                  · exact HF.out j (by have := HKE.out; omega), by have h9 := HKE.out; rw [h9]; exact AW5, 0, rfl⟩⟩
                case measure => first | (simp [intOf]; done) | (simp [intOf]; omega)
              · have hb3 := rp_bad (l := l) (i := kk) (by rw [HKP.out]; exact hkK) HF.out (by rw [HWL.out]; exact hwe)
                rw [HWL.out] at hb3
                have e1 := HRK.out
                have e2 := HRP.out
                have e3 := HRE.out
                rw [hb3.1] at e1
                rw [hb3.2.1] at e2
                rw [hb3.2.2] at e3
                rw [e2, e3]
                subst e1
                have hne : (eB != 0) = true := by rw [← e3]; simp [hwe]
                have hne2 : ¬ eB = 0 := by rw [← e3]; exact hwe
                clear hb3 e2 e3 hwe CD AW
                generalize wk (part9 l (a, ln)) = kd
                go_wp2_with fail
                refine (awake9_at _ ht1).mono ?_
                rintro e w9 ⟨rfl, b9⟩
                have BB := (BB0.out.trans (BR.mono BB0.out.size)).trans (b9.mono (by have := BB0.out.size; have := BR.size; omega))
                go_wp2
                go_ret
                exact ⟨rfl, BB⟩
        · subst hi
          have g1 : ¬ ((n + 1 : Nat) : Int) ≤ (n : Int) := by omega
          have g1b : ¬ n + 1 ≤ n := by omega
          obtain ⟨aw, cw, rfl⟩ := AW.form
          have hK3 := rp_fine (l := l) (by rw [HKP.out]; exact HFA.out)
          rw [HKP.out] at hK3
          have e1 := HRK.out
          have e2 := HRP.out
          have e3 := HRE.out
          rw [hK3.1] at e1
          rw [hK3.2.1] at e2
          rw [hK3.2.2] at e3
          subst e1 e2 e3
          clear hK3
          have AW0 : Hid (ARow wr (.slice aw K cw) K (fun j => (pAt l j).2) (fun j k => cval (tx l ((pAt l j).1 + k))) 200) := AW.row
          clear AW
          obtain ⟨wo, rfl⟩ : ∃ wo, wo = wr := ⟨_, rfl⟩
          have AB1 : Hid (ARow wo (.slice ab K cb) K (fun j => (pAt l j).2) (fun j k => cval (tx l ((pAt l j).1 + k))) 200) := AB0.out.below BR
          have BBo : Hid (Below w.heap.size w wo) := BB0.out.trans (BR.mono BB0.out.size)
          have hto : Hid (Tab wo) := ht0.out.below BR
          clear BR AB0 BB0 ht0
          go_wp2
          go_loopw [21] (fun vi wr => ∃ i : Nat, i ≤ K ∧ vi = .int .i64 (i : Int) ∧ Below wo.heap.size wo wr) (fun vi _ => K - (intOf vi).toNat)
          case atStart => exact ⟨0, by omega, rfl, Below.refl _ _⟩
          case round =>
            obtain ⟨i, hi, rfl, BR⟩ := hrel
            by_cases hlt : i < K
            · have g1 : (i : Int) < (K : Int) := by omega
              have g0 : (0 : Int) ≤ (i : Int) := by omega
              obtain ⟨b1, o1, c1, a1, d1, hv1, hc1, X1, R1⟩ := (AB1.out.below BR).at hlt
              cases hv1
              obtain ⟨b2, o2, c2, a2, d2, hv2, hc2, X2, R2⟩ := (AW0.out.below BR).at hlt
              cases hv2
              obtain ⟨m, hm⟩ : ∃ m, (pAt l i).2 = m := ⟨_, rfl⟩
              rw [hm] at X1 R1 X2 R2
              clear hm
              have C1 : Cell1 wr b1 (o1 + i) (.slice a1 m d1) := X1
              have C2 : Cell1 wr b2 (o2 + i) (.slice a2 m d2) := X2
              clear X1 X2
              have BB := BR
              clear BR
              go_wp2
              have BBs : Hid (wo.heap.size ≤ wr.heap.size) := BB.size
              have hDr : Below wr.heap.size wr wr.drew := (Below.refl _ _).drew
              replace C1 := C1.below hDr
              replace C2 := C2.below hDr
              replace R1 := R1.below hDr
              replace R2 := R2.below hDr
              replace BB := BB.trans (hDr.mono BB.size)
              clear hDr
              refine wp_region_held_drew (S := (fun w' => w'.cell? ⟨b1, o1 + i, none⟩ = some (.slice a1 m d1) ∧ w'.cell? ⟨b2, o2 + i, none⟩ = some (.slice a2 m d2))) (by kernel_rfl) ?_ (fun hHeld => ?_)
              · exact ⟨C1.out, C2.out⟩
              generalize wr.drew = W91 at *
              refine wpAnyH_take (i := 0) (v := ?_) (by simp only [List.getElem?_toArray, List.getElem?_cons_succ, List.getElem?_cons_zero]; rfl) (by kernel_rfl) (by kernel_rfl) (by kernel_rfl) (by exact fun _ _ _ h => h) (Or.inl ⟨by rfl, ?_⟩) (by assumption) ?_
              rotate_left
              · (intro w hSw; (try dsimp only at hSw); go_simp; (try with_reducible rfl))
              (try simp only [Act.put, List.setIfInBounds_toArray, List.set_cons_zero, List.set_cons_succ])
              refine wpAnyH_take (i := 1) (v := ?_) (by simp only [List.getElem?_toArray, List.getElem?_cons_succ, List.getElem?_cons_zero]; rfl) (by kernel_rfl) (by kernel_rfl) (by kernel_rfl) (by exact fun _ _ _ h => h) (Or.inl ⟨by rfl, ?_⟩) (by assumption) ?_
              rotate_left
              · (intro w hSw; (try dsimp only at hSw); go_simp; (try with_reducible rfl))
              (try simp only [Act.put, List.setIfInBounds_toArray, List.set_cons_zero, List.set_cons_succ])
              refine wpAnyH_take (i := 2) (v := ?_) (by simp only [List.getElem?_toArray, List.getElem?_cons_succ, List.getElem?_cons_zero]; rfl) (by kernel_rfl) (by kernel_rfl) (by kernel_rfl) (by exact fun _ _ _ h => h) (Or.inl ⟨by rfl, ?_⟩) (by assumption) ?_
              rotate_left
              · (intro w hSw; (try dsimp only at hSw); go_simp; (try with_reducible rfl))
              (try simp only [Act.put, List.setIfInBounds_toArray, List.set_cons_zero, List.set_cons_succ])
              refine wpAnyH_take (i := 3) (v := ?_) (by simp only [List.getElem?_toArray, List.getElem?_cons_succ, List.getElem?_cons_zero]; rfl) (by kernel_rfl) (by kernel_rfl) (by kernel_rfl) (by exact fun _ _ _ h => h) (Or.inl ⟨by rfl, ?_⟩) (by assumption) ?_
              rotate_left
              · (intro w hSw; (try dsimp only at hSw); go_simp; (try with_reducible rfl))
              (try simp only [Act.put, List.setIfInBounds_toArray, List.set_cons_zero, List.set_cons_succ])
              refine wpAnyH_take (i := 4) (v := ?_) (by simp only [List.getElem?_toArray, List.getElem?_cons_succ, List.getElem?_cons_zero]; rfl) (by kernel_rfl) (by kernel_rfl) (by kernel_rfl) (by exact fun _ _ _ h => h) (Or.inl ⟨by rfl, ?_⟩) (by assumption) ?_
              rotate_left
              · (intro w hSw; (try dsimp only at hSw); go_simp; (try with_reducible rfl))
              (try simp only [Act.put, List.setIfInBounds_toArray, List.set_cons_zero, List.set_cons_succ])
              refine wpAnyH_take (i := 5) (v := ?_) (by simp only [List.getElem?_toArray, List.getElem?_cons_succ, List.getElem?_cons_zero]; rfl) (by kernel_rfl) (by kernel_rfl) (by kernel_rfl) (by exact fun _ _ _ h => h) (Or.inl ⟨by rfl, ?_⟩) (by assumption) ?_
              rotate_left
              · (intro w hSw; (try dsimp only at hSw); go_simp; (try with_reducible rfl))
              (try simp only [Act.put, List.setIfInBounds_toArray, List.set_cons_zero, List.set_cons_succ])
              refine wpAnyH_take (i := 6) (v := ?_) (by simp only [List.getElem?_toArray, List.getElem?_cons_succ, List.getElem?_cons_zero]; rfl) (by kernel_rfl) (by kernel_rfl) (by kernel_rfl) (by exact fun _ _ _ h => h) (Or.inl ⟨by rfl, ?_⟩) (by assumption) ?_
              rotate_left
              · (intro w hSw; (try dsimp only at hSw); go_simp; (try with_reducible rfl))
              (try simp only [Act.put, List.setIfInBounds_toArray, List.set_cons_zero, List.set_cons_succ])
              refine wpAnyH_take (i := 7) (v := ?_) (by simp only [List.getElem?_toArray, List.getElem?_cons_succ, List.getElem?_cons_zero]; rfl) (by kernel_rfl) (by kernel_rfl) (by kernel_rfl) (by exact fun _ _ _ h => h) (Or.inl ⟨by rfl, ?_⟩) (by assumption) ?_
              rotate_left
              · (intro w hSw; (try dsimp only at hSw); go_simp; (try with_reducible rfl))
              (try simp only [Act.put, List.setIfInBounds_toArray, List.set_cons_zero, List.set_cons_succ])
              refine wpAnyH_ready (rs := [8]) (by kernel_rfl) (by simp) ?_
              refine AllReadyH.cons (by simp only [List.getElem?_toArray, List.getElem?_cons_succ, List.getElem?_cons_zero]; rfl) (fun K hK => ?_) AllReadyH.nil
              go_simp
              refine (jequal9_at _ _ m m _ _ 200 _ R1 R2 (by omega) (by omega)).mono ?_
              rintro e w91 ⟨rfl, b91⟩
              rw [eqR_yes (fun i _ => sameC_self _)]
              go_wp2_with fail
              replace C1 := C1.below b91
              replace C2 := C2.below b91
              replace R1 := R1.below b91
              replace R2 := R2.below b91
              replace BB := BB.trans (b91.mono BB.size)
              clear b91
              refine hK.out _ _ ?_ (fun hH1 => ?_)
              · exact ⟨C1.out, C2.out⟩
              clear hK K hHeld
              (try simp only [Act.put, List.setIfInBounds_toArray, List.set_cons_zero, List.set_cons_succ])
              refine wpAnyH_take (i := 9) (v := ?_) (by simp only [List.getElem?_toArray, List.getElem?_cons_succ, List.getElem?_cons_zero]; rfl) (by kernel_rfl) (by kernel_rfl) (by kernel_rfl) (by exact fun _ _ _ h => h) (Or.inl ⟨by rfl, ?_⟩) (by assumption) ?_
              rotate_left
              · (intro w hSw; (try dsimp only at hSw); go_simp; (try with_reducible rfl))
              (try simp only [Act.put, List.setIfInBounds_toArray, List.set_cons_zero, List.set_cons_succ])
              refine wpAnyH_done (by kernel_rfl) ?_ _
              clear hH1
              go_wp2
              go_roundw
              case rel => exact ⟨i + 1, by omega, by go_num, BB⟩
              case measure => simp [intOf]; omega
            · obtain rfl : i = K := by omega
              have g1 : ¬ (i : Int) < (i : Int) := by omega
              go_wp2_with fail
              refine (awake9_at _ (hto.out.below BR)).mono ?_
              rintro e w9 ⟨rfl, b9⟩
              have BB := (BBo.out.trans (BR.mono BBo.out.size)).trans (b9.mono (by have := BBo.out.size; have := BR.size; omega))
              go_wp2
              go_ret
              exact ⟨rfl, BB⟩

theorem own : ownKnob Tryz.prog.godebug = none := by kernel_rfl

abbrev laid1 : List (String × DataW Unit) := [("math/bits.deBruijn64tab", Rows.laid_math_bits_deBruijn64tab)]
theorem gTab : Tryz.prog.globalNamed "math/bits.deBruijn64tab" = some 1 := by kernel_rfl
theorem gTabType : (Tryz.prog.globals[1]?).map (·.type) = some 179 := by kernel_rfl
theorem uTab : Tryz.prog.underlying 179 = some (.array 64 5) := by kernel_rfl
theorem uCell : Tryz.prog.underlying 5 = some (.int .u8) := by kernel_rfl
theorem cCell : Tryz.prog.cellsOf 5 = 1 := by kernel_rfl
theorem cTab : Tryz.prog.cellsOf 179 = 64 := by kernel_rfl
/-- The listed table lies in its cells. -/
theorem tab_of {W : World} (h : laidMetH Tryz.prog laid1 W) : Tab W := by
  rw [MakeChecks.laidMetH_plain _ _ _ (by kernel_rfl)] at h
  have hd : laid1 = [("math/bits.deBruijn64tab", Lib.tabData .u8 (Lib.deBruijn64tab.map fun (n : Nat) => Int.ofNat n))] := rfl
  rw [hd] at h
  have hT := Lib.tabIs_of_head gTab gTabType uTab uCell cCell cTab h
  intro i hi
  have hc := hT.cell gTab i (by rw [List.length_map]; exact hi)
  rw [hc]
  congr 2
  rw [List.getD_eq_getElem?_getD, List.getElem?_map, List.getD_eq_getElem?_getD]
  cases Lib.deBruijn64tab[i]? <;> rfl
/-- A start for the witness: the heap that the run of the program's own initialisers leaves. -/
noncomputable def startW (os : Os) : World := { World.holding Tryz.prog os ⟨#[], #[], []⟩ with heap := (varsWorld Tryz.prog 400 (varsId Tryz.prog) os (fun _ _ => 0)).heap }
theorem start_met (os : Os) (args : Array Value) : laidMetH Tryz.prog laid1 ((startW os).forCall (fun _ _ => 0) ⟨#[], args, []⟩).memory :=
  laidMetH_of_parts3 (fuel := 8) (laidMet_of_run' 8 (by kernel_rfl) (by kernel_rfl)) (by kernel_rfl) (by kernel_rfl)

set_option maxRecDepth 100000 in
theorem lifted (os : Os) (started : os.Started) (H : Type) (enc : TypeId × Value → H) :
    ReturnsInHanded {} Tryz.checked os 4 .any (fun w args => (Rows.rowsReadsSpec.pre enc Tryz.prog Tryz.f4 [] false w args ∧ laidMetH Tryz.prog laid1 w) ∧ sizedMet enc Tryz.prog Tryz.f4 (OpenSpec.ofChange Rows.rowsReadsSpec) false w args) (Rows.rowsReadsSpec.post enc Tryz.prog Tryz.f4 false true false false) := by
  refine returnsInHanded_of_change_and (C := Tryz.checked) (X := fun w _ => laidMetH Tryz.prog laid1 w) (fun _ _ _ hh h => h.of_heap hh) own started (by kernel_rfl) Tryz.func4
    (ChangeSpec.witness_shaped (enc := enc) (C := Tryz.checked) (os := os) (X := fun w _ => laidMetH Tryz.prog laid1 w) false (startW os) #[.string ByteArray.empty] 8 rfl (World.shaped_of_RefB (by kernel_rfl) (by kernel_rfl)) (by kernel_rfl) (by kernel_rfl) (by kernel_rfl) (start_met os _)) ?_
  intro W base args ds gs before hval0 hW _ _ hL _
  have hval : ∀ (j : Nat) t v, Tryz.f4.params[j]? = some t → args[j]? = some v → Value.okWide Tryz.prog W .any base t v := hval0
  have hW' := hW
  obtain ⟨p, q, hA0, hV, rfl, hfz, hnd⟩ := hW
  have hA : DataW.TrodAll enc Tryz.prog W 0 (fun _ => true) true Tryz.f4.params.toList args.toList ds p := hA0
  rw [Tryz.params4] at hA hval
  obtain ⟨v0, vs0, d0, ds0, p0, q0, hargs, rfl, rfl, h0, r0⟩ := trodAll_cons hA
  obtain ⟨rfl, rfl, rfl⟩ := trodAll_nil r0
  obtain rfl : args = #[v0] := by cases args; simp_all
  obtain ⟨rfl, rfl⟩ := trodVars_none hV
  obtain ⟨s0, rfl, rfl, rfl, w0⟩ := open_string Tryz.underlying9 (hval 0 9 v0 rfl rfl) h0
  clear hA0 hval0
  refine (walk s0 W w0 (tab_of hL)).mono fun e W' ⟨he, bel⟩ => ?_
  subst he
  exact ⟨_, rfl, _, _, _, [], _, [], hW', trodAll_mk1 (shut_bool Tryz.underlying4 _), (trodAll_cons_mk (shut_string Tryz.underlying9 w0) trodAll_mk0), rfl, bel.frame _, fun h => by cases h⟩

theorem over : Rows.rowsReadsRow.holds Tryz.pinned (OpenSpec.ofChange Rows.rowsReadsSpec) :=
  OpenClaim.holds_of_wide 4 Tryz.f4 rfl rfl rfl rfl rfl rfl rfl ⟨rfl, rfl, rfl, rfl, rfl⟩ rfl rfl rfl rfl rfl (by kernel_rfl) Tryz.func4 (by kernel_rfl)
    (of_decide_eq_true (by kernel_rfl)) (by unfold Func.isWrapper; first | (rw [if_pos (by decide +kernel)]; kernel_rfl) | (rw [if_neg (by decide +kernel)]; exact ⟨rfl, rfl⟩))
    (fun os started H enc _ => lifted os started H enc)

end Go.Proofs.YtianfjidbeineaaGreatDoor.rowsReads
namespace Go.Proofs.YtianfjidbeineaaGreatDoor
/-- The statement: the row, tied to the text of the program. -/
theorem rowsReads_holds : Rows.RowsReadsCardSaid :=
  Claim7.holds_tied_plain_at .later [] [.data] true (true, "885c1355689222cccb61c3139621a6636fb64cd2ef1af163d7343c3d7e634eb2") false
    rowsReads.over (fun _ h => by cases h) (by kernel_rfl) (fun _ h => by cases h) rowsReads_row_tie rfl ⟨rfl, rfl⟩ (by kernel_rfl) rfl
    (fun f fn hf hfn => by
      obtain rfl : f = 4 := Option.some.inj ((show Tryz.prog.funcNamed "dendron/dendronlaw09.RowsReads" = some 4 by kernel_rfl).symm.trans hf) |>.symm
      obtain rfl : fn = Tryz.f4 := (Option.some.inj (Tryz.func4.symm.trans hfn)).symm
      exact ⟨by kernel_rfl, fun j t ht => by
        rw [Tryz.params4] at ht
        have hm : t ∈ [9] := by simpa using Array.mem_of_getElem? ht
        have hall : ([9].all fun u => !Tryz.prog.wantsStandIn u) = true := by kernel_rfl
        exact (show Tryz.prog.wantsStandIn t = false by simpa using List.all_eq_true.1 hall t hm)⟩)
    (by kernel_rfl)
end Go.Proofs.YtianfjidbeineaaGreatDoor
