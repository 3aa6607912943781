/-
  Texts of mine.
-/
import Derived.Test.YthkamfddbiheoaaGreatDoorJ90fa05eebc
import Derived.Test.YthkamfddbiheoaaGreatDoorJb333df7ecc
import Derived.Test.YthkamfddbiheoaaGreatDoorJ3b5a156ee4
import Derived.Lib.AtoiErrMem
import Derived.Test.YthkamfddbiheoaaGreatDoorJa3f7135d0b
import Derived.Test.YthkamfddbiheoaaGreatDoorJa607d653bf
import Derived.Test.YthkamfddbiheoaaGreatDoorJ89100f10be
namespace Go.Proofs.YthkamfddbiheoaaGreatDoor
open Go.RowKit
set_option linter.unusedVariables false
set_option linter.unusedSimpArgs false

theorem trim_at (s : ByteArray) (w : World) (hs : s.size ≤ 2000000) : Calls Tryz.prog 85 #[.string s, .string { data := #[48, 49, 50, 51, 52, 53, 54, 55, 56, 57] }] w fun e w' => e = .returned (.string ⟨(Lib.trimS s.data.toList digs).toArray⟩) ∧ Below w.heap.size w w' :=
 Any.strings_Trim_laid Tryz.lays160 (by kernel_rfl) s { data := #[48, 49, 50, 51, 52, 53, 54, 55, 56, 57] } w (by omega) (by decide) (ascii_of_all (by decide))
theorem toList_nil (s : ByteArray) (h : s.toList = []) : s.size = 0 := by
 rw [Lib.toList_data] at h
 have h2 := congrArg List.length h
 simpa using h2
set_option maxRecDepth 20000 in
set_option maxHeartbeats 1000000 in
theorem isCount_at (s : ByteArray) (w : World) (h0 : 0 < s.size) (hs : s.size ≤ 2000000) : Calls Tryz.prog 58 #[.string s] w fun e w' => e = .returned (.bool (isCnt s)) ∧ Below w.heap.size w w' := by
 have CT := trim_at s w hs
 rw [isCnt_eq]
 by_cases hd : allD s = true
 ·rw [(trim_digits s.data.toList).2 ((allD_iff s).1 hd)] at CT
  have CTH : Hid (Calls Tryz.prog 85 #[.string s, .string { data := #[48, 49, 50, 51, 52, 53, 54, 55, 56, 57] }] w fun e w' => e = .returned (.string { data := #[] }) ∧ Below w.heap.size w w') := CT
  rw [hd]
  clear CT hd
  by_cases h1 : s.size = 1
  ·rw [decide_eq_true h1]
   have h1i : (s.size : Int) = 1 := by omega
   have h1b : ((s.size : Int) == 1) = true := by simp [h1]
   clear h1
   go_enter Tryz.func58, Tryz.ntmps58
   go_wp2_with fail
   refine Calls.mono CTH.out ?_
   rintro e w1 ⟨rfl, b1⟩
   go_wp2
   go_ret
   exact ⟨rfl, b1⟩
  ·rw [decide_eq_false h1]
   have h1i : ¬ (s.size : Int) = 1 := by omega
   have h1b : ((s.size : Int) == 1) = false := by simpa using h1i
   have hb := bt_at s 0 h0
   have h0i : (0 : Int) < (s.size : Int) := by omega
   clear h1
   by_cases h48 : bt s 0 = 48
   ·rw [decide_eq_false (by omega : ¬ ¬ bt s 0 = 48)]
    have h4 : ((s[0]).toNat : Int) = 48 := by omega
    have h4b : (((s[0]).toNat : Int) != 48) = false := by simp; omega
    have h4c : (((s[0]).toNat : Int) == 48) = true := by simp; omega
    clear hb h48
    go_enter Tryz.func58, Tryz.ntmps58
    go_wp2_with fail
    refine Calls.mono CTH.out ?_
    rintro e w1 ⟨rfl, b1⟩
    go_wp2
    go_ret
    exact ⟨rfl, b1⟩
   ·rw [decide_eq_true h48]
    have h4 : ¬ ((s[0]).toNat : Int) = 48 := by omega
    have h4b : (((s[0]).toNat : Int) != 48) = true := by simp; omega
    have h4c : (((s[0]).toNat : Int) == 48) = false := by simp; omega
    clear hb h48
    go_enter Tryz.func58, Tryz.ntmps58
    go_wp2_with fail
    refine Calls.mono CTH.out ?_
    rintro e w1 ⟨rfl, b1⟩
    go_wp2
    go_ret
    exact ⟨rfl, b1⟩
 ·have hd' : allD s = false := by simpa using hd
  rw [hd']
  have hne : Lib.trimS s.data.toList digs ≠ [] := fun e => hd ((allD_iff s).2 ((trim_digits _).1 e))
  generalize hx : (⟨(Lib.trimS s.data.toList digs).toArray⟩ : ByteArray) = x at CT
  have hxn : ¬ x.toList = [] := fun e => by
   have h3 := toList_nil x e
   rw [← hx] at h3
   apply hne
   have h4 : (Lib.trimS s.data.toList digs).toArray.size = 0 := h3
   simpa using h4
  have e1 : (x.toList == []) = false := by simp [hxn]
  have e2 : x.toList.isEmpty = false := by simp [hxn]
  have CTH : Hid _ := CT
  clear CT hd hd' hne hx
  go_enter Tryz.func58, Tryz.ntmps58
  go_wp2_with fail
  refine Calls.mono CTH.out ?_
  rintro e w1 ⟨rfl, b1⟩
  go_wp2
  go_ret
  exact ⟨rfl, b1⟩

/-- What strconv's ErrRange holds is an error. -/
def Erg (w : World) : Prop := ∃ te pe, w.cell? ⟨2, 0, none⟩ = some (.iface te pe)
theorem Erg.below {w w' : World} (h : Erg w) (hb : Below w.heap.size w w') : Erg w' := by
 obtain ⟨te, pe, h⟩ := h
 exact ⟨te, pe, cell_later hb h⟩
theorem Erg.upd {w w' : World} {R : Nat} {r : Rd} (h : Erg w) (hr : RM w R r) (u : Upd w w' R 0 5) : Erg w' := by
 obtain ⟨te, pe, h⟩ := h
 refine ⟨te, pe, u.cellU (fun e => ?_) h⟩
 obtain ⟨v, hl, hv⟩ := hr
 obtain ⟨a, c, rfl⟩ := hl.form
 have := hv.c0
 rw [← e, h] at this
 cases this
theorem atoi_small (s : ByteArray) (w : World) (h0 : 0 < s.size) (hs : s.size ≤ 2000000) (hd : allD s = true) (hv : cntV s < 9223372036854775808) : Calls Tryz.prog 59 #[.string s] w fun e w' => e = .returned (.tuple #[.int .i64 (cntV s : Int), .nilIface]) ∧ Below w.heap.size w w' := by
 refine (Tryz.strconv_Atoi_ok s (by omega) (cntV s : Int) (by rw [atoi_digits s h0 ((allD_iff s).1 hd), if_pos hv]) w).mono ?_
 rintro e w' ⟨he, h | ⟨t, h⟩⟩
 ·rw [h]; exact ⟨he, Below.refl _ _⟩
 ·rw [h]; exact ⟨he, Lib.bytesWorld_below _ _ _⟩
theorem atoi_great (s : ByteArray) (w : World) (h0 : 0 < s.size) (hs : s.size ≤ 2000000) (hd : allD s = true) (hv : ¬ cntV s < 9223372036854775808) (hE : Erg w) : Calls Tryz.prog 59 #[.string s] w fun e w' => ∃ n N, e = .returned (.tuple #[.int .i64 n, .iface 175 (.pointer (some ⟨N, 0, none⟩))]) ∧ Below w.heap.size w w' := by
 obtain ⟨te, pe, hE⟩ := hE
 refine (Tryz.strconv_Atoi_range s (by omega) (by rw [atoi_digits s h0 ((allD_iff s).1 hd), if_neg hv]) _ w hE (.inr ⟨te, pe, rfl⟩)).mono ?_
 rintro e w' ⟨N, he, _, _, hb⟩
 exact ⟨_, N, he, hb⟩
theorem count_none {r : Rd} {lo hi : Nat} (h : r.tok.1 = none) : r.count lo hi = (0, r.tok.2) := by unfold Rd.count; rw [h]
theorem count_form {r : Rd} {lo hi : Nat} {t : Tok} (h : r.tok.1 = some t) (hc : isCnt t.2.2 = false) : r.count lo hi = (0, r.tok.2.stop 4 t.1) := by
 unfold Rd.count
 rw [h]
 dsimp only
 rw [hc, if_neg (by simp)]
theorem count_yes {r : Rd} {lo hi : Nat} {t : Tok} (h : r.tok.1 = some t) (hc : isCnt t.2.2 = true) (hv : lo ≤ cntV t.2.2 ∧ cntV t.2.2 ≤ hi) : r.count lo hi = (cntV t.2.2, r.tok.2) := by
 unfold Rd.count
 rw [h]
 dsimp only
 rw [hc, if_pos rfl, if_pos hv]
theorem count_lim {r : Rd} {lo hi : Nat} {t : Tok} (h : r.tok.1 = some t) (hc : isCnt t.2.2 = true) (hv : ¬ (lo ≤ cntV t.2.2 ∧ cntV t.2.2 ≤ hi)) : r.count lo hi = (0, r.tok.2.stop 16 t.1) := by
 unfold Rd.count
 rw [h]
 dsimp only
 rw [hc, if_pos rfl, if_neg hv]
def CntOut (w : World) (R : Nat) (p : Nat × Rd) (e : Ending) (w' : World) : Prop := e = .returned (.int .i64 (p.1 : Int)) ∧ RM w' R p.2 ∧ UpW w R w'
theorem allD_of {s : ByteArray} (h : isCnt s = true) : allD s = true := by
 rw [isCnt_eq] at h
 simp only [Bool.and_eq_true] at h
 exact h.1
set_option maxRecDepth 20000 in
set_option maxHeartbeats 4000000 in
theorem Count_at {w : World} {R : Nat} {r : Rd} (lo hi : Nat) (h : RM w R r) (ho : RdOK r) (hlen : r.len ≤ 2000000) (hE : Erg w) (hlh : lo ≤ hi) (hh : hi ≤ 1000000) : Calls Tryz.prog 31 #[.pointer (some ⟨R, 0, none⟩), .int .i64 (lo : Int), .int .i64 (hi : Int)] w (CntOut w R (r.count lo hi)) := by
 have CT := token_at h ho
 unfold TokOut at CT
 have h00 := h
 have hmin : min (hi : Int) 1000000000 = (hi : Int) := by omega
 cases ht : r.tok.1 with
 | none =>
  rw [count_none ht]
  rw [ht] at CT
  generalize r.tok.2 = r' at CT ⊢
  have CTH : Hid _ := CT
  clear CT ht h ho h00 hmin hlh hh
  generalize (lo : Int) = LO at *
  generalize (hi : Int) = HI at *
  go_enter Tryz.func31, Tryz.ntmps31
  go_wp2_with fail
  refine Calls.mono CTH.out ?_
  rintro e w1 ⟨rfl, h1, U⟩
  clear CTH
  rw [tokv_none]
  obtain ⟨W0, hW0, hS0, hL0, VT⟩ := V3.lay w1 95 (.int .i64 0) (.int .i64 0) (.string { data := #[] })
  obtain ⟨q1, q2, q3, q4, q5, q6⟩ := id VT
  rw [hW0] at q1 q2 q3 q4 q5 q6
  have h2 := h1.below hL0
  have U2 := U.below hL0
  rw [hW0] at h2 U2
  go_wp2
  go_ret
  exact ⟨rfl, h2, U2⟩
 | some t =>
  obtain ⟨hp, hpl⟩ := ho.tok_pos ht
  have hE2 : Hid (∀ w1, UpW w R w1 → Erg w1) := fun w1 u => hE.upd h00 u.2
  have CI := fun W => isCount_at t.2.2 W hp (by omega)
  rw [ht] at CT
  cases hc : isCnt t.2.2 with
  | false =>
   rw [count_form ht hc]
   rw [hc] at CI
   have CIH : Hid _ := CI
   generalize r.tok.2 = r' at CT ⊢
   have CTH : Hid _ := CT
   clear CT CI ht h ho h00 hmin hlh hh hc hp hpl hE hE2
   generalize (lo : Int) = LO at *
   generalize (hi : Int) = HI at *
   go_enter Tryz.func31, Tryz.ntmps31
   go_wp2_with fail
   refine Calls.mono CTH.out ?_
   rintro e w1 ⟨rfl, h1, U⟩
   clear CTH
   rw [tokv_some]
   obtain ⟨W0, hW0, hS0, hL0, VT⟩ := V3.lay w1 95 (.int .i64 (t.1 : Int)) (.int .i64 (t.2.1 : Int)) (.string t.2.2)
   obtain ⟨q1, q2, q3, q4, q5, q6⟩ := id VT
   rw [hW0] at q1 q2 q3 q4 q5 q6
   have h2 := h1.below hL0
   have U2 := U.below hL0
   go_wp2_with fail
   rw [← hW0]
   clear q1 q2 q3 q4 q5 q6 hW0 hS0 hL0 h1 U
   obtain ⟨RT, hRT⟩ : ∃ RT, w1.heap.size = RT := ⟨_, rfl⟩
   rw [hRT] at VT
   rw [hRT]
   clear hRT
   refine Calls.mono (CIH.out _) ?_
   rintro e w2 ⟨rfl, b2⟩
   replace h2 := h2.below b2
   replace U2 := U2.below b2
   replace VT := VT.below b2
   clear b2
   obtain ⟨q1, q2, q3, q4, q5, q6⟩ := id VT
   go_wp2_with fail
   refine (stop_at 4 t.1 h2).mono ?_
   rintro e w3 ⟨rfl, h3, u3⟩
   clear q1 q2 q3 q4 q5 q6 VT
   go_wp2
   go_ret
   exact ⟨rfl, h3, U2.step u3⟩
  | true =>
   rw [hc] at CI
   have CIH : Hid _ := CI
   have hD := allD_of hc
   by_cases hb : cntV t.2.2 < 9223372036854775808
   ·have CA := fun W => atoi_small t.2.2 W hp (by omega) hD hb
    have CAH : Hid _ := CA
    by_cases hv : lo ≤ cntV t.2.2 ∧ cntV t.2.2 ≤ hi
    ·rw [count_yes ht hc hv]
     obtain ⟨K, hK⟩ : ∃ K, cntV t.2.2 = K := ⟨_, rfl⟩
     rw [hK] at hv hb
     have CAK : Hid (∀ W, Calls Tryz.prog 59 #[.string t.2.2] W fun e w' => e = .returned (.tuple #[.int .i64 (K : Int), .nilIface]) ∧ Below W.heap.size W w') := by
      rw [← hK]
      exact CA
     rw [hK]
     clear CAH hK
     have CAH := CAK
     clear CAK
     have k1 : ¬ (K : Int) < (lo : Int) := by omega
     have k2 : ¬ (hi : Int) < (K : Int) := by omega
     have k1b : decide ((K : Int) < (lo : Int)) = false := decide_eq_false k1
     have k2b : decide ((hi : Int) < (K : Int)) = false := decide_eq_false k2
     generalize r.tok.2 = r' at CT ⊢
     have CTH : Hid _ := CT
     clear CT CI CA ht h ho h00 hc hp hpl hE hD
     go_enter Tryz.func31, Tryz.ntmps31
     go_wp2_with fail
     refine Calls.mono CTH.out ?_
     rintro e w1 ⟨rfl, h1, U⟩
     clear CTH
     rw [tokv_some]
     obtain ⟨W0, hW0, hS0, hL0, VT⟩ := V3.lay w1 95 (.int .i64 (t.1 : Int)) (.int .i64 (t.2.1 : Int)) (.string t.2.2)
     obtain ⟨q1, q2, q3, q4, q5, q6⟩ := id VT
     rw [hW0] at q1 q2 q3 q4 q5 q6
     have h2 := h1.below hL0
     have U2 := U.below hL0
     go_wp2_with fail
     rw [← hW0]
     clear q1 q2 q3 q4 q5 q6 hW0 hS0 hL0 h1 U
     obtain ⟨RT, hRT⟩ : ∃ RT, w1.heap.size = RT := ⟨_, rfl⟩
     rw [hRT] at VT
     rw [hRT]
     clear hRT
     refine Calls.mono (CIH.out _) ?_
     rintro e w2 ⟨rfl, b2⟩
     replace h2 := h2.below b2
     replace U2 := U2.below b2
     replace VT := VT.below b2
     clear b2
     obtain ⟨q1, q2, q3, q4, q5, q6⟩ := id VT
     go_wp2_with fail
     refine Calls.mono (CAH.out _) ?_
     rintro e w3 ⟨rfl, b3⟩
     replace h2 := h2.below b3
     replace U2 := U2.below b3
     replace VT := VT.below b3
     clear b3 q1 q2 q3 q4 q5 q6 hE2
     obtain ⟨q1, q2, q3, q4, q5, q6⟩ := id VT
     go_wp2
     go_ret
     exact ⟨rfl, h2, U2⟩
    ·rw [count_lim ht hc hv]
     obtain ⟨K, hK⟩ : ∃ K, cntV t.2.2 = K := ⟨_, rfl⟩
     rw [hK] at hv hb
     have CAK : Hid (∀ W, Calls Tryz.prog 59 #[.string t.2.2] W fun e w' => e = .returned (.tuple #[.int .i64 (K : Int), .nilIface]) ∧ Below W.heap.size W w') := by
      rw [← hK]
      exact CA
     clear CAH hK
     have CAH := CAK
     clear CAK
     by_cases hlo : K < lo
     ·have k1 : (K : Int) < (lo : Int) := by omega
      clear hv
      generalize r.tok.2 = r' at CT ⊢
      have CTH : Hid _ := CT
      clear CT CI CA ht h ho h00 hc hp hpl hE hD
      go_enter Tryz.func31, Tryz.ntmps31
      go_wp2_with fail
      refine Calls.mono CTH.out ?_
      rintro e w1 ⟨rfl, h1, U⟩
      clear CTH
      rw [tokv_some]
      obtain ⟨W0, hW0, hS0, hL0, VT⟩ := V3.lay w1 95 (.int .i64 (t.1 : Int)) (.int .i64 (t.2.1 : Int)) (.string t.2.2)
      obtain ⟨q1, q2, q3, q4, q5, q6⟩ := id VT
      rw [hW0] at q1 q2 q3 q4 q5 q6
      have h2 := h1.below hL0
      have U2 := U.below hL0
      go_wp2_with fail
      rw [← hW0]
      clear q1 q2 q3 q4 q5 q6 hW0 hS0 hL0 h1 U
      obtain ⟨RT, hRT⟩ : ∃ RT, w1.heap.size = RT := ⟨_, rfl⟩
      rw [hRT] at VT
      rw [hRT]
      clear hRT
      refine Calls.mono (CIH.out _) ?_
      rintro e w2 ⟨rfl, b2⟩
      replace h2 := h2.below b2
      replace U2 := U2.below b2
      replace VT := VT.below b2
      clear b2
      obtain ⟨q1, q2, q3, q4, q5, q6⟩ := id VT
      go_wp2_with fail
      refine Calls.mono (CAH.out _) ?_
      rintro e w3 ⟨rfl, b3⟩
      replace h2 := h2.below b3
      replace U2 := U2.below b3
      replace VT := VT.below b3
      clear b3 q1 q2 q3 q4 q5 q6 hE2
      obtain ⟨q1, q2, q3, q4, q5, q6⟩ := id VT
      go_wp2_with fail
      refine (stop_at 16 t.1 h2).mono ?_
      rintro e w4 ⟨rfl, h4, u4⟩
      clear q1 q2 q3 q4 q5 q6 VT
      go_wp2
      go_ret
      exact ⟨rfl, h4, U2.step u4⟩
     ·have k1 : ¬ (K : Int) < (lo : Int) := by omega
      have k2 : (hi : Int) < (K : Int) := by omega
      have k1b : decide ((K : Int) < (lo : Int)) = false := decide_eq_false k1
      clear hv
      generalize r.tok.2 = r' at CT ⊢
      have CTH : Hid _ := CT
      clear CT CI CA ht h ho h00 hc hp hpl hE hD
      go_enter Tryz.func31, Tryz.ntmps31
      go_wp2_with fail
      refine Calls.mono CTH.out ?_
      rintro e w1 ⟨rfl, h1, U⟩
      clear CTH
      rw [tokv_some]
      obtain ⟨W0, hW0, hS0, hL0, VT⟩ := V3.lay w1 95 (.int .i64 (t.1 : Int)) (.int .i64 (t.2.1 : Int)) (.string t.2.2)
      obtain ⟨q1, q2, q3, q4, q5, q6⟩ := id VT
      rw [hW0] at q1 q2 q3 q4 q5 q6
      have h2 := h1.below hL0
      have U2 := U.below hL0
      go_wp2_with fail
      rw [← hW0]
      clear q1 q2 q3 q4 q5 q6 hW0 hS0 hL0 h1 U
      obtain ⟨RT, hRT⟩ : ∃ RT, w1.heap.size = RT := ⟨_, rfl⟩
      rw [hRT] at VT
      rw [hRT]
      clear hRT
      refine Calls.mono (CIH.out _) ?_
      rintro e w2 ⟨rfl, b2⟩
      replace h2 := h2.below b2
      replace U2 := U2.below b2
      replace VT := VT.below b2
      clear b2
      obtain ⟨q1, q2, q3, q4, q5, q6⟩ := id VT
      go_wp2_with fail
      refine Calls.mono (CAH.out _) ?_
      rintro e w3 ⟨rfl, b3⟩
      replace h2 := h2.below b3
      replace U2 := U2.below b3
      replace VT := VT.below b3
      clear b3 q1 q2 q3 q4 q5 q6 hE2
      obtain ⟨q1, q2, q3, q4, q5, q6⟩ := id VT
      go_wp2_with fail
      refine (stop_at 16 t.1 h2).mono ?_
      rintro e w4 ⟨rfl, h4, u4⟩
      clear q1 q2 q3 q4 q5 q6 VT
      go_wp2
      go_ret
      exact ⟨rfl, h4, U2.step u4⟩
   ·have hv : ¬ (lo ≤ cntV t.2.2 ∧ cntV t.2.2 ≤ hi) := by omega
    rw [count_lim ht hc hv]
    have CA := fun W hW => atoi_great t.2.2 W hp (by omega) hD hb hW
    have CAH : Hid _ := CA
    clear hv hb
    generalize r.tok.2 = r' at CT ⊢
    have CTH : Hid _ := CT
    clear CT CI CA ht h ho h00 hc hp hpl hE hD
    go_enter Tryz.func31, Tryz.ntmps31
    go_wp2_with fail
    refine Calls.mono CTH.out ?_
    rintro e w1 ⟨rfl, h1, U⟩
    clear CTH
    rw [tokv_some]
    obtain ⟨W0, hW0, hS0, hL0, VT⟩ := V3.lay w1 95 (.int .i64 (t.1 : Int)) (.int .i64 (t.2.1 : Int)) (.string t.2.2)
    obtain ⟨q1, q2, q3, q4, q5, q6⟩ := id VT
    rw [hW0] at q1 q2 q3 q4 q5 q6
    have h2 := h1.below hL0
    have U2 := U.below hL0
    go_wp2_with fail
    rw [← hW0]
    clear q1 q2 q3 q4 q5 q6 hW0 hS0 hL0 h1 U
    obtain ⟨RT, hRT⟩ : ∃ RT, w1.heap.size = RT := ⟨_, rfl⟩
    rw [hRT] at VT
    rw [hRT]
    clear hRT
    refine Calls.mono (CIH.out _) ?_
    rintro e w2 ⟨rfl, b2⟩
    replace h2 := h2.below b2
    replace U2 := U2.below b2
    replace VT := VT.below b2
    clear b2
    obtain ⟨q1, q2, q3, q4, q5, q6⟩ := id VT
    have hEE := hE2.out _ U2
    go_wp2_with fail
    refine Calls.mono (CAH.out _ hEE) ?_
    rintro e w3 ⟨nn, N, rfl, b3⟩
    replace h2 := h2.below b3
    replace U2 := U2.below b3
    replace VT := VT.below b3
    clear b3 q1 q2 q3 q4 q5 q6 hEE hE2
    obtain ⟨q1, q2, q3, q4, q5, q6⟩ := id VT
    go_wp2_with fail
    refine (stop_at 16 t.1 h2).mono ?_
    rintro e w4 ⟨rfl, h4, u4⟩
    clear q1 q2 q3 q4 q5 q6 VT
    go_wp2
    go_ret
    exact ⟨rfl, h4, U2.step u4⟩

def IdxOut (n : Nat) (f : Nat → ByteArray) (x : ByteArray) (e : Ending) : Prop := (∃ j : Nat, j < n ∧ x.toList = (f j).toList ∧ (∀ i, i < j → ¬ x.toList = (f i).toList) ∧ e = .returned (.int .i64 (j : Int))) ∨ ((∀ i, i < n → ¬ x.toList = (f i).toList) ∧ e = .returned (.int .i64 (-1)))
set_option maxRecDepth 20000 in
set_option maxHeartbeats 1000000 in
theorem index_at (g n c : Nat) (f : Nat → ByteArray) (x : ByteArray) (w : World) (hS : Hid (∀ j, j < n → w.cell? ⟨g, j, none⟩ = some (.string (f j)))) (hn : n ≤ 1000) : Calls Tryz.prog 60 #[.slice (some ⟨g, 0, none⟩) n c, .string x] w fun e w' => IdxOut n f x e ∧ w' = w := by
 go_enter Tryz.func60, Tryz.ntmps60
 go_wp2
 go_loopw [8] (fun v8 wr => ∃ i : Nat, i ≤ n ∧ v8 = .int .i64 (i : Int) ∧ wr = w ∧ Hid (∀ j, j < i → ¬ x.toList = (f j).toList)) (fun v8 _ => n - (intOf v8).toNat)
 case atStart => exact ⟨0, by omega, rfl, rfl, fun j hj => absurd hj (by omega)⟩
 case round =>
  obtain ⟨i, hi, rfl, rfl, HF⟩ := hrel
  by_cases hlt : i < n
  ·have g1 : (i : Int) < (n : Int) := by omega
   have g0 : (0 : Int) ≤ (i : Int) := by omega
   have hc := hS.out i hlt
   by_cases he : x.toList = (f i).toList
   ·have e1 : (x.toList == (f i).toList) = true := by simp [he]
    have HO : Hid (IdxOut n f x (.returned (.int .i64 (i : Int)))) := .inl ⟨i, hlt, he, HF.out, rfl⟩
    clear he
    go_wp2
    (try rw [Exit.noGoto_ret])
    go_ret
    exact ⟨HO.out, rfl⟩
   ·have e1 : (x.toList == (f i).toList) = false := by simpa using he
    have HN : Hid (∀ j, j < i + 1 → ¬ x.toList = (f j).toList) := fun j hj => by
     by_cases e : j = i
     ·rw [e]; exact he
     ·exact HF.out j (by omega)
    clear he
    go_wp2
    go_roundw
    case rel => exact ⟨i + 1, by omega, by go_num, trivial, HN.out⟩
    case measure => simp [intOf]; omega
  ·obtain rfl : i = n := by omega
   have g1 : ¬ (i : Int) < (i : Int) := by omega
   have HO : Hid (IdxOut i f x (.returned (.int .i64 (-1)))) := .inr ⟨HF.out, rfl⟩
   go_wp2
   (try rw [Exit.noGoto_ret])
   go_ret
   exact ⟨HO.out, rfl⟩
def two (a b : ByteArray) (i : Nat) : ByteArray := if i = 0 then a else b
theorem idx_two (a b x : ByteArray) (w : World) (g c : Nat) (h0 : w.cell? ⟨g, 0, none⟩ = some (.string a)) (h1 : w.cell? ⟨g, 1, none⟩ = some (.string b)) : Calls Tryz.prog 60 #[.slice (some ⟨g, 0, none⟩) 2 c, .string x] w fun e w' => e = .returned (.int .i64 (if x.toList = a.toList then 0 else if x.toList = b.toList then 1 else -1)) ∧ w' = w := by
 refine (index_at g 2 c (two a b) x w (fun j hj => ?_) (by omega)).mono ?_
 ·rcases (show j = 0 ∨ j = 1 by omega) with rfl | rfl
  ·exact h0
  ·exact h1
 ·rintro e w' ⟨h, hw⟩
  refine ⟨?_, hw⟩
  rcases h with ⟨j, hj, hx, hl, he⟩ | ⟨hl, he⟩
  ·rcases (show j = 0 ∨ j = 1 by omega) with rfl | rfl
   ·have hx' : x.toList = a.toList := hx
    rw [if_pos hx']
    exact he
   ·have h2 : ¬ x.toList = a.toList := hl 0 (by omega)
    have hx' : x.toList = b.toList := hx
    rw [if_neg h2, if_pos hx']
    exact he
  ·have h2 : ¬ x.toList = a.toList := hl 0 (by omega)
   have h3 : ¬ x.toList = b.toList := hl 1 (by omega)
   rw [if_neg h2, if_neg h3]
   exact he
theorem pick_none {r : Rd} {a b : ByteArray} (h : r.tok.1 = none) : r.pick a b = (0, r.tok.2) := by unfold Rd.pick; rw [h]
theorem pick_a {r : Rd} {a b : ByteArray} {t : Tok} (h : r.tok.1 = some t) (e : t.2.2.toList = a.toList) : r.pick a b = (0, r.tok.2) := by unfold Rd.pick; rw [h]; dsimp only; rw [if_pos e]
theorem pick_b {r : Rd} {a b : ByteArray} {t : Tok} (h : r.tok.1 = some t) (e : ¬ t.2.2.toList = a.toList) (e2 : t.2.2.toList = b.toList) : r.pick a b = (1, r.tok.2) := by unfold Rd.pick; rw [h]; dsimp only; rw [if_neg e, if_pos e2]
theorem pick_no {r : Rd} {a b : ByteArray} {t : Tok} (h : r.tok.1 = some t) (e : ¬ t.2.2.toList = a.toList) (e2 : ¬ t.2.2.toList = b.toList) : r.pick a b = (0, r.tok.2.stop 7 t.1) := by unfold Rd.pick; rw [h]; dsimp only; rw [if_neg e, if_neg e2]
set_option maxRecDepth 20000 in
set_option maxHeartbeats 4000000 in
theorem Pick_at {w : World} {R : Nat} {r : Rd} (a b : ByteArray) (g c : Nat) (h : RM w R r) (ho : RdOK r) (hg : g ≠ R) (s0 : w.cell? ⟨g, 0, none⟩ = some (.string a)) (s1 : w.cell? ⟨g, 1, none⟩ = some (.string b)) : Calls Tryz.prog 33 #[.pointer (some ⟨R, 0, none⟩), .slice (some ⟨g, 0, none⟩) 2 c] w (CntOut w R (r.pick a b)) := by
 have CT := token_at h ho
 unfold TokOut at CT
 cases ht : r.tok.1 with
 | none =>
  rw [pick_none ht]
  rw [ht] at CT
  generalize r.tok.2 = r' at CT ⊢
  have CTH : Hid _ := CT
  clear CT ht h ho s0 s1
  go_enter Tryz.func33, Tryz.ntmps33
  go_wp2_with fail
  refine Calls.mono CTH.out ?_
  rintro e w1 ⟨rfl, h1, U⟩
  clear CTH
  rw [tokv_none]
  obtain ⟨W0, hW0, hS0, hL0, VT⟩ := V3.lay w1 95 (.int .i64 0) (.int .i64 0) (.string { data := #[] })
  obtain ⟨q1, q2, q3, q4, q5, q6⟩ := id VT
  rw [hW0] at q1 q2 q3 q4 q5 q6
  have h2 := h1.below hL0
  have U2 := U.below hL0
  rw [hW0] at h2 U2
  go_wp2
  go_ret
  exact ⟨rfl, h2, U2⟩
 | some t =>
  rw [ht] at CT
  by_cases ea : t.2.2.toList = a.toList
  ·skip
   rw [pick_a ht ea]
   have CX := fun (W : World) (x0 : W.cell? ⟨g, 0, none⟩ = some (.string a)) (x1 : W.cell? ⟨g, 1, none⟩ = some (.string b)) => idx_two a b t.2.2 W g c x0 x1
   rw [if_pos ea] at CX
   have CXH : Hid _ := CX
   have s0c : C6 w g 0 _ := s0
   have s1c : C6 w g 1 _ := s1
   generalize r.tok.2 = r' at CT ⊢
   have CTH : Hid _ := CT
   clear CT CX ht h ho s0 s1 ea
   go_enter Tryz.func33, Tryz.ntmps33
   go_wp2_with fail
   refine Calls.mono CTH.out ?_
   rintro e w1 ⟨rfl, h1, U⟩
   clear CTH
   rw [tokv_some]
   obtain ⟨W0, hW0, hS0, hL0, VT⟩ := V3.lay w1 95 (.int .i64 (t.1 : Int)) (.int .i64 (t.2.1 : Int)) (.string t.2.2)
   obtain ⟨q1, q2, q3, q4, q5, q6⟩ := id VT
   rw [hW0] at q1 q2 q3 q4 q5 q6
   have h2 := h1.below hL0
   have U2 := U.below hL0
   have z0 : C6 w1 g 0 _ := U.2.cellU hg s0c
   have z1 : C6 w1 g 1 _ := U.2.cellU hg s1c
   replace z0 := z0.below hL0
   replace z1 := z1.below hL0
   clear s0c s1c
   go_wp2_with fail
   rw [← hW0]
   clear q1 q2 q3 q4 q5 q6 hW0 hS0 hL0 h1 U
   obtain ⟨RT, hRT⟩ : ∃ RT, w1.heap.size = RT := ⟨_, rfl⟩
   rw [hRT] at VT
   rw [hRT]
   clear hRT
   refine Calls.mono (CXH.out _ z0 z1) ?_
   rintro e w2 ⟨rfl, hw⟩
   replace hw := hw.symm
   subst hw
   clear z0 z1 CXH
   obtain ⟨q1, q2, q3, q4, q5, q6⟩ := id VT
   go_wp2
   go_ret
   exact ⟨rfl, h2, U2⟩
  ·by_cases eb : t.2.2.toList = b.toList
   ·skip
    rw [pick_b ht ea eb]
    have CX := fun (W : World) (x0 : W.cell? ⟨g, 0, none⟩ = some (.string a)) (x1 : W.cell? ⟨g, 1, none⟩ = some (.string b)) => idx_two a b t.2.2 W g c x0 x1
    rw [if_neg ea, if_pos eb] at CX
    have CXH : Hid _ := CX
    have s0c : C6 w g 0 _ := s0
    have s1c : C6 w g 1 _ := s1
    generalize r.tok.2 = r' at CT ⊢
    have CTH : Hid _ := CT
    clear CT CX ht h ho s0 s1 ea eb
    go_enter Tryz.func33, Tryz.ntmps33
    go_wp2_with fail
    refine Calls.mono CTH.out ?_
    rintro e w1 ⟨rfl, h1, U⟩
    clear CTH
    rw [tokv_some]
    obtain ⟨W0, hW0, hS0, hL0, VT⟩ := V3.lay w1 95 (.int .i64 (t.1 : Int)) (.int .i64 (t.2.1 : Int)) (.string t.2.2)
    obtain ⟨q1, q2, q3, q4, q5, q6⟩ := id VT
    rw [hW0] at q1 q2 q3 q4 q5 q6
    have h2 := h1.below hL0
    have U2 := U.below hL0
    have z0 : C6 w1 g 0 _ := U.2.cellU hg s0c
    have z1 : C6 w1 g 1 _ := U.2.cellU hg s1c
    replace z0 := z0.below hL0
    replace z1 := z1.below hL0
    clear s0c s1c
    go_wp2_with fail
    rw [← hW0]
    clear q1 q2 q3 q4 q5 q6 hW0 hS0 hL0 h1 U
    obtain ⟨RT, hRT⟩ : ∃ RT, w1.heap.size = RT := ⟨_, rfl⟩
    rw [hRT] at VT
    rw [hRT]
    clear hRT
    refine Calls.mono (CXH.out _ z0 z1) ?_
    rintro e w2 ⟨rfl, hw⟩
    replace hw := hw.symm
    subst hw
    clear z0 z1 CXH
    obtain ⟨q1, q2, q3, q4, q5, q6⟩ := id VT
    go_wp2
    go_ret
    exact ⟨rfl, h2, U2⟩
   ·skip
    rw [pick_no ht ea eb]
    have CX := fun (W : World) (x0 : W.cell? ⟨g, 0, none⟩ = some (.string a)) (x1 : W.cell? ⟨g, 1, none⟩ = some (.string b)) => idx_two a b t.2.2 W g c x0 x1
    rw [if_neg ea, if_neg eb] at CX
    have CXH : Hid _ := CX
    have s0c : C6 w g 0 _ := s0
    have s1c : C6 w g 1 _ := s1
    generalize r.tok.2 = r' at CT ⊢
    have CTH : Hid _ := CT
    clear CT CX ht h ho s0 s1 ea eb
    go_enter Tryz.func33, Tryz.ntmps33
    go_wp2_with fail
    refine Calls.mono CTH.out ?_
    rintro e w1 ⟨rfl, h1, U⟩
    clear CTH
    rw [tokv_some]
    obtain ⟨W0, hW0, hS0, hL0, VT⟩ := V3.lay w1 95 (.int .i64 (t.1 : Int)) (.int .i64 (t.2.1 : Int)) (.string t.2.2)
    obtain ⟨q1, q2, q3, q4, q5, q6⟩ := id VT
    rw [hW0] at q1 q2 q3 q4 q5 q6
    have h2 := h1.below hL0
    have U2 := U.below hL0
    have z0 : C6 w1 g 0 _ := U.2.cellU hg s0c
    have z1 : C6 w1 g 1 _ := U.2.cellU hg s1c
    replace z0 := z0.below hL0
    replace z1 := z1.below hL0
    clear s0c s1c
    go_wp2_with fail
    rw [← hW0]
    clear q1 q2 q3 q4 q5 q6 hW0 hS0 hL0 h1 U
    obtain ⟨RT, hRT⟩ : ∃ RT, w1.heap.size = RT := ⟨_, rfl⟩
    rw [hRT] at VT
    rw [hRT]
    clear hRT
    refine Calls.mono (CXH.out _ z0 z1) ?_
    rintro e w2 ⟨rfl, hw⟩
    replace hw := hw.symm
    subst hw
    clear z0 z1 CXH
    obtain ⟨q1, q2, q3, q4, q5, q6⟩ := id VT
    go_wp2_with fail
    refine (stop_at 7 t.1 h2).mono ?_
    rintro e w3 ⟨rfl, h3, u3⟩
    clear q1 q2 q3 q4 q5 q6 VT
    go_wp2
    go_ret
    exact ⟨rfl, h3, U2.step u3⟩

theorem scan_in (s : ByteArray) (i : Nat) (out l : List (Nat × Nat)) (hi : i ≤ s.size) (h0 : ∀ p ∈ out, p.1 < p.2 ∧ p.2 ≤ s.size) (h : scan s i out = .ok l) : ∀ p ∈ l, p.1 < p.2 ∧ p.2 ≤ s.size := by
 fun_induction scan s i out with
 | case1 i out h1 h2 ih => exact ih (by omega) h0 h
 | case2 i out h1 h2 h3 => cases h; exact h0
 | case3 i out h1 h2 h3 h4 h5 => cases h
 | case4 i out h1 h2 h3 h4 h5 ih =>
  refine ih (wEnd_le s i (by omega)) (fun p hp => ?_) h
  rw [List.mem_append] at hp
  rcases hp with hp | hp
  ·exact h0 p hp
  ·obtain rfl := List.mem_singleton.1 hp
   exact ⟨wEnd_gt h1 h4, wEnd_le s i (by omega)⟩
 | case5 i out h1 h2 h3 h4 => cases h
 | case6 i out h1 => cases h; exact h0
theorem scan_form_in (s : ByteArray) (i j : Nat) (out : List (Nat × Nat)) (h : scan s i out = .form j) : j < s.size := by
 fun_induction scan s i out with
 | case1 i out h1 h2 ih => exact ih h
 | case2 i out h1 h2 h3 => cases h
 | case3 i out h1 h2 h3 h4 h5 => cases h
 | case4 i out h1 h2 h3 h4 h5 ih => exact ih h
 | case5 i out h1 h2 h3 h4 => cases h; exact h1
 | case6 i out h1 => cases h
theorem scan_limit_in (s : ByteArray) (i j : Nat) (out : List (Nat × Nat)) (h : scan s i out = .limit j) : j < s.size := by
 fun_induction scan s i out with
 | case1 i out h1 h2 ih => exact ih h
 | case2 i out h1 h2 h3 => cases h
 | case3 i out h1 h2 h3 h4 h5 => cases h; exact h1
 | case4 i out h1 h2 h3 h4 h5 ih => exact ih h
 | case5 i out h1 h2 h3 h4 => cases h
 | case6 i out h1 => cases h
/-- A word of a text of so many bytes. -/
def GoodT (n : Nat) (t : Tok) : Prop := 0 < t.2.2.size ∧ t.2.2.size ≤ n ∧ t.1 ≤ n
def GoodL (n : Nat) (L : List (List Tok × Nat)) : Prop := ∀ p ∈ L, p.2 ≤ n ∧ ∀ t ∈ p.1, GoodT n t
def GoodS (n : Nat) : LScan → Prop
 | .ok l => GoodL n l
 | .err i _ => i ≤ n
theorem toks_good (s : ByteArray) (a b m : Nat) (ps : List (Nat × Nat)) (hb : a ≤ b) (hs : b ≤ s.size) (h : ∀ p ∈ ps, p.1 < p.2 ∧ p.2 ≤ (s.extract a b).size) : ∀ t ∈ toks (s.extract a b) a m ps, GoodT s.size t := by
 intro t ht
 unfold toks at ht
 rw [List.mem_map] at ht
 obtain ⟨p, hp, rfl⟩ := ht
 obtain ⟨h1, h2⟩ := h p hp
 have hz : (s.extract a b).size = b - a := by rw [ByteArray.size_extract]; omega
 have he : ((s.extract a b).extract p.1 p.2).size = p.2 - p.1 := by rw [ByteArray.size_extract]; omega
 rw [hz] at h2
 refine ⟨?_, ?_, ?_⟩
 ·show 0 < ((s.extract a b).extract p.1 p.2).size
  rw [he]; omega
 ·show ((s.extract a b).extract p.1 p.2).size ≤ s.size
  rw [he]; omega
 ·show a + p.1 ≤ s.size
  omega
theorem addLine_good (s : ByteArray) (a n e : Nat) (out : List (List Tok × Nat)) (l : List (Nat × Nat)) (h0 : GoodL s.size out) (hae : a ≤ e) (he : e ≤ s.size) (hl : ∀ p ∈ l, p.1 < p.2 ∧ p.2 ≤ (s.extract a e).size) : GoodL s.size (addLine s a n e out l) := by
 intro p hp
 unfold addLine at hp
 split at hp
 ·exact h0 p hp
 ·rw [List.mem_append] at hp
  rcases hp with hp | hp
  ·exact h0 p hp
  ·obtain rfl := List.mem_singleton.1 hp
   exact ⟨he, toks_good s a e n l hae he hl⟩
theorem lscan_good (s : ByteArray) (a n : Nat) (out : List (List Tok × Nat)) (ha : a ≤ s.size) (h0 : GoodL s.size out) : GoodS s.size (lscan s a n out) := by
 have key : ∀ (k a n : Nat) (out : List (List Tok × Nat)), s.size - a ≤ k → a ≤ s.size → GoodL s.size out → GoodS s.size (lscan s a n out) := by
  intro k
  induction k with
  | zero =>
   intro a n out hk ha h0
   have hE := lEnd_le s a ha
   have hG := lEnd_ge s a
   by_cases hn : 16384 ≤ n
   ·rw [lscan_limit hn]; exact ha
   ·cases hs : scan (s.extract a (lEnd s a)) 0 [] with
    | form i =>
     rw [lscan_form hn rfl hs]
     have := scan_form_in _ _ _ _ hs
     rw [ByteArray.size_extract] at this
     show a + i ≤ s.size
     omega
    | limit i =>
     rw [lscan_words hn rfl hs]
     have := scan_limit_in _ _ _ _ hs
     rw [ByteArray.size_extract] at this
     show a + i ≤ s.size
     omega
    | ok l =>
     rw [lscan_done hn rfl hs (by omega)]
     exact addLine_good s a n _ out l h0 hG hE (scan_in _ _ _ _ (Nat.zero_le _) (fun p hp => by simp at hp) hs)
  | succ k ih =>
   intro a n out hk ha h0
   have hE := lEnd_le s a ha
   have hG := lEnd_ge s a
   by_cases hn : 16384 ≤ n
   ·rw [lscan_limit hn]; exact ha
   ·cases hs : scan (s.extract a (lEnd s a)) 0 [] with
    | form i =>
     rw [lscan_form hn rfl hs]
     have := scan_form_in _ _ _ _ hs
     rw [ByteArray.size_extract] at this
     show a + i ≤ s.size
     omega
    | limit i =>
     rw [lscan_words hn rfl hs]
     have := scan_limit_in _ _ _ _ hs
     rw [ByteArray.size_extract] at this
     show a + i ≤ s.size
     omega
    | ok l =>
     have hA := addLine_good s a n _ out l h0 hG hE (scan_in _ _ _ _ (Nat.zero_le _) (fun p hp => by simp at hp) hs)
     by_cases hl : lEnd s a < s.size
     ·rw [lscan_more hn rfl hs hl]
      exact ih _ _ _ (by omega) (by omega) hA
     ·rw [lscan_done hn rfl hs hl]
      exact hA
 exact key _ a n out (Nat.le_refl _) ha h0
/-- A reader of a text. -/
def rd0 (s : ByteArray) : Rd := match lscan s 0 0 [] with
 | .ok l => ⟨l, 0, s.size, 0, 0⟩
 | .err i c => ⟨[], 0, s.size, c, i⟩
theorem rd0_ok {s : ByteArray} {l : List (List Tok × Nat)} (h : lscan s 0 0 [] = .ok l) : rd0 s = ⟨l, 0, s.size, 0, 0⟩ := by unfold rd0; rw [h]
theorem rd0_err {s : ByteArray} {i c : Nat} (h : lscan s 0 0 [] = .err i c) : rd0 s = ⟨[], 0, s.size, c, i⟩ := by unfold rd0; rw [h]
theorem V5r.lay (w : World) (t : TypeId) (x0 x1 x2 x3 x4 : Value) : ∃ W, W = w.alloc (.cells #[x0, x1, x2, x3, x4] t) ∧ W.heap.size = w.heap.size + 1 ∧ Below w.heap.size w W ∧ V5r W w.heap.size x0 x1 x2 x3 x4 := by
 have hb := heap_alloc_new w (.cells #[x0, x1, x2, x3, x4] t)
 refine ⟨_, rfl, by simp, (Below.refl _ _).alloc (Nat.le_refl _) _, ?_⟩
 constructor
 ·rw [cell_of_row _ _ _ _ _ _ hb]; rfl
 ·rw [cell_of_row _ _ _ _ _ _ hb]; rfl
 ·rw [cell_of_row _ _ _ _ _ _ hb]; rfl
 ·rw [cell_of_row _ _ _ _ _ _ hb]; rfl
 ·rw [cell_of_row _ _ _ _ _ _ hb]; rfl
 ·intro j
  simp only [World.frozen?]
  rw [hb]
  simp
 ·intro j hj
  rw [cell_of_row _ _ _ _ _ _ hb]
  simp
  omega
set_option maxRecDepth 20000 in
set_option maxHeartbeats 1000000 in
theorem Read_at (s : ByteArray) (w : World) (hs : s.size ≤ 1048576) : Calls Tryz.prog 24 #[.string s] w fun e w' => ∃ R, e = .returned (.pointer (some ⟨R, 0, none⟩)) ∧ w.heap.size ≤ R ∧ RM w' R (rd0 s) ∧ RdOK (rd0 s) ∧ Below w.heap.size w w' := by
 have CL := linesOf_at s w hs
 have HG := lscan_good s 0 0 [] (Nat.zero_le _) (fun p hp => by simp at hp)
 cases hl : lscan s 0 0 [] with
 | ok l =>
  rw [rd0_ok hl]
  rw [hl] at CL HG
  have CLH : Hid _ := CL
  have HG2 : Hid (GoodL s.size l) := HG
  clear CL hl HG
  go_enter Tryz.func24, Tryz.ntmps24
  go_wp2_with fail
  refine Calls.mono CLH.out ?_
  rintro e w1 ⟨⟨v, rfl, ho, h1, h2⟩, b1⟩
  obtain ⟨W, hW, hS, hL, hv⟩ := V5r.lay w1 87 v (.int .i64 0) (.int .i64 (s.size : Int)) (.int .i64 0) (.int .i64 0)
  have hB := b1.trans (hL.mono b1.size)
  have hln : LnS w1.heap.size W v l := (LOwn.lns ho (Nat.le_refl _)).aside hL
  have hb1 := b1.size
  obtain ⟨av, cv, rfl⟩ := hln.form
  have HM : Hid (RM W w1.heap.size ⟨l, 0, s.size, 0, 0⟩) := ⟨_, hln, hv⟩
  rw [hW] at HM hB
  clear CLH hln hv hL hS hW b1
  go_wp2
  go_ret
  exact ⟨_, rfl, hb1, HM.out, ⟨fun h => absurd rfl h, fun _ _ _ => Nat.zero_le _, h2, h1, fun p hp t ht => ⟨(HG2.out p hp).2 t ht |>.2.1, (HG2.out p hp).2 t ht |>.1⟩, Nat.zero_le _⟩, hB⟩
 | err i c =>
  rw [rd0_err hl]
  rw [hl] at CL
  have CLH : Hid _ := CL
  clear CL hl HG
  go_enter Tryz.func24, Tryz.ntmps24
  go_wp2_with fail
  refine Calls.mono CLH.out ?_
  rintro e w1 ⟨⟨rfl, hc⟩, b1⟩
  obtain ⟨W, hW, hS, hL, hv⟩ := V5r.lay w1 87 (.slice none 0 0) (.int .i64 0) (.int .i64 (s.size : Int)) (.int .i64 (c : Int)) (.int .i64 (i : Int))
  have hB := b1.trans (hL.mono b1.size)
  have hb1 := b1.size
  have HM : Hid (RM W w1.heap.size ⟨[], 0, s.size, c, i⟩) := ⟨_, LnS.nil _ _, hv⟩
  rw [hW] at HM hB
  clear CLH hv hL hS hW b1
  go_wp2
  go_ret
  exact ⟨_, rfl, hb1, HM.out, ⟨fun _ => rfl, fun _ _ _ => Nat.zero_le _, fun p hp => by simp at hp, Nat.zero_le _, fun p hp => by simp at hp, Nat.zero_le _⟩, hB⟩

/-- Parse, whatever comes in: the number in its form, or none. -/
theorem parseX_at (s : ByteArray) (w : World) (hs : s.size ≤ 9000) (ht : Tab w) :
  Calls Tryz.prog 61 #[.string s] w fun e w' => ∃ p a n c b m d, e = .returned (.tuple #[.agg #[.bool p, .slice a n c, .slice b m d], .int .i64 (qerr s)]) ∧ ExT w' (.bool p) (.slice a n c) (.slice b m d) (if qerr s = 0 then some (qval s) else none) ∧ (¬ qerr s = 0 → p = false ∧ a = none ∧ n = 0 ∧ c = 0 ∧ b = none ∧ m = 0 ∧ d = 0) ∧ Below w.heap.size w w' := by
 by_cases h1 : (ppOf (pdig s)).1 = 0
 ·by_cases h2 : (ppOf (pdig s)).2.2 = 0
  ·have he : qerr s = 2 := by unfold qerr; rw [if_pos h1, if_pos h2]
   refine (qparse_zero s w hs ht h1 h2).mono ?_
   rintro e w' ⟨rfl, hb⟩
   rw [he]
   exact ⟨_, _, _, _, _, _, _, rfl, ⟨rfl, rfl, rfl⟩, fun _ => ⟨rfl, rfl, rfl, rfl, rfl, rfl, rfl⟩, hb⟩
  ·have he : qerr s = 0 := by unfold qerr; rw [if_pos h1, if_neg h2]
   refine (qparse_yes s w hs ht h1 h2).mono ?_
   rintro e w' ⟨r, rfl, hr, hb⟩
   obtain ⟨p, a, n, c, b, m, d, rfl⟩ := hr.open
   rw [he]
   exact ⟨_, _, _, _, _, _, _, rfl, hr, fun h => absurd rfl h, hb⟩
 ·have h4 : (ppOf (pdig s)).1 = 4 := (pp_err (pdig s)).elim (fun h => absurd h h1) (fun h => h)
  have he : qerr s = 4 := by unfold qerr; rw [if_neg h1, h4]
  refine (qparse_form s w hs ht h4).mono ?_
  rintro e w' ⟨rfl, hb⟩
  rw [he]
  exact ⟨_, _, _, _, _, _, _, rfl, ⟨rfl, rfl, rfl⟩, fun _ => ⟨rfl, rfl, rfl, rfl, rfl, rfl, rfl⟩, hb⟩
/-- A call that reads a number. -/
def NumOut (w : World) (R : Nat) (o : Option Rat) (r : Rd) (e : Ending) (w' : World) : Prop := ∃ p a n c b m d, e = .returned (.agg #[.bool p, .slice a n c, .slice b m d]) ∧ ExT w' (.bool p) (.slice a n c) (.slice b m d) o ∧ RM w' R r ∧ UpW w R w'
theorem V3.keepZ {w : World} {RT : Nat} {x y z : Value} (h : V3 w RT x y z) (hx : ¬ IsLimb x) (hy : ¬ IsLimb y) (hz : ¬ IsLimb z) (u0 u1 u2 : Value) : KeepQ IsLimb w (((w.setCell ⟨RT, 0, none⟩ u0).setCell ⟨RT, 1, none⟩ u1).setCell ⟨RT, 2, none⟩ u2) :=
 ((keepL_set h.1 hx u0).trans (keepL_set (cell_set_by h.2.1 (by omega)) hy u1)).trans (keepL_set (cell_set_by (cell_set_by h.2.2.1 (by omega)) (by omega)) hz u2)

set_option maxRecDepth 20000 in
set_option maxHeartbeats 4000000 in
theorem rnum_at {w : World} {R : Nat} {r : Rd} (h : RM w R r) (ho : RdOK r) (hlen : r.len ≤ 4000) (ht : Tab w) : Calls Tryz.prog 116 #[.pointer (some ⟨R, 0, none⟩)] w (NumOut w R r.numV r.numR) := by
 have hlt := h.lt
 have hT : Hid (∀ w1, UpW w R w1 → Tab w1) := fun w1 u => ht.keepL (h.keepQ u.2)
 obtain ⟨W0, hW0, hS0, hL0, VR⟩ := V3.lay w 44 (.bool false) (.slice none 0 0) (.slice none 0 0)
 have U : UpW w R W0 := (UpW.refl hlt).below hL0
 have h1 := h.below hL0
 have hO := ho.tok
 have hz := ho.wtx
 unfold Rd.numV Rd.numR
 have CW := Word_at h1 ho
 generalize wtx r.tok.1 = tx at CW hz ⊢
 generalize r.tok.2 = r' at CW hO ⊢
 have CWH : Hid _ := CW
 have CF := fun (W : World) (hW : RM W R r') => Fail_at (qerr tx).toNat hW hO
 have hq : ((qerr tx).toNat : Int) = qerr tx := by rcases qerr_is tx with q | q | q <;> rw [q] <;> rfl
 rw [hq] at CF
 have CFH : Hid _ := CF
 have CP := fun (W : World) (hW : Tab W) => parseX_at tx W (by omega) hW
 have CPH : Hid _ := CP
 clear CW CF CP ht ho hO h hq
 generalize r'.fail (qerr tx).toNat = r2 at *
 generalize hov : (if qerr tx = 0 then some (qval tx) else none) = ov at *
 go_enter Tryz.func116, Tryz.ntmps116
 go_wp2_with fail
 rw [← hW0]
 obtain ⟨R2, hR2⟩ : ∃ R2, w.heap.size = R2 := ⟨_, rfl⟩
 have HR2 : Hid (w.heap.size = R2) := hR2
 rw [hR2] at VR
 rw [hR2]
 have hw2 : w.heap.size ≤ R2 := by omega
 have hR12 : R + 1 ≤ R2 := by omega
 clear hW0 hS0 hL0 hR2 hov
 refine Calls.mono CWH.out ?_
 rintro e w1 ⟨rfl, h2, u2⟩
 have hne : R2 ≠ R := by omega
 replace VR := VR.upd u2.2 hne
 replace U := U.trans u2
 have ht1 := hT.out _ U
 clear CWH h1 u2
 go_wp2_with fail
 refine Calls.mono (CPH.out _ ht1) ?_
 rintro e w2 ⟨p, a, n, c, b, m, d, rfl, hx, hz0, b2⟩
 have HZ : Hid (¬ qerr tx = 0 → p = false ∧ a = none ∧ n = 0 ∧ c = 0 ∧ b = none ∧ m = 0 ∧ d = 0) := hz0
 replace VR := VR.below b2
 replace U := U.below b2
 replace h2 := h2.below b2
 clear CPH b2 ht1 hz0
 have l1 := VR.lt
 have l2 := h2.lt
 obtain ⟨W3, hW3, hS3, hL3, VT⟩ := V3.lay w2 44 (.bool p) (.slice a n c) (.slice b m d)
 obtain ⟨q1, q2, q3, q4, q5, q6⟩ := id VT
 rw [hW3] at q1 q2 q3 q4 q5 q6
 go_wp2_with fail
 rw [← hW3]
 replace VR := VR.below hL3
 replace U := U.below hL3
 replace h2 := h2.below hL3
 have hx3 : ExT W3 (.bool p) (.slice a n c) (.slice b m d) ov := hx.keepL (KeepQ.below hL3)
 obtain ⟨R3, hR3⟩ : ∃ R3, w2.heap.size = R3 := ⟨_, rfl⟩
 rw [hR3] at VT l1 l2
 rw [hR3]
 have hne3 : R3 ≠ R := by omega
 clear hR3 hW3 hS3 hL3 hx q1 q2 q3 q4 q5 q6
 refine Calls.mono (CFH.out _ h2) ?_
 rintro e w4 ⟨rfl, h4, u4⟩
 have hx4 := hx3.keepL (h2.keepQ u4.2)
 replace VT := VT.upd u4.2 hne3
 replace VR := VR.upd u4.2 hne
 replace U := U.trans u4
 clear h2 u4 hx3 CFH
 obtain ⟨q1, q2, q3, q4, q5, q6⟩ := id VT
 obtain ⟨s1, s2, s3, s4, s5, s6⟩ := id VR
 have VR2 := VR.same (.bool p) (.slice a n c) (.slice b m d)
 obtain ⟨y1, y2, y3, y4, y5, y6⟩ := id VR2
 have K := VR.keepZ (limb_bool _) (limb_slice _ _ _) (limb_slice _ _ _) (.bool p) (.slice a n c) (.slice b m d)
 have hx5 := hx4.keepL K
 have h5 := h4.low (low_put3 (w := w4) (B := R + 1) (RT := R2) hR12 (.bool p) (.slice a n c) (.slice b m d))
 have U5 := U.put3 (RT := R2) hw2 (.bool p) (.slice a n c) (.slice b m d)
 clear K hx4 h4 U VR VR2
 go_wp2
 (try simp only [Exit.inBlock, Exit.then])
 refine bodyPost_ret (v := .agg #[.bool p, .slice a n c, .slice b m d]) (by simp [results, Tryz.results116, go_sem, y1, y2, y3]) rfl ?_
 exact ⟨_, _, _, _, _, _, _, rfl, hx5, h5, U5⟩

theorem VS14.blk {w w' : World} {R : Nat} {x0 x1 x2 x3 x4 x5 x6 x7 x8 x9 x10 x11 x12 x13 : Value} (h : VS14 w R x0 x1 x2 x3 x4 x5 x6 x7 x8 x9 x10 x11 x12 x13) (hb : w'.heap[R]? = w.heap[R]?) : VS14 w' R x0 x1 x2 x3 x4 x5 x6 x7 x8 x9 x10 x11 x12 x13 :=
 ⟨⟨(World.cell?_of_block hb).trans h.1.c0, (World.cell?_of_block hb).trans h.1.c1, (World.cell?_of_block hb).trans h.1.c2, (World.cell?_of_block hb).trans h.1.c3, (World.cell?_of_block hb).trans h.1.c4, (World.cell?_of_block hb).trans h.1.c5, (World.cell?_of_block hb).trans h.1.c6, (World.cell?_of_block hb).trans h.1.c7, (World.cell?_of_block hb).trans h.1.c8, (World.cell?_of_block hb).trans h.1.c9, (World.cell?_of_block hb).trans h.1.c10, (World.cell?_of_block hb).trans h.1.c11, (World.cell?_of_block hb).trans h.1.c12, (World.cell?_of_block hb).trans h.1.c13⟩, fun j => (World.frozen?_of_block hb).trans (h.2 j)⟩
theorem VS14.lt {w : World} {R : Nat} {x0 x1 x2 x3 x4 x5 x6 x7 x8 x9 x10 x11 x12 x13 : Value} (h : VS14 w R x0 x1 x2 x3 x4 x5 x6 x7 x8 x9 x10 x11 x12 x13) : R < w.heap.size := h.1.lt
theorem VS14.upd {w w' : World} {R RT a b : Nat} {x0 x1 x2 x3 x4 x5 x6 x7 x8 x9 x10 x11 x12 x13 : Value} (h : VS14 w RT x0 x1 x2 x3 x4 x5 x6 x7 x8 x9 x10 x11 x12 x13) (u : Upd w w' R a b) (hn : RT ≠ R) : VS14 w' RT x0 x1 x2 x3 x4 x5 x6 x7 x8 x9 x10 x11 x12 x13 := h.blk (u.block RT h.lt hn)
theorem VS14.lay (w : World) (t : TypeId) (x0 x1 x2 x3 x4 x5 x6 x7 x8 x9 x10 x11 x12 x13 : Value) : ∃ W, W = w.alloc (.cells #[x0, x1, x2, x3, x4, x5, x6, x7, x8, x9, x10, x11, x12, x13] t) ∧ W.heap.size = w.heap.size + 1 ∧ Below w.heap.size w W ∧ VS14 W w.heap.size x0 x1 x2 x3 x4 x5 x6 x7 x8 x9 x10 x11 x12 x13 := by
 obtain ⟨W, a, b, c, d, e⟩ := V14.lay w t x0 x1 x2 x3 x4 x5 x6 x7 x8 x9 x10 x11 x12 x13
 exact ⟨W, a, b, c, d, e⟩
/-- A call that reads a node. -/
def NodeOut (w : World) (R : Nat) (d : TidN) (r : Rd) (e : Ending) (w' : World) : Prop := ∃ el : Nat → Value, e = .returned (.agg #[el 0, el 1, el 2, el 3, el 4, el 5, el 6, el 7, el 8, el 9, el 10, el 11, el 12, el 13]) ∧ TNode w' el d ∧ RM w' R r ∧ UpW w R w'
theorem VS14.p0 {w : World} {R : Nat} {x0 x1 x2 x3 x4 x5 x6 x7 x8 x9 x10 x11 x12 x13 : Value} (h : VS14 w R x0 x1 x2 x3 x4 x5 x6 x7 x8 x9 x10 x11 x12 x13) (u0 : Value) : VS14 ((w).setCell ⟨R, 0, none⟩ u0) R u0 x1 x2 x3 x4 x5 x6 x7 x8 x9 x10 x11 x12 x13 := by
 obtain ⟨⟨c0, c1, c2, c3, c4, c5, c6, c7, c8, c9, c10, c11, c12, c13⟩, f⟩ := h
 exact ⟨⟨(cell_set_at c0), (cell_set_by c1 (by omega)), (cell_set_by c2 (by omega)), (cell_set_by c3 (by omega)), (cell_set_by c4 (by omega)), (cell_set_by c5 (by omega)), (cell_set_by c6 (by omega)), (cell_set_by c7 (by omega)), (cell_set_by c8 (by omega)), (cell_set_by c9 (by omega)), (cell_set_by c10 (by omega)), (cell_set_by c11 (by omega)), (cell_set_by c12 (by omega)), (cell_set_by c13 (by omega))⟩, fun j => by simp [f j]⟩
theorem VS14.q0 {w : World} {R : Nat} {x0 x1 x2 x3 x4 x5 x6 x7 x8 x9 x10 x11 x12 x13 : Value} (h : VS14 w R x0 x1 x2 x3 x4 x5 x6 x7 x8 x9 x10 x11 x12 x13) (l0 : ¬ IsLimb x0) (u0 : Value) : KeepQ IsLimb w ((w).setCell ⟨R, 0, none⟩ u0) := by
 obtain ⟨⟨c0, c1, c2, c3, c4, c5, c6, c7, c8, c9, c10, c11, c12, c13⟩, f⟩ := h
 exact (keepL_set c0 l0 u0)
theorem low14_0 {B RT : Nat} {w : World} (h : B ≤ RT) (u0 : Value) : Below B w ((w).setCell ⟨RT, 0, none⟩ u0) := ((Below.refl _ _).setCell (p := ⟨RT, 0, none⟩) h _)
theorem UpW.n0 {w0 w : World} {R RT : Nat} (h : UpW w0 R w) (hT : w0.heap.size ≤ RT) (u0 : Value) : UpW w0 R ((w).setCell ⟨RT, 0, none⟩ u0) := (h.new hT 0 _)
theorem VS14.p1 {w : World} {R : Nat} {x0 x1 x2 x3 x4 x5 x6 x7 x8 x9 x10 x11 x12 x13 : Value} (h : VS14 w R x0 x1 x2 x3 x4 x5 x6 x7 x8 x9 x10 x11 x12 x13) (u1 : Value) : VS14 ((w).setCell ⟨R, 1, none⟩ u1) R x0 u1 x2 x3 x4 x5 x6 x7 x8 x9 x10 x11 x12 x13 := by
 obtain ⟨⟨c0, c1, c2, c3, c4, c5, c6, c7, c8, c9, c10, c11, c12, c13⟩, f⟩ := h
 exact ⟨⟨(cell_set_by c0 (by omega)), (cell_set_at c1), (cell_set_by c2 (by omega)), (cell_set_by c3 (by omega)), (cell_set_by c4 (by omega)), (cell_set_by c5 (by omega)), (cell_set_by c6 (by omega)), (cell_set_by c7 (by omega)), (cell_set_by c8 (by omega)), (cell_set_by c9 (by omega)), (cell_set_by c10 (by omega)), (cell_set_by c11 (by omega)), (cell_set_by c12 (by omega)), (cell_set_by c13 (by omega))⟩, fun j => by simp [f j]⟩
theorem VS14.q1 {w : World} {R : Nat} {x0 x1 x2 x3 x4 x5 x6 x7 x8 x9 x10 x11 x12 x13 : Value} (h : VS14 w R x0 x1 x2 x3 x4 x5 x6 x7 x8 x9 x10 x11 x12 x13) (l1 : ¬ IsLimb x1) (u1 : Value) : KeepQ IsLimb w ((w).setCell ⟨R, 1, none⟩ u1) := by
 obtain ⟨⟨c0, c1, c2, c3, c4, c5, c6, c7, c8, c9, c10, c11, c12, c13⟩, f⟩ := h
 exact (keepL_set c1 l1 u1)
theorem low14_1 {B RT : Nat} {w : World} (h : B ≤ RT) (u1 : Value) : Below B w ((w).setCell ⟨RT, 1, none⟩ u1) := ((Below.refl _ _).setCell (p := ⟨RT, 1, none⟩) h _)
theorem UpW.n1 {w0 w : World} {R RT : Nat} (h : UpW w0 R w) (hT : w0.heap.size ≤ RT) (u1 : Value) : UpW w0 R ((w).setCell ⟨RT, 1, none⟩ u1) := (h.new hT 1 _)
theorem VS14.p2 {w : World} {R : Nat} {x0 x1 x2 x3 x4 x5 x6 x7 x8 x9 x10 x11 x12 x13 : Value} (h : VS14 w R x0 x1 x2 x3 x4 x5 x6 x7 x8 x9 x10 x11 x12 x13) (u2 u3 u4 : Value) : VS14 ((((w).setCell ⟨R, 2, none⟩ u2).setCell ⟨R, 3, none⟩ u3).setCell ⟨R, 4, none⟩ u4) R x0 x1 u2 u3 u4 x5 x6 x7 x8 x9 x10 x11 x12 x13 := by
 obtain ⟨⟨c0, c1, c2, c3, c4, c5, c6, c7, c8, c9, c10, c11, c12, c13⟩, f⟩ := h
 exact ⟨⟨(cell_set_by (cell_set_by (cell_set_by c0 (by omega)) (by omega)) (by omega)), (cell_set_by (cell_set_by (cell_set_by c1 (by omega)) (by omega)) (by omega)), (cell_set_by (cell_set_by (cell_set_at c2) (by omega)) (by omega)), (cell_set_by (cell_set_at (cell_set_by c3 (by omega))) (by omega)), (cell_set_at (cell_set_by (cell_set_by c4 (by omega)) (by omega))), (cell_set_by (cell_set_by (cell_set_by c5 (by omega)) (by omega)) (by omega)), (cell_set_by (cell_set_by (cell_set_by c6 (by omega)) (by omega)) (by omega)), (cell_set_by (cell_set_by (cell_set_by c7 (by omega)) (by omega)) (by omega)), (cell_set_by (cell_set_by (cell_set_by c8 (by omega)) (by omega)) (by omega)), (cell_set_by (cell_set_by (cell_set_by c9 (by omega)) (by omega)) (by omega)), (cell_set_by (cell_set_by (cell_set_by c10 (by omega)) (by omega)) (by omega)), (cell_set_by (cell_set_by (cell_set_by c11 (by omega)) (by omega)) (by omega)), (cell_set_by (cell_set_by (cell_set_by c12 (by omega)) (by omega)) (by omega)), (cell_set_by (cell_set_by (cell_set_by c13 (by omega)) (by omega)) (by omega))⟩, fun j => by simp [f j]⟩
theorem VS14.q2 {w : World} {R : Nat} {x0 x1 x2 x3 x4 x5 x6 x7 x8 x9 x10 x11 x12 x13 : Value} (h : VS14 w R x0 x1 x2 x3 x4 x5 x6 x7 x8 x9 x10 x11 x12 x13) (l2 : ¬ IsLimb x2) (l3 : ¬ IsLimb x3) (l4 : ¬ IsLimb x4) (u2 u3 u4 : Value) : KeepQ IsLimb w ((((w).setCell ⟨R, 2, none⟩ u2).setCell ⟨R, 3, none⟩ u3).setCell ⟨R, 4, none⟩ u4) := by
 obtain ⟨⟨c0, c1, c2, c3, c4, c5, c6, c7, c8, c9, c10, c11, c12, c13⟩, f⟩ := h
 exact (((keepL_set c2 l2 u2).trans (keepL_set (cell_set_by c3 (by omega)) l3 u3)).trans (keepL_set (cell_set_by (cell_set_by c4 (by omega)) (by omega)) l4 u4))
theorem low14_2 {B RT : Nat} {w : World} (h : B ≤ RT) (u2 u3 u4 : Value) : Below B w ((((w).setCell ⟨RT, 2, none⟩ u2).setCell ⟨RT, 3, none⟩ u3).setCell ⟨RT, 4, none⟩ u4) := ((((Below.refl _ _).setCell (p := ⟨RT, 2, none⟩) h _).setCell (p := ⟨RT, 3, none⟩) h _).setCell (p := ⟨RT, 4, none⟩) h _)
theorem UpW.n2 {w0 w : World} {R RT : Nat} (h : UpW w0 R w) (hT : w0.heap.size ≤ RT) (u2 u3 u4 : Value) : UpW w0 R ((((w).setCell ⟨RT, 2, none⟩ u2).setCell ⟨RT, 3, none⟩ u3).setCell ⟨RT, 4, none⟩ u4) := (((h.new hT 2 _).new hT 3 _).new hT 4 _)
theorem VS14.p5 {w : World} {R : Nat} {x0 x1 x2 x3 x4 x5 x6 x7 x8 x9 x10 x11 x12 x13 : Value} (h : VS14 w R x0 x1 x2 x3 x4 x5 x6 x7 x8 x9 x10 x11 x12 x13) (u5 : Value) : VS14 ((w).setCell ⟨R, 5, none⟩ u5) R x0 x1 x2 x3 x4 u5 x6 x7 x8 x9 x10 x11 x12 x13 := by
 obtain ⟨⟨c0, c1, c2, c3, c4, c5, c6, c7, c8, c9, c10, c11, c12, c13⟩, f⟩ := h
 exact ⟨⟨(cell_set_by c0 (by omega)), (cell_set_by c1 (by omega)), (cell_set_by c2 (by omega)), (cell_set_by c3 (by omega)), (cell_set_by c4 (by omega)), (cell_set_at c5), (cell_set_by c6 (by omega)), (cell_set_by c7 (by omega)), (cell_set_by c8 (by omega)), (cell_set_by c9 (by omega)), (cell_set_by c10 (by omega)), (cell_set_by c11 (by omega)), (cell_set_by c12 (by omega)), (cell_set_by c13 (by omega))⟩, fun j => by simp [f j]⟩
theorem VS14.q5 {w : World} {R : Nat} {x0 x1 x2 x3 x4 x5 x6 x7 x8 x9 x10 x11 x12 x13 : Value} (h : VS14 w R x0 x1 x2 x3 x4 x5 x6 x7 x8 x9 x10 x11 x12 x13) (l5 : ¬ IsLimb x5) (u5 : Value) : KeepQ IsLimb w ((w).setCell ⟨R, 5, none⟩ u5) := by
 obtain ⟨⟨c0, c1, c2, c3, c4, c5, c6, c7, c8, c9, c10, c11, c12, c13⟩, f⟩ := h
 exact (keepL_set c5 l5 u5)
theorem low14_5 {B RT : Nat} {w : World} (h : B ≤ RT) (u5 : Value) : Below B w ((w).setCell ⟨RT, 5, none⟩ u5) := ((Below.refl _ _).setCell (p := ⟨RT, 5, none⟩) h _)
theorem UpW.n5 {w0 w : World} {R RT : Nat} (h : UpW w0 R w) (hT : w0.heap.size ≤ RT) (u5 : Value) : UpW w0 R ((w).setCell ⟨RT, 5, none⟩ u5) := (h.new hT 5 _)
theorem VS14.p6 {w : World} {R : Nat} {x0 x1 x2 x3 x4 x5 x6 x7 x8 x9 x10 x11 x12 x13 : Value} (h : VS14 w R x0 x1 x2 x3 x4 x5 x6 x7 x8 x9 x10 x11 x12 x13) (u6 : Value) : VS14 ((w).setCell ⟨R, 6, none⟩ u6) R x0 x1 x2 x3 x4 x5 u6 x7 x8 x9 x10 x11 x12 x13 := by
 obtain ⟨⟨c0, c1, c2, c3, c4, c5, c6, c7, c8, c9, c10, c11, c12, c13⟩, f⟩ := h
 exact ⟨⟨(cell_set_by c0 (by omega)), (cell_set_by c1 (by omega)), (cell_set_by c2 (by omega)), (cell_set_by c3 (by omega)), (cell_set_by c4 (by omega)), (cell_set_by c5 (by omega)), (cell_set_at c6), (cell_set_by c7 (by omega)), (cell_set_by c8 (by omega)), (cell_set_by c9 (by omega)), (cell_set_by c10 (by omega)), (cell_set_by c11 (by omega)), (cell_set_by c12 (by omega)), (cell_set_by c13 (by omega))⟩, fun j => by simp [f j]⟩
theorem VS14.q6 {w : World} {R : Nat} {x0 x1 x2 x3 x4 x5 x6 x7 x8 x9 x10 x11 x12 x13 : Value} (h : VS14 w R x0 x1 x2 x3 x4 x5 x6 x7 x8 x9 x10 x11 x12 x13) (l6 : ¬ IsLimb x6) (u6 : Value) : KeepQ IsLimb w ((w).setCell ⟨R, 6, none⟩ u6) := by
 obtain ⟨⟨c0, c1, c2, c3, c4, c5, c6, c7, c8, c9, c10, c11, c12, c13⟩, f⟩ := h
 exact (keepL_set c6 l6 u6)
theorem low14_6 {B RT : Nat} {w : World} (h : B ≤ RT) (u6 : Value) : Below B w ((w).setCell ⟨RT, 6, none⟩ u6) := ((Below.refl _ _).setCell (p := ⟨RT, 6, none⟩) h _)
theorem UpW.n6 {w0 w : World} {R RT : Nat} (h : UpW w0 R w) (hT : w0.heap.size ≤ RT) (u6 : Value) : UpW w0 R ((w).setCell ⟨RT, 6, none⟩ u6) := (h.new hT 6 _)
theorem VS14.p7 {w : World} {R : Nat} {x0 x1 x2 x3 x4 x5 x6 x7 x8 x9 x10 x11 x12 x13 : Value} (h : VS14 w R x0 x1 x2 x3 x4 x5 x6 x7 x8 x9 x10 x11 x12 x13) (u7 : Value) : VS14 ((w).setCell ⟨R, 7, none⟩ u7) R x0 x1 x2 x3 x4 x5 x6 u7 x8 x9 x10 x11 x12 x13 := by
 obtain ⟨⟨c0, c1, c2, c3, c4, c5, c6, c7, c8, c9, c10, c11, c12, c13⟩, f⟩ := h
 exact ⟨⟨(cell_set_by c0 (by omega)), (cell_set_by c1 (by omega)), (cell_set_by c2 (by omega)), (cell_set_by c3 (by omega)), (cell_set_by c4 (by omega)), (cell_set_by c5 (by omega)), (cell_set_by c6 (by omega)), (cell_set_at c7), (cell_set_by c8 (by omega)), (cell_set_by c9 (by omega)), (cell_set_by c10 (by omega)), (cell_set_by c11 (by omega)), (cell_set_by c12 (by omega)), (cell_set_by c13 (by omega))⟩, fun j => by simp [f j]⟩
theorem VS14.q7 {w : World} {R : Nat} {x0 x1 x2 x3 x4 x5 x6 x7 x8 x9 x10 x11 x12 x13 : Value} (h : VS14 w R x0 x1 x2 x3 x4 x5 x6 x7 x8 x9 x10 x11 x12 x13) (l7 : ¬ IsLimb x7) (u7 : Value) : KeepQ IsLimb w ((w).setCell ⟨R, 7, none⟩ u7) := by
 obtain ⟨⟨c0, c1, c2, c3, c4, c5, c6, c7, c8, c9, c10, c11, c12, c13⟩, f⟩ := h
 exact (keepL_set c7 l7 u7)
theorem low14_7 {B RT : Nat} {w : World} (h : B ≤ RT) (u7 : Value) : Below B w ((w).setCell ⟨RT, 7, none⟩ u7) := ((Below.refl _ _).setCell (p := ⟨RT, 7, none⟩) h _)
theorem UpW.n7 {w0 w : World} {R RT : Nat} (h : UpW w0 R w) (hT : w0.heap.size ≤ RT) (u7 : Value) : UpW w0 R ((w).setCell ⟨RT, 7, none⟩ u7) := (h.new hT 7 _)
theorem VS14.p8 {w : World} {R : Nat} {x0 x1 x2 x3 x4 x5 x6 x7 x8 x9 x10 x11 x12 x13 : Value} (h : VS14 w R x0 x1 x2 x3 x4 x5 x6 x7 x8 x9 x10 x11 x12 x13) (u8 u9 u10 : Value) : VS14 ((((w).setCell ⟨R, 8, none⟩ u8).setCell ⟨R, 9, none⟩ u9).setCell ⟨R, 10, none⟩ u10) R x0 x1 x2 x3 x4 x5 x6 x7 u8 u9 u10 x11 x12 x13 := by
 obtain ⟨⟨c0, c1, c2, c3, c4, c5, c6, c7, c8, c9, c10, c11, c12, c13⟩, f⟩ := h
 exact ⟨⟨(cell_set_by (cell_set_by (cell_set_by c0 (by omega)) (by omega)) (by omega)), (cell_set_by (cell_set_by (cell_set_by c1 (by omega)) (by omega)) (by omega)), (cell_set_by (cell_set_by (cell_set_by c2 (by omega)) (by omega)) (by omega)), (cell_set_by (cell_set_by (cell_set_by c3 (by omega)) (by omega)) (by omega)), (cell_set_by (cell_set_by (cell_set_by c4 (by omega)) (by omega)) (by omega)), (cell_set_by (cell_set_by (cell_set_by c5 (by omega)) (by omega)) (by omega)), (cell_set_by (cell_set_by (cell_set_by c6 (by omega)) (by omega)) (by omega)), (cell_set_by (cell_set_by (cell_set_by c7 (by omega)) (by omega)) (by omega)), (cell_set_by (cell_set_by (cell_set_at c8) (by omega)) (by omega)), (cell_set_by (cell_set_at (cell_set_by c9 (by omega))) (by omega)), (cell_set_at (cell_set_by (cell_set_by c10 (by omega)) (by omega))), (cell_set_by (cell_set_by (cell_set_by c11 (by omega)) (by omega)) (by omega)), (cell_set_by (cell_set_by (cell_set_by c12 (by omega)) (by omega)) (by omega)), (cell_set_by (cell_set_by (cell_set_by c13 (by omega)) (by omega)) (by omega))⟩, fun j => by simp [f j]⟩
theorem VS14.q8 {w : World} {R : Nat} {x0 x1 x2 x3 x4 x5 x6 x7 x8 x9 x10 x11 x12 x13 : Value} (h : VS14 w R x0 x1 x2 x3 x4 x5 x6 x7 x8 x9 x10 x11 x12 x13) (l8 : ¬ IsLimb x8) (l9 : ¬ IsLimb x9) (l10 : ¬ IsLimb x10) (u8 u9 u10 : Value) : KeepQ IsLimb w ((((w).setCell ⟨R, 8, none⟩ u8).setCell ⟨R, 9, none⟩ u9).setCell ⟨R, 10, none⟩ u10) := by
 obtain ⟨⟨c0, c1, c2, c3, c4, c5, c6, c7, c8, c9, c10, c11, c12, c13⟩, f⟩ := h
 exact (((keepL_set c8 l8 u8).trans (keepL_set (cell_set_by c9 (by omega)) l9 u9)).trans (keepL_set (cell_set_by (cell_set_by c10 (by omega)) (by omega)) l10 u10))
theorem low14_8 {B RT : Nat} {w : World} (h : B ≤ RT) (u8 u9 u10 : Value) : Below B w ((((w).setCell ⟨RT, 8, none⟩ u8).setCell ⟨RT, 9, none⟩ u9).setCell ⟨RT, 10, none⟩ u10) := ((((Below.refl _ _).setCell (p := ⟨RT, 8, none⟩) h _).setCell (p := ⟨RT, 9, none⟩) h _).setCell (p := ⟨RT, 10, none⟩) h _)
theorem UpW.n8 {w0 w : World} {R RT : Nat} (h : UpW w0 R w) (hT : w0.heap.size ≤ RT) (u8 u9 u10 : Value) : UpW w0 R ((((w).setCell ⟨RT, 8, none⟩ u8).setCell ⟨RT, 9, none⟩ u9).setCell ⟨RT, 10, none⟩ u10) := (((h.new hT 8 _).new hT 9 _).new hT 10 _)
theorem VS14.p11 {w : World} {R : Nat} {x0 x1 x2 x3 x4 x5 x6 x7 x8 x9 x10 x11 x12 x13 : Value} (h : VS14 w R x0 x1 x2 x3 x4 x5 x6 x7 x8 x9 x10 x11 x12 x13) (u11 u12 u13 : Value) : VS14 ((((w).setCell ⟨R, 11, none⟩ u11).setCell ⟨R, 12, none⟩ u12).setCell ⟨R, 13, none⟩ u13) R x0 x1 x2 x3 x4 x5 x6 x7 x8 x9 x10 u11 u12 u13 := by
 obtain ⟨⟨c0, c1, c2, c3, c4, c5, c6, c7, c8, c9, c10, c11, c12, c13⟩, f⟩ := h
 exact ⟨⟨(cell_set_by (cell_set_by (cell_set_by c0 (by omega)) (by omega)) (by omega)), (cell_set_by (cell_set_by (cell_set_by c1 (by omega)) (by omega)) (by omega)), (cell_set_by (cell_set_by (cell_set_by c2 (by omega)) (by omega)) (by omega)), (cell_set_by (cell_set_by (cell_set_by c3 (by omega)) (by omega)) (by omega)), (cell_set_by (cell_set_by (cell_set_by c4 (by omega)) (by omega)) (by omega)), (cell_set_by (cell_set_by (cell_set_by c5 (by omega)) (by omega)) (by omega)), (cell_set_by (cell_set_by (cell_set_by c6 (by omega)) (by omega)) (by omega)), (cell_set_by (cell_set_by (cell_set_by c7 (by omega)) (by omega)) (by omega)), (cell_set_by (cell_set_by (cell_set_by c8 (by omega)) (by omega)) (by omega)), (cell_set_by (cell_set_by (cell_set_by c9 (by omega)) (by omega)) (by omega)), (cell_set_by (cell_set_by (cell_set_by c10 (by omega)) (by omega)) (by omega)), (cell_set_by (cell_set_by (cell_set_at c11) (by omega)) (by omega)), (cell_set_by (cell_set_at (cell_set_by c12 (by omega))) (by omega)), (cell_set_at (cell_set_by (cell_set_by c13 (by omega)) (by omega)))⟩, fun j => by simp [f j]⟩
theorem VS14.q11 {w : World} {R : Nat} {x0 x1 x2 x3 x4 x5 x6 x7 x8 x9 x10 x11 x12 x13 : Value} (h : VS14 w R x0 x1 x2 x3 x4 x5 x6 x7 x8 x9 x10 x11 x12 x13) (l11 : ¬ IsLimb x11) (l12 : ¬ IsLimb x12) (l13 : ¬ IsLimb x13) (u11 u12 u13 : Value) : KeepQ IsLimb w ((((w).setCell ⟨R, 11, none⟩ u11).setCell ⟨R, 12, none⟩ u12).setCell ⟨R, 13, none⟩ u13) := by
 obtain ⟨⟨c0, c1, c2, c3, c4, c5, c6, c7, c8, c9, c10, c11, c12, c13⟩, f⟩ := h
 exact (((keepL_set c11 l11 u11).trans (keepL_set (cell_set_by c12 (by omega)) l12 u12)).trans (keepL_set (cell_set_by (cell_set_by c13 (by omega)) (by omega)) l13 u13))
theorem low14_11 {B RT : Nat} {w : World} (h : B ≤ RT) (u11 u12 u13 : Value) : Below B w ((((w).setCell ⟨RT, 11, none⟩ u11).setCell ⟨RT, 12, none⟩ u12).setCell ⟨RT, 13, none⟩ u13) := ((((Below.refl _ _).setCell (p := ⟨RT, 11, none⟩) h _).setCell (p := ⟨RT, 12, none⟩) h _).setCell (p := ⟨RT, 13, none⟩) h _)
theorem UpW.n11 {w0 w : World} {R RT : Nat} (h : UpW w0 R w) (hT : w0.heap.size ≤ RT) (u11 u12 u13 : Value) : UpW w0 R ((((w).setCell ⟨RT, 11, none⟩ u11).setCell ⟨RT, 12, none⟩ u12).setCell ⟨RT, 13, none⟩ u13) := (((h.new hT 11 _).new hT 12 _).new hT 13 _)
theorem take_len (r : Rd) (s : ByteArray) : (r.take s).len = r.len := by
 unfold Rd.take
 split
 ·split
  ·exact r.tok_len
  ·exact r.tok_len
 ·exact r.tok_len
theorem pick_len (r : Rd) (a b : ByteArray) : (r.pick a b).2.len = r.len := by
 unfold Rd.pick
 split
 ·split
  ·exact r.tok_len
  ·split
   ·exact r.tok_len
   ·exact r.tok_len
 ·exact r.tok_len
theorem count_len (r : Rd) (lo hi : Nat) : (r.count lo hi).2.len = r.len := by
 unfold Rd.count
 split
 ·split
  ·split
   ·exact r.tok_len
   ·exact r.tok_len
  ·exact r.tok_len
 ·exact r.tok_len
theorem fail_len (r : Rd) (e : Nat) : (r.fail e).len = r.len := by
 unfold Rd.fail
 split
 ·rfl
 ·split <;> rfl
theorem next_len (r : Rd) : r.next.len = r.len := by
 unfold Rd.next
 split
 ·split
  ·rfl
  ·split <;> rfl
 ·rfl
theorem numR_len (r : Rd) : r.numR.len = r.len := by
 unfold Rd.numR
 rw [fail_len]
 exact r.tok_len
/-- Two words side by side, in a new block. -/
theorem two_lay (w : World) (t : TypeId) (a b : ByteArray) : ∃ W, W = w.alloc (.cells #[.string a, .string b] t) ∧ W.heap.size = w.heap.size + 1 ∧ Below w.heap.size w W ∧ W.cell? ⟨w.heap.size, 0, none⟩ = some (.string a) ∧ W.cell? ⟨w.heap.size, 1, none⟩ = some (.string b) := by
 have hb := heap_alloc_new w (.cells #[.string a, .string b] t)
 refine ⟨_, rfl, by simp, (Below.refl _ _).alloc (Nat.le_refl _) _, ?_, ?_⟩
 ·rw [cell_of_row _ _ _ _ _ _ hb]; rfl
 ·rw [cell_of_row _ _ _ _ _ _ hb]; rfl
theorem UpW.put14 {w0 w : World} {R RT : Nat} (h : UpW w0 R w) (hT : w0.heap.size ≤ RT) (u0 u1 u2 u3 u4 u5 u6 u7 u8 u9 u10 u11 u12 u13 : Value) : UpW w0 R (put14 w RT u0 u1 u2 u3 u4 u5 u6 u7 u8 u9 u10 u11 u12 u13) := ((((((((((((((h.new hT 0 _).new hT 1 _).new hT 2 _).new hT 3 _).new hT 4 _).new hT 5 _).new hT 6 _).new hT 7 _).new hT 8 _).new hT 9 _).new hT 10 _).new hT 11 _).new hT 12 _).new hT 13 _)

set_option maxRecDepth 20000 in
set_option maxHeartbeats 2000000 in
theorem rcnt_at {w : World} {R : Nat} {r : Rd} (s : ByteArray) (lo hi : Nat) (h : RM w R r) (ho : RdOK r) (hlen : r.len ≤ 4000) (hE : Erg w) (hlh : lo ≤ hi) (hh : hi ≤ 1000000) : Calls Tryz.prog 48 #[.pointer (some ⟨R, 0, none⟩), .string s, .int .i64 (lo : Int), .int .i64 (hi : Int)] w (CntOut w R (r.cntV s lo hi, r.cntR s lo hi)) := by
 have hlt := h.lt
 have hE2 : Hid (∀ w1, UpW w R w1 → Erg w1) := fun w1 u => hE.upd h u.2
 have CTH : Hid _ := Take_at s h ho
 have hO := ho.take s
 have hl2 := take_len r s
 unfold Rd.cntV Rd.cntR
 generalize r.take s = r1 at *
 have CC := fun (W : World) (hW : RM W R r1) (hE : Erg W) => Count_at lo hi hW hO (by omega) hE hlh hh
 unfold CntOut at CC ⊢
 generalize r1.count lo hi = p at *
 obtain ⟨v, r2⟩ := p
 dsimp only at CC ⊢
 have CCH : Hid _ := CC
 have CN := fun (W : World) (hW : RM W R r2) => Next_at hW
 have CNH : Hid _ := CN
 clear CC CN hE hO hl2 ho hlen hlh hh
 generalize (lo : Int) = LO at *
 generalize (hi : Int) = HI at *
 generalize r2.next = r3 at *
 go_enter Tryz.func48, Tryz.ntmps48
 go_wp2_with fail
 refine Calls.mono CTH.out ?_
 rintro e w1 ⟨rfl, h1, u1⟩
 have hE1 := hE2.out _ u1
 go_wp2_with fail
 refine Calls.mono (CCH.out _ h1 hE1) ?_
 rintro e w2 ⟨rfl, h2, u2⟩
 go_wp2_with fail
 refine Calls.mono (CNH.out _ h2) ?_
 rintro e w3 ⟨rfl, h3, u3⟩
 have U := (u1.trans u2).trans u3
 clear u1 u2 u3 h1 h2 hE1 CTH CCH CNH
 go_wp2
 go_ret
 exact ⟨rfl, h3, U⟩

set_option maxRecDepth 100000 in
set_option maxHeartbeats 16000000 in
theorem rnode_leaf {w : World} {R : Nat} {r : Rd} (h : RM w R r) (ho : RdOK r) (hlen : r.len ≤ 4000) (ht : Tab w) (hE : Erg w) (hk : r.kind = 0) : Calls Tryz.prog 79 #[.pointer (some ⟨R, 0, none⟩)] w (NodeOut w R r.nodeT r.nodeR) := by
 rw [Rd.nodeR_leaf hk, Rd.nodeT_leaf hk]
 unfold Rd.leafR Rd.leafT
 have hlt := h.lt
 have hT : Hid (∀ w1, UpW w R w1 → Tab w1) := fun w1 u => ht.keepL (h.keepQ u.2)
 have hE2 : Hid (∀ w1, UpW w R w1 → Erg w1) := fun w1 u => hE.upd h u.2
 obtain ⟨W0, hW0, hS0, hL0, VZ⟩ := VS14.lay w 46 (.bool false) (.int .i64 0) (.bool false) (.slice none 0 0) (.slice none 0 0) (.int .i64 0) (.int .i64 0) (.bool false) (.bool false) (.slice none 0 0) (.slice none 0 0) (.bool false) (.slice none 0 0) (.slice none 0 0)
 obtain ⟨W1, hW1, hS1, hL1, VN⟩ := VS14.lay W0 46 (.bool false) (.int .i64 0) (.bool false) (.slice none 0 0) (.slice none 0 0) (.int .i64 0) (.int .i64 0) (.bool false) (.bool false) (.slice none 0 0) (.slice none 0 0) (.bool false) (.slice none 0 0) (.slice none 0 0)
 replace VZ := VZ.blk (hL1.block _ (by omega))
 rw [hS0] at VN
 have U : UpW w R W1 := ((UpW.refl hlt).below hL0).below hL1
 replace h := (h.below hL0).below hL1
 have hz1 : W1.heap.size = w.heap.size + 1 + 1 := by omega
 obtain ⟨W2, hQ, hSq, hLq, sa, sb⟩ := two_lay W1 9 { data := #[108, 101, 97, 102] } { data := #[115, 112, 108, 105, 116] }
 have VN2 := VN.blk (hLq.block _ (by have := VN.lt; omega))
 have VZ2 := VZ.blk (hLq.block _ (by have := VZ.lt; omega))
 have h2 := h.below hLq
 have U2 := U.below hLq
 have hO := ho.kindR
 have hln : r.kindR.len ≤ 4000 := by unfold Rd.kindR; rw [pick_len]; exact hlen
 have CK := Pick_at sLeaf sSplit W1.heap.size 2 h2 ho (by have := h.lt; omega) sa sb
 unfold CntOut at CK
 have CK2 : Hid (Calls Tryz.prog 33 #[.pointer (some ⟨R, 0, none⟩), .slice (some ⟨W1.heap.size, 0, none⟩) 2 2] W2 fun e w' => e = .returned (.int .i64 (r.kind : Int)) ∧ RM w' R r.kindR ∧ UpW W2 R w') := CK
 clear CK h U VN VZ sa sb
 obtain ⟨⟨N_0, N_1, N_2, N_3, N_4, N_5, N_6, N_7, N_8, N_9, N_10, N_11, N_12, N_13⟩, fN⟩ := id VN2
 rw [hQ, hW1, hW0] at N_0 N_1 N_2 N_3 N_4 N_5 N_6 N_7 N_8 N_9 N_10 N_11 N_12 N_13
 go_enter Tryz.func79, Tryz.ntmps79
 go_wp2_with fail
 clear N_0 N_1 N_2 N_3 N_4 N_5 N_6 N_7 N_8 N_9 N_10 N_11 N_12 N_13 fN
 rw [← hW0]
 rw [← hW1]
 rw [← hQ]
 have hRw : R + 1 ≤ w.heap.size := by omega
 have e2 : W1.heap.size = w.heap.size + 1 + 1 := by omega
 rw [e2] at CK2
 obtain ⟨RQ, hRQ⟩ : ∃ RQ, w.heap.size + 1 + 1 = RQ := ⟨_, rfl⟩
 rw [hRQ] at CK2
 rw [hRQ]
 obtain ⟨RN, hRN0⟩ : ∃ RN, w.heap.size + 1 = RN := ⟨_, rfl⟩
 rw [hRN0] at VN2
 rw [hRN0]
 obtain ⟨RZ, hRZ⟩ : ∃ RZ, w.heap.size = RZ := ⟨_, rfl⟩
 rw [hRZ] at VZ2
 rw [hRZ]
 have hNR : RN ≠ R := by omega
 have hZR : RZ ≠ R := by omega
 have hRN : R + 1 ≤ RN := by omega
 have hRZ1 : R + 1 ≤ RZ := by omega
 have hwN : w.heap.size ≤ RN := by omega
 have hwZ : w.heap.size ≤ RZ := by omega
 have hZN : RZ < RN := by omega
 clear hQ hSq hLq hW0 hW1 hS0 hS1 hL0 hL1 e2 hRQ hRN0 hRZ hz1 hRw
 refine Calls.mono CK2.out ?_
 rintro e w3 ⟨rfl, h, u3⟩
 have VN := VN2.upd u3.2 hNR
 have VZ := VZ2.upd u3.2 hZR
 have U := U2.trans u3
 clear VN2 VZ2 U2 u3 CK2 h2
 clear ho
 generalize r.kindR = r1 at *
 rw [hk]
 clear hk
 have K_n := VN.q0 (limb_bool _) (.bool true)
 have VN_n := VN.p0 (.bool true)
 have h_n := h.low (low14_0 (w := w3) (B := R + 1) (RT := RN) hRN (.bool true))
 have U_n := U.n0 (RT := RN) hwN (.bool true)
 have VZ_n := VZ.blk ((low14_0 (w := w3) (B := RN) (RT := RN) (Nat.le_refl _) (.bool true)).block _ hZN)
 obtain ⟨⟨N_0, N_1, N_2, N_3, N_4, N_5, N_6, N_7, N_8, N_9, N_10, N_11, N_12, N_13⟩, fz⟩ := id VN
 have fz0 := fz 0
 obtain ⟨⟨Y_0, Y_1, Y_2, Y_3, Y_4, Y_5, Y_6, Y_7, Y_8, Y_9, Y_10, Y_11, Y_12, Y_13⟩, fy⟩ := id VN_n
 clear fz fy
 go_wp2_with fail
 clear N_0 Y_0 N_1 Y_1 N_2 Y_2 N_3 Y_3 N_4 Y_4 N_5 Y_5 N_6 Y_6 N_7 Y_7 N_8 Y_8 N_9 Y_9 N_10 Y_10 N_11 Y_11 N_12 Y_12 N_13 Y_13 fz0
 clear K_n VN h U VZ
 generalize w3.setCell ⟨RN, 0, none⟩ (.bool true) = w4 at *
 have VN := VN_n
 have h := h_n
 have U := U_n
 have VZ := VZ_n
 clear VN_n h_n U_n VZ_n
 have ht_ := hT.out _ U
 refine Calls.mono (rnum_at h hO (by first | exact hln | (simp only [numR_len, count_len, pick_len]; exact hln)) ht_) ?_
 rintro e w5 ⟨p1, a1, n1, c1, b1, m1, d1, rfl, x1, h_n, u_n⟩
 have K_n := h.keepQ u_n.2
 replace VN := VN.upd u_n.2 hNR
 replace VZ := VZ.upd u_n.2 hZR
 replace U := U.trans u_n
 clear h
 have h := h_n
 clear h_n u_n K_n
 clear ht_
 have K_n := VN.q8 (limb_bool _) (limb_slice _ _ _) (limb_slice _ _ _) (.bool p1) (.slice a1 n1 c1) (.slice b1 m1 d1)
 have VN_n := VN.p8 (.bool p1) (.slice a1 n1 c1) (.slice b1 m1 d1)
 have h_n := h.low (low14_8 (w := w5) (B := R + 1) (RT := RN) hRN (.bool p1) (.slice a1 n1 c1) (.slice b1 m1 d1))
 have U_n := U.n8 (RT := RN) hwN (.bool p1) (.slice a1 n1 c1) (.slice b1 m1 d1)
 have VZ_n := VZ.blk ((low14_8 (w := w5) (B := RN) (RT := RN) (Nat.le_refl _) (.bool p1) (.slice a1 n1 c1) (.slice b1 m1 d1)).block _ hZN)
 have x1_n := ExT.keepL x1 K_n
 obtain ⟨⟨N_0, N_1, N_2, N_3, N_4, N_5, N_6, N_7, N_8, N_9, N_10, N_11, N_12, N_13⟩, fz⟩ := id VN
 have fz8 := fz 8
 have fz9 := fz 9
 have fz10 := fz 10
 obtain ⟨⟨Y_0, Y_1, Y_2, Y_3, Y_4, Y_5, Y_6, Y_7, Y_8, Y_9, Y_10, Y_11, Y_12, Y_13⟩, fy⟩ := id VN_n
 clear fz fy
 go_wp2_with fail
 clear N_0 Y_0 N_1 Y_1 N_2 Y_2 N_3 Y_3 N_4 Y_4 N_5 Y_5 N_6 Y_6 N_7 Y_7 N_8 Y_8 N_9 Y_9 N_10 Y_10 N_11 Y_11 N_12 Y_12 N_13 Y_13 fz8 fz9 fz10
 clear K_n VN h U x1 VZ
 generalize ((w5.setCell ⟨RN, 8, none⟩ (.bool p1)).setCell ⟨RN, 9, none⟩ (.slice a1 n1 c1)).setCell ⟨RN, 10, none⟩ (.slice b1 m1 d1) = w6 at *
 have VN := VN_n
 have h := h_n
 have U := U_n
 have x1 := x1_n
 have VZ := VZ_n
 clear VN_n h_n U_n x1_n VZ_n
 have ht_ := hT.out _ U
 refine Calls.mono (rnum_at h (RdOK.numR hO) (by first | exact hln | (simp only [numR_len, count_len, pick_len]; exact hln)) ht_) ?_
 rintro e w7 ⟨p2, a2, n2, c2, b2, m2, d2, rfl, x2, h_n, u_n⟩
 have K_n := h.keepQ u_n.2
 replace VN := VN.upd u_n.2 hNR
 replace VZ := VZ.upd u_n.2 hZR
 replace x1 := ExT.keepL x1 K_n
 replace U := U.trans u_n
 clear h
 have h := h_n
 clear h_n u_n K_n
 clear ht_
 have K_n := VN.q11 (limb_bool _) (limb_slice _ _ _) (limb_slice _ _ _) (.bool p2) (.slice a2 n2 c2) (.slice b2 m2 d2)
 have VN_n := VN.p11 (.bool p2) (.slice a2 n2 c2) (.slice b2 m2 d2)
 have h_n := h.low (low14_11 (w := w7) (B := R + 1) (RT := RN) hRN (.bool p2) (.slice a2 n2 c2) (.slice b2 m2 d2))
 have U_n := U.n11 (RT := RN) hwN (.bool p2) (.slice a2 n2 c2) (.slice b2 m2 d2)
 have VZ_n := VZ.blk ((low14_11 (w := w7) (B := RN) (RT := RN) (Nat.le_refl _) (.bool p2) (.slice a2 n2 c2) (.slice b2 m2 d2)).block _ hZN)
 have x1_n := ExT.keepL x1 K_n
 have x2_n := ExT.keepL x2 K_n
 obtain ⟨⟨N_0, N_1, N_2, N_3, N_4, N_5, N_6, N_7, N_8, N_9, N_10, N_11, N_12, N_13⟩, fz⟩ := id VN
 have fz11 := fz 11
 have fz12 := fz 12
 have fz13 := fz 13
 obtain ⟨⟨Y_0, Y_1, Y_2, Y_3, Y_4, Y_5, Y_6, Y_7, Y_8, Y_9, Y_10, Y_11, Y_12, Y_13⟩, fy⟩ := id VN_n
 clear fz fy
 go_wp2_with fail
 clear N_0 Y_0 N_1 Y_1 N_2 Y_2 N_3 Y_3 N_4 Y_4 N_5 Y_5 N_6 Y_6 N_7 Y_7 N_8 Y_8 N_9 Y_9 N_10 Y_10 N_11 Y_11 N_12 Y_12 N_13 Y_13 fz11 fz12 fz13
 clear K_n VN h U x1 x2 VZ
 generalize ((w7.setCell ⟨RN, 11, none⟩ (.bool p2)).setCell ⟨RN, 12, none⟩ (.slice a2 n2 c2)).setCell ⟨RN, 13, none⟩ (.slice b2 m2 d2) = w8 at *
 have VN := VN_n
 have h := h_n
 have U := U_n
 have x1 := x1_n
 have x2 := x2_n
 have VZ := VZ_n
 clear VN_n h_n U_n x1_n x2_n VZ_n
 refine Calls.mono (Next_at h) ?_
 rintro e w9 ⟨rfl, h_n, u_n⟩
 have K_n := h.keepQ u_n.2
 replace VN := VN.upd u_n.2 hNR
 replace VZ := VZ.upd u_n.2 hZR
 replace x1 := ExT.keepL x1 K_n
 replace x2 := ExT.keepL x2 K_n
 replace U := U.trans u_n
 clear h
 have h := h_n
 clear h_n u_n K_n
 obtain ⟨⟨N_0, N_1, N_2, N_3, N_4, N_5, N_6, N_7, N_8, N_9, N_10, N_11, N_12, N_13⟩, fz⟩ := id VN
 clear fz
 obtain ⟨⟨Z_0, Z_1, Z_2, Z_3, Z_4, Z_5, Z_6, Z_7, Z_8, Z_9, Z_10, Z_11, Z_12, Z_13⟩, fz⟩ := id VZ
 have fz0 := fz 0
 have fz1 := fz 1
 have fz2 := fz 2
 have fz3 := fz 3
 have fz4 := fz 4
 have fz5 := fz 5
 have fz6 := fz 6
 have fz7 := fz 7
 have fz8 := fz 8
 have fz9 := fz 9
 have fz10 := fz 10
 have fz11 := fz 11
 have fz12 := fz 12
 have fz13 := fz 13
 have K_n := VZ.1.putK (limb_bool _) (limb_int _) (limb_bool _) (limb_slice _ _ _) (limb_slice _ _ _) (limb_int _) (limb_int _) (limb_bool _) (limb_bool _) (limb_slice _ _ _) (limb_slice _ _ _) (limb_bool _) (limb_slice _ _ _) (limb_slice _ _ _) (.bool true) (.int .i64 0) (.bool false) (.slice none 0 0) (.slice none 0 0) (.int .i64 0) (.int .i64 0) (.bool false) (.bool p1) (.slice a1 n1 c1) (.slice b1 m1 d1) (.bool p2) (.slice a2 n2 c2) (.slice b2 m2 d2)
 have x1_n := ExT.keepL x1 K_n
 have x2_n := ExT.keepL x2 K_n
 have h_n := h.low (put14_below (w := w9) (R := RZ) (Below.refl (R + 1) _) hRZ1 (.bool true) (.int .i64 0) (.bool false) (.slice none 0 0) (.slice none 0 0) (.int .i64 0) (.int .i64 0) (.bool false) (.bool p1) (.slice a1 n1 c1) (.slice b1 m1 d1) (.bool p2) (.slice a2 n2 c2) (.slice b2 m2 d2))
 have U_n := U.put14 (RT := RZ) hwZ (.bool true) (.int .i64 0) (.bool false) (.slice none 0 0) (.slice none 0 0) (.int .i64 0) (.int .i64 0) (.bool false) (.bool p1) (.slice a1 n1 c1) (.slice b1 m1 d1) (.bool p2) (.slice a2 n2 c2) (.slice b2 m2 d2)
 have VZ_n := VZ.1.put (.bool true) (.int .i64 0) (.bool false) (.slice none 0 0) (.slice none 0 0) (.int .i64 0) (.int .i64 0) (.bool false) (.bool p1) (.slice a1 n1 c1) (.slice b1 m1 d1) (.bool p2) (.slice a2 n2 c2) (.slice b2 m2 d2)
 obtain ⟨Y_0, Y_1, Y_2, Y_3, Y_4, Y_5, Y_6, Y_7, Y_8, Y_9, Y_10, Y_11, Y_12, Y_13⟩ := id VZ_n
 unfold put14 at h_n U_n
 clear fz K_n VZ_n VN VZ h U x1 x2
 go_wp2
 (try simp only [Exit.inBlock, Exit.then])
 refine bodyPost_ret (v := .agg #[.bool true, .int .i64 0, .bool false, .slice none 0 0, .slice none 0 0, .int .i64 0, .int .i64 0, .bool false, .bool p1, .slice a1 n1 c1, .slice b1 m1 d1, .bool p2, .slice a2 n2 c2, .slice b2 m2 d2]) (by simp [results, Tryz.results79, go_sem, Y_0, Y_1, Y_2, Y_3, Y_4, Y_5, Y_6, Y_7, Y_8, Y_9, Y_10, Y_11, Y_12, Y_13]) rfl ?_
 refine ⟨fun j => ([.bool true, .int .i64 0, .bool false, .slice none 0 0, .slice none 0 0, .int .i64 0, .int .i64 0, .bool false, .bool p1, .slice a1 n1 c1, .slice b1 m1 d1, .bool p2, .slice a2 n2 c2, .slice b2 m2 d2] : List Value).getD j undef, rfl, ?_, h_n, U_n⟩
 exact ⟨rfl, rfl, ⟨rfl, rfl, rfl⟩, rfl, rfl, rfl, x1_n, x2_n⟩

set_option maxRecDepth 100000 in
set_option maxHeartbeats 16000000 in
theorem rnode_split {w : World} {R : Nat} {r : Rd} (h : RM w R r) (ho : RdOK r) (hlen : r.len ≤ 4000) (ht : Tab w) (hE : Erg w) (hk : ¬ r.kind = 0) : Calls Tryz.prog 79 #[.pointer (some ⟨R, 0, none⟩)] w (NodeOut w R r.nodeT r.nodeR) := by
 rw [Rd.nodeR_split hk, Rd.nodeT_split hk]
 unfold Rd.splitR Rd.splitT
 have q0 := RdOK.kindR ho
 have ln0 : r.kindR.len ≤ 4000 := by unfold Rd.kindR; rw [pick_len]; exact hlen
 have o0 := RdOK.sp0 q0
 have o1 := RdOK.sp1 q0
 have o2 := RdOK.sp2 q0
 have o3 := RdOK.sp3 q0
 have o4 := RdOK.sp4 q0
 have n0 : r.kindR.sp0.len ≤ 4000 := by unfold Rd.sp0; rw [count_len]; exact ln0
 have n1 : r.kindR.sp1.len ≤ 4000 := by unfold Rd.sp1; rw [numR_len]; exact n0
 have n2 : r.kindR.sp2.len ≤ 4000 := by unfold Rd.sp2; rw [count_len]; exact n1
 have n3 : r.kindR.sp3.len ≤ 4000 := by unfold Rd.sp3; rw [count_len]; exact n2
 have n4 : r.kindR.sp4.len ≤ 4000 := by unfold Rd.sp4; rw [pick_len]; exact n3
 have E0 : Hid ((r.kindR.count 0 64).2 = r.kindR.sp0) := show _ = _ by unfold Rd.sp0; rfl
 have E1 : Hid (r.kindR.sp0.numR = r.kindR.sp1) := show _ = _ by unfold Rd.sp1; rfl
 have E2 : Hid ((r.kindR.sp1.count 0 255).2 = r.kindR.sp2) := show _ = _ by unfold Rd.sp2; rfl
 have E3 : Hid ((r.kindR.sp2.count 0 255).2 = r.kindR.sp3) := show _ = _ by unfold Rd.sp3; rfl
 have E4 : Hid ((r.kindR.sp3.pick sMissL sMissR).2 = r.kindR.sp4) := show _ = _ by unfold Rd.sp4; rfl
 generalize r.kindR.sp4 = s4 at *
 generalize r.kindR.sp3 = s3 at *
 generalize r.kindR.sp2 = s2 at *
 generalize r.kindR.sp1 = s1 at *
 generalize r.kindR.sp0 = s0 at *
 obtain ⟨F, h_F⟩ : ∃ q : Nat, (r.kindR.count 0 64).1 = q := ⟨_, rfl⟩
 have HF : Hid ((r.kindR.count 0 64).1 = F) := h_F
 rw [h_F]
 clear h_F
 obtain ⟨LL, h_LL⟩ : ∃ q : Nat, (s1.count 0 255).1 = q := ⟨_, rfl⟩
 have HLL : Hid ((s1.count 0 255).1 = LL) := h_LL
 rw [h_LL]
 clear h_LL
 obtain ⟨RR, h_RR⟩ : ∃ q : Nat, (s2.count 0 255).1 = q := ⟨_, rfl⟩
 have HRR : Hid ((s2.count 0 255).1 = RR) := h_RR
 rw [h_RR]
 clear h_RR
 obtain ⟨G, h_G⟩ : ∃ q : Nat, (s3.pick sMissL sMissR).1 = q := ⟨_, rfl⟩
 have HG : Hid ((s3.pick sMissL sMissR).1 = G) := h_G
 rw [h_G]
 clear h_G
 have hlt := h.lt
 have hT : Hid (∀ w1, UpW w R w1 → Tab w1) := fun w1 u => ht.keepL (h.keepQ u.2)
 have hE2 : Hid (∀ w1, UpW w R w1 → Erg w1) := fun w1 u => hE.upd h u.2
 obtain ⟨W0, hW0, hS0, hL0, VZ⟩ := VS14.lay w 46 (.bool false) (.int .i64 0) (.bool false) (.slice none 0 0) (.slice none 0 0) (.int .i64 0) (.int .i64 0) (.bool false) (.bool false) (.slice none 0 0) (.slice none 0 0) (.bool false) (.slice none 0 0) (.slice none 0 0)
 obtain ⟨W1, hW1, hS1, hL1, VN⟩ := VS14.lay W0 46 (.bool false) (.int .i64 0) (.bool false) (.slice none 0 0) (.slice none 0 0) (.int .i64 0) (.int .i64 0) (.bool false) (.bool false) (.slice none 0 0) (.slice none 0 0) (.bool false) (.slice none 0 0) (.slice none 0 0)
 replace VZ := VZ.blk (hL1.block _ (by omega))
 rw [hS0] at VN
 have U : UpW w R W1 := ((UpW.refl hlt).below hL0).below hL1
 replace h := (h.below hL0).below hL1
 have hz1 : W1.heap.size = w.heap.size + 1 + 1 := by omega
 obtain ⟨W2, hQ, hSq, hLq, sa, sb⟩ := two_lay W1 9 { data := #[108, 101, 97, 102] } { data := #[115, 112, 108, 105, 116] }
 have VN2 := VN.blk (hLq.block _ (by have := VN.lt; omega))
 have VZ2 := VZ.blk (hLq.block _ (by have := VZ.lt; omega))
 have h2 := h.below hLq
 have U2 := U.below hLq
 have hO := ho.kindR
 have hln : r.kindR.len ≤ 4000 := by unfold Rd.kindR; rw [pick_len]; exact hlen
 have CK := Pick_at sLeaf sSplit W1.heap.size 2 h2 ho (by have := h.lt; omega) sa sb
 unfold CntOut at CK
 have CK2 : Hid (Calls Tryz.prog 33 #[.pointer (some ⟨R, 0, none⟩), .slice (some ⟨W1.heap.size, 0, none⟩) 2 2] W2 fun e w' => e = .returned (.int .i64 (r.kind : Int)) ∧ RM w' R r.kindR ∧ UpW W2 R w') := CK
 clear CK h U VN VZ sa sb
 obtain ⟨⟨N_0, N_1, N_2, N_3, N_4, N_5, N_6, N_7, N_8, N_9, N_10, N_11, N_12, N_13⟩, fN⟩ := id VN2
 rw [hQ, hW1, hW0] at N_0 N_1 N_2 N_3 N_4 N_5 N_6 N_7 N_8 N_9 N_10 N_11 N_12 N_13
 go_enter Tryz.func79, Tryz.ntmps79
 go_wp2_with fail
 clear N_0 N_1 N_2 N_3 N_4 N_5 N_6 N_7 N_8 N_9 N_10 N_11 N_12 N_13 fN
 rw [← hW0]
 rw [← hW1]
 rw [← hQ]
 have hRw : R + 1 ≤ w.heap.size := by omega
 have e2 : W1.heap.size = w.heap.size + 1 + 1 := by omega
 rw [e2] at CK2
 obtain ⟨RQ, hRQ⟩ : ∃ RQ, w.heap.size + 1 + 1 = RQ := ⟨_, rfl⟩
 rw [hRQ] at CK2
 rw [hRQ]
 obtain ⟨RN, hRN0⟩ : ∃ RN, w.heap.size + 1 = RN := ⟨_, rfl⟩
 rw [hRN0] at VN2
 rw [hRN0]
 obtain ⟨RZ, hRZ⟩ : ∃ RZ, w.heap.size = RZ := ⟨_, rfl⟩
 rw [hRZ] at VZ2
 rw [hRZ]
 have hNR : RN ≠ R := by omega
 have hZR : RZ ≠ R := by omega
 have hRN : R + 1 ≤ RN := by omega
 have hRZ1 : R + 1 ≤ RZ := by omega
 have hwN : w.heap.size ≤ RN := by omega
 have hwZ : w.heap.size ≤ RZ := by omega
 have hZN : RZ < RN := by omega
 clear hQ hSq hLq hW0 hW1 hS0 hS1 hL0 hL1 e2 hRQ hRN0 hRZ hz1 hRw
 refine Calls.mono CK2.out ?_
 rintro e w3 ⟨rfl, h, u3⟩
 have VN := VN2.upd u3.2 hNR
 have VZ := VZ2.upd u3.2 hZR
 have U := U2.trans u3
 clear VN2 VZ2 U2 u3 CK2 h2
 have k1 : ((r.kind : Int) == 0) = false := by simpa using hk
 have k2 : decide ((r.kind : Int) = 0) = false := by simpa using hk
 clear hk ho
 generalize (r.kind : Int) = KI at *
 generalize r.kindR = r1 at *
 have K_n := VN.q0 (limb_bool _) (.bool false)
 have VN_n := VN.p0 (.bool false)
 have h_n := h.low (low14_0 (w := w3) (B := R + 1) (RT := RN) hRN (.bool false))
 have U_n := U.n0 (RT := RN) hwN (.bool false)
 have VZ_n := VZ.blk ((low14_0 (w := w3) (B := RN) (RT := RN) (Nat.le_refl _) (.bool false)).block _ hZN)
 obtain ⟨⟨N_0, N_1, N_2, N_3, N_4, N_5, N_6, N_7, N_8, N_9, N_10, N_11, N_12, N_13⟩, fz⟩ := id VN
 have fz0 := fz 0
 obtain ⟨⟨Y_0, Y_1, Y_2, Y_3, Y_4, Y_5, Y_6, Y_7, Y_8, Y_9, Y_10, Y_11, Y_12, Y_13⟩, fy⟩ := id VN_n
 clear fz fy
 go_wp2_with fail
 clear N_0 Y_0 N_1 Y_1 N_2 Y_2 N_3 Y_3 N_4 Y_4 N_5 Y_5 N_6 Y_6 N_7 Y_7 N_8 Y_8 N_9 Y_9 N_10 Y_10 N_11 Y_11 N_12 Y_12 N_13 Y_13 fz0
 clear K_n VN h U VZ
 generalize w3.setCell ⟨RN, 0, none⟩ (.bool false) = w4 at *
 have VN := VN_n
 have h := h_n
 have U := U_n
 have VZ := VZ_n
 clear VN_n h_n U_n VZ_n
 have hE_ := hE2.out _ U
 refine Calls.mono (Count_at 0 64 h hO (by omega) hE_ (by omega) (by omega)) ?_
 rintro e w5 ⟨rfl, h_n, u_n⟩
 have K_n := h.keepQ u_n.2
 replace VN := VN.upd u_n.2 hNR
 replace VZ := VZ.upd u_n.2 hZR
 replace U := U.trans u_n
 clear h
 have h := h_n
 clear h_n u_n K_n
 clear hE_
 rw [E0.out] at h
 rw [HF.out]
 have K_n := VN.q1 (limb_int _) (.int .i64 (F : Int))
 have VN_n := VN.p1 (.int .i64 (F : Int))
 have h_n := h.low (low14_1 (w := w5) (B := R + 1) (RT := RN) hRN (.int .i64 (F : Int)))
 have U_n := U.n1 (RT := RN) hwN (.int .i64 (F : Int))
 have VZ_n := VZ.blk ((low14_1 (w := w5) (B := RN) (RT := RN) (Nat.le_refl _) (.int .i64 (F : Int))).block _ hZN)
 obtain ⟨⟨N_0, N_1, N_2, N_3, N_4, N_5, N_6, N_7, N_8, N_9, N_10, N_11, N_12, N_13⟩, fz⟩ := id VN
 have fz1 := fz 1
 obtain ⟨⟨Y_0, Y_1, Y_2, Y_3, Y_4, Y_5, Y_6, Y_7, Y_8, Y_9, Y_10, Y_11, Y_12, Y_13⟩, fy⟩ := id VN_n
 clear fz fy
 go_wp2_with fail
 clear N_0 Y_0 N_1 Y_1 N_2 Y_2 N_3 Y_3 N_4 Y_4 N_5 Y_5 N_6 Y_6 N_7 Y_7 N_8 Y_8 N_9 Y_9 N_10 Y_10 N_11 Y_11 N_12 Y_12 N_13 Y_13 fz1
 clear K_n VN h U VZ
 generalize w5.setCell ⟨RN, 1, none⟩ (.int .i64 (F : Int)) = w6 at *
 have VN := VN_n
 have h := h_n
 have U := U_n
 have VZ := VZ_n
 clear VN_n h_n U_n VZ_n
 have ht_ := hT.out _ U
 refine Calls.mono (rnum_at h o0 n0 ht_) ?_
 rintro e w7 ⟨p1, a1, n1, c1, b1, m1, d1, rfl, x1, h_n, u_n⟩
 have K_n := h.keepQ u_n.2
 replace VN := VN.upd u_n.2 hNR
 replace VZ := VZ.upd u_n.2 hZR
 replace U := U.trans u_n
 clear h
 have h := h_n
 clear h_n u_n K_n
 clear ht_
 rw [E1.out] at h
 have K_n := VN.q2 (limb_bool _) (limb_slice _ _ _) (limb_slice _ _ _) (.bool p1) (.slice a1 n1 c1) (.slice b1 m1 d1)
 have VN_n := VN.p2 (.bool p1) (.slice a1 n1 c1) (.slice b1 m1 d1)
 have h_n := h.low (low14_2 (w := w7) (B := R + 1) (RT := RN) hRN (.bool p1) (.slice a1 n1 c1) (.slice b1 m1 d1))
 have U_n := U.n2 (RT := RN) hwN (.bool p1) (.slice a1 n1 c1) (.slice b1 m1 d1)
 have VZ_n := VZ.blk ((low14_2 (w := w7) (B := RN) (RT := RN) (Nat.le_refl _) (.bool p1) (.slice a1 n1 c1) (.slice b1 m1 d1)).block _ hZN)
 have x1_n := ExT.keepL x1 K_n
 obtain ⟨⟨N_0, N_1, N_2, N_3, N_4, N_5, N_6, N_7, N_8, N_9, N_10, N_11, N_12, N_13⟩, fz⟩ := id VN
 have fz2 := fz 2
 have fz3 := fz 3
 have fz4 := fz 4
 obtain ⟨⟨Y_0, Y_1, Y_2, Y_3, Y_4, Y_5, Y_6, Y_7, Y_8, Y_9, Y_10, Y_11, Y_12, Y_13⟩, fy⟩ := id VN_n
 clear fz fy
 go_wp2_with fail
 clear N_0 Y_0 N_1 Y_1 N_2 Y_2 N_3 Y_3 N_4 Y_4 N_5 Y_5 N_6 Y_6 N_7 Y_7 N_8 Y_8 N_9 Y_9 N_10 Y_10 N_11 Y_11 N_12 Y_12 N_13 Y_13 fz2 fz3 fz4
 clear K_n VN h U x1 VZ
 generalize ((w7.setCell ⟨RN, 2, none⟩ (.bool p1)).setCell ⟨RN, 3, none⟩ (.slice a1 n1 c1)).setCell ⟨RN, 4, none⟩ (.slice b1 m1 d1) = w8 at *
 have VN := VN_n
 have h := h_n
 have U := U_n
 have x1 := x1_n
 have VZ := VZ_n
 clear VN_n h_n U_n x1_n VZ_n
 have hE_ := hE2.out _ U
 refine Calls.mono (Count_at 0 255 h o1 (by omega) hE_ (by omega) (by omega)) ?_
 rintro e w9 ⟨rfl, h_n, u_n⟩
 have K_n := h.keepQ u_n.2
 replace VN := VN.upd u_n.2 hNR
 replace VZ := VZ.upd u_n.2 hZR
 replace x1 := ExT.keepL x1 K_n
 replace U := U.trans u_n
 clear h
 have h := h_n
 clear h_n u_n K_n
 clear hE_
 rw [E2.out] at h
 rw [HLL.out]
 have K_n := VN.q5 (limb_int _) (.int .i64 (LL : Int))
 have VN_n := VN.p5 (.int .i64 (LL : Int))
 have h_n := h.low (low14_5 (w := w9) (B := R + 1) (RT := RN) hRN (.int .i64 (LL : Int)))
 have U_n := U.n5 (RT := RN) hwN (.int .i64 (LL : Int))
 have VZ_n := VZ.blk ((low14_5 (w := w9) (B := RN) (RT := RN) (Nat.le_refl _) (.int .i64 (LL : Int))).block _ hZN)
 have x1_n := ExT.keepL x1 K_n
 obtain ⟨⟨N_0, N_1, N_2, N_3, N_4, N_5, N_6, N_7, N_8, N_9, N_10, N_11, N_12, N_13⟩, fz⟩ := id VN
 have fz5 := fz 5
 obtain ⟨⟨Y_0, Y_1, Y_2, Y_3, Y_4, Y_5, Y_6, Y_7, Y_8, Y_9, Y_10, Y_11, Y_12, Y_13⟩, fy⟩ := id VN_n
 clear fz fy
 go_wp2_with fail
 clear N_0 Y_0 N_1 Y_1 N_2 Y_2 N_3 Y_3 N_4 Y_4 N_5 Y_5 N_6 Y_6 N_7 Y_7 N_8 Y_8 N_9 Y_9 N_10 Y_10 N_11 Y_11 N_12 Y_12 N_13 Y_13 fz5
 clear K_n VN h U x1 VZ
 generalize w9.setCell ⟨RN, 5, none⟩ (.int .i64 (LL : Int)) = w10 at *
 have VN := VN_n
 have h := h_n
 have U := U_n
 have x1 := x1_n
 have VZ := VZ_n
 clear VN_n h_n U_n x1_n VZ_n
 have hE_ := hE2.out _ U
 refine Calls.mono (Count_at 0 255 h o2 (by omega) hE_ (by omega) (by omega)) ?_
 rintro e w11 ⟨rfl, h_n, u_n⟩
 have K_n := h.keepQ u_n.2
 replace VN := VN.upd u_n.2 hNR
 replace VZ := VZ.upd u_n.2 hZR
 replace x1 := ExT.keepL x1 K_n
 replace U := U.trans u_n
 clear h
 have h := h_n
 clear h_n u_n K_n
 clear hE_
 rw [E3.out] at h
 rw [HRR.out]
 have K_n := VN.q6 (limb_int _) (.int .i64 (RR : Int))
 have VN_n := VN.p6 (.int .i64 (RR : Int))
 have h_n := h.low (low14_6 (w := w11) (B := R + 1) (RT := RN) hRN (.int .i64 (RR : Int)))
 have U_n := U.n6 (RT := RN) hwN (.int .i64 (RR : Int))
 have VZ_n := VZ.blk ((low14_6 (w := w11) (B := RN) (RT := RN) (Nat.le_refl _) (.int .i64 (RR : Int))).block _ hZN)
 have x1_n := ExT.keepL x1 K_n
 obtain ⟨⟨N_0, N_1, N_2, N_3, N_4, N_5, N_6, N_7, N_8, N_9, N_10, N_11, N_12, N_13⟩, fz⟩ := id VN
 have fz6 := fz 6
 clear fz
 have hsz : (w11.setCell ⟨RN, 6, none⟩ (.int .i64 (RR : Int))).heap.size = w11.heap.size := by simp
 obtain ⟨W12, hQ, hSq, hLq, sa, sb⟩ := two_lay (w11.setCell ⟨RN, 6, none⟩ (.int .i64 (RR : Int))) 9 { data := #[109, 105, 115, 115, 45, 108, 101, 102, 116] } { data := #[109, 105, 115, 115, 45, 114, 105, 103, 104, 116] }
 rw [hsz] at sa sb
 go_wp2_with fail
 rw [← hQ]
 clear hQ fz6 hsz K_n N_0 N_1 N_2 N_3 N_4 N_5 N_6 N_7 N_8 N_9 N_10 N_11 N_12 N_13
 obtain ⟨RW, hRW⟩ : ∃ RW, w11.heap.size = RW := ⟨_, rfl⟩
 rw [hRW] at sa sb
 rw [hRW]
 have hgR : RW ≠ R := by have := h.lt; omega
 clear VN h U VZ x1
 have VN := VN_n.blk (hLq.block _ (by have := VN_n.lt; omega))
 have VZ := VZ_n.blk (hLq.block _ (by have := VZ_n.lt; omega))
 have h := h_n.below hLq
 have U := U_n.below hLq
 have x1 := x1_n.keepL (KeepQ.below hLq)
 clear VN_n VZ_n h_n U_n hLq hSq hRW x1_n
 refine Calls.mono (Pick_at sMissL sMissR RW 2 h o3 hgR sa sb) ?_
 rintro e w13 ⟨rfl, h_n, u_n⟩
 have K_n := h.keepQ u_n.2
 replace VN := VN.upd u_n.2 hNR
 replace VZ := VZ.upd u_n.2 hZR
 replace x1 := ExT.keepL x1 K_n
 replace U := U.trans u_n
 clear h
 have h := h_n
 clear h_n u_n K_n
 rw [E4.out] at h
 rw [HG.out]
 clear sa sb
 have hGb : ((G : Int) == 0) = decide (G = 0) := by by_cases q : G = 0 <;> simp [q]
 obtain ⟨ms, hms⟩ : ∃ ms, decide (G = 0) = ms := ⟨_, rfl⟩
 have hmi : ((G : Int) == 0) = ms := by rw [← hms]; exact hGb
 have hmd : decide ((G : Int) = 0) = ms := by rw [← hms]; by_cases q : G = 0 <;> simp [q]
 have HMS : Hid (decide (G = 0) = ms) := hms
 clear hGb hms
 have K_n := VN.q7 (limb_bool _) (.bool ms)
 have VN_n := VN.p7 (.bool ms)
 have h_n := h.low (low14_7 (w := w13) (B := R + 1) (RT := RN) hRN (.bool ms))
 have U_n := U.n7 (RT := RN) hwN (.bool ms)
 have VZ_n := VZ.blk ((low14_7 (w := w13) (B := RN) (RT := RN) (Nat.le_refl _) (.bool ms)).block _ hZN)
 have x1_n := ExT.keepL x1 K_n
 obtain ⟨⟨N_0, N_1, N_2, N_3, N_4, N_5, N_6, N_7, N_8, N_9, N_10, N_11, N_12, N_13⟩, fz⟩ := id VN
 have fz7 := fz 7
 obtain ⟨⟨Y_0, Y_1, Y_2, Y_3, Y_4, Y_5, Y_6, Y_7, Y_8, Y_9, Y_10, Y_11, Y_12, Y_13⟩, fy⟩ := id VN_n
 clear fz fy
 go_wp2_with fail
 clear N_0 Y_0 N_1 Y_1 N_2 Y_2 N_3 Y_3 N_4 Y_4 N_5 Y_5 N_6 Y_6 N_7 Y_7 N_8 Y_8 N_9 Y_9 N_10 Y_10 N_11 Y_11 N_12 Y_12 N_13 Y_13 fz7
 clear K_n VN h U x1 VZ
 generalize w13.setCell ⟨RN, 7, none⟩ (.bool ms) = w14 at *
 have VN := VN_n
 have h := h_n
 have U := U_n
 have x1 := x1_n
 have VZ := VZ_n
 clear VN_n h_n U_n x1_n VZ_n
 clear hmi hmd
 have ht_ := hT.out _ U
 refine Calls.mono (rnum_at h o4 n4 ht_) ?_
 rintro e w15 ⟨p2, a2, n2, c2, b2, m2, d2, rfl, x2, h_n, u_n⟩
 have K_n := h.keepQ u_n.2
 replace VN := VN.upd u_n.2 hNR
 replace VZ := VZ.upd u_n.2 hZR
 replace x1 := ExT.keepL x1 K_n
 replace U := U.trans u_n
 clear h
 have h := h_n
 clear h_n u_n K_n
 clear ht_
 have K_n := VN.q11 (limb_bool _) (limb_slice _ _ _) (limb_slice _ _ _) (.bool p2) (.slice a2 n2 c2) (.slice b2 m2 d2)
 have VN_n := VN.p11 (.bool p2) (.slice a2 n2 c2) (.slice b2 m2 d2)
 have h_n := h.low (low14_11 (w := w15) (B := R + 1) (RT := RN) hRN (.bool p2) (.slice a2 n2 c2) (.slice b2 m2 d2))
 have U_n := U.n11 (RT := RN) hwN (.bool p2) (.slice a2 n2 c2) (.slice b2 m2 d2)
 have VZ_n := VZ.blk ((low14_11 (w := w15) (B := RN) (RT := RN) (Nat.le_refl _) (.bool p2) (.slice a2 n2 c2) (.slice b2 m2 d2)).block _ hZN)
 have x1_n := ExT.keepL x1 K_n
 have x2_n := ExT.keepL x2 K_n
 obtain ⟨⟨N_0, N_1, N_2, N_3, N_4, N_5, N_6, N_7, N_8, N_9, N_10, N_11, N_12, N_13⟩, fz⟩ := id VN
 have fz11 := fz 11
 have fz12 := fz 12
 have fz13 := fz 13
 obtain ⟨⟨Y_0, Y_1, Y_2, Y_3, Y_4, Y_5, Y_6, Y_7, Y_8, Y_9, Y_10, Y_11, Y_12, Y_13⟩, fy⟩ := id VN_n
 clear fz fy
 go_wp2_with fail
 clear N_0 Y_0 N_1 Y_1 N_2 Y_2 N_3 Y_3 N_4 Y_4 N_5 Y_5 N_6 Y_6 N_7 Y_7 N_8 Y_8 N_9 Y_9 N_10 Y_10 N_11 Y_11 N_12 Y_12 N_13 Y_13 fz11 fz12 fz13
 clear K_n VN h U x1 x2 VZ
 generalize ((w15.setCell ⟨RN, 11, none⟩ (.bool p2)).setCell ⟨RN, 12, none⟩ (.slice a2 n2 c2)).setCell ⟨RN, 13, none⟩ (.slice b2 m2 d2) = w16 at *
 have VN := VN_n
 have h := h_n
 have U := U_n
 have x1 := x1_n
 have x2 := x2_n
 have VZ := VZ_n
 clear VN_n h_n U_n x1_n x2_n VZ_n
 refine Calls.mono (Next_at h) ?_
 rintro e w17 ⟨rfl, h_n, u_n⟩
 have K_n := h.keepQ u_n.2
 replace VN := VN.upd u_n.2 hNR
 replace VZ := VZ.upd u_n.2 hZR
 replace x1 := ExT.keepL x1 K_n
 replace x2 := ExT.keepL x2 K_n
 replace U := U.trans u_n
 clear h
 have h := h_n
 clear h_n u_n K_n
 obtain ⟨⟨N_0, N_1, N_2, N_3, N_4, N_5, N_6, N_7, N_8, N_9, N_10, N_11, N_12, N_13⟩, fz⟩ := id VN
 clear fz
 obtain ⟨⟨Z_0, Z_1, Z_2, Z_3, Z_4, Z_5, Z_6, Z_7, Z_8, Z_9, Z_10, Z_11, Z_12, Z_13⟩, fz⟩ := id VZ
 have fz0 := fz 0
 have fz1 := fz 1
 have fz2 := fz 2
 have fz3 := fz 3
 have fz4 := fz 4
 have fz5 := fz 5
 have fz6 := fz 6
 have fz7 := fz 7
 have fz8 := fz 8
 have fz9 := fz 9
 have fz10 := fz 10
 have fz11 := fz 11
 have fz12 := fz 12
 have fz13 := fz 13
 have K_n := VZ.1.putK (limb_bool _) (limb_int _) (limb_bool _) (limb_slice _ _ _) (limb_slice _ _ _) (limb_int _) (limb_int _) (limb_bool _) (limb_bool _) (limb_slice _ _ _) (limb_slice _ _ _) (limb_bool _) (limb_slice _ _ _) (limb_slice _ _ _) (.bool false) (.int .i64 (F : Int)) (.bool p1) (.slice a1 n1 c1) (.slice b1 m1 d1) (.int .i64 (LL : Int)) (.int .i64 (RR : Int)) (.bool ms) (.bool false) (.slice none 0 0) (.slice none 0 0) (.bool p2) (.slice a2 n2 c2) (.slice b2 m2 d2)
 have x1_n := ExT.keepL x1 K_n
 have x2_n := ExT.keepL x2 K_n
 have h_n := h.low (put14_below (w := w17) (R := RZ) (Below.refl (R + 1) _) hRZ1 (.bool false) (.int .i64 (F : Int)) (.bool p1) (.slice a1 n1 c1) (.slice b1 m1 d1) (.int .i64 (LL : Int)) (.int .i64 (RR : Int)) (.bool ms) (.bool false) (.slice none 0 0) (.slice none 0 0) (.bool p2) (.slice a2 n2 c2) (.slice b2 m2 d2))
 have U_n := U.put14 (RT := RZ) hwZ (.bool false) (.int .i64 (F : Int)) (.bool p1) (.slice a1 n1 c1) (.slice b1 m1 d1) (.int .i64 (LL : Int)) (.int .i64 (RR : Int)) (.bool ms) (.bool false) (.slice none 0 0) (.slice none 0 0) (.bool p2) (.slice a2 n2 c2) (.slice b2 m2 d2)
 have VZ_n := VZ.1.put (.bool false) (.int .i64 (F : Int)) (.bool p1) (.slice a1 n1 c1) (.slice b1 m1 d1) (.int .i64 (LL : Int)) (.int .i64 (RR : Int)) (.bool ms) (.bool false) (.slice none 0 0) (.slice none 0 0) (.bool p2) (.slice a2 n2 c2) (.slice b2 m2 d2)
 obtain ⟨Y_0, Y_1, Y_2, Y_3, Y_4, Y_5, Y_6, Y_7, Y_8, Y_9, Y_10, Y_11, Y_12, Y_13⟩ := id VZ_n
 unfold put14 at h_n U_n
 clear fz K_n VZ_n VN VZ h U x1 x2
 go_wp2
 (try simp only [Exit.inBlock, Exit.then])
 refine bodyPost_ret (v := .agg #[.bool false, .int .i64 (F : Int), .bool p1, .slice a1 n1 c1, .slice b1 m1 d1, .int .i64 (LL : Int), .int .i64 (RR : Int), .bool ms, .bool false, .slice none 0 0, .slice none 0 0, .bool p2, .slice a2 n2 c2, .slice b2 m2 d2]) (by simp [results, Tryz.results79, go_sem, Y_0, Y_1, Y_2, Y_3, Y_4, Y_5, Y_6, Y_7, Y_8, Y_9, Y_10, Y_11, Y_12, Y_13]) rfl ?_
 refine ⟨fun j => ([.bool false, .int .i64 (F : Int), .bool p1, .slice a1 n1 c1, .slice b1 m1 d1, .int .i64 (LL : Int), .int .i64 (RR : Int), .bool ms, .bool false, .slice none 0 0, .slice none 0 0, .bool p2, .slice a2 n2 c2, .slice b2 m2 d2] : List Value).getD j undef, rfl, ?_, h_n, U_n⟩
 exact ⟨rfl, rfl, x1_n, rfl, rfl, (by show Value.bool ms = Value.bool (decide (G = 0)); rw [HMS.out]), ⟨rfl, rfl, rfl⟩, x2_n⟩

theorem rnode_at {w : World} {R : Nat} {r : Rd} (h : RM w R r) (ho : RdOK r) (hlen : r.len ≤ 4000) (ht : Tab w) (hE : Erg w) : Calls Tryz.prog 79 #[.pointer (some ⟨R, 0, none⟩)] w (NodeOut w R r.nodeT r.nodeR) := by
 by_cases hk : r.kind = 0
 ·exact rnode_leaf h ho hlen ht hE hk
 ·exact rnode_split h ho hlen ht hE hk

theorem leafR_len (r : Rd) : r.leafR.len = r.len := by unfold Rd.leafR; rw [next_len, numR_len, numR_len]
theorem splitR_len (r : Rd) : r.splitR.len = r.len := by
  unfold Rd.splitR Rd.sp4 Rd.sp3 Rd.sp2 Rd.sp1 Rd.sp0
  rw [next_len, numR_len, pick_len, count_len, count_len, numR_len, count_len]
theorem kindR_len (r : Rd) : r.kindR.len = r.len := by unfold Rd.kindR; rw [pick_len]
theorem nodeR_len (r : Rd) : r.nodeR.len = r.len := by
  by_cases h : r.kind = 0
  · rw [Rd.nodeR_leaf h, leafR_len, kindR_len]
  · rw [Rd.nodeR_split h, splitR_len, kindR_len]
theorem nodesR_len (r : Rd) (n : Nat) : (r.nodesR n).len = r.len := by
  induction n with
  | zero => rfl
  | succ n ih => rw [Rd.nodesR_succ, nodeR_len, ih]
theorem cntR_len (r : Rd) (s : ByteArray) (lo hi : Nat) : (r.cntR s lo hi).len = r.len := by unfold Rd.cntR; rw [next_len, count_len, take_len]
theorem treeR_len (r : Rd) : r.treeR.len = r.len := by unfold Rd.treeR; rw [nodesR_len, cntR_len]
theorem treesR_len (r : Rd) (n : Nat) : (r.treesR n).len = r.len := by
  induction n with
  | zero => rfl
  | succ n ih => rw [Rd.treesR_succ, treeR_len, ih]
/-- A call that reads a tree. -/
def TreeOut (w : World) (R : Nat) (l : List TidN) (r : Rd) (e : Ending) (w' : World) : Prop := ∃ v, e = .returned v ∧ TTr w.heap.size w' v l ∧ RM w' R r ∧ UpW w R w'
/-- What lies from the call's own on was written. -/
theorem UpW.lowT {w0 w w' : World} {R : Nat} (h : UpW w0 R w) (hb : Below w0.heap.size w w') : UpW w0 R w' := by
  have h1 := h.1
  refine ⟨h.1, hb.os.trans h.2.os, hb.tape.trans h.2.tape, hb.output.trans h.2.output, Nat.le_trans h.2.size hb.size, fun k hk hn => (hb.block k hk).trans (h.2.block k hk hn), fun o ho => ?_, fun o => ?_⟩
  · exact (hb.cell (p := ⟨R, o, none⟩) h1).trans (h.2.cell o ho)
  · exact (hb.frozen (p := ⟨R, o, none⟩) h1).trans (h.2.froz o)

set_option maxRecDepth 100000 in
set_option maxHeartbeats 8000000 in
theorem rtree_at {w : World} {R : Nat} {r : Rd} (h : RM w R r) (ho : RdOK r) (hlen : r.len ≤ 4000) (ht : Tab w) (hE : Erg w) : Calls Tryz.prog 49 #[.pointer (some ⟨R, 0, none⟩)] w (TreeOut w R r.treeT r.treeR) := by
  have hlt := h.lt
  have hT : Hid (∀ w1, UpW w R w1 → Tab w1) := fun w1 u => ht.keepL (h.keepQ u.2)
  have hE2 : Hid (∀ w1, UpW w R w1 → Erg w1) := fun w1 u => hE.upd h u.2
  have CC := rcnt_at sTree 1 255 h ho hlen hE (by omega) (by omega)
  have hO : RdOK (r.cntR sTree 1 255) := RdOK.cntR ho _ _ _
  have hl1 : (r.cntR sTree 1 255).len ≤ 4000 := by rw [cntR_len]; exact hlen
  have hn := Rd.cnt_le r sTree 1 255
  unfold Rd.treeR Rd.treeT
  unfold CntOut at CC
  generalize r.cntR sTree 1 255 = r1 at *
  generalize r.cntV sTree 1 255 = n at *
  have CCH : Hid (Calls Tryz.prog 48 #[.pointer (some ⟨R, 0, none⟩), .string { data := #[116, 114, 101, 101] }, .int .i64 1, .int .i64 255] w fun e w' => e = .returned (.int .i64 (n : Int)) ∧ RM w' R r1 ∧ UpW w R w') := CC
  clear CC
  go_enter Tryz.func49, Tryz.ntmps49
  go_wp2_with fail
  refine Calls.mono CCH.out ?_
  rintro e w1 ⟨rfl, h1, u1⟩
  clear CCH
  go_wp2
  go_loopw [3, 6] (fun vo vi wr => ∃ i : Nat, i ≤ n ∧ vi = .int .i64 (i : Int) ∧ TTr w.heap.size wr vo (r1.nodesT i) ∧ RM wr R (r1.nodesR i) ∧ UpW w R wr) (fun _ vi _ => n - (intOf vi).toNat)
  case atStart => exact ⟨0, by omega, rfl, GOwn.nil, h1, u1⟩
  case round =>
    clear h1 u1
    obtain ⟨i, hi, rfl, TO, HR, U⟩ := hrel
    by_cases hlt : i < n
    · obtain ⟨avt, cvt, hfm, _⟩ := GOwn.form TO
      rw [Rd.nodes_len] at hfm
      subst hfm
      have g1 : (i : Int) < (n : Int) := by omega
      have g0 : (0 : Int) ≤ (i : Int) := by omega
      have oi := RdOK.nodesR hO i
      have li : (r1.nodesR i).len ≤ 4000 := by rw [nodesR_len]; exact hl1
      have HS0 := Rd.nodesT_succ r1 i
      have HR0 := Rd.nodesR_succ r1 i
      have CN := rnode_at HR oi li (hT.out _ U) (hE2.out _ U)
      obtain ⟨l, hl⟩ : ∃ l, r1.nodesT i = l := ⟨_, rfl⟩
      have HLN : Hid (l.length = i) := by rw [← hl]; exact Rd.nodes_len r1 i
      obtain ⟨d, hd⟩ : ∃ d, (r1.nodesR i).nodeT = d := ⟨_, rfl⟩
      obtain ⟨rn, hrn⟩ : ∃ q, (r1.nodesR i).nodeR = q := ⟨_, rfl⟩
      rw [hd, hrn] at CN
      rw [hd, hl] at HS0
      rw [hrn] at HR0
      rw [hl] at TO
      have HS : Hid (r1.nodesT (i + 1) = l ++ [d]) := HS0
      have HSR : Hid (r1.nodesR (i + 1) = rn) := HR0
      have CNH : Hid _ := CN
      clear CN HS0 HR0 oi li hd hrn hl
      go_wp2_with fail
      refine Calls.mono CNH.out ?_
      rintro e w5 ⟨el, rfl, hn0, h5, u5⟩
      replace TO := TTr.upd TO u5.2 (by have := U.1; omega) (HR.keepQ u5.2)
      replace U := U.trans u5
      clear u5 HR CNH
      obtain ⟨lf, ft, y1, e1, f1, g1, h1, k1, l1, ll, rr, ms, y2, e2, f2, g2, h2, k2, l2, y3, e3, f3, g3, h3, k3, l3, z0, z1, z2, z3, z4, z5, z6, z7, z8, z9, z10, z11, z12, z13⟩ := hn0.open
      have hn2 : TNode w5 (fun j => ([.bool lf, .int .i64 ft, .bool y1, .slice e1 f1 g1, .slice h1 k1 l1, .int .i64 ll, .int .i64 rr, .bool ms, .bool y2, .slice e2 f2 g2, .slice h2 k2 l2, .bool y3, .slice e3 f3 g3, .slice h3 k3 l3] : List Value).getD j undef) d := tnodeEl.congr hn0 (fun j hj => by
        match j, hj with
        | 0, _ => exact z0
        | 1, _ => exact z1
        | 2, _ => exact z2
        | 3, _ => exact z3
        | 4, _ => exact z4
        | 5, _ => exact z5
        | 6, _ => exact z6
        | 7, _ => exact z7
        | 8, _ => exact z8
        | 9, _ => exact z9
        | 10, _ => exact z10
        | 11, _ => exact z11
        | 12, _ => exact z12
        | 13, _ => exact z13)
      rw [z0, z1, z2, z3, z4, z5, z6, z7, z8, z9, z10, z11, z12, z13]
      clear hn0 z0 z1 z2 z3 z4 z5 z6 z7 z8 z9 z10 z11 z12 z13
      have hA : Below w5.heap.size w5 (w5.alloc (.cells #[.bool lf, .int .i64 ft, .bool y1, .slice e1 f1 g1, .slice h1 k1 l1, .int .i64 ll, .int .i64 rr, .bool ms, .bool y2, .slice e2 f2 g2, .slice h2 k2 l2, .bool y3, .slice e3 f3 g3, .slice h3 k3 l3] 46)) := (Below.refl _ _).alloc (Nat.le_refl _) _
      have TO2 : TTr w.heap.size (w5.alloc (.cells #[.bool lf, .int .i64 ft, .bool y1, .slice e1 f1 g1, .slice h1 k1 l1, .int .i64 ll, .int .i64 rr, .bool ms, .bool y2, .slice e2 f2 g2, .slice h2 k2 l2, .bool y3, .slice e3 f3 g3, .slice h3 k3 l3] 46)) _ l := TO.below hA
      have U2 := U.below hA
      have h6 := h5.below hA
      obtain ⟨cs, hco, hcl, hcp, hcn⟩ := GOwn.parts TO2
      have hbk := TTr.blocks TO2
      rw [HLN.out] at hco hcl
      have hsz2 := U2.size
      have hR1 := U.1
      have HND : Hid (TNode (w5.alloc (.cells #[.bool lf, .int .i64 ft, .bool y1, .slice e1 f1 g1, .slice h1 k1 l1, .int .i64 ll, .int .i64 rr, .bool ms, .bool y2, .slice e2 f2 g2, .slice h2 k2 l2, .bool y3, .slice e3 f3 g3, .slice h3 k3 l3] 46)) (fun j => ([.bool lf, .int .i64 ft, .bool y1, .slice e1 f1 g1, .slice h1 k1 l1, .int .i64 ll, .int .i64 rr, .bool ms, .bool y2, .slice e2 f2 g2, .slice h2 k2 l2, .bool y3, .slice e3 f3 g3, .slice h3 k3 l3] : List Value).getD j undef) d) := tnodeEl.keep hn2 (fun b o v _ hc => (hA.cell (World.block_lt_of_cell? _ ⟨b, o, none⟩ hc)).trans hc)
      have HCN : Hid (∀ q a, l[q]? = some a → TNode (w5.alloc (.cells #[.bool lf, .int .i64 ft, .bool y1, .slice e1 f1 g1, .slice h1 k1 l1, .int .i64 ll, .int .i64 rr, .bool ms, .bool y2, .slice e2 f2 g2, .slice h2 k2 l2, .bool y3, .slice e3 f3 g3, .slice h3 k3 l3] 46)) (fun j => cs.getD (q * 14 + j) undef) a) := hcn
      have hnb := news_block (heap_alloc_new w5 (.cells #[.bool lf, .int .i64 ft, .bool y1, .slice e1 f1 g1, .slice h1 k1 l1, .int .i64 ll, .int .i64 rr, .bool ms, .bool y2, .slice e2 f2 g2, .slice h2 k2 l2, .bool y3, .slice e3 f3 g3, .slice h3 k3 l3] 46))
      have HCL : Hid (cs.length = i * 14) := hcl
      clear hcn hcl TO2 TO hn2 U hA h5
      go_wp2_with (first
        | (at_builtin
           refine wpList_append_pure (Q' := IsLimb) rfl _ _ _ rfl w.heap.size 46 (.agg #[.bool false, .int .i64 0, .bool false, .slice none 0 0, .slice none 0 0, .int .i64 0, .int .i64 0, .bool false, .bool false, .slice none 0 0, .slice none 0 0, .bool false, .slice none 0 0, .slice none 0 0]) 14 208 Tryz.underlying38 info_node rfl (by omega) (.slice avt i cvt) rfl i cs hco hcp ⟨w5.heap.size, 0, none⟩ 1 rfl [.bool lf, .int .i64 ft, .bool y1, .slice e1 f1 g1, .slice h1 k1 l1, .int .i64 ll, .int .i64 rr, .bool ms, .bool y2, .slice e2 f2 g2, .slice h2 k2 l2, .bool y3, .slice e3 f3 g3, .slice h3 k3 l3] rfl ?g14 ?g15 ?g16 ?g17 (by omega) (by omega) hsz2 ?_
           case g14 => exact hnb
           case g15 => simp [Value.oneCell']
           case g16 => simp [limb_bool, limb_slice, limb_int]
           case g17 => simp [Value.cells, limb_bool, limb_slice, limb_int]
           intro gN cN w6 ho5 hg5 _ hp5 hk5))
      have NO5 : TTr w.heap.size w6 (.slice (some ⟨gN, 0, none⟩) (i + 1) cN) (r1.nodesT (i + 1)) := by
        rw [HS.out]
        exact GOwn.more (m := 1) (l' := [d]) tnodeEl rfl (by rw [HLN.out]; exact ho5) (by rw [HLN.out]; exact HCL.out) (fun g hg => by cases hg; exact hp5) hk5 HCN.out (fun q a hq => by
          have : q = 0 := by have := (List.getElem?_eq_some_iff.1 hq).1; simp at this; omega
          subst this
          simp only [List.getElem?_cons_zero, Option.some.injEq] at hq
          subst hq
          rw [Nat.zero_mul]
          simp only [Nat.zero_add]
          exact HND.out)
      have BL6 : Below w.heap.size (w5.alloc (.cells #[.bool lf, .int .i64 ft, .bool y1, .slice e1 f1 g1, .slice h1 k1 l1, .int .i64 ll, .int .i64 rr, .bool ms, .bool y2, .slice e2 f2 g2, .slice h2 k2 l2, .bool y3, .slice e3 f3 g3, .slice h3 k3 l3] 46)) w6 := below_grownB (Below.refl _ _) hg5 hsz2 (fun g hg => (hbk g hg).1)
      have h7 : RM w6 R (r1.nodesR (i + 1)) := by
        rw [HSR.out]
        exact h6.low (BL6.mono (by omega))
      have U7 : UpW w R w6 := U2.lowT BL6
      clear ho5 hg5 hp5 hk5 hco hcp hbk HCN HND HCL BL6 h6 U2
      go_roundw
      case rel => exact ⟨i + 1, by omega, by go_num, NO5, h7, U7⟩
      case measure => simp [intOf]; omega
    · obtain rfl : i = n := by omega
      have g1 : ¬ (i : Int) < (i : Int) := by omega
      go_wp2
      go_ret
      exact ⟨_, rfl, TO, HR, U⟩

theorem V2.blk {w w' : World} {R : Nat} {x y : Value} (h : V2 w R x y) (e : w'.heap[R]? = w.heap[R]?) : V2 w' R x y := ⟨(World.cell?_of_block e).trans h.1, (World.cell?_of_block e).trans h.2.1, (World.frozen?_of_block e).trans h.2.2.1, (World.frozen?_of_block e).trans h.2.2.2⟩
theorem V2.upd {w w' : World} {R RT a b : Nat} {x y : Value} (h : V2 w RT x y) (u : Upd w w' R a b) (hn : RT ≠ R) : V2 w' RT x y := h.blk (u.block RT h.lt hn)
/-- A call that reads a model. -/
def ModOut (w : World) (R F : Nat) (ls : List (List TidN)) (r : Rd) (e : Ending) (w' : World) : Prop := ∃ v, e = .returned (.agg #[.int .i64 (F : Int), v]) ∧ TMo w.heap.size w' v ls ∧ RM w' R r ∧ UpW w R w'
set_option maxRecDepth 100000 in
set_option maxHeartbeats 8000000 in
theorem rmodel_at {w : World} {R : Nat} {r : Rd} (h : RM w R r) (ho : RdOK r) (hlen : r.len ≤ 4000) (ht : Tab w) (hE : Erg w) : Calls Tryz.prog 25 #[.pointer (some ⟨R, 0, none⟩)] w (ModOut w R r.feats r.allT r.allR) := by
 have hlt := h.lt
 have hT : Hid (∀ w1, UpW w R w1 → Tab w1) := fun w1 u => ht.keepL (h.keepQ u.2)
 have hE2 : Hid (∀ w1, UpW w R w1 → Erg w1) := fun w1 u => hE.upd h u.2
 unfold Rd.allR Rd.allT Rd.footR Rd.feats
 have om := RdOK.manyR ho
 have lm : r.manyR.len ≤ 4000 := by unfold Rd.manyR; rw [cntR_len]; unfold Rd.headR; rw [cntR_len]; unfold Rd.topR; rw [next_len, take_len, take_len]; exact hlen
 have hn : r.many ≤ 64 := Rd.cnt_le _ _ _ _
 have C1 : Hid (∀ W, RM W R r → Calls Tryz.prog 29 #[.pointer (some ⟨R, 0, none⟩), .string { data := #[100, 101, 110, 100, 114, 111, 110] }] W (VoidOut W R (r.take sDendron))) := fun W hW => Take_at sDendron hW ho
 have C2 : Hid (∀ W, RM W R (r.take sDendron) → Calls Tryz.prog 29 #[.pointer (some ⟨R, 0, none⟩), .string { data := #[49] }] W (VoidOut W R ((r.take sDendron).take sOne))) := fun W hW => Take_at sOne hW (RdOK.take ho _)
 have C3 : Hid (∀ W, RM W R ((r.take sDendron).take sOne) → Calls Tryz.prog 30 #[.pointer (some ⟨R, 0, none⟩)] W (VoidOut W R r.topR)) := fun W hW => Next_at hW
 have lt0 : r.topR.len ≤ 4000 := by unfold Rd.topR; rw [next_len, take_len, take_len]; exact hlen
 have lh : r.headR.len ≤ 4000 := by unfold Rd.headR; rw [cntR_len]; exact lt0
 have C4 : Hid (∀ W, RM W R r.topR → Erg W → Calls Tryz.prog 48 #[.pointer (some ⟨R, 0, none⟩), .string { data := #[102, 101, 97, 116, 117, 114, 101, 115] }, .int .i64 0, .int .i64 64] W (CntOut W R (r.topR.cntV sFeatures 0 64, r.headR))) := fun W hW hE => rcnt_at sFeatures 0 64 hW (RdOK.topR ho) lt0 hE (by omega) (by omega)
 have C5 : Hid (∀ W, RM W R r.headR → Erg W → Calls Tryz.prog 48 #[.pointer (some ⟨R, 0, none⟩), .string { data := #[116, 114, 101, 101, 115] }, .int .i64 0, .int .i64 64] W (CntOut W R (r.many, r.manyR))) := fun W hW hE => rcnt_at sTrees 0 64 hW (RdOK.headR ho) lh hE (by omega) (by omega)
 generalize r.topR.cntV sFeatures 0 64 = F at *
 generalize r.headR = r4 at *
 generalize r.many = n at *
 generalize r.manyR = r5 at *
 generalize r.topR = r3 at *
 generalize (r.take sDendron).take sOne = r2 at *
 generalize r.take sDendron = r1 at *
 have ol := RdOK.treesR om n
 obtain ⟨r6, h6⟩ : ∃ q, r5.treesR n = q := ⟨_, rfl⟩
 have H6 : Hid (r5.treesR n = r6) := h6
 rw [h6] at ol ⊢
 clear h6
 have C6 : Hid (∀ W, RM W R r6 → Calls Tryz.prog 29 #[.pointer (some ⟨R, 0, none⟩), .string { data := #[101, 110, 100] }] W (VoidOut W R (r6.take sEnd))) := fun W hW => Take_at sEnd hW ol
 have C7 : Hid (∀ W, RM W R (r6.take sEnd) → Calls Tryz.prog 30 #[.pointer (some ⟨R, 0, none⟩)] W (VoidOut W R (r6.take sEnd).next)) := fun W hW => Next_at hW
 have C8 : Hid (∀ W, RM W R (r6.take sEnd).next → Calls Tryz.prog 35 #[.pointer (some ⟨R, 0, none⟩)] W (VoidOut W R (r6.take sEnd).next.fin)) := fun W hW => End_at hW
 generalize (r6.take sEnd).next.fin = r9 at *
 generalize (r6.take sEnd).next = r8 at *
 generalize r6.take sEnd = r7 at *
 clear ol lt0 lh ho
 obtain ⟨W0, hW0, hS0, hL0, VZ⟩ := V2.lay w 24 (.int .i64 0) (.slice none 0 0)
 have U : UpW w R W0 := (UpW.refl hlt).below hL0
 have h1 := h.below hL0
 have hz0 := hS0
 go_enter Tryz.func25, Tryz.ntmps25
 go_wp2_with fail
 rw [← hW0]
 obtain ⟨RZ, hRZ⟩ : ∃ RZ, w.heap.size = RZ := ⟨_, rfl⟩
 have hwZ : w.heap.size ≤ RZ := by omega
 rw [hRZ] at VZ
 rw [hRZ]
 have hZR : RZ ≠ R := by omega
 have hR1 : R + 1 ≤ RZ := by omega
 clear hW0 hS0 hL0 hRZ hz0 h ht hE
 refine Calls.mono (C1.out _ h1) ?_
 rintro e w1 ⟨rfl, h_n, u_n⟩
 replace VZ := VZ.upd u_n.2 hZR
 replace U := U.trans u_n
 clear h1
 have h1 := h_n
 clear h_n u_n
 go_wp2_with fail
 refine Calls.mono (C2.out _ h1) ?_
 rintro e w2 ⟨rfl, h_n, u_n⟩
 replace VZ := VZ.upd u_n.2 hZR
 replace U := U.trans u_n
 clear h1
 have h1 := h_n
 clear h_n u_n
 go_wp2_with fail
 refine Calls.mono (C3.out _ h1) ?_
 rintro e w3 ⟨rfl, h_n, u_n⟩
 replace VZ := VZ.upd u_n.2 hZR
 replace U := U.trans u_n
 clear h1
 have h1 := h_n
 clear h_n u_n
 go_wp2_with fail
 have hE_ := hE2.out _ U
 refine Calls.mono (C4.out _ h1 hE_) ?_
 rintro e w4 ⟨rfl, h_n, u_n⟩
 replace VZ := VZ.upd u_n.2 hZR
 replace U := U.trans u_n
 clear h1
 have h1 := h_n
 clear h_n u_n hE_ C1 C2 C3 C4
 dsimp only at h1
 have l1 := VZ.lt
 have l2 := h1.lt
 obtain ⟨W5, hW5, hS5, hL5, VO⟩ := V2.lay w4 24 (.int .i64 (F : Int)) (.slice none 0 0)
 obtain ⟨q1, q2, q3, q4⟩ := id VO
 rw [hW5] at q1 q2 q3 q4
 go_wp2_with fail
 rw [← hW5]
 replace VZ := VZ.below hL5
 replace U := U.below hL5
 replace h1 := h1.below hL5
 obtain ⟨RO, hRO⟩ : ∃ RO, w4.heap.size = RO := ⟨_, rfl⟩
 rw [hRO] at VO l1 l2 hS5
 rw [hRO]
 have hOR : RO ≠ R := by omega
 have hZO : RZ ≠ RO := by omega
 have hRO1 : R + 1 ≤ RO := by omega
 have hwO : w.heap.size ≤ RO := by omega
 clear q1 q2 q3 q4 hW5 hL5 hRO
 have hE_ := hE2.out _ U
 have B5 : RO + 1 ≤ W5.heap.size := by omega
 refine Calls.mono (C5.out _ h1 hE_) ?_
 rintro e w6 ⟨rfl, h_n, u_n⟩
 replace VZ := VZ.upd u_n.2 hZR
 replace VO := VO.upd u_n.2 hOR
 replace U := U.trans u_n
 have B6 : RO + 1 ≤ w6.heap.size := Nat.le_trans B5 u_n.size
 clear h1 hE_ C5 u_n B5 hS5
 have h1 := h_n
 clear h_n
 dsimp only at h1
 go_wp2
 go_loopw [15] (fun vi wr => ∃ (i : Nat) (tr : Value), i ≤ n ∧ vi = .int .i64 (i : Int) ∧ V2 wr RO (.int .i64 (F : Int)) tr ∧ V2 wr RZ (.int .i64 0) (.slice none 0 0) ∧ TMo (RO + 1) wr tr (r5.treesT i) ∧ RM wr R (r5.treesR i) ∧ UpW w R wr ∧ RO + 1 ≤ wr.heap.size) (fun vi _ => n - (intOf vi).toNat)
 case atStart => exact ⟨0, _, by omega, rfl, VO, VZ, TMo.nil _ _, h1, U, B6⟩
 case round =>
  clear h1 U VO VZ B6
  obtain ⟨i, tr, hi, rfl, VO, VZ, MO, HR, U, B6⟩ := hrel
  obtain ⟨at3, ct3, hfm, _⟩ := TMo.form MO
  rw [Rd.trees_len] at hfm
  subst hfm
  by_cases hlt : i < n
  ·have g1 : (i : Int) < (n : Int) := by omega
   have g0 : (0 : Int) ≤ (i : Int) := by omega
   have oi := RdOK.treesR om i
   have li : (r5.treesR i).len ≤ 4000 := by rw [treesR_len]; exact lm
   have HS0 := Rd.treesT_succ r5 i
   have HR0 := Rd.treesR_succ r5 i
   have HLN : Hid ((r5.treesT i).length = i) := Rd.trees_len r5 i
   generalize r5.treesT i = ls at *
   generalize r5.treesR i = ri at *
   obtain ⟨l, hl⟩ : ∃ l, ri.treeT = l := ⟨_, rfl⟩
   obtain ⟨rn, hrn⟩ : ∃ q, ri.treeR = q := ⟨_, rfl⟩
   rw [hl] at HS0
   rw [hrn] at HR0
   have HS : Hid (r5.treesT (i + 1) = ls ++ [l]) := HS0
   have HSR : Hid (r5.treesR (i + 1) = rn) := HR0
   have CN : Hid (∀ W, RM W R ri → Tab W → Erg W → Calls Tryz.prog 49 #[.pointer (some ⟨R, 0, none⟩)] W (TreeOut W R l rn)) := by
    intro W a b c
    rw [← hl, ← hrn]
    exact rtree_at a oi li b c
   clear HS0 HR0 hl hrn oi li
   go_wp2_with fail
   have BB : Below 0 wr wr := Below.refl _ _
   have B_ : RO + 1 ≤ wr.drew.heap.size := B6
   clear B6
   have hDr : Below wr.heap.size wr wr.drew := (Below.refl _ _).drew
   replace U := U.below hDr
   replace HR := HR.below hDr
   replace MO := MO.below hDr
   replace VO := VO.below hDr
   replace VZ := VZ.below hDr
   replace BB := BB.trans (hDr.mono (Nat.zero_le _))
   clear hDr
   refine wp_region_held_drew (S := (fun w' => True)) (by kernel_rfl) ?_ (fun hHeld => ?_)
   ·trivial
   generalize wr.drew = W1 at *
   refine wpAnyH_take (i := 0) (v := ?_) (by simp only [xL1, xL2, xL3]; rfl) (by kernel_rfl) (by kernel_rfl) (by kernel_rfl) (by exact fun _ _ _ h => h) (Or.inl ⟨by rfl, ?_⟩) (by assumption) ?_
   rotate_left
   ·(intro w hSw; (try dsimp only at hSw); go_simp; (try with_reducible rfl))
   (try simp only [Act.put, xL4, xL5, xL6])
   refine wpAnyH_take (i := 2) (v := ?_) (by simp only [xL1, xL2, xL3]; rfl) (by kernel_rfl) (by kernel_rfl) (by kernel_rfl) (by exact fun _ _ _ h => h) (Or.inl ⟨by rfl, ?_⟩) (by assumption) ?_
   rotate_left
   ·(intro w hSw; (try dsimp only at hSw); go_simp; (try with_reducible rfl))
   (try simp only [Act.put, xL4, xL5, xL6])
   refine wpAnyH_ready (rs := [1, 3]) (by kernel_rfl) (by simp) ?_
   refine AllReadyH.cons (by simp only [xL1, xL2, xL3]; rfl) (fun K hK => ?_) ?_
   ·
    obtain ⟨q1, q2, q3, q4⟩ := id VO
    go_simp
    clear q1 q2 q3 q4
    refine hK.out _ _ ?_ (fun hH1 => ?_)
    ·trivial
    clear hK K hHeld
    (try simp only [Act.put, xL4, xL5, xL6])
    refine wpAnyH_ready (rs := [3]) (by kernel_rfl) (by simp) ?_
    refine AllReadyH.cons (by simp only [xL1, xL2, xL3]; rfl) (fun K hK => ?_) AllReadyH.nil
    go_simp
    have ht_ := hT.out _ U
    have hE_ := hE2.out _ U
    refine Calls.mono (CN.out _ HR ht_ hE_) ?_
    rintro e w21 ⟨tv, rfl, TT_, h_n, u_n⟩
    have K_n := HR.keepQ u_n.2
    replace VO := VO.upd u_n.2 hOR
    replace VZ := VZ.upd u_n.2 hZR
    replace MO := TMo.upd MO u_n.2 (by omega) K_n
    replace U := U.trans u_n
    have B7 : RO + 1 ≤ w21.heap.size := Nat.le_trans B_ u_n.size
    have TT2 : TTr (RO + 1) w21 tv l := GOwn.le TT_ B_
    clear B_
    have B_ := B7
    obtain ⟨ta, tc, htf, _⟩ := GOwn.form TT2
    subst htf
    clear ht_ hE_ K_n u_n TT_ HR B7
    have HR := h_n
    clear h_n BB
    have BB : Below 0 w21 w21 := Below.refl _ _
    go_wp2_with fail
    refine hK.out _ _ ?_ (fun hH2 => ?_)
    ·trivial
    clear hK K hH1
    (try simp only [Act.put, xL4, xL5, xL6])
    refine wpAnyH_ready (rs := [4]) (by kernel_rfl) (by simp) ?_
    refine AllReadyH.cons (by simp only [xL1, xL2, xL3]; rfl) (fun K hK => ?_) AllReadyH.nil
    go_simp
    obtain ⟨w22, hW_, hS_, hL_, VQ⟩ := V1.lay w21 38 (.slice ta l.length tc)
    rw [← hW_]
    replace U := U.below hL_
    replace HR := HR.below hL_
    replace MO := MO.below hL_
    replace VO := VO.below hL_
    replace VZ := VZ.below hL_
    replace TT2 := TT2.below hL_
    obtain ⟨RQ, hRQ⟩ : ∃ q, w21.heap.size = q := ⟨_, rfl⟩
    rw [hRQ] at VQ
    rw [hRQ]
    have B7 : RO + 1 ≤ w22.heap.size := Nat.le_trans B_ hL_.size
    clear B_
    have B_ := B7
    clear hW_ hS_ hL_ hRQ B7 BB
    have BB : Below 0 w22 w22 := Below.refl _ _
    refine hK.out _ _ ?_ (fun hH3 => ?_)
    ·trivial
    clear hK K hH2
    (try simp only [Act.put, xL4, xL5, xL6])
    refine wpAnyH_ready (rs := [5]) (by kernel_rfl) (by simp) ?_
    refine AllReadyH.cons (by simp only [xL1, xL2, xL3]; rfl) (fun K hK => ?_) AllReadyH.nil
    have hbk := MO.blocks
    obtain ⟨us, huo, hup⟩ := MO.parts
    rw [HLN.out] at huo
    refine step_append_pure (Q' := IsLimb) (by rfl) _ _ _ (by rfl) (RO + 1) 38 (.slice none 0 0) 1 24 Tryz.underlying22 info_tree (by rfl) (by omega) (.slice at3 i ct3) (by rfl) i us huo hup ⟨RQ, 0, none⟩ 1 (by rfl) [.slice ta l.length tc] rfl (news_t7 VQ) (by simp [Value.oneCell']) (by simp [limb_slice]) (by simp [Value.cells, limb_slice]) (by omega) (by omega) B_ ?_
    intro gN cN w23 ho5 hg5 _ hp5 hk5
    have MO5 : TMo (RO + 1) w23 (.slice (some ⟨gN, 0, none⟩) (i + 1) cN) (r5.treesT (i + 1)) := by
     rw [HS.out]
     exact TMo.more MO (by rw [HLN.out]; exact huo) TT2 (by rw [HLN.out]; exact ho5) hg5 (fun g hg => by cases hg; exact hp5) hk5
    have hlow : Below (RO + 1) w22 w23 := below_grownB (Below.refl _ _) hg5 B_ (fun g hg => (hbk g hg).1)
    replace VO := VO.blk (hlow.block _ (by omega))
    replace VZ := VZ.blk (hlow.block _ (by omega))
    replace HR := HR.low (hlow.mono (by omega))
    replace U := U.lowT (hlow.mono (by omega))
    have B7 : RO + 1 ≤ w23.heap.size := Nat.le_trans B_ hlow.size
    clear MO TT2 VQ ho5 hg5 hp5 hk5 huo hup hbk hlow B_ BB
    have B_ := B7
    have MO := MO5
    clear MO5 B7
    have BB : Below 0 w23 w23 := Below.refl _ _
    refine hK.out _ _ ?_ (fun hH4 => ?_)
    ·trivial
    clear hK K hH3
    (try simp only [Act.put, xL4, xL5, xL6])
    refine wpAnyH_take (i := 6) (v := ?_) (by simp only [xL1, xL2, xL3]; rfl) (by kernel_rfl) (by kernel_rfl) (by kernel_rfl) (by exact fun _ _ _ h => h) (Or.inl ⟨by rfl, ?_⟩) (by assumption) ?_
    rotate_left
    ·(intro w hSw; (try dsimp only at hSw); go_simp; (try with_reducible rfl))
    (try simp only [Act.put, xL4, xL5, xL6])
    refine wpAnyH_ready (rs := [7]) (by kernel_rfl) (by simp) ?_
    refine AllReadyH.cons (by simp only [xL1, xL2, xL3]; rfl) (fun K hK => ?_) AllReadyH.nil
    obtain ⟨q1, q2, q3, q4⟩ := id VO
    have VO_n : V2 (w23.setCell ⟨RO, 1, none⟩ (.slice (some ⟨gN, 0, none⟩) (i + 1) cN)) RO (.int .i64 (F : Int)) (.slice (some ⟨gN, 0, none⟩) (i + 1) cN) := ⟨cell_set_by q1 (by omega), cell_set_at q2, by simp [q3], by simp [q4]⟩
    have VZ_n := VZ.blk (w' := w23.setCell ⟨RO, 1, none⟩ (.slice (some ⟨gN, 0, none⟩) (i + 1) cN)) (Below.heap_setCell _ _ _ _ (by show RZ ≠ RO; exact hZO))
    have K_n : KeepQ IsLimb w23 (w23.setCell ⟨RO, 1, none⟩ (.slice (some ⟨gN, 0, none⟩) (i + 1) cN)) := keepL_set q2 (limb_slice _ _ _) _
    have MO_n := MO.set (a := ⟨RO, 1, none⟩) (by show RO < RO + 1; omega) _ K_n
    have HR_n := HR.low ((Below.refl (R + 1) _).setCell (p := ⟨RO, 1, none⟩) hRO1 (.slice (some ⟨gN, 0, none⟩) (i + 1) cN))
    have U_n := U.new (RT := RO) hwO 1 (.slice (some ⟨gN, 0, none⟩) (i + 1) cN)
    have B_n : RO + 1 ≤ (w23.setCell ⟨RO, 1, none⟩ (.slice (some ⟨gN, 0, none⟩) (i + 1) cN)).heap.size := by simpa using B_
    go_simp
    clear q1 q2 q3 q4 VO VZ MO HR U K_n B_ BB
    generalize w23.setCell ⟨RO, 1, none⟩ (.slice (some ⟨gN, 0, none⟩) (i + 1) cN) = W9 at *
    have VO := VO_n
    have VZ := VZ_n
    have MO := MO_n
    have HR := HR_n
    have U := U_n
    have B_ := B_n
    clear VO_n VZ_n MO_n HR_n U_n B_n
    have BB : Below 0 W9 W9 := Below.refl _ _
    refine hK.out _ _ ?_ (fun hH5 => ?_)
    ·trivial
    clear hK K hH4
    (try simp only [Act.put, xL4, xL5, xL6])
    refine wpAnyH_done (by kernel_rfl) ?_ _
    clear hH5
    go_wp2
    go_roundw
    case rel => exact ⟨i + 1, _, by omega, by go_num, VO, VZ, MO, by rw [HSR.out]; exact HR, U, B_⟩
    case measure => simp [intOf]; omega
   refine AllReadyH.cons (by simp only [xL1, xL2, xL3]; rfl) (fun K hK => ?_) ?_
   ·
    go_simp
    have ht_ := hT.out _ U
    have hE_ := hE2.out _ U
    refine Calls.mono (CN.out _ HR ht_ hE_) ?_
    rintro e w24 ⟨tv, rfl, TT_, h_n, u_n⟩
    have K_n := HR.keepQ u_n.2
    replace VO := VO.upd u_n.2 hOR
    replace VZ := VZ.upd u_n.2 hZR
    replace MO := TMo.upd MO u_n.2 (by omega) K_n
    replace U := U.trans u_n
    have B7 : RO + 1 ≤ w24.heap.size := Nat.le_trans B_ u_n.size
    have TT2 : TTr (RO + 1) w24 tv l := GOwn.le TT_ B_
    clear B_
    have B_ := B7
    obtain ⟨ta, tc, htf, _⟩ := GOwn.form TT2
    subst htf
    clear ht_ hE_ K_n u_n TT_ HR B7
    have HR := h_n
    clear h_n BB
    have BB : Below 0 w24 w24 := Below.refl _ _
    go_wp2_with fail
    refine hK.out _ _ ?_ (fun hH1 => ?_)
    ·trivial
    clear hK K hHeld
    (try simp only [Act.put, xL4, xL5, xL6])
    refine wpAnyH_ready (rs := [1, 4]) (by kernel_rfl) (by simp) ?_
    refine AllReadyH.cons (by simp only [xL1, xL2, xL3]; rfl) (fun K hK => ?_) ?_
    ·
     obtain ⟨q1, q2, q3, q4⟩ := id VO
     go_simp
     clear q1 q2 q3 q4
     refine hK.out _ _ ?_ (fun hH2 => ?_)
     ·trivial
     clear hK K hH1
     (try simp only [Act.put, xL4, xL5, xL6])
     refine wpAnyH_ready (rs := [4]) (by kernel_rfl) (by simp) ?_
     refine AllReadyH.cons (by simp only [xL1, xL2, xL3]; rfl) (fun K hK => ?_) AllReadyH.nil
     go_simp
     obtain ⟨w25, hW_, hS_, hL_, VQ⟩ := V1.lay w24 38 (.slice ta l.length tc)
     rw [← hW_]
     replace U := U.below hL_
     replace HR := HR.below hL_
     replace MO := MO.below hL_
     replace VO := VO.below hL_
     replace VZ := VZ.below hL_
     replace TT2 := TT2.below hL_
     obtain ⟨RQ, hRQ⟩ : ∃ q, w24.heap.size = q := ⟨_, rfl⟩
     rw [hRQ] at VQ
     rw [hRQ]
     have B7 : RO + 1 ≤ w25.heap.size := Nat.le_trans B_ hL_.size
     clear B_
     have B_ := B7
     clear hW_ hS_ hL_ hRQ B7 BB
     have BB : Below 0 w25 w25 := Below.refl _ _
     refine hK.out _ _ ?_ (fun hH3 => ?_)
     ·trivial
     clear hK K hH2
     (try simp only [Act.put, xL4, xL5, xL6])
     refine wpAnyH_ready (rs := [5]) (by kernel_rfl) (by simp) ?_
     refine AllReadyH.cons (by simp only [xL1, xL2, xL3]; rfl) (fun K hK => ?_) AllReadyH.nil
     have hbk := MO.blocks
     obtain ⟨us, huo, hup⟩ := MO.parts
     rw [HLN.out] at huo
     refine step_append_pure (Q' := IsLimb) (by rfl) _ _ _ (by rfl) (RO + 1) 38 (.slice none 0 0) 1 24 Tryz.underlying22 info_tree (by rfl) (by omega) (.slice at3 i ct3) (by rfl) i us huo hup ⟨RQ, 0, none⟩ 1 (by rfl) [.slice ta l.length tc] rfl (news_t7 VQ) (by simp [Value.oneCell']) (by simp [limb_slice]) (by simp [Value.cells, limb_slice]) (by omega) (by omega) B_ ?_
     intro gN cN w26 ho5 hg5 _ hp5 hk5
     have MO5 : TMo (RO + 1) w26 (.slice (some ⟨gN, 0, none⟩) (i + 1) cN) (r5.treesT (i + 1)) := by
      rw [HS.out]
      exact TMo.more MO (by rw [HLN.out]; exact huo) TT2 (by rw [HLN.out]; exact ho5) hg5 (fun g hg => by cases hg; exact hp5) hk5
     have hlow : Below (RO + 1) w25 w26 := below_grownB (Below.refl _ _) hg5 B_ (fun g hg => (hbk g hg).1)
     replace VO := VO.blk (hlow.block _ (by omega))
     replace VZ := VZ.blk (hlow.block _ (by omega))
     replace HR := HR.low (hlow.mono (by omega))
     replace U := U.lowT (hlow.mono (by omega))
     have B7 : RO + 1 ≤ w26.heap.size := Nat.le_trans B_ hlow.size
     clear MO TT2 VQ ho5 hg5 hp5 hk5 huo hup hbk hlow B_ BB
     have B_ := B7
     have MO := MO5
     clear MO5 B7
     have BB : Below 0 w26 w26 := Below.refl _ _
     refine hK.out _ _ ?_ (fun hH4 => ?_)
     ·trivial
     clear hK K hH3
     (try simp only [Act.put, xL4, xL5, xL6])
     refine wpAnyH_take (i := 6) (v := ?_) (by simp only [xL1, xL2, xL3]; rfl) (by kernel_rfl) (by kernel_rfl) (by kernel_rfl) (by exact fun _ _ _ h => h) (Or.inl ⟨by rfl, ?_⟩) (by assumption) ?_
     rotate_left
     ·(intro w hSw; (try dsimp only at hSw); go_simp; (try with_reducible rfl))
     (try simp only [Act.put, xL4, xL5, xL6])
     refine wpAnyH_ready (rs := [7]) (by kernel_rfl) (by simp) ?_
     refine AllReadyH.cons (by simp only [xL1, xL2, xL3]; rfl) (fun K hK => ?_) AllReadyH.nil
     obtain ⟨q1, q2, q3, q4⟩ := id VO
     have VO_n : V2 (w26.setCell ⟨RO, 1, none⟩ (.slice (some ⟨gN, 0, none⟩) (i + 1) cN)) RO (.int .i64 (F : Int)) (.slice (some ⟨gN, 0, none⟩) (i + 1) cN) := ⟨cell_set_by q1 (by omega), cell_set_at q2, by simp [q3], by simp [q4]⟩
     have VZ_n := VZ.blk (w' := w26.setCell ⟨RO, 1, none⟩ (.slice (some ⟨gN, 0, none⟩) (i + 1) cN)) (Below.heap_setCell _ _ _ _ (by show RZ ≠ RO; exact hZO))
     have K_n : KeepQ IsLimb w26 (w26.setCell ⟨RO, 1, none⟩ (.slice (some ⟨gN, 0, none⟩) (i + 1) cN)) := keepL_set q2 (limb_slice _ _ _) _
     have MO_n := MO.set (a := ⟨RO, 1, none⟩) (by show RO < RO + 1; omega) _ K_n
     have HR_n := HR.low ((Below.refl (R + 1) _).setCell (p := ⟨RO, 1, none⟩) hRO1 (.slice (some ⟨gN, 0, none⟩) (i + 1) cN))
     have U_n := U.new (RT := RO) hwO 1 (.slice (some ⟨gN, 0, none⟩) (i + 1) cN)
     have B_n : RO + 1 ≤ (w26.setCell ⟨RO, 1, none⟩ (.slice (some ⟨gN, 0, none⟩) (i + 1) cN)).heap.size := by simpa using B_
     go_simp
     clear q1 q2 q3 q4 VO VZ MO HR U K_n B_ BB
     generalize w26.setCell ⟨RO, 1, none⟩ (.slice (some ⟨gN, 0, none⟩) (i + 1) cN) = W9 at *
     have VO := VO_n
     have VZ := VZ_n
     have MO := MO_n
     have HR := HR_n
     have U := U_n
     have B_ := B_n
     clear VO_n VZ_n MO_n HR_n U_n B_n
     have BB : Below 0 W9 W9 := Below.refl _ _
     refine hK.out _ _ ?_ (fun hH5 => ?_)
     ·trivial
     clear hK K hH4
     (try simp only [Act.put, xL4, xL5, xL6])
     refine wpAnyH_done (by kernel_rfl) ?_ _
     clear hH5
     go_wp2
     go_roundw
     case rel => exact ⟨i + 1, _, by omega, by go_num, VO, VZ, MO, by rw [HSR.out]; exact HR, U, B_⟩
     case measure => simp [intOf]; omega
    refine AllReadyH.cons (by simp only [xL1, xL2, xL3]; rfl) (fun K hK => ?_) ?_
    ·
     go_simp
     obtain ⟨w27, hW_, hS_, hL_, VQ⟩ := V1.lay w24 38 (.slice ta l.length tc)
     rw [← hW_]
     replace U := U.below hL_
     replace HR := HR.below hL_
     replace MO := MO.below hL_
     replace VO := VO.below hL_
     replace VZ := VZ.below hL_
     replace TT2 := TT2.below hL_
     obtain ⟨RQ, hRQ⟩ : ∃ q, w24.heap.size = q := ⟨_, rfl⟩
     rw [hRQ] at VQ
     rw [hRQ]
     have B7 : RO + 1 ≤ w27.heap.size := Nat.le_trans B_ hL_.size
     clear B_
     have B_ := B7
     clear hW_ hS_ hL_ hRQ B7 BB
     have BB : Below 0 w27 w27 := Below.refl _ _
     refine hK.out _ _ ?_ (fun hH2 => ?_)
     ·trivial
     clear hK K hH1
     (try simp only [Act.put, xL4, xL5, xL6])
     refine wpAnyH_ready (rs := [1]) (by kernel_rfl) (by simp) ?_
     refine AllReadyH.cons (by simp only [xL1, xL2, xL3]; rfl) (fun K hK => ?_) AllReadyH.nil
     obtain ⟨q1, q2, q3, q4⟩ := id VO
     go_simp
     clear q1 q2 q3 q4
     refine hK.out _ _ ?_ (fun hH3 => ?_)
     ·trivial
     clear hK K hH2
     (try simp only [Act.put, xL4, xL5, xL6])
     refine wpAnyH_ready (rs := [5]) (by kernel_rfl) (by simp) ?_
     refine AllReadyH.cons (by simp only [xL1, xL2, xL3]; rfl) (fun K hK => ?_) AllReadyH.nil
     have hbk := MO.blocks
     obtain ⟨us, huo, hup⟩ := MO.parts
     rw [HLN.out] at huo
     refine step_append_pure (Q' := IsLimb) (by rfl) _ _ _ (by rfl) (RO + 1) 38 (.slice none 0 0) 1 24 Tryz.underlying22 info_tree (by rfl) (by omega) (.slice at3 i ct3) (by rfl) i us huo hup ⟨RQ, 0, none⟩ 1 (by rfl) [.slice ta l.length tc] rfl (news_t7 VQ) (by simp [Value.oneCell']) (by simp [limb_slice]) (by simp [Value.cells, limb_slice]) (by omega) (by omega) B_ ?_
     intro gN cN w28 ho5 hg5 _ hp5 hk5
     have MO5 : TMo (RO + 1) w28 (.slice (some ⟨gN, 0, none⟩) (i + 1) cN) (r5.treesT (i + 1)) := by
      rw [HS.out]
      exact TMo.more MO (by rw [HLN.out]; exact huo) TT2 (by rw [HLN.out]; exact ho5) hg5 (fun g hg => by cases hg; exact hp5) hk5
     have hlow : Below (RO + 1) w27 w28 := below_grownB (Below.refl _ _) hg5 B_ (fun g hg => (hbk g hg).1)
     replace VO := VO.blk (hlow.block _ (by omega))
     replace VZ := VZ.blk (hlow.block _ (by omega))
     replace HR := HR.low (hlow.mono (by omega))
     replace U := U.lowT (hlow.mono (by omega))
     have B7 : RO + 1 ≤ w28.heap.size := Nat.le_trans B_ hlow.size
     clear MO TT2 VQ ho5 hg5 hp5 hk5 huo hup hbk hlow B_ BB
     have B_ := B7
     have MO := MO5
     clear MO5 B7
     have BB : Below 0 w28 w28 := Below.refl _ _
     refine hK.out _ _ ?_ (fun hH4 => ?_)
     ·trivial
     clear hK K hH3
     (try simp only [Act.put, xL4, xL5, xL6])
     refine wpAnyH_take (i := 6) (v := ?_) (by simp only [xL1, xL2, xL3]; rfl) (by kernel_rfl) (by kernel_rfl) (by kernel_rfl) (by exact fun _ _ _ h => h) (Or.inl ⟨by rfl, ?_⟩) (by assumption) ?_
     rotate_left
     ·(intro w hSw; (try dsimp only at hSw); go_simp; (try with_reducible rfl))
     (try simp only [Act.put, xL4, xL5, xL6])
     refine wpAnyH_ready (rs := [7]) (by kernel_rfl) (by simp) ?_
     refine AllReadyH.cons (by simp only [xL1, xL2, xL3]; rfl) (fun K hK => ?_) AllReadyH.nil
     obtain ⟨q1, q2, q3, q4⟩ := id VO
     have VO_n : V2 (w28.setCell ⟨RO, 1, none⟩ (.slice (some ⟨gN, 0, none⟩) (i + 1) cN)) RO (.int .i64 (F : Int)) (.slice (some ⟨gN, 0, none⟩) (i + 1) cN) := ⟨cell_set_by q1 (by omega), cell_set_at q2, by simp [q3], by simp [q4]⟩
     have VZ_n := VZ.blk (w' := w28.setCell ⟨RO, 1, none⟩ (.slice (some ⟨gN, 0, none⟩) (i + 1) cN)) (Below.heap_setCell _ _ _ _ (by show RZ ≠ RO; exact hZO))
     have K_n : KeepQ IsLimb w28 (w28.setCell ⟨RO, 1, none⟩ (.slice (some ⟨gN, 0, none⟩) (i + 1) cN)) := keepL_set q2 (limb_slice _ _ _) _
     have MO_n := MO.set (a := ⟨RO, 1, none⟩) (by show RO < RO + 1; omega) _ K_n
     have HR_n := HR.low ((Below.refl (R + 1) _).setCell (p := ⟨RO, 1, none⟩) hRO1 (.slice (some ⟨gN, 0, none⟩) (i + 1) cN))
     have U_n := U.new (RT := RO) hwO 1 (.slice (some ⟨gN, 0, none⟩) (i + 1) cN)
     have B_n : RO + 1 ≤ (w28.setCell ⟨RO, 1, none⟩ (.slice (some ⟨gN, 0, none⟩) (i + 1) cN)).heap.size := by simpa using B_
     go_simp
     clear q1 q2 q3 q4 VO VZ MO HR U K_n B_ BB
     generalize w28.setCell ⟨RO, 1, none⟩ (.slice (some ⟨gN, 0, none⟩) (i + 1) cN) = W9 at *
     have VO := VO_n
     have VZ := VZ_n
     have MO := MO_n
     have HR := HR_n
     have U := U_n
     have B_ := B_n
     clear VO_n VZ_n MO_n HR_n U_n B_n
     have BB : Below 0 W9 W9 := Below.refl _ _
     refine hK.out _ _ ?_ (fun hH5 => ?_)
     ·trivial
     clear hK K hH4
     (try simp only [Act.put, xL4, xL5, xL6])
     refine wpAnyH_done (by kernel_rfl) ?_ _
     clear hH5
     go_wp2
     go_roundw
     case rel => exact ⟨i + 1, _, by omega, by go_num, VO, VZ, MO, by rw [HSR.out]; exact HR, U, B_⟩
     case measure => simp [intOf]; omega
    exact AllReadyH.nil
   exact AllReadyH.nil
  ·obtain rfl : i = n := by omega
   have g1 : ¬ (i : Int) < (i : Int) := by omega
   have h1 : RM wr R r6 := by rw [← H6.out]; exact HR
   clear HR H6
   go_wp2_with fail
   refine Calls.mono (C6.out _ h1) ?_
   rintro e v1 ⟨rfl, h_n, u_n⟩
   have K_n := h1.keepQ u_n.2
   replace VZ := VZ.upd u_n.2 hZR
   replace VO := VO.upd u_n.2 hOR
   replace MO := TMo.upd MO u_n.2 (by omega) K_n
   replace U := U.trans u_n
   clear h1
   have h1 := h_n
   clear h_n u_n K_n
   go_wp2_with fail
   refine Calls.mono (C7.out _ h1) ?_
   rintro e v2 ⟨rfl, h_n, u_n⟩
   have K_n := h1.keepQ u_n.2
   replace VZ := VZ.upd u_n.2 hZR
   replace VO := VO.upd u_n.2 hOR
   replace MO := TMo.upd MO u_n.2 (by omega) K_n
   replace U := U.trans u_n
   clear h1
   have h1 := h_n
   clear h_n u_n K_n
   go_wp2_with fail
   refine Calls.mono (C8.out _ h1) ?_
   rintro e v3 ⟨rfl, h_n, u_n⟩
   have K_n := h1.keepQ u_n.2
   replace VZ := VZ.upd u_n.2 hZR
   replace VO := VO.upd u_n.2 hOR
   replace MO := TMo.upd MO u_n.2 (by omega) K_n
   replace U := U.trans u_n
   clear h1
   have h1 := h_n
   clear h_n u_n K_n
   obtain ⟨q1, q2, q3, q4⟩ := id VO
   obtain ⟨s1, s2, s3, s4⟩ := id VZ
   have VZ2 := VZ.same (.int .i64 (F : Int)) (.slice at3 i ct3)
   obtain ⟨y1, y2, y3, y4⟩ := id VZ2
   have K1 : KeepQ IsLimb v3 (v3.setCell ⟨RZ, 0, none⟩ (.int .i64 (F : Int))) := keepL_set s1 (limb_int _) _
   have K2 := keepL_set (cell_set_by (u := .int .i64 (F : Int)) (j := 0) s2 (by omega)) (limb_slice _ _ _) (.slice at3 i ct3)
   have MO2 := (MO.set (a := ⟨RZ, 0, none⟩) (by show RZ < RO + 1; omega) _ K1).set (a := ⟨RZ, 1, none⟩) (by show RZ < RO + 1; omega) _ K2
   have h2 := h1.low (((Below.refl (R + 1) _).setCell (p := ⟨RZ, 0, none⟩) hR1 (.int .i64 (F : Int))).setCell (p := ⟨RZ, 1, none⟩) hR1 (.slice at3 i ct3))
   have U2 := (U.new (RT := RZ) hwZ 0 (.int .i64 (F : Int))).new (RT := RZ) hwZ 1 (.slice at3 i ct3)
   clear K1 K2 MO h1 U VZ VZ2 VO
   go_wp2
   (try simp only [Exit.inBlock, Exit.then])
   refine bodyPost_ret (v := .agg #[.int .i64 (F : Int), .slice at3 i ct3]) (by simp [results, Tryz.results25, go_sem, y1, y2]) rfl ?_
   exact ⟨_, rfl, MO2.le (by omega), h2, U2⟩

/-- What a text is read as: how many features, the trees, the error and its place. -/
def mrE (s : ByteArray) : Nat := (rd0 s).allR.err
def mrA (s : ByteArray) : Nat := if mrE s = 0 then 0 else (rd0 s).allR.at_
def mrF (s : ByteArray) : Nat := if mrE s = 0 then (rd0 s).feats else 0
def mrT (s : ByteArray) : List (List TidN) := if mrE s = 0 then (rd0 s).allT else []
def ReadOut (w : World) (s : ByteArray) (e : Ending) (w' : World) : Prop := ∃ v, e = .returned (.tuple #[.agg #[.int .i64 (mrF s : Int), v], .agg #[.int .i64 (mrE s : Int), .int .i64 (mrA s : Int), .int .i64 0, .int .i64 0]]) ∧ TMo w.heap.size w' v (mrT s) ∧ Below w.heap.size w w'
theorem V4.blk {w w' : World} {R : Nat} {a b c d : Value} (h : V4 w R a b c d) (e : w'.heap[R]? = w.heap[R]?) : V4 w' R a b c d := by
 obtain ⟨⟨h1, h2, h3, h4, h5, h6⟩, h7, h8⟩ := h
 exact ⟨⟨(World.cell?_of_block e).trans h1, (World.cell?_of_block e).trans h2, (World.cell?_of_block e).trans h3, (World.frozen?_of_block e).trans h4, (World.frozen?_of_block e).trans h5, (World.frozen?_of_block e).trans h6⟩, (World.cell?_of_block e).trans h7, (World.frozen?_of_block e).trans h8⟩
theorem V4.upd {w w' : World} {R RT a b : Nat} {x y z u : Value} (h : V4 w RT x y z u) (q : Upd w w' R a b) (hn : RT ≠ R) : V4 w' RT x y z u := h.blk (q.block RT (World.block_lt_of_cell? _ _ h.1.1) hn)
theorem treesT_all (r : Rd) (n : Nat) : ∀ l ∈ r.treesT n, l.length ≤ 255 := by
 induction n with
 | zero => intro l hl; simp [Rd.treesT] at hl
 | succ n ih =>
  intro l hl
  rw [Rd.treesT_succ, List.mem_append] at hl
  rcases hl with hl | hl
  ·exact ih l hl
  ·obtain rfl := List.mem_singleton.1 hl
   show (Rd.treeT _).length ≤ 255
   unfold Rd.treeT
   rw [Rd.nodes_len]
   exact Rd.cnt_le _ _ _ _
theorem mrT_len (s : ByteArray) : (mrT s).length ≤ 64 := by
 unfold mrT
 split
 ·unfold Rd.allT
  rw [Rd.trees_len]
  exact Rd.cnt_le _ _ _ _
 ·exact Nat.zero_le _
theorem mrT_all (s : ByteArray) : ∀ l ∈ mrT s, l.length ≤ 255 := by
 unfold mrT
 split
 ·exact treesT_all _ _
 ·intro l hl; simp at hl
theorem rd0_len (s : ByteArray) : (rd0 s).len = s.size := by
 unfold rd0
 split <;> rfl

set_option maxRecDepth 100000 in
set_option maxHeartbeats 8000000 in
theorem mread_at (s : ByteArray) (w : World) (hs : s.size ≤ 4000) (ht : Tab w) (hE : Erg w) : Calls Tryz.prog 10 #[.string s] w (ReadOut w s) := by
 have C1 : Hid (∀ W, Calls Tryz.prog 24 #[.string s] W fun e w' => ∃ R, e = .returned (.pointer (some ⟨R, 0, none⟩)) ∧ W.heap.size ≤ R ∧ RM w' R (rd0 s) ∧ RdOK (rd0 s) ∧ Below W.heap.size W w') := fun W => Read_at s W (by omega)
 have hl : (rd0 s).len ≤ 4000 := by rw [rd0_len]; exact hs
 unfold ReadOut mrF mrT mrA mrE
 have C2 : Hid (∀ W R, RM W R (rd0 s) → RdOK (rd0 s) → Tab W → Erg W → Calls Tryz.prog 25 #[.pointer (some ⟨R, 0, none⟩)] W (ModOut W R (rd0 s).feats (rd0 s).allT (rd0 s).allR)) := fun W R a b c d => rmodel_at a b hl c d
 have HLT : Hid ((rd0 s).allT.length = (rd0 s).many) := Rd.trees_len _ _
 generalize (rd0 s).feats = F at *
 generalize (rd0 s).allT = ls at *
 generalize (rd0 s).allR = rz at *
 generalize (rd0 s).many = mm at *
 generalize rd0 s = r0 at *
 obtain ⟨W0, hW0, hS0, hL0, VZ⟩ := V2.lay w 24 (.int .i64 0) (.slice none 0 0)
 obtain ⟨W1, hW1, hS1, hL1, VF⟩ := V4.lay W0 31 (.int .i64 0) (.int .i64 0) (.int .i64 0) (.int .i64 0)
 replace VZ := VZ.below hL1
 have BB := hL0.trans (hL1.mono hL0.size)
 rw [hS0] at VF
 go_enter Tryz.func10, Tryz.ntmps10
 go_wp2_with fail
 rw [← hW0]
 rw [← hW1]
 obtain ⟨RF, hRF⟩ : ∃ q, w.heap.size + 1 = q := ⟨_, rfl⟩
 rw [hRF] at VF
 rw [hRF]
 obtain ⟨RZ, hRZ⟩ : ∃ q, w.heap.size = q := ⟨_, rfl⟩
 have HRZ : Hid (w.heap.size = RZ) := hRZ
 rw [hRZ] at VZ
 rw [hRZ]
 have hZF : RZ < RF := by omega
 have hF1 : RF < W1.heap.size := by omega
 clear hW0 hW1 hS0 hS1 hL0 hL1 hRF hRZ
 refine Calls.mono (C1.out _) ?_
 rintro e w1 ⟨R, rfl, hR, h1, ho, b1⟩
 replace VZ := VZ.below b1
 replace VF := VF.below b1
 replace BB := BB.trans (b1.mono BB.size)
 have hRZ : RZ ≠ R := by omega
 have hRF : RF ≠ R := by omega
 have hF2 : RF < w1.heap.size := by have := b1.size; omega
 clear b1 C1
 have ht1 := ht.below BB
 have hE1 := hE.below BB
 go_wp2_with fail
 refine Calls.mono (C2.out _ _ h1 ho ht1 hE1) ?_
 rintro e w2 ⟨v, rfl, MO, h2, u2⟩
 replace VZ := VZ.upd u2.2 hRZ
 replace VF := VF.upd u2.2 hRF
 have BB2 : Below w.heap.size w w2 := BB.trans (Upd.below u2.2 (by have := HRZ.out; omega) BB.size)
 have MO1 : TMo (RF + 1) w2 v ls := MO.le (by omega)
 clear C2 BB u2 h1 MO ht1 hE1 ho
 obtain ⟨av, cv, rfl, hcv⟩ := MO1.form
 obtain ⟨W3, hW3, hS3, hL3, VM⟩ := V2.lay w2 24 (.int .i64 (F : Int)) (.slice av ls.length cv)
 obtain ⟨q1, q2, q3, q4⟩ := id VM
 rw [hW3] at q1 q2 q3 q4
 have lz := VZ.lt
 have lf : RF < w2.heap.size := World.block_lt_of_cell? _ _ VF.1.1
 go_wp2_with fail
 rw [← hW3]
 replace VZ := VZ.below hL3
 replace VF := VF.below hL3
 replace h2 := h2.below hL3
 replace MO1 := MO1.below hL3
 have BB := BB2.trans (hL3.mono BB2.size)
 obtain ⟨RM_, hRM⟩ : ∃ q, w2.heap.size = q := ⟨_, rfl⟩
 rw [hRM] at VM lz lf
 rw [hRM]
 clear q1 q2 q3 q4 hW3 hS3 hL3 hRM BB2
 refine (Err_at h2).mono ?_
 rintro e w4 ⟨rfl, b4⟩
 replace VZ := VZ.below b4
 replace VF := VF.below b4
 replace VM := VM.below b4
 replace MO1 := MO1.below b4
 replace BB := BB.trans (b4.mono BB.size)
 clear b4 h2
 have hzw : w.heap.size ≤ RZ := by have := HRZ.out; omega
 by_cases he : rz.err = 0
 ·have HE : Hid (rz.err = 0) := he
  have e0 : (rz.err : Int) = 0 := by omega
  rw [e0]
  generalize (rz.at_ : Int) = A
  clear he e0
  obtain ⟨q1, q2, q3, q4⟩ := id VZ
  obtain ⟨⟨f1, f2, f3, f4, f5, f6⟩, f7, f8⟩ := id VF
  obtain ⟨m1, m2, m3, m4⟩ := id VM
  go_wp2_with fail
  (try simp only [Exit.inBlock, Exit.then])
  have VZ2 := VZ.same (.int .i64 (F : Int)) (.slice av ls.length cv)
  have VF2 : V4 ((w4.setCell ⟨RZ, 0, none⟩ (.int .i64 (F : Int))).setCell ⟨RZ, 1, none⟩ (.slice av ls.length cv)) RF _ _ _ _ := VF.blk ((Below.heap_setCell _ _ _ _ (by show RF ≠ RZ; omega)).trans (Below.heap_setCell _ _ _ _ (by show RF ≠ RZ; omega)))
  have VZ3 : V2 (((((((w4.setCell ⟨RZ, 0, none⟩ (.int .i64 (F : Int))).setCell ⟨RZ, 1, none⟩ (.slice av ls.length cv))).setCell ⟨RF, 0, none⟩ (.int .i64 0)).setCell ⟨RF, 1, none⟩ (.int .i64 0)).setCell ⟨RF, 2, none⟩ (.int .i64 0)).setCell ⟨RF, 3, none⟩ (.int .i64 0)) RZ _ _ := VZ2.blk ((((Below.heap_setCell _ _ _ _ (by show RZ ≠ RF; omega)).trans (Below.heap_setCell _ _ _ _ (by show RZ ≠ RF; omega))).trans (Below.heap_setCell _ _ _ _ (by show RZ ≠ RF; omega))).trans (Below.heap_setCell _ _ _ _ (by show RZ ≠ RF; omega)))
  obtain ⟨y1, y2, y3, y4⟩ := id VZ3
  have g1 : (((((((w4.setCell ⟨RZ, 0, none⟩ (.int .i64 (F : Int))).setCell ⟨RZ, 1, none⟩ (.slice av ls.length cv))).setCell ⟨RF, 0, none⟩ (.int .i64 0)).setCell ⟨RF, 1, none⟩ (.int .i64 0)).setCell ⟨RF, 2, none⟩ (.int .i64 0)).setCell ⟨RF, 3, none⟩ (.int .i64 0)).cell? ⟨RF, 0, none⟩ = some (.int .i64 0) := cell_set_by (cell_set_by (cell_set_by (cell_set_at VF2.1.1) (by omega)) (by omega)) (by omega)
  have g2 : (((((((w4.setCell ⟨RZ, 0, none⟩ (.int .i64 (F : Int))).setCell ⟨RZ, 1, none⟩ (.slice av ls.length cv))).setCell ⟨RF, 0, none⟩ (.int .i64 0)).setCell ⟨RF, 1, none⟩ (.int .i64 0)).setCell ⟨RF, 2, none⟩ (.int .i64 0)).setCell ⟨RF, 3, none⟩ (.int .i64 0)).cell? ⟨RF, 1, none⟩ = some (.int .i64 0) := cell_set_by (cell_set_by (cell_set_at (cell_set_by VF2.1.2.1 (by omega))) (by omega)) (by omega)
  have g3 : (((((((w4.setCell ⟨RZ, 0, none⟩ (.int .i64 (F : Int))).setCell ⟨RZ, 1, none⟩ (.slice av ls.length cv))).setCell ⟨RF, 0, none⟩ (.int .i64 0)).setCell ⟨RF, 1, none⟩ (.int .i64 0)).setCell ⟨RF, 2, none⟩ (.int .i64 0)).setCell ⟨RF, 3, none⟩ (.int .i64 0)).cell? ⟨RF, 2, none⟩ = some (.int .i64 0) := cell_set_by (cell_set_at (cell_set_by (cell_set_by VF2.1.2.2.1 (by omega)) (by omega))) (by omega)
  have g4 : (((((((w4.setCell ⟨RZ, 0, none⟩ (.int .i64 (F : Int))).setCell ⟨RZ, 1, none⟩ (.slice av ls.length cv))).setCell ⟨RF, 0, none⟩ (.int .i64 0)).setCell ⟨RF, 1, none⟩ (.int .i64 0)).setCell ⟨RF, 2, none⟩ (.int .i64 0)).setCell ⟨RF, 3, none⟩ (.int .i64 0)).cell? ⟨RF, 3, none⟩ = some (.int .i64 0) := cell_set_at (cell_set_by (cell_set_by (cell_set_by VF2.2.1 (by omega)) (by omega)) (by omega))
  have BB2 := (((((BB.setCell (p := ⟨RZ, 0, none⟩) hzw (.int .i64 (F : Int))).setCell (p := ⟨RZ, 1, none⟩) hzw (.slice av ls.length cv)).setCell (p := ⟨RF, 0, none⟩) (by show _ ≤ RF; omega) (.int .i64 0)).setCell (p := ⟨RF, 1, none⟩) (by show _ ≤ RF; omega) (.int .i64 0)).setCell (p := ⟨RF, 2, none⟩) (by show _ ≤ RF; omega) (.int .i64 0)).setCell (p := ⟨RF, 3, none⟩) (by show _ ≤ RF; omega) (.int .i64 0)
  have K1 : KeepQ IsLimb w4 (w4.setCell ⟨RZ, 0, none⟩ (.int .i64 (F : Int))) := keepL_set q1 (limb_int _) _
  have K2 := keepL_set (cell_set_by (u := .int .i64 (F : Int)) (j := 0) q2 (by omega)) (limb_slice _ _ _) (.slice av ls.length cv)
  have MO2 := (MO1.set (a := ⟨RZ, 0, none⟩) (by show RZ < RF + 1; omega) _ K1).set (a := ⟨RZ, 1, none⟩) (by show RZ < RF + 1; omega) _ K2
  have MO3 := MO2.set (a := ⟨RF, 0, none⟩) (by show RF < RF + 1; omega) (.int .i64 0) (keepL_set VF2.1.1 (limb_int _) _)
  have MO4 := MO3.set (a := ⟨RF, 1, none⟩) (by show RF < RF + 1; omega) (.int .i64 0) (keepL_set (cell_set_by VF2.1.2.1 (by omega)) (limb_int _) _)
  have MO5 := MO4.set (a := ⟨RF, 2, none⟩) (by show RF < RF + 1; omega) (.int .i64 0) (keepL_set (cell_set_by (cell_set_by VF2.1.2.2.1 (by omega)) (by omega)) (limb_int _) _)
  have MO6 := MO5.set (a := ⟨RF, 3, none⟩) (by show RF < RF + 1; omega) (.int .i64 0) (keepL_set (cell_set_by (cell_set_by (cell_set_by VF2.2.1 (by omega)) (by omega)) (by omega)) (limb_int _) _)
  clear VZ VF VZ2 VF2 VZ3 BB VM K1 K2 MO2 MO3 MO4 MO5
  refine bodyPost_ret (v := .tuple #[.agg #[.int .i64 (F : Int), .slice av ls.length cv], .agg #[.int .i64 0, .int .i64 0, .int .i64 0, .int .i64 0]]) (by simp [results, Tryz.results10, go_sem, y1, y2, g1, g2, g3, g4]) rfl ?_
  have MO7 := MO6
  refine ⟨.slice av ls.length cv, ?_, ?_, BB2⟩
  ·rfl
  ·exact MO7.le (by omega)
 ·have HE : Hid (¬ rz.err = 0) := he
  have d1 : ((rz.err : Int) == 0) = false := by simpa using he
  have d2 : decide ((rz.err : Int) = 0) = false := by simpa using he
  have d3 : ((rz.err : Int) != 0) = true := by simpa using he
  clear he
  obtain ⟨E, hEq⟩ : ∃ E : Int, (rz.err : Int) = E := ⟨_, rfl⟩
  obtain ⟨A, hAq⟩ : ∃ A : Int, (rz.at_ : Int) = A := ⟨_, rfl⟩
  have HEE : Hid ((rz.err : Int) = E) := hEq
  have HAA : Hid ((rz.at_ : Int) = A) := hAq
  rw [hEq] at d1 d2 d3
  rw [hEq, hAq]
  clear hEq hAq
  obtain ⟨q1, q2, q3, q4⟩ := id VZ
  obtain ⟨⟨f1, f2, f3, f4, f5, f6⟩, f7, f8⟩ := id VF
  obtain ⟨m1, m2, m3, m4⟩ := id VM
  go_wp2_with fail
  (try simp only [Exit.inBlock, Exit.then])
  have VZ2 := VZ.same (.int .i64 0) (.slice none 0 0)
  have VF2 : V4 ((w4.setCell ⟨RZ, 0, none⟩ (.int .i64 0)).setCell ⟨RZ, 1, none⟩ (.slice none 0 0)) RF _ _ _ _ := VF.blk ((Below.heap_setCell _ _ _ _ (by show RF ≠ RZ; omega)).trans (Below.heap_setCell _ _ _ _ (by show RF ≠ RZ; omega)))
  have VZ3 : V2 (((((((w4.setCell ⟨RZ, 0, none⟩ (.int .i64 0)).setCell ⟨RZ, 1, none⟩ (.slice none 0 0))).setCell ⟨RF, 0, none⟩ (.int .i64 E)).setCell ⟨RF, 1, none⟩ (.int .i64 A)).setCell ⟨RF, 2, none⟩ (.int .i64 0)).setCell ⟨RF, 3, none⟩ (.int .i64 0)) RZ _ _ := VZ2.blk ((((Below.heap_setCell _ _ _ _ (by show RZ ≠ RF; omega)).trans (Below.heap_setCell _ _ _ _ (by show RZ ≠ RF; omega))).trans (Below.heap_setCell _ _ _ _ (by show RZ ≠ RF; omega))).trans (Below.heap_setCell _ _ _ _ (by show RZ ≠ RF; omega)))
  obtain ⟨y1, y2, y3, y4⟩ := id VZ3
  have g1 : (((((((w4.setCell ⟨RZ, 0, none⟩ (.int .i64 0)).setCell ⟨RZ, 1, none⟩ (.slice none 0 0))).setCell ⟨RF, 0, none⟩ (.int .i64 E)).setCell ⟨RF, 1, none⟩ (.int .i64 A)).setCell ⟨RF, 2, none⟩ (.int .i64 0)).setCell ⟨RF, 3, none⟩ (.int .i64 0)).cell? ⟨RF, 0, none⟩ = some (.int .i64 E) := cell_set_by (cell_set_by (cell_set_by (cell_set_at VF2.1.1) (by omega)) (by omega)) (by omega)
  have g2 : (((((((w4.setCell ⟨RZ, 0, none⟩ (.int .i64 0)).setCell ⟨RZ, 1, none⟩ (.slice none 0 0))).setCell ⟨RF, 0, none⟩ (.int .i64 E)).setCell ⟨RF, 1, none⟩ (.int .i64 A)).setCell ⟨RF, 2, none⟩ (.int .i64 0)).setCell ⟨RF, 3, none⟩ (.int .i64 0)).cell? ⟨RF, 1, none⟩ = some (.int .i64 A) := cell_set_by (cell_set_by (cell_set_at (cell_set_by VF2.1.2.1 (by omega))) (by omega)) (by omega)
  have g3 : (((((((w4.setCell ⟨RZ, 0, none⟩ (.int .i64 0)).setCell ⟨RZ, 1, none⟩ (.slice none 0 0))).setCell ⟨RF, 0, none⟩ (.int .i64 E)).setCell ⟨RF, 1, none⟩ (.int .i64 A)).setCell ⟨RF, 2, none⟩ (.int .i64 0)).setCell ⟨RF, 3, none⟩ (.int .i64 0)).cell? ⟨RF, 2, none⟩ = some (.int .i64 0) := cell_set_by (cell_set_at (cell_set_by (cell_set_by VF2.1.2.2.1 (by omega)) (by omega))) (by omega)
  have g4 : (((((((w4.setCell ⟨RZ, 0, none⟩ (.int .i64 0)).setCell ⟨RZ, 1, none⟩ (.slice none 0 0))).setCell ⟨RF, 0, none⟩ (.int .i64 E)).setCell ⟨RF, 1, none⟩ (.int .i64 A)).setCell ⟨RF, 2, none⟩ (.int .i64 0)).setCell ⟨RF, 3, none⟩ (.int .i64 0)).cell? ⟨RF, 3, none⟩ = some (.int .i64 0) := cell_set_at (cell_set_by (cell_set_by (cell_set_by VF2.2.1 (by omega)) (by omega)) (by omega))
  have BB2 := (((((BB.setCell (p := ⟨RZ, 0, none⟩) hzw (.int .i64 0)).setCell (p := ⟨RZ, 1, none⟩) hzw (.slice none 0 0)).setCell (p := ⟨RF, 0, none⟩) (by show _ ≤ RF; omega) (.int .i64 E)).setCell (p := ⟨RF, 1, none⟩) (by show _ ≤ RF; omega) (.int .i64 A)).setCell (p := ⟨RF, 2, none⟩) (by show _ ≤ RF; omega) (.int .i64 0)).setCell (p := ⟨RF, 3, none⟩) (by show _ ≤ RF; omega) (.int .i64 0)
  clear VZ VF VZ2 VF2 VZ3 BB VM
  refine bodyPost_ret (v := .tuple #[.agg #[.int .i64 0, .slice none 0 0], .agg #[.int .i64 E, .int .i64 A, .int .i64 0, .int .i64 0]]) (by simp [results, Tryz.results10, go_sem, y1, y2, g1, g2, g3, g4]) rfl ?_
  refine ⟨.slice none 0 0, ?_, ?_, BB2⟩
  ·rw [HEE.out, HAA.out]
  ·exact TMo.nil _ _

def GoodQ (o : Option Rat) : Prop := ∀ q, o = some q → qsz q ≤ 20000
/-- A node as a reader makes it. -/
structure GoodN (d : TidN) : Prop where
 f : 0 ≤ d.feat ∧ d.feat ≤ 64
 l : 0 ≤ d.left ∧ d.left ≤ 255
 r : 0 ≤ d.right ∧ d.right ≤ 255
 c : GoodQ d.cut
 v : GoodQ d.val
 w : GoodQ d.cov
theorem goodQ_none : GoodQ none := fun q h => by cases h
theorem qsz_word (s : ByteArray) (hs : s.size ≤ 4000) : qsz (qval s) ≤ 20000 := by
 have h := pp_nl (pdig s) (by have := pdig_size s; omega)
 unfold qval
 exact nl_num_mkRat _ _ 20000 (by rw [zof_abs]; exact h.1) h.2 (by omega)
theorem numV_good {r : Rd} (ho : RdOK r) (hl : r.len ≤ 4000) : GoodQ r.numV := by
 intro q h
 unfold Rd.numV at h
 split at h
 ·cases h
  exact qsz_word _ (Nat.le_trans ho.wtx hl)
 ·cases h
theorem leafT_good {r : Rd} (ho : RdOK r) (hl : r.len ≤ 4000) : GoodN r.leafT := by
 have g1 := numV_good ho hl
 have g2 := numV_good (RdOK.numR ho) (by rw [numR_len]; exact hl)
 unfold Rd.leafT
 generalize r.numR.numV = D at *
 generalize r.numV = E at *
 exact ⟨⟨by show (0 : Int) ≤ 0; omega, by show (0 : Int) ≤ 64; omega⟩, ⟨by show (0 : Int) ≤ 0; omega, by show (0 : Int) ≤ 255; omega⟩, ⟨by show (0 : Int) ≤ 0; omega, by show (0 : Int) ≤ 255; omega⟩, goodQ_none, g1, g2⟩
theorem splitT_good {r : Rd} (ho : RdOK r) (hl : r.len ≤ 4000) : GoodN r.splitT := by
 have n0 : r.sp0.len ≤ 4000 := by unfold Rd.sp0; rw [count_len]; exact hl
 have n1 : r.sp1.len ≤ 4000 := by unfold Rd.sp1; rw [numR_len]; exact n0
 have n2 : r.sp2.len ≤ 4000 := by unfold Rd.sp2; rw [count_len]; exact n1
 have n3 : r.sp3.len ≤ 4000 := by unfold Rd.sp3; rw [count_len]; exact n2
 have n4 : r.sp4.len ≤ 4000 := by unfold Rd.sp4; rw [pick_len]; exact n3
 have a := r.count_le 0 64
 have b := r.sp1.count_le 0 255
 have c := r.sp2.count_le 0 255
 have g1 := numV_good (RdOK.sp0 ho) n0
 have g2 := numV_good (RdOK.sp4 ho) n4
 unfold Rd.splitT
 generalize (r.count 0 64).1 = A at *
 generalize (r.sp1.count 0 255).1 = B at *
 generalize (r.sp2.count 0 255).1 = C at *
 generalize r.sp0.numV = D at *
 generalize r.sp4.numV = E at *
 exact ⟨⟨by show (0 : Int) ≤ (A : Int); omega, by show (A : Int) ≤ 64; omega⟩, ⟨by show (0 : Int) ≤ (B : Int); omega, by show (B : Int) ≤ 255; omega⟩, ⟨by show (0 : Int) ≤ (C : Int); omega, by show (C : Int) ≤ 255; omega⟩, g1, goodQ_none, g2⟩
theorem nodeT_good {r : Rd} (ho : RdOK r) (hl : r.len ≤ 4000) : GoodN r.nodeT := by
 by_cases h : r.kind = 0
 ·rw [Rd.nodeT_leaf h]; exact leafT_good (RdOK.kindR ho) (by rw [kindR_len]; exact hl)
 ·rw [Rd.nodeT_split h]; exact splitT_good (RdOK.kindR ho) (by rw [kindR_len]; exact hl)
theorem nodesT_good {r : Rd} (ho : RdOK r) (hl : r.len ≤ 4000) (n : Nat) : ∀ d ∈ r.nodesT n, GoodN d := by
 induction n with
 | zero => intro d hd; simp [Rd.nodesT] at hd
 | succ n ih =>
  intro d hd
  rw [Rd.nodesT_succ, List.mem_append] at hd
  rcases hd with hd | hd
  ·exact ih d hd
  ·obtain rfl := List.mem_singleton.1 hd
   exact nodeT_good (RdOK.nodesR ho n) (by rw [nodesR_len]; exact hl)
theorem treesT_good {r : Rd} (ho : RdOK r) (hl : r.len ≤ 4000) (n : Nat) : ∀ l ∈ r.treesT n, ∀ d ∈ l, GoodN d := by
 induction n with
 | zero => intro l hd; simp [Rd.treesT] at hd
 | succ n ih =>
  intro l hd
  rw [Rd.treesT_succ, List.mem_append] at hd
  rcases hd with hd | hd
  ·exact ih l hd
  ·obtain rfl := List.mem_singleton.1 hd
   unfold Rd.treeT
   exact nodesT_good (RdOK.cntR (RdOK.treesR ho n) _ _ _) (by rw [cntR_len, treesR_len]; exact hl) _
theorem mrT_good (s : ByteArray) (hs : s.size ≤ 4000) (ho : RdOK (rd0 s)) : ∀ l ∈ mrT s, ∀ d ∈ l, GoodN d := by
 unfold mrT
 split
 ·unfold Rd.allT
  refine treesT_good (RdOK.manyR ho) ?_ _
  unfold Rd.manyR; rw [cntR_len]; unfold Rd.headR; rw [cntR_len]; unfold Rd.topR; rw [next_len, take_len, take_len, rd0_len]; exact hs
 ·intro l hl; simp at hl
theorem rd0_fine (s : ByteArray) (w : World) (hs : s.size ≤ 4000) : RdOK (rd0 s) := by
 obtain ⟨e, w', fr, ⟨R, _, _, _, ho, _⟩, _⟩ := (Read_at s w (by omega)) []
 exact ho
/-- A node by plain numbers. -/
def fnd (d : TidN) : Nd := ⟨d.leaf, d.feat, d.cut.getD 0, d.left, d.right, d.miss, d.val.getD 0, d.cov.getD 0⟩
def nd0 : Nd := ⟨false, 0, 0, 0, 0, false, 0, 0⟩
def lenT (ls : List (List TidN)) (i : Nat) : Nat := (ls.getD i []).length
def ndT (ls : List (List TidN)) (i q : Nat) : Nd := (((ls.getD i []).map fnd).getD q nd0)
theorem ExT.atQ {w : World} {x y z : Value} {o : Option Rat} (h : ExT w x y z o) (hg : GoodQ o) : AtN w x y z (o.getD 0) 20000 := by
 cases o with
 | none => exact ExT.at_none h _
 | some q => exact ExT.at_some h (hg q rfl)
theorem TNode.atN {w : World} {el : Nat → Value} {d : TidN} (h : TNode w el d) (g : GoodN d) : NodeAt w el (fnd d) 20000 := by
 obtain ⟨a, b, c, e, f, k, m, n⟩ := h
 have i1 : I64 d.feat := by have := g.f; constructor <;> omega
 have i2 : I64 d.left := by have := g.l; constructor <;> omega
 have i3 : I64 d.right := by have := g.r; constructor <;> omega
 exact ⟨a, b, c.atQ g.c, e, f, k, m.atQ g.v, n.atQ g.w, i1, i2, i3⟩
theorem TMo.mrowG {B : Nat} {w : World} {v : Value} {ls : List (List TidN)} (h : TMo B w v ls) (hg : ∀ l ∈ ls, ∀ d ∈ l, GoodN d) : MRow w v ls.length (lenT ls) (ndT ls) 20000 := by
 obtain ⟨us, h1, _, h3⟩ := h
 refine ⟨fun i _ => us.getD i undef, ?_, fun i hi => ?_⟩
 ·refine RowAt.of_owns h1 fun i hi j hj => ?_
  have hl : us.length = ls.length * 1 := h1.1
  obtain rfl : j = 0 := by omega
  rw [List.getD_eq_getElem?_getD, Nat.mul_one, Nat.add_zero, List.getElem?_eq_getElem (by omega)]
  rfl
 ·have hgi : ls[i]? = some ls[i] := List.getElem?_eq_getElem hi
  have hd : ls.getD i [] = ls[i] := by rw [List.getD_eq_getElem?_getD, hgi]; rfl
  have hm : ls[i] ∈ ls := List.getElem_mem hi
  obtain ⟨u, hu, ht⟩ := h3 i _ hgi
  have e : us.getD i undef = u := by rw [List.getD_eq_getElem?_getD, hu]; rfl
  show TRow w (us.getD i undef) (lenT ls i) (ndT ls i) 20000
  unfold lenT
  have e2 : ndT ls i = fun q => ((ls[i].map fnd).getD q nd0) := by funext q; unfold ndT; rw [hd]
  rw [e, hd, e2]
  obtain ⟨el1, hr, hn⟩ := GOwn.row ht tnodeEl
  refine ⟨el1, hr, fun q hq => ?_⟩
  have hq1 : ls[i][q]? = some ls[i][q] := List.getElem?_eq_getElem hq
  have hq2 : (ls[i].map fnd).getD q nd0 = fnd ls[i][q] := by rw [List.getD_eq_getElem?_getD, List.getElem?_map, hq1]; rfl
  show NodeAt w (el1 q) ((ls[i].map fnd).getD q nd0) 20000
  rw [hq2]
  exact TNode.atN (hn q _ hq1) (hg _ hm _ (List.getElem_mem hq))

end Go.Proofs.YthkamfddbiheoaaGreatDoor
