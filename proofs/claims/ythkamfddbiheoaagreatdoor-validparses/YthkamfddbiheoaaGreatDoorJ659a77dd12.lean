/-
  Texts of mine.
-/
import Derived.Test.YthkamfddbiheoaaGreatDoorJb00f000c3f
import Derived.Lib.Strings
import Derived.WalkSmall
namespace Go.Proofs.YthkamfddbiheoaaGreatDoor
open Go.RowKit

/-- Byte i of a text is a digit. -/
abbrev isDig (s : ByteArray) (i : Nat) : Prop := 48 ≤ (s.data.toList.getD i 0).toNat ∧ (s.data.toList.getD i 0).toNat ≤ 57
/-- A text that is not empty and has nothing but digits. -/
def digitsB (s : ByteArray) : Bool := decide (0 < s.size ∧ ∀ i, i < s.size → isDig s i)
theorem byte_at (s : ByteArray) (i : Nat) (h : i < s.size) : (s.data.toList.getD i 0) = s[i] := by
 have h' : i < s.data.toList.length := by simpa using h
 simp [List.getD, List.getElem?_eq_getElem h']; rfl
theorem digitsB_no (s : ByteArray) (i : Nat) (h : i < s.size) (hd : ¬ (48 ≤ (s[i]).toNat ∧ (s[i]).toNat ≤ 57)) : digitsB s = false := by
 simp only [digitsB, decide_eq_false_iff_not]
 rintro ⟨_, g⟩
 have := g i h
 unfold isDig at this
 rw [byte_at s i h] at this
 exact hd this
theorem digitsB_yes (s : ByteArray) (h : ∀ i, i < s.size → isDig s i) : digitsB s = decide (0 < s.size) := by
 rw [Bool.eq_iff_iff]; simp only [digitsB, decide_eq_true_eq]
 exact ⟨fun g => g.1, fun g => ⟨g, h⟩⟩

set_option maxRecDepth 20000 in
set_option maxHeartbeats 1000000 in
theorem areDigits_any (s : ByteArray) (w : World) :
  Calls Tryz.prog 180 #[.string s] w fun e w' => e = .returned (.bool (digitsB s)) ∧ Below w.heap.size w w' := by
 go_enter Tryz.func180, Tryz.ntmps180
 go_wp2
 go_loopw [] (fun wr => ∃ pos : Nat, pos ≤ s.size ∧ wr = w.iter s pos ∧ ∀ i, i < pos → isDig s i) (fun wr => s.size - wr.iterPos w.heap.size)
 case atStart => exact ⟨0, Nat.zero_le _, rfl, fun i hi => by omega⟩
 case round =>
  obtain ⟨pos, hpos, rfl, hd⟩ := hrel
  have HD : Hid (∀ i, i < pos → isDig s i) := hd
  clear hd
  have hbel : ∀ p, Below w.heap.size w (w.iter s p) := fun p => (Below.refl _ w).alloc (Nat.le_refl _) _
  by_cases hlt : pos < s.size
  ·by_cases ha : (s[pos]).toNat < 128
   ·have hnx := fun ty => run_next_ascii (P := Tryz.prog) w s pos ty hlt ha
    by_cases h1 : (s[pos]).toNat < 48
    ·have h1i : ((s[pos]).toNat : Int) < 48 := by omega
     go_wp2
     go_ret
     exact ⟨ret_bool (digitsB_no s pos hlt (by omega)).symm, hbel _⟩
    ·have h1i : decide (((s[pos]).toNat : Int) < 48) = false := by simp; omega
     by_cases h2 : 57 < (s[pos]).toNat
     ·have h2i : (57 : Int) < ((s[pos]).toNat : Int) := by omega
      go_wp2
      go_ret
      exact ⟨ret_bool (digitsB_no s pos hlt (by omega)).symm, hbel _⟩
     ·have h2i : ¬ (57 : Int) < ((s[pos]).toNat : Int) := by omega
      go_wp2
      go_roundw
      case rel => exact ⟨pos + 1, by omega, rfl, fun i hi => by
       by_cases e : i = pos
       ·subst e; unfold isDig; rw [byte_at s i hlt]; omega
       ·exact HD.out i (by omega)⟩
      case measure => simp; omega
   ·have hnx := fun ty => run_next_any (P := Tryz.prog) w s pos ty hlt
    have hdec := decode_high s pos hlt (by omega)
    have hd1 : ¬ ((Utf8.decode s pos).1 : Int) < 48 := by omega
    have hd1b : decide (((Utf8.decode s pos).1 : Int) < 48) = false := by simp; omega
    have hd2 : (57 : Int) < ((Utf8.decode s pos).1 : Int) := by omega
    go_wp2
    go_ret
    exact ⟨ret_bool (digitsB_no s pos hlt (by omega)).symm, hbel _⟩
  ·have hnx := fun ty => run_next_end (P := Tryz.prog) w s pos ty hlt
   have hall := digitsB_yes s (fun i hi => HD.out i (by omega))
   have HA : Hid (digitsB s = decide (0 < s.size)) := hall
   clear hall
   go_wp2
   go_ret
   refine ⟨ret_bool ?_, hbel _⟩
   rw [HA.out, Lib.toList_data, Bool.eq_iff_iff]
   have : s.size = s.data.toList.length := by simp
   rw [this]
   cases s.data.toList <;> simp

/-- The number that the first n digits are. -/
def dval (s : ByteArray) : Nat → Nat
 | 0 => 0
 | n + 1 => dval s n * 10 + ((s.data.toList.getD n 0).toNat - 48)
theorem dval_lt (s : ByteArray) (n : Nat) (h : ∀ i, i < n → isDig s i) : dval s n < 10 ^ n := by
 induction n with
 | zero => simp [dval]
 | succ n ih =>
  have h1 := ih (fun i hi => h i (by omega))
  have h2 := h n (by omega)
  simp only [dval]
  rw [Nat.pow_succ]
  unfold isDig at h2
  omega

theorem grows_mine {B : Nat} {w : World} {v : Value} {m : Nat} (h : Grows B w v m) (hl : nl W32 m ≤ LIM) : RepM B w v m := by
 unfold Grows at h
 rcases h.2 with ⟨rfl, h0⟩ | ⟨g, cap, cur, rfl, hBg, hcur, hcap, hcm, hcs, htake⟩
 ·unfold RepM; rw [h0]; exact Mine.nil _ _ _ _
 ·refine ⟨_, _, rfl, hcap, hl, fun _ => ⟨_, _, rfl, fun i hi => ?_, fun i _ => ?_, hBg⟩⟩
  ·rw [Nat.zero_add, h.cellAt i (by omega), valsOf_at _ _ _ _ hi]
  ·rw [Nat.zero_add]; exact h.frozenAt i

theorem nl_pow10 (m n : Nat) (h : m < 10 ^ n) : nl W32 m ≤ n :=
 nl_le W32 m n (by decide) (Nat.lt_of_lt_of_le h (Nat.pow_le_pow_left (by decide) n))

set_option maxRecDepth 20000 in
set_option maxHeartbeats 400000 in
theorem parse_form (s : ByteArray) (w : World) (hd : digitsB s = false) :
  Calls Tryz.prog 138 #[.string s] w fun e w' => e = .returned (.tuple #[.slice none 0 0, .int .i64 4]) ∧ Below w.heap.size w w' := by
 go_enter Tryz.func138, Tryz.ntmps138
 go_wp2_with (go_at_call 180; refine (areDigits_any s _).mono ?_; rintro e w1 ⟨rfl, hb1⟩; rw [hd])
 go_ret2
 exact ⟨rfl, hb1⟩

set_option maxRecDepth 20000 in
set_option maxHeartbeats 2000000 in
theorem parse_yes (s : ByteArray) (w : World) (hl : s.size ≤ 10000) (hd : digitsB s = true) :
  Calls Tryz.prog 138 #[.string s] w fun e w' => ∃ v, e = .returned (.tuple #[v, .int .i64 0]) ∧ RepM w.heap.size w' v (dval s s.size) ∧ Below w.heap.size w w' := by
 have hall : ∀ i, i < s.size → isDig s i := by
  have := hd
  simp only [digitsB, decide_eq_true_eq] at this
  exact this.2
 have HALL := show Hid (∀ i, i < s.size → isDig s i) from hall
 clear hall
 go_enter Tryz.func138, Tryz.ntmps138
 go_wp2_with (go_at_call 180; refine (areDigits_any s _).mono ?_; rintro e w1 ⟨rfl, hb1⟩; rw [hd])
 have hw0 : (w1.iter s 0).heap[w1.heap.size]? = some (.stringIter s 0) := World.iter_heap w1 s 0
 have hsz0 : (w1.iter s 0).heap.size = w1.heap.size + 1 := by simp [World.iter]
 have hbel0 : Below w1.heap.size w1 (w1.iter s 0) := (Below.refl _ w1).alloc (Nat.le_refl _) _
 generalize w1.iter s 0 = wi at *
 go_loopw [4, 5, 6] (fun v vc vb wr => ∃ (pos m ch j : Nat), pos ≤ s.size ∧ j < 9 ∧ vc = .int .u64 (ch : Int) ∧ vb = .int .u64 ((10 ^ j : Nat) : Int) ∧ ch < 10 ^ j ∧ dval s pos = m * 10 ^ j + ch ∧ Grows (w1.heap.size + 1) wr v m ∧
   wr.heap[w1.heap.size]? = some (.stringIter s pos) ∧ Below w1.heap.size w1 wr) (fun _ _ _ wr => s.size - wr.iterPos w1.heap.size)
 case atStart => exact ⟨0, 0, 0, 0, Nat.zero_le _, by omega, rfl, rfl, by omega, rfl, by unfold Grows; rw [nl_zero]; exact World.ownsRow_nil _ _ _ _, hw0, hbel0⟩
 case round =>
  obtain ⟨pos, m, ch, j, hpos, hj, rfl, rfl, hch, hdv, hgr, hit, hbel⟩ := hrel
  have HDV : Hid (dval s pos = m * 10 ^ j + ch) := hdv
  have hmb : m < 10 ^ pos := by
   have h1 := dval_lt s pos (fun i hi => HALL.out i (by omega))
   have h2 : m * 1 ≤ m * 10 ^ j := Nat.mul_le_mul_left _ (Nat.pow_pos (by omega))
   omega
  have hnl := nl_pow10 m pos hmb
  clear hdv hmb
  have hltk : w1.heap.size < wr.heap.size := (Array.getElem?_eq_some_iff.1 hit).1
  have hb8 : 10 ^ j ≤ 100000000 := by
   have := Nat.pow_le_pow_right (show 0 < 10 by omega) (show j ≤ 8 by omega)
   omega
  have hb0 : 0 < 10 ^ j := Nat.pow_pos (by omega)
  have hbs : Hid (10 ^ (j + 1) = 10 ^ j * 10) := Nat.pow_succ 10 j
  have hj8 : Hid (10 ^ j * 10 = 1000000000 ↔ j = 8) := by
   show _ ↔ _
   rw [← Nat.pow_succ, show (1000000000 : Nat) = 10 ^ 9 by rfl]
   constructor
   ·intro e; have := (Nat.pow_right_inj (show 1 < 10 by omega)).1 e; omega
   ·intro e; rw [e]
  by_cases hlt : pos < s.size
  ·have hdig := HALL.out pos hlt
   unfold isDig at hdig
   rw [byte_at s pos hlt] at hdig
   have hds : Hid (dval s (pos + 1) = dval s pos * 10 + ((s[pos]).toNat - 48)) := by
    show _ = _
    simp only [dval]; rw [byte_at s pos hlt]
   have hnx := fun ty => Lib.run_next_ascii_at (P := Tryz.prog) wr w1.heap.size s pos ty hit hlt (by omega)
   generalize (s[pos]).toNat = c at *
   generalize hbj : 10 ^ j = b at *
   by_cases h8 : j = 8
   ·have hb9 : b * 10 = 1000000000 := hj8.out.2 h8
    have hbe : ((b : Int) * 10 == 1000000000) = true := by simp; omega
    have HB9 : Hid (b * 10 = 1000000000) := hb9
    clear hb9
    have hbI : (b : Int) * 10 = ((1000000000 : Nat) : Int) := by have := HB9.out; omega
    have HBI : Hid ((b : Int) * 10 = ((1000000000 : Nat) : Int)) := hbI
    have HCI : Hid ((ch : Int) * 10 + ((c : Int) - 48) = ((ch * 10 + (c - 48) : Nat) : Int)) := by show _ = _; omega
    clear hbI
    have hgi : Grows (w1.heap.size + 1) (wr.iterAt w1.heap.size s (pos + 1)) _ m := ownsRow_iterAt hgr (by omega) s (pos + 1)
    have hii := Lib.iterAt_heap wr w1.heap.size s pos (pos + 1) hit
    have hsi := Lib.iterAt_size wr w1.heap.size s (pos + 1)
    have hbi : Below w1.heap.size w1 (wr.iterAt w1.heap.size s (pos + 1)) := Lib.below_iterAt hbel (Nat.le_refl _) s (pos + 1)
    generalize wr.iterAt w1.heap.size s (pos + 1) = wn at *
    go_wp2_with fail
    rw [HBI.out, HCI.out]
    refine (timesPlus_any (w1.heap.size + 1) _ m 1000000000 (ch * 10 + (c - 48)) _ (by omega) hgi (by omega) (by omega) (by omega) (by omega)).mono ?_
    rintro e w2 ⟨v2, rfl, hg2, hgw⟩
    have hi2 : w2.heap[w1.heap.size]? = some (.stringIter s (pos + 1)) := by
     rw [hgw.block _ (by omega) (fun e => by have := (hgi.lt _ e.symm).1; omega)]; exact hii
    have hb2 : Below w1.heap.size w1 w2 := hbi.grown hgw (by omega) (fun k e => by have := (hgi.lt _ e).1; omega)
    clear hgi hii hgw
    go_wp2
    go_roundw
    case rel =>
     refine ⟨pos + 1, m * 1000000000 + (ch * 10 + (c - 48)), 0, 0, by omega, by omega, rfl, rfl, by omega, ?_, hg2, hi2, hb2⟩
     have e1 := hds.out
     have e2 := HDV.out
     have e3 := HB9.out
     have e4 : m * b * 10 = m * 1000000000 := by rw [Nat.mul_assoc, e3]
     rw [e1, e2]; omega
    case measure => rw [iterPos_of hi2, iterPos_of hit]; omega
   ·have hb9 : ¬ b * 10 = 1000000000 := fun e => h8 (hj8.out.1 e)
    have hbe : ((b : Int) * 10 == 1000000000) = false := by simp; omega
    have hgi : Grows (w1.heap.size + 1) (wr.iterAt w1.heap.size s (pos + 1)) _ m := ownsRow_iterAt hgr (by omega) s (pos + 1)
    have hii := Lib.iterAt_heap wr w1.heap.size s pos (pos + 1) hit
    have hbi : Below w1.heap.size w1 (wr.iterAt w1.heap.size s (pos + 1)) := Lib.below_iterAt hbel (Nat.le_refl _) s (pos + 1)
    generalize wr.iterAt w1.heap.size s (pos + 1) = wn at *
    go_wp2
    go_roundw
    case rel =>
     refine ⟨pos + 1, m, ch * 10 + (c - 48), j + 1, by omega, by omega, by go_num, by rw [hbs.out]; simp, by rw [hbs.out]; omega, ?_, hgi, hii, hbi⟩
     have e1 := hds.out
     have e2 := HDV.out
     rw [e1, e2, hbs.out, ← Nat.mul_assoc]; omega
    case measure => rw [iterPos_of hii, iterPos_of hit]; omega
  ·have hnx := fun ty => Lib.run_next_end_at (P := Tryz.prog) wr w1.heap.size s pos ty hit hlt
   have hps : pos = s.size := by omega
   subst hps
   generalize hbj : 10 ^ j = b at *
   go_wp2_with (go_at_call 181; refine (timesPlus_any (w1.heap.size + 1) _ m b ch _ (by omega) hgr (by omega) hb0 (by omega) (by omega)).mono ?_; rintro e w2 ⟨v2, rfl, hg2, hgw⟩)
   go_ret2
   rw [← HDV.out] at hg2
   have hb2 : Below w1.heap.size w1 w2 := hbel.grown hgw (by omega) (fun k e => by have := (World.ownsRow.lt hgr _ e).1; omega)
   have hn2 := nl_pow10 _ _ (dval_lt s s.size (fun i hi => HALL.out i hi))
   have s1 := hb1.size
   exact ⟨_, rfl, (grows_mine hg2 (by unfold LIM; omega)).le (by omega), hb1.trans (hb2.mono (by omega))⟩

end Go.Proofs.YthkamfddbiheoaaGreatDoor
