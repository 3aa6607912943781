/-
  Texts of mine.
-/
import Derived.Test.YthkamfddbiheoaaGreatDoorJ16c94c34fe
import Derived.Lib.Bytealg
import Derived.Lib.IndexLaws
namespace Go.Proofs.YthkamfddbiheoaaGreatDoor
open Go.RowKit
set_option linter.unusedVariables false
set_option linter.unusedSimpArgs false

/-- Where the line that i is in ends. -/
def lEnd (s : ByteArray) (i : Nat) : Nat := if h : i < s.size ∧ ¬ bt s i = 10 then lEnd s (i + 1) else i
termination_by s.size - i
theorem lEnd_ge (s : ByteArray) (i : Nat) : i ≤ lEnd s i := by
 fun_induction lEnd s i with
 | case1 i h ih => omega
 | case2 i h => omega
theorem lEnd_le (s : ByteArray) (i : Nat) (hi : i ≤ s.size) : lEnd s i ≤ s.size := by
 fun_induction lEnd s i with
 | case1 i h ih => exact ih (by omega)
 | case2 i h => exact hi
theorem lEnd_eq (s : ByteArray) (i e : Nat) (h1 : i ≤ e) (h2 : ∀ j, i ≤ j → j < e → j < s.size ∧ ¬ bt s j = 10) (h3 : ¬ (e < s.size ∧ ¬ bt s e = 10)) : lEnd s i = e := by
 fun_induction lEnd s i with
 | case1 i h ih =>
  by_cases e' : i = e
  ·subst e'; exact absurd h h3
  ·exact ih (by omega) (fun j a b => h2 j (by omega) b)
 | case2 i h =>
  by_cases e' : i = e
  ·exact e'
  ·exact absurd (h2 i (Nat.le_refl _) (by omega)) h

/-- What comes of a text: the words of its lines that have some, and where these lines end, or the first fault. -/
inductive LScan where
 | ok (l : List (List Tok × Nat))
 | err (i : Nat) (c : Nat)

/-- The lines behind one. -/
def addLine (s : ByteArray) (a n e : Nat) (out : List (List Tok × Nat)) (l : List (Nat × Nat)) : List (List Tok × Nat) := if l.length = 0 then out else out ++ [(toks (s.extract a e) a n l, e)]
/-- The lines from a on, which is the n-th, behind those found so far. -/
def lscan (s : ByteArray) (a n : Nat) (out : List (List Tok × Nat)) : LScan :=
 if 16384 ≤ n then .err a 16 else
  match scan (s.extract a (lEnd s a)) 0 [] with
  | .form i => .err (a + i) 4
  | .limit i => .err (a + i) 16
  | .ok l => if h : lEnd s a < s.size then lscan s (lEnd s a + 1) (n + 1) (addLine s a n (lEnd s a) out l) else .ok (addLine s a n (lEnd s a) out l)
termination_by s.size - a
decreasing_by
 have := lEnd_ge s a
 omega
theorem lscan_limit {s : ByteArray} {a n : Nat} {out : List (List Tok × Nat)} (h : 16384 ≤ n) : lscan s a n out = .err a 16 := by rw [lscan, if_pos h]
theorem lscan_form {s : ByteArray} {a n e i : Nat} {out : List (List Tok × Nat)} (h : ¬ 16384 ≤ n) (he : lEnd s a = e) (hs : scan (s.extract a e) 0 [] = .form i) : lscan s a n out = .err (a + i) 4 := by
 subst he; rw [lscan, if_neg h, hs]
theorem lscan_words {s : ByteArray} {a n e i : Nat} {out : List (List Tok × Nat)} (h : ¬ 16384 ≤ n) (he : lEnd s a = e) (hs : scan (s.extract a e) 0 [] = .limit i) : lscan s a n out = .err (a + i) 16 := by
 subst he; rw [lscan, if_neg h, hs]
theorem lscan_more {s : ByteArray} {a n e : Nat} {out : List (List Tok × Nat)} {l : List (Nat × Nat)} (h : ¬ 16384 ≤ n) (he : lEnd s a = e) (hs : scan (s.extract a e) 0 [] = .ok l) (hl : e < s.size) :
  lscan s a n out = lscan s (e + 1) (n + 1) (addLine s a n e out l) := by
 subst he; rw [lscan, if_neg h, hs]; exact dif_pos hl
theorem lscan_done {s : ByteArray} {a n e : Nat} {out : List (List Tok × Nat)} {l : List (Nat × Nat)} (h : ¬ 16384 ≤ n) (he : lEnd s a = e) (hs : scan (s.extract a e) 0 [] = .ok l) (hl : ¬ e < s.size) :
  lscan s a n out = .ok (addLine s a n e out l) := by
 subst he; rw [lscan, if_neg h, hs]; exact dif_neg hl
theorem addLine_none {s : ByteArray} {a n e : Nat} {out : List (List Tok × Nat)} {l : List (Nat × Nat)} (h : l.length = 0) : addLine s a n e out l = out := if_pos h
theorem addLine_some {s : ByteArray} {a n e : Nat} {out : List (List Tok × Nat)} {l : List (Nat × Nat)} (h : ¬ l.length = 0) : addLine s a n e out l = out ++ [(toks (s.extract a e) a n l, e)] := if_neg h
/-- Two rows of unlike elements lie in two blocks. -/
theorem owns_apart {w : World} {B B' k k' n n' : Nat} {e e' : TypeId} {v v' : Value} {us us' : List Value} (h : w.ownsRow B e k v n us) (h' : w.ownsRow B' e' k' v' n' us') (hne : e ≠ e') : v.ownBlock = none ∨ v.ownBlock ≠ v'.ownBlock := by
 rcases h.2 with ⟨rfl, _⟩ | ⟨g, cap, cur, rfl, hb, hg, _⟩
 ·exact .inl rfl
 ·rcases h'.2 with ⟨rfl, _⟩ | ⟨g', cap', cur', rfl, hb', hg', _⟩
  ·exact .inr (by simp [Value.ownBlock])
  ·refine .inr fun hh => hne ?_
   have hh' : some g = some g' := hh
   injection hh' with hh'
   subst hh'
   rw [hg] at hg'
   injection hg' with hg'
   injection hg'
theorem TOwn.kept {B B' k n : Nat} {e : TypeId} {w w' : World} {v v' : Value} {l : List Tok} {us : List Value} (h : TOwn B w v l) (h' : w.ownsRow B' e k v' n us) (hne : 95 ≠ e) (hg : w.grownBy w' v'.ownBlock) : TOwn B w' v l :=
 World.ownsRow.kept h hg (owns_apart h h' hne)

/-- A slice of slices of words, all of the call's own. -/
def ROwn (B : Nat) (w : World) (v : Value) (L : List (List Tok)) : Prop :=
 ∃ us, w.ownsRow B 119 1 v L.length us ∧ ∀ (i : Nat) t, L[i]? = some t → ∃ u, us[i]? = some u ∧ TOwn B w u t
theorem ROwn.nil (B : Nat) (w : World) : ROwn B w (.slice none 0 0) [] := ⟨[], World.ownsRow_nil _ _ _ _, fun i t h => by simp at h⟩
theorem ROwn.later {B : Nat} {w w' : World} {v : Value} {L : List (List Tok)} (h : ROwn B w v L) (hb : Below w.heap.size w w') : ROwn B w' v L :=
 let ⟨us, o, ht⟩ := h; ⟨us, owns_later o hb, fun i t hi => let ⟨u, h1, h2⟩ := ht i t hi; ⟨u, h1, h2.later hb⟩⟩
theorem ROwn.more {B : Nat} {w w' : World} {v v' u : Value} {L : List (List Tok)} {t : List Tok} {us : List Value} (o : w.ownsRow B 119 1 v L.length us) (ht : ∀ (i : Nat) t, L[i]? = some t → ∃ u, us[i]? = some u ∧ TOwn B w u t) (hu : TOwn B w u t)
  (o' : w'.ownsRow B 119 1 v' (L.length + 1) (us ++ [u])) (hg : w.grownBy w' v.ownBlock) : ROwn B w' v' (L ++ [t]) := by
 have hul : us.length = L.length := by have := o.1; omega
 refine ⟨us ++ [u], by rw [List.length_append]; exact o', fun i t' hi => ?_⟩
 by_cases hlt : i < L.length
 ·rw [List.getElem?_append_left hlt] at hi
  obtain ⟨u', h1, h2⟩ := ht i t' hi
  exact ⟨u', by rw [List.getElem?_append_left (by omega)]; exact h1, h2.kept o (by decide) hg⟩
 ·rw [List.getElem?_append_right (by omega)] at hi
  have h0 : i - L.length = 0 := by
   by_cases h0 : i - L.length = 0
   ·exact h0
   ·rw [List.getElem?_eq_none (by simp; omega)] at hi; cases hi
  rw [h0] at hi
  obtain rfl : t = t' := by simpa using hi
  exact ⟨u, by rw [List.getElem?_append_right (by omega), show i - us.length = 0 by omega]; rfl, hu.kept o (by decide) hg⟩

/-- A slice of lines (their words, their ends), all of the call's own. -/
def LOwn (B : Nat) (w : World) (v : Value) (L : List (List Tok × Nat)) : Prop :=
 ∃ us, w.ownsRow B 123 2 v L.length us ∧ ∀ (i : Nat) p, L[i]? = some p → ∃ u, us[i * 2]? = some u ∧ us[i * 2 + 1]? = some (.int .i64 (p.2 : Int)) ∧ TOwn B w u p.1
theorem LOwn.nil (B : Nat) (w : World) : LOwn B w (.slice none 0 0) [] := ⟨[], World.ownsRow_nil _ _ _ _, fun i t h => by simp at h⟩
theorem LOwn.later {B : Nat} {w w' : World} {v : Value} {L : List (List Tok × Nat)} (h : LOwn B w v L) (hb : Below w.heap.size w w') : LOwn B w' v L :=
 let ⟨us, o, ht⟩ := h; ⟨us, owns_later o hb, fun i t hi => let ⟨u, h1, h2, h3⟩ := ht i t hi; ⟨u, h1, h2, h3.later hb⟩⟩
theorem LOwn.more {B : Nat} {w w' : World} {v v' u : Value} {L : List (List Tok × Nat)} {t : List Tok} {e : Nat} {us : List Value} (o : w.ownsRow B 123 2 v L.length us) (ht : ∀ (i : Nat) p, L[i]? = some p → ∃ u, us[i * 2]? = some u ∧ us[i * 2 + 1]? = some (.int .i64 (p.2 : Int)) ∧ TOwn B w u p.1) (hu : TOwn B w u t)
  (o' : w'.ownsRow B 123 2 v' (L.length + 1) (us ++ [u, .int .i64 (e : Int)])) (hg : w.grownBy w' v.ownBlock) : LOwn B w' v' (L ++ [(t, e)]) := by
 have hul : us.length = L.length * 2 := o.1
 refine ⟨us ++ [u, .int .i64 (e : Int)], by rw [List.length_append]; exact o', fun i t' hi => ?_⟩
 by_cases hlt : i < L.length
 ·rw [List.getElem?_append_left hlt] at hi
  obtain ⟨u', h1, h2, h3⟩ := ht i t' hi
  exact ⟨u', by rw [List.getElem?_append_left (by omega)]; exact h1, by rw [List.getElem?_append_left (by omega)]; exact h2, h3.kept o (by decide) hg⟩
 ·rw [List.getElem?_append_right (by omega)] at hi
  have h0 : i - L.length = 0 := by
   by_cases h0 : i - L.length = 0
   ·exact h0
   ·rw [List.getElem?_eq_none (by simp; omega)] at hi; cases hi
  rw [h0] at hi
  obtain rfl : (t, e) = t' := by simpa using hi
  obtain rfl : i = L.length := by omega
  exact ⟨u, by rw [List.getElem?_append_right (by omega), show L.length * 2 - us.length = 0 by omega]; rfl, by rw [List.getElem?_append_right (by omega), show L.length * 2 + 1 - us.length = 1 by omega]; rfl, hu.kept o (by decide) hg⟩
theorem owns_slice {B k N : Nat} {e : TypeId} {w : World} {v : Value} {us : List Value} (h : w.ownsRow B e k v N us) : ∃ ao c, v = .slice ao N c ∧ w.ownsRow B e k (.slice ao N c) N us ∧ (0 < N → ∃ g, ao = some ⟨g, 0, none⟩) := by
 have hh := h
 rcases h.2 with ⟨h1, h2⟩ | ⟨g, cap, cur, h1, hb, hg, hnc, hcm, rest⟩
 ·subst h1; subst h2; exact ⟨none, 0, rfl, hh, fun h => by omega⟩
 ·subst h1; exact ⟨_, cap, rfl, hh, fun _ => ⟨g, rfl⟩⟩

/-- Where a byte stands first; -1: nowhere. -/
def firstL (s : ByteArray) (c : Nat) : Int := Lib.indexByte s.data.toList c.toUInt8
theorem firstL_one (c : Nat) (s : ByteArray) (h : [c.toUInt8] = s.toList) : firstL s c = 0 := by
 rw [Lib.toList_data] at h; unfold firstL; rw [← h]; simp [Lib.indexByte]
theorem firstL_lt (s : ByteArray) (c i : Nat) (h : firstL s c = (i : Int)) : i < s.size := by
 have h1 := (Lib.indexByte_some h).1
 have h2 := (List.getElem?_eq_some_iff.1 h1).1
 simpa using h2
theorem firstL_cases (s : ByteArray) (c : Nat) : firstL s c = -1 ∨ ∃ i : Nat, firstL s c = (i : Int) := by
 have h := Lib.indexByte_ge s.data.toList c.toUInt8
 by_cases g : firstL s c = -1
 ·exact .inl g
 ·exact .inr ⟨(firstL s c).toNat, by unfold firstL at *; omega⟩
theorem rest_at (s : ByteArray) (a k : Nat) (h : a + k < s.size) : (s.extract a s.size).data.toList[k]? = some (s.data.toList.getD (a + k) 0) := by
 have h' : a + k < s.data.toList.length := by simpa using h
 have : (s.extract a s.size).data.toList = s.data.toList.drop a := by
  rw [ByteArray.data_extract, Array.toList_extract, List.extract_eq_take_drop]
  apply List.take_of_length_le
  simp
 rw [this, List.getElem?_drop, List.getD_eq_getElem?_getD, List.getElem?_eq_getElem h']
 rfl
theorem bt_ten {s : ByteArray} {i : Nat} : bt s i = 10 ↔ s.data.toList.getD i 0 = 10 := by
 unfold bt
 constructor
 ·intro h; exact UInt8.toNat_inj.1 h
 ·intro h; rw [h]; rfl
theorem first_none {s : ByteArray} {a : Nat} (ha : a ≤ s.size) (h : firstL (s.extract a s.size) 10 = -1) : lEnd s a = s.size := by
 refine lEnd_eq s a s.size ha (fun j h1 h2 => ⟨h2, fun hb => ?_⟩) (fun h => by omega)
 have := Lib.indexByte_none h (j - a)
 rw [rest_at s a (j - a) (by omega), show a + (j - a) = j by omega, bt_ten.1 hb] at this
 exact this rfl
theorem first_some {s : ByteArray} {a i : Nat} (ha : a ≤ s.size) (h : firstL (s.extract a s.size) 10 = (i : Int)) : lEnd s a = a + i ∧ a + i < s.size := by
 have hlt := firstL_lt _ _ _ h
 rw [ByteArray.size_extract] at hlt
 obtain ⟨g1, g2⟩ := Lib.indexByte_some h
 refine ⟨lEnd_eq s a (a + i) (by omega) (fun j h1 h2 => ⟨by omega, fun hb => ?_⟩) (fun hh => ?_), by omega⟩
 ·have := g2 (j - a) (by omega)
  rw [rest_at s a (j - a) (by omega), show a + (j - a) = j by omega, bt_ten.1 hb] at this
  exact this rfl
 ·rw [rest_at s a i (by omega)] at g1
  injection g1 with g1
  exact hh.2 (bt_ten.2 g1)

set_option maxRecDepth 100000 in
set_option maxHeartbeats 1000000 in
theorem indexByteL_at (s : ByteArray) (c : Nat) (w : World) : Calls Tryz.prog 191 #[.string s, .int .u8 (c : Int)] w fun e w' => e = .returned (.int .i64 (firstL s c)) ∧ w' = w := by
 go_enter Tryz.func191, Tryz.ntmps191
 go_wp2
 rw [run_callFunc_extern Tryz.func206 (by kernel_rfl) (by kernel_rfl) (by kernel_rfl) (e := Extern.BytealgIndexByte.indexByte) (by kernel_rfl), Lib.run_indexByteString]
 simp only [Result.andThen]
 rw [Oper.upon_value]
 go_wp2
 go_ret
 exact ⟨rfl, rfl⟩

set_option maxRecDepth 100000 in
set_option maxHeartbeats 2000000 in
theorem index10_at (s : ByteArray) (w : World) : Calls Tryz.prog 162 #[.string s, .string { data := #[10] }] w fun e w' => e = .returned (.int .i64 (firstL s 10)) ∧ w' = w := by
 by_cases hs : ([10] : List UInt8) = s.toList
 ·have h1 := firstL_one 10 s hs
  have hb : (([10] : List UInt8) == s.toList) = true := by simp [← hs]
  rw [h1]
  clear h1 hs
  go_enter Tryz.func162, Tryz.ntmps162
  go_wp2
  go_ret
  exact ⟨rfl, rfl⟩
 ·have hb : (([10] : List UInt8) == s.toList) = false := by simpa using hs
  clear hs
  go_enter Tryz.func162, Tryz.ntmps162
  go_wp2_with fail
  refine (indexByteL_at s 10 _).mono ?_
  rintro e w1 ⟨rfl, hw⟩
  subst hw
  go_wp2
  go_ret
  exact ⟨rfl, rfl⟩
set_option maxRecDepth 20000 in
set_option maxHeartbeats 1000000 in
theorem cut10_miss (s : ByteArray) (w : World) (h : firstL s 10 = -1) : Calls Tryz.prog 77 #[.string s, .string { data := #[10] }] w fun e w' => e = .returned (.tuple #[.string s, .string { data := #[] }, .bool false]) ∧ Below w.heap.size w w' := by
 have h1 : Calls Tryz.prog 112 #[.string s, .string { data := #[10] }] w fun e w' => e = .returned (.tuple #[.string s, .string { data := #[] }, .bool false]) ∧ Below w.heap.size w w' := by
  go_enter Tryz.func112, Tryz.ntmps112
  go_wp2_with fail
  refine (index10_at s _).mono ?_
  rintro e w1 ⟨rfl, hw⟩
  replace hw := hw.symm
  subst hw
  rw [h]
  go_wp2
  go_ret3
  exact ⟨rfl, Below.refl _ _⟩
 go_enter Tryz.func77, Tryz.ntmps77
 go_wp2_with fail
 refine h1.mono ?_
 rintro e w2 ⟨rfl, hb⟩
 go_wp2
 go_ret3
 exact ⟨rfl, hb⟩
set_option maxRecDepth 20000 in
set_option maxHeartbeats 1000000 in
theorem cut10_hit (s : ByteArray) (i : Nat) (w : World) (h : firstL s 10 = (i : Int)) (hl : s.size ≤ 2000000) : Calls Tryz.prog 77 #[.string s, .string { data := #[10] }] w fun e w' => e = .returned (.tuple #[.string (s.extract 0 i), .string (s.extract (i + 1) s.size), .bool true]) ∧ Below w.heap.size w w' := by
 have hi := firstL_lt s 10 i h
 have h1 : Calls Tryz.prog 112 #[.string s, .string { data := #[10] }] w fun e w' => e = .returned (.tuple #[.string (s.extract 0 i), .string (s.extract (i + 1) s.size), .bool true]) ∧ Below w.heap.size w w' := by
  have c1 : (0 : Int) ≤ (i : Int) := by omega
  have c2 : (i : Int) ≤ (s.size : Int) := by omega
  have c3 : (0 : Int) ≤ (i : Int) + 1 := by omega
  have c4 : (i : Int) + 1 ≤ (s.size : Int) := by omega
  have c5 : IntKind.i64.wrap ((i : Int) + 1) = (i : Int) + 1 := by rw [IntKind.wrap_i64]; omega
  go_enter Tryz.func112, Tryz.ntmps112
  go_wp2_with fail
  refine (index10_at s _).mono ?_
  rintro e w1 ⟨rfl, hw⟩
  replace hw := hw.symm
  subst hw
  rw [h]
  go_wp2
  go_region
  go_wp2
  go_ret3
  exact ⟨rfl, (Below.refl _ _).drew⟩
 go_enter Tryz.func77, Tryz.ntmps77
 go_wp2_with fail
 refine h1.mono ?_
 rintro e w2 ⟨rfl, hb⟩
 go_wp2
 go_ret3
 exact ⟨rfl, hb⟩

/-- The rest of a text is cut at the line's end. -/
theorem cut_line (s : ByteArray) (a e : Nat) (w : World) (ha : a ≤ s.size) (hs : s.size ≤ 2000000) (he : lEnd s a = e) :
  Calls Tryz.prog 77 #[.string (s.extract a s.size), .string { data := #[10] }] w fun en w' => ∃ r, en = .returned (.tuple #[.string (s.extract a e), .string r, .bool (decide (e < s.size))]) ∧ Below w.heap.size w w' := by
 rcases firstL_cases (s.extract a s.size) 10 with h | ⟨i, h⟩
 ·have h1 := first_none ha h
  obtain rfl : e = s.size := by omega
  refine (cut10_miss _ w h).mono ?_
  rintro en w' ⟨rfl, hb⟩
  exact ⟨_, by simp; rfl, hb⟩
 ·obtain ⟨h1, h2⟩ := first_some ha h
  obtain rfl : e = a + i := by omega
  refine (cut10_hit _ i w h (by rw [ByteArray.size_extract]; omega)).mono ?_
  rintro en w' ⟨rfl, hb⟩
  refine ⟨(s.extract a s.size).extract (i + 1) (s.extract a s.size).size, ?_, hb⟩
  have h3 : (s.extract a s.size).extract 0 i = s.extract a (a + i) := by rw [ByteArray.extract_extract, Nat.add_zero, Nat.min_eq_left (by omega)]
  rw [h3, decide_eq_true h2]

theorem info_line : (Tryz.prog.info? 123).map (fun i => (i.zero, i.size, i.bytes)) = some (some (.agg #[.slice none 0 0, .int .i64 0]), 2, 32) := by kernel_rfl
/-- What linesOf tells. -/
def LinesOut (B : Nat) (e : Ending) (w' : World) : LScan → Prop
 | .ok l => ∃ v, e = .returned (.tuple #[v, .int .i64 0, .int .i64 0]) ∧ LOwn B w' v l ∧ l.length ≤ 16384 ∧ ∀ p ∈ l, p.1.length ≤ 4096
 | .err i c => e = .returned (.tuple #[.slice none 0 0, .int .i64 (i : Int), .int .i64 (c : Int)]) ∧ ¬ c = 0
/-- How far linesOf has come. -/
def Far (s : ByteArray) (a n : Nat) (l : List (List Tok × Nat)) (more : Bool) : Prop := (more = true ∧ a ≤ s.size ∧ lscan s 0 0 [] = lscan s a n l) ∨ (more = false ∧ lscan s 0 0 [] = .ok l)
theorem Far.go {s : ByteArray} {a n : Nat} {l : List (List Tok × Nat)} (h : Far s a n l true) : a ≤ s.size ∧ lscan s 0 0 [] = lscan s a n l := by
 rcases h with ⟨_, h⟩ | ⟨h, _⟩
 ·exact h
 ·cases h
theorem Far.end {s : ByteArray} {a n : Nat} {l : List (List Tok × Nat)} (h : Far s a n l false) : lscan s 0 0 [] = .ok l := by
 rcases h with ⟨h, _⟩ | ⟨_, h⟩
 ·cases h
 ·exact h
theorem Far.next {s : ByteArray} {a n e : Nat} {l l' : List (List Tok × Nat)} {ws : List (Nat × Nat)} (h : lscan s 0 0 [] = lscan s a n l) (hn : ¬ 16384 ≤ n) (he : lEnd s a = e) (hs : scan (s.extract a e) 0 [] = .ok ws) (hl : l' = addLine s a n e l ws) (hle : e ≤ s.size) : Far s (e + 1) (n + 1) l' (decide (e < s.size)) := by
 subst hl
 by_cases h1 : e < s.size
 ·rw [decide_eq_true h1]; exact .inl ⟨rfl, by omega, h.trans (lscan_more hn he hs h1)⟩
 ·rw [decide_eq_false h1]; exact .inr ⟨rfl, h.trans (lscan_done hn he hs h1)⟩

set_option maxRecDepth 20000 in
set_option maxHeartbeats 4000000 in
theorem linesOf_at (s : ByteArray) (w : World) (hs : s.size ≤ 1048576) :
  Calls Tryz.prog 47 #[.string s] w fun e w' => LinesOut w.heap.size e w' (lscan s 0 0 []) ∧ Below w.heap.size w w' := by
 have hsi : ¬ (1048576 : Int) < (s.size : Int) := by omega
 go_enter Tryz.func47, Tryz.ntmps47
 go_wp2
 go_loopw [5, 6, 7, 8] (fun v n a m wr => ∃ (k b : Nat) (l : List (List Tok × Nat)) (more : Bool), k ≤ 16384 ∧ l.length ≤ k ∧ b ≤ s.size + 1 ∧ n = .int .i64 (k : Int) ∧ a = .int .i64 (b : Int) ∧ m = .bool more ∧ LOwn w.heap.size wr v l ∧ Below w.heap.size w wr ∧ Hid (∀ p ∈ l, p.1.length ≤ 4096) ∧ Hid (Far s b k l more)) (fun _ n _ m _ => 16385 - (intOf n).toNat)
 case atStart => exact ⟨0, 0, [], true, by omega, by simp, by omega, rfl, rfl, rfl, LOwn.nil _ _, Below.refl _ _, (fun p hp => by cases hp), .inl ⟨rfl, by omega, rfl⟩⟩
 case round =>
  obtain ⟨k, b, l, more, hk, hl, hbs, rfl, rfl, rfl, ho, BB, HL, HF⟩ := hrel
  cases more with
  | false =>
   have HW : Hid (lscan s 0 0 [] = .ok l) := HF.out.end
   go_wp2
   go_ret3
   exact ⟨by rw [HW.out]; exact ⟨_, rfl, ho, by omega, HL.out⟩, BB⟩
  | true =>
   obtain ⟨hb, hS⟩ := HF.out.go
   have HS : Hid (lscan s 0 0 [] = lscan s b k l) := hS
   clear hS HF
   by_cases h1 : k = 16384
   ·have HW : Hid (lscan s 0 0 [] = .err b 16) := HS.out.trans (lscan_limit (by omega))
    subst h1
    go_wp2
    go_ret3
    exact ⟨by rw [HW.out]; exact ⟨rfl, by decide⟩, BB⟩
   ·have h1i : ((k : Int) == 16384) = false := by simp; omega
    have c1 : (0 : Int) ≤ (b : Int) := by omega
    have c2 : (b : Int) ≤ (s.size : Int) := by omega
    obtain ⟨E, hE⟩ : ∃ E, lEnd s b = E := ⟨_, rfl⟩
    have hE1 := lEnd_ge s b
    have hE2 := lEnd_le s b hb
    rw [hE] at hE1 hE2
    have HE : Hid (lEnd s b = E) := hE
    clear hE
    go_wp2_with fail
    refine (cut_line s b E _ hb (by omega) HE.out).mono ?_
    rintro en w1 ⟨r, rfl, hb1⟩
    have B1 : Below w.heap.size w w1 := BB.trans (hb1.mono BB.size)
    have ho1 := ho.later hb1
    clear ho BB hb1
    have hsz : (s.extract b E).size = E - b := by rw [ByteArray.size_extract]; omega
    have cw := wordsOf_at (s.extract b E) b k w1 (by omega) (by rw [hsz]; omega)
    have hszi : ((s.extract b E).size : Int) = (E : Int) - (b : Int) := by omega
    have HSZ : Hid ((s.extract b E).size = E - b) := hsz
    clear hsz
    have HFar : ∀ ws, scan (s.extract b E) 0 [] = .ok ws → ∀ l', l' = addLine s b k E l ws → Far s (E + 1) (k + 1) l' (decide (E < s.size)) := fun ws hws l' hl' => Far.next HS.out (by omega) HE.out hws hl' hE2
    have HForm : ∀ i, scan (s.extract b E) 0 [] = .form i → lscan s 0 0 [] = .err (b + i) 4 := fun i h => HS.out.trans (lscan_form (by omega) HE.out h)
    have HLim : ∀ i, scan (s.extract b E) 0 [] = .limit i → lscan s 0 0 [] = .err (b + i) 16 := fun i h => HS.out.trans (lscan_words (by omega) HE.out h)
    generalize hM : decide (E < s.size) = M at *
    clear hM
    cases hW : scan (s.extract b E) 0 [] with
    | form i =>
     rw [hW] at cw
     have HW : Hid (lscan s 0 0 [] = .err (b + i) 4) := HForm i hW
     clear HForm HLim HFar hW
     go_wp2_with fail
     refine cw.mono ?_
     rintro en w2 ⟨he, hb2⟩
     have he' : en = .returned (.tuple #[.slice none 0 0, .int .i64 ((b + i : Nat) : Int), .int .i64 4]) := he
     subst he'
     have B2 : Below w.heap.size w w2 := B1.trans (hb2.mono B1.size)
     clear cw he hb2 B1 ho1
     generalize hX : b + i = X at *
     go_wp2
     go_ret3
     exact ⟨by rw [HW.out]; exact ⟨rfl, by decide⟩, B2⟩
    | limit i =>
     rw [hW] at cw
     have HW : Hid (lscan s 0 0 [] = .err (b + i) 16) := HLim i hW
     clear HForm HLim HFar hW
     go_wp2_with fail
     refine cw.mono ?_
     rintro en w2 ⟨he, hb2⟩
     have he' : en = .returned (.tuple #[.slice none 0 0, .int .i64 ((b + i : Nat) : Int), .int .i64 16]) := he
     subst he'
     have B2 : Below w.heap.size w w2 := B1.trans (hb2.mono B1.size)
     clear cw he hb2 B1 ho1
     generalize hX : b + i = X at *
     go_wp2
     go_ret3
     exact ⟨by rw [HW.out]; exact ⟨rfl, by decide⟩, B2⟩
    | ok ws =>
     rw [hW] at cw
     have hwl := scan_len _ 0 [] ws (by simp) hW
     have HFar2 : Hid (∀ l', l' = addLine s b k E l ws → Far s (E + 1) (k + 1) l' M) := HFar ws hW
     clear HForm HLim HFar hW
     go_wp2_with fail
     refine cw.mono ?_
     rintro en w2 ⟨⟨v2, rfl, ht⟩, hb2⟩
     have B2 : Below w.heap.size w w2 := B1.trans (hb2.mono B1.size)
     have ho2 := ho1.later hb2
     replace ht : TOwn w.heap.size w2 v2 (toks (s.extract b E) b k ws) := ⟨ht.1, ht.2.imp id fun ⟨g, cap, cur, h1, h2, h3⟩ => ⟨g, cap, cur, h1, Nat.le_trans B1.size h2, h3⟩⟩
     clear cw hb2 B1 ho1
     obtain ⟨ao, c, rfl, to2⟩ := ht.open (toks_length _ _ _ ws)
     by_cases h0 : ws.length = 0
     ·have HN : Hid (Far s (E + 1) (k + 1) l M) := HFar2.out l (addLine_none h0).symm
      have HT : Hid ((s.extract b E).size + b = E) := by rw [Hid, HSZ.out]; omega
      clear HFar2 hszi HSZ
      generalize s.extract b E = T at *
      have hT := HT.out
      have i1 : IntKind.i64.wrap ((b : Int) + (T.size : Int)) = (E : Int) := by rw [IntKind.wrap_i64]; omega
      have i2 : IntKind.i64.wrap ((E : Int) + 1) = ((E + 1 : Nat) : Int) := by rw [IntKind.wrap_i64]; omega
      have i3 : IntKind.i64.wrap ((k : Int) + 1) = ((k + 1 : Nat) : Int) := by rw [IntKind.wrap_i64]; omega
      have i4 : (b : Int) + (T.size : Int) = (E : Int) := by omega
      rw [h0] at to2 ⊢
      clear hT HT
      go_wp2
      go_roundw
      case rel => exact ⟨k + 1, E + 1, l, M, by omega, by omega, by omega, by go_num, by go_num, rfl, ho2, B2, HL, HN⟩
      case measure => simp [intOf]; omega
     ·have HN : Hid (Far s (E + 1) (k + 1) (l ++ [(toks (s.extract b E) b k ws, E)]) M) := HFar2.out _ (addLine_some h0).symm
      have HT : Hid ((s.extract b E).size + b = E) := by rw [Hid, HSZ.out]; omega
      clear HFar2 hszi HSZ
      generalize s.extract b E = T at *
      have hT := HT.out
      have i1 : IntKind.i64.wrap ((b : Int) + (T.size : Int)) = (E : Int) := by rw [IntKind.wrap_i64]; omega
      have i4 : (b : Int) + (T.size : Int) = (E : Int) := by omega
      have h0i : (0 : Int) < (ws.length : Int) := by omega
      clear hT HT
      obtain ⟨us, uo, ut⟩ := ho2
      obtain ⟨bo, d, rfl, uo2, _⟩ := owns_slice uo
      have HU : Hid (∀ (i : Nat) p, l[i]? = some p → ∃ u, us[i * 2]? = some u ∧ us[i * 2 + 1]? = some (.int .i64 (p.2 : Int)) ∧ TOwn w.heap.size w2 u p.1) := ut
      have A2 : Below w2.heap.size w2 (w2.alloc (.cells #[.slice ao ws.length c, .int .i64 (E : Int)] 123)) := (Below.refl _ _).alloc (Nat.le_refl _) _
      clear ut uo
      go_wp2_with (at_builtin; refine wpList_append_pure (Q' := fun _ => False) rfl _ _ _ rfl w.heap.size 123 (.agg #[.slice none 0 0, .int .i64 0]) 2 32 Tryz.underlying83 info_line rfl (by omega) (.slice bo l.length d) rfl l.length us (uo2.alloc _) (fun _ _ _ _ _ h => h) ⟨w2.heap.size, 0, none⟩ 1 rfl [.slice ao ws.length c, .int .i64 (E : Int)] rfl (news_block (heap_alloc_new _ _)) (by simp [Value.oneCell']) (by simp) (by simp) (by omega) (by omega) (by have := B2.size; simp; omega) ?_)
      intro g5 cap5 w5 ho5 hg5 hat5 hp5 hk5
      have B5 : Below w.heap.size w w5 := below_grownB (B2.alloc B2.size _) hg5 (by have := B2.size; simp; omega) (fun g0 hg0 => (uo2.lt g0 hg0).1)
      have E5 : LOwn w.heap.size w5 (.slice (some ⟨g5, 0, none⟩) (l.length + 1) cap5) (l ++ [(toks T b k ws, E)]) :=
       LOwn.more (owns_later uo2 A2) (fun i p hp => let ⟨u, h1, h2, h3⟩ := HU.out i p hp; ⟨u, h1, h2, h3.later A2⟩) (ht.later A2) ho5 hg5
      have HL5 : Hid (∀ p ∈ l ++ [(toks T b k ws, E)], p.1.length ≤ 4096) := by
       intro p hp
       rw [List.mem_append] at hp
       rcases hp with hp | hp
       ·exact HL.out p hp
       ·obtain rfl := List.mem_singleton.1 hp
        show (toks _ _ _ _).length ≤ _
        rw [toks_length]; exact hwl
      clear ho5 hg5 hat5 hp5 hk5 B2 A2 HU uo2 ht to2 HL
      go_wp2
      go_roundw
      case rel => exact ⟨k + 1, E + 1, _, M, by omega, by simp; omega, by omega, by go_num, by go_num, rfl, E5, B5, HL5, HN⟩
      case measure => simp [intOf]; omega

end Go.Proofs.YthkamfddbiheoaaGreatDoor
