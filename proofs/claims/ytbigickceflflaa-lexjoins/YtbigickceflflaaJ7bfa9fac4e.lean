/-
  Texts of mine, joined: what lies beneath the statement.
-/
import Derived.Test.YtbigickceflflaaJ57ee612c97
import Derived.ProofKit
import Derived.OpenShut
import Derived.Below
import Derived.LoopN
import Derived.SliceStrings
import Derived.ChangeSlices
namespace Go.Proofs.Ytbigickceflflaa
open Go.RowKit
set_option linter.unusedVariables false
set_option linter.unusedSimpArgs false

theorem bt_left (S T : ByteArray) (i : Nat) (h : i < S.size) : bt (S ++ T) i = bt S i := by
  unfold bt
  have h' : i < S.data.toList.length := by simpa using h
  rw [ByteArray.data_append, Array.toList_append, List.getD_eq_getElem?_getD, List.getD_eq_getElem?_getD, List.getElem?_append_left h']
theorem bt_right (S T : ByteArray) (i : Nat) (h : S.size ≤ i) : bt (S ++ T) i = bt T (i - S.size) := by
  unfold bt
  have h' : S.data.toList.length ≤ i := by simpa using h
  rw [ByteArray.data_append, Array.toList_append, List.getD_eq_getElem?_getD, List.getD_eq_getElem?_getD, List.getElem?_append_right h']
  rfl
theorem extract_left (S T : ByteArray) (a e : Nat) (h : e ≤ S.size) : (S ++ T).extract a e = S.extract a e := by
  apply ByteArray.ext
  rw [ByteArray.data_extract, ByteArray.data_extract, ByteArray.data_append]
  have h' : e ≤ S.data.size := h
  rw [Array.extract_append]
  simp
  omega
theorem extract_mid (S W : ByteArray) : (S ++ W).extract S.size (S.size + W.size) = W := by
  apply ByteArray.ext
  apply Array.toList_inj.1
  have h1 : S.size = S.data.toList.length := by simp
  have h2 : W.size = W.data.toList.length := by simp
  rw [ByteArray.data_extract, Array.toList_extract, List.extract_eq_take_drop, ByteArray.data_append, Array.toList_append, h1, List.drop_left, h2, Nat.add_sub_cancel_left, List.take_length]

/-- A word: not empty, of up to 40 bytes that may stand in words. -/
def okW (W : ByteArray) : Bool := decide (0 < W.size ∧ W.size ≤ 40 ∧ ∀ i, i < W.size → inW (bt W i) = true)
/-- A blank between two words. -/
def okB (B : ByteArray) : Prop := 0 < B.size ∧ B.size ≤ 3 ∧ ∀ i, i < B.size → blk (bt B i) = true
/-- What is behind the words so far: nothing that belongs to the last. -/
def Stops (T : ByteArray) : Prop := 0 < T.size ∧ inW (bt T 0) = false
/-- The text S has these words, at these places. -/
structure Joined (S : ByteArray) (al : List ByteArray) (ps : List (Nat × Nat)) : Prop where
  len : ps.length = al.length
  size : S.size ≤ al.length * 43
  at' : ∀ (j : Nat) (p : Nat × Nat) (W : ByteArray), ps[j]? = some p → al[j]? = some W → p.1 + W.size = p.2 ∧ p.2 ≤ S.size ∧ S.extract p.1 p.2 = W
  walks : ∀ T, Stops T → scan (S ++ T) 0 [] = scan (S ++ T) S.size ps

theorem joined_nil : Joined ByteArray.empty [] [] := ⟨rfl, by simp, fun j p W h => by simp at h, fun T _ => rfl⟩
theorem scan_blanks (s : ByteArray) (i : Nat) (out : List (Nat × Nat)) : ∀ n, i + n ≤ s.size → (∀ j, j < n → blk (bt s (i + j)) = true) → scan s i out = scan s (i + n) out
  | 0, _, _ => rfl
  | n + 1, h1, h2 => by
    rw [scan_blanks s i out n (by omega) (fun j hj => h2 j (by omega)), scan_blank (by omega) (h2 n (by omega))]
    rfl
theorem Joined.step {S : ByteArray} {al : List ByteArray} {ps : List (Nat × Nat)} (h : Joined S al ps) {B W : ByteArray} (hB : okB B) (hW : okW W = true) (hl : al.length ≤ 4000) :
    Joined (S ++ B ++ W) (al ++ [W]) (ps ++ [(S.size + B.size, S.size + B.size + W.size)]) := by
  obtain ⟨hB1, hB2, hB3⟩ := hB
  obtain ⟨hW1, hW2, hW3⟩ : 0 < W.size ∧ W.size ≤ 40 ∧ ∀ i, i < W.size → inW (bt W i) = true := by simpa [okW] using hW
  have hlen := h.len
  have hsz := h.size
  refine ⟨by simp [hlen], by simp [ByteArray.size_append]; omega, fun j p V hp hv => ?_, fun T hT => ?_⟩
  · by_cases hj : j < ps.length
    · rw [List.getElem?_append_left hj] at hp
      rw [List.getElem?_append_left (by omega)] at hv
      obtain ⟨g1, g2, g3⟩ := h.at' j p V hp hv
      refine ⟨g1, by rw [ByteArray.size_append, ByteArray.size_append]; omega, ?_⟩
      rw [extract_left _ _ _ _ (by rw [ByteArray.size_append]; omega), extract_left _ _ _ _ g2, g3]
    · have hj2 : j = ps.length := by
        have := (List.getElem?_eq_some_iff.1 hp).1
        simp at this; omega
      subst hj2
      rw [List.getElem?_append_right (Nat.le_refl _), Nat.sub_self] at hp
      rw [List.getElem?_append_right (by omega), show ps.length - al.length = 0 by omega] at hv
      obtain rfl : (S.size + B.size, S.size + B.size + W.size) = p := by simpa using hp
      obtain rfl : W = V := by simpa using hv
      refine ⟨rfl, by rw [ByteArray.size_append, ByteArray.size_append]; exact Nat.le_refl _, ?_⟩
      have := extract_mid (S ++ B) W
      rw [ByteArray.size_append] at this
      exact this
  · obtain ⟨hT1, hT2⟩ := hT
    have e : S ++ B ++ W ++ T = S ++ (B ++ (W ++ T)) := by rw [ByteArray.append_assoc, ByteArray.append_assoc]
    have hs0 := h.walks (B ++ (W ++ T)) ⟨by rw [ByteArray.size_append]; omega, by rw [bt_left _ _ _ hB1]; exact blk_not_inW (hB3 0 hB1)⟩
    have hsz2 : (S ++ (B ++ (W ++ T))).size = S.size + B.size + W.size + T.size := by simp only [ByteArray.size_append]; omega
    have b1 : ∀ j, j < B.size → bt (S ++ (B ++ (W ++ T))) (S.size + j) = bt B j := fun j hj => by rw [bt_right _ _ _ (by omega), Nat.add_sub_cancel_left, bt_left _ _ _ hj]
    have b2 : ∀ j, j < W.size → bt (S ++ (B ++ (W ++ T))) (S.size + B.size + j) = bt W j := fun j hj => by
      rw [bt_right _ _ _ (by omega), bt_right _ _ _ (by omega), bt_left _ _ _ (by omega)]
      congr 1; omega
    have b3 : bt (S ++ (B ++ (W ++ T))) (S.size + B.size + W.size) = bt T 0 := by
      rw [bt_right _ _ _ (by omega), bt_right _ _ _ (by omega), bt_right _ _ _ (by omega)]
      congr 1; omega
    rw [e, hs0]
    generalize S ++ (B ++ (W ++ T)) = U at *
    have hend : wEnd U (S.size + B.size) = S.size + B.size + W.size := by
      refine wEnd_eq U _ _ (by omega) (fun j g1 g2 => ⟨by omega, ?_⟩) (fun g => ?_)
      · have := b2 (j - (S.size + B.size)) (by omega)
        rw [show S.size + B.size + (j - (S.size + B.size)) = j by omega] at this
        rw [this]; exact hW3 _ (by omega)
      · have g2 := g.2
        rw [b3, hT2] at g2; cases g2
    have hw0 : inW (bt U (S.size + B.size)) = true := by have := b2 0 hW1; rw [Nat.add_zero] at this; rw [this]; exact hW3 0 hW1
    rw [scan_blanks U S.size ps B.size (by omega) (fun j hj => by rw [b1 j hj]; exact hB3 j hj), scan_word (by omega) hw0 (by omega), hend, ByteArray.size_append, ByteArray.size_append]
def moreT : ByteArray := { data := #[35, 32, 109, 111, 114, 101] }
theorem Joined.all {S : ByteArray} {al : List ByteArray} {ps : List (Nat × Nat)} (h : Joined S al ps) : scan (S ++ moreT) 0 [] = .ok ps := by
  rw [h.walks moreT ⟨by decide, by decide⟩, scan_hash (by rw [ByteArray.size_append]; have : moreT.size = 6 := rfl; omega)]
  rw [bt_right _ _ _ (Nat.le_refl _), Nat.sub_self]; decide
theorem okB_one : okB { data := #[32] } := ⟨by decide, by decide, fun i hi => by
  have h : i < 1 := hi
  obtain rfl : i = 0 := by omega
  decide⟩
theorem okB_tab : okB { data := #[9] } := ⟨by decide, by decide, fun i hi => by
  have h : i < 1 := hi
  obtain rfl : i = 0 := by omega
  decide⟩
theorem okB_three : okB { data := #[32, 13, 32] } := ⟨by decide, by decide, fun i hi => by
  have h : i < 3 := hi
  rcases (by omega : i = 0 ∨ i = 1 ∨ i = 2) with rfl | rfl | rfl <;> decide⟩

/-- Texts as they come in. -/
def StrsIn (w : World) (v : Value) (n : Nat) (f : Nat → ByteArray) : Prop :=
  ∃ ao c, v = .slice ao n c ∧ n ≤ c ∧ c ≤ maxLen ∧ (∀ i, i < n → (f i).size ≤ maxLen) ∧ (0 < n → ∃ b off, ao = some ⟨b, off, none⟩ ∧ ∀ i, i < n → w.cell? ⟨b, off + i, none⟩ = some (.string (f i)))
theorem strs_nil (w : World) : StrsIn w (.slice none 0 0) 0 (fun _ => ByteArray.empty) := ⟨_, _, rfl, Nat.le_refl _, by unfold maxLen; omega, fun i hi => by omega, fun h => by omega⟩
theorem strs_row (w : World) (x : Addr) (len cap : Nat) (ss : List ByteArray) (hl : len ≤ cap) (hm : cap ≤ maxLen) (hz : ss.length = cap)
    (hcell : ∀ i, i < ss.length → w.cell? (x.add i) = some (.string (ss.getD i ByteArray.empty))) (hw : ∀ s ∈ ss, s.size ≤ maxLen) : StrsIn w (.slice (some x) len cap) len (fun i => ss.getD i ByteArray.empty) := by
  refine ⟨_, _, rfl, hl, hm, fun i hi => ?_, fun h0 => ?_⟩
  · have hi' : i < ss.length := by omega
    have hmem : ss.getD i ByteArray.empty ∈ ss := by rw [List.getD_eq_getElem?_getD, List.getElem?_eq_getElem hi']; exact List.getElem_mem hi'
    exact hw _ hmem
  · obtain ⟨b, off, spot⟩ := x
    have hc := hcell 0 (by omega)
    have hspot : spot = none := by simpa [Addr.add] using World.cell?_spot hc
    subst hspot
    refine ⟨b, off, rfl, fun i hi => ?_⟩
    have := hcell i (by omega)
    have e : (⟨b, off, none⟩ : Addr).add i = ⟨b, off + i, none⟩ := by unfold Addr.add; split <;> simp_all
    rw [e] at this; exact this
/-- Bytes as they come in. -/
def BytesIn (w : World) (v : Value) (n : Nat) (f : Nat → Int) : Prop :=
  ∃ ao c, v = .slice ao n c ∧ n ≤ c ∧ c ≤ maxLen ∧ (∀ i, i < n → 0 ≤ f i ∧ f i < 256) ∧ (0 < n → ∃ b off, ao = some ⟨b, off, none⟩ ∧ Cells w .u8 b off n f)
theorem bytes_nil (w : World) : BytesIn w (.slice none 0 0) 0 (fun _ => 0) := ⟨_, _, rfl, Nat.le_refl _, by unfold maxLen; omega, fun i hi => by omega, fun h => by omega⟩
theorem bytes_row (w : World) (x : Addr) (len cap : Nat) (zs : List Int) (hl : len ≤ cap) (hm : cap ≤ maxLen) (hz : zs.length = cap)
    (hcell : ∀ i, i < zs.length → w.cell? (x.add i) = some (.int .u8 (zs.getD i 0))) (hw : ∀ n ∈ zs, (Lit.int .u8 n).wf = true) : BytesIn w (.slice (some x) len cap) len (fun i => zs.getD i 0) := by
  refine ⟨_, _, rfl, hl, hm, fun i hi => ?_, fun h0 => ?_⟩
  · have hi' : i < zs.length := by omega
    have hmem : zs.getD i 0 ∈ zs := by rw [List.getD_eq_getElem?_getD, List.getElem?_eq_getElem hi']; exact List.getElem_mem hi'
    have := bounds_u8 (hw _ hmem); show 0 ≤ zs.getD i 0 ∧ zs.getD i 0 < 256; omega
  · obtain ⟨b, off, spot⟩ := x
    have hc := hcell 0 (by omega)
    have hspot : spot = none := by simpa [Addr.add] using World.cell?_spot hc
    subst hspot
    refine ⟨b, off, rfl, fun i hi => ?_⟩
    have := hcell i (by omega)
    have e : (⟨b, off, none⟩ : Addr).add i = ⟨b, off + i, none⟩ := by unfold Addr.add; split <;> simp_all
    rw [e] at this; exact this

end Go.Proofs.Ytbigickceflflaa
