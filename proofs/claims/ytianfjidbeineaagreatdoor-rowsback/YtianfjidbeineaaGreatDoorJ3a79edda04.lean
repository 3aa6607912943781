/-
  Texts of mine, joined: what lies beneath the statement.
-/
import Derived.Test.YtianfjidbeineaaGreatDoorJab55d695f0
import Derived.Lib.Join
namespace Go.Proofs.YtianfjidbeineaaGreatDoor
open Go.RowKit
set_option linter.unusedVariables false
set_option linter.unusedSimpArgs false

/-- A word's bytes. -/
def GoodW (u : List UInt8) : Prop := u ≠ [] ∧ ∀ b ∈ u, inW b.toNat = true
/-- No word goes on here. -/
def Ends (l : List UInt8) : Prop := ∀ b, l.head? = some b → inW b.toNat = false
inductive Parsed : List UInt8 → List (List UInt8) → Prop
  | nil : Parsed [] []
  | blank {b : UInt8} {l : List UInt8} {ws : List (List UInt8)} (hb : blk b.toNat = true) (h : Parsed l ws) : Parsed (b :: l) ws
  | word {u l : List UInt8} {ws : List (List UInt8)} (hu : GoodW u) (he : Ends l) (h : Parsed l ws) : Parsed (u ++ l) (u :: ws)
theorem bt_pre (s : ByteArray) (pre l : List UInt8) (h : s.data.toList = pre ++ l) (j : Nat) : bt s (pre.length + j) = (l.getD j 0).toNat := by
  unfold bt
  rw [h, List.getD_eq_getElem?_getD, List.getElem?_append_right (by omega), Nat.add_sub_cancel_left, ← List.getD_eq_getElem?_getD]
theorem size_pre (s : ByteArray) (pre l : List UInt8) (h : s.data.toList = pre ++ l) : s.size = pre.length + l.length := by
  have : s.data.toList.length = s.size := by simp
  rw [← this, h, List.length_append]
theorem getD_mem {l : List UInt8} {j : Nat} (h : j < l.length) : l.getD j 0 ∈ l := by
  rw [List.getD_eq_getElem?_getD, List.getElem?_eq_getElem h]; exact List.getElem_mem h
/-- What scan finds of such a text, from any place on. -/
theorem parsed_scan {s : ByteArray} {l : List UInt8} {ws : List (List UInt8)} (h : Parsed l ws) : ∀ (pre : List UInt8) (out : List (Nat × Nat)), s.data.toList = pre ++ l → out.length + ws.length ≤ 4096 → ∃ ps, scan s pre.length out = .ok (out ++ ps) ∧ ps.map (fun p => (s.extract p.1 p.2).data.toList) = ws := by
  induction h with
  | nil =>
    intro pre out hs _
    refine ⟨[], ?_, rfl⟩
    rw [scan_end (by rw [size_pre s pre [] hs]; simp), List.append_nil]
  | @blank b l ws hb h ih =>
    intro pre out hs hl
    have hsz := size_pre s pre (b :: l) hs
    have hb0 := bt_pre s pre (b :: l) hs 0
    rw [Nat.add_zero] at hb0
    have hb0 : bt s pre.length = b.toNat := hb0
    obtain ⟨ps, h1, h2⟩ := ih (pre ++ [b]) out (by rw [hs]; simp) hl
    refine ⟨ps, ?_, h2⟩
    rw [scan_blank (by rw [hsz]; simp) (by rw [hb0]; exact hb)]
    rw [List.length_append] at h1
    exact h1
  | @word u l ws hu he h ih =>
    intro pre out hs hl
    have hsz := size_pre s pre (u ++ l) hs
    rw [List.length_append] at hsz
    have hu1 : 0 < u.length := by
      rcases u with _ | ⟨x, y⟩
      · exact absurd rfl hu.1
      · simp
    have hin : ∀ j, j < u.length → inW (bt s (pre.length + j)) = true := fun j hj => by
      rw [bt_pre s pre (u ++ l) hs j, List.getD_eq_getElem?_getD, List.getElem?_append_left hj, ← List.getD_eq_getElem?_getD]
      exact hu.2 _ (getD_mem hj)
    have hend : wEnd s pre.length = pre.length + u.length := by
      refine wEnd_eq s _ _ (by omega) (fun j g1 g2 => ⟨by omega, ?_⟩) (fun g => ?_)
      · have := hin (j - pre.length) (by omega)
        rw [show pre.length + (j - pre.length) = j by omega] at this
        exact this
      · have hl0 : 0 < l.length := by omega
        have hb0 : bt s (pre.length + u.length) = (l.getD 0 0).toNat := by
          rw [bt_pre s pre (u ++ l) hs u.length, List.getD_eq_getElem?_getD, List.getElem?_append_right (Nat.le_refl _), Nat.sub_self, ← List.getD_eq_getElem?_getD]
        rcases l with _ | ⟨x, y⟩
        · simp at hl0
        · have h9 := he x rfl
          have g2 := g.2
          rw [hb0] at g2
          have g2 : inW x.toNat = true := g2
          rw [h9] at g2; cases g2
    obtain ⟨ps, h1, h2⟩ := ih (pre ++ u) (out ++ [(pre.length, pre.length + u.length)]) (by rw [hs]; simp) (by simp at hl ⊢; omega)
    refine ⟨(pre.length, pre.length + u.length) :: ps, ?_, ?_⟩
    · have h0 := hin 0 hu1
      rw [Nat.add_zero] at h0
      rw [scan_word (by omega) h0 (by simp at hl; omega), hend]
      rw [List.length_append] at h1
      rw [h1]
      simp
    · rw [List.map_cons, h2]
      congr 1
      show (s.extract pre.length (pre.length + u.length)).data.toList = u
      rw [ByteArray.data_extract, Array.toList_extract, List.extract_eq_take_drop, hs, List.drop_left, Nat.add_sub_cancel_left, List.take_left]
theorem parsed_all {s : ByteArray} {ws : List (List UInt8)} (h : Parsed s.data.toList ws) (hl : ws.length ≤ 4096) : ∃ ps, scan s 0 [] = .ok ps ∧ ps.map (fun p => (s.extract p.1 p.2).data.toList) = ws := by
  obtain ⟨ps, h1, h2⟩ := parsed_scan (s := s) h [] [] (by simp) (by simpa using hl)
  exact ⟨ps, by simpa using h1, h2⟩
theorem join_two (u v : List UInt8) (ws : List (List UInt8)) (sep : List UInt8) : Lib.join (u :: v :: ws) sep = u ++ (sep ++ Lib.join (v :: ws) sep) := by
  rw [Lib.join_cons, Lib.join_cons]
  simp [Lib.joinTail]
/-- Words with a blank between two, and what is behind them. -/
theorem parsed_join : ∀ (ws us : List (List UInt8)) (l : List UInt8), (∀ u ∈ ws, GoodW u) → Ends l → Parsed l us → Parsed (Lib.join ws [32] ++ l) (ws ++ us)
  | [], us, l, _, _, h => by rw [Lib.join_nil]; simpa using h
  | [u], us, l, hg, he, h => by
    have := Parsed.word (hg u (by simp)) he h
    rw [Lib.join_one]
    simpa using this
  | u :: v :: ws, us, l, hg, he, h => by
    have ih := parsed_join (v :: ws) us l (fun x hx => hg x (by simp at hx ⊢; exact .inr hx)) he h
    have h2 : Parsed (32 :: (Lib.join (v :: ws) [32] ++ l)) (v :: ws ++ us) := .blank (by decide) ih
    have h3 := Parsed.word (hg u (by simp)) (l := 32 :: (Lib.join (v :: ws) [32] ++ l)) (fun b hb => by
      have : b = 32 := by simpa using hb.symm
      rw [this]; decide) h2
    rw [join_two]
    simpa using h3
/-- Rows of words, with a bar between two. -/
def barred : List (List (List UInt8)) → List (List UInt8)
  | [] => []
  | [r] => r
  | r :: s :: rs => r ++ [124] :: barred (s :: rs)
theorem parsed_rows : ∀ rows : List (List (List UInt8)), (∀ r ∈ rows, ∀ u ∈ r, GoodW u) → Parsed (Lib.join (rows.map (fun r => Lib.join r [32])) [32, 124, 32]) (barred rows)
  | [], _ => by rw [List.map_nil, Lib.join_nil]; exact Parsed.nil
  | [r], h => by
    have := parsed_join r [] [] (h r (by simp)) (fun b hb => by simp at hb) .nil
    rw [List.map_cons, List.map_nil, Lib.join_one]
    simpa [barred] using this
  | r :: s :: rs, h => by
    have ih := parsed_rows (s :: rs) (fun x hx => h x (by simp at hx ⊢; exact .inr hx))
    generalize hT : Lib.join ((s :: rs).map (fun r => Lib.join r [32])) [32, 124, 32] = T at ih
    have h1 : Parsed (32 :: T) (barred (s :: rs)) := .blank (by decide) ih
    have h2 := Parsed.word (u := [124]) (l := 32 :: T) ⟨by simp, fun b hb => by
      have : b = 124 := by simpa using hb
      rw [this]; decide⟩ (fun b hb => by
      have : b = 32 := by simpa using hb.symm
      rw [this]; decide) h1
    have h3 : Parsed (32 :: ([124] ++ 32 :: T)) ([124] :: barred (s :: rs)) := .blank (by decide) h2
    have h4 := parsed_join r ([124] :: barred (s :: rs)) (32 :: ([124] ++ 32 :: T)) (h r (by simp)) (fun b hb => by
      have : b = 32 := by simpa using hb.symm
      rw [this]; decide) h3
    have e : Lib.join ((r :: s :: rs).map (fun r => Lib.join r [32])) [32, 124, 32] = Lib.join r [32] ++ 32 :: ([124] ++ 32 :: T) := by
      rw [← hT, List.map_cons, List.map_cons, join_two]; simp
    rw [e]
    exact h4

end Go.Proofs.YtianfjidbeineaaGreatDoor
