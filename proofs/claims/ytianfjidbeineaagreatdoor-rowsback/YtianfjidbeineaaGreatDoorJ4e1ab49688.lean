/-
  Texts of mine, joined: what lies beneath the statement.
-/
import Derived.Test.YtianfjidbeineaaGreatDoorJ6131666111
import Derived.Lib.Bytealg
import Derived.Lib.IndexLaws
namespace Go.Proofs.YtianfjidbeineaaGreatDoor
open Go.RowKit
set_option linter.unusedVariables false
set_option linter.unusedSimpArgs false

/-- Where the line that i is in ends. -/
def lEnd (s : ByteArray) (i : Nat) : Nat := if h : i < s.size ∧ ¬ bt s i = 10 then lEnd s (i + 1) else i
termination_by s.size - i
theorem lEnd_in {s : ByteArray} {i : Nat} (h : i < s.size) (hw : ¬ bt s i = 10) : lEnd s i = lEnd s (i + 1) := by
  rw [lEnd, dif_pos ⟨h, hw⟩]
theorem lEnd_out {s : ByteArray} {i : Nat} (h : ¬ (i < s.size ∧ ¬ bt s i = 10)) : lEnd s i = i := by
  rw [lEnd, dif_neg h]
theorem lEnd_ge (s : ByteArray) (i : Nat) : i ≤ lEnd s i := by
  fun_induction lEnd s i with
  | case1 i h ih => omega
  | case2 i h => omega
theorem lEnd_le (s : ByteArray) (i : Nat) (hi : i ≤ s.size) : lEnd s i ≤ s.size := by
  fun_induction lEnd s i with
  | case1 i h ih => exact ih (by omega)
  | case2 i h => exact hi
theorem lEnd_eq (s : ByteArray) (i e : Nat) (h1 : i ≤ e) (h2 : ∀ j, i ≤ j → j < e → j < s.size ∧ ¬ bt s j = 10) (h3 : ¬ (e < s.size ∧ ¬ bt s e = 10)) : lEnd s i = e := by
  fun_induction lEnd s i with
  | case1 i h ih =>
    by_cases e' : i = e
    · subst e'; exact absurd h h3
    · exact ih (by omega) (fun j a b => h2 j (by omega) b)
  | case2 i h =>
    by_cases e' : i = e
    · exact e'
    · exact absurd (h2 i (Nat.le_refl _) (by omega)) h

/-- What comes of a text: the words of its lines that have some, and where these lines end, or the first fault. -/
inductive LScan where
  | ok (l : List (List Tok × Nat))
  | err (i : Nat) (c : Nat)

/-- The lines behind one. -/
def addLine (s : ByteArray) (a n e : Nat) (out : List (List Tok × Nat)) (l : List (Nat × Nat)) : List (List Tok × Nat) := if l.length = 0 then out else out ++ [(toks (s.extract a e) a n l, e)]
/-- The lines from a on, which is the n-th, behind those found so far. -/
def lscan (s : ByteArray) (a n : Nat) (out : List (List Tok × Nat)) : LScan :=
  if 16384 ≤ n then .err a 16 else
    match scan (s.extract a (lEnd s a)) 0 [] with
    | .form i => .err (a + i) 4
    | .limit i => .err (a + i) 16
    | .ok l => if h : lEnd s a < s.size then lscan s (lEnd s a + 1) (n + 1) (addLine s a n (lEnd s a) out l) else .ok (addLine s a n (lEnd s a) out l)
termination_by s.size - a
decreasing_by
  have := lEnd_ge s a
  omega
theorem lscan_limit {s : ByteArray} {a n : Nat} {out : List (List Tok × Nat)} (h : 16384 ≤ n) : lscan s a n out = .err a 16 := by rw [lscan, if_pos h]
theorem lscan_form {s : ByteArray} {a n e i : Nat} {out : List (List Tok × Nat)} (h : ¬ 16384 ≤ n) (he : lEnd s a = e) (hs : scan (s.extract a e) 0 [] = .form i) : lscan s a n out = .err (a + i) 4 := by
  subst he; rw [lscan, if_neg h, hs]
theorem lscan_words {s : ByteArray} {a n e i : Nat} {out : List (List Tok × Nat)} (h : ¬ 16384 ≤ n) (he : lEnd s a = e) (hs : scan (s.extract a e) 0 [] = .limit i) : lscan s a n out = .err (a + i) 16 := by
  subst he; rw [lscan, if_neg h, hs]
theorem lscan_more {s : ByteArray} {a n e : Nat} {out : List (List Tok × Nat)} {l : List (Nat × Nat)} (h : ¬ 16384 ≤ n) (he : lEnd s a = e) (hs : scan (s.extract a e) 0 [] = .ok l) (hl : e < s.size) :
    lscan s a n out = lscan s (e + 1) (n + 1) (addLine s a n e out l) := by
  subst he; rw [lscan, if_neg h, hs]; exact dif_pos hl
theorem lscan_done {s : ByteArray} {a n e : Nat} {out : List (List Tok × Nat)} {l : List (Nat × Nat)} (h : ¬ 16384 ≤ n) (he : lEnd s a = e) (hs : scan (s.extract a e) 0 [] = .ok l) (hl : ¬ e < s.size) :
    lscan s a n out = .ok (addLine s a n e out l) := by
  subst he; rw [lscan, if_neg h, hs]; exact dif_neg hl
theorem addLine_none {s : ByteArray} {a n e : Nat} {out : List (List Tok × Nat)} {l : List (Nat × Nat)} (h : l.length = 0) : addLine s a n e out l = out := if_pos h
theorem addLine_some {s : ByteArray} {a n e : Nat} {out : List (List Tok × Nat)} {l : List (Nat × Nat)} (h : ¬ l.length = 0) : addLine s a n e out l = out ++ [(toks (s.extract a e) a n l, e)] := if_neg h
theorem addLine_len {s : ByteArray} {a n e m : Nat} {out : List (List Tok × Nat)} {l : List (Nat × Nat)} (h : out.length ≤ m) : (addLine s a n e out l).length ≤ m + 1 := by
  unfold addLine; split
  · omega
  · simp; omega
theorem addLine_all {s : ByteArray} {a n e m : Nat} {out : List (List Tok × Nat)} {l : List (Nat × Nat)} (h : ∀ p ∈ out, p.1.length ≤ m) (hl : l.length ≤ m) : ∀ p ∈ addLine s a n e out l, p.1.length ≤ m := by
  intro p hp
  unfold addLine at hp
  split at hp
  · exact h p hp
  · rw [List.mem_append] at hp
    rcases hp with hp | hp
    · exact h p hp
    · obtain rfl := List.mem_singleton.1 hp
      show (toks _ _ _ _).length ≤ m
      rw [toks_length]; exact hl

/-- Two rows of unlike elements lie in two blocks. -/
theorem owns_apart {w : World} {B B' k k' n n' : Nat} {e e' : TypeId} {v v' : Value} {us us' : List Value} (h : w.ownsRow B e k v n us) (h' : w.ownsRow B' e' k' v' n' us') (hne : e ≠ e') : v.ownBlock = none ∨ v.ownBlock ≠ v'.ownBlock := by
  rcases h.2 with ⟨rfl, _⟩ | ⟨g, cap, cur, rfl, hb, hg, _⟩
  · exact .inl rfl
  · rcases h'.2 with ⟨rfl, _⟩ | ⟨g', cap', cur', rfl, hb', hg', _⟩
    · exact .inr (by simp [Value.ownBlock])
    · refine .inr fun hh => hne ?_
      have hh' : some g = some g' := hh
      injection hh' with hh'
      subst hh'
      rw [hg] at hg'
      injection hg' with hg'
      injection hg'
theorem TOwn.kept {B B' k n : Nat} {e : TypeId} {w w' : World} {v v' : Value} {l : List Tok} {us : List Value} (h : TOwn B w v l) (h' : w.ownsRow B' e k v' n us) (hne : 51 ≠ e) (hg : w.grownBy w' v'.ownBlock) : TOwn B w' v l :=
  World.ownsRow.kept h hg (owns_apart h h' hne)

/-- A slice of slices of words, all of the call's own. -/
def ROwn (B : Nat) (w : World) (v : Value) (L : List (List Tok)) : Prop :=
  ∃ us, w.ownsRow B 45 1 v L.length us ∧ ∀ (i : Nat) t, L[i]? = some t → ∃ u, us[i]? = some u ∧ TOwn B w u t
theorem ROwn.nil (B : Nat) (w : World) : ROwn B w (.slice none 0 0) [] := ⟨[], World.ownsRow_nil _ _ _ _, fun i t h => by simp at h⟩
theorem ROwn.later {B : Nat} {w w' : World} {v : Value} {L : List (List Tok)} (h : ROwn B w v L) (hb : Below w.heap.size w w') : ROwn B w' v L :=
  let ⟨us, o, ht⟩ := h; ⟨us, owns_later o hb, fun i t hi => let ⟨u, h1, h2⟩ := ht i t hi; ⟨u, h1, h2.later hb⟩⟩
theorem ROwn.more {B : Nat} {w w' : World} {v v' u : Value} {L : List (List Tok)} {t : List Tok} {us : List Value} (o : w.ownsRow B 45 1 v L.length us) (ht : ∀ (i : Nat) t, L[i]? = some t → ∃ u, us[i]? = some u ∧ TOwn B w u t) (hu : TOwn B w u t)
    (o' : w'.ownsRow B 45 1 v' (L.length + 1) (us ++ [u])) (hg : w.grownBy w' v.ownBlock) : ROwn B w' v' (L ++ [t]) := by
  have hul : us.length = L.length := by have := o.1; omega
  refine ⟨us ++ [u], by rw [List.length_append]; exact o', fun i t' hi => ?_⟩
  by_cases hlt : i < L.length
  · rw [List.getElem?_append_left hlt] at hi
    obtain ⟨u', h1, h2⟩ := ht i t' hi
    exact ⟨u', by rw [List.getElem?_append_left (by omega)]; exact h1, h2.kept o (by decide) hg⟩
  · rw [List.getElem?_append_right (by omega)] at hi
    have h0 : i - L.length = 0 := by
      by_cases h0 : i - L.length = 0
      · exact h0
      · rw [List.getElem?_eq_none (by simp; omega)] at hi; cases hi
    rw [h0] at hi
    obtain rfl : t = t' := by simpa using hi
    exact ⟨u, by rw [List.getElem?_append_right (by omega), show i - us.length = 0 by omega]; rfl, hu.kept o (by decide) hg⟩

theorem owns_slice {B k N : Nat} {e : TypeId} {w : World} {v : Value} {us : List Value} (h : w.ownsRow B e k v N us) : ∃ ao c, v = .slice ao N c ∧ w.ownsRow B e k (.slice ao N c) N us ∧ (0 < N → ∃ g, ao = some ⟨g, 0, none⟩) := by
  have hh := h
  rcases h.2 with ⟨h1, h2⟩ | ⟨g, cap, cur, h1, hb, hg, hnc, hcm, rest⟩
  · subst h1; subst h2; exact ⟨none, 0, rfl, hh, fun h => by omega⟩
  · subst h1; exact ⟨_, cap, rfl, hh, fun _ => ⟨g, rfl⟩⟩

end Go.Proofs.YtianfjidbeineaaGreatDoor
