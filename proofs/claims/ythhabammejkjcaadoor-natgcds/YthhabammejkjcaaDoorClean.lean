/-
  What nat.Clean, plain and cut answer: the number that any limbs are, in its one form.
-/
import Derived.Test.YthhabammejkjcaaDoorOf
namespace Go.Proofs.YthhabammejkjcaaDoor
open Go.RowKit

theorem info_u64 : (Tryd.prog.info? 51).map (fun i => (i.zero, i.size, i.bytes)) = some (some (.int .u64 0), 1, 8) := by kernel_rfl

/-- The first k of them, zeros behind. -/
def upto (g : Nat → Int) (k : Nat) : Nat → Int := fun i => if i < k then g i else 0
theorem upto_put (g : Nat → Int) (k i : Nat) : put (upto g k) k (g k) i = upto g (k + 1) i := by
  unfold put upto
  by_cases h : i = k
  · subst h; simp
  · rw [if_neg h]; by_cases h2 : i < k
    · rw [if_pos h2, if_pos (by omega)]
    · rw [if_neg h2, if_neg (by omega)]
theorem upto_all (g : Nat → Int) (k i : Nat) (h : i < k) : upto g k i = g i := by simp [upto, h]

set_option maxRecDepth 20000 in
set_option maxHeartbeats 400000 in
theorem clean_pos (b off n c : Nat) (f : Nat → Int) (w : World) (hn : n ≤ LIM) (hc : Cells w .u64 b off n f) (hf : U64 n f) (hpos : 0 < sz (lo f) n) :
    Calls Tryd.prog 29 #[.slice (some ⟨b, off, none⟩) n c] w fun e w' => ∃ v, e = .returned v ∧ Mine .u64 w.heap.size w' v (sz (lo f) n) (lo f) ∧ Below w.heap.size w w' := by
  obtain ⟨i0, hi, hz0, hz1, hz2⟩ := info_parts info_u64
  have hle := sz_le (lo f) n
  have hblt := hc.lt (by omega)
  obtain ⟨m, hm⟩ : ∃ m, m = sz (lo f) n := ⟨_, rfl⟩
  rw [← hm] at hle hpos ⊢
  have HM : Hid (m = sz (lo f) n) := hm
  clear hm
  unfold LIM at hn
  have hne : ((m : Int) == 0) = false := by simp; omega
  go_enter Tryd.func29, Tryd.ntmps29
  go_wp2_with (first | (go_at_call 55; refine (size_pos _ _ _ _ _ _ (by unfold LIM; omega) hc hf).mono ?_; rintro e w' ⟨rfl, rfl⟩; rw [← HM.out]) | (at_make; refine wpList_make_full _ rfl _ _ 23 rfl _ 51 i0 (.int .u64 0) 1 Tryd.underlying23 hi hz0 hz1 _ _ _ _ m rfl rfl rfl rfl (by rw [hz2]; omega) (by unfold maxLen; omega) (Nat.le_refl _) ?_; intro w1 hown hgrow))
  have hb1 := below_grown hgrow
  obtain ⟨hc1, hs1⟩ := mine_made (k := .u64) (w := w') hown (fun _ => 0) (fun i hi => made_zero .u64 m i hi)
  clear hown hgrow
  have hbs := hb1.size
  go_loopw [14] (fun v wr => ∃ k : Nat, k ≤ m ∧ v = .int .i64 k ∧ Cells wr .u64 w'.heap.size 0 m (upto (lo f) k) ∧ Soft wr w'.heap.size 0 m ∧ Below w'.heap.size w' wr) (fun v _ => m - (intOf v).toNat)
  case atStart => exact ⟨0, Nat.zero_le _, rfl, hc1.congr (fun i _ => by simp [upto]), hs1, hb1⟩
  case round =>
    obtain ⟨k, hk, rfl, hck, hsk, hbk⟩ := hrel
    by_cases hkm : k < m
    · have hcell : wr.cell? ⟨b, off + k, none⟩ = some (.int .u64 (f k)) := (hbk.cell (by exact hblt)).trans (hc k (by omega))
      have hcell2 := hck k hkm
      have hfr := hsk k hkm
      rw [Nat.zero_add] at hcell2 hfr
      have hfk := hf k (by omega)
      have hmk := and_mask (f k) hfk.1 hfk.2
      go_wp2
      go_roundw
      case rel => exact ⟨k + 1, by omega, by go_num, by have := (hck.set k hkm (lo f k)).congr (fun i _ => upto_put (lo f) k i); rw [Nat.zero_add] at this; exact this, hsk.set _ _, hbk.setCell (by simp) _⟩
      case measure => simp [intOf]; omega
    · go_wp2
      go_ret
      have : k = m := by omega
      subst this
      refine ⟨_, rfl, ⟨_, _, rfl, Nat.le_refl _, by unfold LIM; omega, fun _ => ⟨_, _, rfl, hck.congr (fun i hi => upto_all _ _ _ hi), hsk, Nat.le_refl _⟩⟩, hbk⟩

set_option maxRecDepth 20000 in
set_option maxHeartbeats 400000 in
theorem clean_zero (v : Value) (n : Nat) (f : Nat → Int) (w : World) (h : Nums .u64 w v n f) (hf : U64 n f) (hz : sz (lo f) n = 0) :
    Calls Tryd.prog 29 #[v] w fun e w' => e = .returned (.slice none 0 0) ∧ w' = w := by
  go_enter Tryd.func29, Tryd.ntmps29
  go_wp2_with (go_at_call 55; refine (size_any _ _ _ _ h hf).mono ?_; rintro e w' ⟨rfl, rfl⟩; rw [hz])
  go_ret
  exact ⟨rfl, rfl⟩

theorem clean_any (v : Value) (n : Nat) (f : Nat → Int) (w : World) (h : Nums .u64 w v n f) (hf : U64 n f) :
    Calls Tryd.prog 29 #[v] w fun e w' => ∃ v', e = .returned v' ∧ Mine .u64 w.heap.size w' v' (nl W32 (num f n)) (dg W32 (num f n)) ∧ Below w.heap.size w w' := by
  rw [← num_sz]
  by_cases hz : sz (lo f) n = 0
  · refine (clean_zero v n f w h hf hz).mono fun e w' ⟨he, hw⟩ => ⟨_, he, ?_, by rw [hw]; exact Below.refl _ _⟩
    rw [hz]; exact Mine.nil _ _ _ _
  · obtain ⟨ao, c, rfl, _, hl, h4⟩ := h
    have hle := sz_le (lo f) n
    obtain ⟨b, off, rfl, hc⟩ := h4 (by omega)
    refine (clean_pos b off n c f w hl hc hf (by omega)).mono fun e w' ⟨v', he, hm, hb⟩ => ⟨v', he, ?_, hb⟩
    exact hm.congr (fun i hi => num_digit f n i (by omega))

/-- The value v is the number m, in its one form. -/
def Rep (w : World) (v : Value) (m : Nat) : Prop := Nums .u64 w v (nl W32 m) (dg W32 m)
/-- The same, in memory of the call's own. -/
def RepM (B : Nat) (w : World) (v : Value) (m : Nat) : Prop := Mine .u64 B w v (nl W32 m) (dg W32 m)
theorem RepM.rep {B : Nat} {w : World} {v : Value} {m : Nat} (h : RepM B w v m) : Rep w v m := Mine.nums h
theorem u64_dg (m n : Nat) : U64 n (dg W32 m) := fun i _ => by have := dg_bounds W32 m i (by decide); unfold W32 at this ⊢; omega

/-- Limbs that may be are those of their number. -/
theorem right_form (f : Nat → Int) (n : Nat) (hf : U64 n f) (h : rightB f n = true) : n = nl W32 (num f n) ∧ ∀ i, i < n → f i = dg W32 (num f n) i := by
  simp only [rightB, decide_eq_true_eq] at h
  have hb : ∀ i, i < n → lo f i = f i := fun i hi => by have := h.1 i hi; have := hf i hi; unfold lo; omega
  refine ⟨?_, fun i hi => by rw [← num_digit f n i hi]; exact (hb i hi).symm⟩
  rw [← num_sz]
  refine (sz_unique (lo f) n n (Nat.le_refl _) (fun h0 => ?_) (fun i h1 h2 => by omega)).symm
  rw [hb _ (by omega)]; exact h.2 h0

set_option maxRecDepth 20000 in
set_option maxHeartbeats 400000 in
theorem plain_any (v : Value) (n : Nat) (f : Nat → Int) (w : World) (h : Nums .u64 w v n f) (hf : U64 n f) :
    Calls Tryd.prog 36 #[v] w fun e w' => ∃ v', e = .returned v' ∧ Rep w' v' (num f n) ∧ Below w.heap.size w w' := by
  cases hr : rightB f n with
  | true =>
    go_enter Tryd.func36, Tryd.ntmps36
    go_wp2_with (go_at_call 51; refine (right_any _ _ _ _ h).mono ?_; rintro e w' ⟨rfl, rfl⟩; rw [hr])
    go_ret
    obtain ⟨e1, e2⟩ := right_form f n hf hr
    refine ⟨_, rfl, ?_, Below.refl _ _⟩
    unfold Rep
    rw [← e1]; exact h.congr e2
  | false =>
    go_enter Tryd.func36, Tryd.ntmps36
    go_wp2_with (first | (go_at_call 51; refine (right_any _ _ _ _ h).mono ?_; rintro e w' ⟨rfl, rfl⟩; rw [hr]) | (go_at_call 29; refine (clean_any _ _ _ _ h hf).mono ?_; rintro e w2 ⟨v', rfl, hm, hb⟩))
    go_ret
    exact ⟨_, rfl, hm.nums, hb⟩

set_option maxRecDepth 20000 in
set_option maxHeartbeats 400000 in
/-- nat.cut of limbs below 2^32 in memory of the call's own: the number, in the same memory. -/
theorem cut_mine (B : Nat) (v : Value) (n : Nat) (f : Nat → Int) (w : World) (m : Nat) (h : Mine .u64 B w v n f) (hf : ∀ i, i < n → 0 ≤ f i ∧ f i < (W32 : Int)) (hm : val W32 f n = (m : Int)) :
    Calls Tryd.prog 63 #[v] w fun e w' => ∃ v', e = .returned v' ∧ RepM B w' v' m ∧ w' = w := by
  have hs : sz (lo f) n = nl W32 m := by
    rw [num_sz, num_of f n m hf hm]
  have hfu : U64 n f := fun i hi => by have := hf i hi; unfold W32 at this; omega
  have hle := sz_le (lo f) n
  rw [hs] at hle
  have hN := h.nums
  obtain ⟨ao, c, rfl, hnc, hl, h4⟩ := h
  unfold LIM at hl
  by_cases hz : nl W32 m = 0
  · go_enter Tryd.func63, Tryd.ntmps63
    go_wp2_with (go_at_call 55; refine (size_any _ _ _ _ hN hfu).mono ?_; rintro e w' ⟨rfl, rfl⟩; rw [hs, hz])
    go_ret
    refine ⟨_, rfl, ?_, rfl⟩
    unfold RepM; rw [hz]; exact Mine.nil _ _ _ _
  · obtain ⟨b, off, rfl, hc, hsf, hB⟩ := h4 (by omega)
    have hne : ((nl W32 m : Int) == 0) = false := by simp; omega
    go_enter Tryd.func63, Tryd.ntmps63
    go_wp2_with (go_at_call 55; refine (size_any _ _ _ _ hN hfu).mono ?_; rintro e w' ⟨rfl, rfl⟩; rw [hs])
    go_ret
    refine ⟨_, rfl, ?_, rfl⟩
    exact ⟨_, _, rfl, by omega, by unfold LIM; omega, fun _ => ⟨_, _, rfl, (hc.mono hle).congr (fun i hi => val_digit W32 f n m hf hm i (by omega)), hsf.mono hle, hB⟩⟩

end Go.Proofs.YthhabammejkjcaaDoor
