/-
  What nat.Of makes: the limbs of a small number; what nat.Right and the document's own Right answer of any limbs.
-/
import Derived.Test.YthhabammejkjcaaDoorSize
namespace Go.Proofs.YthhabammejkjcaaDoor
open Go.RowKit

/-- May limbs be? Each below 2^32, the last not 0. -/
def rightB (f : Nat → Int) (n : Nat) : Bool := decide ((∀ i, i < n → f i ≤ 4294967295) ∧ (0 < n → f (n - 1) ≠ 0))
theorem rightB_mk (f : Nat → Int) (n : Nat) (h : ∀ i, i < n → f i ≤ 4294967295) (h0 : 0 < n) : rightB f n = (f (n - 1) != 0) := by
  rw [Bool.eq_iff_iff]; simp only [rightB, decide_eq_true_eq, bne_iff_ne]
  exact ⟨fun g => g.2 h0, fun g => ⟨h, fun _ => g⟩⟩
theorem rightB_no (f : Nat → Int) (n k : Nat) (hk : k < n) (h : 4294967295 < f k) : rightB f n = false := by
  simp only [rightB, decide_eq_false_iff_not]
  intro g; have := g.1 k hk; omega
theorem rightB_nil (f : Nat → Int) : rightB f 0 = true := by simp [rightB]

theorem two_limbs (m : Nat) (g : Nat → Int) (n : Nat) (hb : ∀ i, i < n → 0 ≤ g i ∧ g i < (W32 : Int)) (hv : val W32 g n = (m : Int)) (ht : 0 < n → g (n - 1) ≠ 0) :
    nl W32 m = n ∧ ∀ i, i < n → g i = dg W32 m i := by
  have h1 := sz_val W32 (by decide) g n m hb hv
  refine ⟨?_, val_digit W32 g n m hb hv⟩
  rw [← h1]; exact sz_unique g n n (Nat.le_refl _) ht (fun i h1 h2 => by omega)

set_option maxRecDepth 20000 in
set_option maxHeartbeats 400000 in
theorem of_any (m : Int) (w : World) (h0 : 0 ≤ m) (h1 : m < 18446744073709551616) :
    Calls Tryd.prog 34 #[.int .u64 m] w fun e w' => ∃ v, e = .returned v ∧ Mine .u64 w.heap.size w' v (nl W32 m.toNat) (dg W32 m.toNat) ∧ Below w.heap.size w w' := by
  have hz : (m == 0) = true ∨ ((m == 0) = false ∧ m ≤ 4294967295) ∨ ((m == 0) = false ∧ ¬ m ≤ 4294967295) := by
    by_cases e : m = 0
    · left; simp [e]
    · right; have : (m == 0) = false := by simp [e]
      by_cases g : m ≤ 4294967295 <;> simp [this, g]
  have hm := and_mask m h0 h1
  rcases hz with hz | ⟨hz, hg⟩ | ⟨hz, hg⟩
  · go_enter Tryd.func34, Tryd.ntmps34
    go_wp2
    go_ret
    have : m.toNat = 0 := by simp at hz; omega
    exact ⟨_, rfl, by rw [this, nl_zero]; exact Mine.nil _ _ _ _, Below.refl _ _⟩
  · go_enter Tryd.func34, Tryd.ntmps34
    go_wp2
    go_ret
    have hne : m ≠ 0 := by simpa using hz
    obtain ⟨e1, e2⟩ := two_limbs m.toNat (fun _ => m) 1 (fun i _ => by unfold W32; omega) (by simp [val]; omega) (fun _ => hne)
    refine ⟨_, rfl, ?_, (Below.refl _ _).alloc (Nat.le_refl _) _⟩
    rw [e1]
    refine ⟨_, _, rfl, Nat.le_refl _, by unfold LIM; omega, fun _ => ⟨_, _, rfl, ?_, ?_, Nat.le_refl _⟩⟩
    · intro i hi
      have : i = 0 := by omega
      subst this
      rw [← e2 0 hi]; simp
    · intro i hi; simp
  · go_enter Tryd.func34, Tryd.ntmps34
    go_wp2
    go_ret
    obtain ⟨e1, e2⟩ := two_limbs m.toNat (fun i => if i = 0 then m % 4294967296 else m / 4294967296) 2 (fun i _ => by unfold W32; split <;> omega) (by simp [val]; omega) (fun _ => by simp; omega)
    refine ⟨_, rfl, ?_, (Below.refl _ _).alloc (Nat.le_refl _) _⟩
    rw [e1]
    refine ⟨_, _, rfl, Nat.le_refl _, by unfold LIM; omega, fun _ => ⟨_, _, rfl, ?_, ?_, Nat.le_refl _⟩⟩
    · intro i hi
      rcases (show i = 0 ∨ i = 1 by omega) with rfl | rfl
      · rw [← e2 0 hi]; simp
      · rw [← e2 1 hi]; simp
    · intro i hi; simp

set_option maxRecDepth 20000 in
set_option maxHeartbeats 400000 in
theorem right_pos (b off n c : Nat) (f : Nat → Int) (w : World) (hn : n ≤ LIM) (h0 : 0 < n) (hc : Cells w .u64 b off n f) :
    Calls Tryd.prog 51 #[.slice (some ⟨b, off, none⟩) n c] w fun e w' => e = .returned (.bool (rightB f n)) ∧ w' = w := by
  unfold LIM at hn
  have hne : ((n : Int) == 0) = false := by simp; omega
  go_enter Tryd.func51, Tryd.ntmps51
  go_wp2
  go_loop [7] (fun v => ∃ k : Nat, k ≤ n ∧ v = .int .i64 k ∧ ∀ i, i < k → f i ≤ 4294967295) (fun v => n - (intOf v).toNat)
  case atStart => exact ⟨0, Nat.zero_le _, rfl, by omega⟩
  case round =>
    obtain ⟨k, hk, rfl, hs⟩ := hrel
    have HS : Hid (∀ i, i < k → f i ≤ 4294967295) := hs
    clear hs
    by_cases hkn : k < n
    · have hcell := hc k hkn
      go_wp2
      · go_ret
        exact ⟨ret_bool (rightB_no f n k hkn (by assumption)).symm, rfl⟩
      · have hle : f k ≤ 4294967295 := by assumption
        go_round
        case rel => exact ⟨k + 1, by omega, by go_num, fun i hi => by by_cases e : i = k; exact e ▸ hle; exact HS.out i (by omega)⟩
        case measure => simp [intOf]; omega
    · have hcell := hc (n - 1) (by omega)
      have e1 : ((n : Int) - 1) = ((n - 1 : Nat) : Int) := by omega
      go_wp2
      go_ret
      exact ⟨ret_bool (rightB_mk f n (fun i hi => HS.out i (by omega)) h0).symm, rfl⟩

set_option maxRecDepth 20000 in
set_option maxHeartbeats 400000 in
theorem right_nil (ao : Option Addr) (c : Nat) (w : World) :
    Calls Tryd.prog 51 #[.slice ao 0 c] w fun e w' => e = .returned (.bool true) ∧ w' = w := by
  go_enter Tryd.func51, Tryd.ntmps51
  go_wp2
  go_rounds 1
  go_ret
  exact ⟨rfl, rfl⟩

theorem right_any (v : Value) (n : Nat) (f : Nat → Int) (w : World) (h : Nums .u64 w v n f) :
    Calls Tryd.prog 51 #[v] w fun e w' => e = .returned (.bool (rightB f n)) ∧ w' = w := by
  obtain ⟨ao, c, rfl, _, hl, h4⟩ := h
  by_cases hn : n = 0
  · subst hn; rw [rightB_nil]; exact right_nil ao c w
  · obtain ⟨b, off, rfl, hc⟩ := h4 (by omega)
    exact right_pos b off n c f w hl (by omega) hc

set_option maxRecDepth 20000 in
set_option maxHeartbeats 400000 in
theorem refRight_pos (b off n c : Nat) (f : Nat → Int) (w : World) (hn : n ≤ LIM) (h0 : 0 < n) (hc : Cells w .u64 b off n f) :
    Calls Tryd.prog 27 #[.slice (some ⟨b, off, none⟩) n c] w fun e w' => e = .returned (.bool (rightB f n)) ∧ w' = w := by
  unfold LIM at hn
  have hne : ((n : Int) == 0) = false := by simp; omega
  go_enter Tryd.func27, Tryd.ntmps27
  go_wp2
  go_loop [3] (fun v => ∃ k : Nat, k ≤ n ∧ v = .int .i64 k ∧ ∀ i, i < k → f i ≤ 4294967295) (fun v => n - (intOf v).toNat)
  case atStart => exact ⟨0, Nat.zero_le _, rfl, by omega⟩
  case round =>
    obtain ⟨k, hk, rfl, hs⟩ := hrel
    have HS : Hid (∀ i, i < k → f i ≤ 4294967295) := hs
    clear hs
    by_cases hkn : k < n
    · have hcell := hc k hkn
      go_wp2
      · go_ret
        exact ⟨ret_bool (rightB_no f n k hkn (by assumption)).symm, rfl⟩
      · have hle : f k ≤ 4294967295 := by assumption
        go_round
        case rel => exact ⟨k + 1, by omega, by go_num, fun i hi => by by_cases e : i = k; exact e ▸ hle; exact HS.out i (by omega)⟩
        case measure => simp [intOf]; omega
    · have hcell := hc (n - 1) (by omega)
      have e1 : ((n : Int) - 1) = ((n - 1 : Nat) : Int) := by omega
      go_wp2
      go_ret
      exact ⟨ret_bool (rightB_mk f n (fun i hi => HS.out i (by omega)) h0).symm, rfl⟩

set_option maxRecDepth 20000 in
set_option maxHeartbeats 400000 in
theorem refRight_nil (ao : Option Addr) (c : Nat) (w : World) :
    Calls Tryd.prog 27 #[.slice ao 0 c] w fun e w' => e = .returned (.bool true) ∧ w' = w := by
  go_enter Tryd.func27, Tryd.ntmps27
  go_wp2
  go_rounds 1
  go_ret
  exact ⟨rfl, rfl⟩

theorem refRight_any (v : Value) (n : Nat) (f : Nat → Int) (w : World) (h : Nums .u64 w v n f) :
    Calls Tryd.prog 27 #[v] w fun e w' => e = .returned (.bool (rightB f n)) ∧ w' = w := by
  obtain ⟨ao, c, rfl, _, hl, h4⟩ := h
  by_cases hn : n = 0
  · subst hn; rw [rightB_nil]; exact refRight_nil ao c w
  · obtain ⟨b, off, rfl, hc⟩ := h4 (by omega)
    exact refRight_pos b off n c f w hl (by omega) hc

end Go.Proofs.YthhabammejkjcaaDoor
