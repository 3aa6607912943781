/-
  What nat.size, Zero, Even and limb answer, of any limbs.
-/
import Derived.Test.YthhabammejkjcaaDoorProg
import Derived.Test.YthhabammejkjcaaDoorMem
import Derived.WalkKit
import Derived.WalkSpells
import Derived.WalkLawsBesides
import Derived.BigQuiet
import Derived.Handy
import Derived.Deep.RegionWith
namespace Go.Proofs.YthhabammejkjcaaDoor
open Go.RowKit

/-- Limbs as they come in: each fits 64 bits. -/
def U64 (n : Nat) (f : Nat → Int) : Prop := ∀ i, i < n → 0 ≤ f i ∧ f i < 18446744073709551616

theorem sz_succ_zero (f : Nat → Int) (k : Nat) (h : (f k % 4294967296 == 0) = true) : sz (lo f) (k + 1) = sz (lo f) k := by
  have : lo f k = 0 := by simpa [lo] using h
  simp [sz, this]
theorem sz_succ_not (f : Nat → Int) (k : Nat) (h : (f k % 4294967296 == 0) = false) : sz (lo f) (k + 1) = k + 1 := by
  have : ¬ lo f k = 0 := by simpa [lo] using h
  simp [sz, this]

set_option maxRecDepth 20000 in
set_option maxHeartbeats 400000 in
theorem size_pos (b off n c : Nat) (f : Nat → Int) (w : World) (hn : n ≤ LIM) (hc : Cells w .u64 b off n f) (hf : U64 n f) :
    Calls Tryd.prog 55 #[.slice (some ⟨b, off, none⟩) n c] w fun e w' => e = .returned (.int .i64 (sz (lo f) n)) ∧ w' = w := by
  unfold LIM at hn
  go_enter Tryd.func55, Tryd.ntmps55
  go_wp2
  go_loop [3] (fun v => ∃ k : Nat, k ≤ n ∧ v = .int .i64 k ∧ sz (lo f) n = sz (lo f) k) (fun v => (intOf v).toNat)
  case atStart => exact ⟨n, Nat.le_refl _, rfl, rfl⟩
  case round =>
    obtain ⟨k, hk, rfl, hs⟩ := hrel
    have HS : Hid (sz (lo f) n = sz (lo f) k) := hs
    clear hs
    cases k with
    | zero =>
      go_wp2
      go_ret
      exact ⟨by rw [HS.out]; rfl, rfl⟩
    | succ k =>
      have hcell := hc k (by omega)
      have hb := hf k (by omega)
      have hm := and_mask (f k) hb.1 hb.2
      have h1 : ((k : Int) + 1 - 1) = k := by omega
      go_wp2
      · exact ⟨⟨k, by omega, rfl, by rw [HS.out]; exact sz_succ_zero f k (by assumption)⟩, by simp [intOf]⟩
      · go_ret
        exact ⟨by rw [HS.out, sz_succ_not f k (by assumption)]; rfl, rfl⟩

set_option maxRecDepth 20000 in
set_option maxHeartbeats 400000 in
theorem size_nil (ao : Option Addr) (c : Nat) (w : World) :
    Calls Tryd.prog 55 #[.slice ao 0 c] w fun e w' => e = .returned (.int .i64 0) ∧ w' = w := by
  go_enter Tryd.func55, Tryd.ntmps55
  go_wp2
  go_rounds 1
  go_ret
  exact ⟨rfl, rfl⟩

theorem size_any (v : Value) (n : Nat) (f : Nat → Int) (w : World) (h : Nums .u64 w v n f) (hf : U64 n f) :
    Calls Tryd.prog 55 #[v] w fun e w' => e = .returned (.int .i64 (sz (lo f) n)) ∧ w' = w := by
  obtain ⟨ao, c, rfl, _, hl, h4⟩ := h
  by_cases hn : n = 0
  · subst hn; exact size_nil ao c w
  · obtain ⟨b, off, rfl, hc⟩ := h4 (by omega)
    exact size_pos b off n c f w hl hc hf

set_option maxRecDepth 20000 in
set_option maxHeartbeats 400000 in
theorem zero_any (v : Value) (n : Nat) (f : Nat → Int) (w : World) (h : Nums .u64 w v n f) (hf : U64 n f) :
    Calls Tryd.prog 52 #[v] w fun e w' => e = .returned (.bool (decide (sz (lo f) n = 0))) ∧ w' = w := by
  go_enter Tryd.func52, Tryd.ntmps52
  go_wp2_with (go_at_call 55; refine (size_any _ _ _ _ h hf).mono ?_; rintro e w' ⟨rfl, rfl⟩)
  go_ret
  exact ⟨ret_bool (by rw [Bool.eq_iff_iff]; simp), rfl⟩

/-- A limb as it stands; 0 past the end. -/
def at0 (f : Nat → Int) (n i : Nat) : Int := if i < n then f i else 0

set_option maxRecDepth 20000 in
set_option maxHeartbeats 400000 in
theorem limb_any (v : Value) (n : Nat) (f : Nat → Int) (w : World) (j : Int) (h : Nums .u64 w v n f) (h0 : 0 ≤ j) (h1 : j ≤ LIM) :
    Calls Tryd.prog 65 #[v, .int .i64 j] w fun e w' => e = .returned (.int .u64 (at0 f n j.toNat)) ∧ w' = w := by
  obtain ⟨i, rfl⟩ := Int.eq_ofNat_of_zero_le h0
  rw [Int.toNat_natCast]
  obtain ⟨ao, c, rfl, _, hl, h4⟩ := h
  unfold LIM at hl h1
  by_cases hi : i < n
  · obtain ⟨b, off, rfl, hc⟩ := h4 (by omega)
    have hcell := hc i hi
    go_enter Tryd.func65, Tryd.ntmps65
    go_wp2
    go_ret
    exact ⟨by simp [at0, hi], rfl⟩
  · go_enter Tryd.func65, Tryd.ntmps65
    go_wp2
    go_ret
    exact ⟨by simp [at0, hi], rfl⟩

/-- What To answers: the number, and whether it is small. -/
def toV (f : Nat → Int) (n : Nat) : Int := if sz (lo f) n ≤ 2 then at0 f n 1 % 4294967296 * 4294967296 + at0 f n 0 % 4294967296 else 0

set_option maxRecDepth 20000 in
set_option maxHeartbeats 400000 in
theorem to_any (v : Value) (n : Nat) (f : Nat → Int) (w : World) (h : Nums .u64 w v n f) (hf : U64 n f) :
    Calls Tryd.prog 33 #[v] w fun e w' => e = .returned (.tuple #[.int .u64 (toV f n), .bool (decide (sz (lo f) n ≤ 2))]) ∧ w' = w := by
  have hb : ∀ i, 0 ≤ at0 f n i ∧ at0 f n i < 18446744073709551616 := by
    intro i; unfold at0; split
    · exact hf i (by assumption)
    · omega
  have hm := and_mask (at0 f n 0) (hb 0).1 (hb 0).2
  by_cases hs : sz (lo f) n ≤ 2
  · go_enter Tryd.func33, Tryd.ntmps33
    go_wp2_with (first | (go_at_call 55; refine (size_any _ _ _ _ h hf).mono ?_; rintro e w' ⟨rfl, rfl⟩) | (go_at_call 65; refine (limb_any _ _ _ _ _ h (by omega) (by unfold LIM; omega)).mono ?_; rintro e w' ⟨rfl, rfl⟩; simp only [Int.toNat_zero, Int.toNat_one]))
    go_ret2
    exact ⟨ret_int_bool (by rw [or_join _ _ (by omega) (by omega), toV, if_pos hs]) (by simp [hs]), rfl⟩
  · go_enter Tryd.func33, Tryd.ntmps33
    go_wp2_with (go_at_call 55; refine (size_any _ _ _ _ h hf).mono ?_; rintro e w' ⟨rfl, rfl⟩)
    go_ret2
    exact ⟨ret_int_bool (by rw [toV, if_neg hs]) (by simp [hs]), rfl⟩

end Go.Proofs.YthhabammejkjcaaDoor
