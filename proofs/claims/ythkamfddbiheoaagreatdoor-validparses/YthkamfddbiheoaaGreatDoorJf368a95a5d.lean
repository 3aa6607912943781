/-
  Texts of mine.
-/
import Derived.Test.YthkamfddbiheoaaGreatDoorProg
import Derived.Test.YthkamfddbiheoaaGreatDoorJ4ee272a78f
import Derived.WalkKit
import Derived.WalkSpells
import Derived.WalkLawsBesides
import Derived.BigQuiet
import Derived.Handy
import Derived.Deep.RegionWith
namespace Go.Proofs.YthkamfddbiheoaaGreatDoor
open Go.RowKit

/-- Limbs as they come in: each fits 64 bits. -/
def U64 (n : Nat) (f : Nat → Int) : Prop := ∀ i, i < n → 0 ≤ f i ∧ f i < 18446744073709551616

theorem sz_succ_zero (f : Nat → Int) (k : Nat) (h : (f k % 4294967296 == 0) = true) : sz (lo f) (k + 1) = sz (lo f) k := by
 have : lo f k = 0 := by simpa [lo] using h
 simp [sz, this]
theorem sz_succ_not (f : Nat → Int) (k : Nat) (h : (f k % 4294967296 == 0) = false) : sz (lo f) (k + 1) = k + 1 := by
 have : ¬ lo f k = 0 := by simpa [lo] using h
 simp [sz, this]

set_option maxRecDepth 20000 in
set_option maxHeartbeats 400000 in
theorem size_pos (b off n c : Nat) (f : Nat → Int) (w : World) (hn : n ≤ LIM) (hc : Cells w .u64 b off n f) (hf : U64 n f) :
  Calls Tryz.prog 123 #[.slice (some ⟨b, off, none⟩) n c] w fun e w' => e = .returned (.int .i64 (sz (lo f) n)) ∧ w' = w := by
 unfold LIM at hn
 go_enter Tryz.func123, Tryz.ntmps123
 go_wp2
 go_loop [3] (fun v => ∃ k : Nat, k ≤ n ∧ v = .int .i64 k ∧ sz (lo f) n = sz (lo f) k) (fun v => (intOf v).toNat)
 case atStart => exact ⟨n, Nat.le_refl _, rfl, rfl⟩
 case round =>
  obtain ⟨k, hk, rfl, hs⟩ := hrel
  have HS : Hid (sz (lo f) n = sz (lo f) k) := hs
  clear hs
  cases k with
  | zero =>
   go_wp2
   go_ret
   exact ⟨by rw [HS.out]; rfl, rfl⟩
  | succ k =>
   have hcell := hc k (by omega)
   have hb := hf k (by omega)
   have hm := and_mask (f k) hb.1 hb.2
   have h1 : ((k : Int) + 1 - 1) = k := by omega
   go_wp2
   ·exact ⟨⟨k, by omega, rfl, by rw [HS.out]; exact sz_succ_zero f k (by assumption)⟩, by simp [intOf]⟩
   ·go_ret
    exact ⟨by rw [HS.out, sz_succ_not f k (by assumption)]; rfl, rfl⟩

set_option maxRecDepth 20000 in
set_option maxHeartbeats 400000 in
theorem size_nil (ao : Option Addr) (c : Nat) (w : World) :
  Calls Tryz.prog 123 #[.slice ao 0 c] w fun e w' => e = .returned (.int .i64 0) ∧ w' = w := by
 go_enter Tryz.func123, Tryz.ntmps123
 go_wp2
 go_rounds 1
 go_ret
 exact ⟨rfl, rfl⟩

theorem size_any (v : Value) (n : Nat) (f : Nat → Int) (w : World) (h : Nums .u64 w v n f) (hf : U64 n f) :
  Calls Tryz.prog 123 #[v] w fun e w' => e = .returned (.int .i64 (sz (lo f) n)) ∧ w' = w := by
 obtain ⟨ao, c, rfl, _, hl, h4⟩ := h
 by_cases hn : n = 0
 ·subst hn; exact size_nil ao c w
 ·obtain ⟨b, off, rfl, hc⟩ := h4 (by omega)
  exact size_pos b off n c f w hl hc hf

set_option maxRecDepth 20000 in
set_option maxHeartbeats 400000 in
theorem zero_any (v : Value) (n : Nat) (f : Nat → Int) (w : World) (h : Nums .u64 w v n f) (hf : U64 n f) :
  Calls Tryz.prog 83 #[v] w fun e w' => e = .returned (.bool (decide (sz (lo f) n = 0))) ∧ w' = w := by
 go_enter Tryz.func83, Tryz.ntmps83
 go_wp2_with (go_at_call 123; refine (size_any _ _ _ _ h hf).mono ?_; rintro e w' ⟨rfl, rfl⟩)
 go_ret
 exact ⟨ret_bool (by rw [Bool.eq_iff_iff]; simp), rfl⟩

/-- A limb as it stands; 0 past the end. -/
def at0 (f : Nat → Int) (n i : Nat) : Int := if i < n then f i else 0

set_option maxRecDepth 20000 in
set_option maxHeartbeats 400000 in
theorem limb_any (v : Value) (n : Nat) (f : Nat → Int) (w : World) (j : Int) (h : Nums .u64 w v n f) (h0 : 0 ≤ j) (h1 : j ≤ LIM) :
  Calls Tryz.prog 170 #[v, .int .i64 j] w fun e w' => e = .returned (.int .u64 (at0 f n j.toNat)) ∧ w' = w := by
 obtain ⟨i, rfl⟩ := Int.eq_ofNat_of_zero_le h0
 rw [Int.toNat_natCast]
 obtain ⟨ao, c, rfl, _, hl, h4⟩ := h
 unfold LIM at hl h1
 by_cases hi : i < n
 ·obtain ⟨b, off, rfl, hc⟩ := h4 (by omega)
  have hcell := hc i hi
  go_enter Tryz.func170, Tryz.ntmps170
  go_wp2
  go_ret
  exact ⟨by simp [at0, hi], rfl⟩
 ·go_enter Tryz.func170, Tryz.ntmps170
  go_wp2
  go_ret
  exact ⟨by simp [at0, hi], rfl⟩

/-- What To answers: the number, and whether it is small. -/
def toV (f : Nat → Int) (n : Nat) : Int := if sz (lo f) n ≤ 2 then at0 f n 1 % 4294967296 * 4294967296 + at0 f n 0 % 4294967296 else 0

set_option maxRecDepth 20000 in
set_option maxHeartbeats 400000 in
theorem to_any (v : Value) (n : Nat) (f : Nat → Int) (w : World) (h : Nums .u64 w v n f) (hf : U64 n f) :
  Calls Tryz.prog 120 #[v] w fun e w' => e = .returned (.tuple #[.int .u64 (toV f n), .bool (decide (sz (lo f) n ≤ 2))]) ∧ w' = w := by
 have hb : ∀ i, 0 ≤ at0 f n i ∧ at0 f n i < 18446744073709551616 := by
  intro i; unfold at0; split
  ·exact hf i (by assumption)
  ·omega
 have hm := and_mask (at0 f n 0) (hb 0).1 (hb 0).2
 by_cases hs : sz (lo f) n ≤ 2
 ·go_enter Tryz.func120, Tryz.ntmps120
  go_wp2_with (first | (go_at_call 123; refine (size_any _ _ _ _ h hf).mono ?_; rintro e w' ⟨rfl, rfl⟩) | (go_at_call 170; refine (limb_any _ _ _ _ _ h (by omega) (by unfold LIM; omega)).mono ?_; rintro e w' ⟨rfl, rfl⟩; simp only [Int.toNat_zero, Int.toNat_one]))
  go_ret2
  exact ⟨ret_int_bool (by rw [or_join _ _ (by omega) (by omega), toV, if_pos hs]) (by simp [hs]), rfl⟩
 ·go_enter Tryz.func120, Tryz.ntmps120
  go_wp2_with (go_at_call 123; refine (size_any _ _ _ _ h hf).mono ?_; rintro e w' ⟨rfl, rfl⟩)
  go_ret2
  exact ⟨ret_int_bool (by rw [toV, if_neg hs]) (by simp [hs]), rfl⟩

/-- May limbs be? Each below 2^32, the last not 0. -/
def rightB (f : Nat → Int) (n : Nat) : Bool := decide ((∀ i, i < n → f i ≤ 4294967295) ∧ (0 < n → f (n - 1) ≠ 0))
theorem rightB_mk (f : Nat → Int) (n : Nat) (h : ∀ i, i < n → f i ≤ 4294967295) (h0 : 0 < n) : rightB f n = (f (n - 1) != 0) := by
 rw [Bool.eq_iff_iff]; simp only [rightB, decide_eq_true_eq, bne_iff_ne]
 exact ⟨fun g => g.2 h0, fun g => ⟨h, fun _ => g⟩⟩
theorem rightB_no (f : Nat → Int) (n k : Nat) (hk : k < n) (h : 4294967295 < f k) : rightB f n = false := by
 simp only [rightB, decide_eq_false_iff_not]
 intro g; have := g.1 k hk; omega
theorem rightB_nil (f : Nat → Int) : rightB f 0 = true := by simp [rightB]

theorem two_limbs (m : Nat) (g : Nat → Int) (n : Nat) (hb : ∀ i, i < n → 0 ≤ g i ∧ g i < (W32 : Int)) (hv : val W32 g n = (m : Int)) (ht : 0 < n → g (n - 1) ≠ 0) :
  nl W32 m = n ∧ ∀ i, i < n → g i = dg W32 m i := by
 have h1 := sz_val W32 (by decide) g n m hb hv
 refine ⟨?_, val_digit W32 g n m hb hv⟩
 rw [← h1]; exact sz_unique g n n (Nat.le_refl _) ht (fun i h1 h2 => by omega)

set_option maxRecDepth 20000 in
set_option maxHeartbeats 400000 in
theorem of_any (m : Int) (w : World) (h0 : 0 ≤ m) (h1 : m < 18446744073709551616) :
  Calls Tryz.prog 84 #[.int .u64 m] w fun e w' => ∃ v, e = .returned v ∧ Mine .u64 w.heap.size w' v (nl W32 m.toNat) (dg W32 m.toNat) ∧ Below w.heap.size w w' := by
 have hz : (m == 0) = true ∨ ((m == 0) = false ∧ m ≤ 4294967295) ∨ ((m == 0) = false ∧ ¬ m ≤ 4294967295) := by
  by_cases e : m = 0
  ·left; simp [e]
  ·right; have : (m == 0) = false := by simp [e]
   by_cases g : m ≤ 4294967295 <;> simp [this, g]
 have hm := and_mask m h0 h1
 rcases hz with hz | ⟨hz, hg⟩ | ⟨hz, hg⟩
 ·go_enter Tryz.func84, Tryz.ntmps84
  go_wp2
  go_ret
  have : m.toNat = 0 := by simp at hz; omega
  exact ⟨_, rfl, by rw [this, nl_zero]; exact Mine.nil _ _ _ _, Below.refl _ _⟩
 ·go_enter Tryz.func84, Tryz.ntmps84
  go_wp2
  go_ret
  have hne : m ≠ 0 := by simpa using hz
  obtain ⟨e1, e2⟩ := two_limbs m.toNat (fun _ => m) 1 (fun i _ => by unfold W32; omega) (by simp [val]; omega) (fun _ => hne)
  refine ⟨_, rfl, ?_, (Below.refl _ _).alloc (Nat.le_refl _) _⟩
  rw [e1]
  refine ⟨_, _, rfl, Nat.le_refl _, by unfold LIM; omega, fun _ => ⟨_, _, rfl, ?_, ?_, Nat.le_refl _⟩⟩
  ·intro i hi
   have : i = 0 := by omega
   subst this
   rw [← e2 0 hi]; simp
  ·intro i hi; simp
 ·go_enter Tryz.func84, Tryz.ntmps84
  go_wp2
  go_ret
  obtain ⟨e1, e2⟩ := two_limbs m.toNat (fun i => if i = 0 then m % 4294967296 else m / 4294967296) 2 (fun i _ => by unfold W32; split <;> omega) (by simp [val]; omega) (fun _ => by simp; omega)
  refine ⟨_, rfl, ?_, (Below.refl _ _).alloc (Nat.le_refl _) _⟩
  rw [e1]
  refine ⟨_, _, rfl, Nat.le_refl _, by unfold LIM; omega, fun _ => ⟨_, _, rfl, ?_, ?_, Nat.le_refl _⟩⟩
  ·intro i hi
   rcases (show i = 0 ∨ i = 1 by omega) with rfl | rfl
   ·rw [← e2 0 hi]; simp
   ·rw [← e2 1 hi]; simp
  ·intro i hi; simp

set_option maxRecDepth 20000 in
set_option maxHeartbeats 400000 in
theorem right_pos (b off n c : Nat) (f : Nat → Int) (w : World) (hn : n ≤ LIM) (h0 : 0 < n) (hc : Cells w .u64 b off n f) :
  Calls Tryz.prog 159 #[.slice (some ⟨b, off, none⟩) n c] w fun e w' => e = .returned (.bool (rightB f n)) ∧ w' = w := by
 unfold LIM at hn
 have hne : ((n : Int) == 0) = false := by simp; omega
 go_enter Tryz.func159, Tryz.ntmps159
 go_wp2
 go_loop [7] (fun v => ∃ k : Nat, k ≤ n ∧ v = .int .i64 k ∧ ∀ i, i < k → f i ≤ 4294967295) (fun v => n - (intOf v).toNat)
 case atStart => exact ⟨0, Nat.zero_le _, rfl, by omega⟩
 case round =>
  obtain ⟨k, hk, rfl, hs⟩ := hrel
  have HS : Hid (∀ i, i < k → f i ≤ 4294967295) := hs
  clear hs
  by_cases hkn : k < n
  ·have hcell := hc k hkn
   go_wp2
   ·go_ret
    exact ⟨ret_bool (rightB_no f n k hkn (by assumption)).symm, rfl⟩
   ·have hle : f k ≤ 4294967295 := by assumption
    go_round
    case rel => exact ⟨k + 1, by omega, by go_num, fun i hi => by by_cases e : i = k; exact e ▸ hle; exact HS.out i (by omega)⟩
    case measure => simp [intOf]; omega
  ·have hcell := hc (n - 1) (by omega)
   have e1 : ((n : Int) - 1) = ((n - 1 : Nat) : Int) := by omega
   go_wp2
   go_ret
   exact ⟨ret_bool (rightB_mk f n (fun i hi => HS.out i (by omega)) h0).symm, rfl⟩

set_option maxRecDepth 20000 in
set_option maxHeartbeats 400000 in
theorem right_nil (ao : Option Addr) (c : Nat) (w : World) :
  Calls Tryz.prog 159 #[.slice ao 0 c] w fun e w' => e = .returned (.bool true) ∧ w' = w := by
 go_enter Tryz.func159, Tryz.ntmps159
 go_wp2
 go_rounds 1
 go_ret
 exact ⟨rfl, rfl⟩

theorem right_any (v : Value) (n : Nat) (f : Nat → Int) (w : World) (h : Nums .u64 w v n f) :
  Calls Tryz.prog 159 #[v] w fun e w' => e = .returned (.bool (rightB f n)) ∧ w' = w := by
 obtain ⟨ao, c, rfl, _, hl, h4⟩ := h
 by_cases hn : n = 0
 ·subst hn; rw [rightB_nil]; exact right_nil ao c w
 ·obtain ⟨b, off, rfl, hc⟩ := h4 (by omega)
  exact right_pos b off n c f w hl (by omega) hc

theorem info_u64 : (Tryz.prog.info? 90).map (fun i => (i.zero, i.size, i.bytes)) = some (some (.int .u64 0), 1, 8) := by kernel_rfl

/-- The first k of them, zeros behind. -/
def upto (g : Nat → Int) (k : Nat) : Nat → Int := fun i => if i < k then g i else 0
theorem upto_put (g : Nat → Int) (k i : Nat) : put (upto g k) k (g k) i = upto g (k + 1) i := by
 unfold put upto
 by_cases h : i = k
 ·subst h; simp
 ·rw [if_neg h]; by_cases h2 : i < k
  ·rw [if_pos h2, if_pos (by omega)]
  ·rw [if_neg h2, if_neg (by omega)]
theorem upto_all (g : Nat → Int) (k i : Nat) (h : i < k) : upto g k i = g i := by simp [upto, h]

set_option maxRecDepth 20000 in
set_option maxHeartbeats 400000 in
theorem clean_pos (b off n c : Nat) (f : Nat → Int) (w : World) (hn : n ≤ LIM) (hc : Cells w .u64 b off n f) (hf : U64 n f) (hpos : 0 < sz (lo f) n) :
  Calls Tryz.prog 117 #[.slice (some ⟨b, off, none⟩) n c] w fun e w' => ∃ v, e = .returned v ∧ Mine .u64 w.heap.size w' v (sz (lo f) n) (lo f) ∧ Below w.heap.size w w' := by
 obtain ⟨i0, hi, hz0, hz1, hz2⟩ := info_parts info_u64
 have hle := sz_le (lo f) n
 have hblt := hc.lt (by omega)
 obtain ⟨m, hm⟩ : ∃ m, m = sz (lo f) n := ⟨_, rfl⟩
 rw [← hm] at hle hpos ⊢
 have HM : Hid (m = sz (lo f) n) := hm
 clear hm
 unfold LIM at hn
 have hne : ((m : Int) == 0) = false := by simp; omega
 go_enter Tryz.func117, Tryz.ntmps117
 go_wp2_with (first | (go_at_call 123; refine (size_pos _ _ _ _ _ _ (by unfold LIM; omega) hc hf).mono ?_; rintro e w' ⟨rfl, rfl⟩; rw [← HM.out]) | (at_make; refine wpList_make_full _ rfl _ _ 40 rfl _ 90 i0 (.int .u64 0) 1 Tryz.underlying40 hi hz0 hz1 _ _ _ _ m rfl rfl rfl rfl (by rw [hz2]; omega) (by unfold maxLen; omega) (Nat.le_refl _) ?_; intro w1 hown hgrow))
 have hb1 := below_grown hgrow
 obtain ⟨hc1, hs1⟩ := mine_made (k := .u64) (w := w') hown (fun _ => 0) (fun i hi => made_zero .u64 m i hi)
 clear hown hgrow
 have hbs := hb1.size
 go_loopw [14] (fun v wr => ∃ k : Nat, k ≤ m ∧ v = .int .i64 k ∧ Cells wr .u64 w'.heap.size 0 m (upto (lo f) k) ∧ Soft wr w'.heap.size 0 m ∧ Below w'.heap.size w' wr) (fun v _ => m - (intOf v).toNat)
 case atStart => exact ⟨0, Nat.zero_le _, rfl, hc1.congr (fun i _ => by simp [upto]), hs1, hb1⟩
 case round =>
  obtain ⟨k, hk, rfl, hck, hsk, hbk⟩ := hrel
  by_cases hkm : k < m
  ·have hcell : wr.cell? ⟨b, off + k, none⟩ = some (.int .u64 (f k)) := (hbk.cell (by exact hblt)).trans (hc k (by omega))
   have hcell2 := hck k hkm
   have hfr := hsk k hkm
   rw [Nat.zero_add] at hcell2 hfr
   have hfk := hf k (by omega)
   have hmk := and_mask (f k) hfk.1 hfk.2
   go_wp2
   go_roundw
   case rel => exact ⟨k + 1, by omega, by go_num, by have := (hck.set k hkm (lo f k)).congr (fun i _ => upto_put (lo f) k i); rw [Nat.zero_add] at this; exact this, hsk.set _ _, hbk.setCell (by simp) _⟩
   case measure => simp [intOf]; omega
  ·go_wp2
   go_ret
   have : k = m := by omega
   subst this
   refine ⟨_, rfl, ⟨_, _, rfl, Nat.le_refl _, by unfold LIM; omega, fun _ => ⟨_, _, rfl, hck.congr (fun i hi => upto_all _ _ _ hi), hsk, Nat.le_refl _⟩⟩, hbk⟩

set_option maxRecDepth 20000 in
set_option maxHeartbeats 400000 in
theorem clean_zero (v : Value) (n : Nat) (f : Nat → Int) (w : World) (h : Nums .u64 w v n f) (hf : U64 n f) (hz : sz (lo f) n = 0) :
  Calls Tryz.prog 117 #[v] w fun e w' => e = .returned (.slice none 0 0) ∧ w' = w := by
 go_enter Tryz.func117, Tryz.ntmps117
 go_wp2_with (go_at_call 123; refine (size_any _ _ _ _ h hf).mono ?_; rintro e w' ⟨rfl, rfl⟩; rw [hz])
 go_ret
 exact ⟨rfl, rfl⟩

theorem clean_any (v : Value) (n : Nat) (f : Nat → Int) (w : World) (h : Nums .u64 w v n f) (hf : U64 n f) :
  Calls Tryz.prog 117 #[v] w fun e w' => ∃ v', e = .returned v' ∧ Mine .u64 w.heap.size w' v' (nl W32 (num f n)) (dg W32 (num f n)) ∧ Below w.heap.size w w' := by
 rw [← num_sz]
 by_cases hz : sz (lo f) n = 0
 ·refine (clean_zero v n f w h hf hz).mono fun e w' ⟨he, hw⟩ => ⟨_, he, ?_, by rw [hw]; exact Below.refl _ _⟩
  rw [hz]; exact Mine.nil _ _ _ _
 ·obtain ⟨ao, c, rfl, _, hl, h4⟩ := h
  have hle := sz_le (lo f) n
  obtain ⟨b, off, rfl, hc⟩ := h4 (by omega)
  refine (clean_pos b off n c f w hl hc hf (by omega)).mono fun e w' ⟨v', he, hm, hb⟩ => ⟨v', he, ?_, hb⟩
  exact hm.congr (fun i hi => num_digit f n i (by omega))

/-- The value v is the number m, in its one form. -/
def Rep (w : World) (v : Value) (m : Nat) : Prop := Nums .u64 w v (nl W32 m) (dg W32 m)
/-- The same, in memory of the call's own. -/
def RepM (B : Nat) (w : World) (v : Value) (m : Nat) : Prop := Mine .u64 B w v (nl W32 m) (dg W32 m)
theorem RepM.rep {B : Nat} {w : World} {v : Value} {m : Nat} (h : RepM B w v m) : Rep w v m := Mine.nums h
theorem u64_dg (m n : Nat) : U64 n (dg W32 m) := fun i _ => by have := dg_bounds W32 m i (by decide); unfold W32 at this ⊢; omega

/-- Limbs that may be are those of their number. -/
theorem right_form (f : Nat → Int) (n : Nat) (hf : U64 n f) (h : rightB f n = true) : n = nl W32 (num f n) ∧ ∀ i, i < n → f i = dg W32 (num f n) i := by
 simp only [rightB, decide_eq_true_eq] at h
 have hb : ∀ i, i < n → lo f i = f i := fun i hi => by have := h.1 i hi; have := hf i hi; unfold lo; omega
 refine ⟨?_, fun i hi => by rw [← num_digit f n i hi]; exact (hb i hi).symm⟩
 rw [← num_sz]
 refine (sz_unique (lo f) n n (Nat.le_refl _) (fun h0 => ?_) (fun i h1 h2 => by omega)).symm
 rw [hb _ (by omega)]; exact h.2 h0

set_option maxRecDepth 20000 in
set_option maxHeartbeats 400000 in
theorem plain_any (v : Value) (n : Nat) (f : Nat → Int) (w : World) (h : Nums .u64 w v n f) (hf : U64 n f) :
  Calls Tryz.prog 109 #[v] w fun e w' => ∃ v', e = .returned v' ∧ Rep w' v' (num f n) ∧ Below w.heap.size w w' := by
 cases hr : rightB f n with
 | true =>
  go_enter Tryz.func109, Tryz.ntmps109
  go_wp2_with (go_at_call 159; refine (right_any _ _ _ _ h).mono ?_; rintro e w' ⟨rfl, rfl⟩; rw [hr])
  go_ret
  obtain ⟨e1, e2⟩ := right_form f n hf hr
  refine ⟨_, rfl, ?_, Below.refl _ _⟩
  unfold Rep
  rw [← e1]; exact h.congr e2
 | false =>
  go_enter Tryz.func109, Tryz.ntmps109
  go_wp2_with (first | (go_at_call 159; refine (right_any _ _ _ _ h).mono ?_; rintro e w' ⟨rfl, rfl⟩; rw [hr]) | (go_at_call 117; refine (clean_any _ _ _ _ h hf).mono ?_; rintro e w2 ⟨v', rfl, hm, hb⟩))
  go_ret
  exact ⟨_, rfl, hm.nums, hb⟩

set_option maxRecDepth 20000 in
set_option maxHeartbeats 400000 in
/-- nat.cut of limbs below 2^32 in memory of the call's own: the number, in the same memory. -/
theorem cut_mine (B : Nat) (v : Value) (n : Nat) (f : Nat → Int) (w : World) (m : Nat) (h : Mine .u64 B w v n f) (hf : ∀ i, i < n → 0 ≤ f i ∧ f i < (W32 : Int)) (hm : val W32 f n = (m : Int)) :
  Calls Tryz.prog 168 #[v] w fun e w' => ∃ v', e = .returned v' ∧ RepM B w' v' m ∧ w' = w := by
 have hs : sz (lo f) n = nl W32 m := by
  rw [num_sz, num_of f n m hf hm]
 have hfu : U64 n f := fun i hi => by have := hf i hi; unfold W32 at this; omega
 have hle := sz_le (lo f) n
 rw [hs] at hle
 have hN := h.nums
 obtain ⟨ao, c, rfl, hnc, hl, h4⟩ := h
 unfold LIM at hl
 by_cases hz : nl W32 m = 0
 ·go_enter Tryz.func168, Tryz.ntmps168
  go_wp2_with (go_at_call 123; refine (size_any _ _ _ _ hN hfu).mono ?_; rintro e w' ⟨rfl, rfl⟩; rw [hs, hz])
  go_ret
  refine ⟨_, rfl, ?_, rfl⟩
  unfold RepM; rw [hz]; exact Mine.nil _ _ _ _
 ·obtain ⟨b, off, rfl, hc, hsf, hB⟩ := h4 (by omega)
  have hne : ((nl W32 m : Int) == 0) = false := by simp; omega
  go_enter Tryz.func168, Tryz.ntmps168
  go_wp2_with (go_at_call 123; refine (size_any _ _ _ _ hN hfu).mono ?_; rintro e w' ⟨rfl, rfl⟩; rw [hs])
  go_ret
  refine ⟨_, rfl, ?_, rfl⟩
  exact ⟨_, _, rfl, by omega, by unfold LIM; omega, fun _ => ⟨_, _, rfl, (hc.mono hle).congr (fun i hi => val_digit W32 f n m hf hm i (by omega)), hsf.mono hle, hB⟩⟩

end Go.Proofs.YthkamfddbiheoaaGreatDoor

namespace Go.Proofs.YthkamfddbiheoaaGreatDoor
open Go.RowKit
set_option linter.unusedVariables false
set_option linter.unusedSimpArgs false

set_option maxRecDepth 20000 in
set_option maxHeartbeats 400000 in
theorem within_at (n l m : Int) (w : World) : Calls Tryz.prog 40 #[.int .i64 n, .int .i64 l, .int .i64 m] w fun e w' => e = .returned (.bool (decide (l ≤ n ∧ n ≤ m))) ∧ w' = w := by
 by_cases h1 : l ≤ n
 ·by_cases h2 : n ≤ m
  ·go_enter Tryz.func40, Tryz.ntmps40
   go_wp2
   go_ret
   exact ⟨by simp [h1, h2], rfl⟩
  ·go_enter Tryz.func40, Tryz.ntmps40
   go_wp2
   go_ret
   exact ⟨by simp [h1, h2], rfl⟩
 ·have h1b : decide (l ≤ n) = false := decide_eq_false h1
  go_enter Tryz.func40, Tryz.ntmps40
  go_wp2
  go_ret
  exact ⟨by simp [h1], rfl⟩
set_option maxRecDepth 20000 in
set_option maxHeartbeats 400000 in
theorem isChild_at (i : Int) (a : Option Addr) (n c : Nat) (w : World) : Calls Tryz.prog 141 #[.int .i64 i, .slice a n c] w fun e w' => e = .returned (.bool (decide (1 ≤ i ∧ i < (n : Int)))) ∧ w' = w := by
 by_cases h1 : 1 ≤ i
 ·by_cases h2 : i < (n : Int)
  ·go_enter Tryz.func141, Tryz.ntmps141
   go_wp2
   go_ret
   exact ⟨by simp [h1, h2], rfl⟩
  ·go_enter Tryz.func141, Tryz.ntmps141
   go_wp2
   go_ret
   exact ⟨by simp [h1, h2], rfl⟩
 ·have h1b : decide (1 ≤ i) = false := decide_eq_false h1
  go_enter Tryz.func141, Tryz.ntmps141
  go_wp2
  go_ret
  exact ⟨by simp [h1], rfl⟩

end Go.Proofs.YthkamfddbiheoaaGreatDoor
