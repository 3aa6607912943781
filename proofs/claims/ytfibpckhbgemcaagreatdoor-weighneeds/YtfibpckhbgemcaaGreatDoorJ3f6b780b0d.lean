/-
  Texts of mine, joined: what lies beneath the statement.
-/
import Derived.Test.YtfibpckhbgemcaaGreatDoorJc668d484bc
import Derived.Laws.BytesArg
namespace Go.Proofs.YtfibpckhbgemcaaGreatDoor
open Go.RowKit

/-- How many decimal digits are written. -/
def ndec (x : Nat) : Nat := if nl 10 x = 0 then 1 else nl 10 x
/-- The n decimal digits of x. -/
def decs (x n : Nat) : List Int := (List.range n).map (fun i => dd x (n - 1 - i))
/-- The text of x. -/
def txt (x : Nat) : ByteArray := strOfNums (decs x (ndec x))
theorem decs_length (x n : Nat) : (decs x n).length = n := by simp [decs]
theorem decs_at (x n i : Nat) (h : i < n) : (decs x n).getD i 0 = dd x (n - 1 - i) := by simp [decs, List.getD, h]
theorem dd_dg (x p : Nat) : dd x p = 48 + dg 10 x p := rfl

theorem strip_end (x W a : Nat) (hx : x < 10 ^ W) (ha : a < W) (hz : ∀ i, i < a → dd x (W - 1 - i) = 48) (he : a + 1 = W ∨ dd x (W - 1 - a) ≠ 48) : W - a = ndec x := by
  have hn : nl 10 x = sz (dg 10 x) W := nl_spec 10 x W (by decide) hx
  have hzero : ∀ p, W - a ≤ p → p < W → dg 10 x p = 0 := fun p h1 h2 => by
    have := hz (W - 1 - p) (by omega)
    rw [show W - 1 - (W - 1 - p) = p by omega, dd_dg] at this; omega
  unfold ndec
  by_cases hd : dg 10 x (W - 1 - a) = 0
  · have hw : a + 1 = W := by
      rcases he with h | h
      · exact h
      · rw [dd_dg, hd] at h; exact absurd rfl h
    have e0 : sz (dg 10 x) W = 0 := sz_unique _ W 0 (by omega) (by omega) (fun i _ h2 => by
      by_cases hi : i = 0
      · rw [hi, show (0 : Nat) = W - 1 - a by omega]; exact hd
      · exact hzero i (by omega) h2)
    rw [hn, e0, if_pos rfl]; omega
  · have e0 : sz (dg 10 x) W = W - a := sz_unique _ W (W - a) (by omega) (fun _ => by rw [show W - a - 1 = W - 1 - a by omega]; exact hd) hzero
    rw [hn, e0, if_neg (by omega)]

theorem width_fits : ∀ l, l < 30 → 4294967296 ^ l ≤ 10 ^ ((l + l / 8 + 1) * 9) := by decide +kernel

theorem info_u8 : (Tryz.prog.info? 5).map (fun i => (i.zero, i.size, i.bytes)) = some (some (.int .u8 0), 1, 1) := by kernel_rfl

end Go.Proofs.YtfibpckhbgemcaaGreatDoor
