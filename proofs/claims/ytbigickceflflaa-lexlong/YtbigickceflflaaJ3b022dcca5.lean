/-
  Texts of mine, joined: what lies beneath the statement.
-/
import Derived.Test.YtbigickceflflaaJ02d3147da4
import Derived.Laws.BytesArg
namespace Go.Proofs.Ytbigickceflflaa
open Go.RowKit
set_option linter.unusedVariables false
set_option linter.unusedSimpArgs false

def nums (f : Nat → Nat) (N : Nat) : List Int := (List.range N).map fun i => (f i : Int)
def fillS (f : Nat → Nat) (N : Nat) : ByteArray := strOfNums (nums f N)
theorem nums_length (f : Nat → Nat) (N : Nat) : (nums f N).length = N := by simp [nums]
theorem nums_at (f : Nat → Nat) (N i : Nat) (h : i < N) : (nums f N).getD i 0 = (f i : Int) := by simp [nums, List.getD, h]
theorem fill_size (f : Nat → Nat) (N : Nat) : (fillS f N).size = N := by unfold fillS; rw [strOfNums_size, nums_length]
theorem fill_bt (f : Nat → Nat) (N i : Nat) (h : i < N) (hf : f i < 256) : bt (fillS f N) i = f i := by
  unfold bt fillS
  rw [strOfNums_data]
  have e : ((nums f N).map fun n => UInt8.ofNat n.toNat)[i]? = some (UInt8.ofNat (f i)) := by simp [nums, h]
  rw [List.getD, e, Option.getD_some, UInt8.toNat_ofNat_of_lt' hf]

/-- All a letter: one word. -/
theorem fillA_scan (N : Nat) (hN : 0 < N) : scan (fillS (fun _ => 97) N) 0 [] = .ok [(0, N)] := by
  have hb : ∀ j, j < N → bt (fillS (fun _ => 97) N) j = 97 := fun j hj => fill_bt _ N j hj (by decide)
  have hs := fill_size (fun _ => 97) N
  have he : wEnd (fillS (fun _ => 97) N) 0 = N := wEnd_eq _ 0 N (by omega) (fun j _ hj => ⟨by omega, by rw [hb j hj]; decide⟩) (fun h => by omega)
  rw [scan_word (by omega) (by rw [hb 0 hN]; decide) (by decide), he, scan_end (by omega)]
  rfl
theorem extract_all (s : ByteArray) (N : Nat) (h : s.size = N) : s.extract 0 N = s := by subst h; simp
theorem fillA_lines (N : Nat) (hN : 0 < N) : ∃ p, lscan (fillS (fun _ => 97) N) 0 0 [] = .ok [p] := by
  have hb : ∀ j, j < N → bt (fillS (fun _ => 97) N) j = 97 := fun j hj => fill_bt _ N j hj (by decide)
  have hs := fill_size (fun _ => 97) N
  have he : lEnd (fillS (fun _ => 97) N) 0 = N := lEnd_eq _ 0 N (by omega) (fun j _ hj => ⟨by omega, by rw [hb j hj]; decide⟩) (fun h => by omega)
  have hx := extract_all _ N hs
  have h := lscan_done (n := 0) (out := []) (by decide) he (by rw [hx]; exact fillA_scan N hN) (by omega)
  rw [addLine_some (by simp)] at h
  exact ⟨_, h⟩
/-- All breaks: no words. -/
theorem fillB_far (N : Nat) : ∀ k, k ≤ N → k ≤ 16384 → lscan (fillS (fun _ => 10) N) 0 0 [] = lscan (fillS (fun _ => 10) N) k k []
  | 0, _, _ => rfl
  | k + 1, h1, h2 => by
    have hs := fill_size (fun _ => 10) N
    have hb : bt (fillS (fun _ => 10) N) k = 10 := fill_bt _ N k (by omega) (by decide)
    have he : lEnd (fillS (fun _ => 10) N) k = k := lEnd_out (fun h => h.2 hb)
    rw [fillB_far N k (by omega) (by omega), lscan_more (l := []) (by omega) he (by rw [scan_end]; simp) (by omega), addLine_none rfl]
theorem fillB_lines (N : Nat) (hN : N ≤ 16383) : lscan (fillS (fun _ => 10) N) 0 0 [] = .ok [] := by
  have hs := fill_size (fun _ => 10) N
  have he : lEnd (fillS (fun _ => 10) N) N = N := lEnd_out (fun h => by omega)
  rw [fillB_far N N (by omega) (by omega), lscan_done (l := []) (by omega) he (by rw [scan_end]; simp) (by omega), addLine_none rfl]
theorem fillB_limit (N : Nat) (hN : 16384 ≤ N) : lscan (fillS (fun _ => 10) N) 0 0 [] = .err 16384 16 := by
  rw [fillB_far N 16384 hN (by omega), lscan_limit (by omega)]
/-- Letters and blanks in turn: a word each. -/
def turn (i : Nat) : Nat := if i % 2 = 0 then 97 else 32
theorem turn_lt (i : Nat) : turn i < 256 := by unfold turn; split <;> omega
theorem fillC_far (N : Nat) : ∀ k, 2 * k ≤ N → k ≤ 4096 → ∃ l : List (Nat × Nat), l.length = k ∧ scan (fillS turn N) 0 [] = scan (fillS turn N) (2 * k) l
  | 0, _, _ => ⟨[], rfl, rfl⟩
  | k + 1, h1, h2 => by
    obtain ⟨l, hl, h⟩ := fillC_far N k (by omega) (by omega)
    have hs := fill_size turn N
    have b0 : bt (fillS turn N) (2 * k) = 97 := by rw [fill_bt turn N _ (by omega) (turn_lt _)]; unfold turn; rw [if_pos (by omega)]
    have b1 : bt (fillS turn N) (2 * k + 1) = 32 := by rw [fill_bt turn N _ (by omega) (turn_lt _)]; unfold turn; rw [if_neg (by omega)]
    have e0 : wEnd (fillS turn N) (2 * k) = 2 * k + 1 := by
      rw [wEnd_in (by omega) (by rw [b0]; decide), wEnd_out (fun h => by rw [b1] at h; exact absurd h.2 (by decide))]
    refine ⟨l ++ [(2 * k, 2 * k + 1)], by simp [hl], ?_⟩
    rw [h, scan_word (by omega) (by rw [b0]; decide) (by omega), e0, scan_blank (by omega) (by rw [b1]; decide)]
    rfl
theorem fillC_words (N : Nat) (hN : N = 8192) : ∃ l, scan (fillS turn N) 0 [] = .ok l ∧ l.length = 4096 := by
  obtain ⟨l, hl, h⟩ := fillC_far N 4096 (by omega) (by omega)
  have hs := fill_size turn N
  exact ⟨l, h.trans (scan_end (by omega)), hl⟩
theorem fillC_limit (N : Nat) (hN : 8192 < N) : scan (fillS turn N) 0 [] = .limit 8192 := by
  obtain ⟨l, hl, h⟩ := fillC_far N 4096 (by omega) (by omega)
  have hs := fill_size turn N
  have b0 : bt (fillS turn N) (2 * 4096) = 97 := by rw [fill_bt turn N _ (by omega) (turn_lt _)]; rfl
  rw [h, scan_limit (by omega) (by rw [b0]; decide) (by omega)]

set_option maxRecDepth 20000 in
set_option maxHeartbeats 1000000 in
theorem linesOf_long (s : ByteArray) (w : World) (hs : 1048576 < s.size) :
    Calls Try.prog 16 #[.string s] w fun e w' => e = .returned (.tuple #[.slice none 0 0, .int .i64 0, .int .i64 6]) ∧ w' = w := by
  have hsi : (1048576 : Int) < (s.size : Int) := by omega
  go_enter Try.func16, Try.ntmps16
  go_wp2
  go_ret3
  exact ⟨rfl, rfl⟩
set_option maxRecDepth 20000 in
set_option maxHeartbeats 1000000 in
theorem Lines_long (s : ByteArray) (w : World) (hs : 1048576 < s.size) :
    Calls Try.prog 12 #[.string s] w fun e w' => e = .returned (.tuple #[.slice none 0 0, .int .i64 0, .int .i64 6]) ∧ w' = w := by
  have hc := linesOf_long s w hs
  go_enter Try.func12, Try.ntmps12
  go_wp2_with fail
  refine hc.mono ?_
  rintro e w1 ⟨rfl, hw⟩
  replace hw := hw.symm
  subst hw
  clear hc
  go_wp2
  go_ret3
  exact ⟨rfl, rfl⟩

theorem callA (m N : Nat) (w : World) (hm : m ≤ 1) (hN : N = 1048576 + m) : Calls Try.prog 12 #[.string (fillS (fun _ => 97) N)] w fun e w' =>
    ∃ ao c k e1, e = .returned (.tuple #[.slice ao k c, .int .i64 0, .int .i64 ((e1 : Nat) : Int)]) ∧ ((m = 1 ∧ k = 0 ∧ e1 = 6) ∨ (m = 0 ∧ k = 1 ∧ e1 = 0)) ∧ Below w.heap.size w w' := by
  by_cases h : m = 1
  · refine (Lines_long _ w (by rw [fill_size]; omega)).mono ?_
    rintro e w' ⟨rfl, rfl⟩
    exact ⟨none, 0, 0, 6, rfl, .inl ⟨h, rfl, rfl⟩, Below.refl _ _⟩
  · have hc := Lines_at (fillS (fun _ => 97) N) w (by rw [fill_size]; omega)
    obtain ⟨p, hp⟩ := fillA_lines N (by omega)
    rw [hp] at hc
    refine hc.mono ?_
    rintro e w' ⟨⟨v, rfl, ⟨us, o, _⟩, _⟩, hb⟩
    obtain ⟨ao, c, rfl, _⟩ := owns_slice o
    exact ⟨ao, c, 1, 0, rfl, .inr ⟨by omega, rfl, rfl⟩, hb⟩
theorem callB (m N : Nat) (w : World) (hm : m ≤ 1) (hN : N = 16383 + m) : Calls Try.prog 12 #[.string (fillS (fun _ => 10) N)] w fun e w' =>
    ∃ v b e1, e = .returned (.tuple #[v, .int .i64 ((b : Nat) : Int), .int .i64 ((e1 : Nat) : Int)]) ∧ ((m = 1 ∧ b = 16384 ∧ e1 = 16) ∨ (m = 0 ∧ e1 = 0)) ∧ Below w.heap.size w w' := by
  have hc := Lines_at (fillS (fun _ => 10) N) w (by rw [fill_size]; omega)
  by_cases h : m = 1
  · rw [fillB_limit N (by omega)] at hc
    refine hc.mono ?_
    rintro e w' ⟨he, hb⟩
    exact ⟨_, 16384, 16, he, .inl ⟨h, rfl, rfl⟩, hb⟩
  · rw [fillB_lines N (by omega)] at hc
    refine hc.mono ?_
    rintro e w' ⟨⟨v, rfl, _⟩, hb⟩
    exact ⟨v, 0, 0, rfl, .inr ⟨by omega, rfl⟩, hb⟩
theorem callC (m N : Nat) (w : World) (hm : m ≤ 1) (hN : N = 8192 + 2 * m) : Calls Try.prog 8 #[.string (fillS turn N)] w fun e w' =>
    ∃ ao c k d e1, e = .returned (.tuple #[.slice ao k c, .int .i64 ((d : Nat) : Int), .int .i64 ((e1 : Nat) : Int)]) ∧ ((m = 1 ∧ k = 0 ∧ d = 8192 ∧ e1 = 16) ∨ (m = 0 ∧ k = 4096 ∧ e1 = 0)) ∧ Below w.heap.size w w' := by
  have hc := Words_at (fillS turn N) w (by rw [fill_size]; omega)
  by_cases h : m = 1
  · rw [fillC_limit N (by omega)] at hc
    refine hc.mono ?_
    rintro e w' ⟨he, hb⟩
    exact ⟨none, 0, 0, 8192, 16, limit_out he, .inl ⟨h, rfl, rfl, rfl⟩, hb⟩
  · obtain ⟨l, hl, h4⟩ := fillC_words N (by omega)
    rw [hl] at hc
    refine hc.mono ?_
    rintro e w' ⟨⟨v, rfl, ho⟩, hb⟩
    obtain ⟨ao, c, rfl, _⟩ := ho.open (N := 4096) (by rw [toks_length]; exact h4)
    exact ⟨ao, c, 4096, 0, 0, rfl, .inr ⟨by omega, rfl, rfl⟩, hb⟩

theorem info_u8 : (Try.prog.info? 5).map (fun i => (i.zero, i.size, i.bytes)) = some (some (.int .u8 0), 1, 1) := by kernel_rfl

end Go.Proofs.Ytbigickceflflaa
