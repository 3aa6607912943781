/-
  What nat.divide answers of any two numbers, the second not 0.
-/
import Derived.Test.YthhabammejkjcaaDoorDivLong
namespace Go.Proofs.YthhabammejkjcaaDoor
open Go.RowKit

set_option maxRecDepth 20000 in
set_option maxHeartbeats 1000000 in
theorem divide_long (u v : Value) (x y : Nat) (w : World) (hu : Rep w u x) (hv : Rep w v y) (h : y ≤ x) (h2 : 2 < nl W32 x) (hy1 : 2 ≤ nl W32 y) (hlx : nl W32 x ≤ 999999) :
    Calls Tryd.prog 32 #[u, v] w fun e w' => ∃ q r, e = .returned (.tuple #[q, r]) ∧ RepM w.heap.size w' q (x / y) ∧ RepM w.heap.size w' r (x % y) ∧ Below w.heap.size w w' := by
  have hc : ¬ cmpI x y < 0 := by unfold cmpI; rw [if_neg (by omega)]; split <;> omega
  have hle : nl W32 y ≤ nl W32 x := by
    by_cases g : nl W32 x < nl W32 y
    · have := lt_of_nl W32 x y (by decide) g; omega
    · omega
  obtain ⟨m, hm⟩ : ∃ m, nl W32 y = m + 2 := ⟨nl W32 y - 2, by omega⟩
  have hu0 := hu
  have hv0 := hv
  obtain ⟨ao, c, rfl, hl⟩ := rep_val hu0
  obtain ⟨bo, d, rfl, kl⟩ := rep_val hv0
  clear hu0 hv0
  have HD : Hid (nl W32 y = m + 2) := hm
  have HL : Hid (m + 2 ≤ nl W32 x) := by show _ ≤ _; omega
  have HX : Hid (nl W32 x ≤ 999999) := hlx
  have HC : Hid (∀ w1 : World, Rep w1 (.slice ao (nl W32 x) c) x → Rep w1 (.slice bo (nl W32 y) d) y → Calls Tryd.prog 64 #[.slice ao (nl W32 x) c, .slice bo (nl W32 y) d] w1 fun e w' => ∃ q r, e = .returned (.tuple #[q, r]) ∧ RepM w1.heap.size w' q (x / y) ∧ RepM w1.heap.size w' r (x % y) ∧ Below w1.heap.size w1 w') := fun w1 hu hv => divLong_any _ _ x y m w1 hu hv HL.out HD.out HX.out
  clear HD HL HX hm
  generalize nl W32 x = la at *
  generalize nl W32 y = lb at *
  go_enter Tryd.func32, Tryd.ntmps32
  go_wp2_with fail
  refine (cmp_rep _ _ _ _ _ hu hv).mono ?_
  rintro e w1 ⟨rfl, hb1⟩
  have s1 := hb1.size
  have n1 : ¬ (la : Int) ≤ 2 := by omega
  have n2 : ((lb : Int) == 1) = false := by simp; omega
  go_wp2_with fail
  refine (HC.out _ (Nums.below hu hb1) (Nums.below hv hb1)).mono ?_
  rintro e w2 ⟨q, r, rfl, hq, hr, hb2⟩
  go_wp2
  go_ret2
  exact ⟨_, _, rfl, hq.le s1, hr.le s1, hb1.trans (hb2.mono s1)⟩

theorem divide_any (x y : Nat) (hy : 0 < y) (hx : nl W32 x ≤ 999999) : DivideOk x y := by
  intro u v w hu hv
  have hny : 0 < nl W32 y := by
    rcases Nat.eq_zero_or_pos (nl W32 y) with e | e
    · have := (nl_eq_zero W32 y (by decide)).1 e; omega
    · exact e
  by_cases h : x < y
  · exact divide_less u v x y w hu hv h
  · by_cases h2 : nl W32 x ≤ 2
    · exact divide_small u v x y w hu hv hy (by omega) h2
    · by_cases h3 : nl W32 y = 1
      · exact divide_limb u v x y w hu hv (by omega) (by omega) h3
      · exact divide_long u v x y w hu hv (by omega) (by omega) (by omega) hx

end Go.Proofs.YthhabammejkjcaaDoor
