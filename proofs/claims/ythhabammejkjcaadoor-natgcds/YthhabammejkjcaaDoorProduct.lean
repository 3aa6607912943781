/-
  What nat.product answers of any two numbers (Karatsuba's way where they are long).
-/
import Derived.Test.YthhabammejkjcaaDoorHalves
namespace Go.Proofs.YthhabammejkjcaaDoor
open Go.RowKit

set_option maxRecDepth 20000 in
set_option maxHeartbeats 2000000 in
theorem product_wide (u v : Value) (x y : Nat) (w : World) (hu : Rep w u x) (hv : Rep w v y) (hle : nl W32 y ≤ nl W32 x) (h40 : 40 ≤ nl W32 y) (hlim : nl W32 x ≤ 400000)
    (IH : ∀ p q, nl W32 p + nl W32 q < nl W32 x + nl W32 y → ProdAt p q) :
    Calls Tryd.prog 37 #[u, v] w fun e w' => ∃ r, e = .returned r ∧ RepM w.heap.size w' r (x * y) ∧ Below w.heap.size w w' := by
  obtain ⟨i0, hi, hz0, hz1, hz2⟩ := info_parts info_u64
  have hv0 := hv
  obtain ⟨ao, c, rfl, hlc, hl, h4⟩ := hu
  obtain ⟨bo, d, rfl, hld, kl, k4⟩ := hv
  obtain ⟨b1, o1, rfl, hc⟩ := h4 (by omega)
  obtain ⟨b2, o2, rfl, kc⟩ := k4 (by omega)
  have hb1 := hc.lt (by omega)
  have hb2 := kc.lt (by omega)
  have hxl := lt_pow_nl W32 x (by decide)
  have hyl := lt_pow_nl W32 y (by decide)
  generalize hla : nl W32 x = la at *
  generalize hlb : nl W32 y = lb at *
  have HLA : Hid (nl W32 x = la) := hla
  have HLB : Hid (nl W32 y = lb) := hlb
  have HXL : Hid (x < W32 ^ la) := hxl
  have HYL : Hid (y < W32 ^ lb) := hyl
  have HIH : Hid (∀ p q, nl W32 p + nl W32 q < la + lb → ProdAt p q) := IH
  clear h4 k4 hla hlb hxl hyl IH
  have hnl : ¬ la < lb := by omega
  have hle2 : lb ≤ la := by omega
  have hne : ((lb : Int) == 0) = false := by simp; omega
  have h40' : ¬ (lb : Int) < 40 := by omega
  by_cases h2 : 2 * lb ≤ la
  · have h2' : 2 * (lb : Int) ≤ (la : Int) := by omega
    go_enter Tryd.func37, Tryd.ntmps37
    go_wp2_with (at_make; refine wpList_make_full _ rfl _ _ 23 rfl _ 51 i0 (.int .u64 0) 1 Tryd.underlying23 hi hz0 hz1 _ _ _ _ (la + lb) rfl rfl (by omega) (by omega) (by rw [hz2]; omega) (by unfold maxLen; omega) (Nat.le_refl _) ?_; intro w1 hown hgrow)
    have hbl := below_grown hgrow
    obtain ⟨hc1, hs1⟩ := mine_made (k := .u64) (w := w) hown (fun _ => 0) (fun i hi => made_zero .u64 (la + lb) i hi)
    clear hown hgrow
    refine (pieces_any _ _ _ _ _ _ _ _ _ _ x y _ rfl (by omega) hlim hle2 hlc hc1 hs1 (hc.below hbl hb1) (hv0.below hbl) (by omega) HXL.out HYL.out (by omega) (fun p hp => HIH.out p y (by have := HLB.out; omega))).mono ?_
    rintro e w2 ⟨rfl, h, hch, huh, hvh, hupd⟩
    have hMine : Mine .u64 w.heap.size w2 (.slice (some ⟨w.heap.size, 0, none⟩) (la + lb) (la + lb)) (la + lb) h := ⟨_, _, rfl, Nat.le_refl _, by unfold LIM; omega, fun _ => ⟨_, _, rfl, hch, hs1.upd (hc1.lt (by omega)) hupd, Nat.le_refl _⟩⟩
    have hbel : Below w.heap.size w w2 := hbl.trans (hupd.below (Nat.le_refl _) hbl.size)
    clear hc1 hs1
    go_wp2_with (go_at_call 63; refine (cut_mine _ _ _ _ _ (x * y) hMine huh hvh).mono ?_; rintro e w3 ⟨r, rfl, hr, rfl⟩)
    go_ret
    exact ⟨_, rfl, hr, hbel⟩
  · have h2' : ¬ 2 * (lb : Int) ≤ (la : Int) := by omega
    go_enter Tryd.func37, Tryd.ntmps37
    go_wp2_with (at_make; refine wpList_make_full _ rfl _ _ 23 rfl _ 51 i0 (.int .u64 0) 1 Tryd.underlying23 hi hz0 hz1 _ _ _ _ (la + lb) rfl rfl (by omega) (by omega) (by rw [hz2]; omega) (by unfold maxLen; omega) (Nat.le_refl _) ?_; intro w1 hown hgrow)
    have hbl := below_grown hgrow
    obtain ⟨hc1, hs1⟩ := mine_made (k := .u64) (w := w) hown (fun _ => 0) (fun i hi => made_zero .u64 (la + lb) i hi)
    clear hown hgrow
    refine (halves_any _ _ _ _ _ _ _ _ _ _ x y _ rfl h40 hlim hle2 (by omega) hlc hld hc1 hs1 (hc.below hbl hb1) (kc.below hbl hb2) HLA.out HLB.out HIH.out).mono ?_
    rintro e w2 ⟨rfl, h, hch, huh, hvh, hupd⟩
    have hMine : Mine .u64 w.heap.size w2 (.slice (some ⟨w.heap.size, 0, none⟩) (la + lb) (la + lb)) (la + lb) h := ⟨_, _, rfl, Nat.le_refl _, by unfold LIM; omega, fun _ => ⟨_, _, rfl, hch, hs1.upd (hc1.lt (by omega)) hupd, Nat.le_refl _⟩⟩
    have hbel : Below w.heap.size w w2 := hbl.trans (hupd.below (Nat.le_refl _) hbl.size)
    clear hc1 hs1
    go_wp2_with (go_at_call 63; refine (cut_mine _ _ _ _ _ (x * y) hMine huh hvh).mono ?_; rintro e w3 ⟨r, rfl, hr, rfl⟩)
    go_ret
    exact ⟨_, rfl, hr, hbel⟩

set_option maxRecDepth 20000 in
set_option maxHeartbeats 2000000 in
theorem product_swapped (u v : Value) (x y : Nat) (w : World) (hu : Rep w u x) (hv : Rep w v y) (hle : nl W32 y < nl W32 x) (h40 : 40 ≤ nl W32 y) (hlim : nl W32 x ≤ 400000)
    (IH : ∀ p q, nl W32 p + nl W32 q < nl W32 x + nl W32 y → ProdAt p q) :
    Calls Tryd.prog 37 #[v, u] w fun e w' => ∃ r, e = .returned r ∧ RepM w.heap.size w' r (x * y) ∧ Below w.heap.size w w' := by
  obtain ⟨i0, hi, hz0, hz1, hz2⟩ := info_parts info_u64
  have hv0 := hv
  obtain ⟨ao, c, rfl, hlc, hl, h4⟩ := hu
  obtain ⟨bo, d, rfl, hld, kl, k4⟩ := hv
  obtain ⟨b1, o1, rfl, hc⟩ := h4 (by omega)
  obtain ⟨b2, o2, rfl, kc⟩ := k4 (by omega)
  have hb1 := hc.lt (by omega)
  have hb2 := kc.lt (by omega)
  have hxl := lt_pow_nl W32 x (by decide)
  have hyl := lt_pow_nl W32 y (by decide)
  generalize hla : nl W32 x = la at *
  generalize hlb : nl W32 y = lb at *
  have HLA : Hid (nl W32 x = la) := hla
  have HLB : Hid (nl W32 y = lb) := hlb
  have HXL : Hid (x < W32 ^ la) := hxl
  have HYL : Hid (y < W32 ^ lb) := hyl
  have HIH : Hid (∀ p q, nl W32 p + nl W32 q < la + lb → ProdAt p q) := IH
  clear h4 k4 hla hlb hxl hyl IH
  have hnl : lb < la := by omega
  have hle2 : lb ≤ la := by omega
  have hne : ((lb : Int) == 0) = false := by simp; omega
  have h40' : ¬ (lb : Int) < 40 := by omega
  by_cases h2 : 2 * lb ≤ la
  · have h2' : 2 * (lb : Int) ≤ (la : Int) := by omega
    go_enter Tryd.func37, Tryd.ntmps37
    go_wp2_with (at_make; refine wpList_make_full _ rfl _ _ 23 rfl _ 51 i0 (.int .u64 0) 1 Tryd.underlying23 hi hz0 hz1 _ _ _ _ (la + lb) rfl rfl (by omega) (by omega) (by rw [hz2]; omega) (by unfold maxLen; omega) (Nat.le_refl _) ?_; intro w1 hown hgrow)
    have hbl := below_grown hgrow
    obtain ⟨hc1, hs1⟩ := mine_made (k := .u64) (w := w) hown (fun _ => 0) (fun i hi => made_zero .u64 (la + lb) i hi)
    clear hown hgrow
    refine (pieces_any _ _ _ _ _ _ _ _ _ _ x y _ rfl (by omega) hlim hle2 hlc hc1 hs1 (hc.below hbl hb1) (hv0.below hbl) (by omega) HXL.out HYL.out (by omega) (fun p hp => HIH.out p y (by have := HLB.out; omega))).mono ?_
    rintro e w2 ⟨rfl, h, hch, huh, hvh, hupd⟩
    have hMine : Mine .u64 w.heap.size w2 (.slice (some ⟨w.heap.size, 0, none⟩) (la + lb) (la + lb)) (la + lb) h := ⟨_, _, rfl, Nat.le_refl _, by unfold LIM; omega, fun _ => ⟨_, _, rfl, hch, hs1.upd (hc1.lt (by omega)) hupd, Nat.le_refl _⟩⟩
    have hbel : Below w.heap.size w w2 := hbl.trans (hupd.below (Nat.le_refl _) hbl.size)
    clear hc1 hs1
    go_wp2_with (go_at_call 63; refine (cut_mine _ _ _ _ _ (x * y) hMine huh hvh).mono ?_; rintro e w3 ⟨r, rfl, hr, rfl⟩)
    go_ret
    exact ⟨_, rfl, hr, hbel⟩
  · have h2' : ¬ 2 * (lb : Int) ≤ (la : Int) := by omega
    go_enter Tryd.func37, Tryd.ntmps37
    go_wp2_with (at_make; refine wpList_make_full _ rfl _ _ 23 rfl _ 51 i0 (.int .u64 0) 1 Tryd.underlying23 hi hz0 hz1 _ _ _ _ (la + lb) rfl rfl (by omega) (by omega) (by rw [hz2]; omega) (by unfold maxLen; omega) (Nat.le_refl _) ?_; intro w1 hown hgrow)
    have hbl := below_grown hgrow
    obtain ⟨hc1, hs1⟩ := mine_made (k := .u64) (w := w) hown (fun _ => 0) (fun i hi => made_zero .u64 (la + lb) i hi)
    clear hown hgrow
    refine (halves_any _ _ _ _ _ _ _ _ _ _ x y _ rfl h40 hlim hle2 (by omega) hlc hld hc1 hs1 (hc.below hbl hb1) (kc.below hbl hb2) HLA.out HLB.out HIH.out).mono ?_
    rintro e w2 ⟨rfl, h, hch, huh, hvh, hupd⟩
    have hMine : Mine .u64 w.heap.size w2 (.slice (some ⟨w.heap.size, 0, none⟩) (la + lb) (la + lb)) (la + lb) h := ⟨_, _, rfl, Nat.le_refl _, by unfold LIM; omega, fun _ => ⟨_, _, rfl, hch, hs1.upd (hc1.lt (by omega)) hupd, Nat.le_refl _⟩⟩
    have hbel : Below w.heap.size w w2 := hbl.trans (hupd.below (Nat.le_refl _) hbl.size)
    clear hc1 hs1
    go_wp2_with (go_at_call 63; refine (cut_mine _ _ _ _ _ (x * y) hMine huh hvh).mono ?_; rintro e w3 ⟨r, rfl, hr, rfl⟩)
    go_ret
    exact ⟨_, rfl, hr, hbel⟩

theorem product_upto : ∀ s x y, nl W32 x + nl W32 y = s → s ≤ 400000 → ProdAt x y := by
  intro s
  induction s using Nat.strongRecOn with
  | ind s ih =>
    intro x y hs hl u v w hu hv
    have IH : ∀ p q, nl W32 p + nl W32 q < nl W32 x + nl W32 y → ProdAt p q := fun p q h => ih _ (by omega) p q rfl (by omega)
    by_cases h40 : nl W32 x < 40 ∨ nl W32 y < 40
    · exact product_any u v x y w hu hv h40 (by omega) (by omega)
    · by_cases h : nl W32 x < nl W32 y
      · rw [Nat.mul_comm]
        exact product_swapped v u y x w hv hu h (by omega) (by omega) (fun p q hpq => IH p q (by omega))
      · exact product_wide u v x y w hu hv (by omega) (by omega) (by omega) IH

/-- nat.product of any two numbers. -/
theorem product_all (x y : Nat) (h : nl W32 x + nl W32 y ≤ 400000) : ProdAt x y := product_upto _ x y rfl h

end Go.Proofs.YthhabammejkjcaaDoor
