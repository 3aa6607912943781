/-
  What nat.multiplyPieces, multiplyHalves and product answer: the product of any two numbers (Karatsuba's way).
-/
import Derived.Test.YthhabammejkjcaaDoorDivLong
namespace Go.Proofs.YthhabammejkjcaaDoor
open Go.RowKit

set_option maxRecDepth 20000 in
set_option maxHeartbeats 400000 in
/-- nat.cut of limbs below 2^32, whosever. -/
theorem cut_nums (v : Value) (n : Nat) (f : Nat → Int) (w : World) (m : Nat) (h : Nums .u64 w v n f) (hf : ∀ i, i < n → 0 ≤ f i ∧ f i < (W32 : Int)) (hm : val W32 f n = (m : Int)) :
    Calls Tryd.prog 63 #[v] w fun e w' => ∃ v', e = .returned v' ∧ Rep w' v' m ∧ w' = w := by
  have hs : sz (lo f) n = nl W32 m := by
    rw [num_sz, num_of f n m hf hm]
  have hfu : U64 n f := fun i hi => by have := hf i hi; unfold W32 at this; omega
  have hle := sz_le (lo f) n
  rw [hs] at hle
  have hN := h
  obtain ⟨ao, c, rfl, hnc, hl, h4⟩ := h
  unfold LIM at hl
  by_cases hz : nl W32 m = 0
  · go_enter Tryd.func63, Tryd.ntmps63
    go_wp2_with (go_at_call 55; refine (size_any _ _ _ _ hN hfu).mono ?_; rintro e w' ⟨rfl, rfl⟩; rw [hs, hz])
    go_ret
    refine ⟨_, rfl, ?_, rfl⟩
    unfold Rep; rw [hz]; exact Nums.nil _ _ _
  · obtain ⟨b, off, rfl, hc⟩ := h4 (by omega)
    have hne : ((nl W32 m : Int) == 0) = false := by simp; omega
    go_enter Tryd.func63, Tryd.ntmps63
    go_wp2_with (go_at_call 55; refine (size_any _ _ _ _ hN hfu).mono ?_; rintro e w' ⟨rfl, rfl⟩; rw [hs])
    go_ret
    refine ⟨_, rfl, ?_, rfl⟩
    exact ⟨_, _, rfl, by omega, by unfold LIM; omega, fun _ => ⟨_, _, rfl, (hc.mono hle).congr (fun i hi => val_digit W32 f n m hf hm i (by omega))⟩⟩

/-- What nat.product is to answer of x and y. -/
def ProdAt (x y : Nat) : Prop := ∀ (u v : Value) (w : World), Rep w u x → Rep w v y →
    Calls Tryd.prog 37 #[u, v] w fun e w' => ∃ r, e = .returned r ∧ RepM w.heap.size w' r (x * y) ∧ Below w.heap.size w w'

/-- A number in new memory lies in none of the old blocks. -/
theorem repM_ne {B : Nat} {w : World} {v : Value} {m g : Nat} (h : RepM B w v m) (hg : g < B) : 0 < nl W32 m → ∀ b o c, v = .slice (some ⟨b, o, none⟩) (nl W32 m) c → b ≠ g := by
  intro hp b o c he
  obtain ⟨ao, c', rfl, _, _, h4⟩ := h
  obtain ⟨b', o', rfl, _, _, hB⟩ := h4 hp
  cases he
  omega

/-- The limbs of a row with others laid from i on, to its end. -/
def layEnd (h h2 : Nat → Int) (i : Nat) : Nat → Int := fun j => if i ≤ j then h2 (j - i) else h j
theorem val_layEnd (B : Nat) (h h2 : Nat → Int) (i n : Nat) : val B (layEnd h h2 i) (i + n) = val B h i + val B h2 n * (B : Int) ^ i := by
  rw [val_add, val_congr i (g := h) (fun j hj => by unfold layEnd; rw [if_neg (by omega)]), val_congr n (g := h2) (fun j _ => by unfold layEnd; rw [if_pos (by omega), Nat.add_sub_cancel_left])]

/-- Adding a number to a row's limbs from i on: what it makes of the row, and that it fits. -/
theorem add_from (h h2 : Nat → Int) (N i : Nat) (S z T : Nat) (hi : i ≤ N) (hu : ∀ j, j < N → 0 ≤ h j ∧ h j < (W32 : Int)) (hS : val W32 h N = (S : Int)) (hT : S + z * W32 ^ i = T) (hTN : T < W32 ^ N) :
    val W32 (fun j => h (i + j)) (N - i) + (z : Int) < (W32 : Int) ^ (N - i) ∧ (val W32 h2 (N - i) = val W32 (fun j => h (i + j)) (N - i) + (z : Int) → val W32 (layEnd h h2 i) N = (T : Int)) := by
  have e0 : N = i + (N - i) := by omega
  have e1 := val_add W32 h i (N - i)
  rw [← e0, hS] at e1
  have hp := powB_pos W32 (by decide) i
  have hlow := (val_bounds W32 h i (fun j hj => hu j (by omega))).1
  have eT : (T : Int) = (S : Int) + (z : Int) * (W32 : Int) ^ i := by rw [← hT]; simp
  have eP : (W32 : Int) ^ N = (W32 : Int) ^ i * (W32 : Int) ^ (N - i) := by rw [← Int.pow_add, ← e0]
  have hTN' : (T : Int) < (W32 : Int) ^ N := by
    have e : ((W32 ^ N : Nat) : Int) = (W32 : Int) ^ N := by simp
    omega
  constructor
  · by_cases g : val W32 (fun j => h (i + j)) (N - i) + (z : Int) < (W32 : Int) ^ (N - i)
    · exact g
    · exfalso
      have h1 : (W32 : Int) ^ (N - i) * (W32 : Int) ^ i ≤ (val W32 (fun j => h (i + j)) (N - i) + (z : Int)) * (W32 : Int) ^ i := Int.mul_le_mul_of_nonneg_right (by omega) (Int.le_of_lt hp)
      rw [Int.add_mul, Int.mul_comm ((W32 : Int) ^ (N - i))] at h1
      omega
  · intro h3
    have e2 := val_layEnd W32 h h2 i (N - i)
    rw [← e0, h3, Int.add_mul] at e2
    omega

theorem cells_layEnd {w w' : World} {g N i : Nat} {h h2 : Nat → Int} (hc : Cells w .u64 g 0 N h) (hc2 : Cells w' .u64 g i (N - i) h2) (hu : Upd w w' g i (N - i)) : Cells w' .u64 g 0 N (layEnd h h2 i) := by
  intro j hj
  unfold layEnd
  by_cases e : i ≤ j
  · rw [if_pos e]
    have := hc2 (j - i) (by omega)
    rw [show i + (j - i) = j by omega] at this
    rw [Nat.zero_add]; exact this
  · rw [if_neg e, hu.cell _ (by omega)]; exact hc j hj
theorem u32_layEnd {N i : Nat} {h h2 : Nat → Int} (hu : U32 N h) (hu2 : U32 (N - i) h2) : U32 N (layEnd h h2 i) := by
  intro j hj
  unfold layEnd
  split
  · exact hu2 _ (by omega)
  · exact hu j hj

/-- A piece of a number's limbs. -/
theorem piece_num (x P E : Nat) (h : P ≤ E) : x % W32 ^ P + (x / W32 ^ P % W32 ^ (E - P)) * W32 ^ P = x % W32 ^ E := by
  have e : W32 ^ E = W32 ^ P * W32 ^ (E - P) := by rw [← Nat.pow_add]; congr 1; omega
  rw [e, Nat.mod_mul, Nat.mul_comm]

set_option maxRecDepth 20000 in
set_option maxHeartbeats 4000000 in
theorem pieces_any (g N ba oa la ca bb ob lb cb x y : Nat) (w : World) (hN : N = la + lb) (hlb : 0 < lb) (hl : la ≤ 400000) (hlb2 : lb ≤ la) (hca : la ≤ ca)
    (hout : Cells w .u64 g 0 N (fun _ => 0)) (hs : Soft w g 0 N) (ha : Cells w .u64 ba oa la (dg W32 x)) (hb : Rep w (.slice (some ⟨bb, ob, none⟩) lb cb) y)
    (hga : ba ≠ g) (hx : x < W32 ^ la) (hy : y < W32 ^ lb) (hgb : bb ≠ g) (IH : ∀ p, nl W32 p ≤ lb → ProdAt p y) :
    Calls Tryd.prog 68 #[.slice (some ⟨g, 0, none⟩) N N, .slice (some ⟨ba, oa, none⟩) la ca, .slice (some ⟨bb, ob, none⟩) lb cb] w fun e w' =>
      e = .returned (.tuple #[]) ∧ ∃ h, Cells w' .u64 g 0 N h ∧ U32 N h ∧ val W32 h N = ((x * y : Nat) : Int) ∧ Upd w w' g 0 N := by
  have HX : Hid (x < W32 ^ la) := hx
  have HY : Hid (y < W32 ^ lb) := hy
  have hglt := hout.lt (show 0 < N by omega)
  clear hx hy
  go_enter Tryd.func68, Tryd.ntmps68
  go_wp2
  go_loopw [6] (fun vi wr => ∃ (P : Nat) (h : Nat → Int), P < la + lb ∧ vi = .int .i64 (P : Int) ∧ Cells wr .u64 g 0 N h ∧ U32 N h ∧ val W32 h N = ((x % W32 ^ P * y : Nat) : Int) ∧ Upd w wr g 0 N) (fun vi _ => la + lb - (intOf vi).toNat)
  case atStart => exact ⟨0, fun _ => 0, by omega, rfl, hout, fun _ _ => ⟨Int.le_refl _, (by decide : (0 : Int) < (W32 : Int))⟩, by rw [val_zero N (fun _ _ => rfl)]; simp [Nat.mod_one], Upd.refl _ _ _ _⟩
  case round =>
    obtain ⟨P, h, hP, rfl, hch, huh, hv, hupd⟩ := hrel
    by_cases hlt : P < la
    · obtain ⟨E, hE⟩ : ∃ E, E = min (P + lb) la := ⟨_, rfl⟩
      have hE1 : P < E := by omega
      have hE2 : E ≤ la := by omega
      have hE3 : E ≤ P + lb := by omega
      have hE4 : E = P + lb ∨ E = la := by omega
      have hEi : min ((P : Int) + (lb : Int)) (la : Int) = (E : Int) := by omega
      clear hE
      go_wp2
      clear hEi
      -- the piece
      have hpA : Cells wr .u64 ba (oa + P) (E - P) (fun j => dg W32 x (P + j)) := (ha.upd hupd (.inl hga)).from P (E - P) (by omega)
      have hpV := val_from W32 x P (E - P)
      have hpU : ∀ i, i < E - P → 0 ≤ dg W32 x (P + i) ∧ dg W32 x (P + i) < (W32 : Int) := fun i _ => dg_bounds W32 x (P + i) (by decide)
      have hpc := piece_num x P E (by omega)
      have hznl : nl W32 (x / W32 ^ P % W32 ^ (E - P)) ≤ lb := Nat.le_trans (nl_le W32 _ (E - P) (by decide) (Nat.mod_lt _ (Nat.pow_pos (by decide)))) (by omega)
      generalize x / W32 ^ P % W32 ^ (E - P) = z at *
      have hT : x % W32 ^ P * y + z * y * W32 ^ P = x % W32 ^ E * y := by rw [← hpc, Nat.add_mul, Nat.mul_right_comm]
      have hTN : x % W32 ^ E * y < W32 ^ N := by
        rw [hN, Nat.pow_add]
        exact Nat.mul_lt_mul_of_lt_of_lt (Nat.lt_of_le_of_lt (Nat.mod_le _ _) HX.out) HY.out
      have hEx : x % W32 ^ E = x % W32 ^ (P + lb) := by
        rcases hE4 with e | e
        · rw [e]
        · rw [e, Nat.mod_eq_of_lt HX.out, Nat.mod_eq_of_lt (Nat.lt_of_lt_of_le HX.out (Nat.pow_le_pow_right (by decide) (by omega)))]
      have HEX : Hid (x % W32 ^ E * y = x % W32 ^ (P + lb) * y) := by show _ = _; rw [hEx]
      have hAF := fun h2 => add_from h h2 N P (x % W32 ^ P * y) (z * y) (x % W32 ^ E * y) (by omega) huh hv hT hTN
      have HAF : Hid (∀ h2 : Nat → Int, val W32 (fun j => h (P + j)) (N - P) + ((z * y : Nat) : Int) < (W32 : Int) ^ (N - P) ∧ (val W32 h2 (N - P) = val W32 (fun j => h (P + j)) (N - P) + ((z * y : Nat) : Int) → val W32 (layEnd h h2 P) N = ((x % W32 ^ E * y : Nat) : Int))) := hAF
      have hznl2 : nl W32 (z * y) ≤ N - P := by
        refine nl_le W32 _ _ (by decide) ?_
        have h1 := (HAF.out (fun _ => 0)).1
        have h2 := (val_bounds W32 (fun j => h (P + j)) (N - P) (fun j hj => huh (P + j) (by omega))).1
        have e : ((W32 ^ (N - P) : Nat) : Int) = (W32 : Int) ^ (N - P) := by simp
        omega
      have hbR : Rep wr (.slice (some ⟨bb, ob, none⟩) lb cb) y := by
        refine Nums.upd hb hupd (fun b' o' c' he _ => ?_)
        injection he with he1; injection he1 with he2; injection he2 with he3; omega
      have hrow : Cells wr .u64 g P (N - P) (fun j => h (P + j)) := by
        have := hch.from P (N - P) (by omega); rw [Nat.zero_add] at this; exact this
      have hsrow : Soft wr g P (N - P) := by
        have := (hs.upd hglt hupd).from P (N - P) (by omega); rw [Nat.zero_add] at this; exact this
      have hurow : U32 (N - P) (fun j => h (P + j)) := fun j hj => huh (P + j) (by omega)
      have hgw : g < wr.heap.size := hch.lt (by omega)
      have hpN : Nums .u64 wr (.slice (some ⟨ba, oa + P, none⟩) (E - P) (ca - P)) (E - P) (fun j => dg W32 x (P + j)) := ⟨_, _, rfl, by omega, by unfold LIM; omega, fun _ => ⟨_, _, rfl, hpA⟩⟩
      have hlim : N - P ≤ LIM := by unfold LIM; omega
      have hVz : Hid (val W32 (dg W32 (z * y)) (nl W32 (z * y)) = ((z * y : Nat) : Int)) := val_nl W32 _ (by decide)
      have hpV' : Hid (val W32 (fun j => dg W32 x (P + j)) (E - P) = (z : Int)) := hpV
      have hIH := IH z hznl
      have HIH : Hid (ProdAt z y) := hIH
      have i1 : (0 : Int) ≤ (P : Int) := by omega
      have i2 : (P : Int) ≤ (E : Int) := by omega
      have i3 : (E : Int) ≤ (la : Int) := by omega
      have i4 : (P : Int) ≤ (N : Int) := by omega
      have i5 : (E : Int) ≤ (ca : Int) := by omega
      have n1 : ¬ N = P := by omega
      have n2 : ¬ ca = P := by omega
      have n3 : P ≤ N := by omega
      have n4 : P ≤ E := by omega
      have n5 : E ≤ ca := by omega
      have n6 : E ≤ la := by omega
      have HNN : Hid (P + lb < la + lb) := by show _ < _; omega
      clear hpV hAF hT hTN hpc hIH hv hEx hznl hN
      go_region_held3 (fun _ => True) (trivial) (first
        | (go_at_call 63; refine (cut_nums (.slice (some ⟨ba, oa + P, none⟩) (E - P) (ca - P)) (E - P) _ _ z (by exact hpN) hpU hpV'.out).mono ?_; rintro e wc ⟨vc, rfl, hvc, rfl⟩)
        | (go_at_call 37; refine (Hid.out HIH _ _ _ (by exact hvc) (by exact hbR)).mono ?_; rintro e wp ⟨vp, rfl, hvp0, hbp0⟩; have hvp : RepM wr.heap.size wp vp (z * y) := hvp0; have hbp : Below wr.heap.size wr wp := ⟨hbp0.os, hbp0.tape, hbp0.output, hbp0.size, hbp0.block⟩)
        | (go_at_call 83; refine (addInto_any g P (N - P) (N - P) vp (nl W32 (z * y)) (fun j => h (P + j)) (dg W32 (z * y)) _ hlim hznl2 (hrow.below hbp hgw) (hsrow.below hbp hgw) hurow hvp.rep (u32_dg _ _) (repM_ne hvp hgw) (by rw [hVz.out]; exact (HAF.out (fun _ => 0)).1)).mono ?_; rintro e wa ⟨rfl, h2, hc2, hu2, hv2, hup2⟩))
      go_wp2
      go_roundw
      case rel =>
        rw [hVz.out] at hv2
        have hup : Upd wr wa g P (N - P) := (Upd.of_below hbp hgw).trans hup2
        refine ⟨P + lb, layEnd h h2 P, HNN.out, by go_num, cells_layEnd hch hc2 hup, u32_layEnd huh hu2, ?_, hupd.trans (hup.mono (by omega) (by omega))⟩
        rw [(HAF.out h2).2 hv2, HEX.out]
      case measure => simp [intOf]; omega
    · go_wp2
      go_end0
      have e : x % W32 ^ P = x := Nat.mod_eq_of_lt (Nat.lt_of_lt_of_le HX.out (Nat.pow_le_pow_right (by decide) (by omega)))
      rw [e] at hv
      exact ⟨rfl, h, hch, huh, hv, hupd⟩

theorem repM_lt {B : Nat} {w : World} {v : Value} {m : Nat} (h : RepM B w v m) : 0 < nl W32 m → ∀ b o c, v = .slice (some ⟨b, o, none⟩) (nl W32 m) c → b < w.heap.size := by
  intro hp b o c he
  obtain ⟨ao, c', rfl, _, _, h4⟩ := h
  obtain ⟨b', o', rfl, hc, _, _⟩ := h4 hp
  cases he
  exact hc.lt hp

theorem nl_hi (x l H : Nat) (hl : nl W32 x = l) (hH : H ≤ l) : nl W32 (x / W32 ^ H) = l - H := by
  have hlt := lt_pow_nl W32 x (by decide)
  rw [hl] at hlt
  have hp : 0 < W32 ^ H := Nat.pow_pos (by decide)
  have h1 : x / W32 ^ H < W32 ^ (l - H) := by
    refine Nat.div_lt_of_lt_mul ?_
    rw [← Nat.pow_add, show H + (l - H) = l by omega]; exact hlt
  have h2 := nl_le W32 _ _ (by decide) h1
  by_cases e : l = H
  · omega
  · have h3 := pow_le_of_nl W32 x (by omega)
    rw [hl] at h3
    have h4 : W32 ^ (l - 1 - H) ≤ x / W32 ^ H := by
      refine (Nat.le_div_iff_mul_le hp).2 ?_
      rw [← Nat.pow_add, show l - 1 - H + H = l - 1 by omega]; exact h3
    have h5 := lt_pow_nl W32 (x / W32 ^ H) (by decide)
    by_cases g : nl W32 (x / W32 ^ H) ≤ l - 1 - H
    · have h6 : W32 ^ nl W32 (x / W32 ^ H) ≤ W32 ^ (l - 1 - H) := Nat.pow_le_pow_right (by decide) g
      omega
    · omega

theorem rep_hi {w : World} {b o l c x H : Nat} (hc : Cells w .u64 b o l (dg W32 x)) (hl : nl W32 x = l) (hH : H ≤ l) (hcc : l ≤ c) (hlim : l ≤ LIM) : Rep w (.slice (some ⟨b, o + H, none⟩) (l - H) (c - H)) (x / W32 ^ H) := by
  unfold Rep
  rw [nl_hi x l H hl hH]
  refine ⟨_, _, rfl, by omega, by omega, fun _ => ⟨_, _, rfl, (hc.from H (l - H) (by omega)).congr (fun i _ => ?_)⟩⟩
  unfold dg
  rw [Nat.pow_add, Nat.div_div_eq_div_mul]

theorem kara_sum (x0 x1 y0 y1 P : Nat) : (x0 + x1) * (y0 + y1) = x0 * y0 + x1 * y1 + (x0 * y1 + x1 * y0) ∧ x0 * y0 + (x0 * y1 + x1 * y0) * P + x1 * y1 * (P * P) = (x0 + x1 * P) * (y0 + y1 * P) := by
  constructor
  · rw [Nat.add_mul, Nat.mul_add, Nat.mul_add]; omega
  · rw [Nat.add_mul x0, Nat.mul_add x0, Nat.mul_add (x1 * P), Nat.add_mul (x0 * y1), Nat.mul_mul_mul_comm x1 P y1 P, ← Nat.mul_assoc x0 y1 P, Nat.mul_right_comm x1 P y0]; omega

end Go.Proofs.YthhabammejkjcaaDoor
