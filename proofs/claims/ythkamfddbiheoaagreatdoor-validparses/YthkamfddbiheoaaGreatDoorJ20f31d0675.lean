/-
  Texts of mine.
-/
import Derived.Test.YthkamfddbiheoaaGreatDoorJ58bd616bed
import Derived.Test.YthkamfddbiheoaaGreatDoorJ1a3af03185
import Derived.Test.YthkamfddbiheoaaGreatDoorJ01b28f7a7d
import Derived.Deep.Cut
namespace Go.Proofs.YthkamfddbiheoaaGreatDoor
open Go.RowKit
set_option linter.unusedVariables false

theorem keepQ {w w' : World} {B : Nat} {a b c d : Addr} {x y z t : Value} (hb : Below B w w') (hB : w.heap.size ≤ B) (h : w.cell? a = some x ∧ w.cell? b = some y ∧ w.cell? c = some z ∧ w.cell? d = some t) :
  w'.cell? a = some x ∧ w'.cell? b = some y ∧ w'.cell? c = some z ∧ w'.cell? d = some t :=
 ⟨cell_later (hb.mono hB) h.1, cell_later (hb.mono hB) h.2.1, cell_later (hb.mono hB) h.2.2.1, cell_later (hb.mono hB) h.2.2.2⟩

/-- What nearer answers. -/
def NearOut (x y : Nat) (B : Nat) (w : World) (e : Ending) (w' : World) : Prop :=
 ∃ (X Y : Nat) (rx ry : Value), e = .returned (.tuple #[rx, ry]) ∧ Rep w' rx X ∧ Rep w' ry Y ∧ Y ≤ X ∧ Y < y ∧ X ≤ y ∧ Nat.gcd X Y = Nat.gcd x y ∧ Below B w w'

theorem top_bits (x m : Nat) (hm : nl W32 x = m + 3) : ∃ z, z ≤ 31 ∧ Lib.bitLen (dg W32 x (m + 2)).toNat = 32 - z ∧ x / 2 ^ (32 * (m + 1) - z) < 18446744073709551616 := by
 obtain ⟨h1, h2, h3, h4⟩ := len_top x (m + 2) (by omega)
 generalize Lib.bitLen (dg W32 x (m + 2)).toNat = L at *
 refine ⟨32 - L, by omega, by omega, ?_⟩
 apply Nat.div_lt_of_lt_mul
 have e : 2 ^ (32 * (m + 1) - (32 - L)) * 18446744073709551616 = 2 ^ (32 * (m + 2) + L) := by
  rw [show (18446744073709551616 : Nat) = 2 ^ 64 from rfl, ← Nat.pow_add]; congr 1; omega
 rw [e]; exact h2

set_option maxRecDepth 20000 in
set_option maxHeartbeats 2000000 in
theorem nearer_any (u v : Value) (x y m : Nat) (w : World) (hu : Rep w u x) (hv : Rep w v y) (hxy : y ≤ x) (hx : nl W32 x = m + 3) (hy0 : 0 < y) (hm : m ≤ 900000) :
  Calls Tryz.prog 118 #[u, v] w fun e w' => NearOut x y w.heap.size w e w' := by
 obtain ⟨z, hz, hbl, hlt⟩ := top_bits x m hx
 have hxl : x < W32 ^ (m + 3) := by have := lt_pow_nl W32 x (by decide); rw [hx] at this; exact this
 have hyl : y < W32 ^ (m + 3) := Nat.lt_of_le_of_lt hxy hxl
 have hnly : nl W32 y ≤ m + 3 := nl_le W32 y _ (by decide) hyl
 have hhy : y / 2 ^ (32 * (m + 1) - z) ≤ x / 2 ^ (32 * (m + 1) - z) := Nat.div_le_div_right hxy
 have hP : 0 < 2 ^ (32 * (m + 1) - z) := Nat.pow_pos (by decide)
 have xe := Nat.div_add_mod x (2 ^ (32 * (m + 1) - z))
 have xm := Nat.mod_lt x hP
 have ye := Nat.div_add_mod y (2 ^ (32 * (m + 1) - z))
 have ym := Nat.mod_lt y hP
 have HH1 : ∀ W, Rep W u x → Hid (Calls Tryz.prog 165 #[u, .int .i64 ((m : Int) + 3), .int .i64 (z : Int)] W fun e w' => e = .returned (.int .u64 ((x / 2 ^ (32 * (m + 1) - z) : Nat) : Int)) ∧ Below W.heap.size W w') := fun W h => by
  have g := head_any u x m z W h hz hxl (by omega) hlt
  rw [show ((m + 3 : Nat) : Int) = (m : Int) + 3 by omega] at g; exact g
 have HH2 : ∀ W, Rep W v y → Hid (Calls Tryz.prog 165 #[v, .int .i64 ((m : Int) + 3), .int .i64 (z : Int)] W fun e w' => e = .returned (.int .u64 ((y / 2 ^ (32 * (m + 1) - z) : Nat) : Int)) ∧ Below W.heap.size W w') := fun W h => by
  have g := head_any v y m z W h hz hyl (by omega) (by omega)
  rw [show ((m + 3 : Nat) : Int) = (m : Int) + 3 by omega] at g; exact g
 generalize x / 2 ^ (32 * (m + 1) - z) = A at *
 generalize y / 2 ^ (32 * (m + 1) - z) = B at *
 generalize x % 2 ^ (32 * (m + 1) - z) = α at *
 generalize y % 2 ^ (32 * (m + 1) - z) = β at *
 generalize 2 ^ (32 * (m + 1) - z) = P at *
 have HXE : Hid (P * A + α = x ∧ α < P ∧ P * B + β = y ∧ β < P) := ⟨xe, xm, ye, ym⟩
 have HH : Hid ((∀ W, Rep W u x → Hid (Calls Tryz.prog 165 #[u, .int .i64 ((m : Int) + 3), .int .i64 (z : Int)] W fun e w' => e = .returned (.int .u64 (A : Int)) ∧ Below W.heap.size W w')) ∧ (∀ W, Rep W v y → Hid (Calls Tryz.prog 165 #[v, .int .i64 ((m : Int) + 3), .int .i64 (z : Int)] W fun e w' => e = .returned (.int .u64 (B : Int)) ∧ Below W.heap.size W w'))) := ⟨HH1, HH2⟩
 clear HH1 HH2 xe xm ye ym hP
 have hU := hu
 obtain ⟨ao, c, rfl, _, hl, h4⟩ := hu
 obtain ⟨b, off, rfl, hc⟩ := h4 (by omega)
 have hcell := hc (m + 2) (by omega)
 have hdb := dg_bounds W32 x (m + 2) (by decide)
 rw [hx]
 rw [hx] at hU
 clear h4 hc
 generalize dg W32 x (m + 2) = D at *
 unfold W32 at hdb
 have i1 : ((m + 3 : Nat) : Int) - 1 = ((m + 2 : Nat) : Int) := by omega
 have i2 : IntKind.u32.wrap D = D := by simp [IntKind.wrap, IntKind.signed, IntKind.bits]; omega
 have HL : Hid ((32 : Int) - (Lib.bitLen D.toNat : Int) = (z : Int)) := by show _ = _; rw [hbl]; omega
 go_enter Tryz.func118, Tryz.ntmps118
 go_wp2_with fail
 refine (lead32_any D _ (by omega) (by omega)).mono ?_
 rintro e w1 ⟨rfl, hw⟩
 subst hw
 rw [HL.out]
 rw [hx] at HH
 clear i1 i2 hcell hdb hbl HL
 go_wp2_with fail
 refine (HH.out.1 _ hU).out.mono ?_
 rintro e w2 ⟨rfl, hb2⟩
 go_wp2_with fail
 refine (HH.out.2 _ (Nums.below hv hb2)).out.mono ?_
 rintro e w3 ⟨rfl, hb3⟩
 have B3 := hb2.trans (hb3.mono hb2.size)
 go_wp2_with fail
 refine (sureSteps_any A B _ hlt hhy).mono ?_
 rintro e w4 ⟨⟨u0, u1, v0, v1, ev, rfl, hS⟩, hb4⟩
 have B4 := B3.trans (hb4.mono B3.size)
 have hA5 : ∀ o, Below w4.heap.size w4 (w4.alloc o) := fun o => (Below.refl _ _).alloc (Nat.le_refl _) _
 have hst := st_new w4 u0 u1 v0 v1 ev 202
 have B5 := B4.trans ((hA5 (.cells #[.int .u64 (u0 : Int), .int .u64 (u1 : Int), .int .u64 (v0 : Int), .int .u64 (v1 : Int), .bool ev] 202)).mono B4.size)
 clear HH hb2 hb3 B3 hA5
 have HS : Hid (Sure A B u0 u1 v0 v1 ev) := hS
 clear hS
 by_cases hv0 : v0 = 0
 ·have hz0 : ((v0 : Int) == 0) = true := by simp [hv0]
  clear hv0
  go_wp2_with fail
  generalize w4.alloc (.cells #[.int .u64 (u0 : Int), .int .u64 (u1 : Int), .int .u64 (v0 : Int), .int .u64 (v1 : Int), .bool ev] 202) = W5 at *
  have hU5 : Rep W5 (.slice (some ⟨b, off, none⟩) (m + 3) c) x := Nums.below hU B5
  refine (divide_any x y hy0 (by omega) _ _ _ hU5 (Nums.below hv B5)).mono ?_
  rintro e w6 ⟨qv, rv, rfl, hq, hr, hb6⟩
  go_wp2
  go_ret2
  have hr6 : Rep w6 rv (x % y) := hr.rep
  exact ⟨y, x % y, _, _, rfl, Nums.below (Nums.below hv B5) hb6, hr6, Nat.le_of_lt (Nat.mod_lt _ hy0), Nat.mod_lt _ hy0, Nat.le_refl _, by rw [Nat.gcd_comm, ← Nat.gcd_rec]; exact Nat.gcd_comm _ _, B5.trans (hb6.mono B5.size)⟩
 ·have hz0 : ((v0 : Int) == 0) = false := by simp; omega
  obtain ⟨s1, a, bq, hC, hc1, hc2⟩ : 1 ≤ v0 ∧ ∃ a b, Coll A B a b u0 u1 v0 v1 (!ev) ∧ v1 ≤ b ∧ v0 + v1 ≤ a - b := by
   rcases HS.out with h | h
   ·exact absurd h hv0
   ·exact h
  have hv1s := hC.small hc1 hlt
  have hne0 : v0 ≠ 0 := hv0
  have hmore := hC.more s1
  have huv := hC.uv
  obtain ⟨hxe, hαP, hye, hβP⟩ := HXE.out
  have hxe' : x = A * P + α := by rw [Nat.mul_comm A P]; exact hxe.symm
  have hye' : y = B * P + β := by rw [Nat.mul_comm B P]; exact hye.symm
  have c0 : (w4.alloc (.cells #[.int .u64 (u0 : Int), .int .u64 (u1 : Int), .int .u64 (v0 : Int), .int .u64 (v1 : Int), .bool ev] 202)).drew.cell? ⟨w4.heap.size, 0, none⟩ = some (.int .u64 (u0 : Int)) ∧ (w4.alloc (.cells #[.int .u64 (u0 : Int), .int .u64 (u1 : Int), .int .u64 (v0 : Int), .int .u64 (v1 : Int), .bool ev] 202)).drew.cell? ⟨w4.heap.size, 1, none⟩ = some (.int .u64 (u1 : Int)) ∧ (w4.alloc (.cells #[.int .u64 (u0 : Int), .int .u64 (u1 : Int), .int .u64 (v0 : Int), .int .u64 (v1 : Int), .bool ev] 202)).drew.cell? ⟨w4.heap.size, 2, none⟩ = some (.int .u64 (v0 : Int)) ∧ (w4.alloc (.cells #[.int .u64 (u0 : Int), .int .u64 (u1 : Int), .int .u64 (v0 : Int), .int .u64 (v1 : Int), .bool ev] 202)).drew.cell? ⟨w4.heap.size, 3, none⟩ = some (.int .u64 (v1 : Int)) :=
   ⟨(hst 0 (by omega)).1, (hst 1 (by omega)).1, (hst 2 (by omega)).1, (hst 3 (by omega)).1⟩
  have BD := B5.drew
  have hUd : Rep (w4.alloc (.cells #[.int .u64 (u0 : Int), .int .u64 (u1 : Int), .int .u64 (v0 : Int), .int .u64 (v1 : Int), .bool ev] 202)).drew (.slice (some ⟨b, off, none⟩) (m + 3) c) x := Nums.below hU BD
  have hVd := Nums.below hv BD
  have b1 : u0 < 4294967296 := by omega
  have b2 : u1 < 4294967296 := by omega
  have b3 : v0 < 4294967296 := by omega
  have hlx : nl W32 x ≤ 1000000 := by omega
  have hly : nl W32 y ≤ 1000000 := by omega
  have HM : Hid (_ ∧ _ ∧ _) := hmore
  have HC : Hid (v1 ≤ bq ∧ v0 + v1 ≤ a - bq) := ⟨hc1, hc2⟩
  clear hst hxe hye HXE HS hmore huv hv0
  cases ev with
  | true =>
   obtain ⟨X, Y, f1, f2, f3, f4, f5, f6⟩ := lehmer_pos hC hc1 hc2 s1 x y P α β hxe' hye' hαP hβP
   have hg := gcd_pos f1 f2 f3 f4
   have HF : Hid (u0 * x = v0 * y + X ∧ v1 * y = u1 * x + Y ∧ Nat.gcd X Y = Nat.gcd x y) := ⟨f1, f2, hg⟩
   clear f1 f2 f3 f4 hg hxe' hye' hC hc1 hc2 hαP hβP s1 hne0 HM HC
   have hXx : X ≤ x := by omega
   have hYy : Y ≤ y := by omega
   have hYx : Y ≤ x := by omega
   have HFR : Hid (Y < X) := f5
   have HF6 : Hid (X ≤ y) := f6
   have HY : Hid (Y < y) := by show _ < _; omega
   go_wp2
   go_region_held3 (fun w' => w'.cell? ⟨w4.heap.size, 0, none⟩ = some (.int .u64 (u0 : Int)) ∧ w'.cell? ⟨w4.heap.size, 1, none⟩ = some (.int .u64 (u1 : Int)) ∧ w'.cell? ⟨w4.heap.size, 2, none⟩ = some (.int .u64 (v0 : Int)) ∧ w'.cell? ⟨w4.heap.size, 3, none⟩ = some (.int .u64 (v1 : Int))) (first | exact keepQ (by assumption) (by exact Nat.le_refl _) (by assumption) | exact c0) (first
    | (go_at_call_of 166 u0; refine (lessTimes_any u0 v0 _ _ x y X _ hUd hVd b1 b3 HF.out.1 hXx f6 hlx hly).mono ?_; rintro e y1 ⟨r1, rfl, hr1, k1⟩)
    | (go_at_call_of 166 u1; refine (lessTimes_any v1 u1 _ _ y x Y _ (Nums.below hVd k1) (Nums.below hUd k1) hv1s b2 HF.out.2.1 hYy hYx hly hlx).mono ?_; rintro e y2 ⟨r2, rfl, hr2, k2⟩))
   go_wp2
   go_ret2
   have U1 := BD.trans (k1.mono BD.size)
   exact ⟨X, Y, _, _, rfl, Nums.below hr1.rep k2, hr2.rep, Nat.le_of_lt HFR.out, HY.out, HF6.out, HF.out.2.2, U1.trans (k2.mono U1.size)⟩
  | false =>
   obtain ⟨X, Y, f1, f2, f3, f4, f5, f6⟩ := lehmer_neg hC hc1 hc2 s1 x y P α β hxe' hye' hαP hβP
   have hg := gcd_neg f1 f2 f3 f4
   have HF : Hid (v0 * y = u0 * x + X ∧ u1 * x = v1 * y + Y ∧ Nat.gcd X Y = Nat.gcd x y) := ⟨f1, f2, hg⟩
   clear f1 f2 f3 f4 hg hxe' hye' hC hc1 hc2 hαP hβP s1 hne0 HM HC
   have hXx : X ≤ x := by omega
   have hYy : Y ≤ y := by omega
   have hYx : Y ≤ x := by omega
   have HFR : Hid (Y < X) := f5
   have HF6 : Hid (X ≤ y) := f6
   have HY : Hid (Y < y) := by show _ < _; omega
   go_wp2
   go_region_held3 (fun w' => w'.cell? ⟨w4.heap.size, 0, none⟩ = some (.int .u64 (u0 : Int)) ∧ w'.cell? ⟨w4.heap.size, 1, none⟩ = some (.int .u64 (u1 : Int)) ∧ w'.cell? ⟨w4.heap.size, 2, none⟩ = some (.int .u64 (v0 : Int)) ∧ w'.cell? ⟨w4.heap.size, 3, none⟩ = some (.int .u64 (v1 : Int))) (first | exact keepQ (by assumption) (by exact Nat.le_refl _) (by assumption) | exact c0) (first
    | (go_at_call_of 166 u0; refine (lessTimes_any v0 u0 _ _ y x X _ hVd hUd b3 b1 HF.out.1 f6 hXx hly hlx).mono ?_; rintro e y1 ⟨r1, rfl, hr1, k1⟩)
    | (go_at_call_of 166 u1; refine (lessTimes_any u1 v1 _ _ x y Y _ (Nums.below hUd k1) (Nums.below hVd k1) b2 hv1s HF.out.2.1 hYx hYy hlx hly).mono ?_; rintro e y2 ⟨r2, rfl, hr2, k2⟩))
   go_wp2
   go_ret2
   have U1 := BD.trans (k1.mono BD.size)
   exact ⟨X, Y, _, _, rfl, Nums.below hr1.rep k2, hr2.rep, Nat.le_of_lt HFR.out, HY.out, HF6.out, HF.out.2.2, U1.trans (k2.mono U1.size)⟩

end Go.Proofs.YthkamfddbiheoaaGreatDoor
