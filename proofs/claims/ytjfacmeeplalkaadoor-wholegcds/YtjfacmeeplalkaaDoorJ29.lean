/-
  Texts of mine, joined: what lies beneath the statement.
-/
import Derived.Test.YtjfacmeeplalkaaDoorJ26
import Derived.Test.YtjfacmeeplalkaaDoorJ28
/-
  What whole.Bezout answers.
-/
namespace Go.Proofs.YtjfacmeeplalkaaDoor
open Go.RowKit
set_option linter.unusedVariables false

/-- The three multipliers fit. -/
theorem bez_key (x y X s g : Int) (hg : g = X * (x.natAbs : Int) + s * (y.natAbs : Int)) : ∃ t : Int, g - x * (X * cmpI x 0) = y * t := by
  have hx : x * cmpI x 0 = (x.natAbs : Int) := by
    unfold cmpI; split
    · omega
    · split <;> omega
  have hy : (y.natAbs : Int) = y * cmpI y 0 := by
    unfold cmpI; split
    · omega
    · split <;> omega
  refine ⟨s * cmpI y 0, ?_⟩
  rw [hg, ← hx, hy]; grind

/-- What Bezout answers. -/
def BezOut (x y : Int) (B : Nat) (w : World) (e : Ending) (w' : World) : Prop :=
  ∃ (rg rs rt : Value) (S T : Int), e = .returned (.tuple #[rg, rs, rt]) ∧ RepI w' rg ((Nat.gcd x.natAbs y.natAbs : Nat) : Int) ∧ RepI w' rs S ∧ RepI w' rt T ∧ x * S + y * T = ((Nat.gcd x.natAbs y.natAbs : Nat) : Int) ∧ nl W32 S.natAbs ≤ 320 ∧ nl W32 T.natAbs ≤ 700 ∧ Below B w w'

theorem wdiv_ex (u v : Value) (z y t : Int) (L M : Nat) (w : World) (hu : IntAt w u z L) (hv : IntAt w v y M) (hL : L ≤ 999998) (hz : z = y * t) :
    Calls Tryd.prog 22 #[u, v] w fun e w' => ∃ (q r : Value) (k T : Int), e = .returned (.tuple #[q, r, .int .i64 k]) ∧ RepI w' q T ∧ (∃ ρ, RepI w' r ρ) ∧ y * T = z ∧ T.natAbs ≤ z.natAbs ∧ Below w.heap.size w w' := by
  by_cases hy : y = 0
  · rw [hy] at hv
    refine (wdivMod_zero u v z L M w hu hv).mono ?_
    rintro e w1 ⟨q, r, rfl, hq, hr, hb⟩
    exact ⟨q, r, 2, 0, rfl, hq, ⟨_, hr⟩, by rw [hz, hy]; simp, by simp, hb⟩
  · refine (wdivMod_any u v z y L M w hu hv hL hy).mono ?_
    rintro e w1 ⟨q, r, rfl, hq, hr, hb⟩
    have e1 : z.fdiv y = t := by rw [hz]; exact Int.mul_fdiv_cancel_left t hy
    rw [e1] at hq
    refine ⟨q, r, 0, t, rfl, hq, ⟨_, hr⟩, hz.symm, ?_, hb⟩
    rw [hz, Int.natAbs_mul]
    exact Nat.le_mul_of_pos_left _ (by omega)

end Go.Proofs.YtjfacmeeplalkaaDoor

/-
  The walk of whole.Bezout.
-/
namespace Go.Proofs.YtjfacmeeplalkaaDoor
open Go.RowKit
set_option linter.unusedVariables false

theorem gcd_lt2 (x y M : Nat) (hx : x < M) (hy : y < M) : Nat.gcd x y < M := by
  rcases Nat.eq_zero_or_pos x with e | e
  · rw [e, Nat.gcd_zero_left]; exact hy
  · exact Nat.lt_of_le_of_lt (Nat.gcd_le_left _ e) hx

theorem gcd_nl (x y k : Nat) (hx : nl W32 x ≤ k) (hy : nl W32 y ≤ k) : nl W32 (Nat.gcd x y) ≤ k :=
  nl_le W32 _ k (by decide) (gcd_lt2 _ _ _ (Nat.lt_of_lt_of_le (lt_pow_nl W32 _ (by decide)) (Nat.pow_le_pow_right (by decide) hx)) (Nat.lt_of_lt_of_le (lt_pow_nl W32 _ (by decide)) (Nat.pow_le_pow_right (by decide) hy)))
theorem put1 {w : World} {R a i : Nat} {v : Value} (h : w.cell? ⟨a, i, none⟩ = some v) (ha : a ≠ R) (x' y' : Value) : ((w.setCell ⟨R, 0, none⟩ x').setCell ⟨R, 1, none⟩ y').cell? ⟨a, i, none⟩ = some v := by
  rw [World.cell?_setCell_other _ _ _ _ (fun e => by injection e; omega), World.cell?_setCell_other _ _ _ _ (fun e => by injection e; omega)]; exact h
theorem put44 {w : World} {R a b c d : Nat} {x y z t x1 y1 z1 t1 : Value} (ha : a ≠ R) (hb : b ≠ R) (hc : c ≠ R) (hd : d ≠ R) (x' y' : Value)
    (h : w.cell? ⟨a, 0, none⟩ = some x ∧ w.cell? ⟨a, 1, none⟩ = some y ∧ w.cell? ⟨b, 0, none⟩ = some z ∧ w.cell? ⟨b, 1, none⟩ = some t ∧ w.cell? ⟨c, 0, none⟩ = some x1 ∧ w.cell? ⟨c, 1, none⟩ = some y1 ∧ w.cell? ⟨d, 0, none⟩ = some z1 ∧ w.cell? ⟨d, 1, none⟩ = some t1) :
    ((w.setCell ⟨R, 0, none⟩ x').setCell ⟨R, 1, none⟩ y').cell? ⟨a, 0, none⟩ = some x ∧ ((w.setCell ⟨R, 0, none⟩ x').setCell ⟨R, 1, none⟩ y').cell? ⟨a, 1, none⟩ = some y ∧ ((w.setCell ⟨R, 0, none⟩ x').setCell ⟨R, 1, none⟩ y').cell? ⟨b, 0, none⟩ = some z ∧ ((w.setCell ⟨R, 0, none⟩ x').setCell ⟨R, 1, none⟩ y').cell? ⟨b, 1, none⟩ = some t ∧
    ((w.setCell ⟨R, 0, none⟩ x').setCell ⟨R, 1, none⟩ y').cell? ⟨c, 0, none⟩ = some x1 ∧ ((w.setCell ⟨R, 0, none⟩ x').setCell ⟨R, 1, none⟩ y').cell? ⟨c, 1, none⟩ = some y1 ∧ ((w.setCell ⟨R, 0, none⟩ x').setCell ⟨R, 1, none⟩ y').cell? ⟨d, 0, none⟩ = some z1 ∧ ((w.setCell ⟨R, 0, none⟩ x').setCell ⟨R, 1, none⟩ y').cell? ⟨d, 1, none⟩ = some t1 :=
  ⟨put1 h.1 ha _ _, put1 h.2.1 ha _ _, put1 h.2.2.1 hb _ _, put1 h.2.2.2.1 hb _ _, put1 h.2.2.2.2.1 hc _ _, put1 h.2.2.2.2.2.1 hc _ _, put1 h.2.2.2.2.2.2.1 hd _ _, put1 h.2.2.2.2.2.2.2 hd _ _⟩

/-- What holds behind the second statement. -/
structure Mid (w : World) (x y X : Int) (p q : Bool) (ao bo : Option Addr) (n c m d : Nat) (p1 : Bool) (ao1 : Option Addr) (n1 c1 L M : Nat) (p4 : Bool) (ao4 : Option Addr) (n4 c4 : Nat) (wc : World) : Prop where
  v2 : V2 wc w.heap.size (.bool p) (.slice ao n c)
  v3 : V2 wc (w.heap.size + 1) (.bool q) (.slice bo m d)
  v4 : V2 wc (w.heap.size + 1 + 1) (.bool p1) (.slice ao1 n1 c1)
  v5 : V2 wc (w.heap.size + 1 + 1 + 1) (.bool p4) (.slice ao4 n4 c4)
  v6 : V2 wc (w.heap.size + 1 + 1 + 1 + 1) (.bool false) (.slice none 0 0)
  g : RepI wc (.agg #[.bool p1, .slice ao1 n1 c1]) ((Nat.gcd x.natAbs y.natAbs : Nat) : Int)
  s : RepI wc (.agg #[.bool p4, .slice ao4 n4 c4]) (X * cmpI x 0)
  a : IntAt wc (.agg #[.bool p, .slice ao n c]) x L
  b : IntAt wc (.agg #[.bool q, .slice bo m d]) y M
  bel : Below w.heap.size w wc

set_option maxRecDepth 20000 in
set_option maxHeartbeats 2000000 in
theorem wbezout_any (u v : Value) (x y : Int) (L M : Nat) (w : World) (hu : IntAt w u x L) (hv : IntAt w v y M) (hL : L ≤ 300) (hM : M ≤ 300) :
    Calls Tryd.prog 8 #[u, v] w fun e w' => BezOut x y w.heap.size w e w' := by
  have HU := hu
  have HV := hv
  obtain ⟨p, ao, n, c, f, rfl, hu, hf, hx, hn⟩ := hu
  obtain ⟨q, bo, m, d, g, rfl, hv, hg, hy, hm⟩ := hv
  have hxa : num f n = x.natAbs := by rw [← hx, zof_abs]
  have hya : num g m = y.natAbs := by rw [← hy, zof_abs]
  have hlx : nl W32 (num f n) ≤ 300 := Nat.le_trans (nl_le W32 _ _ (by decide) (num_lt f n)) (by omega)
  have hly : nl W32 (num g m) ≤ 300 := Nat.le_trans (nl_le W32 _ _ (by decide) (num_lt g m)) (by omega)
  have HE : Hid (∀ W, Below w.heap.size w W → Calls Tryd.prog 18 #[.slice ao n c, .slice bo m d] W fun e w' => EuOut x.natAbs y.natAbs W.heap.size W e w') := fun W hb => by
    have h := euclid_any _ _ _ _ _ _ W (hu.below hb) (hv.below hb) hf hg (by omega) (by omega)
    rw [hxa, hya] at h; exact h
  rw [hxa] at hlx
  rw [hya] at hly
  clear hu hv hf hg hx hy hxa hya hn hm
  obtain ⟨W1, e1, s1, b1, A2⟩ := V2.lay w 25 (.bool p) (.slice ao n c)
  obtain ⟨W2, e2, s2, b2, A3⟩ := V2.lay W1 25 (.bool q) (.slice bo m d)
  obtain ⟨W3, e3, s3, b3, A4⟩ := V2.lay W2 25 (.bool false) (.slice none 0 0)
  obtain ⟨W4, e4, s4, b4, A5⟩ := V2.lay W3 25 (.bool false) (.slice none 0 0)
  obtain ⟨W5, e5, s5, b5, A6⟩ := V2.lay W4 25 (.bool false) (.slice none 0 0)
  replace A2 := (((A2.later b2).later b3).later b4).later b5
  replace A3 := ((A3.later b3).later b4).later b5
  replace A4 := (A4.later b4).later b5
  replace A5 := A5.later b5
  have B2 := b1.trans (b2.mono b1.size)
  have B3 := B2.trans (b3.mono B2.size)
  have B4 := B3.trans (b4.mono B3.size)
  have B5 := B4.trans (b5.mono B4.size)
  rw [s4, s3, s2, s1] at A6
  rw [s3, s2, s1] at A5
  rw [s2, s1] at A4
  rw [s1] at A3
  have HU5 := HU.below B5
  have HV5 := HV.below B5
  have hz : w.heap.size ≤ W5.heap.size := B5.size
  have HS : Hid (W5.heap.size = w.heap.size + 1 + 1 + 1 + 1 + 1) := by show _ = _; omega
  clear b1 b2 b3 b4 b5 B2 B3 B4 s1 s2 s3 s4 s5 HU HV hz
  have A2' := A2
  have A3' := A3
  obtain ⟨a1, a2, a3, a4⟩ := A2'
  obtain ⟨a5, a6, a7, a8⟩ := A3'
  rw [e5, e4, e3, e2, e1] at a1 a2 a3 a4 a5 a6 a7 a8
  have EW : Hid (W5 = ((((w.alloc (.cells #[.bool p, .slice ao n c] 25)).alloc (.cells #[.bool q, .slice bo m d] 25)).alloc (.cells #[.bool false, .slice none 0 0] 25)).alloc (.cells #[.bool false, .slice none 0 0] 25)).alloc (.cells #[.bool false, .slice none 0 0] 25)) := by show _ = _; rw [e5, e4, e3, e2, e1]
  clear e5 e4 e3 e2 e1
  go_enter Tryd.func8, Tryd.ntmps8
  go_wp2_with fail
  rw [← EW.out]
  rw [← EW.out] at a1 a2 a3 a4 a5 a6 a7 a8
  clear EW a1 a2 a3 a4 a5 a6 a7 a8
  refine (HE.out _ B5).mono ?_
  rintro e w1 ⟨rg, rx, X, s, rfl, hg1, hx1, heq, hbd', hb1⟩
  have B1 := B5.trans (hb1.mono B5.size)
  replace A2 := A2.later hb1
  replace A3 := A3.later hb1
  replace A4 := A4.later hb1
  replace A5 := A5.later hb1
  replace A6 := A6.later hb1
  replace HU5 := HU5.below hb1
  replace HV5 := HV5.below hb1
  obtain ⟨p1, ao1, n1, c1, rfl⟩ := hg1.open
  obtain ⟨p2, ao2, n2, c2, rfl⟩ := hx1.open
  have HQ : Hid (((Nat.gcd x.natAbs y.natAbs : Nat) : Int) = X * (x.natAbs : Int) + s * (y.natAbs : Int)) := heq
  have hz1 : w.heap.size + 1 + 1 + 1 + 1 + 1 ≤ w1.heap.size := by have := hb1.size; have := HS.out; omega
  clear heq hb1 B5 HE HS
  -- the stores
  have A4' := A4
  have A5' := A5
  obtain ⟨q1, q2, q3, q4⟩ := A4'
  obtain ⟨q5, q6, q7, q8⟩ := A5'
  have D2 := (A2.other (R := w.heap.size + 1 + 1) (by omega) (.bool p1) (.slice ao1 n1 c1)).other (R := w.heap.size + 1 + 1 + 1) (by omega) (.bool p2) (.slice ao2 n2 c2)
  have D3 := (A3.other (R := w.heap.size + 1 + 1) (by omega) (.bool p1) (.slice ao1 n1 c1)).other (R := w.heap.size + 1 + 1 + 1) (by omega) (.bool p2) (.slice ao2 n2 c2)
  have D4 := (A4.same (.bool p1) (.slice ao1 n1 c1)).other (R := w.heap.size + 1 + 1 + 1) (by omega) (.bool p2) (.slice ao2 n2 c2)
  have D5 := (A5.other (R := w.heap.size + 1 + 1) (by omega) (.bool p1) (.slice ao1 n1 c1)).same (.bool p2) (.slice ao2 n2 c2)
  have D6 := (A6.other (R := w.heap.size + 1 + 1) (by omega) (.bool p1) (.slice ao1 n1 c1)).other (R := w.heap.size + 1 + 1 + 1) (by omega) (.bool p2) (.slice ao2 n2 c2)
  have G1 := hg1.store4 q1 q2 q5 q6 (by omega) (.bool p1) (.slice ao1 n1 c1) (.bool p2) (.slice ao2 n2 c2)
  have X1 := hx1.store4 q1 q2 q5 q6 (by omega) (.bool p1) (.slice ao1 n1 c1) (.bool p2) (.slice ao2 n2 c2)
  have U1 := (HU5.store2 q1 q2 (.bool p1) (.slice ao1 n1 c1)).store2 (A5.other (R := w.heap.size + 1 + 1) (by omega) (.bool p1) (.slice ao1 n1 c1)).1 (A5.other (R := w.heap.size + 1 + 1) (by omega) (.bool p1) (.slice ao1 n1 c1)).2.1 (.bool p2) (.slice ao2 n2 c2)
  have V1 := (HV5.store2 q1 q2 (.bool p1) (.slice ao1 n1 c1)).store2 (A5.other (R := w.heap.size + 1 + 1) (by omega) (.bool p1) (.slice ao1 n1 c1)).1 (A5.other (R := w.heap.size + 1 + 1) (by omega) (.bool p1) (.slice ao1 n1 c1)).2.1 (.bool p2) (.slice ao2 n2 c2)
  have BB := below_store2 (below_store2 B1 (show w.heap.size ≤ w.heap.size + 1 + 1 by omega) (.bool p1) (.slice ao1 n1 c1)) (show w.heap.size ≤ w.heap.size + 1 + 1 + 1 by omega) (.bool p2) (.slice ao2 n2 c2)
  clear A2 A3 A4 A5 A6 HU5 HV5 hg1 hx1 B1
  go_wp2
  clear q1 q2 q3 q4 q5 q6 q7 q8
  generalize (((w1.setCell ⟨w.heap.size + 1 + 1, 0, none⟩ (.bool p1)).setCell ⟨w.heap.size + 1 + 1, 1, none⟩ (.slice ao1 n1 c1)).setCell ⟨w.heap.size + 1 + 1 + 1, 0, none⟩ (.bool p2)).setCell ⟨w.heap.size + 1 + 1 + 1, 1, none⟩ (.slice ao2 n2 c2) = W6 at *
  have hbd : Below W6.heap.size W6 W6.drew := (Below.refl _ _).drew
  have B6 := BB.trans (hbd.mono BB.size)
  replace D2 := D2.later hbd
  replace D3 := D3.later hbd
  replace D4 := D4.later hbd
  replace D5 := D5.later hbd
  replace D6 := D6.later hbd
  replace G1 := G1.below hbd
  replace X1 := X1.below hbd
  replace U1 := U1.below hbd
  replace V1 := V1.below hbd
  have HB6 : Hid (Below w.heap.size w W6.drew) := B6
  clear hbd B6 BB
  have cb : -1 ≤ cmpI x 0 ∧ cmpI x 0 ≤ 1 := by unfold cmpI; split <;> (try split) <;> omega
  have hXl : nl W32 X.natAbs ≤ 301 := Nat.le_trans (nl_up _ _ hbd') (by omega)
  have hCl : nl W32 (cmpI x 0).natAbs ≤ 1 := nl_le W32 _ 1 (by decide) (by unfold W32; omega)
  have D2' := D2
  obtain ⟨z1, z2, _, _⟩ := D2
  have D5' := D5
  obtain ⟨z3, z4, _, _⟩ := D5
  have hcs : w.heap.size ≤ W6.drew.heap.size := HB6.out.size
  go_cut [] from 15 (fun wc => ∃ (p4 : Bool) (ao4 : Option Addr) (n4 c4 : Nat), Mid w x y X p q ao bo n c m d p1 ao1 n1 c1 L M p4 ao4 n4 c4 wc)
  case first =>
    go_region_with (first
      | (go_at_call 21; refine (sign_any _ _ _ _ U1).mono ?_; rintro e w2 ⟨rfl, hb2⟩; obtain ⟨y1, y2, _, _⟩ := V2.later D5' hb2)
      | (go_at_call 20; refine (wof_any _ _ (by omega) (by omega)).mono ?_; rintro e w3 ⟨r3, rfl, hr3, hb3⟩; obtain ⟨y3, y4, _, _⟩ := (V2.later D5' hb2).later hb3)
      | (go_at_call 19; refine (wmul_any _ _ X (cmpI x 0) 301 1 _ (((X1.below hb2).below hb3).at 301 hXl) (hr3.at 1 hCl) (by omega)).mono ?_; rintro e w4 ⟨r4, rfl, hr4, hb4⟩; obtain ⟨p4, ao4, n4, c4, rfl⟩ := hr4.open; obtain ⟨q1, q2, q3, q4⟩ := (((V2.later D5' hb2).later hb3).later hb4)))
    all_goals
      have F2 := HB6.out.trans (hb2.mono HB6.out.size)
      have F3 := F2.trans (hb3.mono F2.size)
      have F4 := F3.trans (hb4.mono F3.size)
      have FF : Mid w x y X p q ao bo n c m d p1 ao1 n1 c1 L M p4 ao4 n4 c4 ((w4.setCell ⟨w.heap.size + 1 + 1 + 1, 0, none⟩ (.bool p4)).setCell ⟨w.heap.size + 1 + 1 + 1, 1, none⟩ (.slice ao4 n4 c4)) :=
        ⟨((((D2'.later hb2).later hb3).later hb4).other (by omega) _ _), ((((D3.later hb2).later hb3).later hb4).other (by omega) _ _), ((((D4.later hb2).later hb3).later hb4).other (by omega) _ _), ((((D5'.later hb2).later hb3).later hb4).same _ _), ((((D6.later hb2).later hb3).later hb4).other (by omega) _ _),
          ((((G1.below hb2).below hb3).below hb4).store2 q1 q2 _ _), (hr4.store2 q1 q2 _ _), ((((U1.below hb2).below hb3).below hb4).store2 q1 q2 _ _), ((((V1.below hb2).below hb3).below hb4).store2 q1 q2 _ _), below_store2 F4 (by omega) _ _⟩
      go_wp2_with fail
      go_meet
      exact ⟨p4, ao4, n4, c4, FF⟩
  case rest =>
    obtain ⟨p4, ao4, n4, c4, H⟩ := hcut
    clear D2' D3 D4 D5' D6 G1 X1 U1 V1 HB6 z1 z2 z3 z4
    obtain ⟨t, ht⟩ := bez_key x y X s _ HQ.out
    have HT : Hid (((Nat.gcd x.natAbs y.natAbs : Nat) : Int) - x * (X * cmpI x 0) = y * t) := ht
    clear ht HQ hcs
    have lS : nl W32 (X * cmpI x 0).natAbs ≤ 302 := nlz_mul hXl hCl (by omega)
    have lx' : nl W32 x.natAbs ≤ 300 := hlx
    have lP : nl W32 (x * (X * cmpI x 0)).natAbs ≤ 602 := nlz_mul hlx lS (by omega)
    have lG : nl W32 ((Nat.gcd x.natAbs y.natAbs : Nat) : Int).natAbs ≤ 300 := by
      rw [Int.natAbs_natCast]
      exact gcd_nl _ _ _ hlx hly
    have lD : nl W32 (((Nat.gcd x.natAbs y.natAbs : Nat) : Int) - x * (X * cmpI x 0)).natAbs ≤ 650 := by
      rw [Int.sub_eq_add_neg]; exact nlz_add lG (nlz_neg lP) (by omega) (by omega)
    have hbd2 : Below wc.heap.size wc wc.drew := (Below.refl _ _).drew
    obtain ⟨v2, v3, v4, v5, v6, g1, s1, a1, b1, bel⟩ := H
    have F1 := bel.trans (hbd2.mono bel.size)
    have HF1 : Hid (Below w.heap.size w wc.drew) := F1
    replace v2 := v2.later hbd2
    replace v3 := v3.later hbd2
    replace v4 := v4.later hbd2
    replace v5 := v5.later hbd2
    replace v6 := v6.later hbd2
    replace g1 := g1.below hbd2
    replace s1 := s1.below hbd2
    replace a1 := a1.below hbd2
    replace b1 := b1.below hbd2
    clear F1 bel hbd2
    have v2' := v2
    have v3' := v3
    have v4' := v4
    have v5' := v5
    obtain ⟨i1, i2, _, _⟩ := v2'
    obtain ⟨i3, i4, _, _⟩ := v3'
    obtain ⟨i5, i6, _, _⟩ := v4'
    obtain ⟨i7, i8, _, _⟩ := v5'
    go_wp2
    go_region_held3 (fun w' => w'.cell? ⟨w.heap.size, 0, none⟩ = some (.bool p) ∧ w'.cell? ⟨w.heap.size, 1, none⟩ = some (.slice ao n c) ∧ w'.cell? ⟨w.heap.size + 1, 0, none⟩ = some (.bool q) ∧ w'.cell? ⟨w.heap.size + 1, 1, none⟩ = some (.slice bo m d) ∧ w'.cell? ⟨w.heap.size + 1 + 1, 0, none⟩ = some (.bool p1) ∧ w'.cell? ⟨w.heap.size + 1 + 1, 1, none⟩ = some (.slice ao1 n1 c1) ∧ w'.cell? ⟨w.heap.size + 1 + 1 + 1, 0, none⟩ = some (.bool p4) ∧ w'.cell? ⟨w.heap.size + 1 + 1 + 1, 1, none⟩ = some (.slice ao4 n4 c4)) (first | exact keep44 (by assumption) (by exact Nat.le_refl _) (by assumption) | exact ⟨i1, i2, i3, i4, i5, i6, i7, i8⟩ | exact put44 (by omega) (by omega) (by omega) (by omega) _ _ (by assumption) | go_keep) (first
      | (go_at_call 19; refine (wmul_any _ _ x (X * cmpI x 0) L 302 _ a1 (s1.at 302 lS) (by omega)).mono ?_; rintro e w5 ⟨r5, rfl, hr5, hb5⟩)
      | (go_at_call 23; refine (wsub_any _ _ _ _ 300 602 _ ((g1.below hb5).at 300 lG) (hr5.at 602 lP) (by omega) (by omega)).mono ?_; rintro e w6 ⟨r6, rfl, hr6, hb6⟩)
      | (go_at_call 22; refine (wdiv_ex _ _ _ y t 650 M _ (hr6.at 650 lD) ((b1.below hb5).below hb6) (by omega) HT.out).mono ?_; rintro e w7 ⟨q7, r7, k7, T, rfl, hq7, ⟨ρ, hr7⟩, hT, hTl, hb7⟩; obtain ⟨p7, ao7, n7, c7, rfl⟩ := hq7.open; obtain ⟨p8, ao8, n8, c8, rfl⟩ := hr7.open; obtain ⟨q1, q2, q3, q4⟩ := ((v6.later hb5).later hb6).later hb7))
    have F5 := HF1.out.trans (hb5.mono HF1.out.size)
    have F6 := F5.trans (hb6.mono F5.size)
    have F7 := F6.trans (hb7.mono F6.size)
    have K4 := (((v4.later hb5).later hb6).later hb7).other (R := w.heap.size + 1 + 1 + 1 + 1) (by omega) (.bool p7) (.slice ao7 n7 c7)
    have K5 := (((v5.later hb5).later hb6).later hb7).other (R := w.heap.size + 1 + 1 + 1 + 1) (by omega) (.bool p7) (.slice ao7 n7 c7)
    have K6 := (((v6.later hb5).later hb6).later hb7).same (.bool p7) (.slice ao7 n7 c7)
    have GG := (((g1.below hb5).below hb6).below hb7).store2 q1 q2 (.bool p7) (.slice ao7 n7 c7)
    have SS := (((s1.below hb5).below hb6).below hb7).store2 q1 q2 (.bool p7) (.slice ao7 n7 c7)
    have TT := hq7.store2 q1 q2 (.bool p7) (.slice ao7 n7 c7)
    have BF := below_store2 F7 (show w.heap.size ≤ w.heap.size + 1 + 1 + 1 + 1 by omega) (.bool p7) (.slice ao7 n7 c7)
    clear v2 v3 v4 v5 v6 g1 s1 a1 b1 i1 i2 i3 i4 i5 i6 i7 i8 hb5 hb6 hb7 F5 F6 F7 q1 q2 q3 q4 hr5 hr6 hq7 hr7
    generalize (w7.setCell ⟨w.heap.size + 1 + 1 + 1 + 1, 0, none⟩ (.bool p7)).setCell ⟨w.heap.size + 1 + 1 + 1 + 1, 1, none⟩ (.slice ao7 n7 c7) = W8 at *
    have K4' := K4
    have K5' := K5
    have K6' := K6
    obtain ⟨j1, j2, j3, j4⟩ := K4'
    obtain ⟨j5, j6, j7, j8⟩ := K5'
    obtain ⟨j9, j10, j11, j12⟩ := K6'
    have N5 := K5.other (R := w.heap.size + 1 + 1) (by omega) (.bool p1) (.slice ao1 n1 c1)
    have N6 := (K6.other (R := w.heap.size + 1 + 1) (by omega) (.bool p1) (.slice ao1 n1 c1)).other (R := w.heap.size + 1 + 1 + 1) (by omega) (.bool p4) (.slice ao4 n4 c4)
    have M4 := ((K4.same (.bool p1) (.slice ao1 n1 c1)).other (R := w.heap.size + 1 + 1 + 1) (by omega) (.bool p4) (.slice ao4 n4 c4)).other (R := w.heap.size + 1 + 1 + 1 + 1) (by omega) (.bool p7) (.slice ao7 n7 c7)
    have M5 := (N5.same (.bool p4) (.slice ao4 n4 c4)).other (R := w.heap.size + 1 + 1 + 1 + 1) (by omega) (.bool p7) (.slice ao7 n7 c7)
    have M6 := N6.same (.bool p7) (.slice ao7 n7 c7)
    have GF := ((GG.store2 j1 j2 (.bool p1) (.slice ao1 n1 c1)).store2 N5.1 N5.2.1 (.bool p4) (.slice ao4 n4 c4)).store2 N6.1 N6.2.1 (.bool p7) (.slice ao7 n7 c7)
    have SF := ((SS.store2 j1 j2 (.bool p1) (.slice ao1 n1 c1)).store2 N5.1 N5.2.1 (.bool p4) (.slice ao4 n4 c4)).store2 N6.1 N6.2.1 (.bool p7) (.slice ao7 n7 c7)
    have TF := ((TT.store2 j1 j2 (.bool p1) (.slice ao1 n1 c1)).store2 N5.1 N5.2.1 (.bool p4) (.slice ao4 n4 c4)).store2 N6.1 N6.2.1 (.bool p7) (.slice ao7 n7 c7)
    have BFF := below_store2 (below_store2 (below_store2 BF (show w.heap.size ≤ w.heap.size + 1 + 1 by omega) (.bool p1) (.slice ao1 n1 c1)) (show w.heap.size ≤ w.heap.size + 1 + 1 + 1 by omega) (.bool p4) (.slice ao4 n4 c4)) (show w.heap.size ≤ w.heap.size + 1 + 1 + 1 + 1 by omega) (.bool p7) (.slice ao7 n7 c7)
    clear BF GG SS TT N5 N6
    go_wp2
    go_region
    clear j1 j2 j3 j4 j5 j6 j7 j8 j9 j10 j11 j12 K4 K5 K6
    generalize (((((W8.setCell ⟨w.heap.size + 1 + 1, 0, none⟩ (.bool p1)).setCell ⟨w.heap.size + 1 + 1, 1, none⟩ (.slice ao1 n1 c1)).setCell ⟨w.heap.size + 1 + 1 + 1, 0, none⟩ (.bool p4)).setCell ⟨w.heap.size + 1 + 1 + 1, 1, none⟩ (.slice ao4 n4 c4)).setCell ⟨w.heap.size + 1 + 1 + 1 + 1, 0, none⟩ (.bool p7)).setCell ⟨w.heap.size + 1 + 1 + 1 + 1, 1, none⟩ (.slice ao7 n7 c7) = W9 at *
    have hbd9 : Below W9.heap.size W9 W9.drew := (Below.refl _ _).drew
    obtain ⟨m1, m2, _, _⟩ := M4.later hbd9
    obtain ⟨m3, m4, _, _⟩ := M5.later hbd9
    obtain ⟨m5, m6, _, _⟩ := M6.later hbd9
    go_wp2
    (try simp only [Exit.inBlock, Exit.then])
    refine bodyPost_ret (v := .tuple #[.agg #[.bool p1, .slice ao1 n1 c1], .agg #[.bool p4, .slice ao4 n4 c4], .agg #[.bool p7, .slice ao7 n7 c7]]) (by simp [results, go_sem, m1, m2, m3, m4, m5, m6]) rfl ?_
    refine ⟨_, _, _, X * cmpI x 0, T, rfl, GF.below hbd9, SF.below hbd9, TF.below hbd9, by rw [hT]; omega, Nat.le_trans lS (by omega), ?_, BFF.trans (hbd9.mono BFF.size)⟩
    exact Nat.le_trans (nl_mono W32 _ _ (by decide) hTl) (Nat.le_trans lD (by omega))

end Go.Proofs.YtjfacmeeplalkaaDoor
