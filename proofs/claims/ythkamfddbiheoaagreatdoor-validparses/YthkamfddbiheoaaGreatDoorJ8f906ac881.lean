/-
  Texts of mine.
-/
import Derived.Test.YthkamfddbiheoaaGreatDoorJ9234c90dcd
import Derived.Test.YthkamfddbiheoaaGreatDoorJ2e93cf4a51
import Derived.Test.YthkamfddbiheoaaGreatDoorJe27aa32d0c
import Derived.Test.YthkamfddbiheoaaGreatDoorJa607d653bf
import Derived.Test.YthkamfddbiheoaaGreatDoorJ5b90dc4bf1
import Derived.Deep.Cut
import Derived.Test.YthkamfddbiheoaaGreatDoorJ839713949f
namespace Go.Proofs.YthkamfddbiheoaaGreatDoor
open Go.RowKit
set_option linter.unusedVariables false

/-- The value v is limbs, at most L, of the number x. -/
def NatAt (w : World) (v : Value) (x L : Nat) : Prop := ∃ n f, Nums .u64 w v n f ∧ U64 n f ∧ x = num f n ∧ n ≤ L
theorem NatAt.below {w w' : World} {v : Value} {x L : Nat} (h : NatAt w v x L) (hb : Below w.heap.size w w') : NatAt w' v x L := by
 obtain ⟨n, f, h1, h2⟩ := h; exact ⟨n, f, h1.below hb, h2⟩
theorem NatAt.keep {w w' : World} {v : Value} {x L : Nat} (h : NatAt w v x L) (hk : KeepQ IsNum w w') : NatAt w' v x L := by
 obtain ⟨n, f, h1, h2⟩ := h; exact ⟨n, f, h1.keep hk, h2⟩
theorem NatAt.nl {w : World} {v : Value} {x L : Nat} (h : NatAt w v x L) : nl W32 x ≤ L := by
 obtain ⟨n, f, _, _, rfl, hn⟩ := h
 exact Nat.le_trans (nl_le W32 _ n (by decide) (num_lt f n)) hn
theorem NatAt.open {w : World} {v : Value} {x L : Nat} (h : NatAt w v x L) : ∃ ao n c, v = .slice ao n c := by
 obtain ⟨n, f, ⟨ao, c, e, _⟩, _⟩ := h; exact ⟨ao, n, c, e⟩
theorem NatAt.le {w : World} {v : Value} {x L M : Nat} (h : NatAt w v x L) (hM : L ≤ M) : NatAt w v x M := by
 obtain ⟨n, f, h1, h2, h3, h4⟩ := h; exact ⟨n, f, h1, h2, h3, by omega⟩
theorem IntAt.le {w : World} {v : Value} {z : Int} {L M : Nat} (h : IntAt w v z L) (hM : L ≤ M) : IntAt w v z M := by
 obtain ⟨neg, ao, n, c, f, h1, h2, h3, h4, h5⟩ := h; exact ⟨neg, ao, n, c, f, h1, h2, h3, h4, by omega⟩
theorem Rep.at {w : World} {v : Value} {x : Nat} (h : Rep w v x) (L : Nat) (hL : nl W32 x ≤ L) : NatAt w v x L := ⟨_, _, h, u64_dg _ _, (num_nl x).symm, hL⟩
theorem Rep.open {w : World} {v : Value} {x : Nat} (h : Rep w v x) : ∃ ao n c, v = .slice ao n c := by
 obtain ⟨ao, c, e, _⟩ := h; exact ⟨ao, _, c, e⟩
theorem IntAt.abs {w : World} {p : Bool} {ao : Option Addr} {n c : Nat} {z : Int} {L : Nat} (h : IntAt w (.agg #[.bool p, .slice ao n c]) z L) : NatAt w (.slice ao n c) z.natAbs L := by
 obtain ⟨neg, ao', n', c', f, e, h2, h3, rfl, h5⟩ := h
 simp only [Value.agg.injEq, Array.mk.injEq, List.cons.injEq, Value.slice.injEq, and_true] at e
 obtain ⟨_, rfl, rfl, rfl⟩ := e
 exact ⟨_, f, h2, h3, (zof_abs _ _), h5⟩
theorem IntAt.mk {w : World} {p : Bool} {ao : Option Addr} {n c : Nat} {x : Nat} {L : Nat} (h : NatAt w (.slice ao n c) x L) : IntAt w (.agg #[.bool p, .slice ao n c]) (zof p x) L := by
 obtain ⟨n', f, h1, h2, rfl, h4⟩ := h
 have e : n' = n := by obtain ⟨ao', c', e, _⟩ := h1; simp only [Value.slice.injEq] at e; exact e.2.1.symm
 subst e
 exact ⟨p, ao, n', c, f, rfl, h1, h2, rfl, h4⟩
theorem IntAt.bool {w : World} {p : Bool} {ao : Option Addr} {n c : Nat} {z : Int} {L : Nat} (h : IntAt w (.agg #[.bool p, .slice ao n c]) z L) : z = zof p z.natAbs := by
 obtain ⟨neg, ao', n', c', f, e, _, _, rfl, _⟩ := h
 simp only [Value.agg.injEq, Array.mk.injEq, List.cons.injEq, Value.bool.injEq] at e
 rw [zof_abs, e.1]

/-- The value v is parts, of at most L limbs each, of the number q; a divisor 0 makes it 0. -/
def RatAt (w : World) (v : Value) (q : Rat) (L : Nat) : Prop :=
 ∃ p ao n c bo m d z x, v = .agg #[.bool p, .slice ao n c, .slice bo m d] ∧ IntAt w (.agg #[.bool p, .slice ao n c]) z L ∧ NatAt w (.slice bo m d) x L ∧ q = mkRat z x
theorem RatAt.below {w w' : World} {v : Value} {q : Rat} {L : Nat} (h : RatAt w v q L) (hb : Below w.heap.size w w') : RatAt w' v q L := by
 obtain ⟨p, ao, n, c, bo, m, d, z, x, h1, h2, h3, h4⟩ := h
 exact ⟨p, ao, n, c, bo, m, d, z, x, h1, h2.below hb, h3.below hb, h4⟩
theorem RatAt.keep {w w' : World} {v : Value} {q : Rat} {L : Nat} (h : RatAt w v q L) (hk : KeepQ IsNum w w') : RatAt w' v q L := by
 obtain ⟨p, ao, n, c, bo, m, d, z, x, h1, h2, h3, h4⟩ := h
 exact ⟨p, ao, n, c, bo, m, d, z, x, h1, h2.keep hk, h3.keep hk, h4⟩
theorem RatAt.le {w : World} {v : Value} {q : Rat} {L M : Nat} (h : RatAt w v q L) (hM : L ≤ M) : RatAt w v q M := by
 obtain ⟨p, ao, n, c, bo, m, d, z, x, h1, h2, h3, h4⟩ := h
 exact ⟨p, ao, n, c, bo, m, d, z, x, h1, h2.le hM, h3.le hM, h4⟩
theorem RatAt.open {w : World} {v : Value} {q : Rat} {L : Nat} (h : RatAt w v q L) : ∃ p ao n c bo m d, v = .agg #[.bool p, .slice ao n c, .slice bo m d] := by
 obtain ⟨p, ao, n, c, bo, m, d, z, x, h1, _⟩ := h
 exact ⟨p, ao, n, c, bo, m, d, h1⟩
theorem RatAt.parts {w : World} {p : Bool} {ao : Option Addr} {n c : Nat} {bo : Option Addr} {m d : Nat} {q : Rat} {L : Nat} (h : RatAt w (.agg #[.bool p, .slice ao n c, .slice bo m d]) q L) :
  ∃ z x, IntAt w (.agg #[.bool p, .slice ao n c]) z L ∧ NatAt w (.slice bo m d) x L ∧ q = mkRat z x := by
 obtain ⟨p', ao', n', c', bo', m', d', z, x, e, h2, h3, h4⟩ := h
 simp only [Value.agg.injEq, Array.mk.injEq, List.cons.injEq, Value.bool.injEq, Value.slice.injEq, and_true] at e
 obtain ⟨rfl, ⟨rfl, rfl, rfl⟩, rfl, rfl, rfl⟩ := e
 exact ⟨z, x, h2, h3, h4⟩
theorem RatAt.mk {w : World} {p : Bool} {ao : Option Addr} {n c : Nat} {bo : Option Addr} {m d : Nat} {z : Int} {x L : Nat} (h1 : IntAt w (.agg #[.bool p, .slice ao n c]) z L) (h2 : NatAt w (.slice bo m d) x L) : RatAt w (.agg #[.bool p, .slice ao n c, .slice bo m d]) (mkRat z x) L :=
 ⟨p, ao, n, c, bo, m, d, z, x, rfl, h1, h2, rfl⟩

/-- How many limbs the longer part has. -/
def qsz (q : Rat) : Nat := max (nl W32 q.num.natAbs) (nl W32 q.den)
/-- The value v is the number q in its one form. -/
def RepQ (w : World) (v : Value) (q : Rat) : Prop :=
 ∃ p ao n c bo m d, v = .agg #[.bool p, .slice ao n c, .slice bo m d] ∧ RepI w (.agg #[.bool p, .slice ao n c]) q.num ∧ Rep w (.slice bo m d) q.den
theorem RepQ.below {w w' : World} {v : Value} {q : Rat} (h : RepQ w v q) (hb : Below w.heap.size w w') : RepQ w' v q := by
 obtain ⟨p, ao, n, c, bo, m, d, h1, h2, h3⟩ := h
 exact ⟨p, ao, n, c, bo, m, d, h1, h2.below hb, h3.below hb⟩
theorem RepQ.keep {w w' : World} {v : Value} {q : Rat} (h : RepQ w v q) (hk : KeepQ IsNum w w') : RepQ w' v q := by
 obtain ⟨p, ao, n, c, bo, m, d, h1, h2, h3⟩ := h
 exact ⟨p, ao, n, c, bo, m, d, h1, h2.keep hk, h3.keep hk⟩
theorem RepQ.open {w : World} {v : Value} {q : Rat} (h : RepQ w v q) : ∃ p ao n c bo m d, v = .agg #[.bool p, .slice ao n c, .slice bo m d] := by
 obtain ⟨p, ao, n, c, bo, m, d, h1, _⟩ := h
 exact ⟨p, ao, n, c, bo, m, d, h1⟩
theorem RepQ.mk {w : World} {p : Bool} {ao : Option Addr} {n c : Nat} {bo : Option Addr} {m d : Nat} {q : Rat} (h1 : RepI w (.agg #[.bool p, .slice ao n c]) q.num) (h2 : Rep w (.slice bo m d) q.den) : RepQ w (.agg #[.bool p, .slice ao n c, .slice bo m d]) q :=
 ⟨p, ao, n, c, bo, m, d, rfl, h1, h2⟩
theorem RepQ.parts {w : World} {p : Bool} {ao : Option Addr} {n c : Nat} {bo : Option Addr} {m d : Nat} {q : Rat} (h : RepQ w (.agg #[.bool p, .slice ao n c, .slice bo m d]) q) :
  RepI w (.agg #[.bool p, .slice ao n c]) q.num ∧ Rep w (.slice bo m d) q.den := by
 obtain ⟨p', ao', n', c', bo', m', d', e, h2, h3⟩ := h
 simp only [Value.agg.injEq, Array.mk.injEq, List.cons.injEq, Value.bool.injEq, Value.slice.injEq, and_true] at e
 obtain ⟨rfl, ⟨rfl, rfl, rfl⟩, rfl, rfl, rfl⟩ := e
 exact ⟨h2, h3⟩
theorem RepQ.at {w : World} {v : Value} {q : Rat} (h : RepQ w v q) (L : Nat) (hL : qsz q ≤ L) : RatAt w v q L := by
 obtain ⟨p, ao, n, c, bo, m, d, h1, h2, h3⟩ := h
 unfold qsz at hL
 exact ⟨p, ao, n, c, bo, m, d, q.num, q.den, h1, h2.at L (by omega), h3.at L (by omega), (Rat.mkRat_self q).symm⟩
/-- Nothing: the zero value. -/
theorem RatAt.nil (w : World) (L : Nat) : RatAt w (.agg #[.bool false, .slice none 0 0, .slice none 0 0]) 0 L := by
 have h0 : NatAt w (.slice none 0 0) 0 L := ⟨0, fun _ => 0, Nums.nil _ _ _, fun i hi => by omega, rfl, by omega⟩
 have h1 : IntAt w (.agg #[.bool false, .slice none 0 0]) 0 L := IntAt.mk h0
 have := RatAt.mk h1 h0
 simpa using this

/-- The form of a fraction. -/
theorem mkRat_low (z : Int) (x : Nat) (hx : 0 < x) : (mkRat z x).num = z.fdiv ((Nat.gcd z.natAbs x : Nat) : Int) ∧ (mkRat z x).den = x / Nat.gcd z.natAbs x := by
 rw [Rat.num_mkRat, Rat.den_mkRat, if_neg (by omega), if_neg (by omega), Nat.gcd_comm x]
 refine ⟨?_, rfl⟩
 have hg : 0 < Nat.gcd z.natAbs x := Nat.gcd_pos_of_pos_right _ hx
 rw [Int.fdiv_eq_ediv_of_nonneg _ (by omega)]
theorem nl_num_mkRat (z : Int) (x L : Nat) (h1 : nl W32 z.natAbs ≤ L) (h2 : nl W32 x ≤ L) (hL : 1 ≤ L) : qsz (mkRat z x) ≤ L := by
 unfold qsz
 have hn : (mkRat z x).num.natAbs ≤ z.natAbs := by
  rw [Rat.num_mkRat]
  split
  ·simp
  ·exact Int.natAbs_ediv_le_natAbs _ _
 have hd : (mkRat z x).den ≤ max 1 x := by
  rw [Rat.den_mkRat]
  split
  ·omega
  ·exact Nat.le_trans (Nat.div_le_self _ _) (Nat.le_max_right _ _)
 have e1 := Nat.le_trans (nl_mono W32 _ _ (by decide) hn) h1
 have e2 := nl_mono W32 _ _ (by decide) hd
 have e3 : nl W32 (max 1 x) ≤ L := by
  rcases Nat.le_total 1 x with h | h
  ·rw [Nat.max_eq_right h]; exact h2
  ·rw [Nat.max_eq_left h]; exact Nat.le_trans (nl_small7 1 (by omega)) hL
 omega
theorem RatAt.qsz {w : World} {v : Value} {q : Rat} {L : Nat} (h : RatAt w v q L) (hL : 1 ≤ L) : qsz q ≤ L := by
 obtain ⟨p, ao, n, c, bo, m, d, z, x, h1, h2, h3, rfl⟩ := h
 exact nl_num_mkRat z x L h2.nl h3.nl hL

-- nat's functions, of any limbs
theorem ngcd_at (u v : Value) (x y L M : Nat) (w : World) (hu : NatAt w u x L) (hv : NatAt w v y M) (hL : L ≤ 900000) (hM : M ≤ 900000) (ht : Tab w) :
  Calls Tryz.prog 80 #[u, v] w fun e w' => ∃ r, e = .returned r ∧ Rep w' r (Nat.gcd x y) ∧ Below w.heap.size w w' := by
 have hx := hu.nl
 have hy := hv.nl
 obtain ⟨n, f, h1, h2, rfl, h4⟩ := hu
 obtain ⟨m, g, k1, k2, rfl, k4⟩ := hv
 exact gcd_any u v n m f g w h1 k1 h2 k2 (by omega) (by omega) ht
theorem ndiv_at (u v : Value) (x y L M : Nat) (w : World) (hu : NatAt w u x L) (hv : NatAt w v y M) (hL : L ≤ 999999) (hy : 0 < y) :
  Calls Tryz.prog 82 #[u, v] w fun e w' => ∃ q r, e = .returned (.tuple #[q, r, .int .i64 0]) ∧ Rep w' q (x / y) ∧ Rep w' r (x % y) ∧ Below w.heap.size w w' := by
 have hx := hu.nl
 obtain ⟨n, f, h1, h2, rfl, h4⟩ := hu
 obtain ⟨m, g, k1, k2, rfl, k4⟩ := hv
 refine (divMod_of u v n m f g w h1 k1 h2 k2 (by omega) (divide_any _ _ hy (by omega))).mono ?_
 rintro e w1 ⟨q, r, rfl, hq, hr, hb⟩
 exact ⟨q, r, rfl, hq.rep, hr.rep, hb⟩
theorem nmul_at (u v : Value) (x y L M : Nat) (w : World) (hu : NatAt w u x L) (hv : NatAt w v y M) (hLM : L + M ≤ 400000) :
  Calls Tryz.prog 100 #[u, v] w fun e w' => ∃ r, e = .returned r ∧ Rep w' r (x * y) ∧ Below w.heap.size w w' := by
 obtain ⟨n, f, h1, h2, rfl, h4⟩ := hu
 obtain ⟨m, g, k1, k2, rfl, k4⟩ := hv
 refine (mul_wide u v n m f g w h1 k1 h2 k2 (by omega)).mono ?_
 rintro e w1 ⟨r, rfl, hr, hb⟩
 exact ⟨r, rfl, hr.nums, hb⟩
theorem nadd_at (u v : Value) (x y L M : Nat) (w : World) (hu : NatAt w u x L) (hv : NatAt w v y M) (hL : L ≤ 999999) (hM : M ≤ 999999) :
  Calls Tryz.prog 140 #[u, v] w fun e w' => ∃ r, e = .returned r ∧ Rep w' r (x + y) ∧ Below w.heap.size w w' := by
 obtain ⟨n, f, h1, h2, rfl, h4⟩ := hu
 obtain ⟨m, g, k1, k2, rfl, k4⟩ := hv
 refine (add_any u v n m f g w h1 k1 h2 k2 (by omega) (by omega)).mono ?_
 rintro e w1 ⟨r, rfl, hr, hb⟩
 exact ⟨r, rfl, hr.rep, hb⟩

end Go.Proofs.YthkamfddbiheoaaGreatDoor

namespace Go.Proofs.YthkamfddbiheoaaGreatDoor
open Go.RowKit
set_option linter.unusedVariables false
set_option linter.unusedSimpArgs false

theorem nzero_at (v : Value) (x L : Nat) (w : World) (hv : NatAt w v x L) : Calls Tryz.prog 83 #[v] w fun e w' => e = .returned (.bool (decide (x = 0))) ∧ w' = w := by
 obtain ⟨n, f, h1, h2, rfl, _⟩ := hv
 have h := zero_any v n f w h1 h2
 rw [num_sz, decide_eq_decide.2 (nl_eq_zero W32 _ (by decide))] at h
 exact h
theorem ncmp_at (u v : Value) (x y L M : Nat) (w : World) (hu : NatAt w u x L) (hv : NatAt w v y M) : Calls Tryz.prog 97 #[u, v] w fun e w' => e = .returned (.int .i64 (cmpI x y)) ∧ Below w.heap.size w w' := by
 obtain ⟨n, f, h1, h2, rfl, _⟩ := hu
 obtain ⟨m, g, k1, k2, rfl, _⟩ := hv
 exact cmp_any u v n m f g w h1 k1 h2 k2
theorem nof_at (k : Nat) (w : World) (hk : k < 18446744073709551616) : Calls Tryz.prog 84 #[.int .u64 (k : Int)] w fun e w' => ∃ r, e = .returned r ∧ Rep w' r k ∧ Below w.heap.size w w' := by
 refine (of_any (k : Int) w (by omega) (by omega)).mono ?_
 rintro e w1 ⟨r, rfl, hr, hb⟩
 rw [Int.toNat_natCast] at hr
 exact ⟨r, rfl, hr.nums, hb⟩
theorem nlw_one : nl W32 1 ≤ 1 := nl_small7 1 (by omega)
set_option maxRecDepth 20000 in
set_option maxHeartbeats 1000000 in
theorem times_at (u v : Value) (z : Int) (x L M : Nat) (w : World) (hu : IntAt w u z L) (hv : NatAt w v x M) (hLM : L + M ≤ 400000) :
  Calls Tryz.prog 99 #[u, v] w fun e w' => ∃ r, e = .returned r ∧ RepI w' r (z * (x : Int)) ∧ Below w.heap.size w w' := by
 obtain ⟨p, ao, n, c, rfl⟩ := hu.open
 obtain ⟨bo, m, d, rfl⟩ := hv.open
 have BB : Below w.heap.size w w := Below.refl _ _
 obtain ⟨Wb0, hW0, hS0, hL0, VA⟩ := V2.lay w 42 (.bool p) (.slice ao n c)
 replace hu := hu.below hL0
 replace hv := hv.below hL0
 replace BB := BB.trans (hL0.mono BB.size)
 clear hL0
 obtain ⟨Wb1, hW1, hS1, hL1, VR⟩ := V2.lay Wb0 42 (.bool false) (.slice none 0 0)
 rw [hS0] at VR hS1
 replace hu := hu.below hL1
 replace hv := hv.below hL1
 replace VA := VA.below hL1
 replace BB := BB.trans (hL1.mono BB.size)
 clear hL1
 go_enter Tryz.func99, Tryz.ntmps99
 go_wp2_with fail
 rw [← hW0]
 rw [← hW1]
 clear hW0 hW1 hS0 hS1
 refine (wmul_any _ _ _ _ _ _ _ hu (IntAt.mk (p := false) hv) hLM).mono ?_
 rintro e w1 ⟨r, rfl, hr, b1⟩
 replace hu := hu.below b1
 replace hv := hv.below b1
 replace VA := VA.below b1
 replace VR := VR.below b1
 replace BB := BB.trans (b1.mono BB.size)
 clear b1
 obtain ⟨pr, ar, nr, cr, rfl⟩ := hr.open
 rw [zof_false] at hr
 have hKp := VR.keepJ (.bool pr) (.slice ar nr cr)
 have hu_n := hu.keep hKp
 have hv_n := hv.keep hKp
 have hr_n := hr.keep hKp
 have BB_n := below_store2 (R := w.heap.size + 1) BB (by omega) (.bool pr) (.slice ar nr cr)
 clear hKp
 obtain ⟨q1, q2, q3, q4⟩ := id VR
 go_wp2
 (try simp only [Exit.inBlock, Exit.then])
 refine bodyPost_ret (v := .agg #[.bool pr, .slice ar nr cr]) (by simp [results, go_sem, q1, q2]) rfl ?_
 exact ⟨_, rfl, hr_n, BB_n⟩


theorem RepI.abs {w : World} {p : Bool} {ao : Option Addr} {n c : Nat} {z : Int} (h : RepI w (.agg #[.bool p, .slice ao n c]) z) : Rep w (.slice ao n c) z.natAbs := by
 obtain ⟨ao', c', e, hd⟩ := h
 simp only [Value.agg.injEq, Array.mk.injEq, List.cons.injEq, Value.slice.injEq, and_true] at e
 obtain ⟨_, rfl, rfl, rfl⟩ := e
 exact hd


set_option maxRecDepth 20000 in
set_option maxHeartbeats 1000000 in
theorem divide_at (u v : Value) (z : Int) (x L M : Nat) (w : World) (hu : IntAt w u z L) (hv : NatAt w v x M) (hL : L ≤ 999998) (hx : 0 < x) :
  Calls Tryz.prog 81 #[u, v] w fun e w' => ∃ r s, e = .returned (.tuple #[r, s]) ∧ RepI w' r (z.fdiv (x : Int)) ∧ Rep w' s (z.fmod (x : Int)).natAbs ∧ Below w.heap.size w w' := by
 obtain ⟨p, ao, n, c, rfl⟩ := hu.open
 obtain ⟨bo, m, d, rfl⟩ := hv.open
 have BB : Below w.heap.size w w := Below.refl _ _
 obtain ⟨Wb0, hW0, hS0, hL0, VA⟩ := V2.lay w 42 (.bool p) (.slice ao n c)
 replace hu := hu.below hL0
 replace hv := hv.below hL0
 replace BB := BB.trans (hL0.mono BB.size)
 clear hL0
 obtain ⟨Wb1, hW1, hS1, hL1, VR⟩ := V2.lay Wb0 42 (.bool false) (.slice none 0 0)
 rw [hS0] at VR hS1
 replace hu := hu.below hL1
 replace hv := hv.below hL1
 replace VA := VA.below hL1
 replace BB := BB.trans (hL1.mono BB.size)
 clear hL1
 go_enter Tryz.func81, Tryz.ntmps81
 go_wp2_with fail
 rw [← hW0]
 rw [← hW1]
 clear hW0 hW1 hS0 hS1
 refine (wdivMod_any _ _ _ ((zof false x : Int)) _ _ _ hu (IntAt.mk (p := false) hv) hL (by rw [zof_false]; omega)).mono ?_
 rintro e w1 ⟨vq, vr, rfl, hq, hr, b1⟩
 replace hu := hu.below b1
 replace hv := hv.below b1
 replace VA := VA.below b1
 replace VR := VR.below b1
 replace BB := BB.trans (b1.mono BB.size)
 clear b1
 rw [zof_false] at hq hr
 obtain ⟨pq, aq, nq, cq, rfl⟩ := hq.open
 obtain ⟨pr, ar, nr, cr, rfl⟩ := hr.open
 have hZ1 : w.heap.size ≤ w1.heap.size := BB.size
 have hN1VA : w.heap.size < w1.heap.size := VA.lt
 have hN1VR : w.heap.size + 1 < w1.heap.size := VR.lt
 obtain ⟨W2, hW2, hS2, hL2, VQ⟩ := V2.lay w1 42 (.bool pq) (.slice aq nq cq)
 replace hu := hu.below hL2
 replace hv := hv.below hL2
 replace hq := hq.below hL2
 replace hr := hr.below hL2
 replace VA := VA.below hL2
 replace VR := VR.below hL2
 replace BB := BB.trans (hL2.mono BB.size)
 clear hL2
 obtain ⟨W3, hW3, hS3, hL3, VS⟩ := V2.lay W2 42 (.bool pr) (.slice ar nr cr)
 replace hu := hu.below hL3
 replace hv := hv.below hL3
 replace hq := hq.below hL3
 replace hr := hr.below hL3
 replace VA := VA.below hL3
 replace VR := VR.below hL3
 replace VQ := VQ.below hL3
 replace BB := BB.trans (hL3.mono BB.size)
 clear hL3
 rw [hS2] at VS
 go_wp2
 rw [← hW2]
 rw [← hW3]
 generalize w1.heap.size = R1 at *
 clear hW2 hS2 hW3 hS3
 have hDr : Below W3.heap.size W3 W3.drew := (Below.refl _ _).drew
 replace hu := hu.below hDr
 replace hv := hv.below hDr
 replace hq := hq.below hDr
 replace hr := hr.below hDr
 replace VA := VA.below hDr
 replace VR := VR.below hDr
 replace VQ := VQ.below hDr
 replace VS := VS.below hDr
 replace BB := BB.trans (hDr.mono BB.size)
 clear hDr
 refine wp_region_held_drew (S := (fun w' => w'.cell? ⟨R1, 0, none⟩ = some (.bool pq) ∧ w'.cell? ⟨R1, 1, none⟩ = some (.slice aq nq cq) ∧ w'.cell? ⟨R1 + 1, 0, none⟩ = some (.bool pr) ∧ w'.cell? ⟨R1 + 1, 1, none⟩ = some (.slice ar nr cr))) (by kernel_rfl) ?_ (fun hHeld => ?_)
 ·exact ⟨VQ.1, VQ.2.1, VS.1, VS.2.1⟩
 generalize W3.drew = W4 at *
 refine wpAnyH_take (i := 0) (v := ?_) (by simp only [xL1, xL2, xL3]; rfl) (by kernel_rfl) (by kernel_rfl) (by kernel_rfl) (by exact fun _ _ _ h => h) (Or.inl ⟨by rfl, ?_⟩) (by assumption) ?_
 rotate_left
 ·(intro w hSw; (try dsimp only at hSw); go_simp; (try with_reducible rfl))
 (try simp only [Act.put, xL4, xL5, xL6])
 refine wpAnyH_take (i := 1) (v := ?_) (by simp only [xL1, xL2, xL3]; rfl) (by kernel_rfl) (by kernel_rfl) (by kernel_rfl) (by exact fun _ _ _ h => h) (Or.inl ⟨by rfl, ?_⟩) (by assumption) ?_
 rotate_left
 ·(intro w hSw; (try dsimp only at hSw); go_simp; (try with_reducible rfl))
 (try simp only [Act.put, xL4, xL5, xL6])
 refine wpAnyH_take (i := 2) (v := ?_) (by simp only [xL1, xL2, xL3]; rfl) (by kernel_rfl) (by kernel_rfl) (by kernel_rfl) (by exact fun _ _ _ h => h) (Or.inl ⟨by rfl, ?_⟩) (by assumption) ?_
 rotate_left
 ·(intro w hSw; (try dsimp only at hSw); go_simp; (try with_reducible rfl))
 (try simp only [Act.put, xL4, xL5, xL6])
 refine wpAnyH_ready (rs := [3]) (by kernel_rfl) (by simp) ?_
 refine AllReadyH.cons (by simp only [xL1, xL2, xL3]; rfl) (fun K hK => ?_) AllReadyH.nil
 have hKp := VR.keepJ (.bool pq) (.slice aq nq cq)
 have VA_n := VA.other (R := w.heap.size + 1) (by omega) (.bool pq) (.slice aq nq cq)
 have VQ_n := VQ.other (R := w.heap.size + 1) (by omega) (.bool pq) (.slice aq nq cq)
 have VS_n := VS.other (R := w.heap.size + 1) (by omega) (.bool pq) (.slice aq nq cq)
 have VR_n := VR.same (.bool pq) (.slice aq nq cq)
 have hu_n := hu.keep hKp
 have hv_n := hv.keep hKp
 have hq_n := hq.keep hKp
 have hr_n := hr.keep hKp
 have BB_n := below_store2 (R := w.heap.size + 1) BB (by omega) (.bool pq) (.slice aq nq cq)
 clear hKp
 obtain ⟨VR_0, VR_1, VR_2, VR_3⟩ := id VR
 go_simp
 clear VR_0 VR_1 VR_2 VR_3
 clear BB hu hv hq hr VA VR VQ VS
 generalize (W4.setCell ⟨w.heap.size + 1, 0, none⟩ (.bool pq)).setCell ⟨w.heap.size + 1, 1, none⟩ (.slice aq nq cq) = W5 at *
 have BB := BB_n
 have hu := hu_n
 have hv := hv_n
 have hq := hq_n
 have hr := hr_n
 have VA := VA_n
 have VR := VR_n
 have VQ := VQ_n
 have VS := VS_n
 clear BB_n hu_n hv_n hq_n hr_n VA_n VR_n VQ_n VS_n
 refine hK.out _ _ ?_ (fun hH1 => ?_)
 ·exact ⟨VQ.1, VQ.2.1, VS.1, VS.2.1⟩
 clear hK K hHeld
 (try simp only [Act.put, xL4, xL5, xL6])
 refine wpAnyH_take (i := 4) (v := ?_) (by simp only [xL1, xL2, xL3]; rfl) (by kernel_rfl) (by kernel_rfl) (by kernel_rfl) (by exact fun _ _ _ h => h) (Or.inl ⟨by rfl, ?_⟩) (by assumption) ?_
 rotate_left
 ·(intro w hSw; (try dsimp only at hSw); go_simp; (try with_reducible rfl))
 (try simp only [Act.put, xL4, xL5, xL6])
 refine wpAnyH_done (by kernel_rfl) ?_ _
 clear hH1
 obtain ⟨q1, q2, q3, q4⟩ := id VR
 go_wp2
 (try simp only [Exit.inBlock, Exit.then])
 refine bodyPost_ret (v := .tuple #[.agg #[.bool pq, .slice aq nq cq], .slice ar nr cr]) (by simp [results, go_sem, q1, q2]) rfl ?_
 exact ⟨_, _, rfl, hq, hr.abs, BB⟩


set_option maxRecDepth 20000 in
set_option maxHeartbeats 2000000 in
theorem lowest_at (u v : Value) (z : Int) (x L M : Nat) (w : World) (hu : IntAt w u z L) (hv : NatAt w v x M) (hL : L ≤ 900000) (hM : M ≤ 900000) (hx : 0 < x) (ht : Tab w) :
  Calls Tryz.prog 50 #[u, v] w fun e w' => ∃ r, e = .returned r ∧ RepQ w' r (mkRat z x) ∧ Below w.heap.size w w' := by
 obtain ⟨p, ao, n, c, rfl⟩ := hu.open
 obtain ⟨bo, m, d, rfl⟩ := hv.open
 have hgp : 0 < Nat.gcd z.natAbs x := Nat.gcd_pos_of_pos_right _ hx
 have hgl : nl W32 (Nat.gcd z.natAbs x) ≤ M := Nat.le_trans (nl_mono W32 _ _ (by decide) (Nat.gcd_le_right _ hx)) hv.nl
 have HQ : Hid ((mkRat z x).num = z.fdiv ((Nat.gcd z.natAbs x : Nat) : Int) ∧ (mkRat z x).den = x / Nat.gcd z.natAbs x) := mkRat_low z x hx
 have BB : Below w.heap.size w w := Below.refl _ _
 obtain ⟨Wb0, hW0, hS0, hL0, VA⟩ := V2.lay w 42 (.bool p) (.slice ao n c)
 replace hu := hu.below hL0
 replace hv := hv.below hL0
 replace ht := ht.below hL0
 replace BB := BB.trans (hL0.mono BB.size)
 clear hL0
 obtain ⟨Wb1, hW1, hS1, hL1, VR⟩ := V3.lay Wb0 44 (.bool false) (.slice none 0 0) (.slice none 0 0)
 rw [hS0] at VR hS1
 replace hu := hu.below hL1
 replace hv := hv.below hL1
 replace ht := ht.below hL1
 replace VA := VA.below hL1
 replace BB := BB.trans (hL1.mono BB.size)
 clear hL1
 go_enter Tryz.func50, Tryz.ntmps50
 go_wp2_with fail
 rw [← hW0]
 rw [← hW1]
 clear hW0 hW1 hS0 hS1
 refine (ngcd_at _ _ _ _ _ _ _ hu.abs hv (by omega) (by omega) ht).mono ?_
 rintro e w1 ⟨g, rfl, hg, b1⟩
 replace hu := hu.below b1
 replace hv := hv.below b1
 replace ht := ht.below b1
 replace VA := VA.below b1
 replace VR := VR.below b1
 replace BB := BB.trans (b1.mono BB.size)
 clear b1
 generalize Nat.gcd z.natAbs x = G at *
 obtain ⟨VA_0, VA_1, VA_2, VA_3⟩ := id VA
 go_wp2_with fail
 clear VA_0 VA_1 VA_2 VA_3
 refine (divide_at _ _ _ _ _ M _ hu (hg.at M hgl) (by omega) hgp).mono ?_
 rintro e w2 ⟨vn, vs, rfl, hn, hs, b2⟩
 replace hu := hu.below b2
 replace hv := hv.below b2
 replace ht := ht.below b2
 replace hg := hg.below b2
 replace VA := VA.below b2
 replace VR := VR.below b2
 replace BB := BB.trans (b2.mono BB.size)
 clear b2
 obtain ⟨pn, an, nn, cn, rfl⟩ := hn.open
 obtain ⟨av, ns, cs, rfl⟩ := hs.open
 have hZ1 : w.heap.size ≤ w2.heap.size := BB.size
 have hN1VA : w.heap.size ≠ w2.heap.size := Nat.ne_of_lt VA.lt
 have hN1VR : w.heap.size + 1 ≠ w2.heap.size := Nat.ne_of_lt VR.lt
 obtain ⟨W1, hW1, hS1, hL1, VN⟩ := V2.lay w2 42 (.bool pn) (.slice an nn cn)
 replace hu := hu.below hL1
 replace hv := hv.below hL1
 replace ht := ht.below hL1
 replace hg := hg.below hL1
 replace hn := hn.below hL1
 replace hs := hs.below hL1
 replace VA := VA.below hL1
 replace VR := VR.below hL1
 replace BB := BB.trans (hL1.mono BB.size)
 clear hL1
 go_wp2_with fail
 rw [← hW1]
 generalize w2.heap.size = R1 at *
 clear hW1 hS1
 refine (ndiv_at _ _ _ _ _ M _ hv (hg.at M hgl) (by omega) hgp).mono ?_
 rintro e w3 ⟨vd, vx, rfl, hd, hxx, b3⟩
 replace hu := hu.below b3
 replace hv := hv.below b3
 replace ht := ht.below b3
 replace hg := hg.below b3
 replace hn := hn.below b3
 replace hs := hs.below b3
 replace VA := VA.below b3
 replace VR := VR.below b3
 replace VN := VN.below b3
 replace BB := BB.trans (b3.mono BB.size)
 clear b3
 obtain ⟨ad, nd, cd, rfl⟩ := hd.open
 have hKp := VR.keepJ (.bool pn) (.slice an nn cn) (.slice ad nd cd)
 have hu_n := hu.keep hKp
 have hv_n := hv.keep hKp
 have ht_n := ht.keep hKp
 have hg_n := hg.keep hKp
 have hn_n := hn.keep hKp
 have hs_n := hs.keep hKp
 have hd_n := hd.keep hKp
 have BB_n := below_store3 (R := w.heap.size + 1) BB (by omega) (.bool pn) (.slice an nn cn) (.slice ad nd cd)
 clear hKp
 obtain ⟨VN_0, VN_1, VN_2, VN_3⟩ := id VN
 obtain ⟨q1, q2, q3, q4, q5, q6⟩ := id VR
 go_wp2
 (try simp only [Exit.inBlock, Exit.then])
 refine bodyPost_ret (v := .agg #[.bool pn, .slice an nn cn, .slice ad nd cd]) (by simp [results, go_sem, q1, q2, q3]) rfl ?_
 exact ⟨_, rfl, RepQ.mk (by rw [HQ.out.1]; exact hn_n) (by rw [HQ.out.2]; exact hd_n), BB_n⟩


/-- What parts answers. -/
def PartOut (q : Rat) (L : Nat) (w : World) (e : Ending) (w' : World) : Prop :=
 ∃ u s z x, e = .returned (.tuple #[u, s]) ∧ IntAt w' u z L ∧ NatAt w' s x L ∧ 0 < x ∧ q = mkRat z x ∧ Below w.heap.size w w'


set_option maxRecDepth 20000 in
set_option maxHeartbeats 1000000 in
theorem parts_at (v : Value) (q : Rat) (L : Nat) (w : World) (hv : RatAt w v q L) (hL : 1 ≤ L) :
  Calls Tryz.prog 51 #[v] w fun e w' => PartOut q L w e w' := by
 obtain ⟨p, ao, n, c, bo, m, d, rfl⟩ := hv.open
 obtain ⟨z, x, hz, hx, hq⟩ := hv.parts
 have HQ : Hid (q = mkRat z x) := hq
 clear hq hv
 have BB : Below w.heap.size w w := Below.refl _ _
 obtain ⟨Wb0, hW0, hS0, hL0, VA⟩ := V3.lay w 44 (.bool p) (.slice ao n c) (.slice bo m d)
 replace hz := hz.below hL0
 replace hx := hx.below hL0
 replace BB := BB.trans (hL0.mono BB.size)
 clear hL0
 obtain ⟨Wb1, hW1, hS1, hL1, VR⟩ := V2.lay Wb0 42 (.bool false) (.slice none 0 0)
 rw [hS0] at VR hS1
 replace hz := hz.below hL1
 replace hx := hx.below hL1
 replace VA := VA.below hL1
 replace BB := BB.trans (hL1.mono BB.size)
 clear hL1
 go_enter Tryz.func51, Tryz.ntmps51
 go_wp2_with fail
 rw [← hW0]
 rw [← hW1]
 clear hW0 hW1 hS0 hS1
 refine (nzero_at _ _ _ _ hx).mono ?_
 rintro e wx ⟨rfl, hwx⟩
 replace hwx := hwx.symm
 subst hwx
 by_cases h0 : x = 0
 ·rw [decide_eq_true h0]
  go_wp2_with fail
  refine (nof_at 1 _ (by omega)).mono ?_
  rintro e w1 ⟨r, rfl, hr, b1⟩
  replace hz := hz.below b1
  replace hx := hx.below b1
  replace VA := VA.below b1
  replace VR := VR.below b1
  replace BB := BB.trans (b1.mono BB.size)
  clear b1
  obtain ⟨ar, nr, cr, rfl⟩ := hr.open
  have hKp := VR.keepJ (.bool false) (.slice none 0 0)
  have hz_n := hz.keep hKp
  have hx_n := hx.keep hKp
  have hr_n := hr.keep hKp
  have BB_n := below_store2 (R := w.heap.size + 1) BB (by omega) (.bool false) (.slice none 0 0)
  clear hKp
  obtain ⟨q1, q2, q3, q4⟩ := id VR
  go_wp2
  (try simp only [Exit.inBlock, Exit.then])
  refine bodyPost_ret (v := .tuple #[.agg #[.bool false, .slice none 0 0], .slice ar nr cr]) (by simp [results, go_sem, q1, q2]) rfl ?_
  refine ⟨_, _, 0, 1, rfl, ?_, hr_n.at L (Nat.le_trans nlw_one hL), by omega, ?_, BB_n⟩
  ·exact IntAt.mk (p := false) (x := 0) ⟨0, fun _ => 0, Nums.nil _ _ _, fun i hi => by omega, rfl, by omega⟩
  ·rw [HQ.out, h0]; simp
 ·rw [decide_eq_false h0]
  go_wp2
  have hDr : Below Wb1.heap.size Wb1 Wb1.drew := (Below.refl _ _).drew
  replace hz := hz.below hDr
  replace hx := hx.below hDr
  replace VA := VA.below hDr
  replace VR := VR.below hDr
  replace BB := BB.trans (hDr.mono BB.size)
  clear hDr
  refine wp_region_held_drew (S := (fun w' => w'.cell? ⟨w.heap.size, 0, none⟩ = some (.bool p) ∧ w'.cell? ⟨w.heap.size, 1, none⟩ = some (.slice ao n c) ∧ w'.cell? ⟨w.heap.size, 2, none⟩ = some (.slice bo m d))) (by kernel_rfl) ?_ (fun hHeld => ?_)
  ·exact ⟨VA.1, VA.2.1, VA.2.2.1⟩
  generalize Wb1.drew = W1 at *
  refine wpAnyH_take (i := 0) (v := ?_) (by simp only [xL1, xL2, xL3]; rfl) (by kernel_rfl) (by kernel_rfl) (by kernel_rfl) (by exact fun _ _ _ h => h) (Or.inl ⟨by rfl, ?_⟩) (by assumption) ?_
  rotate_left
  ·(intro w hSw; (try dsimp only at hSw); go_simp; (try with_reducible rfl))
  (try simp only [Act.put, xL4, xL5, xL6])
  refine wpAnyH_take (i := 1) (v := ?_) (by simp only [xL1, xL2, xL3]; rfl) (by kernel_rfl) (by kernel_rfl) (by kernel_rfl) (by exact fun _ _ _ h => h) (Or.inl ⟨by rfl, ?_⟩) (by assumption) ?_
  rotate_left
  ·(intro w hSw; (try dsimp only at hSw); go_simp; (try with_reducible rfl))
  (try simp only [Act.put, xL4, xL5, xL6])
  refine wpAnyH_take (i := 2) (v := ?_) (by simp only [xL1, xL2, xL3]; rfl) (by kernel_rfl) (by kernel_rfl) (by kernel_rfl) (by exact fun _ _ _ h => h) (Or.inl ⟨by rfl, ?_⟩) (by assumption) ?_
  rotate_left
  ·(intro w hSw; (try dsimp only at hSw); go_simp; (try with_reducible rfl))
  (try simp only [Act.put, xL4, xL5, xL6])
  refine wpAnyH_take (i := 3) (v := ?_) (by simp only [xL1, xL2, xL3]; rfl) (by kernel_rfl) (by kernel_rfl) (by kernel_rfl) (by exact fun _ _ _ h => h) (Or.inl ⟨by rfl, ?_⟩) (by assumption) ?_
  rotate_left
  ·(intro w hSw; (try dsimp only at hSw); go_simp; (try with_reducible rfl))
  (try simp only [Act.put, xL4, xL5, xL6])
  refine wpAnyH_ready (rs := [4]) (by kernel_rfl) (by simp) ?_
  refine AllReadyH.cons (by simp only [xL1, xL2, xL3]; rfl) (fun K hK => ?_) AllReadyH.nil
  have hKp := VR.keepJ (.bool p) (.slice ao n c)
  have VA_n := VA.other2 (R := w.heap.size + 1) (by omega) (.bool p) (.slice ao n c)
  have VR_n := VR.same (.bool p) (.slice ao n c)
  have hz_n := hz.keep hKp
  have hx_n := hx.keep hKp
  have BB_n := below_store2 (R := w.heap.size + 1) BB (by omega) (.bool p) (.slice ao n c)
  clear hKp
  obtain ⟨VR_0, VR_1, VR_2, VR_3⟩ := id VR
  go_simp
  clear VR_0 VR_1 VR_2 VR_3
  clear BB hz hx VA VR
  generalize (W1.setCell ⟨w.heap.size + 1, 0, none⟩ (.bool p)).setCell ⟨w.heap.size + 1, 1, none⟩ (.slice ao n c) = W2 at *
  have BB := BB_n
  have hz := hz_n
  have hx := hx_n
  have VA := VA_n
  have VR := VR_n
  clear BB_n hz_n hx_n VA_n VR_n
  refine hK.out _ _ ?_ (fun hH1 => ?_)
  ·exact ⟨VA.1, VA.2.1, VA.2.2.1⟩
  clear hK K hHeld
  (try simp only [Act.put, xL4, xL5, xL6])
  refine wpAnyH_take (i := 5) (v := ?_) (by simp only [xL1, xL2, xL3]; rfl) (by kernel_rfl) (by kernel_rfl) (by kernel_rfl) (by exact fun _ _ _ h => h) (Or.inl ⟨by rfl, ?_⟩) (by assumption) ?_
  rotate_left
  ·(intro w hSw; (try dsimp only at hSw); go_simp; (try with_reducible rfl))
  (try simp only [Act.put, xL4, xL5, xL6])
  refine wpAnyH_done (by kernel_rfl) ?_ _
  clear hH1
  obtain ⟨q1, q2, q3, q4⟩ := id VR
  go_wp2
  (try simp only [Exit.inBlock, Exit.then])
  refine bodyPost_ret (v := .tuple #[.agg #[.bool p, .slice ao n c], .slice bo m d]) (by simp [results, go_sem, q1, q2]) rfl ?_
  exact ⟨_, _, z, x, rfl, hz, hx, by omega, HQ.out, BB⟩

end Go.Proofs.YthkamfddbiheoaaGreatDoor

namespace Go.Proofs.YthkamfddbiheoaaGreatDoor
open Go.RowKit
set_option linter.unusedVariables false

/-- How two numbers stand. -/
def cmpQ (a b : Rat) : Int := if a < b then -1 else if b < a then 1 else 0
theorem ratc_pos (x : Nat) (h : 0 < x) : (0 : Rat) < (x : Rat) := Rat.natCast_pos.2 h
theorem mkRat_lt (z t : Int) (x y : Nat) (hx : 0 < x) (hy : 0 < y) : mkRat z x < mkRat t y ↔ z * (y : Int) < t * (x : Int) := by
 rw [Rat.mkRat_eq_div, Rat.mkRat_eq_div, Rat.div_lt_iff (ratc_pos x hx), Rat.div_def, Rat.mul_assoc, Rat.mul_comm _ (x : Rat), ← Rat.mul_assoc, ← Rat.div_def, Rat.lt_div_iff (ratc_pos y hy)]
 rw [show ((z : Rat) * (y : Rat)) = ((z * (y : Int) : Int) : Rat) by rw [Rat.intCast_mul, Rat.intCast_natCast], show ((t : Rat) * (x : Rat)) = ((t * (x : Int) : Int) : Rat) by rw [Rat.intCast_mul, Rat.intCast_natCast]]
 exact Rat.intCast_lt_intCast
theorem cmp_mkRat (z t : Int) (x y : Nat) (hx : 0 < x) (hy : 0 < y) : cmpI (z * (y : Int)) (t * (x : Int)) = cmpQ (mkRat z x) (mkRat t y) := by
 unfold cmpI cmpQ
 simp only [mkRat_lt z t x y hx hy, mkRat_lt t z y x hy hx]
theorem cmpQ_zero (a b : Rat) : (cmpQ a b == 0) = decide (a = b) := by
 unfold cmpQ
 by_cases h1 : a < b
 ·rw [if_pos h1, decide_eq_false (Rat.ne_of_lt h1)]; rfl
 ·rw [if_neg h1]
  by_cases h2 : b < a
  ·rw [if_pos h2, decide_eq_false (Rat.ne_of_lt h2).symm]; rfl
  ·rw [if_neg h2, decide_eq_true (Rat.le_antisymm (Rat.not_lt.1 h2) (Rat.not_lt.1 h1))]; rfl
theorem cmpI_sign (z : Int) (x : Nat) (hx : 0 < x) : cmpI z 0 = cmpQ (mkRat z x) 0 := by
 have h := cmp_mkRat z 0 x 1 hx (by omega)
 rw [show mkRat 0 1 = (0 : Rat) by simp] at h
 simpa using h
theorem zof_bne (p q : Bool) (X Y : Nat) (hY : 0 < Y) : mkRat (zof (!(p == q)) X) Y = ((zof p X : Int) : Rat) / ((zof q Y : Int) : Rat) := by
 rw [← Rat.divInt_eq_div]
 cases q with
 | false =>
  have e : zof (!(p == false)) X = zof p X := by cases p <;> rfl
  rw [e, zof_false, Rat.divInt_ofNat]
 | true =>
  have e : zof (!(p == true)) X = -zof p X := by cases p <;> simp [zof]
  rw [e, zof_true, Rat.divInt_neg', Rat.divInt_ofNat]
theorem add_mkRat (z t : Int) (x y : Nat) (hx : 0 < x) (hy : 0 < y) : mkRat (z * (y : Int) + t * (x : Int)) (x * y) = mkRat z x + mkRat t y := (Rat.mkRat_add_mkRat z t (by omega) (by omega)).symm
theorem add_mkRat_same (z t : Int) (x : Nat) (hx : 0 < x) : mkRat (z + t) x = mkRat z x + mkRat t x := by
 have hx' : (x : Rat) ≠ 0 := fun e => by have := ratc_pos x hx; rw [e] at this; exact Rat.lt_irrefl this
 rw [Rat.mkRat_eq_div, Rat.mkRat_eq_div, Rat.mkRat_eq_div, Rat.intCast_add]
 grind
theorem qsz_num (q : Rat) : nl W32 q.num.natAbs ≤ qsz q := Nat.le_max_left _ _
theorem qsz_den (q : Rat) : nl W32 q.den ≤ qsz q := Nat.le_max_right _ _
theorem nln_mul {x y a b : Nat} (hx : nl W32 x ≤ a) (hy : nl W32 y ≤ b) : nl W32 (x * y) ≤ a + b := by
 have h := nlz_mul (x := (x : Int)) (y := (y : Int)) (a := a) (b := b) (c := a + b) (by simpa using hx) (by simpa using hy) (Nat.le_refl _)
 rw [← Int.natCast_mul, Int.natAbs_natCast] at h; exact h
theorem qsz_add (a b : Rat) {L M : Nat} (h1 : qsz a ≤ L) (h2 : qsz b ≤ M) : qsz (a + b) ≤ L + M + 1 := by
 have e : a + b = mkRat (a.num * (b.den : Int) + b.num * (a.den : Int)) (a.den * b.den) := by
  rw [add_mkRat _ _ _ _ (Nat.pos_of_ne_zero a.den_nz) (Nat.pos_of_ne_zero b.den_nz), Rat.mkRat_self, Rat.mkRat_self]
 rw [e]
 have ha := qsz_num a
 have hb := qsz_num b
 have hc := qsz_den a
 have hd := qsz_den b
 refine nl_num_mkRat _ _ _ ?_ ?_ (by omega)
 ·refine nlz_add (nlz_mul (a := L) (b := M) (by omega) (by simp; omega) (Nat.le_refl _)) (nlz_mul (a := M) (b := L) (by omega) (by simp; omega) (Nat.le_refl _)) (by omega) (by omega)
 ·exact Nat.le_trans (nln_mul (a := L) (b := M) (by omega) (by omega)) (by omega)
end Go.Proofs.YthkamfddbiheoaaGreatDoor

namespace Go.Proofs.YthkamfddbiheoaaGreatDoor
open Go.RowKit
set_option linter.unusedVariables false
set_option linter.unusedSimpArgs false


set_option maxRecDepth 20000 in
set_option maxHeartbeats 1000000 in
theorem make_zero (u v : Value) (a : Int) (L M : Nat) (w : World) (hu : IntAt w u a L) (hv : IntAt w v 0 M) :
  Calls Tryz.prog 90 #[u, v] w fun e w' => e = .returned (.tuple #[.agg #[.bool false, .slice none 0 0, .slice none 0 0], .int .i64 2]) ∧ Below w.heap.size w w' := by
 obtain ⟨p, ao, n, c, rfl⟩ := hu.open
 obtain ⟨q, bo, m, d, rfl⟩ := hv.open
 have BB : Below w.heap.size w w := Below.refl _ _
 obtain ⟨Wb0, hW0, hS0, hL0, VA⟩ := V2.lay w 42 (.bool p) (.slice ao n c)
 replace hu := hu.below hL0
 replace hv := hv.below hL0
 replace BB := BB.trans (hL0.mono BB.size)
 clear hL0
 obtain ⟨Wb1, hW1, hS1, hL1, VB⟩ := V2.lay Wb0 42 (.bool q) (.slice bo m d)
 rw [hS0] at VB hS1
 replace hu := hu.below hL1
 replace hv := hv.below hL1
 replace VA := VA.below hL1
 replace BB := BB.trans (hL1.mono BB.size)
 clear hL1
 obtain ⟨Wb2, hW2, hS2, hL2, VR⟩ := V3.lay Wb1 44 (.bool false) (.slice none 0 0) (.slice none 0 0)
 rw [hS1] at VR hS2
 replace hu := hu.below hL2
 replace hv := hv.below hL2
 replace VA := VA.below hL2
 replace VB := VB.below hL2
 replace BB := BB.trans (hL2.mono BB.size)
 clear hL2
 go_enter Tryz.func90, Tryz.ntmps90
 go_wp2_with fail
 rw [← hW0]
 rw [← hW1]
 rw [← hW2]
 clear hW0 hW1 hW2 hS0 hS1 hS2
 refine (sign_any _ _ _ _ hv).mono ?_
 rintro e w1 ⟨rfl, b1⟩
 replace hu := hu.below b1
 replace hv := hv.below b1
 replace VA := VA.below b1
 replace VB := VB.below b1
 replace VR := VR.below b1
 replace BB := BB.trans (b1.mono BB.size)
 clear b1
 rw [cmpI_eq rfl]
 obtain ⟨q1, q2, q3, q4, q5, q6⟩ := id VR
 go_wp2
 (try simp only [Exit.inBlock, Exit.then])
 refine bodyPost_ret (v := .tuple #[.agg #[.bool false, .slice none 0 0, .slice none 0 0], .int .i64 2]) (by simp [results, go_sem, q1, q2, q3]) rfl ?_
 exact ⟨rfl, below_store3 BB (by omega) _ _ _⟩


set_option maxRecDepth 20000 in
set_option maxHeartbeats 1000000 in
theorem make_at (u v : Value) (a b : Int) (L M : Nat) (w : World) (hu : IntAt w u a L) (hv : IntAt w v b M) (hL : L ≤ 900000) (hM : M ≤ 900000) (hb : b ≠ 0) (ht : Tab w) :
  Calls Tryz.prog 90 #[u, v] w fun e w' => ∃ r, e = .returned (.tuple #[r, .int .i64 0]) ∧ RepQ w' r ((a : Rat) / (b : Rat)) ∧ Below w.heap.size w w' := by
 obtain ⟨p, ao, n, c, rfl⟩ := hu.open
 obtain ⟨q, bo, m, d, rfl⟩ := hv.open
 have hab := hu.bool
 have hbb := hv.bool
 have hY : 0 < b.natAbs := by omega
 have HQ : Hid (mkRat (zof (!(p == q)) a.natAbs) b.natAbs = (a : Rat) / (b : Rat)) := by
  show _ = _
  rw [zof_bne p q _ _ hY, ← hab, ← hbb]
 clear hab hbb
 have BB : Below w.heap.size w w := Below.refl _ _
 obtain ⟨Wb0, hW0, hS0, hL0, VA⟩ := V2.lay w 42 (.bool p) (.slice ao n c)
 replace hu := hu.below hL0
 replace hv := hv.below hL0
 replace ht := ht.below hL0
 replace BB := BB.trans (hL0.mono BB.size)
 clear hL0
 obtain ⟨Wb1, hW1, hS1, hL1, VB⟩ := V2.lay Wb0 42 (.bool q) (.slice bo m d)
 rw [hS0] at VB hS1
 replace hu := hu.below hL1
 replace hv := hv.below hL1
 replace ht := ht.below hL1
 replace VA := VA.below hL1
 replace BB := BB.trans (hL1.mono BB.size)
 clear hL1
 obtain ⟨Wb2, hW2, hS2, hL2, VR⟩ := V3.lay Wb1 44 (.bool false) (.slice none 0 0) (.slice none 0 0)
 rw [hS1] at VR hS2
 replace hu := hu.below hL2
 replace hv := hv.below hL2
 replace ht := ht.below hL2
 replace VA := VA.below hL2
 replace VB := VB.below hL2
 replace BB := BB.trans (hL2.mono BB.size)
 clear hL2
 go_enter Tryz.func90, Tryz.ntmps90
 go_wp2_with fail
 rw [← hW0]
 rw [← hW1]
 rw [← hW2]
 clear hW0 hW1 hW2 hS0 hS1 hS2
 refine (sign_any _ _ _ _ hv).mono ?_
 rintro e w1 ⟨rfl, b1⟩
 replace hu := hu.below b1
 replace hv := hv.below b1
 replace ht := ht.below b1
 replace VA := VA.below b1
 replace VB := VB.below b1
 replace VR := VR.below b1
 replace BB := BB.trans (b1.mono BB.size)
 clear b1
 have hc : (cmpI b 0 == 0) = false := by rw [cmpI_zero]; exact decide_eq_false hb
 generalize cmpI b 0 = cc at *
 obtain ⟨VA_0, VA_1, VA_2, VA_3⟩ := id VA
 obtain ⟨VB_0, VB_1, VB_2, VB_3⟩ := id VB
 go_wp2_with fail
 clear VA_0 VA_1 VA_2 VA_3 VB_0 VB_1 VB_2 VB_3
 refine (lowest_at _ _ _ _ _ _ _ (IntAt.mk (p := !(p == q)) hu.abs) hv.abs (by omega) (by omega) hY ht).mono ?_
 rintro e w2 ⟨r, rfl, hr, b2⟩
 replace hu := hu.below b2
 replace hv := hv.below b2
 replace ht := ht.below b2
 replace VA := VA.below b2
 replace VB := VB.below b2
 replace VR := VR.below b2
 replace BB := BB.trans (b2.mono BB.size)
 clear b2
 rw [HQ.out] at hr
 obtain ⟨pr, ar, nr, cr, br, mr, dr, rfl⟩ := hr.open
 have hKp := VR.keepJ (.bool pr) (.slice ar nr cr) (.slice br mr dr)
 have hu_n := hu.keep hKp
 have hv_n := hv.keep hKp
 have ht_n := ht.keep hKp
 have hr_n := hr.keep hKp
 have BB_n := below_store3 (R := w.heap.size + 1 + 1) BB (by omega) (.bool pr) (.slice ar nr cr) (.slice br mr dr)
 clear hKp
 obtain ⟨q1, q2, q3, q4, q5, q6⟩ := id VR
 go_wp2
 (try simp only [Exit.inBlock, Exit.then])
 refine bodyPost_ret (v := .tuple #[.agg #[.bool pr, .slice ar nr cr, .slice br mr dr], .int .i64 0]) (by simp [results, go_sem, q1, q2, q3]) rfl ?_
 exact ⟨_, rfl, hr_n, BB_n⟩


set_option maxRecDepth 20000 in
set_option maxHeartbeats 1000000 in
theorem qint_at (v : Value) (z : Int) (L : Nat) (w : World) (hv : IntAt w v z L) :
  Calls Tryz.prog 101 #[v] w fun e w' => ∃ r, e = .returned r ∧ RepQ w' r (z : Rat) ∧ Below w.heap.size w w' := by
 obtain ⟨p, ao, n, c, rfl⟩ := hv.open
 have BB : Below w.heap.size w w := Below.refl _ _
 obtain ⟨Wb0, hW0, hS0, hL0, VA⟩ := V2.lay w 42 (.bool p) (.slice ao n c)
 replace hv := hv.below hL0
 replace BB := BB.trans (hL0.mono BB.size)
 clear hL0
 obtain ⟨Wb1, hW1, hS1, hL1, VR⟩ := V3.lay Wb0 44 (.bool false) (.slice none 0 0) (.slice none 0 0)
 rw [hS0] at VR hS1
 replace hv := hv.below hL1
 replace VA := VA.below hL1
 replace BB := BB.trans (hL1.mono BB.size)
 clear hL1
 go_enter Tryz.func101, Tryz.ntmps101
 go_wp2_with fail
 rw [← hW0]
 rw [← hW1]
 clear hW0 hW1 hS0 hS1
 refine (wclean_any _ _ _ _ hv).mono ?_
 rintro e w1 ⟨r1, rfl, h1, b1⟩
 replace hv := hv.below b1
 replace VA := VA.below b1
 replace VR := VR.below b1
 replace BB := BB.trans (b1.mono BB.size)
 clear b1
 obtain ⟨pr, ar, nr, cr, rfl⟩ := h1.open
 go_wp2_with fail
 refine (nof_at 1 _ (by omega)).mono ?_
 rintro e w2 ⟨r2, rfl, h2, b2⟩
 replace hv := hv.below b2
 replace h1 := h1.below b2
 replace VA := VA.below b2
 replace VR := VR.below b2
 replace BB := BB.trans (b2.mono BB.size)
 clear b2
 obtain ⟨br, mr, dr, rfl⟩ := h2.open
 have hKp := VR.keepJ (.bool pr) (.slice ar nr cr) (.slice br mr dr)
 have hv_n := hv.keep hKp
 have h1_n := h1.keep hKp
 have h2_n := h2.keep hKp
 have BB_n := below_store3 (R := w.heap.size + 1) BB (by omega) (.bool pr) (.slice ar nr cr) (.slice br mr dr)
 clear hKp
 obtain ⟨q1, q2, q3, q4, q5, q6⟩ := id VR
 go_wp2
 (try simp only [Exit.inBlock, Exit.then])
 refine bodyPost_ret (v := .agg #[.bool pr, .slice ar nr cr, .slice br mr dr]) (by simp [results, go_sem, q1, q2, q3]) rfl ?_
 exact ⟨_, rfl, RepQ.mk (q := (z : Rat)) h1_n h2_n, BB_n⟩


set_option maxRecDepth 20000 in
set_option maxHeartbeats 1000000 in
theorem qof_at (k : Int) (w : World) (h0 : -9223372036854775808 ≤ k) (h1 : k ≤ 9223372036854775807) :
  Calls Tryz.prog 70 #[.int .i64 k] w fun e w' => ∃ r, e = .returned r ∧ RepQ w' r (k : Rat) ∧ Below w.heap.size w w' := by
 have BB : Below w.heap.size w w := Below.refl _ _
 obtain ⟨Wb0, hW0, hS0, hL0, VR⟩ := V3.lay w 44 (.bool false) (.slice none 0 0) (.slice none 0 0)
 replace BB := BB.trans (hL0.mono BB.size)
 clear hL0
 go_enter Tryz.func70, Tryz.ntmps70
 go_wp2_with fail
 rw [← hW0]
 clear hW0 hS0
 refine (wof_any _ _ (by omega) (by omega)).mono ?_
 rintro e w1 ⟨r1, rfl, h1, b1⟩
 replace VR := VR.below b1
 replace BB := BB.trans (b1.mono BB.size)
 clear b1
 go_wp2_with fail
 refine (qint_at _ _ _ _ (h1.at _ (Nat.le_refl _))).mono ?_
 rintro e w2 ⟨r, rfl, hr, b2⟩
 replace h1 := h1.below b2
 replace VR := VR.below b2
 replace BB := BB.trans (b2.mono BB.size)
 clear b2
 obtain ⟨pr, ar, nr, cr, br, mr, dr, rfl⟩ := hr.open
 have hKp := VR.keepJ (.bool pr) (.slice ar nr cr) (.slice br mr dr)
 have h1_n := h1.keep hKp
 have hr_n := hr.keep hKp
 have BB_n := below_store3 (R := w.heap.size) BB (by omega) (.bool pr) (.slice ar nr cr) (.slice br mr dr)
 clear hKp
 obtain ⟨q1, q2, q3, q4, q5, q6⟩ := id VR
 go_wp2
 (try simp only [Exit.inBlock, Exit.then])
 refine bodyPost_ret (v := .agg #[.bool pr, .slice ar nr cr, .slice br mr dr]) (by simp [results, go_sem, q1, q2, q3]) rfl ?_
 exact ⟨_, rfl, hr_n, BB_n⟩


set_option maxRecDepth 20000 in
set_option maxHeartbeats 1000000 in
theorem qone_at (w : World) :
  Calls Tryz.prog 38 #[] w fun e w' => ∃ r, e = .returned r ∧ RepQ w' r 1 ∧ Below w.heap.size w w' := by
 have BB : Below w.heap.size w w := Below.refl _ _
 obtain ⟨Wb0, hW0, hS0, hL0, VR⟩ := V3.lay w 44 (.bool false) (.slice none 0 0) (.slice none 0 0)
 replace BB := BB.trans (hL0.mono BB.size)
 clear hL0
 go_enter Tryz.func38, Tryz.ntmps38
 go_wp2_with fail
 rw [← hW0]
 clear hW0 hS0
 refine (qof_at 1 _ (by omega) (by omega)).mono ?_
 rintro e w1 ⟨r, rfl, hr, b1⟩
 replace VR := VR.below b1
 replace BB := BB.trans (b1.mono BB.size)
 clear b1
 obtain ⟨pr, ar, nr, cr, br, mr, dr, rfl⟩ := hr.open
 replace hr : RepQ _ _ (1 : Rat) := hr
 have hKp := VR.keepJ (.bool pr) (.slice ar nr cr) (.slice br mr dr)
 have hr_n := hr.keep hKp
 have BB_n := below_store3 (R := w.heap.size) BB (by omega) (.bool pr) (.slice ar nr cr) (.slice br mr dr)
 clear hKp
 obtain ⟨q1, q2, q3, q4, q5, q6⟩ := id VR
 go_wp2
 (try simp only [Exit.inBlock, Exit.then])
 refine bodyPost_ret (v := .agg #[.bool pr, .slice ar nr cr, .slice br mr dr]) (by simp [results, go_sem, q1, q2, q3]) rfl ?_
 exact ⟨_, rfl, hr_n, BB_n⟩

set_option maxRecDepth 20000 in
set_option maxHeartbeats 2000000 in
theorem qcmp_at (u v : Value) (q r : Rat) (L : Nat) (w : World) (hu : RatAt w u q L) (hv : RatAt w v r L) (hL : 1 ≤ L) (hM : L ≤ 100000) :
  Calls Tryz.prog 96 #[u, v] w fun e w' => e = .returned (.int .i64 (cmpQ q r)) ∧ Below w.heap.size w w' := by
 obtain ⟨p, ao, n, c, bo, m, d, rfl⟩ := hu.open
 obtain ⟨p2, ao2, n2, c2, bo2, m2, d2, rfl⟩ := hv.open
 have BB : Below w.heap.size w w := Below.refl _ _
 obtain ⟨Wb0, hW0, hS0, hL0, VA⟩ := V3.lay w 44 (.bool p) (.slice ao n c) (.slice bo m d)
 replace hu := hu.below hL0
 replace hv := hv.below hL0
 replace BB := BB.trans (hL0.mono BB.size)
 clear hL0
 obtain ⟨Wb1, hW1, hS1, hL1, VB⟩ := V3.lay Wb0 44 (.bool p2) (.slice ao2 n2 c2) (.slice bo2 m2 d2)
 rw [hS0] at VB hS1
 replace hu := hu.below hL1
 replace hv := hv.below hL1
 replace VA := VA.below hL1
 replace BB := BB.trans (hL1.mono BB.size)
 clear hL1
 go_enter Tryz.func96, Tryz.ntmps96
 go_wp2_with fail
 rw [← hW0]
 rw [← hW1]
 clear hW0 hW1 hS0 hS1
 refine (parts_at _ _ _ _ hu hL).mono ?_
 rintro e w1 ⟨una, sna, za, xa, rfl, hza, hxa, hpa, hqa, b1⟩
 replace hu := hu.below b1
 replace hv := hv.below b1
 replace VA := VA.below b1
 replace VB := VB.below b1
 replace BB := BB.trans (b1.mono BB.size)
 clear b1
 obtain ⟨pna, ana, nna, cna, rfl⟩ := hza.open
 obtain ⟨bna, mna, dna, rfl⟩ := hxa.open
 have HQa : Hid (q = mkRat za xa) := hqa
 clear hqa
 have hZ1 : w.heap.size ≤ w1.heap.size := BB.size
 have hN1VA : w.heap.size ≠ w1.heap.size := Nat.ne_of_lt VA.lt
 have hN1VB : w.heap.size + 1 ≠ w1.heap.size := Nat.ne_of_lt VB.lt
 obtain ⟨W1, hW1, hS1, hL1, VNa⟩ := V2.lay w1 42 (.bool pna) (.slice ana nna cna)
 replace hu := hu.below hL1
 replace hv := hv.below hL1
 replace hza := hza.below hL1
 replace hxa := hxa.below hL1
 replace VA := VA.below hL1
 replace VB := VB.below hL1
 replace BB := BB.trans (hL1.mono BB.size)
 clear hL1
 obtain ⟨VB_0, VB_1, VB_2, VB_3, VB_4, VB_5⟩ := id VB
 rw [hW1] at VB_0 VB_1 VB_2 VB_3 VB_4 VB_5
 go_wp2_with fail
 clear VB_0 VB_1 VB_2 VB_3 VB_4 VB_5
 rw [← hW1]
 generalize w1.heap.size = R1 at *
 clear hW1 hS1
 refine (parts_at _ _ _ _ hv hL).mono ?_
 rintro e w2 ⟨unb, snb, zb, xb, rfl, hzb, hxb, hpb, hqb, b2⟩
 replace hu := hu.below b2
 replace hv := hv.below b2
 replace hza := hza.below b2
 replace hxa := hxa.below b2
 replace VA := VA.below b2
 replace VB := VB.below b2
 replace VNa := VNa.below b2
 replace BB := BB.trans (b2.mono BB.size)
 clear b2
 obtain ⟨pnb, anb, nnb, cnb, rfl⟩ := hzb.open
 obtain ⟨bnb, mnb, dnb, rfl⟩ := hxb.open
 have HQb : Hid (r = mkRat zb xb) := hqb
 clear hqb
 have hZ2 : w.heap.size ≤ w2.heap.size := BB.size
 have hN2VA : w.heap.size ≠ w2.heap.size := Nat.ne_of_lt VA.lt
 have hN2VB : w.heap.size + 1 ≠ w2.heap.size := Nat.ne_of_lt VB.lt
 have hN2VNa : R1 ≠ w2.heap.size := Nat.ne_of_lt VNa.lt
 obtain ⟨W2, hW2, hS2, hL2, VNb⟩ := V2.lay w2 42 (.bool pnb) (.slice anb nnb cnb)
 replace hu := hu.below hL2
 replace hv := hv.below hL2
 replace hza := hza.below hL2
 replace hxa := hxa.below hL2
 replace hzb := hzb.below hL2
 replace hxb := hxb.below hL2
 replace VA := VA.below hL2
 replace VB := VB.below hL2
 replace VNa := VNa.below hL2
 replace BB := BB.trans (hL2.mono BB.size)
 clear hL2
 go_wp2
 rw [← hW2]
 generalize w2.heap.size = R2 at *
 clear hW2 hS2
 clear hu hv
 have lab := nlz_mul hza.nl (show nl W32 (xb : Int).natAbs ≤ L by rw [Int.natAbs_natCast]; exact hxb.nl) (Nat.le_refl _)
 have lba := nlz_mul hzb.nl (show nl W32 (xa : Int).natAbs ≤ L by rw [Int.natAbs_natCast]; exact hxa.nl) (Nat.le_refl _)
 have hDr : Below W2.heap.size W2 W2.drew := (Below.refl _ _).drew
 replace hza := hza.below hDr
 replace hxa := hxa.below hDr
 replace hzb := hzb.below hDr
 replace hxb := hxb.below hDr
 replace VA := VA.below hDr
 replace VB := VB.below hDr
 replace VNa := VNa.below hDr
 replace VNb := VNb.below hDr
 replace BB := BB.trans (hDr.mono BB.size)
 clear hDr
 refine wp_region_held_drew (S := (fun w' => w'.cell? ⟨R1, 0, none⟩ = some (.bool pna) ∧ w'.cell? ⟨R1, 1, none⟩ = some (.slice ana nna cna) ∧ w'.cell? ⟨R2, 0, none⟩ = some (.bool pnb) ∧ w'.cell? ⟨R2, 1, none⟩ = some (.slice anb nnb cnb))) (by kernel_rfl) ?_ (fun hHeld => ?_)
 ·exact ⟨VNa.1, VNa.2.1, VNb.1, VNb.2.1⟩
 generalize W2.drew = W3 at *
 refine wpAnyH_take (i := 0) (v := ?_) (by simp only [xL1, xL2, xL3]; rfl) (by kernel_rfl) (by kernel_rfl) (by kernel_rfl) (by exact fun _ _ _ h => h) (Or.inl ⟨by rfl, ?_⟩) (by assumption) ?_
 rotate_left
 ·(intro w hSw; (try dsimp only at hSw); go_simp; (try with_reducible rfl))
 (try simp only [Act.put, xL4, xL5, xL6])
 refine wpAnyH_take (i := 1) (v := ?_) (by simp only [xL1, xL2, xL3]; rfl) (by kernel_rfl) (by kernel_rfl) (by kernel_rfl) (by exact fun _ _ _ h => h) (Or.inl ⟨by rfl, ?_⟩) (by assumption) ?_
 rotate_left
 ·(intro w hSw; (try dsimp only at hSw); go_simp; (try with_reducible rfl))
 (try simp only [Act.put, xL4, xL5, xL6])
 refine wpAnyH_take (i := 3) (v := ?_) (by simp only [xL1, xL2, xL3]; rfl) (by kernel_rfl) (by kernel_rfl) (by kernel_rfl) (by exact fun _ _ _ h => h) (Or.inl ⟨by rfl, ?_⟩) (by assumption) ?_
 rotate_left
 ·(intro w hSw; (try dsimp only at hSw); go_simp; (try with_reducible rfl))
 (try simp only [Act.put, xL4, xL5, xL6])
 refine wpAnyH_take (i := 4) (v := ?_) (by simp only [xL1, xL2, xL3]; rfl) (by kernel_rfl) (by kernel_rfl) (by kernel_rfl) (by exact fun _ _ _ h => h) (Or.inl ⟨by rfl, ?_⟩) (by assumption) ?_
 rotate_left
 ·(intro w hSw; (try dsimp only at hSw); go_simp; (try with_reducible rfl))
 (try simp only [Act.put, xL4, xL5, xL6])
 refine wpAnyH_ready (rs := [2]) (by kernel_rfl) (by simp) ?_
 refine AllReadyH.cons (by simp only [xL1, xL2, xL3]; rfl) (fun K hK => ?_) AllReadyH.nil
 go_simp
 refine (times_at _ _ _ _ _ _ _ hza hxb (by omega)).mono ?_
 rintro e w3 ⟨t1, rfl, h1, b3⟩
 go_wp2_with fail
 replace hza := hza.below b3
 replace hxa := hxa.below b3
 replace hzb := hzb.below b3
 replace hxb := hxb.below b3
 replace VA := VA.below b3
 replace VB := VB.below b3
 replace VNa := VNa.below b3
 replace VNb := VNb.below b3
 replace BB := BB.trans (b3.mono BB.size)
 clear b3
 refine hK.out _ _ ?_ (fun hH1 => ?_)
 ·exact ⟨VNa.1, VNa.2.1, VNb.1, VNb.2.1⟩
 clear hK K hHeld
 (try simp only [Act.put, xL4, xL5, xL6])
 refine wpAnyH_ready (rs := [5]) (by kernel_rfl) (by simp) ?_
 refine AllReadyH.cons (by simp only [xL1, xL2, xL3]; rfl) (fun K hK => ?_) AllReadyH.nil
 go_simp
 refine (times_at _ _ _ _ _ _ _ hzb hxa (by omega)).mono ?_
 rintro e w4 ⟨t2, rfl, h2, b4⟩
 go_wp2_with fail
 replace hza := hza.below b4
 replace hxa := hxa.below b4
 replace hzb := hzb.below b4
 replace hxb := hxb.below b4
 replace h1 := h1.below b4
 replace VA := VA.below b4
 replace VB := VB.below b4
 replace VNa := VNa.below b4
 replace VNb := VNb.below b4
 replace BB := BB.trans (b4.mono BB.size)
 clear b4
 refine hK.out _ _ ?_ (fun hH2 => ?_)
 ·exact ⟨VNa.1, VNa.2.1, VNb.1, VNb.2.1⟩
 clear hK K hH1
 (try simp only [Act.put, xL4, xL5, xL6])
 refine wpAnyH_ready (rs := [6]) (by kernel_rfl) (by simp) ?_
 refine AllReadyH.cons (by simp only [xL1, xL2, xL3]; rfl) (fun K hK => ?_) AllReadyH.nil
 go_simp
 refine (wcmp_any _ _ _ _ (L + L) (L + L) _ (h1.at _ lab) (h2.at _ lba)).mono ?_
 rintro e w5 ⟨rfl, b5⟩
 go_wp2_with fail
 replace hza := hza.below b5
 replace hxa := hxa.below b5
 replace hzb := hzb.below b5
 replace hxb := hxb.below b5
 replace h1 := h1.below b5
 replace h2 := h2.below b5
 replace VA := VA.below b5
 replace VB := VB.below b5
 replace VNa := VNa.below b5
 replace VNb := VNb.below b5
 replace BB := BB.trans (b5.mono BB.size)
 clear b5
 refine hK.out _ _ ?_ (fun hH3 => ?_)
 ·exact ⟨VNa.1, VNa.2.1, VNb.1, VNb.2.1⟩
 clear hK K hH2
 (try simp only [Act.put, xL4, xL5, xL6])
 refine wpAnyH_take (i := 7) (v := ?_) (by simp only [xL1, xL2, xL3]; rfl) (by kernel_rfl) (by kernel_rfl) (by kernel_rfl) (by exact fun _ _ _ h => h) (Or.inl ⟨by rfl, ?_⟩) (by assumption) ?_
 rotate_left
 ·(intro w hSw; (try dsimp only at hSw); go_simp; (try with_reducible rfl))
 (try simp only [Act.put, xL4, xL5, xL6])
 refine wpAnyH_done (by kernel_rfl) ?_ _
 clear hH3
 have hcq := cmp_mkRat za zb xa xb hpa hpb
 rw [← HQa.out, ← HQb.out] at hcq
 generalize cmpI (za * (xb : Int)) (zb * (xa : Int)) = cc at *
 subst hcq
 go_wp2
 go_ret
 exact ⟨rfl, BB⟩


set_option maxRecDepth 20000 in
set_option maxHeartbeats 1000000 in
theorem qsame_at (u v : Value) (q r : Rat) (L : Nat) (w : World) (hu : RatAt w u q L) (hv : RatAt w v r L) (hL : 1 ≤ L) (hM : L ≤ 100000) :
  Calls Tryz.prog 68 #[u, v] w fun e w' => e = .returned (.bool (decide (q = r))) ∧ Below w.heap.size w w' := by
 obtain ⟨p, ao, n, c, bo, m, d, rfl⟩ := hu.open
 obtain ⟨p2, ao2, n2, c2, bo2, m2, d2, rfl⟩ := hv.open
 have BB : Below w.heap.size w w := Below.refl _ _
 obtain ⟨Wb0, hW0, hS0, hL0, VA⟩ := V3.lay w 44 (.bool p) (.slice ao n c) (.slice bo m d)
 replace hu := hu.below hL0
 replace hv := hv.below hL0
 replace BB := BB.trans (hL0.mono BB.size)
 clear hL0
 obtain ⟨Wb1, hW1, hS1, hL1, VB⟩ := V3.lay Wb0 44 (.bool p2) (.slice ao2 n2 c2) (.slice bo2 m2 d2)
 rw [hS0] at VB hS1
 replace hu := hu.below hL1
 replace hv := hv.below hL1
 replace VA := VA.below hL1
 replace BB := BB.trans (hL1.mono BB.size)
 clear hL1
 go_enter Tryz.func68, Tryz.ntmps68
 go_wp2_with fail
 rw [← hW0]
 rw [← hW1]
 clear hW0 hW1 hS0 hS1
 refine (qcmp_at _ _ _ _ _ _ hu hv hL hM).mono ?_
 rintro e w1 ⟨rfl, b1⟩
 replace hu := hu.below b1
 replace hv := hv.below b1
 replace VA := VA.below b1
 replace VB := VB.below b1
 replace BB := BB.trans (b1.mono BB.size)
 clear b1
 have hcq := cmpQ_zero q r
 generalize cmpQ q r = cc at *
 go_wp2
 go_ret
 exact ⟨rfl, BB⟩


set_option maxRecDepth 20000 in
set_option maxHeartbeats 1000000 in
theorem qsign_at (v : Value) (q : Rat) (L : Nat) (w : World) (hv : RatAt w v q L) (hL : 1 ≤ L) (hM : L ≤ 100000) :
  Calls Tryz.prog 67 #[v] w fun e w' => e = .returned (.int .i64 (cmpQ q 0)) ∧ Below w.heap.size w w' := by
 obtain ⟨p, ao, n, c, bo, m, d, rfl⟩ := hv.open
 have BB : Below w.heap.size w w := Below.refl _ _
 obtain ⟨Wb0, hW0, hS0, hL0, VA⟩ := V3.lay w 44 (.bool p) (.slice ao n c) (.slice bo m d)
 replace hv := hv.below hL0
 replace BB := BB.trans (hL0.mono BB.size)
 clear hL0
 go_enter Tryz.func67, Tryz.ntmps67
 go_wp2_with fail
 rw [← hW0]
 clear hW0 hS0
 refine (parts_at _ _ _ _ hv hL).mono ?_
 rintro e w1 ⟨una, sna, za, xa, rfl, hza, hxa, hpa, hqa, b1⟩
 replace hv := hv.below b1
 replace VA := VA.below b1
 replace BB := BB.trans (b1.mono BB.size)
 clear b1
 obtain ⟨pna, ana, nna, cna, rfl⟩ := hza.open
 obtain ⟨bna, mna, dna, rfl⟩ := hxa.open
 have HQa : Hid (q = mkRat za xa) := hqa
 clear hqa
 have hZ1 : w.heap.size ≤ w1.heap.size := BB.size
 have hN1VA : w.heap.size ≠ w1.heap.size := Nat.ne_of_lt VA.lt
 obtain ⟨W1, hW1, hS1, hL1, VNa⟩ := V2.lay w1 42 (.bool pna) (.slice ana nna cna)
 replace hv := hv.below hL1
 replace hza := hza.below hL1
 replace hxa := hxa.below hL1
 replace VA := VA.below hL1
 replace BB := BB.trans (hL1.mono BB.size)
 clear hL1
 go_wp2_with fail
 rw [← hW1]
 generalize w1.heap.size = R1 at *
 clear hW1 hS1
 refine (sign_any _ _ _ _ hza).mono ?_
 rintro e w2 ⟨rfl, b2⟩
 replace hv := hv.below b2
 replace hza := hza.below b2
 replace hxa := hxa.below b2
 replace VA := VA.below b2
 replace VNa := VNa.below b2
 replace BB := BB.trans (b2.mono BB.size)
 clear b2
 have hcq := cmpI_sign za xa hpa
 rw [← HQa.out] at hcq
 rw [hcq]
 clear hcq
 go_wp2
 go_ret
 exact ⟨rfl, BB⟩


theorem cmpI_zero2 (a b : Int) : (cmpI a b == 0) = decide (a = b) := by
 unfold cmpI
 rcases Int.lt_trichotomy a b with h | h | h
 ·rw [if_pos h, decide_eq_false (by omega)]; rfl
 ·subst h; simp
 ·rw [if_neg (by omega), if_pos h, decide_eq_false (by omega)]; rfl


set_option maxRecDepth 20000 in
set_option maxHeartbeats 2000000 in
theorem qadd_at (u v : Value) (q r : Rat) (L : Nat) (w : World) (hu : RatAt w u q L) (hv : RatAt w v r L) (hL : 1 ≤ L) (hM : L ≤ 100000) (ht : Tab w) :
  Calls Tryz.prog 69 #[u, v] w fun e w' => ∃ x, e = .returned x ∧ RepQ w' x (q + r) ∧ Below w.heap.size w w' := by
 obtain ⟨p, ao, n, c, bo, m, d, rfl⟩ := hu.open
 obtain ⟨p2, ao2, n2, c2, bo2, m2, d2, rfl⟩ := hv.open
 have BB : Below w.heap.size w w := Below.refl _ _
 obtain ⟨Wb0, hW0, hS0, hL0, VA⟩ := V3.lay w 44 (.bool p) (.slice ao n c) (.slice bo m d)
 replace hu := hu.below hL0
 replace hv := hv.below hL0
 replace ht := ht.below hL0
 replace BB := BB.trans (hL0.mono BB.size)
 clear hL0
 obtain ⟨Wb1, hW1, hS1, hL1, VB⟩ := V3.lay Wb0 44 (.bool p2) (.slice ao2 n2 c2) (.slice bo2 m2 d2)
 rw [hS0] at VB hS1
 replace hu := hu.below hL1
 replace hv := hv.below hL1
 replace ht := ht.below hL1
 replace VA := VA.below hL1
 replace BB := BB.trans (hL1.mono BB.size)
 clear hL1
 obtain ⟨Wb2, hW2, hS2, hL2, VR⟩ := V3.lay Wb1 44 (.bool false) (.slice none 0 0) (.slice none 0 0)
 rw [hS1] at VR hS2
 replace hu := hu.below hL2
 replace hv := hv.below hL2
 replace ht := ht.below hL2
 replace VA := VA.below hL2
 replace VB := VB.below hL2
 replace BB := BB.trans (hL2.mono BB.size)
 clear hL2
 go_enter Tryz.func69, Tryz.ntmps69
 go_wp2_with fail
 rw [← hW0]
 rw [← hW1]
 rw [← hW2]
 clear hW0 hW1 hW2 hS0 hS1 hS2
 refine (parts_at _ _ _ _ hu hL).mono ?_
 rintro e w1 ⟨una, sna, za, xa, rfl, hza, hxa, hpa, hqa, b1⟩
 replace hu := hu.below b1
 replace hv := hv.below b1
 replace ht := ht.below b1
 replace VA := VA.below b1
 replace VB := VB.below b1
 replace VR := VR.below b1
 replace BB := BB.trans (b1.mono BB.size)
 clear b1
 obtain ⟨pna, ana, nna, cna, rfl⟩ := hza.open
 obtain ⟨bna, mna, dna, rfl⟩ := hxa.open
 have HQa : Hid (q = mkRat za xa) := hqa
 clear hqa
 have hZ1 : w.heap.size ≤ w1.heap.size := BB.size
 have hN1VA : w.heap.size ≠ w1.heap.size := Nat.ne_of_lt VA.lt
 have hN1VB : w.heap.size + 1 ≠ w1.heap.size := Nat.ne_of_lt VB.lt
 have hN1VR : w.heap.size + 1 + 1 ≠ w1.heap.size := Nat.ne_of_lt VR.lt
 obtain ⟨W1, hW1, hS1, hL1, VNa⟩ := V2.lay w1 42 (.bool pna) (.slice ana nna cna)
 replace hu := hu.below hL1
 replace hv := hv.below hL1
 replace ht := ht.below hL1
 replace hza := hza.below hL1
 replace hxa := hxa.below hL1
 replace VA := VA.below hL1
 replace VB := VB.below hL1
 replace VR := VR.below hL1
 replace BB := BB.trans (hL1.mono BB.size)
 clear hL1
 obtain ⟨VB_0, VB_1, VB_2, VB_3, VB_4, VB_5⟩ := id VB
 rw [hW1] at VB_0 VB_1 VB_2 VB_3 VB_4 VB_5
 go_wp2_with fail
 clear VB_0 VB_1 VB_2 VB_3 VB_4 VB_5
 rw [← hW1]
 generalize w1.heap.size = R1 at *
 clear hW1 hS1
 refine (parts_at _ _ _ _ hv hL).mono ?_
 rintro e w2 ⟨unb, snb, zb, xb, rfl, hzb, hxb, hpb, hqb, b2⟩
 replace hu := hu.below b2
 replace hv := hv.below b2
 replace ht := ht.below b2
 replace hza := hza.below b2
 replace hxa := hxa.below b2
 replace VA := VA.below b2
 replace VB := VB.below b2
 replace VR := VR.below b2
 replace VNa := VNa.below b2
 replace BB := BB.trans (b2.mono BB.size)
 clear b2
 obtain ⟨pnb, anb, nnb, cnb, rfl⟩ := hzb.open
 obtain ⟨bnb, mnb, dnb, rfl⟩ := hxb.open
 have HQb : Hid (r = mkRat zb xb) := hqb
 clear hqb
 have hZ2 : w.heap.size ≤ w2.heap.size := BB.size
 have hN2VA : w.heap.size ≠ w2.heap.size := Nat.ne_of_lt VA.lt
 have hN2VB : w.heap.size + 1 ≠ w2.heap.size := Nat.ne_of_lt VB.lt
 have hN2VR : w.heap.size + 1 + 1 ≠ w2.heap.size := Nat.ne_of_lt VR.lt
 have hN2VNa : R1 ≠ w2.heap.size := Nat.ne_of_lt VNa.lt
 obtain ⟨W2, hW2, hS2, hL2, VNb⟩ := V2.lay w2 42 (.bool pnb) (.slice anb nnb cnb)
 replace hu := hu.below hL2
 replace hv := hv.below hL2
 replace ht := ht.below hL2
 replace hza := hza.below hL2
 replace hxa := hxa.below hL2
 replace hzb := hzb.below hL2
 replace hxb := hxb.below hL2
 replace VA := VA.below hL2
 replace VB := VB.below hL2
 replace VR := VR.below hL2
 replace VNa := VNa.below hL2
 replace BB := BB.trans (hL2.mono BB.size)
 clear hL2
 go_wp2_with fail
 rw [← hW2]
 generalize w2.heap.size = R2 at *
 clear hW2 hS2
 clear hu hv
 refine (ncmp_at _ _ _ _ _ _ _ hxa hxb).mono ?_
 rintro e w3 ⟨rfl, b3⟩
 replace ht := ht.below b3
 replace hza := hza.below b3
 replace hxa := hxa.below b3
 replace hzb := hzb.below b3
 replace hxb := hxb.below b3
 replace VA := VA.below b3
 replace VB := VB.below b3
 replace VR := VR.below b3
 replace VNa := VNa.below b3
 replace VNb := VNb.below b3
 replace BB := BB.trans (b3.mono BB.size)
 clear b3
 have hcq : (cmpI (xa : Int) (xb : Int) == 0) = decide (xa = xb) := by rw [cmpI_zero2]; exact decide_eq_decide.2 (by omega)
 generalize cmpI (xa : Int) (xb : Int) = cc at *
 by_cases heq : xa = xb
 ·rw [decide_eq_true heq] at hcq
  subst heq
  have HS : Hid (q + r = mkRat (za + zb) xa) := by
   show _ = _
   rw [HQa.out, HQb.out, add_mkRat_same _ _ _ hpa]
  have lab : nl W32 (za + zb).natAbs ≤ L + 1 := nlz_add hza.nl hzb.nl (by omega) (by omega)
  obtain ⟨VNa_0, VNa_1, VNa_2, VNa_3⟩ := id VNa
  obtain ⟨VNb_0, VNb_1, VNb_2, VNb_3⟩ := id VNb
  go_wp2_with fail
  clear VNa_0 VNa_1 VNa_2 VNa_3 VNb_0 VNb_1 VNb_2 VNb_3
  refine (wadd_any _ _ _ _ _ _ _ hza hzb (by omega) (by omega)).mono ?_
  rintro e w4 ⟨t1, rfl, h1, b4⟩
  replace ht := ht.below b4
  replace hza := hza.below b4
  replace hxa := hxa.below b4
  replace hzb := hzb.below b4
  replace hxb := hxb.below b4
  replace VA := VA.below b4
  replace VB := VB.below b4
  replace VR := VR.below b4
  replace VNa := VNa.below b4
  replace VNb := VNb.below b4
  replace BB := BB.trans (b4.mono BB.size)
  clear b4
  go_wp2_with fail
  refine (lowest_at _ _ _ _ _ _ _ (h1.at _ lab) hxa (by omega) (by omega) hpa ht).mono ?_
  rintro e w5 ⟨rr, rfl, hr, b5⟩
  replace ht := ht.below b5
  replace hza := hza.below b5
  replace hxa := hxa.below b5
  replace hzb := hzb.below b5
  replace hxb := hxb.below b5
  replace h1 := h1.below b5
  replace VA := VA.below b5
  replace VB := VB.below b5
  replace VR := VR.below b5
  replace VNa := VNa.below b5
  replace VNb := VNb.below b5
  replace BB := BB.trans (b5.mono BB.size)
  clear b5
  rw [← HS.out] at hr
  obtain ⟨pr, ar, nr, cr, br, mr, dr, rfl⟩ := hr.open
  have hKp := VR.keepJ (.bool pr) (.slice ar nr cr) (.slice br mr dr)
  have ht_n := ht.keep hKp
  have hza_n := hza.keep hKp
  have hxa_n := hxa.keep hKp
  have hzb_n := hzb.keep hKp
  have hxb_n := hxb.keep hKp
  have h1_n := h1.keep hKp
  have hr_n := hr.keep hKp
  have BB_n := below_store3 (R := w.heap.size + 1 + 1) BB (by omega) (.bool pr) (.slice ar nr cr) (.slice br mr dr)
  clear hKp
  obtain ⟨q1, q2, q3, q4, q5, q6⟩ := id VR
  go_wp2
  (try simp only [Exit.inBlock, Exit.then])
  refine bodyPost_ret (v := .agg #[.bool pr, .slice ar nr cr, .slice br mr dr]) (by simp [results, go_sem, q1, q2, q3]) rfl ?_
  exact ⟨_, rfl, hr_n, BB_n⟩
 ·rw [decide_eq_false heq] at hcq
  have HS : Hid (q + r = mkRat (za * (xb : Int) + zb * (xa : Int)) (xa * xb)) := by
   show _ = _
   rw [HQa.out, HQb.out, add_mkRat _ _ _ _ hpa hpb]
  have l1 := nlz_mul hza.nl (show nl W32 (xb : Int).natAbs ≤ L by rw [Int.natAbs_natCast]; exact hxb.nl) (Nat.le_refl _)
  have l2 := nlz_mul hzb.nl (show nl W32 (xa : Int).natAbs ≤ L by rw [Int.natAbs_natCast]; exact hxa.nl) (Nat.le_refl _)
  have l3 : nl W32 (za * (xb : Int) + zb * (xa : Int)).natAbs ≤ L + L + 1 := nlz_add l1 l2 (by omega) (by omega)
  have l4 : nl W32 (xa * xb) ≤ L + L := nln_mul hxa.nl hxb.nl
  have hpp : 0 < xa * xb := Nat.mul_pos hpa hpb
  go_wp2
  have hDr : Below w3.heap.size w3 w3.drew := (Below.refl _ _).drew
  replace ht := ht.below hDr
  replace hza := hza.below hDr
  replace hxa := hxa.below hDr
  replace hzb := hzb.below hDr
  replace hxb := hxb.below hDr
  replace VA := VA.below hDr
  replace VB := VB.below hDr
  replace VR := VR.below hDr
  replace VNa := VNa.below hDr
  replace VNb := VNb.below hDr
  replace BB := BB.trans (hDr.mono BB.size)
  clear hDr
  refine wp_region_held_drew (S := (fun w' => w'.cell? ⟨R1, 0, none⟩ = some (.bool pna) ∧ w'.cell? ⟨R1, 1, none⟩ = some (.slice ana nna cna) ∧ w'.cell? ⟨R2, 0, none⟩ = some (.bool pnb) ∧ w'.cell? ⟨R2, 1, none⟩ = some (.slice anb nnb cnb))) (by kernel_rfl) ?_ (fun hHeld => ?_)
  ·exact ⟨VNa.1, VNa.2.1, VNb.1, VNb.2.1⟩
  generalize w3.drew = W3 at *
  refine wpAnyH_take (i := 0) (v := ?_) (by simp only [xL1, xL2, xL3]; rfl) (by kernel_rfl) (by kernel_rfl) (by kernel_rfl) (by exact fun _ _ _ h => h) (Or.inl ⟨by rfl, ?_⟩) (by assumption) ?_
  rotate_left
  ·(intro w hSw; (try dsimp only at hSw); go_simp; (try with_reducible rfl))
  (try simp only [Act.put, xL4, xL5, xL6])
  refine wpAnyH_take (i := 1) (v := ?_) (by simp only [xL1, xL2, xL3]; rfl) (by kernel_rfl) (by kernel_rfl) (by kernel_rfl) (by exact fun _ _ _ h => h) (Or.inl ⟨by rfl, ?_⟩) (by assumption) ?_
  rotate_left
  ·(intro w hSw; (try dsimp only at hSw); go_simp; (try with_reducible rfl))
  (try simp only [Act.put, xL4, xL5, xL6])
  refine wpAnyH_take (i := 3) (v := ?_) (by simp only [xL1, xL2, xL3]; rfl) (by kernel_rfl) (by kernel_rfl) (by kernel_rfl) (by exact fun _ _ _ h => h) (Or.inl ⟨by rfl, ?_⟩) (by assumption) ?_
  rotate_left
  ·(intro w hSw; (try dsimp only at hSw); go_simp; (try with_reducible rfl))
  (try simp only [Act.put, xL4, xL5, xL6])
  refine wpAnyH_take (i := 4) (v := ?_) (by simp only [xL1, xL2, xL3]; rfl) (by kernel_rfl) (by kernel_rfl) (by kernel_rfl) (by exact fun _ _ _ h => h) (Or.inl ⟨by rfl, ?_⟩) (by assumption) ?_
  rotate_left
  ·(intro w hSw; (try dsimp only at hSw); go_simp; (try with_reducible rfl))
  (try simp only [Act.put, xL4, xL5, xL6])
  refine wpAnyH_take (i := 7) (v := ?_) (by simp only [xL1, xL2, xL3]; rfl) (by kernel_rfl) (by kernel_rfl) (by kernel_rfl) (by exact fun _ _ _ h => h) (Or.inl ⟨by rfl, ?_⟩) (by assumption) ?_
  rotate_left
  ·(intro w hSw; (try dsimp only at hSw); go_simp; (try with_reducible rfl))
  (try simp only [Act.put, xL4, xL5, xL6])
  refine wpAnyH_take (i := 8) (v := ?_) (by simp only [xL1, xL2, xL3]; rfl) (by kernel_rfl) (by kernel_rfl) (by kernel_rfl) (by exact fun _ _ _ h => h) (Or.inl ⟨by rfl, ?_⟩) (by assumption) ?_
  rotate_left
  ·(intro w hSw; (try dsimp only at hSw); go_simp; (try with_reducible rfl))
  (try simp only [Act.put, xL4, xL5, xL6])
  refine wpAnyH_ready (rs := [2]) (by kernel_rfl) (by simp) ?_
  refine AllReadyH.cons (by simp only [xL1, xL2, xL3]; rfl) (fun K hK => ?_) AllReadyH.nil
  go_simp
  refine (times_at _ _ _ _ _ _ _ hza hxb (by omega)).mono ?_
  rintro e w4 ⟨t1, rfl, h1, b4⟩
  go_wp2_with fail
  replace ht := ht.below b4
  replace hza := hza.below b4
  replace hxa := hxa.below b4
  replace hzb := hzb.below b4
  replace hxb := hxb.below b4
  replace VA := VA.below b4
  replace VB := VB.below b4
  replace VR := VR.below b4
  replace VNa := VNa.below b4
  replace VNb := VNb.below b4
  replace BB := BB.trans (b4.mono BB.size)
  clear b4
  refine hK.out _ _ ?_ (fun hH1 => ?_)
  ·exact ⟨VNa.1, VNa.2.1, VNb.1, VNb.2.1⟩
  clear hK K hHeld
  (try simp only [Act.put, xL4, xL5, xL6])
  refine wpAnyH_ready (rs := [5]) (by kernel_rfl) (by simp) ?_
  refine AllReadyH.cons (by simp only [xL1, xL2, xL3]; rfl) (fun K hK => ?_) AllReadyH.nil
  go_simp
  refine (times_at _ _ _ _ _ _ _ hzb hxa (by omega)).mono ?_
  rintro e w5 ⟨t2, rfl, h2, b5⟩
  go_wp2_with fail
  replace ht := ht.below b5
  replace hza := hza.below b5
  replace hxa := hxa.below b5
  replace hzb := hzb.below b5
  replace hxb := hxb.below b5
  replace h1 := h1.below b5
  replace VA := VA.below b5
  replace VB := VB.below b5
  replace VR := VR.below b5
  replace VNa := VNa.below b5
  replace VNb := VNb.below b5
  replace BB := BB.trans (b5.mono BB.size)
  clear b5
  refine hK.out _ _ ?_ (fun hH2 => ?_)
  ·exact ⟨VNa.1, VNa.2.1, VNb.1, VNb.2.1⟩
  clear hK K hH1
  (try simp only [Act.put, xL4, xL5, xL6])
  refine wpAnyH_ready (rs := [6]) (by kernel_rfl) (by simp) ?_
  refine AllReadyH.cons (by simp only [xL1, xL2, xL3]; rfl) (fun K hK => ?_) AllReadyH.nil
  go_simp
  refine (wadd_any _ _ _ _ _ _ _ (h1.at _ l1) (h2.at _ l2) (by omega) (by omega)).mono ?_
  rintro e w6 ⟨t3, rfl, h3, b6⟩
  go_wp2_with fail
  replace ht := ht.below b6
  replace hza := hza.below b6
  replace hxa := hxa.below b6
  replace hzb := hzb.below b6
  replace hxb := hxb.below b6
  replace h1 := h1.below b6
  replace h2 := h2.below b6
  replace VA := VA.below b6
  replace VB := VB.below b6
  replace VR := VR.below b6
  replace VNa := VNa.below b6
  replace VNb := VNb.below b6
  replace BB := BB.trans (b6.mono BB.size)
  clear b6
  refine hK.out _ _ ?_ (fun hH3 => ?_)
  ·exact ⟨VNa.1, VNa.2.1, VNb.1, VNb.2.1⟩
  clear hK K hH2
  (try simp only [Act.put, xL4, xL5, xL6])
  refine wpAnyH_ready (rs := [9]) (by kernel_rfl) (by simp) ?_
  refine AllReadyH.cons (by simp only [xL1, xL2, xL3]; rfl) (fun K hK => ?_) AllReadyH.nil
  go_simp
  refine (nmul_at _ _ _ _ _ _ _ hxa hxb (by omega)).mono ?_
  rintro e w7 ⟨t4, rfl, h4, b7⟩
  go_wp2_with fail
  replace ht := ht.below b7
  replace hza := hza.below b7
  replace hxa := hxa.below b7
  replace hzb := hzb.below b7
  replace hxb := hxb.below b7
  replace h1 := h1.below b7
  replace h2 := h2.below b7
  replace h3 := h3.below b7
  replace VA := VA.below b7
  replace VB := VB.below b7
  replace VR := VR.below b7
  replace VNa := VNa.below b7
  replace VNb := VNb.below b7
  replace BB := BB.trans (b7.mono BB.size)
  clear b7
  refine hK.out _ _ ?_ (fun hH4 => ?_)
  ·exact ⟨VNa.1, VNa.2.1, VNb.1, VNb.2.1⟩
  clear hK K hH3
  (try simp only [Act.put, xL4, xL5, xL6])
  refine wpAnyH_ready (rs := [10]) (by kernel_rfl) (by simp) ?_
  refine AllReadyH.cons (by simp only [xL1, xL2, xL3]; rfl) (fun K hK => ?_) AllReadyH.nil
  go_simp
  refine (lowest_at _ _ _ _ _ _ _ (h3.at _ l3) (h4.at _ l4) (by omega) (by omega) hpp ht).mono ?_
  rintro e w8 ⟨rr, rfl, hr, b8⟩
  rw [← HS.out] at hr
  obtain ⟨pr, ar, nr, cr, br, mr, dr, rfl⟩ := hr.open
  go_wp2_with fail
  replace ht := ht.below b8
  replace hza := hza.below b8
  replace hxa := hxa.below b8
  replace hzb := hzb.below b8
  replace hxb := hxb.below b8
  replace h1 := h1.below b8
  replace h2 := h2.below b8
  replace h3 := h3.below b8
  replace h4 := h4.below b8
  replace VA := VA.below b8
  replace VB := VB.below b8
  replace VR := VR.below b8
  replace VNa := VNa.below b8
  replace VNb := VNb.below b8
  replace BB := BB.trans (b8.mono BB.size)
  clear b8
  refine hK.out _ _ ?_ (fun hH5 => ?_)
  ·exact ⟨VNa.1, VNa.2.1, VNb.1, VNb.2.1⟩
  clear hK K hH4
  (try simp only [Act.put, xL4, xL5, xL6])
  refine wpAnyH_ready (rs := [11]) (by kernel_rfl) (by simp) ?_
  refine AllReadyH.cons (by simp only [xL1, xL2, xL3]; rfl) (fun K hK => ?_) AllReadyH.nil
  have hKp := VR.keepJ (.bool pr) (.slice ar nr cr) (.slice br mr dr)
  have VA_n := VA.other3 (R := w.heap.size + 1 + 1) (by omega) (.bool pr) (.slice ar nr cr) (.slice br mr dr)
  have VB_n := VB.other3 (R := w.heap.size + 1 + 1) (by omega) (.bool pr) (.slice ar nr cr) (.slice br mr dr)
  have VNa_n := VNa.other3 (R := w.heap.size + 1 + 1) (by omega) (.bool pr) (.slice ar nr cr) (.slice br mr dr)
  have VNb_n := VNb.other3 (R := w.heap.size + 1 + 1) (by omega) (.bool pr) (.slice ar nr cr) (.slice br mr dr)
  have VR_n := VR.same (.bool pr) (.slice ar nr cr) (.slice br mr dr)
  have ht_n := ht.keep hKp
  have hza_n := hza.keep hKp
  have hxa_n := hxa.keep hKp
  have hzb_n := hzb.keep hKp
  have hxb_n := hxb.keep hKp
  have h1_n := h1.keep hKp
  have h2_n := h2.keep hKp
  have h3_n := h3.keep hKp
  have h4_n := h4.keep hKp
  have hr_n := hr.keep hKp
  have BB_n := below_store3 (R := w.heap.size + 1 + 1) BB (by omega) (.bool pr) (.slice ar nr cr) (.slice br mr dr)
  clear hKp
  obtain ⟨VR_0, VR_1, VR_2, VR_3, VR_4, VR_5⟩ := id VR
  go_simp
  clear VR_0 VR_1 VR_2 VR_3 VR_4 VR_5
  clear BB ht hza hxa hzb hxb h1 h2 h3 h4 hr VA VB VR VNa VNb
  generalize ((w8.setCell ⟨w.heap.size + 1 + 1, 0, none⟩ (.bool pr)).setCell ⟨w.heap.size + 1 + 1, 1, none⟩ (.slice ar nr cr)).setCell ⟨w.heap.size + 1 + 1, 2, none⟩ (.slice br mr dr) = W4 at *
  have BB := BB_n
  have ht := ht_n
  have hza := hza_n
  have hxa := hxa_n
  have hzb := hzb_n
  have hxb := hxb_n
  have h1 := h1_n
  have h2 := h2_n
  have h3 := h3_n
  have h4 := h4_n
  have hr := hr_n
  have VA := VA_n
  have VB := VB_n
  have VR := VR_n
  have VNa := VNa_n
  have VNb := VNb_n
  clear BB_n ht_n hza_n hxa_n hzb_n hxb_n h1_n h2_n h3_n h4_n hr_n VA_n VB_n VR_n VNa_n VNb_n
  refine hK.out _ _ ?_ (fun hH6 => ?_)
  ·exact ⟨VNa.1, VNa.2.1, VNb.1, VNb.2.1⟩
  clear hK K hH5
  (try simp only [Act.put, xL4, xL5, xL6])
  refine wpAnyH_done (by kernel_rfl) ?_ _
  clear hH6
  obtain ⟨q1, q2, q3, q4, q5, q6⟩ := id VR
  go_wp2
  (try simp only [Exit.inBlock, Exit.then])
  refine bodyPost_ret (v := .agg #[.bool pr, .slice ar nr cr, .slice br mr dr]) (by simp [results, go_sem, q1, q2, q3]) rfl ?_
  exact ⟨_, rfl, hr, BB⟩


theorem mkRat_zero_iff (z : Int) (x : Nat) (hx : 0 < x) : mkRat z x = 0 ↔ z = 0 := Rat.mkRat_eq_zero (by omega)

theorem shr_half (n i : Nat) : ((n : Int) / 2 ^ i) = ((n / 2 ^ i : Nat) : Int) := by rw [Int.natCast_ediv]; simp
theorem nl_ten (m K : Nat) (h : m < K) : nl W32 (10 ^ m) ≤ K :=
 nl_le W32 _ _ (by decide) (Nat.lt_of_le_of_lt (Nat.pow_le_pow_left (by decide : 10 ≤ W32) m) (Nat.pow_lt_pow_right (by decide) h))
theorem pow_bits (n i : Nat) : n % 2 ^ (i + 1) = n % 2 ^ i + 2 ^ i * (n / 2 ^ i % 2) := by
 rw [Nat.pow_succ, Nat.mod_mul]
set_option maxRecDepth 20000 in
set_option maxHeartbeats 2000000 in
theorem powTen_at (n : Nat) (w : World) (hn : n ≤ 10000) : Calls Tryz.prog 139 #[.int .i64 (n : Int)] w fun e w' => ∃ r, e = .returned r ∧ Rep w' r (10 ^ n) ∧ Below w.heap.size w w' := by
 have hT0 : n = 0 → Lib.bitLen n = 0 := fun e => by rw [e]; decide
 have hTb : n ≠ 0 → 2 ^ (Lib.bitLen n - 1) ≤ n ∧ n < 2 ^ Lib.bitLen n ∧ 0 < Lib.bitLen n := fun e => bitLen_pow n e (by omega)
 have hT14 : Lib.bitLen n ≤ 14 := Lib.bitLen_le n 14 (by omega) (by omega)
 have HT1 : Hid (n % 2 ^ Lib.bitLen n = n) := by
  show _ = _
  refine Nat.mod_eq_of_lt ?_
  by_cases e : n = 0
  ·rw [hT0 e, e]; omega
  ·exact (hTb e).2.1
 have hw1 : IntKind.u64.wrap (n : Int) = (n : Int) := by rw [IntKind.wrap_u64]; omega
 clear hT0 hTb
 have HNL : Hid (∀ m, m ≤ 20000 → nl W32 (10 ^ m) ≤ 20001) := fun m hm => nl_ten m 20001 (by omega)
 go_enter Tryz.func139, Tryz.ntmps139
 go_wp2_with fail
 refine (nof_at 1 _ (by omega)).mono ?_
 rintro e w1 ⟨o1, rfl, h1, b1⟩
 go_wp2_with fail
 refine (nof_at 10 _ (by omega)).mono ?_
 rintro e w2 ⟨o2, rfl, h2, b2⟩
 replace h1 := h1.below b2
 have BB := b1.trans (b2.mono b1.size)
 clear b1 b2
 go_wp2_with fail
 refine (blen_any (n : Int) _ (by omega) (by omega)).mono ?_
 rintro e w4 ⟨rfl, hw4⟩
 subst hw4
 rw [Int.toNat_natCast]
 generalize Lib.bitLen n = T at *
 go_wp2
 go_loopw [3, 4, 11] (fun vo vt vi wr => ∃ i : Nat, i ≤ T ∧ vi = .int .i64 (i : Int) ∧ Rep wr vo (10 ^ (n % 2 ^ i)) ∧ Rep wr vt (10 ^ (2 ^ i)) ∧ Below w.heap.size w wr) (fun _ _ vi _ => (T - intOf vi).toNat)
 case atStart => exact ⟨0, by omega, rfl, by rw [Nat.pow_zero, Nat.mod_one]; exact h1, h2, BB⟩
 case round =>
  clear h1 h2 BB
  obtain ⟨i, hi, rfl, ho, ht, BB⟩ := hrel
  by_cases hlt : i < T
  ·have j1 : (i : Int) < (T : Int) := by omega
   have hp : 2 ^ i ≤ 2 ^ 13 := Nat.pow_le_pow_right (by omega) (by omega)
   have hml : n % 2 ^ i < 2 ^ i := Nat.mod_lt _ (Nat.pow_pos (by omega))
   have l1 := HNL.out (n % 2 ^ i) (by omega)
   have l2 := HNL.out (2 ^ i) (by omega)
   have hdi := shr_half n i
   have hand := and_one_int (n / 2 ^ i) (by have := Nat.div_le_self n (2 ^ i); omega)
   have HE : Hid (10 ^ (2 ^ i) * 10 ^ (2 ^ i) = 10 ^ (2 ^ (i + 1))) := by show _ = _; rw [← Nat.pow_add, Nat.pow_succ]; congr 1; omega
   have hbit : n / 2 ^ i % 2 = 0 ∨ n / 2 ^ i % 2 = 1 := by omega
   have HO0 : Hid (n / 2 ^ i % 2 = 0 → 10 ^ (n % 2 ^ (i + 1)) = 10 ^ (n % 2 ^ i)) := fun h => by rw [pow_bits, h]; simp
   have HO1 : Hid (n / 2 ^ i % 2 = 1 → 10 ^ (n % 2 ^ (i + 1)) = 10 ^ (n % 2 ^ i) * 10 ^ (2 ^ i)) := fun h => by rw [pow_bits, h, Nat.mul_one, Nat.pow_add]
   have hi64 : i < 64 := by omega
   clear hml hp
   generalize hA : 10 ^ (n % 2 ^ i) = A at *
   generalize hP : 10 ^ (2 ^ i) = P at *
   clear hA hP
   generalize hm : n / 2 ^ i = m at *
   clear hm
   rcases hbit with hb | hb
   ·have HO := HO0.out hb
    rw [hb] at hand
    have HOO : Hid (10 ^ (n % 2 ^ (i + 1)) = A) := HO
    clear HO HO0 HO1 hb
    go_wp2_with fail
    refine (nmul_at _ _ _ _ 20001 20001 _ (ht.at _ l2) (ht.at _ l2) (by omega)).mono ?_
    rintro e w5 ⟨r5, rfl, h5, b5⟩
    replace ho := ho.below b5
    replace BB := BB.trans (b5.mono BB.size)
    clear b5 ht
    rw [HE.out] at h5
    rw [← HOO.out] at ho
    go_wp2
    go_roundw
    case rel => exact ⟨i + 1, by omega, by go_num, ho, h5, BB⟩
    case measure => simp [intOf]; omega
   ·have HO := HO1.out hb
    rw [hb] at hand
    have HOO : Hid (10 ^ (n % 2 ^ (i + 1)) = A * P) := HO
    clear HO HO0 HO1 hb
    go_wp2_with fail
    refine (nmul_at _ _ _ _ 20001 20001 _ (ho.at _ l1) (ht.at _ l2) (by omega)).mono ?_
    rintro e w4 ⟨r4, rfl, h4, b4⟩
    replace ht := ht.below b4
    replace BB := BB.trans (b4.mono BB.size)
    clear b4 ho
    go_wp2_with fail
    refine (nmul_at _ _ _ _ 20001 20001 _ (ht.at _ l2) (ht.at _ l2) (by omega)).mono ?_
    rintro e w5 ⟨r5, rfl, h5, b5⟩
    replace h4 := h4.below b5
    replace BB := BB.trans (b5.mono BB.size)
    clear b5 ht
    rw [HE.out] at h5
    rw [← HOO.out] at h4
    go_wp2
    go_roundw
    case rel => exact ⟨i + 1, by omega, by go_num, h4, h5, BB⟩
    case measure => simp [intOf]; omega
  ·have j1 : ¬ (i : Int) < (T : Int) := by omega
   obtain rfl : i = T := by omega
   rw [HT1.out] at ho
   go_wp2
   go_ret
   exact ⟨_, rfl, ho, BB⟩

end Go.Proofs.YthkamfddbiheoaaGreatDoor

namespace Go.Proofs.YthkamfddbiheoaaGreatDoor
set_option linter.unusedVariables false
set_option linter.unusedSimpArgs false

structure Nd where
 leaf : Bool
 feat : Int
 cut : Rat
 left : Int
 right : Int
 miss : Bool
 val : Rat
 cov : Rat
/-- The first place of which p holds. -/
def fb (p : Nat → Bool) (n : Nat) : Option Nat := (List.range n).find? p
theorem fb_some {p : Nat → Bool} {n i : Nat} (hi : i < n) (h : ∀ j, j < i → p j = false) (hp : p i = true) : fb p n = some i := by
 unfold fb
 rw [List.find?_range_eq_some]
 exact ⟨hp, List.mem_range.2 hi, fun j hj => by simp [h j hj]⟩
theorem fb_none {p : Nat → Bool} {n : Nat} (h : ∀ j, j < n → p j = false) : fb p n = none := by
 unfold fb
 rw [List.find?_range_eq_none]
 intro i hi
 simp [h i hi]
theorem fb_congr {p q : Nat → Bool} {n : Nat} (h : ∀ j, j < n → p j = q j) : fb p n = fb q n := by
 by_cases e : ∃ i, i < n ∧ p i = true ∧ ∀ j, j < i → p j = false
 ·obtain ⟨i, hi, h1, h2⟩ := e
  rw [fb_some hi h2 h1, fb_some hi (fun j hj => by rw [← h j (by omega)]; exact h2 j hj) (by rw [← h i hi]; exact h1)]
 ·have h0 : ∀ i, i < n → p i = false := fun i => by
   induction i using Nat.strongRecOn with
   | ind i ih =>
    intro hi
    cases c : p i
    ·rfl
    ·exact absurd ⟨i, hi, c, fun j hj => ih j hj (by omega)⟩ e
  rw [fb_none h0, fb_none (fun j hj => by rw [← h j hj]; exact h0 j hj)]
theorem fb_is {p : Nat → Bool} {n : Nat} (h : fb p n = none) : ∀ j, j < n → p j = false := by
 unfold fb at h
 rw [List.find?_range_eq_none] at h
 intro j hj
 have := h j hj
 simpa using this
/-- A node stands as a child of another. -/
def kid (t : Nat → Nd) (y x : Nat) : Prop := (t y).leaf = false ∧ ((t y).left = (x : Int) ∨ (t y).right = (x : Int))
def kc (t : Nat → Nd) (x : Nat) (i : Nat) : Nat := (if (t i).leaf = false ∧ (t i).left = (x : Int) then 1 else 0) + (if (t i).leaf = false ∧ (t i).right = (x : Int) then 1 else 0)
def par (t : Nat → Nd) (x : Nat) : Nat → Nat
 | 0 => 0
 | n + 1 => par t x n + kc t x n
theorem kid_kc {t : Nat → Nd} {y x : Nat} (h : kid t y x) : 1 ≤ kc t x y := by
 unfold kc
 rcases h.2 with e | e
 ·rw [if_pos ⟨h.1, e⟩]; omega
 ·rw [if_pos (c := (t y).leaf = false ∧ (t y).right = (x : Int)) ⟨h.1, e⟩]; omega
theorem kc_two {t : Nat → Nd} {y x : Nat} (h : (t y).leaf = false) (h1 : (t y).left = (x : Int)) (h2 : (t y).right = (x : Int)) : kc t x y = 2 := by
 unfold kc
 rw [if_pos ⟨h, h1⟩, if_pos ⟨h, h2⟩]
theorem par_ge {t : Nat → Nd} {x y : Nat} : ∀ n, y < n → kc t x y ≤ par t x n
 | 0, h => by omega
 | n + 1, h => by
  show kc t x y ≤ par t x n + kc t x n
  by_cases e : y = n
  ·subst e; omega
  ·have := par_ge (t := t) (x := x) n (show y < n by omega); omega
theorem par_ge2 {t : Nat → Nd} {x y z : Nat} : ∀ n, y < n → z < n → y ≠ z → kc t x y + kc t x z ≤ par t x n
 | 0, h, _, _ => by omega
 | n + 1, h, h', hne => by
  show _ ≤ par t x n + kc t x n
  by_cases e : y = n
  ·subst e
   have := par_ge (t := t) (x := x) (y := z) y (by omega); omega
  ·by_cases e2 : z = n
   ·subst e2
    have := par_ge (t := t) (x := x) (y := y) z (by omega); omega
   ·have := par_ge2 (t := t) (x := x) n (show y < n by omega) (show z < n by omega) hne; omega
/-- Rule 1 of a tree: what its splits name is there. -/
def Named (t : Nat → Nd) (n : Nat) : Prop := ∀ i, i < n → (t i).leaf = false → 1 ≤ (t i).left ∧ (t i).left < (n : Int) ∧ 1 ≤ (t i).right ∧ (t i).right < (n : Int)
/-- Rule 2, first half: each node but the first stands once. -/
def Once (t : Nat → Nd) (n : Nat) : Prop := ∀ i, 1 ≤ i → i < n → par t i n = 1
theorem Once.one {t : Nat → Nd} {n : Nat} (h : Once t n) {x y z : Nat} (hx : 1 ≤ x) (hxn : x < n) (hy : y < n) (hz : z < n) (k1 : kid t y x) (k2 : kid t z x) : y = z := by
 refine Classical.byContradiction (fun e => ?_)
 have := par_ge2 (t := t) (x := x) n hy hz e
 have := kid_kc k1
 have := kid_kc k2
 have := h x hx hxn
 omega
/-- The last split that names a node. -/
def upOf (t : Nat → Nd) (x : Nat) : Nat → Option Nat
 | 0 => none
 | m + 1 => if (t m).leaf = false ∧ ((t m).left = (x : Int) ∨ (t m).right = (x : Int)) then some m else upOf t x m
theorem upOf_some {t : Nat → Nd} {x p : Nat} : ∀ {m}, upOf t x m = some p → p < m ∧ kid t p x
 | 0, h => by simp [upOf] at h
 | m + 1, h => by
  unfold upOf at h
  by_cases e : (t m).leaf = false ∧ ((t m).left = (x : Int) ∨ (t m).right = (x : Int))
  ·rw [if_pos e] at h
   cases h
   exact ⟨by omega, e⟩
  ·rw [if_neg e] at h
   have := upOf_some h
   exact ⟨by omega, this.2⟩
theorem upOf_none {t : Nat → Nd} {x : Nat} : ∀ {m}, upOf t x m = none → ∀ y, y < m → ¬ kid t y x
 | 0, _ => fun y hy => by omega
 | m + 1, h => fun y hy => by
  unfold upOf at h
  by_cases e : (t m).leaf = false ∧ ((t m).left = (x : Int) ∨ (t m).right = (x : Int))
  ·rw [if_pos e] at h; cases h
  ·rw [if_neg e] at h
   by_cases g : y = m
   ·subst g; exact e
   ·exact upOf_none h y (by omega)
/-- Up from parent to parent. -/
def lawUp (t : Nat → Nd) (n : Nat) : Nat → Nat → Bool
 | 0, _ => false
 | k + 1, x => if x = 0 then true else match upOf t x n with
  | none => false
  | some p => lawUp t n k p
theorem lawUp_more {t : Nat → Nd} {n : Nat} : ∀ k x, lawUp t n k x = true → lawUp t n (k + 1) x = true
 | 0, x, h => by simp [lawUp] at h
 | k + 1, x, h => by
  unfold lawUp at h ⊢
  by_cases e : x = 0
  ·rw [if_pos e]
  ·rw [if_neg e] at h ⊢
   cases u : upOf t x n with
   | none => rw [u] at h; cases h
   | some p => rw [u] at h; exact lawUp_more k p h
theorem lawUp_le {t : Nat → Nd} {n k x : Nat} (h : lawUp t n k x = true) : ∀ d, lawUp t n (k + d) x = true
 | 0 => h
 | d + 1 => lawUp_more _ _ (lawUp_le h d)
/-- What reached has found: out, and what waits. -/
structure DInv (t : Nat → Nd) (n : Nat) (out wait : List Nat) : Prop where
 nodup : (out ++ wait).Nodup
 small : ∀ x, x ∈ out ++ wait → x < n
 below : ∀ x, x ∈ wait → x ≠ 0 → ∃ y, y ∈ out ∧ kid t y x
 order : ∀ (k x : Nat), out[k]? = some x → x ≠ 0 → ∃ j y : Nat, j < k ∧ out[j]? = some y ∧ kid t y x
 closed : ∀ y, y ∈ out → ∀ x : Nat, kid t y x → x ∈ out ++ wait
 root : 0 ∈ out ++ wait
theorem DInv.start {t : Nat → Nd} {n : Nat} (hn : 0 < n) : DInv t n [] [0] :=
 ⟨by simp, fun x hx => by simp at hx; omega, fun x hx hne => by simp at hx; omega, fun k x h => by simp at h, fun y hy => by simp at hy, by simp⟩
theorem DInv.mem {t : Nat → Nd} {n : Nat} {out wait : List Nat} (h : DInv t n out wait) {x : Nat} (hx : x ∈ out) (h0 : x ≠ 0) : ∃ y, y ∈ out ∧ kid t y x := by
 obtain ⟨k, hk⟩ := List.getElem?_of_mem hx
 obtain ⟨j, y, _, hj, k2⟩ := h.order k x hk h0
 exact ⟨y, List.mem_of_getElem? hj, k2⟩
/-- A node is taken off and is a leaf. -/
theorem DInv.leaf {t : Nat → Nd} {n : Nat} {out ws : List Nat} {i : Nat} (h : DInv t n out (ws ++ [i])) (hl : (t i).leaf = true) : DInv t n (out ++ [i]) ws := by
 have e : ∀ x, x ∈ out ++ [i] ++ ws ↔ x ∈ out ++ (ws ++ [i]) := fun x => by simp; grind
 refine ⟨?_, fun x hx => h.small x ((e x).1 hx), fun x hx h0 => ?_, fun k x hk h0 => ?_, fun y hy x kx => ?_, (e 0).2 h.root⟩
 ·have := h.nodup
  simp only [List.nodup_append, List.nodup_cons, List.mem_append, List.mem_singleton] at this ⊢
  grind
 ·obtain ⟨y, hy, k⟩ := h.below x (by simp; exact .inl hx) h0
  exact ⟨y, by simp; exact .inl hy, k⟩
 ·by_cases hlt : k < out.length
  ·rw [List.getElem?_append_left hlt] at hk
   obtain ⟨j, y, hj, hy, k2⟩ := h.order k x hk h0
   exact ⟨j, y, hj, by rw [List.getElem?_append_left (by omega)]; exact hy, k2⟩
  ·have hk2 : k = out.length := by
    have := (List.getElem?_eq_some_iff.1 hk).1
    simp at this; omega
   subst hk2
   rw [List.getElem?_append_right (Nat.le_refl _)] at hk
   simp at hk
   subst hk
   obtain ⟨y, hy, k2⟩ := h.below i (by simp) h0
   obtain ⟨j, hj⟩ := List.getElem?_of_mem hy
   have hjl := (List.getElem?_eq_some_iff.1 hj).1
   exact ⟨j, y, hjl, by rw [List.getElem?_append_left hjl]; exact hj, k2⟩
 ·rw [e]
  rcases List.mem_append.1 hy with g | g
  ·exact h.closed y g x kx
  ·simp at g
   subst g
   exact absurd kx.1 (by rw [hl]; decide)
/-- It is a split. -/
theorem DInv.split {t : Nat → Nd} {n : Nat} {out ws : List Nat} {i l r : Nat} (h : DInv t n out (ws ++ [i])) (ho : Once t n) (hl : (t i).leaf = false) (el : (t i).left = (l : Int)) (er : (t i).right = (r : Int)) (l1 : 1 ≤ l) (l2 : l < n) (r1 : 1 ≤ r) (r2 : r < n) : DInv t n (out ++ [i]) (ws ++ [r, l]) := by
 have hi : i < n := h.small i (by simp)
 have kl : kid t i l := ⟨hl, .inl el⟩
 have kr : kid t i r := ⟨hl, .inr er⟩
 have hnd := h.nodup
 have hio : i ∉ out := fun hm => by
  simp only [List.nodup_append, List.mem_append, List.mem_singleton] at hnd
  exact hnd.2.2 i hm i (.inr rfl) rfl
 have fresh : ∀ x, 1 ≤ x → x < n → kid t i x → x ∉ out ++ (ws ++ [i]) := fun x x1 x2 kx hm => by
  have hp : ∃ y, y ∈ out ∧ kid t y x := by
   rcases List.mem_append.1 hm with g | g
   ·exact h.mem g (by omega)
   ·exact h.below x g (by omega)
  obtain ⟨y, hy, ky⟩ := hp
  have hyn : y < n := h.small y (List.mem_append.2 (.inl hy))
  have := ho.one x1 x2 hyn hi ky kx
  subst this
  exact hio hy
 have fl := fresh l l1 l2 kl
 have fr := fresh r r1 r2 kr
 have hlr : l ≠ r := fun e => by
  subst e
  have a := kc_two hl el er
  have b := par_ge (t := t) (x := l) (y := i) n hi
  have c := ho l l1 l2
  omega
 have e : ∀ x, x ∈ out ++ [i] ++ (ws ++ [r, l]) ↔ (x ∈ out ++ (ws ++ [i]) ∨ x = l ∨ x = r) := fun x => by simp; grind
 refine ⟨?_, fun x hx => ?_, fun x hx h0 => ?_, fun k x hk h0 => ?_, fun y hy x kx => ?_, (e 0).2 (.inl h.root)⟩
 ·simp only [List.nodup_append, List.nodup_cons, List.mem_append, List.mem_singleton, List.mem_cons, List.not_mem_nil, or_false, not_false_eq_true, true_and] at hnd fl fr ⊢
  grind
 ·rcases (e x).1 hx with g | g | g
  ·exact h.small x g
  ·omega
  ·omega
 ·rcases List.mem_append.1 hx with g | g
  ·obtain ⟨y, hy, k⟩ := h.below x (by simp; exact .inl g) h0
   exact ⟨y, by simp; exact .inl hy, k⟩
  ·simp at g
   rcases g with g | g
   ·exact ⟨i, by simp, g ▸ kr⟩
   ·exact ⟨i, by simp, g ▸ kl⟩
 ·by_cases hlt : k < out.length
  ·rw [List.getElem?_append_left hlt] at hk
   obtain ⟨j, y, hj, hy, k2⟩ := h.order k x hk h0
   exact ⟨j, y, hj, by rw [List.getElem?_append_left (by omega)]; exact hy, k2⟩
  ·have hk2 : k = out.length := by
    have := (List.getElem?_eq_some_iff.1 hk).1
    simp at this; omega
   subst hk2
   rw [List.getElem?_append_right (Nat.le_refl _)] at hk
   simp at hk
   subst hk
   obtain ⟨y, hy, k2⟩ := h.below i (by simp) h0
   obtain ⟨j, hj⟩ := List.getElem?_of_mem hy
   have hjl := (List.getElem?_eq_some_iff.1 hj).1
   exact ⟨j, y, hjl, by rw [List.getElem?_append_left hjl]; exact hj, k2⟩
 ·rw [e]
  rcases List.mem_append.1 hy with g | g
  ·exact .inl (h.closed y g x kx)
  ·simp at g
   subst g
   rcases kx.2 with g | g
   ·exact .inr (.inl (by omega))
   ·exact .inr (.inr (by omega))
theorem nodup_len : ∀ (n : Nat) (l : List Nat), l.Nodup → (∀ x, x ∈ l → x < n) → l.length ≤ n
 | 0, l, _, h => by
  cases l with
  | nil => simp
  | cons a l => exact absurd (h a (by simp)) (by omega)
 | n + 1, l, hd, h => by
  by_cases hm : n ∈ l
  ·have := nodup_len n (l.erase n) (hd.erase n) (fun x hx => by
    have h1 := (hd.mem_erase_iff).1 hx
    have := h x h1.2
    have := h1.1
    omega)
   rw [List.length_erase_of_mem hm] at this
   have : 0 < l.length := List.length_pos_of_mem hm
   omega
  ·have := nodup_len n l hd (fun x hx => by
    have := h x hx
    have : x ≠ n := fun e => hm (e ▸ hx)
    omega)
   omega
theorem DInv.len {t : Nat → Nd} {n : Nat} {out wait : List Nat} (h : DInv t n out wait) : out.length + wait.length ≤ n := by
 have := nodup_len n _ h.nodup h.small
 rw [List.length_append] at this
 exact this
/-- All that can be reached is found, and it alone. -/
theorem DInv.all {t : Nat → Nd} {n : Nat} {out : List Nat} (h : DInv t n out []) (ho : Once t n) (x : Nat) (hx : x < n) : lawUp t n (n + 1) x = true ↔ x ∈ out := by
 have hlen := h.len
 simp at hlen
 constructor
 ·suffices ∀ k x, x < n → lawUp t n k x = true → x ∈ out from this (n + 1) x hx
  intro k
  induction k with
  | zero => intro x _ hh; simp [lawUp] at hh
  | succ k ih =>
   intro x hx hh
   unfold lawUp at hh
   by_cases e : x = 0
   ·subst e; have := h.root; simpa using this
   ·rw [if_neg e] at hh
    cases u : upOf t x n with
    | none => rw [u] at hh; cases hh
    | some p =>
     rw [u] at hh
     obtain ⟨p1, p2⟩ := upOf_some u
     have := h.closed p (ih p p1 hh) x p2
     simpa using this
 ·intro hm
  obtain ⟨k, hk⟩ := List.getElem?_of_mem hm
  have hkl := (List.getElem?_eq_some_iff.1 hk).1
  have key : ∀ k x, out[k]? = some x → lawUp t n (k + 1) x = true := by
   intro k
   induction k using Nat.strongRecOn with
   | ind k ih =>
    intro x hk
    unfold lawUp
    by_cases e : x = 0
    ·rw [if_pos e]
    ·rw [if_neg e]
     obtain ⟨j, y, hj, hy, k2⟩ := h.order k x hk e
     have hxn : x < n := h.small x (by simp; exact List.mem_of_getElem? hk)
     have hyn : y < n := h.small y (by simp; exact List.mem_of_getElem? hy)
     cases u : upOf t x n with
     | none => exact absurd k2 (upOf_none u y hyn)
     | some p =>
      obtain ⟨p1, p2⟩ := upOf_some u
      have : p = y := ho.one (by omega) hxn p1 hyn p2 k2
      subst this
      have := lawUp_le (ih j hj p hy) (k - (j + 1))
      rw [show j + 1 + (k - (j + 1)) = k by omega] at this
      exact this
  have := lawUp_le (key k x hk) (n - k)
  rw [show k + 1 + (n - k) = n + 1 by omega] at this
  exact this

/-- What the rules ask of a node: where it does not hold. -/
def bad0 (F : Int) (t : Nat → Nd) (n : Nat) (i : Nat) : Bool := !(t i).leaf && (decide ((t i).feat ≥ F) || decide ((t i).left < 1) || decide ((t i).left ≥ (n : Int)) || decide ((t i).right < 1) || decide ((t i).right ≥ (n : Int)))
def bad1 (t : Nat → Nd) (n : Nat) (i : Nat) : Bool := decide (1 ≤ i) && decide (par t i n ≠ 1)
def bad2 (t : Nat → Nd) (n : Nat) (i : Nat) : Bool := !lawUp t n (n + 1) i
def bad3 (t : Nat → Nd) (i : Nat) : Bool := decide ((t i).cov ≤ 0)
def bad4 (t : Nat → Nd) (i : Nat) : Bool := !(t i).leaf && !decide ((t i).cov = (t (t i).left.toNat).cov + (t (t i).right.toNat).cov)
/-- The first fault of a tree by a rule: its error and its node. -/
def rl (F : Int) (t : Nat → Nd) (n : Nat) : Nat → Option (Int × Nat)
 | 0 => (fb (bad0 F t n) n).map (fun i => (8, i))
 | 1 => ((fb (bad1 t n) n).or (fb (bad2 t n) n)).map (fun i => (11, i))
 | 2 => (fb (bad3 t) n).map (fun i => (12, i))
 | _ => (fb (bad4 t) n).map (fun i => (13, i))
theorem rl0_named {F : Int} {t : Nat → Nd} {n : Nat} (h : rl F t n 0 = none) : Named t n := by
 have h0 : fb (bad0 F t n) n = none := by
  show fb (bad0 F t n) n = none
  cases e : fb (bad0 F t n) n with
  | none => rfl
  | some i => simp [rl, e] at h
 intro i hi hl
 have := fb_is h0 i hi
 unfold bad0 at this
 rw [hl] at this
 simp only [Bool.not_false, Bool.true_and, Bool.or_eq_false_iff, decide_eq_false_iff_not] at this
 omega
theorem bad1_once {t : Nat → Nd} {n : Nat} (h : fb (bad1 t n) n = none) : Once t n := by
 intro i h1 hi
 have := fb_is h i hi
 unfold bad1 at this
 rw [decide_eq_true h1, Bool.true_and, decide_eq_false_iff_not] at this
 omega
/-- The first fault of a model's trees, rule by rule, tree by tree. -/
def IsFirst (F : Int) (k : Nat) (N : Nat → Nat) (T : Nat → Nat → Nd) (x : Option (Int × Nat × Nat)) : Prop :=
 (x = none ∧ ∀ r, r < 4 → ∀ i, i < k → rl F (T i) (N i) r = none) ∨
 ∃ r i e nd, r < 4 ∧ i < k ∧ x = some (e, i, nd) ∧ rl F (T i) (N i) r = some (e, nd) ∧ (∀ r', r' < r → ∀ i', i' < k → rl F (T i') (N i') r' = none) ∧ ∀ i', i' < i → rl F (T i') (N i') r = none
theorem IsFirst.one {F : Int} {k : Nat} {N : Nat → Nat} {T : Nat → Nat → Nd} {x y : Option (Int × Nat × Nat)} (h : IsFirst F k N T x) (h' : IsFirst F k N T y) : x = y := by
 rcases h with ⟨rfl, h⟩ | ⟨r, i, e, nd, hr, hi, rfl, h1, h2, h3⟩ <;> rcases h' with ⟨rfl, h'⟩ | ⟨r', i', e', nd', hr', hi', rfl, h1', h2', h3'⟩
 ·rfl
 ·rw [h r' hr' i' hi'] at h1'; cases h1'
 ·rw [h' r hr i hi] at h1; cases h1
 ·rcases Nat.lt_trichotomy r r' with g | g | g
  ·rw [h2' r g i hi] at h1; cases h1
  ·subst g
   rcases Nat.lt_trichotomy i i' with g | g | g
   ·rw [h3' i g] at h1; cases h1
   ·subst g
    rw [h1] at h1'
    cases h1'
    rfl
   ·rw [h3 i' g] at h1'; cases h1'
  ·rw [h2 r' g i' hi'] at h1'; cases h1'

end Go.Proofs.YthkamfddbiheoaaGreatDoor

namespace Go.Proofs.YthkamfddbiheoaaGreatDoor
open Go.RowKit
set_option linter.unusedVariables false
set_option linter.unusedSimpArgs false

/-- The value v is a fraction z / x, to the base 10000, of at most L limbs each, that is q. -/
def DocP (w : World) (v : Value) (z : Int) (x L : Nat) : Prop :=
 ∃ p ao n c bo m d, v = .agg #[.bool p, .slice ao n c, .slice bo m d] ∧ RepJ w (.agg #[.bool p, .slice ao n c]) z ∧ RepD w (.slice bo m d) x ∧ 0 < x ∧ nl W32 z.natAbs ≤ L ∧ nl W32 x ≤ L
def DocQ (w : World) (v : Value) (q : Rat) (L : Nat) : Prop := ∃ z x, DocP w v z x L ∧ q = mkRat z x
theorem DocP.below {w w' : World} {v : Value} {z : Int} {x L : Nat} (h : DocP w v z x L) (hb : Below w.heap.size w w') : DocP w' v z x L := by
 obtain ⟨p, ao, n, c, bo, m, d, h1, h2, h3, h4⟩ := h
 exact ⟨p, ao, n, c, bo, m, d, h1, h2.below hb, h3.below hb, h4⟩
theorem DocP.keep {w w' : World} {v : Value} {z : Int} {x L : Nat} (h : DocP w v z x L) (hk : KeepQ IsNum w w') : DocP w' v z x L := by
 obtain ⟨p, ao, n, c, bo, m, d, h1, h2, h3, h4⟩ := h
 exact ⟨p, ao, n, c, bo, m, d, h1, h2.keep hk, h3.keep hk, h4⟩
theorem DocQ.below {w w' : World} {v : Value} {q : Rat} {L : Nat} (h : DocQ w v q L) (hb : Below w.heap.size w w') : DocQ w' v q L := by
 obtain ⟨z, x, h1, h2⟩ := h; exact ⟨z, x, h1.below hb, h2⟩
theorem DocQ.keep {w w' : World} {v : Value} {q : Rat} {L : Nat} (h : DocQ w v q L) (hk : KeepQ IsNum w w') : DocQ w' v q L := by
 obtain ⟨z, x, h1, h2⟩ := h; exact ⟨z, x, h1.keep hk, h2⟩
theorem DocP.open {w : World} {v : Value} {z : Int} {x L : Nat} (h : DocP w v z x L) : ∃ p ao n c bo m d, v = .agg #[.bool p, .slice ao n c, .slice bo m d] := by
 obtain ⟨p, ao, n, c, bo, m, d, h1, _⟩ := h; exact ⟨p, ao, n, c, bo, m, d, h1⟩
theorem DocQ.open {w : World} {v : Value} {q : Rat} {L : Nat} (h : DocQ w v q L) : ∃ p ao n c bo m d, v = .agg #[.bool p, .slice ao n c, .slice bo m d] := by
 obtain ⟨z, x, h1, _⟩ := h; exact h1.open
theorem DocQ.le {w : World} {v : Value} {q : Rat} {L M : Nat} (h : DocQ w v q L) (hM : L ≤ M) : DocQ w v q M := by
 obtain ⟨z, x, ⟨p, ao, n, c, bo, m, d, h1, h2, h3, h4, h5, h6⟩, e⟩ := h
 exact ⟨z, x, ⟨p, ao, n, c, bo, m, d, h1, h2, h3, h4, by omega, by omega⟩, e⟩
theorem DocP.parts {w : World} {p : Bool} {ao : Option Addr} {n c : Nat} {bo : Option Addr} {m d : Nat} {z : Int} {x L : Nat} (h : DocP w (.agg #[.bool p, .slice ao n c, .slice bo m d]) z x L) :
  RepJ w (.agg #[.bool p, .slice ao n c]) z ∧ RepD w (.slice bo m d) x ∧ 0 < x ∧ nl W32 z.natAbs ≤ L ∧ nl W32 x ≤ L := by
 obtain ⟨p', ao', n', c', bo', m', d', e, h2, h3, h4⟩ := h
 simp only [Value.agg.injEq, Array.mk.injEq, List.cons.injEq, Value.bool.injEq, Value.slice.injEq, and_true] at e
 obtain ⟨rfl, ⟨rfl, rfl, rfl⟩, rfl, rfl, rfl⟩ := e
 exact ⟨h2, h3, h4⟩
theorem DocP.mk {w : World} {p : Bool} {ao : Option Addr} {n c : Nat} {bo : Option Addr} {m d : Nat} {z : Int} {x L : Nat} (h1 : RepJ w (.agg #[.bool p, .slice ao n c]) z) (h2 : RepD w (.slice bo m d) x) (h3 : 0 < x) (h4 : nl W32 z.natAbs ≤ L) (h5 : nl W32 x ≤ L) : DocP w (.agg #[.bool p, .slice ao n c, .slice bo m d]) z x L :=
 ⟨p, ao, n, c, bo, m, d, rfl, h1, h2, h3, h4, h5⟩
theorem RepD.open {w : World} {v : Value} {x : Nat} (h : RepD w v x) : ∃ ao c, v = .slice ao (nl 10000 x) c := by
 obtain ⟨ao, c, e, _⟩ := h; exact ⟨ao, c, e⟩
theorem RepJ.bool {w : World} {p : Bool} {ao : Option Addr} {n c : Nat} {z : Int} (h : RepJ w (.agg #[.bool p, .slice ao n c]) z) : p = decide (z < 0) := by
 obtain ⟨ao', c', e, _⟩ := h
 simp only [Value.agg.injEq, Array.mk.injEq, List.cons.injEq, Value.bool.injEq] at e
 exact e.1

theorem RatAt.raw {w : World} {p : Bool} {ao : Option Addr} {n c : Nat} {bo : Option Addr} {m d K : Nat} {f g : Nat → Int} (h1 : Nums .u64 w (.slice ao n c) n f) (h2 : U64 n f) (h3 : Nums .u64 w (.slice bo m d) m g) (h4 : U64 m g) (hn : n ≤ K) (hm : m ≤ K) :
  RatAt w (.agg #[.bool p, .slice ao n c, .slice bo m d]) (mkRat (zof p (num f n)) (num g m)) K :=
 RatAt.mk ⟨_, _, _, _, _, rfl, h1, h2, rfl, hn⟩ ⟨_, _, h3, h4, rfl, hm⟩
end Go.Proofs.YthkamfddbiheoaaGreatDoor

namespace Go.Proofs.YthkamfddbiheoaaGreatDoor
open Go.RowKit
set_option linter.unusedVariables false

/-- A limb, or a byte of a table. -/
def IsLimb (v : Value) : Prop := ∃ x, v = .int .u64 x ∨ v = .int .u8 x
theorem limb_int (x : Int) : ¬ IsLimb (.int .i64 x) := fun ⟨_, h⟩ => by rcases h with h | h <;> cases h
theorem Nums.keepL {w w' : World} {v : Value} {n : Nat} {f : Nat → Int} (h : Nums .u64 w v n f) (hk : KeepQ IsLimb w w') : Nums .u64 w' v n f := by
 obtain ⟨ao, c, h1, h2, h3, h4⟩ := h
 exact ⟨ao, c, h1, h2, h3, fun hn => let ⟨b, off, e, hc⟩ := h4 hn; ⟨b, off, e, fun i hi => hk _ _ _ ⟨_, .inl rfl⟩ (hc i hi)⟩⟩
theorem Rep.keepL {w w' : World} {v : Value} {m : Nat} (h : Rep w v m) (hk : KeepQ IsLimb w w') : Rep w' v m := Nums.keepL h hk
theorem RepI.keepL {w w' : World} {v : Value} {z : Int} (h : RepI w v z) (hk : KeepQ IsLimb w w') : RepI w' v z := by
 obtain ⟨ao, c, h1, h2⟩ := h
 exact ⟨ao, c, h1, Nums.keepL h2 hk⟩
theorem IntAt.keepL {w w' : World} {v : Value} {z : Int} {L : Nat} (h : IntAt w v z L) (hk : KeepQ IsLimb w w') : IntAt w' v z L := by
 obtain ⟨neg, ao, n, c, f, h1, h2, h3⟩ := h
 exact ⟨neg, ao, n, c, f, h1, h2.keepL hk, h3⟩
theorem NatAt.keepL {w w' : World} {v : Value} {x L : Nat} (h : NatAt w v x L) (hk : KeepQ IsLimb w w') : NatAt w' v x L := by
 obtain ⟨n, f, h1, h2⟩ := h; exact ⟨n, f, h1.keepL hk, h2⟩
theorem RatAt.keepL {w w' : World} {v : Value} {q : Rat} {L : Nat} (h : RatAt w v q L) (hk : KeepQ IsLimb w w') : RatAt w' v q L := by
 obtain ⟨p, ao, n, c, bo, m, d, z, x, h1, h2, h3, h4⟩ := h
 exact ⟨p, ao, n, c, bo, m, d, z, x, h1, h2.keepL hk, h3.keepL hk, h4⟩
theorem RepQ.keepL {w w' : World} {v : Value} {q : Rat} (h : RepQ w v q) (hk : KeepQ IsLimb w w') : RepQ w' v q := by
 obtain ⟨p, ao, n, c, bo, m, d, h1, h2, h3⟩ := h
 exact ⟨p, ao, n, c, bo, m, d, h1, h2.keepL hk, h3.keepL hk⟩
theorem Tab.keepL {w w' : World} (h : Tab w) (hk : KeepQ IsLimb w w') : Tab w' := fun i hi => hk _ _ _ ⟨_, .inr rfl⟩ (h i hi)
theorem keepL_set {w : World} {a : Addr} {old : Value} (h : w.cell? a = some old) (hn : ¬ IsLimb old) (x : Value) : KeepQ IsLimb w (w.setCell a x) := by
 intro b o v hv hc
 rw [World.cell?_setCell_other _ _ _ _ (fun e => by rw [← e, h] at hc; cases hc; exact hn hv)]
 exact hc
end Go.Proofs.YthkamfddbiheoaaGreatDoor

namespace Go.Proofs.YthkamfddbiheoaaGreatDoor
open Go.RowKit
set_option linter.unusedVariables false
set_option linter.unusedSimpArgs false


theorem cmpQ_le (a b : Rat) : decide (cmpQ a b ≤ 0) = decide (a ≤ b) := by
 unfold cmpQ
 by_cases h1 : a < b
 ·rw [if_pos h1, decide_eq_true (Rat.le_of_lt h1)]; rfl
 ·rw [if_neg h1]
  by_cases h2 : b < a
  ·rw [if_pos h2, decide_eq_false (Rat.not_le.2 h2)]; rfl
  ·rw [if_neg h2, decide_eq_true (Rat.not_lt.1 h2)]; rfl



/-- A slice of n rational numbers, each of at most L limbs above and below. -/
def QRow (w : World) (v : Value) (n : Nat) (q : Nat → Rat) (L : Nat) : Prop := ∃ el, RowAt 3 w v n el ∧ ∀ i, i < n → RatAt w (.agg #[el i 0, el i 1, el i 2]) (q i) L
theorem QRow.below {w w' : World} {v : Value} {n : Nat} {q : Nat → Rat} {L : Nat} (h : QRow w v n q L) (hb : Below w.heap.size w w') : QRow w' v n q L := by
 obtain ⟨el, h1, h2⟩ := h
 exact ⟨el, h1.below hb, fun i hi => (h2 i hi).below hb⟩
theorem QRow.cut {w : World} {v : Value} {n : Nat} {q : Nat → Rat} {L : Nat} (h : QRow w v n q L) (m : Nat) (h0 : 0 < m) (hm : m < n) :
  ∃ b off c, v = .slice (some ⟨b, off, none⟩) n c ∧ n ≤ c ∧ c ≤ 9223372036854775807 ∧ QRow w (.slice (some ⟨b, off, none⟩) m c) m q L ∧ QRow w (.slice (some ⟨b, off + m * 3, none⟩) (n - m) (c - m)) (n - m) (fun i => q (m + i)) L := by
 obtain ⟨el, h1, h2⟩ := h
 obtain ⟨b, off, c, e, hc, hM, p1, p2⟩ := h1.cut m h0 hm
 exact ⟨b, off, c, e, hc, hM, ⟨el, p1, fun i hi => h2 i (by omega)⟩, ⟨_, p2, fun i hi => h2 (m + i) (by omega)⟩⟩
theorem QRow.sz {w : World} {v : Value} {n : Nat} {q : Nat → Rat} {L : Nat} (h : QRow w v n q L) (hL : 1 ≤ L) (i : Nat) (hi : i < n) : qsz (q i) ≤ L := by
 obtain ⟨el, _, h2⟩ := h; exact (h2 i hi).qsz hL


end Go.Proofs.YthkamfddbiheoaaGreatDoor
