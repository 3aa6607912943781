/-
  Texts of mine, joined: what lies beneath the statement.
-/
import Derived.Test.YtfibpckhbgemcaaGreatDoorJ89437c283b
import Derived.Test.YtfibpckhbgemcaaGreatDoorJ9dac41a4bd
import Derived.Test.YtfibpckhbgemcaaGreatDoorJa6b2fcc679
import Derived.Test.YtfibpckhbgemcaaGreatDoorJ87c88de587
import Derived.Test.YtfibpckhbgemcaaGreatDoorJ1960f01a18
namespace Go.Proofs.YtfibpckhbgemcaaGreatDoor
open Go.RowKit
set_option linter.unusedVariables false

/-- The value v is limbs, at most L, of the number x. -/
def NatAt (w : World) (v : Value) (x L : Nat) : Prop := ∃ n f, Nums .u64 w v n f ∧ U64 n f ∧ x = num f n ∧ n ≤ L
theorem NatAt.below {w w' : World} {v : Value} {x L : Nat} (h : NatAt w v x L) (hb : Below w.heap.size w w') : NatAt w' v x L := by
  obtain ⟨n, f, h1, h2⟩ := h; exact ⟨n, f, h1.below hb, h2⟩
theorem NatAt.keep {w w' : World} {v : Value} {x L : Nat} (h : NatAt w v x L) (hk : KeepQ IsNum w w') : NatAt w' v x L := by
  obtain ⟨n, f, h1, h2⟩ := h; exact ⟨n, f, h1.keep hk, h2⟩
theorem NatAt.nl {w : World} {v : Value} {x L : Nat} (h : NatAt w v x L) : nl W32 x ≤ L := by
  obtain ⟨n, f, _, _, rfl, hn⟩ := h
  exact Nat.le_trans (nl_le W32 _ n (by decide) (num_lt f n)) hn
theorem NatAt.open {w : World} {v : Value} {x L : Nat} (h : NatAt w v x L) : ∃ ao n c, v = .slice ao n c := by
  obtain ⟨n, f, ⟨ao, c, e, _⟩, _⟩ := h; exact ⟨ao, n, c, e⟩
theorem NatAt.le {w : World} {v : Value} {x L M : Nat} (h : NatAt w v x L) (hM : L ≤ M) : NatAt w v x M := by
  obtain ⟨n, f, h1, h2, h3, h4⟩ := h; exact ⟨n, f, h1, h2, h3, by omega⟩
theorem IntAt.le {w : World} {v : Value} {z : Int} {L M : Nat} (h : IntAt w v z L) (hM : L ≤ M) : IntAt w v z M := by
  obtain ⟨neg, ao, n, c, f, h1, h2, h3, h4, h5⟩ := h; exact ⟨neg, ao, n, c, f, h1, h2, h3, h4, by omega⟩
theorem Rep.at {w : World} {v : Value} {x : Nat} (h : Rep w v x) (L : Nat) (hL : nl W32 x ≤ L) : NatAt w v x L := ⟨_, _, h, u64_dg _ _, (num_nl x).symm, hL⟩
theorem Rep.open {w : World} {v : Value} {x : Nat} (h : Rep w v x) : ∃ ao n c, v = .slice ao n c := by
  obtain ⟨ao, c, e, _⟩ := h; exact ⟨ao, _, c, e⟩
theorem IntAt.abs {w : World} {p : Bool} {ao : Option Addr} {n c : Nat} {z : Int} {L : Nat} (h : IntAt w (.agg #[.bool p, .slice ao n c]) z L) : NatAt w (.slice ao n c) z.natAbs L := by
  obtain ⟨neg, ao', n', c', f, e, h2, h3, rfl, h5⟩ := h
  simp only [Value.agg.injEq, Array.mk.injEq, List.cons.injEq, Value.slice.injEq, and_true] at e
  obtain ⟨_, rfl, rfl, rfl⟩ := e
  exact ⟨_, f, h2, h3, (zof_abs _ _), h5⟩
theorem IntAt.mk {w : World} {p : Bool} {ao : Option Addr} {n c : Nat} {x : Nat} {L : Nat} (h : NatAt w (.slice ao n c) x L) : IntAt w (.agg #[.bool p, .slice ao n c]) (zof p x) L := by
  obtain ⟨n', f, h1, h2, rfl, h4⟩ := h
  have e : n' = n := by obtain ⟨ao', c', e, _⟩ := h1; simp only [Value.slice.injEq] at e; exact e.2.1.symm
  subst e
  exact ⟨p, ao, n', c, f, rfl, h1, h2, rfl, h4⟩
theorem IntAt.bool {w : World} {p : Bool} {ao : Option Addr} {n c : Nat} {z : Int} {L : Nat} (h : IntAt w (.agg #[.bool p, .slice ao n c]) z L) : z = zof p z.natAbs := by
  obtain ⟨neg, ao', n', c', f, e, _, _, rfl, _⟩ := h
  simp only [Value.agg.injEq, Array.mk.injEq, List.cons.injEq, Value.bool.injEq] at e
  rw [zof_abs, e.1]

/-- The value v is parts, of at most L limbs each, of the number q; a divisor 0 makes it 0. -/
def RatAt (w : World) (v : Value) (q : Rat) (L : Nat) : Prop :=
  ∃ p ao n c bo m d z x, v = .agg #[.bool p, .slice ao n c, .slice bo m d] ∧ IntAt w (.agg #[.bool p, .slice ao n c]) z L ∧ NatAt w (.slice bo m d) x L ∧ q = mkRat z x
theorem RatAt.below {w w' : World} {v : Value} {q : Rat} {L : Nat} (h : RatAt w v q L) (hb : Below w.heap.size w w') : RatAt w' v q L := by
  obtain ⟨p, ao, n, c, bo, m, d, z, x, h1, h2, h3, h4⟩ := h
  exact ⟨p, ao, n, c, bo, m, d, z, x, h1, h2.below hb, h3.below hb, h4⟩
theorem RatAt.keep {w w' : World} {v : Value} {q : Rat} {L : Nat} (h : RatAt w v q L) (hk : KeepQ IsNum w w') : RatAt w' v q L := by
  obtain ⟨p, ao, n, c, bo, m, d, z, x, h1, h2, h3, h4⟩ := h
  exact ⟨p, ao, n, c, bo, m, d, z, x, h1, h2.keep hk, h3.keep hk, h4⟩
theorem RatAt.le {w : World} {v : Value} {q : Rat} {L M : Nat} (h : RatAt w v q L) (hM : L ≤ M) : RatAt w v q M := by
  obtain ⟨p, ao, n, c, bo, m, d, z, x, h1, h2, h3, h4⟩ := h
  exact ⟨p, ao, n, c, bo, m, d, z, x, h1, h2.le hM, h3.le hM, h4⟩
theorem RatAt.open {w : World} {v : Value} {q : Rat} {L : Nat} (h : RatAt w v q L) : ∃ p ao n c bo m d, v = .agg #[.bool p, .slice ao n c, .slice bo m d] := by
  obtain ⟨p, ao, n, c, bo, m, d, z, x, h1, _⟩ := h
  exact ⟨p, ao, n, c, bo, m, d, h1⟩
theorem RatAt.parts {w : World} {p : Bool} {ao : Option Addr} {n c : Nat} {bo : Option Addr} {m d : Nat} {q : Rat} {L : Nat} (h : RatAt w (.agg #[.bool p, .slice ao n c, .slice bo m d]) q L) :
    ∃ z x, IntAt w (.agg #[.bool p, .slice ao n c]) z L ∧ NatAt w (.slice bo m d) x L ∧ q = mkRat z x := by
  obtain ⟨p', ao', n', c', bo', m', d', z, x, e, h2, h3, h4⟩ := h
  simp only [Value.agg.injEq, Array.mk.injEq, List.cons.injEq, Value.bool.injEq, Value.slice.injEq, and_true] at e
  obtain ⟨rfl, ⟨rfl, rfl, rfl⟩, rfl, rfl, rfl⟩ := e
  exact ⟨z, x, h2, h3, h4⟩
theorem RatAt.mk {w : World} {p : Bool} {ao : Option Addr} {n c : Nat} {bo : Option Addr} {m d : Nat} {z : Int} {x L : Nat} (h1 : IntAt w (.agg #[.bool p, .slice ao n c]) z L) (h2 : NatAt w (.slice bo m d) x L) : RatAt w (.agg #[.bool p, .slice ao n c, .slice bo m d]) (mkRat z x) L :=
  ⟨p, ao, n, c, bo, m, d, z, x, rfl, h1, h2, rfl⟩

/-- How many limbs the longer part has. -/
def qsz (q : Rat) : Nat := max (nl W32 q.num.natAbs) (nl W32 q.den)
/-- The value v is the number q in its one form. -/
def RepQ (w : World) (v : Value) (q : Rat) : Prop :=
  ∃ p ao n c bo m d, v = .agg #[.bool p, .slice ao n c, .slice bo m d] ∧ RepI w (.agg #[.bool p, .slice ao n c]) q.num ∧ Rep w (.slice bo m d) q.den
theorem RepQ.below {w w' : World} {v : Value} {q : Rat} (h : RepQ w v q) (hb : Below w.heap.size w w') : RepQ w' v q := by
  obtain ⟨p, ao, n, c, bo, m, d, h1, h2, h3⟩ := h
  exact ⟨p, ao, n, c, bo, m, d, h1, h2.below hb, h3.below hb⟩
theorem RepQ.keep {w w' : World} {v : Value} {q : Rat} (h : RepQ w v q) (hk : KeepQ IsNum w w') : RepQ w' v q := by
  obtain ⟨p, ao, n, c, bo, m, d, h1, h2, h3⟩ := h
  exact ⟨p, ao, n, c, bo, m, d, h1, h2.keep hk, h3.keep hk⟩
theorem RepQ.open {w : World} {v : Value} {q : Rat} (h : RepQ w v q) : ∃ p ao n c bo m d, v = .agg #[.bool p, .slice ao n c, .slice bo m d] := by
  obtain ⟨p, ao, n, c, bo, m, d, h1, _⟩ := h
  exact ⟨p, ao, n, c, bo, m, d, h1⟩
theorem RepQ.mk {w : World} {p : Bool} {ao : Option Addr} {n c : Nat} {bo : Option Addr} {m d : Nat} {q : Rat} (h1 : RepI w (.agg #[.bool p, .slice ao n c]) q.num) (h2 : Rep w (.slice bo m d) q.den) : RepQ w (.agg #[.bool p, .slice ao n c, .slice bo m d]) q :=
  ⟨p, ao, n, c, bo, m, d, rfl, h1, h2⟩
theorem RepQ.parts {w : World} {p : Bool} {ao : Option Addr} {n c : Nat} {bo : Option Addr} {m d : Nat} {q : Rat} (h : RepQ w (.agg #[.bool p, .slice ao n c, .slice bo m d]) q) :
    RepI w (.agg #[.bool p, .slice ao n c]) q.num ∧ Rep w (.slice bo m d) q.den := by
  obtain ⟨p', ao', n', c', bo', m', d', e, h2, h3⟩ := h
  simp only [Value.agg.injEq, Array.mk.injEq, List.cons.injEq, Value.bool.injEq, Value.slice.injEq, and_true] at e
  obtain ⟨rfl, ⟨rfl, rfl, rfl⟩, rfl, rfl, rfl⟩ := e
  exact ⟨h2, h3⟩
theorem RepQ.at {w : World} {v : Value} {q : Rat} (h : RepQ w v q) (L : Nat) (hL : qsz q ≤ L) : RatAt w v q L := by
  obtain ⟨p, ao, n, c, bo, m, d, h1, h2, h3⟩ := h
  unfold qsz at hL
  exact ⟨p, ao, n, c, bo, m, d, q.num, q.den, h1, h2.at L (by omega), h3.at L (by omega), (Rat.mkRat_self q).symm⟩
/-- Nothing: the zero value. -/
theorem RatAt.nil (w : World) (L : Nat) : RatAt w (.agg #[.bool false, .slice none 0 0, .slice none 0 0]) 0 L := by
  have h0 : NatAt w (.slice none 0 0) 0 L := ⟨0, fun _ => 0, Nums.nil _ _ _, fun i hi => by omega, rfl, by omega⟩
  have h1 : IntAt w (.agg #[.bool false, .slice none 0 0]) 0 L := IntAt.mk h0
  have := RatAt.mk h1 h0
  simpa using this

/-- The form of a fraction. -/
theorem mkRat_low (z : Int) (x : Nat) (hx : 0 < x) : (mkRat z x).num = z.fdiv ((Nat.gcd z.natAbs x : Nat) : Int) ∧ (mkRat z x).den = x / Nat.gcd z.natAbs x := by
  rw [Rat.num_mkRat, Rat.den_mkRat, if_neg (by omega), if_neg (by omega), Nat.gcd_comm x]
  refine ⟨?_, rfl⟩
  have hg : 0 < Nat.gcd z.natAbs x := Nat.gcd_pos_of_pos_right _ hx
  rw [Int.fdiv_eq_ediv_of_nonneg _ (by omega)]
theorem nl_num_mkRat (z : Int) (x L : Nat) (h1 : nl W32 z.natAbs ≤ L) (h2 : nl W32 x ≤ L) (hL : 1 ≤ L) : qsz (mkRat z x) ≤ L := by
  unfold qsz
  have hn : (mkRat z x).num.natAbs ≤ z.natAbs := by
    rw [Rat.num_mkRat]
    split
    · simp
    · exact Int.natAbs_ediv_le_natAbs _ _
  have hd : (mkRat z x).den ≤ max 1 x := by
    rw [Rat.den_mkRat]
    split
    · omega
    · exact Nat.le_trans (Nat.div_le_self _ _) (Nat.le_max_right _ _)
  have e1 := Nat.le_trans (nl_mono W32 _ _ (by decide) hn) h1
  have e2 := nl_mono W32 _ _ (by decide) hd
  have e3 : nl W32 (max 1 x) ≤ L := by
    rcases Nat.le_total 1 x with h | h
    · rw [Nat.max_eq_right h]; exact h2
    · rw [Nat.max_eq_left h]; exact Nat.le_trans (nl_small7 1 (by omega)) hL
  omega
theorem RatAt.qsz {w : World} {v : Value} {q : Rat} {L : Nat} (h : RatAt w v q L) (hL : 1 ≤ L) : qsz q ≤ L := by
  obtain ⟨p, ao, n, c, bo, m, d, z, x, h1, h2, h3, rfl⟩ := h
  exact nl_num_mkRat z x L h2.nl h3.nl hL

-- nat's functions, of any limbs
theorem ngcd_at (u v : Value) (x y L M : Nat) (w : World) (hu : NatAt w u x L) (hv : NatAt w v y M) (hL : L ≤ 900000) (hM : M ≤ 900000) (ht : Tab w) :
    Calls Tryz.prog 60 #[u, v] w fun e w' => ∃ r, e = .returned r ∧ Rep w' r (Nat.gcd x y) ∧ Below w.heap.size w w' := by
  have hx := hu.nl
  have hy := hv.nl
  obtain ⟨n, f, h1, h2, rfl, h4⟩ := hu
  obtain ⟨m, g, k1, k2, rfl, k4⟩ := hv
  exact gcd_any u v n m f g w h1 k1 h2 k2 (by omega) (by omega) ht
theorem ndiv_at (u v : Value) (x y L M : Nat) (w : World) (hu : NatAt w u x L) (hv : NatAt w v y M) (hL : L ≤ 999999) (hy : 0 < y) :
    Calls Tryz.prog 62 #[u, v] w fun e w' => ∃ q r, e = .returned (.tuple #[q, r, .int .i64 0]) ∧ Rep w' q (x / y) ∧ Rep w' r (x % y) ∧ Below w.heap.size w w' := by
  have hx := hu.nl
  obtain ⟨n, f, h1, h2, rfl, h4⟩ := hu
  obtain ⟨m, g, k1, k2, rfl, k4⟩ := hv
  refine (divMod_of u v n m f g w h1 k1 h2 k2 (by omega) (divide_any _ _ hy (by omega))).mono ?_
  rintro e w1 ⟨q, r, rfl, hq, hr, hb⟩
  exact ⟨q, r, rfl, hq.rep, hr.rep, hb⟩
theorem nmul_at (u v : Value) (x y L M : Nat) (w : World) (hu : NatAt w u x L) (hv : NatAt w v y M) (hLM : L + M ≤ 400000) :
    Calls Tryz.prog 44 #[u, v] w fun e w' => ∃ r, e = .returned r ∧ Rep w' r (x * y) ∧ Below w.heap.size w w' := by
  obtain ⟨n, f, h1, h2, rfl, h4⟩ := hu
  obtain ⟨m, g, k1, k2, rfl, k4⟩ := hv
  refine (mul_wide u v n m f g w h1 k1 h2 k2 (by omega)).mono ?_
  rintro e w1 ⟨r, rfl, hr, hb⟩
  exact ⟨r, rfl, hr.nums, hb⟩
theorem nadd_at (u v : Value) (x y L M : Nat) (w : World) (hu : NatAt w u x L) (hv : NatAt w v y M) (hL : L ≤ 999999) (hM : M ≤ 999999) :
    Calls Tryz.prog 67 #[u, v] w fun e w' => ∃ r, e = .returned r ∧ Rep w' r (x + y) ∧ Below w.heap.size w w' := by
  obtain ⟨n, f, h1, h2, rfl, h4⟩ := hu
  obtain ⟨m, g, k1, k2, rfl, k4⟩ := hv
  refine (add_any u v n m f g w h1 k1 h2 k2 (by omega) (by omega)).mono ?_
  rintro e w1 ⟨r, rfl, hr, hb⟩
  exact ⟨r, rfl, hr.rep, hb⟩

end Go.Proofs.YtfibpckhbgemcaaGreatDoor

namespace Go.Proofs.YtfibpckhbgemcaaGreatDoor
open Go.RowKit
set_option linter.unusedVariables false
set_option linter.unusedSimpArgs false

theorem nzero_at (v : Value) (x L : Nat) (w : World) (hv : NatAt w v x L) : Calls Tryz.prog 34 #[v] w fun e w' => e = .returned (.bool (decide (x = 0))) ∧ w' = w := by
  obtain ⟨n, f, h1, h2, rfl, _⟩ := hv
  have h := zero_any v n f w h1 h2
  rw [num_sz, decide_eq_decide.2 (nl_eq_zero W32 _ (by decide))] at h
  exact h
theorem ncmp_at (u v : Value) (x y L M : Nat) (w : World) (hu : NatAt w u x L) (hv : NatAt w v y M) : Calls Tryz.prog 47 #[u, v] w fun e w' => e = .returned (.int .i64 (cmpI x y)) ∧ Below w.heap.size w w' := by
  obtain ⟨n, f, h1, h2, rfl, _⟩ := hu
  obtain ⟨m, g, k1, k2, rfl, _⟩ := hv
  exact cmp_any u v n m f g w h1 k1 h2 k2
theorem nof_at (k : Nat) (w : World) (hk : k < 18446744073709551616) : Calls Tryz.prog 36 #[.int .u64 (k : Int)] w fun e w' => ∃ r, e = .returned r ∧ Rep w' r k ∧ Below w.heap.size w w' := by
  refine (of_any (k : Int) w (by omega) (by omega)).mono ?_
  rintro e w1 ⟨r, rfl, hr, hb⟩
  rw [Int.toNat_natCast] at hr
  exact ⟨r, rfl, hr.nums, hb⟩
theorem nlw_one : nl W32 1 ≤ 1 := nl_small7 1 (by omega)
theorem cmp_one (x : Nat) : (cmpI (x : Int) ((1 : Nat) : Int) == 0) = decide (x = 1) := by
  unfold cmpI
  rcases (show x < 1 ∨ x = 1 ∨ 1 < x by omega) with h | h | h
  · rw [if_pos (by omega), decide_eq_false (by omega)]; rfl
  · subst h; rfl
  · rw [if_neg (by omega), if_pos (by omega), decide_eq_false (by omega)]; rfl


set_option maxRecDepth 20000 in
set_option maxHeartbeats 400000 in
theorem isOne_at (v : Value) (x L : Nat) (w : World) (hv : NatAt w v x L) :
    Calls Tryz.prog 59 #[v] w fun e w' => e = .returned (.bool (decide (x = 1))) ∧ Below w.heap.size w w' := by
  have BB : Below w.heap.size w w := Below.refl _ _
  go_enter Tryz.func59, Tryz.ntmps59
  go_wp2_with fail
  refine (nof_at 1 _ (by omega)).mono ?_
  rintro e w1 ⟨r, rfl, hr, b1⟩
  replace hv := hv.below b1
  replace BB := BB.trans (b1.mono BB.size)
  clear b1
  go_wp2_with fail
  refine (ncmp_at _ _ _ _ _ 1 _ hv (hr.at 1 nlw_one)).mono ?_
  rintro e w2 ⟨rfl, b2⟩
  replace hv := hv.below b2
  replace hr := hr.below b2
  replace BB := BB.trans (b2.mono BB.size)
  clear b2
  have hq := cmp_one x
  generalize cmpI (x : Int) ((1 : Nat) : Int) = cc at *
  go_wp2
  go_ret
  exact ⟨rfl, BB⟩


set_option maxRecDepth 20000 in
set_option maxHeartbeats 1000000 in
theorem times_at (u v : Value) (z : Int) (x L M : Nat) (w : World) (hu : IntAt w u z L) (hv : NatAt w v x M) (hLM : L + M ≤ 400000) :
    Calls Tryz.prog 49 #[u, v] w fun e w' => ∃ r, e = .returned r ∧ RepI w' r (z * (x : Int)) ∧ Below w.heap.size w w' := by
  obtain ⟨p, ao, n, c, rfl⟩ := hu.open
  obtain ⟨bo, m, d, rfl⟩ := hv.open
  have BB : Below w.heap.size w w := Below.refl _ _
  obtain ⟨Wb0, hW0, hS0, hL0, VA⟩ := V2.lay w 27 (.bool p) (.slice ao n c)
  replace hu := hu.below hL0
  replace hv := hv.below hL0
  replace BB := BB.trans (hL0.mono BB.size)
  clear hL0
  obtain ⟨Wb1, hW1, hS1, hL1, VR⟩ := V2.lay Wb0 27 (.bool false) (.slice none 0 0)
  rw [hS0] at VR hS1
  replace hu := hu.below hL1
  replace hv := hv.below hL1
  replace VA := VA.below hL1
  replace BB := BB.trans (hL1.mono BB.size)
  clear hL1
  go_enter Tryz.func49, Tryz.ntmps49
  go_wp2_with fail
  rw [← hW0]
  rw [← hW1]
  clear hW0 hW1 hS0 hS1
  refine (wmul_any _ _ _ _ _ _ _ hu (IntAt.mk (p := false) hv) hLM).mono ?_
  rintro e w1 ⟨r, rfl, hr, b1⟩
  replace hu := hu.below b1
  replace hv := hv.below b1
  replace VA := VA.below b1
  replace VR := VR.below b1
  replace BB := BB.trans (b1.mono BB.size)
  clear b1
  obtain ⟨pr, ar, nr, cr, rfl⟩ := hr.open
  rw [zof_false] at hr
  have hKp := VR.keepJ (.bool pr) (.slice ar nr cr)
  have hu_n := hu.keep hKp
  have hv_n := hv.keep hKp
  have hr_n := hr.keep hKp
  have BB_n := below_store2 (R := w.heap.size + 1) BB (by omega) (.bool pr) (.slice ar nr cr)
  clear hKp
  obtain ⟨q1, q2, q3, q4⟩ := id VR
  go_wp2
  (try simp only [Exit.inBlock, Exit.then])
  refine bodyPost_ret (v := .agg #[.bool pr, .slice ar nr cr]) (by simp [results, go_sem, q1, q2]) rfl ?_
  exact ⟨_, rfl, hr_n, BB_n⟩


theorem RepI.abs {w : World} {p : Bool} {ao : Option Addr} {n c : Nat} {z : Int} (h : RepI w (.agg #[.bool p, .slice ao n c]) z) : Rep w (.slice ao n c) z.natAbs := by
  obtain ⟨ao', c', e, hd⟩ := h
  simp only [Value.agg.injEq, Array.mk.injEq, List.cons.injEq, Value.slice.injEq, and_true] at e
  obtain ⟨_, rfl, rfl, rfl⟩ := e
  exact hd


set_option maxRecDepth 20000 in
set_option maxHeartbeats 1000000 in
theorem divide_at (u v : Value) (z : Int) (x L M : Nat) (w : World) (hu : IntAt w u z L) (hv : NatAt w v x M) (hL : L ≤ 999998) (hx : 0 < x) :
    Calls Tryz.prog 61 #[u, v] w fun e w' => ∃ r s, e = .returned (.tuple #[r, s]) ∧ RepI w' r (z.fdiv (x : Int)) ∧ Rep w' s (z.fmod (x : Int)).natAbs ∧ Below w.heap.size w w' := by
  obtain ⟨p, ao, n, c, rfl⟩ := hu.open
  obtain ⟨bo, m, d, rfl⟩ := hv.open
  have BB : Below w.heap.size w w := Below.refl _ _
  obtain ⟨Wb0, hW0, hS0, hL0, VA⟩ := V2.lay w 27 (.bool p) (.slice ao n c)
  replace hu := hu.below hL0
  replace hv := hv.below hL0
  replace BB := BB.trans (hL0.mono BB.size)
  clear hL0
  obtain ⟨Wb1, hW1, hS1, hL1, VR⟩ := V2.lay Wb0 27 (.bool false) (.slice none 0 0)
  rw [hS0] at VR hS1
  replace hu := hu.below hL1
  replace hv := hv.below hL1
  replace VA := VA.below hL1
  replace BB := BB.trans (hL1.mono BB.size)
  clear hL1
  go_enter Tryz.func61, Tryz.ntmps61
  go_wp2_with fail
  rw [← hW0]
  rw [← hW1]
  clear hW0 hW1 hS0 hS1
  refine (wdivMod_any _ _ _ ((zof false x : Int)) _ _ _ hu (IntAt.mk (p := false) hv) hL (by rw [zof_false]; omega)).mono ?_
  rintro e w1 ⟨vq, vr, rfl, hq, hr, b1⟩
  replace hu := hu.below b1
  replace hv := hv.below b1
  replace VA := VA.below b1
  replace VR := VR.below b1
  replace BB := BB.trans (b1.mono BB.size)
  clear b1
  rw [zof_false] at hq hr
  obtain ⟨pq, aq, nq, cq, rfl⟩ := hq.open
  obtain ⟨pr, ar, nr, cr, rfl⟩ := hr.open
  have hZ1 : w.heap.size ≤ w1.heap.size := BB.size
  have hN1VA : w.heap.size < w1.heap.size := VA.lt
  have hN1VR : w.heap.size + 1 < w1.heap.size := VR.lt
  obtain ⟨W2, hW2, hS2, hL2, VQ⟩ := V2.lay w1 27 (.bool pq) (.slice aq nq cq)
  replace hu := hu.below hL2
  replace hv := hv.below hL2
  replace hq := hq.below hL2
  replace hr := hr.below hL2
  replace VA := VA.below hL2
  replace VR := VR.below hL2
  replace BB := BB.trans (hL2.mono BB.size)
  clear hL2
  obtain ⟨W3, hW3, hS3, hL3, VS⟩ := V2.lay W2 27 (.bool pr) (.slice ar nr cr)
  replace hu := hu.below hL3
  replace hv := hv.below hL3
  replace hq := hq.below hL3
  replace hr := hr.below hL3
  replace VA := VA.below hL3
  replace VR := VR.below hL3
  replace VQ := VQ.below hL3
  replace BB := BB.trans (hL3.mono BB.size)
  clear hL3
  rw [hS2] at VS
  go_wp2
  rw [← hW2]
  rw [← hW3]
  generalize w1.heap.size = R1 at *
  clear hW2 hS2 hW3 hS3
  have hDr : Below W3.heap.size W3 W3.drew := (Below.refl _ _).drew
  replace hu := hu.below hDr
  replace hv := hv.below hDr
  replace hq := hq.below hDr
  replace hr := hr.below hDr
  replace VA := VA.below hDr
  replace VR := VR.below hDr
  replace VQ := VQ.below hDr
  replace VS := VS.below hDr
  replace BB := BB.trans (hDr.mono BB.size)
  clear hDr
  refine wp_region_held_drew (S := (fun w' => w'.cell? ⟨R1, 0, none⟩ = some (.bool pq) ∧ w'.cell? ⟨R1, 1, none⟩ = some (.slice aq nq cq) ∧ w'.cell? ⟨R1 + 1, 0, none⟩ = some (.bool pr) ∧ w'.cell? ⟨R1 + 1, 1, none⟩ = some (.slice ar nr cr))) (by kernel_rfl) ?_ (fun hHeld => ?_)
  · exact ⟨VQ.1, VQ.2.1, VS.1, VS.2.1⟩
  generalize W3.drew = W4 at *
  refine wpAnyH_take (i := 0) (v := ?_) (by simp only [List.getElem?_toArray, List.getElem?_cons_succ, List.getElem?_cons_zero]; rfl) (by kernel_rfl) (by kernel_rfl) (by kernel_rfl) (by exact fun _ _ _ h => h) (Or.inl ⟨by rfl, ?_⟩) (by assumption) ?_
  rotate_left
  · (intro w hSw; (try dsimp only at hSw); go_simp; (try with_reducible rfl))
  (try simp only [Act.put, List.setIfInBounds_toArray, List.set_cons_zero, List.set_cons_succ])
  refine wpAnyH_take (i := 1) (v := ?_) (by simp only [List.getElem?_toArray, List.getElem?_cons_succ, List.getElem?_cons_zero]; rfl) (by kernel_rfl) (by kernel_rfl) (by kernel_rfl) (by exact fun _ _ _ h => h) (Or.inl ⟨by rfl, ?_⟩) (by assumption) ?_
  rotate_left
  · (intro w hSw; (try dsimp only at hSw); go_simp; (try with_reducible rfl))
  (try simp only [Act.put, List.setIfInBounds_toArray, List.set_cons_zero, List.set_cons_succ])
  refine wpAnyH_take (i := 2) (v := ?_) (by simp only [List.getElem?_toArray, List.getElem?_cons_succ, List.getElem?_cons_zero]; rfl) (by kernel_rfl) (by kernel_rfl) (by kernel_rfl) (by exact fun _ _ _ h => h) (Or.inl ⟨by rfl, ?_⟩) (by assumption) ?_
  rotate_left
  · (intro w hSw; (try dsimp only at hSw); go_simp; (try with_reducible rfl))
  (try simp only [Act.put, List.setIfInBounds_toArray, List.set_cons_zero, List.set_cons_succ])
  refine wpAnyH_ready (rs := [3]) (by kernel_rfl) (by simp) ?_
  refine AllReadyH.cons (by simp only [List.getElem?_toArray, List.getElem?_cons_succ, List.getElem?_cons_zero]; rfl) (fun K hK => ?_) AllReadyH.nil
  have hKp := VR.keepJ (.bool pq) (.slice aq nq cq)
  have VA_n := VA.other (R := w.heap.size + 1) (by omega) (.bool pq) (.slice aq nq cq)
  have VQ_n := VQ.other (R := w.heap.size + 1) (by omega) (.bool pq) (.slice aq nq cq)
  have VS_n := VS.other (R := w.heap.size + 1) (by omega) (.bool pq) (.slice aq nq cq)
  have VR_n := VR.same (.bool pq) (.slice aq nq cq)
  have hu_n := hu.keep hKp
  have hv_n := hv.keep hKp
  have hq_n := hq.keep hKp
  have hr_n := hr.keep hKp
  have BB_n := below_store2 (R := w.heap.size + 1) BB (by omega) (.bool pq) (.slice aq nq cq)
  clear hKp
  obtain ⟨VR_0, VR_1, VR_2, VR_3⟩ := id VR
  go_simp
  clear VR_0 VR_1 VR_2 VR_3
  clear BB hu hv hq hr VA VR VQ VS
  generalize (W4.setCell ⟨w.heap.size + 1, 0, none⟩ (.bool pq)).setCell ⟨w.heap.size + 1, 1, none⟩ (.slice aq nq cq) = W5 at *
  have BB := BB_n
  have hu := hu_n
  have hv := hv_n
  have hq := hq_n
  have hr := hr_n
  have VA := VA_n
  have VR := VR_n
  have VQ := VQ_n
  have VS := VS_n
  clear BB_n hu_n hv_n hq_n hr_n VA_n VR_n VQ_n VS_n
  refine hK.out _ _ ?_ (fun hH1 => ?_)
  · exact ⟨VQ.1, VQ.2.1, VS.1, VS.2.1⟩
  clear hK K hHeld
  (try simp only [Act.put, List.setIfInBounds_toArray, List.set_cons_zero, List.set_cons_succ])
  refine wpAnyH_take (i := 4) (v := ?_) (by simp only [List.getElem?_toArray, List.getElem?_cons_succ, List.getElem?_cons_zero]; rfl) (by kernel_rfl) (by kernel_rfl) (by kernel_rfl) (by exact fun _ _ _ h => h) (Or.inl ⟨by rfl, ?_⟩) (by assumption) ?_
  rotate_left
  · (intro w hSw; (try dsimp only at hSw); go_simp; (try with_reducible rfl))
  (try simp only [Act.put, List.setIfInBounds_toArray, List.set_cons_zero, List.set_cons_succ])
  refine wpAnyH_done (by kernel_rfl) ?_ _
  clear hH1
  obtain ⟨q1, q2, q3, q4⟩ := id VR
  go_wp2
  (try simp only [Exit.inBlock, Exit.then])
  refine bodyPost_ret (v := .tuple #[.agg #[.bool pq, .slice aq nq cq], .slice ar nr cr]) (by simp [results, go_sem, q1, q2]) rfl ?_
  exact ⟨_, _, rfl, hq, hr.abs, BB⟩


set_option maxRecDepth 20000 in
set_option maxHeartbeats 2000000 in
theorem lowest_at (u v : Value) (z : Int) (x L M : Nat) (w : World) (hu : IntAt w u z L) (hv : NatAt w v x M) (hL : L ≤ 900000) (hM : M ≤ 900000) (hx : 0 < x) (ht : Tab w) :
    Calls Tryz.prog 42 #[u, v] w fun e w' => ∃ r, e = .returned r ∧ RepQ w' r (mkRat z x) ∧ Below w.heap.size w w' := by
  obtain ⟨p, ao, n, c, rfl⟩ := hu.open
  obtain ⟨bo, m, d, rfl⟩ := hv.open
  have hgp : 0 < Nat.gcd z.natAbs x := Nat.gcd_pos_of_pos_right _ hx
  have hgl : nl W32 (Nat.gcd z.natAbs x) ≤ M := Nat.le_trans (nl_mono W32 _ _ (by decide) (Nat.gcd_le_right _ hx)) hv.nl
  have HQ : Hid ((mkRat z x).num = z.fdiv ((Nat.gcd z.natAbs x : Nat) : Int) ∧ (mkRat z x).den = x / Nat.gcd z.natAbs x) := mkRat_low z x hx
  have BB : Below w.heap.size w w := Below.refl _ _
  obtain ⟨Wb0, hW0, hS0, hL0, VA⟩ := V2.lay w 27 (.bool p) (.slice ao n c)
  replace hu := hu.below hL0
  replace hv := hv.below hL0
  replace ht := ht.below hL0
  replace BB := BB.trans (hL0.mono BB.size)
  clear hL0
  obtain ⟨Wb1, hW1, hS1, hL1, VR⟩ := V3.lay Wb0 35 (.bool false) (.slice none 0 0) (.slice none 0 0)
  rw [hS0] at VR hS1
  replace hu := hu.below hL1
  replace hv := hv.below hL1
  replace ht := ht.below hL1
  replace VA := VA.below hL1
  replace BB := BB.trans (hL1.mono BB.size)
  clear hL1
  go_enter Tryz.func42, Tryz.ntmps42
  go_wp2_with fail
  rw [← hW0]
  rw [← hW1]
  clear hW0 hW1 hS0 hS1
  refine (ngcd_at _ _ _ _ _ _ _ hu.abs hv (by omega) (by omega) ht).mono ?_
  rintro e w1 ⟨g, rfl, hg, b1⟩
  replace hu := hu.below b1
  replace hv := hv.below b1
  replace ht := ht.below b1
  replace VA := VA.below b1
  replace VR := VR.below b1
  replace BB := BB.trans (b1.mono BB.size)
  clear b1
  generalize Nat.gcd z.natAbs x = G at *
  obtain ⟨VA_0, VA_1, VA_2, VA_3⟩ := id VA
  go_wp2_with fail
  clear VA_0 VA_1 VA_2 VA_3
  refine (divide_at _ _ _ _ _ M _ hu (hg.at M hgl) (by omega) hgp).mono ?_
  rintro e w2 ⟨vn, vs, rfl, hn, hs, b2⟩
  replace hu := hu.below b2
  replace hv := hv.below b2
  replace ht := ht.below b2
  replace hg := hg.below b2
  replace VA := VA.below b2
  replace VR := VR.below b2
  replace BB := BB.trans (b2.mono BB.size)
  clear b2
  obtain ⟨pn, an, nn, cn, rfl⟩ := hn.open
  obtain ⟨av, ns, cs, rfl⟩ := hs.open
  have hZ1 : w.heap.size ≤ w2.heap.size := BB.size
  have hN1VA : w.heap.size ≠ w2.heap.size := Nat.ne_of_lt VA.lt
  have hN1VR : w.heap.size + 1 ≠ w2.heap.size := Nat.ne_of_lt VR.lt
  obtain ⟨W1, hW1, hS1, hL1, VN⟩ := V2.lay w2 27 (.bool pn) (.slice an nn cn)
  replace hu := hu.below hL1
  replace hv := hv.below hL1
  replace ht := ht.below hL1
  replace hg := hg.below hL1
  replace hn := hn.below hL1
  replace hs := hs.below hL1
  replace VA := VA.below hL1
  replace VR := VR.below hL1
  replace BB := BB.trans (hL1.mono BB.size)
  clear hL1
  go_wp2_with fail
  rw [← hW1]
  generalize w2.heap.size = R1 at *
  clear hW1 hS1
  refine (ndiv_at _ _ _ _ _ M _ hv (hg.at M hgl) (by omega) hgp).mono ?_
  rintro e w3 ⟨vd, vx, rfl, hd, hxx, b3⟩
  replace hu := hu.below b3
  replace hv := hv.below b3
  replace ht := ht.below b3
  replace hg := hg.below b3
  replace hn := hn.below b3
  replace hs := hs.below b3
  replace VA := VA.below b3
  replace VR := VR.below b3
  replace VN := VN.below b3
  replace BB := BB.trans (b3.mono BB.size)
  clear b3
  obtain ⟨ad, nd, cd, rfl⟩ := hd.open
  have hKp := VR.keepJ (.bool pn) (.slice an nn cn) (.slice ad nd cd)
  have hu_n := hu.keep hKp
  have hv_n := hv.keep hKp
  have ht_n := ht.keep hKp
  have hg_n := hg.keep hKp
  have hn_n := hn.keep hKp
  have hs_n := hs.keep hKp
  have hd_n := hd.keep hKp
  have BB_n := below_store3 (R := w.heap.size + 1) BB (by omega) (.bool pn) (.slice an nn cn) (.slice ad nd cd)
  clear hKp
  obtain ⟨VN_0, VN_1, VN_2, VN_3⟩ := id VN
  obtain ⟨q1, q2, q3, q4, q5, q6⟩ := id VR
  go_wp2
  (try simp only [Exit.inBlock, Exit.then])
  refine bodyPost_ret (v := .agg #[.bool pn, .slice an nn cn, .slice ad nd cd]) (by simp [results, go_sem, q1, q2, q3]) rfl ?_
  exact ⟨_, rfl, RepQ.mk (by rw [HQ.out.1]; exact hn_n) (by rw [HQ.out.2]; exact hd_n), BB_n⟩


/-- What parts answers. -/
def PartOut (q : Rat) (L : Nat) (w : World) (e : Ending) (w' : World) : Prop :=
  ∃ u s z x, e = .returned (.tuple #[u, s]) ∧ IntAt w' u z L ∧ NatAt w' s x L ∧ 0 < x ∧ q = mkRat z x ∧ Below w.heap.size w w'


set_option maxRecDepth 20000 in
set_option maxHeartbeats 1000000 in
theorem parts_at (v : Value) (q : Rat) (L : Nat) (w : World) (hv : RatAt w v q L) (hL : 1 ≤ L) :
    Calls Tryz.prog 41 #[v] w fun e w' => PartOut q L w e w' := by
  obtain ⟨p, ao, n, c, bo, m, d, rfl⟩ := hv.open
  obtain ⟨z, x, hz, hx, hq⟩ := hv.parts
  have HQ : Hid (q = mkRat z x) := hq
  clear hq hv
  have BB : Below w.heap.size w w := Below.refl _ _
  obtain ⟨Wb0, hW0, hS0, hL0, VA⟩ := V3.lay w 35 (.bool p) (.slice ao n c) (.slice bo m d)
  replace hz := hz.below hL0
  replace hx := hx.below hL0
  replace BB := BB.trans (hL0.mono BB.size)
  clear hL0
  obtain ⟨Wb1, hW1, hS1, hL1, VR⟩ := V2.lay Wb0 27 (.bool false) (.slice none 0 0)
  rw [hS0] at VR hS1
  replace hz := hz.below hL1
  replace hx := hx.below hL1
  replace VA := VA.below hL1
  replace BB := BB.trans (hL1.mono BB.size)
  clear hL1
  go_enter Tryz.func41, Tryz.ntmps41
  go_wp2_with fail
  rw [← hW0]
  rw [← hW1]
  clear hW0 hW1 hS0 hS1
  refine (nzero_at _ _ _ _ hx).mono ?_
  rintro e wx ⟨rfl, hwx⟩
  replace hwx := hwx.symm
  subst hwx
  by_cases h0 : x = 0
  · rw [decide_eq_true h0]
    go_wp2_with fail
    refine (nof_at 1 _ (by omega)).mono ?_
    rintro e w1 ⟨r, rfl, hr, b1⟩
    replace hz := hz.below b1
    replace hx := hx.below b1
    replace VA := VA.below b1
    replace VR := VR.below b1
    replace BB := BB.trans (b1.mono BB.size)
    clear b1
    obtain ⟨ar, nr, cr, rfl⟩ := hr.open
    have hKp := VR.keepJ (.bool false) (.slice none 0 0)
    have hz_n := hz.keep hKp
    have hx_n := hx.keep hKp
    have hr_n := hr.keep hKp
    have BB_n := below_store2 (R := w.heap.size + 1) BB (by omega) (.bool false) (.slice none 0 0)
    clear hKp
    obtain ⟨q1, q2, q3, q4⟩ := id VR
    go_wp2
    (try simp only [Exit.inBlock, Exit.then])
    refine bodyPost_ret (v := .tuple #[.agg #[.bool false, .slice none 0 0], .slice ar nr cr]) (by simp [results, go_sem, q1, q2]) rfl ?_
    refine ⟨_, _, 0, 1, rfl, ?_, hr_n.at L (Nat.le_trans nlw_one hL), by omega, ?_, BB_n⟩
    · exact IntAt.mk (p := false) (x := 0) ⟨0, fun _ => 0, Nums.nil _ _ _, fun i hi => by omega, rfl, by omega⟩
    · rw [HQ.out, h0]; simp
  · rw [decide_eq_false h0]
    go_wp2
    have hDr : Below Wb1.heap.size Wb1 Wb1.drew := (Below.refl _ _).drew
    replace hz := hz.below hDr
    replace hx := hx.below hDr
    replace VA := VA.below hDr
    replace VR := VR.below hDr
    replace BB := BB.trans (hDr.mono BB.size)
    clear hDr
    refine wp_region_held_drew (S := (fun w' => w'.cell? ⟨w.heap.size, 0, none⟩ = some (.bool p) ∧ w'.cell? ⟨w.heap.size, 1, none⟩ = some (.slice ao n c) ∧ w'.cell? ⟨w.heap.size, 2, none⟩ = some (.slice bo m d))) (by kernel_rfl) ?_ (fun hHeld => ?_)
    · exact ⟨VA.1, VA.2.1, VA.2.2.1⟩
    generalize Wb1.drew = W1 at *
    refine wpAnyH_take (i := 0) (v := ?_) (by simp only [List.getElem?_toArray, List.getElem?_cons_succ, List.getElem?_cons_zero]; rfl) (by kernel_rfl) (by kernel_rfl) (by kernel_rfl) (by exact fun _ _ _ h => h) (Or.inl ⟨by rfl, ?_⟩) (by assumption) ?_
    rotate_left
    · (intro w hSw; (try dsimp only at hSw); go_simp; (try with_reducible rfl))
    (try simp only [Act.put, List.setIfInBounds_toArray, List.set_cons_zero, List.set_cons_succ])
    refine wpAnyH_take (i := 1) (v := ?_) (by simp only [List.getElem?_toArray, List.getElem?_cons_succ, List.getElem?_cons_zero]; rfl) (by kernel_rfl) (by kernel_rfl) (by kernel_rfl) (by exact fun _ _ _ h => h) (Or.inl ⟨by rfl, ?_⟩) (by assumption) ?_
    rotate_left
    · (intro w hSw; (try dsimp only at hSw); go_simp; (try with_reducible rfl))
    (try simp only [Act.put, List.setIfInBounds_toArray, List.set_cons_zero, List.set_cons_succ])
    refine wpAnyH_take (i := 2) (v := ?_) (by simp only [List.getElem?_toArray, List.getElem?_cons_succ, List.getElem?_cons_zero]; rfl) (by kernel_rfl) (by kernel_rfl) (by kernel_rfl) (by exact fun _ _ _ h => h) (Or.inl ⟨by rfl, ?_⟩) (by assumption) ?_
    rotate_left
    · (intro w hSw; (try dsimp only at hSw); go_simp; (try with_reducible rfl))
    (try simp only [Act.put, List.setIfInBounds_toArray, List.set_cons_zero, List.set_cons_succ])
    refine wpAnyH_take (i := 3) (v := ?_) (by simp only [List.getElem?_toArray, List.getElem?_cons_succ, List.getElem?_cons_zero]; rfl) (by kernel_rfl) (by kernel_rfl) (by kernel_rfl) (by exact fun _ _ _ h => h) (Or.inl ⟨by rfl, ?_⟩) (by assumption) ?_
    rotate_left
    · (intro w hSw; (try dsimp only at hSw); go_simp; (try with_reducible rfl))
    (try simp only [Act.put, List.setIfInBounds_toArray, List.set_cons_zero, List.set_cons_succ])
    refine wpAnyH_ready (rs := [4]) (by kernel_rfl) (by simp) ?_
    refine AllReadyH.cons (by simp only [List.getElem?_toArray, List.getElem?_cons_succ, List.getElem?_cons_zero]; rfl) (fun K hK => ?_) AllReadyH.nil
    have hKp := VR.keepJ (.bool p) (.slice ao n c)
    have VA_n := VA.other2 (R := w.heap.size + 1) (by omega) (.bool p) (.slice ao n c)
    have VR_n := VR.same (.bool p) (.slice ao n c)
    have hz_n := hz.keep hKp
    have hx_n := hx.keep hKp
    have BB_n := below_store2 (R := w.heap.size + 1) BB (by omega) (.bool p) (.slice ao n c)
    clear hKp
    obtain ⟨VR_0, VR_1, VR_2, VR_3⟩ := id VR
    go_simp
    clear VR_0 VR_1 VR_2 VR_3
    clear BB hz hx VA VR
    generalize (W1.setCell ⟨w.heap.size + 1, 0, none⟩ (.bool p)).setCell ⟨w.heap.size + 1, 1, none⟩ (.slice ao n c) = W2 at *
    have BB := BB_n
    have hz := hz_n
    have hx := hx_n
    have VA := VA_n
    have VR := VR_n
    clear BB_n hz_n hx_n VA_n VR_n
    refine hK.out _ _ ?_ (fun hH1 => ?_)
    · exact ⟨VA.1, VA.2.1, VA.2.2.1⟩
    clear hK K hHeld
    (try simp only [Act.put, List.setIfInBounds_toArray, List.set_cons_zero, List.set_cons_succ])
    refine wpAnyH_take (i := 5) (v := ?_) (by simp only [List.getElem?_toArray, List.getElem?_cons_succ, List.getElem?_cons_zero]; rfl) (by kernel_rfl) (by kernel_rfl) (by kernel_rfl) (by exact fun _ _ _ h => h) (Or.inl ⟨by rfl, ?_⟩) (by assumption) ?_
    rotate_left
    · (intro w hSw; (try dsimp only at hSw); go_simp; (try with_reducible rfl))
    (try simp only [Act.put, List.setIfInBounds_toArray, List.set_cons_zero, List.set_cons_succ])
    refine wpAnyH_done (by kernel_rfl) ?_ _
    clear hH1
    obtain ⟨q1, q2, q3, q4⟩ := id VR
    go_wp2
    (try simp only [Exit.inBlock, Exit.then])
    refine bodyPost_ret (v := .tuple #[.agg #[.bool p, .slice ao n c], .slice bo m d]) (by simp [results, go_sem, q1, q2]) rfl ?_
    exact ⟨_, _, z, x, rfl, hz, hx, by omega, HQ.out, BB⟩

end Go.Proofs.YtfibpckhbgemcaaGreatDoor

namespace Go.Proofs.YtfibpckhbgemcaaGreatDoor
open Go.RowKit
set_option linter.unusedVariables false

/-- How two numbers stand. -/
def cmpQ (a b : Rat) : Int := if a < b then -1 else if b < a then 1 else 0
theorem ratc_pos (x : Nat) (h : 0 < x) : (0 : Rat) < (x : Rat) := Rat.natCast_pos.2 h
theorem mkRat_mul_den (z : Int) (x : Nat) (h : 0 < x) : mkRat z x * (x : Rat) = (z : Rat) := by
  rw [Rat.mkRat_eq_div]
  exact Rat.div_mul_cancel (by have := ratc_pos x h; intro e; rw [e] at this; exact Rat.lt_irrefl this)
theorem mkRat_lt (z t : Int) (x y : Nat) (hx : 0 < x) (hy : 0 < y) : mkRat z x < mkRat t y ↔ z * (y : Int) < t * (x : Int) := by
  rw [Rat.mkRat_eq_div, Rat.mkRat_eq_div, Rat.div_lt_iff (ratc_pos x hx), Rat.div_def, Rat.mul_assoc, Rat.mul_comm _ (x : Rat), ← Rat.mul_assoc, ← Rat.div_def, Rat.lt_div_iff (ratc_pos y hy)]
  rw [show ((z : Rat) * (y : Rat)) = ((z * (y : Int) : Int) : Rat) by rw [Rat.intCast_mul, Rat.intCast_natCast], show ((t : Rat) * (x : Rat)) = ((t * (x : Int) : Int) : Rat) by rw [Rat.intCast_mul, Rat.intCast_natCast]]
  exact Rat.intCast_lt_intCast
theorem cmp_mkRat (z t : Int) (x y : Nat) (hx : 0 < x) (hy : 0 < y) : cmpI (z * (y : Int)) (t * (x : Int)) = cmpQ (mkRat z x) (mkRat t y) := by
  unfold cmpI cmpQ
  simp only [mkRat_lt z t x y hx hy, mkRat_lt t z y x hy hx]
theorem cmpQ_zero (a b : Rat) : (cmpQ a b == 0) = decide (a = b) := by
  unfold cmpQ
  by_cases h1 : a < b
  · rw [if_pos h1, decide_eq_false (Rat.ne_of_lt h1)]; rfl
  · rw [if_neg h1]
    by_cases h2 : b < a
    · rw [if_pos h2, decide_eq_false (Rat.ne_of_lt h2).symm]; rfl
    · rw [if_neg h2, decide_eq_true (Rat.le_antisymm (Rat.not_lt.1 h2) (Rat.not_lt.1 h1))]; rfl
theorem cmpQ_pos (a b : Rat) : decide (0 < cmpQ a b) = decide (b < a) := by
  unfold cmpQ
  by_cases h1 : a < b
  · rw [if_pos h1, decide_eq_false (p := b < a) (Rat.not_lt.2 (Rat.le_of_lt h1))]; rfl
  · rw [if_neg h1]
    by_cases h2 : b < a
    · rw [if_pos h2, decide_eq_true h2]; rfl
    · rw [if_neg h2, decide_eq_false h2]; rfl
theorem cmpQ_self (a : Rat) : cmpQ a a = 0 := by unfold cmpQ; rw [if_neg Rat.lt_irrefl, if_neg Rat.lt_irrefl]
theorem cmpI_sign (z : Int) (x : Nat) (hx : 0 < x) : cmpI z 0 = cmpQ (mkRat z x) 0 := by
  have h := cmp_mkRat z 0 x 1 hx (by omega)
  rw [show mkRat 0 1 = (0 : Rat) by simp] at h
  simpa using h
theorem zof_bne (p q : Bool) (X Y : Nat) (hY : 0 < Y) : mkRat (zof (!(p == q)) X) Y = ((zof p X : Int) : Rat) / ((zof q Y : Int) : Rat) := by
  rw [← Rat.divInt_eq_div]
  cases q with
  | false =>
    have e : zof (!(p == false)) X = zof p X := by cases p <;> rfl
    rw [e, zof_false, Rat.divInt_ofNat]
  | true =>
    have e : zof (!(p == true)) X = -zof p X := by cases p <;> simp [zof]
    rw [e, zof_true, Rat.divInt_neg', Rat.divInt_ofNat]
theorem floor_mkRat (z : Int) (x : Nat) (hx : 0 < x) : (mkRat z x).floor = z.fdiv (x : Int) := by
  rw [Int.fdiv_eq_ediv_of_nonneg _ (by omega)]
  refine Int.le_antisymm ?_ ?_
  · rw [Int.le_ediv_iff_mul_le (by omega)]
    have h := Rat.floor_le (mkRat z x)
    have h2 := Rat.mul_le_mul_of_nonneg_right h (Rat.le_of_lt (ratc_pos x hx))
    rw [mkRat_mul_den z x hx, ← Rat.intCast_natCast, ← Rat.intCast_mul] at h2
    exact Rat.intCast_le_intCast.1 h2
  · rw [Rat.le_floor_iff]
    have h : z / (x : Int) * (x : Int) ≤ z := Int.ediv_mul_le _ (by omega)
    have h2 : ((z / (x : Int) : Int) : Rat) * (x : Rat) ≤ mkRat z x * (x : Rat) := by
      rw [mkRat_mul_den z x hx, ← Rat.intCast_natCast, ← Rat.intCast_mul]
      exact Rat.intCast_le_intCast.2 h
    exact Rat.le_of_mul_le_mul_right h2 (ratc_pos x hx)
theorem add_mkRat (z t : Int) (x y : Nat) (hx : 0 < x) (hy : 0 < y) : mkRat (z * (y : Int) + t * (x : Int)) (x * y) = mkRat z x + mkRat t y := (Rat.mkRat_add_mkRat z t (by omega) (by omega)).symm
theorem add_mkRat_same (z t : Int) (x : Nat) (hx : 0 < x) : mkRat (z + t) x = mkRat z x + mkRat t x := by
  have hx' : (x : Rat) ≠ 0 := fun e => by have := ratc_pos x hx; rw [e] at this; exact Rat.lt_irrefl this
  rw [Rat.mkRat_eq_div, Rat.mkRat_eq_div, Rat.mkRat_eq_div, Rat.intCast_add]
  grind
theorem qsz_pos (q : Rat) : 1 ≤ qsz q := by
  unfold qsz
  have h : nl W32 q.den ≠ 0 := fun e => q.den_nz ((nl_eq_zero W32 _ (by decide)).1 e)
  omega
theorem qsz_num (q : Rat) : nl W32 q.num.natAbs ≤ qsz q := Nat.le_max_left _ _
theorem qsz_den (q : Rat) : nl W32 q.den ≤ qsz q := Nat.le_max_right _ _
theorem nln_mul {x y a b : Nat} (hx : nl W32 x ≤ a) (hy : nl W32 y ≤ b) : nl W32 (x * y) ≤ a + b := by
  have h := nlz_mul (x := (x : Int)) (y := (y : Int)) (a := a) (b := b) (c := a + b) (by simpa using hx) (by simpa using hy) (Nat.le_refl _)
  rw [← Int.natCast_mul, Int.natAbs_natCast] at h; exact h
theorem qsz_add (a b : Rat) {L M : Nat} (h1 : qsz a ≤ L) (h2 : qsz b ≤ M) : qsz (a + b) ≤ L + M + 1 := by
  have e : a + b = mkRat (a.num * (b.den : Int) + b.num * (a.den : Int)) (a.den * b.den) := by
    rw [add_mkRat _ _ _ _ (Nat.pos_of_ne_zero a.den_nz) (Nat.pos_of_ne_zero b.den_nz), Rat.mkRat_self, Rat.mkRat_self]
  rw [e]
  have ha := qsz_num a
  have hb := qsz_num b
  have hc := qsz_den a
  have hd := qsz_den b
  refine nl_num_mkRat _ _ _ ?_ ?_ (by omega)
  · refine nlz_add (nlz_mul (a := L) (b := M) (by omega) (by simp; omega) (Nat.le_refl _)) (nlz_mul (a := M) (b := L) (by omega) (by simp; omega) (Nat.le_refl _)) (by omega) (by omega)
  · exact Nat.le_trans (nln_mul (a := L) (b := M) (by omega) (by omega)) (by omega)
theorem qsz_mul (a b : Rat) {L M : Nat} (h1 : qsz a ≤ L) (h2 : qsz b ≤ M) : qsz (a * b) ≤ L + M := by
  have e : a * b = mkRat (a.num * b.num) (a.den * b.den) := by
    rw [← Rat.mkRat_mul_mkRat, Rat.mkRat_self, Rat.mkRat_self]
  rw [e]
  have ha := qsz_num a
  have hb := qsz_num b
  have hc := qsz_den a
  have hd := qsz_den b
  have hp := qsz_pos a
  exact nl_num_mkRat _ _ _ (nlz_mul (a := L) (b := M) (by omega) (by omega) (Nat.le_refl _)) (nln_mul (by omega) (by omega)) (by omega)
theorem qsz_neg (a : Rat) : qsz (-a) = qsz a := by
  show max (nl W32 (-a.num).natAbs) (nl W32 a.den) = _
  rw [Int.natAbs_neg]; rfl
theorem qsz_sub (a b : Rat) {L M : Nat} (h1 : qsz a ≤ L) (h2 : qsz b ≤ M) : qsz (a - b) ≤ L + M + 1 := by
  rw [Rat.sub_eq_add_neg]; exact qsz_add a (-b) h1 (by rw [qsz_neg]; exact h2)
theorem qsz_inv (a : Rat) {L : Nat} (h1 : qsz a ≤ L) : qsz a⁻¹ ≤ L := by
  have ha := qsz_num a
  have hc := qsz_den a
  have hp := qsz_pos a
  unfold qsz
  rw [Rat.num_inv, Rat.den_inv]
  have e1 : nl W32 (a.num.sign * (a.den : Int)).natAbs ≤ L := by
    rw [Int.natAbs_mul, Int.natAbs_natCast]
    refine Nat.le_trans (nl_mono W32 _ _ (by decide) (?_ : _ ≤ a.den)) (by omega)
    have : a.num.sign.natAbs ≤ 1 := by
      rcases Int.lt_trichotomy a.num 0 with h | h | h
      · rw [Int.sign_eq_neg_one_of_neg h]; decide
      · rw [h]; decide
      · rw [Int.sign_eq_one_of_pos h]; decide
    exact Nat.le_trans (Nat.mul_le_mul_right _ this) (by omega)
  have e2 : nl W32 (if a.num = 0 then 1 else a.num.natAbs) ≤ L := by
    split
    · exact Nat.le_trans nlw_one (by omega)
    · omega
  omega
theorem qsz_div (a b : Rat) {L M : Nat} (h1 : qsz a ≤ L) (h2 : qsz b ≤ M) : qsz (a / b) ≤ L + M := by
  rw [Rat.div_def]; exact qsz_mul _ _ h1 (qsz_inv b h2)
theorem qsz_int (z : Int) {L : Nat} (h : nl W32 z.natAbs ≤ L) (hL : 1 ≤ L) : qsz (z : Rat) ≤ L := by
  unfold qsz
  show max (nl W32 z.natAbs) (nl W32 1) ≤ L
  have := nlw_one
  omega

end Go.Proofs.YtfibpckhbgemcaaGreatDoor

namespace Go.Proofs.YtfibpckhbgemcaaGreatDoor
open Go.RowKit
set_option linter.unusedVariables false
set_option linter.unusedSimpArgs false


set_option maxRecDepth 20000 in
set_option maxHeartbeats 1000000 in
theorem make_zero (u v : Value) (a : Int) (L M : Nat) (w : World) (hu : IntAt w u a L) (hv : IntAt w v 0 M) :
    Calls Tryz.prog 54 #[u, v] w fun e w' => e = .returned (.tuple #[.agg #[.bool false, .slice none 0 0, .slice none 0 0], .int .i64 2]) ∧ Below w.heap.size w w' := by
  obtain ⟨p, ao, n, c, rfl⟩ := hu.open
  obtain ⟨q, bo, m, d, rfl⟩ := hv.open
  have BB : Below w.heap.size w w := Below.refl _ _
  obtain ⟨Wb0, hW0, hS0, hL0, VA⟩ := V2.lay w 27 (.bool p) (.slice ao n c)
  replace hu := hu.below hL0
  replace hv := hv.below hL0
  replace BB := BB.trans (hL0.mono BB.size)
  clear hL0
  obtain ⟨Wb1, hW1, hS1, hL1, VB⟩ := V2.lay Wb0 27 (.bool q) (.slice bo m d)
  rw [hS0] at VB hS1
  replace hu := hu.below hL1
  replace hv := hv.below hL1
  replace VA := VA.below hL1
  replace BB := BB.trans (hL1.mono BB.size)
  clear hL1
  obtain ⟨Wb2, hW2, hS2, hL2, VR⟩ := V3.lay Wb1 35 (.bool false) (.slice none 0 0) (.slice none 0 0)
  rw [hS1] at VR hS2
  replace hu := hu.below hL2
  replace hv := hv.below hL2
  replace VA := VA.below hL2
  replace VB := VB.below hL2
  replace BB := BB.trans (hL2.mono BB.size)
  clear hL2
  go_enter Tryz.func54, Tryz.ntmps54
  go_wp2_with fail
  rw [← hW0]
  rw [← hW1]
  rw [← hW2]
  clear hW0 hW1 hW2 hS0 hS1 hS2
  refine (sign_any _ _ _ _ hv).mono ?_
  rintro e w1 ⟨rfl, b1⟩
  replace hu := hu.below b1
  replace hv := hv.below b1
  replace VA := VA.below b1
  replace VB := VB.below b1
  replace VR := VR.below b1
  replace BB := BB.trans (b1.mono BB.size)
  clear b1
  rw [cmpI_eq rfl]
  obtain ⟨q1, q2, q3, q4, q5, q6⟩ := id VR
  go_wp2
  (try simp only [Exit.inBlock, Exit.then])
  refine bodyPost_ret (v := .tuple #[.agg #[.bool false, .slice none 0 0, .slice none 0 0], .int .i64 2]) (by simp [results, go_sem, q1, q2, q3]) rfl ?_
  exact ⟨rfl, below_store3 BB (by omega) _ _ _⟩


set_option maxRecDepth 20000 in
set_option maxHeartbeats 1000000 in
theorem make_at (u v : Value) (a b : Int) (L M : Nat) (w : World) (hu : IntAt w u a L) (hv : IntAt w v b M) (hL : L ≤ 900000) (hM : M ≤ 900000) (hb : b ≠ 0) (ht : Tab w) :
    Calls Tryz.prog 54 #[u, v] w fun e w' => ∃ r, e = .returned (.tuple #[r, .int .i64 0]) ∧ RepQ w' r ((a : Rat) / (b : Rat)) ∧ Below w.heap.size w w' := by
  obtain ⟨p, ao, n, c, rfl⟩ := hu.open
  obtain ⟨q, bo, m, d, rfl⟩ := hv.open
  have hab := hu.bool
  have hbb := hv.bool
  have hY : 0 < b.natAbs := by omega
  have HQ : Hid (mkRat (zof (!(p == q)) a.natAbs) b.natAbs = (a : Rat) / (b : Rat)) := by
    show _ = _
    rw [zof_bne p q _ _ hY, ← hab, ← hbb]
  clear hab hbb
  have BB : Below w.heap.size w w := Below.refl _ _
  obtain ⟨Wb0, hW0, hS0, hL0, VA⟩ := V2.lay w 27 (.bool p) (.slice ao n c)
  replace hu := hu.below hL0
  replace hv := hv.below hL0
  replace ht := ht.below hL0
  replace BB := BB.trans (hL0.mono BB.size)
  clear hL0
  obtain ⟨Wb1, hW1, hS1, hL1, VB⟩ := V2.lay Wb0 27 (.bool q) (.slice bo m d)
  rw [hS0] at VB hS1
  replace hu := hu.below hL1
  replace hv := hv.below hL1
  replace ht := ht.below hL1
  replace VA := VA.below hL1
  replace BB := BB.trans (hL1.mono BB.size)
  clear hL1
  obtain ⟨Wb2, hW2, hS2, hL2, VR⟩ := V3.lay Wb1 35 (.bool false) (.slice none 0 0) (.slice none 0 0)
  rw [hS1] at VR hS2
  replace hu := hu.below hL2
  replace hv := hv.below hL2
  replace ht := ht.below hL2
  replace VA := VA.below hL2
  replace VB := VB.below hL2
  replace BB := BB.trans (hL2.mono BB.size)
  clear hL2
  go_enter Tryz.func54, Tryz.ntmps54
  go_wp2_with fail
  rw [← hW0]
  rw [← hW1]
  rw [← hW2]
  clear hW0 hW1 hW2 hS0 hS1 hS2
  refine (sign_any _ _ _ _ hv).mono ?_
  rintro e w1 ⟨rfl, b1⟩
  replace hu := hu.below b1
  replace hv := hv.below b1
  replace ht := ht.below b1
  replace VA := VA.below b1
  replace VB := VB.below b1
  replace VR := VR.below b1
  replace BB := BB.trans (b1.mono BB.size)
  clear b1
  have hc : (cmpI b 0 == 0) = false := by rw [cmpI_zero]; exact decide_eq_false hb
  generalize cmpI b 0 = cc at *
  obtain ⟨VA_0, VA_1, VA_2, VA_3⟩ := id VA
  obtain ⟨VB_0, VB_1, VB_2, VB_3⟩ := id VB
  go_wp2_with fail
  clear VA_0 VA_1 VA_2 VA_3 VB_0 VB_1 VB_2 VB_3
  refine (lowest_at _ _ _ _ _ _ _ (IntAt.mk (p := !(p == q)) hu.abs) hv.abs (by omega) (by omega) hY ht).mono ?_
  rintro e w2 ⟨r, rfl, hr, b2⟩
  replace hu := hu.below b2
  replace hv := hv.below b2
  replace ht := ht.below b2
  replace VA := VA.below b2
  replace VB := VB.below b2
  replace VR := VR.below b2
  replace BB := BB.trans (b2.mono BB.size)
  clear b2
  rw [HQ.out] at hr
  obtain ⟨pr, ar, nr, cr, br, mr, dr, rfl⟩ := hr.open
  have hKp := VR.keepJ (.bool pr) (.slice ar nr cr) (.slice br mr dr)
  have hu_n := hu.keep hKp
  have hv_n := hv.keep hKp
  have ht_n := ht.keep hKp
  have hr_n := hr.keep hKp
  have BB_n := below_store3 (R := w.heap.size + 1 + 1) BB (by omega) (.bool pr) (.slice ar nr cr) (.slice br mr dr)
  clear hKp
  obtain ⟨q1, q2, q3, q4, q5, q6⟩ := id VR
  go_wp2
  (try simp only [Exit.inBlock, Exit.then])
  refine bodyPost_ret (v := .tuple #[.agg #[.bool pr, .slice ar nr cr, .slice br mr dr], .int .i64 0]) (by simp [results, go_sem, q1, q2, q3]) rfl ?_
  exact ⟨_, rfl, hr_n, BB_n⟩


set_option maxRecDepth 20000 in
set_option maxHeartbeats 1000000 in
theorem qint_at (v : Value) (z : Int) (L : Nat) (w : World) (hv : IntAt w v z L) :
    Calls Tryz.prog 15 #[v] w fun e w' => ∃ r, e = .returned r ∧ RepQ w' r (z : Rat) ∧ Below w.heap.size w w' := by
  obtain ⟨p, ao, n, c, rfl⟩ := hv.open
  have BB : Below w.heap.size w w := Below.refl _ _
  obtain ⟨Wb0, hW0, hS0, hL0, VA⟩ := V2.lay w 27 (.bool p) (.slice ao n c)
  replace hv := hv.below hL0
  replace BB := BB.trans (hL0.mono BB.size)
  clear hL0
  obtain ⟨Wb1, hW1, hS1, hL1, VR⟩ := V3.lay Wb0 35 (.bool false) (.slice none 0 0) (.slice none 0 0)
  rw [hS0] at VR hS1
  replace hv := hv.below hL1
  replace VA := VA.below hL1
  replace BB := BB.trans (hL1.mono BB.size)
  clear hL1
  go_enter Tryz.func15, Tryz.ntmps15
  go_wp2_with fail
  rw [← hW0]
  rw [← hW1]
  clear hW0 hW1 hS0 hS1
  refine (wclean_any _ _ _ _ hv).mono ?_
  rintro e w1 ⟨r1, rfl, h1, b1⟩
  replace hv := hv.below b1
  replace VA := VA.below b1
  replace VR := VR.below b1
  replace BB := BB.trans (b1.mono BB.size)
  clear b1
  obtain ⟨pr, ar, nr, cr, rfl⟩ := h1.open
  go_wp2_with fail
  refine (nof_at 1 _ (by omega)).mono ?_
  rintro e w2 ⟨r2, rfl, h2, b2⟩
  replace hv := hv.below b2
  replace h1 := h1.below b2
  replace VA := VA.below b2
  replace VR := VR.below b2
  replace BB := BB.trans (b2.mono BB.size)
  clear b2
  obtain ⟨br, mr, dr, rfl⟩ := h2.open
  have hKp := VR.keepJ (.bool pr) (.slice ar nr cr) (.slice br mr dr)
  have hv_n := hv.keep hKp
  have h1_n := h1.keep hKp
  have h2_n := h2.keep hKp
  have BB_n := below_store3 (R := w.heap.size + 1) BB (by omega) (.bool pr) (.slice ar nr cr) (.slice br mr dr)
  clear hKp
  obtain ⟨q1, q2, q3, q4, q5, q6⟩ := id VR
  go_wp2
  (try simp only [Exit.inBlock, Exit.then])
  refine bodyPost_ret (v := .agg #[.bool pr, .slice ar nr cr, .slice br mr dr]) (by simp [results, go_sem, q1, q2, q3]) rfl ?_
  exact ⟨_, rfl, RepQ.mk (q := (z : Rat)) h1_n h2_n, BB_n⟩


set_option maxRecDepth 20000 in
set_option maxHeartbeats 1000000 in
theorem qof_at (k : Int) (w : World) (h0 : -9223372036854775808 ≤ k) (h1 : k ≤ 9223372036854775807) :
    Calls Tryz.prog 22 #[.int .i64 k] w fun e w' => ∃ r, e = .returned r ∧ RepQ w' r (k : Rat) ∧ Below w.heap.size w w' := by
  have BB : Below w.heap.size w w := Below.refl _ _
  obtain ⟨Wb0, hW0, hS0, hL0, VR⟩ := V3.lay w 35 (.bool false) (.slice none 0 0) (.slice none 0 0)
  replace BB := BB.trans (hL0.mono BB.size)
  clear hL0
  go_enter Tryz.func22, Tryz.ntmps22
  go_wp2_with fail
  rw [← hW0]
  clear hW0 hS0
  refine (wof_any _ _ (by omega) (by omega)).mono ?_
  rintro e w1 ⟨r1, rfl, h1, b1⟩
  replace VR := VR.below b1
  replace BB := BB.trans (b1.mono BB.size)
  clear b1
  go_wp2_with fail
  refine (qint_at _ _ _ _ (h1.at _ (Nat.le_refl _))).mono ?_
  rintro e w2 ⟨r, rfl, hr, b2⟩
  replace h1 := h1.below b2
  replace VR := VR.below b2
  replace BB := BB.trans (b2.mono BB.size)
  clear b2
  obtain ⟨pr, ar, nr, cr, br, mr, dr, rfl⟩ := hr.open
  have hKp := VR.keepJ (.bool pr) (.slice ar nr cr) (.slice br mr dr)
  have h1_n := h1.keep hKp
  have hr_n := hr.keep hKp
  have BB_n := below_store3 (R := w.heap.size) BB (by omega) (.bool pr) (.slice ar nr cr) (.slice br mr dr)
  clear hKp
  obtain ⟨q1, q2, q3, q4, q5, q6⟩ := id VR
  go_wp2
  (try simp only [Exit.inBlock, Exit.then])
  refine bodyPost_ret (v := .agg #[.bool pr, .slice ar nr cr, .slice br mr dr]) (by simp [results, go_sem, q1, q2, q3]) rfl ?_
  exact ⟨_, rfl, hr_n, BB_n⟩


set_option maxRecDepth 20000 in
set_option maxHeartbeats 1000000 in
theorem qzero_at (w : World) :
    Calls Tryz.prog 24 #[] w fun e w' => ∃ r, e = .returned r ∧ RepQ w' r 0 ∧ Below w.heap.size w w' := by
  have BB : Below w.heap.size w w := Below.refl _ _
  obtain ⟨Wb0, hW0, hS0, hL0, VR⟩ := V3.lay w 35 (.bool false) (.slice none 0 0) (.slice none 0 0)
  replace BB := BB.trans (hL0.mono BB.size)
  clear hL0
  go_enter Tryz.func24, Tryz.ntmps24
  go_wp2_with fail
  rw [← hW0]
  clear hW0 hS0
  refine (qof_at 0 _ (by omega) (by omega)).mono ?_
  rintro e w1 ⟨r, rfl, hr, b1⟩
  replace VR := VR.below b1
  replace BB := BB.trans (b1.mono BB.size)
  clear b1
  obtain ⟨pr, ar, nr, cr, br, mr, dr, rfl⟩ := hr.open
  replace hr : RepQ _ _ (0 : Rat) := hr
  have hKp := VR.keepJ (.bool pr) (.slice ar nr cr) (.slice br mr dr)
  have hr_n := hr.keep hKp
  have BB_n := below_store3 (R := w.heap.size) BB (by omega) (.bool pr) (.slice ar nr cr) (.slice br mr dr)
  clear hKp
  obtain ⟨q1, q2, q3, q4, q5, q6⟩ := id VR
  go_wp2
  (try simp only [Exit.inBlock, Exit.then])
  refine bodyPost_ret (v := .agg #[.bool pr, .slice ar nr cr, .slice br mr dr]) (by simp [results, go_sem, q1, q2, q3]) rfl ?_
  exact ⟨_, rfl, hr_n, BB_n⟩


set_option maxRecDepth 20000 in
set_option maxHeartbeats 1000000 in
theorem qone_at (w : World) :
    Calls Tryz.prog 28 #[] w fun e w' => ∃ r, e = .returned r ∧ RepQ w' r 1 ∧ Below w.heap.size w w' := by
  have BB : Below w.heap.size w w := Below.refl _ _
  obtain ⟨Wb0, hW0, hS0, hL0, VR⟩ := V3.lay w 35 (.bool false) (.slice none 0 0) (.slice none 0 0)
  replace BB := BB.trans (hL0.mono BB.size)
  clear hL0
  go_enter Tryz.func28, Tryz.ntmps28
  go_wp2_with fail
  rw [← hW0]
  clear hW0 hS0
  refine (qof_at 1 _ (by omega) (by omega)).mono ?_
  rintro e w1 ⟨r, rfl, hr, b1⟩
  replace VR := VR.below b1
  replace BB := BB.trans (b1.mono BB.size)
  clear b1
  obtain ⟨pr, ar, nr, cr, br, mr, dr, rfl⟩ := hr.open
  replace hr : RepQ _ _ (1 : Rat) := hr
  have hKp := VR.keepJ (.bool pr) (.slice ar nr cr) (.slice br mr dr)
  have hr_n := hr.keep hKp
  have BB_n := below_store3 (R := w.heap.size) BB (by omega) (.bool pr) (.slice ar nr cr) (.slice br mr dr)
  clear hKp
  obtain ⟨q1, q2, q3, q4, q5, q6⟩ := id VR
  go_wp2
  (try simp only [Exit.inBlock, Exit.then])
  refine bodyPost_ret (v := .agg #[.bool pr, .slice ar nr cr, .slice br mr dr]) (by simp [results, go_sem, q1, q2, q3]) rfl ?_
  exact ⟨_, rfl, hr_n, BB_n⟩


set_option maxRecDepth 20000 in
set_option maxHeartbeats 1000000 in
theorem qfrac_at (a b : Int) (w : World) (h0 : -9223372036854775808 ≤ a) (h1 : a ≤ 9223372036854775807) (h2 : -9223372036854775808 ≤ b) (h3 : b ≤ 9223372036854775807) (ht : Tab w) :
    Calls Tryz.prog 32 #[.int .i64 a, .int .i64 b] w fun e w' => ∃ r, e = .returned r ∧ RepQ w' r ((a : Rat) / (b : Rat)) ∧ Below w.heap.size w w' := by
  have BB : Below w.heap.size w w := Below.refl _ _
  obtain ⟨Wb0, hW0, hS0, hL0, VR⟩ := V3.lay w 35 (.bool false) (.slice none 0 0) (.slice none 0 0)
  replace ht := ht.below hL0
  replace BB := BB.trans (hL0.mono BB.size)
  clear hL0
  go_enter Tryz.func32, Tryz.ntmps32
  go_wp2_with fail
  rw [← hW0]
  clear hW0 hS0
  refine (wof_any _ _ (by omega) (by omega)).mono ?_
  rintro e w1 ⟨r1, rfl, hn, b1⟩
  replace ht := ht.below b1
  replace VR := VR.below b1
  replace BB := BB.trans (b1.mono BB.size)
  clear b1
  go_wp2_with fail
  refine (wof_any _ _ (by omega) (by omega)).mono ?_
  rintro e w2 ⟨r2, rfl, hd, b2⟩
  replace ht := ht.below b2
  replace hn := hn.below b2
  replace VR := VR.below b2
  replace BB := BB.trans (b2.mono BB.size)
  clear b2
  have hln : nl W32 a.natAbs ≤ 2 := (nl_two _).2 (by omega)
  have hld : nl W32 b.natAbs ≤ 2 := (nl_two _).2 (by omega)
  go_wp2_with fail
  by_cases h0 : b = 0
  · rw [h0] at hd hld
    refine (make_zero _ _ _ 2 2 _ (hn.at 2 hln) (hd.at 2 hld)).mono ?_
    rintro e w3 ⟨rfl, b3⟩
    replace ht := ht.below b3
    replace hn := hn.below b3
    replace hd := hd.below b3
    replace VR := VR.below b3
    replace BB := BB.trans (b3.mono BB.size)
    clear b3
    have hZ1 : w.heap.size ≤ w3.heap.size := BB.size
    have hN1VR : w.heap.size ≠ w3.heap.size := Nat.ne_of_lt VR.lt
    obtain ⟨W1, hW1, hS1, hL1, VF⟩ := V3.lay w3 35 (.bool false) (.slice none 0 0) (.slice none 0 0)
    replace ht := ht.below hL1
    replace hn := hn.below hL1
    replace hd := hd.below hL1
    replace VR := VR.below hL1
    replace BB := BB.trans (hL1.mono BB.size)
    clear hL1
    go_wp2_with fail
    rw [← hW1]
    generalize w3.heap.size = R1 at *
    clear hW1 hS1
    refine (qzero_at _).mono ?_
    rintro e w4 ⟨r, rfl, hr, b4⟩
    replace ht := ht.below b4
    replace hn := hn.below b4
    replace hd := hd.below b4
    replace VR := VR.below b4
    replace VF := VF.below b4
    replace BB := BB.trans (b4.mono BB.size)
    clear b4
    obtain ⟨pr, ar, nr, cr, br, mr, dr, rfl⟩ := hr.open
    have hKp := VR.keepJ (.bool pr) (.slice ar nr cr) (.slice br mr dr)
    have ht_n := ht.keep hKp
    have hn_n := hn.keep hKp
    have hd_n := hd.keep hKp
    have hr_n := hr.keep hKp
    have BB_n := below_store3 (R := w.heap.size) BB (by omega) (.bool pr) (.slice ar nr cr) (.slice br mr dr)
    clear hKp
    obtain ⟨q1, q2, q3, q4, q5, q6⟩ := id VR
    go_wp2
    (try simp only [Exit.inBlock, Exit.then])
    refine bodyPost_ret (v := .agg #[.bool pr, .slice ar nr cr, .slice br mr dr]) (by simp [results, go_sem, q1, q2, q3]) rfl ?_
    exact ⟨_, rfl, by rw [h0, Rat.intCast_zero, Rat.div_def, Rat.inv_zero, Rat.mul_zero]; exact hr_n, BB_n⟩
  · refine (make_at _ _ _ _ 2 2 _ (hn.at 2 hln) (hd.at 2 hld) (by omega) (by omega) h0 ht).mono ?_
    rintro e w3 ⟨r, rfl, hr, b3⟩
    replace ht := ht.below b3
    replace hn := hn.below b3
    replace hd := hd.below b3
    replace VR := VR.below b3
    replace BB := BB.trans (b3.mono BB.size)
    clear b3
    obtain ⟨pr, ar, nr, cr, br, mr, dr, rfl⟩ := hr.open
    obtain ⟨Wf, hWf, hSf, hLf, VF⟩ := V3.lay w3 35 (.bool pr) (.slice ar nr cr) (.slice br mr dr)
    replace ht := ht.below hLf
    replace hn := hn.below hLf
    replace hd := hd.below hLf
    replace hr := hr.below hLf
    replace VR := VR.below hLf
    replace BB := BB.trans (hLf.mono BB.size)
    clear hLf
    have hKp := VR.keepJ (.bool pr) (.slice ar nr cr) (.slice br mr dr)
    have hr_n := hr.keep hKp
    have BB_n := below_store3 (R := w.heap.size) BB (by omega) (.bool pr) (.slice ar nr cr) (.slice br mr dr)
    clear hKp
    obtain ⟨f1, f2, f3, f4, f5, f6⟩ := id VF
    obtain ⟨q1, q2, q3, q4, q5, q6⟩ := id VR
    rw [hWf] at f1 f2 f3 f4 f5 f6 q1 q2 q3 q4 q5 q6 hr_n BB_n
    go_wp2
    (try simp only [Exit.inBlock, Exit.then])
    refine bodyPost_ret (v := .agg #[.bool pr, .slice ar nr cr, .slice br mr dr]) (by simp [results, go_sem, q1, q2, q3]) rfl ?_
    exact ⟨_, rfl, hr_n, BB_n⟩

set_option maxRecDepth 20000 in
set_option maxHeartbeats 2000000 in
theorem qcmp_at (u v : Value) (q r : Rat) (L : Nat) (w : World) (hu : RatAt w u q L) (hv : RatAt w v r L) (hL : 1 ≤ L) (hM : L ≤ 100000) :
    Calls Tryz.prog 35 #[u, v] w fun e w' => e = .returned (.int .i64 (cmpQ q r)) ∧ Below w.heap.size w w' := by
  obtain ⟨p, ao, n, c, bo, m, d, rfl⟩ := hu.open
  obtain ⟨p2, ao2, n2, c2, bo2, m2, d2, rfl⟩ := hv.open
  have BB : Below w.heap.size w w := Below.refl _ _
  obtain ⟨Wb0, hW0, hS0, hL0, VA⟩ := V3.lay w 35 (.bool p) (.slice ao n c) (.slice bo m d)
  replace hu := hu.below hL0
  replace hv := hv.below hL0
  replace BB := BB.trans (hL0.mono BB.size)
  clear hL0
  obtain ⟨Wb1, hW1, hS1, hL1, VB⟩ := V3.lay Wb0 35 (.bool p2) (.slice ao2 n2 c2) (.slice bo2 m2 d2)
  rw [hS0] at VB hS1
  replace hu := hu.below hL1
  replace hv := hv.below hL1
  replace VA := VA.below hL1
  replace BB := BB.trans (hL1.mono BB.size)
  clear hL1
  go_enter Tryz.func35, Tryz.ntmps35
  go_wp2_with fail
  rw [← hW0]
  rw [← hW1]
  clear hW0 hW1 hS0 hS1
  refine (parts_at _ _ _ _ hu hL).mono ?_
  rintro e w1 ⟨una, sna, za, xa, rfl, hza, hxa, hpa, hqa, b1⟩
  replace hu := hu.below b1
  replace hv := hv.below b1
  replace VA := VA.below b1
  replace VB := VB.below b1
  replace BB := BB.trans (b1.mono BB.size)
  clear b1
  obtain ⟨pna, ana, nna, cna, rfl⟩ := hza.open
  obtain ⟨bna, mna, dna, rfl⟩ := hxa.open
  have HQa : Hid (q = mkRat za xa) := hqa
  clear hqa
  have hZ1 : w.heap.size ≤ w1.heap.size := BB.size
  have hN1VA : w.heap.size ≠ w1.heap.size := Nat.ne_of_lt VA.lt
  have hN1VB : w.heap.size + 1 ≠ w1.heap.size := Nat.ne_of_lt VB.lt
  obtain ⟨W1, hW1, hS1, hL1, VNa⟩ := V2.lay w1 27 (.bool pna) (.slice ana nna cna)
  replace hu := hu.below hL1
  replace hv := hv.below hL1
  replace hza := hza.below hL1
  replace hxa := hxa.below hL1
  replace VA := VA.below hL1
  replace VB := VB.below hL1
  replace BB := BB.trans (hL1.mono BB.size)
  clear hL1
  obtain ⟨VB_0, VB_1, VB_2, VB_3, VB_4, VB_5⟩ := id VB
  rw [hW1] at VB_0 VB_1 VB_2 VB_3 VB_4 VB_5
  go_wp2_with fail
  clear VB_0 VB_1 VB_2 VB_3 VB_4 VB_5
  rw [← hW1]
  generalize w1.heap.size = R1 at *
  clear hW1 hS1
  refine (parts_at _ _ _ _ hv hL).mono ?_
  rintro e w2 ⟨unb, snb, zb, xb, rfl, hzb, hxb, hpb, hqb, b2⟩
  replace hu := hu.below b2
  replace hv := hv.below b2
  replace hza := hza.below b2
  replace hxa := hxa.below b2
  replace VA := VA.below b2
  replace VB := VB.below b2
  replace VNa := VNa.below b2
  replace BB := BB.trans (b2.mono BB.size)
  clear b2
  obtain ⟨pnb, anb, nnb, cnb, rfl⟩ := hzb.open
  obtain ⟨bnb, mnb, dnb, rfl⟩ := hxb.open
  have HQb : Hid (r = mkRat zb xb) := hqb
  clear hqb
  have hZ2 : w.heap.size ≤ w2.heap.size := BB.size
  have hN2VA : w.heap.size ≠ w2.heap.size := Nat.ne_of_lt VA.lt
  have hN2VB : w.heap.size + 1 ≠ w2.heap.size := Nat.ne_of_lt VB.lt
  have hN2VNa : R1 ≠ w2.heap.size := Nat.ne_of_lt VNa.lt
  obtain ⟨W2, hW2, hS2, hL2, VNb⟩ := V2.lay w2 27 (.bool pnb) (.slice anb nnb cnb)
  replace hu := hu.below hL2
  replace hv := hv.below hL2
  replace hza := hza.below hL2
  replace hxa := hxa.below hL2
  replace hzb := hzb.below hL2
  replace hxb := hxb.below hL2
  replace VA := VA.below hL2
  replace VB := VB.below hL2
  replace VNa := VNa.below hL2
  replace BB := BB.trans (hL2.mono BB.size)
  clear hL2
  go_wp2
  rw [← hW2]
  generalize w2.heap.size = R2 at *
  clear hW2 hS2
  clear hu hv
  have lab := nlz_mul hza.nl (show nl W32 (xb : Int).natAbs ≤ L by rw [Int.natAbs_natCast]; exact hxb.nl) (Nat.le_refl _)
  have lba := nlz_mul hzb.nl (show nl W32 (xa : Int).natAbs ≤ L by rw [Int.natAbs_natCast]; exact hxa.nl) (Nat.le_refl _)
  have hDr : Below W2.heap.size W2 W2.drew := (Below.refl _ _).drew
  replace hza := hza.below hDr
  replace hxa := hxa.below hDr
  replace hzb := hzb.below hDr
  replace hxb := hxb.below hDr
  replace VA := VA.below hDr
  replace VB := VB.below hDr
  replace VNa := VNa.below hDr
  replace VNb := VNb.below hDr
  replace BB := BB.trans (hDr.mono BB.size)
  clear hDr
  refine wp_region_held_drew (S := (fun w' => w'.cell? ⟨R1, 0, none⟩ = some (.bool pna) ∧ w'.cell? ⟨R1, 1, none⟩ = some (.slice ana nna cna) ∧ w'.cell? ⟨R2, 0, none⟩ = some (.bool pnb) ∧ w'.cell? ⟨R2, 1, none⟩ = some (.slice anb nnb cnb))) (by kernel_rfl) ?_ (fun hHeld => ?_)
  · exact ⟨VNa.1, VNa.2.1, VNb.1, VNb.2.1⟩
  generalize W2.drew = W3 at *
  refine wpAnyH_take (i := 0) (v := ?_) (by simp only [List.getElem?_toArray, List.getElem?_cons_succ, List.getElem?_cons_zero]; rfl) (by kernel_rfl) (by kernel_rfl) (by kernel_rfl) (by exact fun _ _ _ h => h) (Or.inl ⟨by rfl, ?_⟩) (by assumption) ?_
  rotate_left
  · (intro w hSw; (try dsimp only at hSw); go_simp; (try with_reducible rfl))
  (try simp only [Act.put, List.setIfInBounds_toArray, List.set_cons_zero, List.set_cons_succ])
  refine wpAnyH_take (i := 1) (v := ?_) (by simp only [List.getElem?_toArray, List.getElem?_cons_succ, List.getElem?_cons_zero]; rfl) (by kernel_rfl) (by kernel_rfl) (by kernel_rfl) (by exact fun _ _ _ h => h) (Or.inl ⟨by rfl, ?_⟩) (by assumption) ?_
  rotate_left
  · (intro w hSw; (try dsimp only at hSw); go_simp; (try with_reducible rfl))
  (try simp only [Act.put, List.setIfInBounds_toArray, List.set_cons_zero, List.set_cons_succ])
  refine wpAnyH_take (i := 3) (v := ?_) (by simp only [List.getElem?_toArray, List.getElem?_cons_succ, List.getElem?_cons_zero]; rfl) (by kernel_rfl) (by kernel_rfl) (by kernel_rfl) (by exact fun _ _ _ h => h) (Or.inl ⟨by rfl, ?_⟩) (by assumption) ?_
  rotate_left
  · (intro w hSw; (try dsimp only at hSw); go_simp; (try with_reducible rfl))
  (try simp only [Act.put, List.setIfInBounds_toArray, List.set_cons_zero, List.set_cons_succ])
  refine wpAnyH_take (i := 4) (v := ?_) (by simp only [List.getElem?_toArray, List.getElem?_cons_succ, List.getElem?_cons_zero]; rfl) (by kernel_rfl) (by kernel_rfl) (by kernel_rfl) (by exact fun _ _ _ h => h) (Or.inl ⟨by rfl, ?_⟩) (by assumption) ?_
  rotate_left
  · (intro w hSw; (try dsimp only at hSw); go_simp; (try with_reducible rfl))
  (try simp only [Act.put, List.setIfInBounds_toArray, List.set_cons_zero, List.set_cons_succ])
  refine wpAnyH_ready (rs := [2]) (by kernel_rfl) (by simp) ?_
  refine AllReadyH.cons (by simp only [List.getElem?_toArray, List.getElem?_cons_succ, List.getElem?_cons_zero]; rfl) (fun K hK => ?_) AllReadyH.nil
  go_simp
  refine (times_at _ _ _ _ _ _ _ hza hxb (by omega)).mono ?_
  rintro e w3 ⟨t1, rfl, h1, b3⟩
  go_wp2_with fail
  replace hza := hza.below b3
  replace hxa := hxa.below b3
  replace hzb := hzb.below b3
  replace hxb := hxb.below b3
  replace VA := VA.below b3
  replace VB := VB.below b3
  replace VNa := VNa.below b3
  replace VNb := VNb.below b3
  replace BB := BB.trans (b3.mono BB.size)
  clear b3
  refine hK.out _ _ ?_ (fun hH1 => ?_)
  · exact ⟨VNa.1, VNa.2.1, VNb.1, VNb.2.1⟩
  clear hK K hHeld
  (try simp only [Act.put, List.setIfInBounds_toArray, List.set_cons_zero, List.set_cons_succ])
  refine wpAnyH_ready (rs := [5]) (by kernel_rfl) (by simp) ?_
  refine AllReadyH.cons (by simp only [List.getElem?_toArray, List.getElem?_cons_succ, List.getElem?_cons_zero]; rfl) (fun K hK => ?_) AllReadyH.nil
  go_simp
  refine (times_at _ _ _ _ _ _ _ hzb hxa (by omega)).mono ?_
  rintro e w4 ⟨t2, rfl, h2, b4⟩
  go_wp2_with fail
  replace hza := hza.below b4
  replace hxa := hxa.below b4
  replace hzb := hzb.below b4
  replace hxb := hxb.below b4
  replace h1 := h1.below b4
  replace VA := VA.below b4
  replace VB := VB.below b4
  replace VNa := VNa.below b4
  replace VNb := VNb.below b4
  replace BB := BB.trans (b4.mono BB.size)
  clear b4
  refine hK.out _ _ ?_ (fun hH2 => ?_)
  · exact ⟨VNa.1, VNa.2.1, VNb.1, VNb.2.1⟩
  clear hK K hH1
  (try simp only [Act.put, List.setIfInBounds_toArray, List.set_cons_zero, List.set_cons_succ])
  refine wpAnyH_ready (rs := [6]) (by kernel_rfl) (by simp) ?_
  refine AllReadyH.cons (by simp only [List.getElem?_toArray, List.getElem?_cons_succ, List.getElem?_cons_zero]; rfl) (fun K hK => ?_) AllReadyH.nil
  go_simp
  refine (wcmp_any _ _ _ _ (L + L) (L + L) _ (h1.at _ lab) (h2.at _ lba)).mono ?_
  rintro e w5 ⟨rfl, b5⟩
  go_wp2_with fail
  replace hza := hza.below b5
  replace hxa := hxa.below b5
  replace hzb := hzb.below b5
  replace hxb := hxb.below b5
  replace h1 := h1.below b5
  replace h2 := h2.below b5
  replace VA := VA.below b5
  replace VB := VB.below b5
  replace VNa := VNa.below b5
  replace VNb := VNb.below b5
  replace BB := BB.trans (b5.mono BB.size)
  clear b5
  refine hK.out _ _ ?_ (fun hH3 => ?_)
  · exact ⟨VNa.1, VNa.2.1, VNb.1, VNb.2.1⟩
  clear hK K hH2
  (try simp only [Act.put, List.setIfInBounds_toArray, List.set_cons_zero, List.set_cons_succ])
  refine wpAnyH_take (i := 7) (v := ?_) (by simp only [List.getElem?_toArray, List.getElem?_cons_succ, List.getElem?_cons_zero]; rfl) (by kernel_rfl) (by kernel_rfl) (by kernel_rfl) (by exact fun _ _ _ h => h) (Or.inl ⟨by rfl, ?_⟩) (by assumption) ?_
  rotate_left
  · (intro w hSw; (try dsimp only at hSw); go_simp; (try with_reducible rfl))
  (try simp only [Act.put, List.setIfInBounds_toArray, List.set_cons_zero, List.set_cons_succ])
  refine wpAnyH_done (by kernel_rfl) ?_ _
  clear hH3
  have hcq := cmp_mkRat za zb xa xb hpa hpb
  rw [← HQa.out, ← HQb.out] at hcq
  generalize cmpI (za * (xb : Int)) (zb * (xa : Int)) = cc at *
  subst hcq
  go_wp2
  go_ret
  exact ⟨rfl, BB⟩


set_option maxRecDepth 20000 in
set_option maxHeartbeats 1000000 in
theorem qsame_at (u v : Value) (q r : Rat) (L : Nat) (w : World) (hu : RatAt w u q L) (hv : RatAt w v r L) (hL : 1 ≤ L) (hM : L ≤ 100000) :
    Calls Tryz.prog 14 #[u, v] w fun e w' => e = .returned (.bool (decide (q = r))) ∧ Below w.heap.size w w' := by
  obtain ⟨p, ao, n, c, bo, m, d, rfl⟩ := hu.open
  obtain ⟨p2, ao2, n2, c2, bo2, m2, d2, rfl⟩ := hv.open
  have BB : Below w.heap.size w w := Below.refl _ _
  obtain ⟨Wb0, hW0, hS0, hL0, VA⟩ := V3.lay w 35 (.bool p) (.slice ao n c) (.slice bo m d)
  replace hu := hu.below hL0
  replace hv := hv.below hL0
  replace BB := BB.trans (hL0.mono BB.size)
  clear hL0
  obtain ⟨Wb1, hW1, hS1, hL1, VB⟩ := V3.lay Wb0 35 (.bool p2) (.slice ao2 n2 c2) (.slice bo2 m2 d2)
  rw [hS0] at VB hS1
  replace hu := hu.below hL1
  replace hv := hv.below hL1
  replace VA := VA.below hL1
  replace BB := BB.trans (hL1.mono BB.size)
  clear hL1
  go_enter Tryz.func14, Tryz.ntmps14
  go_wp2_with fail
  rw [← hW0]
  rw [← hW1]
  clear hW0 hW1 hS0 hS1
  refine (qcmp_at _ _ _ _ _ _ hu hv hL hM).mono ?_
  rintro e w1 ⟨rfl, b1⟩
  replace hu := hu.below b1
  replace hv := hv.below b1
  replace VA := VA.below b1
  replace VB := VB.below b1
  replace BB := BB.trans (b1.mono BB.size)
  clear b1
  have hcq := cmpQ_zero q r
  generalize cmpQ q r = cc at *
  go_wp2
  go_ret
  exact ⟨rfl, BB⟩


theorem cmpQ_neg (a b : Rat) : decide (cmpQ a b < 0) = decide (a < b) := by
  unfold cmpQ
  by_cases h1 : a < b
  · rw [if_pos h1, decide_eq_true h1]; rfl
  · rw [if_neg h1, decide_eq_false h1]
    split <;> rfl


theorem fmod_zero (z : Int) (x : Nat) (hx : 0 < x) : (z.fmod (x : Int)).natAbs = 0 ↔ (x : Int) ∣ z := by
  rw [Int.fmod_eq_emod_of_nonneg _ (by omega)]
  constructor
  · intro h; exact Int.dvd_of_emod_eq_zero (by omega)
  · intro h; have := Int.emod_eq_zero_of_dvd h; omega
theorem if_congr' {α : Sort _} {p q : Prop} [Decidable p] [Decidable q] {a b : α} (h : p ↔ q) : (if p then a else b) = if q then a else b := by
  by_cases hp : p
  · rw [if_pos hp, if_pos (h.1 hp)]
  · rw [if_neg hp, if_neg (fun g => hp (h.2 g))]
theorem ceil_mkRat (z : Int) (x : Nat) (hx : 0 < x) : -((-mkRat z x).floor) = if (z.fmod (x : Int)).natAbs = 0 then z.fdiv (x : Int) else z.fdiv (x : Int) + 1 := by
  rw [Rat.neg_mkRat, floor_mkRat _ _ hx]
  have e : ∀ t : Int, t.fdiv (x : Int) = t / (x : Int) := fun t => Int.fdiv_eq_ediv_of_nonneg _ (by omega)
  rw [e, e]
  have h1 := Int.mul_ediv_add_emod z (x : Int)
  have h2 := Int.emod_nonneg z (show (x : Int) ≠ 0 by omega)
  have h3 := Int.emod_lt_of_pos z (show (0 : Int) < (x : Int) by omega)
  rw [if_congr' (fmod_zero z x hx)]
  by_cases hd : (x : Int) ∣ z
  · rw [if_pos hd]
    obtain ⟨k, rfl⟩ := hd
    rw [show -((x : Int) * k) = (x : Int) * (-k) by rw [Int.mul_neg], Int.mul_ediv_cancel_left _ (by omega), Int.mul_ediv_cancel_left _ (by omega)]; omega
  · rw [if_neg hd]
    have h4 : z % (x : Int) ≠ 0 := fun h => hd (Int.dvd_of_emod_eq_zero h)
    have h5 : -z = ((x : Int) - z % (x : Int)) + (x : Int) * (-(z / (x : Int)) - 1) := by
      rw [Int.mul_sub, Int.mul_neg]; omega
    rw [h5, Int.add_mul_ediv_left _ _ (by omega), Int.ediv_eq_zero_of_lt (by omega) (by omega)]
    omega


theorem fdiv_nl (z : Int) (x L : Nat) (h : nl W32 z.natAbs ≤ L) : nl W32 (z.fdiv (x : Int)).natAbs ≤ L + 1 := by
  by_cases hx : x = 0
  · subst hx; simp [nl_zero]
  rw [Int.fdiv_eq_ediv_of_nonneg _ (by omega)]
  have h0 : (z / (x : Int)).natAbs ≤ z.natAbs := Int.natAbs_ediv_le_natAbs _ _
  exact Nat.le_trans (nl_mono W32 _ _ (by decide) h0) (by omega)


theorem cmpI_zero2 (a b : Int) : (cmpI a b == 0) = decide (a = b) := by
  unfold cmpI
  rcases Int.lt_trichotomy a b with h | h | h
  · rw [if_pos h, decide_eq_false (by omega)]; rfl
  · subst h; simp
  · rw [if_neg (by omega), if_pos h, decide_eq_false (by omega)]; rfl


set_option maxRecDepth 20000 in
set_option maxHeartbeats 2000000 in
theorem qadd_at (u v : Value) (q r : Rat) (L : Nat) (w : World) (hu : RatAt w u q L) (hv : RatAt w v r L) (hL : 1 ≤ L) (hM : L ≤ 100000) (ht : Tab w) :
    Calls Tryz.prog 26 #[u, v] w fun e w' => ∃ x, e = .returned x ∧ RepQ w' x (q + r) ∧ Below w.heap.size w w' := by
  obtain ⟨p, ao, n, c, bo, m, d, rfl⟩ := hu.open
  obtain ⟨p2, ao2, n2, c2, bo2, m2, d2, rfl⟩ := hv.open
  have BB : Below w.heap.size w w := Below.refl _ _
  obtain ⟨Wb0, hW0, hS0, hL0, VA⟩ := V3.lay w 35 (.bool p) (.slice ao n c) (.slice bo m d)
  replace hu := hu.below hL0
  replace hv := hv.below hL0
  replace ht := ht.below hL0
  replace BB := BB.trans (hL0.mono BB.size)
  clear hL0
  obtain ⟨Wb1, hW1, hS1, hL1, VB⟩ := V3.lay Wb0 35 (.bool p2) (.slice ao2 n2 c2) (.slice bo2 m2 d2)
  rw [hS0] at VB hS1
  replace hu := hu.below hL1
  replace hv := hv.below hL1
  replace ht := ht.below hL1
  replace VA := VA.below hL1
  replace BB := BB.trans (hL1.mono BB.size)
  clear hL1
  obtain ⟨Wb2, hW2, hS2, hL2, VR⟩ := V3.lay Wb1 35 (.bool false) (.slice none 0 0) (.slice none 0 0)
  rw [hS1] at VR hS2
  replace hu := hu.below hL2
  replace hv := hv.below hL2
  replace ht := ht.below hL2
  replace VA := VA.below hL2
  replace VB := VB.below hL2
  replace BB := BB.trans (hL2.mono BB.size)
  clear hL2
  go_enter Tryz.func26, Tryz.ntmps26
  go_wp2_with fail
  rw [← hW0]
  rw [← hW1]
  rw [← hW2]
  clear hW0 hW1 hW2 hS0 hS1 hS2
  refine (parts_at _ _ _ _ hu hL).mono ?_
  rintro e w1 ⟨una, sna, za, xa, rfl, hza, hxa, hpa, hqa, b1⟩
  replace hu := hu.below b1
  replace hv := hv.below b1
  replace ht := ht.below b1
  replace VA := VA.below b1
  replace VB := VB.below b1
  replace VR := VR.below b1
  replace BB := BB.trans (b1.mono BB.size)
  clear b1
  obtain ⟨pna, ana, nna, cna, rfl⟩ := hza.open
  obtain ⟨bna, mna, dna, rfl⟩ := hxa.open
  have HQa : Hid (q = mkRat za xa) := hqa
  clear hqa
  have hZ1 : w.heap.size ≤ w1.heap.size := BB.size
  have hN1VA : w.heap.size ≠ w1.heap.size := Nat.ne_of_lt VA.lt
  have hN1VB : w.heap.size + 1 ≠ w1.heap.size := Nat.ne_of_lt VB.lt
  have hN1VR : w.heap.size + 1 + 1 ≠ w1.heap.size := Nat.ne_of_lt VR.lt
  obtain ⟨W1, hW1, hS1, hL1, VNa⟩ := V2.lay w1 27 (.bool pna) (.slice ana nna cna)
  replace hu := hu.below hL1
  replace hv := hv.below hL1
  replace ht := ht.below hL1
  replace hza := hza.below hL1
  replace hxa := hxa.below hL1
  replace VA := VA.below hL1
  replace VB := VB.below hL1
  replace VR := VR.below hL1
  replace BB := BB.trans (hL1.mono BB.size)
  clear hL1
  obtain ⟨VB_0, VB_1, VB_2, VB_3, VB_4, VB_5⟩ := id VB
  rw [hW1] at VB_0 VB_1 VB_2 VB_3 VB_4 VB_5
  go_wp2_with fail
  clear VB_0 VB_1 VB_2 VB_3 VB_4 VB_5
  rw [← hW1]
  generalize w1.heap.size = R1 at *
  clear hW1 hS1
  refine (parts_at _ _ _ _ hv hL).mono ?_
  rintro e w2 ⟨unb, snb, zb, xb, rfl, hzb, hxb, hpb, hqb, b2⟩
  replace hu := hu.below b2
  replace hv := hv.below b2
  replace ht := ht.below b2
  replace hza := hza.below b2
  replace hxa := hxa.below b2
  replace VA := VA.below b2
  replace VB := VB.below b2
  replace VR := VR.below b2
  replace VNa := VNa.below b2
  replace BB := BB.trans (b2.mono BB.size)
  clear b2
  obtain ⟨pnb, anb, nnb, cnb, rfl⟩ := hzb.open
  obtain ⟨bnb, mnb, dnb, rfl⟩ := hxb.open
  have HQb : Hid (r = mkRat zb xb) := hqb
  clear hqb
  have hZ2 : w.heap.size ≤ w2.heap.size := BB.size
  have hN2VA : w.heap.size ≠ w2.heap.size := Nat.ne_of_lt VA.lt
  have hN2VB : w.heap.size + 1 ≠ w2.heap.size := Nat.ne_of_lt VB.lt
  have hN2VR : w.heap.size + 1 + 1 ≠ w2.heap.size := Nat.ne_of_lt VR.lt
  have hN2VNa : R1 ≠ w2.heap.size := Nat.ne_of_lt VNa.lt
  obtain ⟨W2, hW2, hS2, hL2, VNb⟩ := V2.lay w2 27 (.bool pnb) (.slice anb nnb cnb)
  replace hu := hu.below hL2
  replace hv := hv.below hL2
  replace ht := ht.below hL2
  replace hza := hza.below hL2
  replace hxa := hxa.below hL2
  replace hzb := hzb.below hL2
  replace hxb := hxb.below hL2
  replace VA := VA.below hL2
  replace VB := VB.below hL2
  replace VR := VR.below hL2
  replace VNa := VNa.below hL2
  replace BB := BB.trans (hL2.mono BB.size)
  clear hL2
  go_wp2_with fail
  rw [← hW2]
  generalize w2.heap.size = R2 at *
  clear hW2 hS2
  clear hu hv
  refine (ncmp_at _ _ _ _ _ _ _ hxa hxb).mono ?_
  rintro e w3 ⟨rfl, b3⟩
  replace ht := ht.below b3
  replace hza := hza.below b3
  replace hxa := hxa.below b3
  replace hzb := hzb.below b3
  replace hxb := hxb.below b3
  replace VA := VA.below b3
  replace VB := VB.below b3
  replace VR := VR.below b3
  replace VNa := VNa.below b3
  replace VNb := VNb.below b3
  replace BB := BB.trans (b3.mono BB.size)
  clear b3
  have hcq : (cmpI (xa : Int) (xb : Int) == 0) = decide (xa = xb) := by rw [cmpI_zero2]; exact decide_eq_decide.2 (by omega)
  generalize cmpI (xa : Int) (xb : Int) = cc at *
  by_cases heq : xa = xb
  · rw [decide_eq_true heq] at hcq
    subst heq
    have HS : Hid (q + r = mkRat (za + zb) xa) := by
      show _ = _
      rw [HQa.out, HQb.out, add_mkRat_same _ _ _ hpa]
    have lab : nl W32 (za + zb).natAbs ≤ L + 1 := nlz_add hza.nl hzb.nl (by omega) (by omega)
    obtain ⟨VNa_0, VNa_1, VNa_2, VNa_3⟩ := id VNa
    obtain ⟨VNb_0, VNb_1, VNb_2, VNb_3⟩ := id VNb
    go_wp2_with fail
    clear VNa_0 VNa_1 VNa_2 VNa_3 VNb_0 VNb_1 VNb_2 VNb_3
    refine (wadd_any _ _ _ _ _ _ _ hza hzb (by omega) (by omega)).mono ?_
    rintro e w4 ⟨t1, rfl, h1, b4⟩
    replace ht := ht.below b4
    replace hza := hza.below b4
    replace hxa := hxa.below b4
    replace hzb := hzb.below b4
    replace hxb := hxb.below b4
    replace VA := VA.below b4
    replace VB := VB.below b4
    replace VR := VR.below b4
    replace VNa := VNa.below b4
    replace VNb := VNb.below b4
    replace BB := BB.trans (b4.mono BB.size)
    clear b4
    go_wp2_with fail
    refine (lowest_at _ _ _ _ _ _ _ (h1.at _ lab) hxa (by omega) (by omega) hpa ht).mono ?_
    rintro e w5 ⟨rr, rfl, hr, b5⟩
    replace ht := ht.below b5
    replace hza := hza.below b5
    replace hxa := hxa.below b5
    replace hzb := hzb.below b5
    replace hxb := hxb.below b5
    replace h1 := h1.below b5
    replace VA := VA.below b5
    replace VB := VB.below b5
    replace VR := VR.below b5
    replace VNa := VNa.below b5
    replace VNb := VNb.below b5
    replace BB := BB.trans (b5.mono BB.size)
    clear b5
    rw [← HS.out] at hr
    obtain ⟨pr, ar, nr, cr, br, mr, dr, rfl⟩ := hr.open
    have hKp := VR.keepJ (.bool pr) (.slice ar nr cr) (.slice br mr dr)
    have ht_n := ht.keep hKp
    have hza_n := hza.keep hKp
    have hxa_n := hxa.keep hKp
    have hzb_n := hzb.keep hKp
    have hxb_n := hxb.keep hKp
    have h1_n := h1.keep hKp
    have hr_n := hr.keep hKp
    have BB_n := below_store3 (R := w.heap.size + 1 + 1) BB (by omega) (.bool pr) (.slice ar nr cr) (.slice br mr dr)
    clear hKp
    obtain ⟨q1, q2, q3, q4, q5, q6⟩ := id VR
    go_wp2
    (try simp only [Exit.inBlock, Exit.then])
    refine bodyPost_ret (v := .agg #[.bool pr, .slice ar nr cr, .slice br mr dr]) (by simp [results, go_sem, q1, q2, q3]) rfl ?_
    exact ⟨_, rfl, hr_n, BB_n⟩
  · rw [decide_eq_false heq] at hcq
    have HS : Hid (q + r = mkRat (za * (xb : Int) + zb * (xa : Int)) (xa * xb)) := by
      show _ = _
      rw [HQa.out, HQb.out, add_mkRat _ _ _ _ hpa hpb]
    have l1 := nlz_mul hza.nl (show nl W32 (xb : Int).natAbs ≤ L by rw [Int.natAbs_natCast]; exact hxb.nl) (Nat.le_refl _)
    have l2 := nlz_mul hzb.nl (show nl W32 (xa : Int).natAbs ≤ L by rw [Int.natAbs_natCast]; exact hxa.nl) (Nat.le_refl _)
    have l3 : nl W32 (za * (xb : Int) + zb * (xa : Int)).natAbs ≤ L + L + 1 := nlz_add l1 l2 (by omega) (by omega)
    have l4 : nl W32 (xa * xb) ≤ L + L := nln_mul hxa.nl hxb.nl
    have hpp : 0 < xa * xb := Nat.mul_pos hpa hpb
    go_wp2
    have hDr : Below w3.heap.size w3 w3.drew := (Below.refl _ _).drew
    replace ht := ht.below hDr
    replace hza := hza.below hDr
    replace hxa := hxa.below hDr
    replace hzb := hzb.below hDr
    replace hxb := hxb.below hDr
    replace VA := VA.below hDr
    replace VB := VB.below hDr
    replace VR := VR.below hDr
    replace VNa := VNa.below hDr
    replace VNb := VNb.below hDr
    replace BB := BB.trans (hDr.mono BB.size)
    clear hDr
    refine wp_region_held_drew (S := (fun w' => w'.cell? ⟨R1, 0, none⟩ = some (.bool pna) ∧ w'.cell? ⟨R1, 1, none⟩ = some (.slice ana nna cna) ∧ w'.cell? ⟨R2, 0, none⟩ = some (.bool pnb) ∧ w'.cell? ⟨R2, 1, none⟩ = some (.slice anb nnb cnb))) (by kernel_rfl) ?_ (fun hHeld => ?_)
    · exact ⟨VNa.1, VNa.2.1, VNb.1, VNb.2.1⟩
    generalize w3.drew = W3 at *
    refine wpAnyH_take (i := 0) (v := ?_) (by simp only [List.getElem?_toArray, List.getElem?_cons_succ, List.getElem?_cons_zero]; rfl) (by kernel_rfl) (by kernel_rfl) (by kernel_rfl) (by exact fun _ _ _ h => h) (Or.inl ⟨by rfl, ?_⟩) (by assumption) ?_
    rotate_left
    · (intro w hSw; (try dsimp only at hSw); go_simp; (try with_reducible rfl))
    (try simp only [Act.put, List.setIfInBounds_toArray, List.set_cons_zero, List.set_cons_succ])
    refine wpAnyH_take (i := 1) (v := ?_) (by simp only [List.getElem?_toArray, List.getElem?_cons_succ, List.getElem?_cons_zero]; rfl) (by kernel_rfl) (by kernel_rfl) (by kernel_rfl) (by exact fun _ _ _ h => h) (Or.inl ⟨by rfl, ?_⟩) (by assumption) ?_
    rotate_left
    · (intro w hSw; (try dsimp only at hSw); go_simp; (try with_reducible rfl))
    (try simp only [Act.put, List.setIfInBounds_toArray, List.set_cons_zero, List.set_cons_succ])
    refine wpAnyH_take (i := 3) (v := ?_) (by simp only [List.getElem?_toArray, List.getElem?_cons_succ, List.getElem?_cons_zero]; rfl) (by kernel_rfl) (by kernel_rfl) (by kernel_rfl) (by exact fun _ _ _ h => h) (Or.inl ⟨by rfl, ?_⟩) (by assumption) ?_
    rotate_left
    · (intro w hSw; (try dsimp only at hSw); go_simp; (try with_reducible rfl))
    (try simp only [Act.put, List.setIfInBounds_toArray, List.set_cons_zero, List.set_cons_succ])
    refine wpAnyH_take (i := 4) (v := ?_) (by simp only [List.getElem?_toArray, List.getElem?_cons_succ, List.getElem?_cons_zero]; rfl) (by kernel_rfl) (by kernel_rfl) (by kernel_rfl) (by exact fun _ _ _ h => h) (Or.inl ⟨by rfl, ?_⟩) (by assumption) ?_
    rotate_left
    · (intro w hSw; (try dsimp only at hSw); go_simp; (try with_reducible rfl))
    (try simp only [Act.put, List.setIfInBounds_toArray, List.set_cons_zero, List.set_cons_succ])
    refine wpAnyH_take (i := 7) (v := ?_) (by simp only [List.getElem?_toArray, List.getElem?_cons_succ, List.getElem?_cons_zero]; rfl) (by kernel_rfl) (by kernel_rfl) (by kernel_rfl) (by exact fun _ _ _ h => h) (Or.inl ⟨by rfl, ?_⟩) (by assumption) ?_
    rotate_left
    · (intro w hSw; (try dsimp only at hSw); go_simp; (try with_reducible rfl))
    (try simp only [Act.put, List.setIfInBounds_toArray, List.set_cons_zero, List.set_cons_succ])
    refine wpAnyH_take (i := 8) (v := ?_) (by simp only [List.getElem?_toArray, List.getElem?_cons_succ, List.getElem?_cons_zero]; rfl) (by kernel_rfl) (by kernel_rfl) (by kernel_rfl) (by exact fun _ _ _ h => h) (Or.inl ⟨by rfl, ?_⟩) (by assumption) ?_
    rotate_left
    · (intro w hSw; (try dsimp only at hSw); go_simp; (try with_reducible rfl))
    (try simp only [Act.put, List.setIfInBounds_toArray, List.set_cons_zero, List.set_cons_succ])
    refine wpAnyH_ready (rs := [2]) (by kernel_rfl) (by simp) ?_
    refine AllReadyH.cons (by simp only [List.getElem?_toArray, List.getElem?_cons_succ, List.getElem?_cons_zero]; rfl) (fun K hK => ?_) AllReadyH.nil
    go_simp
    refine (times_at _ _ _ _ _ _ _ hza hxb (by omega)).mono ?_
    rintro e w4 ⟨t1, rfl, h1, b4⟩
    go_wp2_with fail
    replace ht := ht.below b4
    replace hza := hza.below b4
    replace hxa := hxa.below b4
    replace hzb := hzb.below b4
    replace hxb := hxb.below b4
    replace VA := VA.below b4
    replace VB := VB.below b4
    replace VR := VR.below b4
    replace VNa := VNa.below b4
    replace VNb := VNb.below b4
    replace BB := BB.trans (b4.mono BB.size)
    clear b4
    refine hK.out _ _ ?_ (fun hH1 => ?_)
    · exact ⟨VNa.1, VNa.2.1, VNb.1, VNb.2.1⟩
    clear hK K hHeld
    (try simp only [Act.put, List.setIfInBounds_toArray, List.set_cons_zero, List.set_cons_succ])
    refine wpAnyH_ready (rs := [5]) (by kernel_rfl) (by simp) ?_
    refine AllReadyH.cons (by simp only [List.getElem?_toArray, List.getElem?_cons_succ, List.getElem?_cons_zero]; rfl) (fun K hK => ?_) AllReadyH.nil
    go_simp
    refine (times_at _ _ _ _ _ _ _ hzb hxa (by omega)).mono ?_
    rintro e w5 ⟨t2, rfl, h2, b5⟩
    go_wp2_with fail
    replace ht := ht.below b5
    replace hza := hza.below b5
    replace hxa := hxa.below b5
    replace hzb := hzb.below b5
    replace hxb := hxb.below b5
    replace h1 := h1.below b5
    replace VA := VA.below b5
    replace VB := VB.below b5
    replace VR := VR.below b5
    replace VNa := VNa.below b5
    replace VNb := VNb.below b5
    replace BB := BB.trans (b5.mono BB.size)
    clear b5
    refine hK.out _ _ ?_ (fun hH2 => ?_)
    · exact ⟨VNa.1, VNa.2.1, VNb.1, VNb.2.1⟩
    clear hK K hH1
    (try simp only [Act.put, List.setIfInBounds_toArray, List.set_cons_zero, List.set_cons_succ])
    refine wpAnyH_ready (rs := [6]) (by kernel_rfl) (by simp) ?_
    refine AllReadyH.cons (by simp only [List.getElem?_toArray, List.getElem?_cons_succ, List.getElem?_cons_zero]; rfl) (fun K hK => ?_) AllReadyH.nil
    go_simp
    refine (wadd_any _ _ _ _ _ _ _ (h1.at _ l1) (h2.at _ l2) (by omega) (by omega)).mono ?_
    rintro e w6 ⟨t3, rfl, h3, b6⟩
    go_wp2_with fail
    replace ht := ht.below b6
    replace hza := hza.below b6
    replace hxa := hxa.below b6
    replace hzb := hzb.below b6
    replace hxb := hxb.below b6
    replace h1 := h1.below b6
    replace h2 := h2.below b6
    replace VA := VA.below b6
    replace VB := VB.below b6
    replace VR := VR.below b6
    replace VNa := VNa.below b6
    replace VNb := VNb.below b6
    replace BB := BB.trans (b6.mono BB.size)
    clear b6
    refine hK.out _ _ ?_ (fun hH3 => ?_)
    · exact ⟨VNa.1, VNa.2.1, VNb.1, VNb.2.1⟩
    clear hK K hH2
    (try simp only [Act.put, List.setIfInBounds_toArray, List.set_cons_zero, List.set_cons_succ])
    refine wpAnyH_ready (rs := [9]) (by kernel_rfl) (by simp) ?_
    refine AllReadyH.cons (by simp only [List.getElem?_toArray, List.getElem?_cons_succ, List.getElem?_cons_zero]; rfl) (fun K hK => ?_) AllReadyH.nil
    go_simp
    refine (nmul_at _ _ _ _ _ _ _ hxa hxb (by omega)).mono ?_
    rintro e w7 ⟨t4, rfl, h4, b7⟩
    go_wp2_with fail
    replace ht := ht.below b7
    replace hza := hza.below b7
    replace hxa := hxa.below b7
    replace hzb := hzb.below b7
    replace hxb := hxb.below b7
    replace h1 := h1.below b7
    replace h2 := h2.below b7
    replace h3 := h3.below b7
    replace VA := VA.below b7
    replace VB := VB.below b7
    replace VR := VR.below b7
    replace VNa := VNa.below b7
    replace VNb := VNb.below b7
    replace BB := BB.trans (b7.mono BB.size)
    clear b7
    refine hK.out _ _ ?_ (fun hH4 => ?_)
    · exact ⟨VNa.1, VNa.2.1, VNb.1, VNb.2.1⟩
    clear hK K hH3
    (try simp only [Act.put, List.setIfInBounds_toArray, List.set_cons_zero, List.set_cons_succ])
    refine wpAnyH_ready (rs := [10]) (by kernel_rfl) (by simp) ?_
    refine AllReadyH.cons (by simp only [List.getElem?_toArray, List.getElem?_cons_succ, List.getElem?_cons_zero]; rfl) (fun K hK => ?_) AllReadyH.nil
    go_simp
    refine (lowest_at _ _ _ _ _ _ _ (h3.at _ l3) (h4.at _ l4) (by omega) (by omega) hpp ht).mono ?_
    rintro e w8 ⟨rr, rfl, hr, b8⟩
    rw [← HS.out] at hr
    obtain ⟨pr, ar, nr, cr, br, mr, dr, rfl⟩ := hr.open
    go_wp2_with fail
    replace ht := ht.below b8
    replace hza := hza.below b8
    replace hxa := hxa.below b8
    replace hzb := hzb.below b8
    replace hxb := hxb.below b8
    replace h1 := h1.below b8
    replace h2 := h2.below b8
    replace h3 := h3.below b8
    replace h4 := h4.below b8
    replace VA := VA.below b8
    replace VB := VB.below b8
    replace VR := VR.below b8
    replace VNa := VNa.below b8
    replace VNb := VNb.below b8
    replace BB := BB.trans (b8.mono BB.size)
    clear b8
    refine hK.out _ _ ?_ (fun hH5 => ?_)
    · exact ⟨VNa.1, VNa.2.1, VNb.1, VNb.2.1⟩
    clear hK K hH4
    (try simp only [Act.put, List.setIfInBounds_toArray, List.set_cons_zero, List.set_cons_succ])
    refine wpAnyH_ready (rs := [11]) (by kernel_rfl) (by simp) ?_
    refine AllReadyH.cons (by simp only [List.getElem?_toArray, List.getElem?_cons_succ, List.getElem?_cons_zero]; rfl) (fun K hK => ?_) AllReadyH.nil
    have hKp := VR.keepJ (.bool pr) (.slice ar nr cr) (.slice br mr dr)
    have VA_n := VA.other3 (R := w.heap.size + 1 + 1) (by omega) (.bool pr) (.slice ar nr cr) (.slice br mr dr)
    have VB_n := VB.other3 (R := w.heap.size + 1 + 1) (by omega) (.bool pr) (.slice ar nr cr) (.slice br mr dr)
    have VNa_n := VNa.other3 (R := w.heap.size + 1 + 1) (by omega) (.bool pr) (.slice ar nr cr) (.slice br mr dr)
    have VNb_n := VNb.other3 (R := w.heap.size + 1 + 1) (by omega) (.bool pr) (.slice ar nr cr) (.slice br mr dr)
    have VR_n := VR.same (.bool pr) (.slice ar nr cr) (.slice br mr dr)
    have ht_n := ht.keep hKp
    have hza_n := hza.keep hKp
    have hxa_n := hxa.keep hKp
    have hzb_n := hzb.keep hKp
    have hxb_n := hxb.keep hKp
    have h1_n := h1.keep hKp
    have h2_n := h2.keep hKp
    have h3_n := h3.keep hKp
    have h4_n := h4.keep hKp
    have hr_n := hr.keep hKp
    have BB_n := below_store3 (R := w.heap.size + 1 + 1) BB (by omega) (.bool pr) (.slice ar nr cr) (.slice br mr dr)
    clear hKp
    obtain ⟨VR_0, VR_1, VR_2, VR_3, VR_4, VR_5⟩ := id VR
    go_simp
    clear VR_0 VR_1 VR_2 VR_3 VR_4 VR_5
    clear BB ht hza hxa hzb hxb h1 h2 h3 h4 hr VA VB VR VNa VNb
    generalize ((w8.setCell ⟨w.heap.size + 1 + 1, 0, none⟩ (.bool pr)).setCell ⟨w.heap.size + 1 + 1, 1, none⟩ (.slice ar nr cr)).setCell ⟨w.heap.size + 1 + 1, 2, none⟩ (.slice br mr dr) = W4 at *
    have BB := BB_n
    have ht := ht_n
    have hza := hza_n
    have hxa := hxa_n
    have hzb := hzb_n
    have hxb := hxb_n
    have h1 := h1_n
    have h2 := h2_n
    have h3 := h3_n
    have h4 := h4_n
    have hr := hr_n
    have VA := VA_n
    have VB := VB_n
    have VR := VR_n
    have VNa := VNa_n
    have VNb := VNb_n
    clear BB_n ht_n hza_n hxa_n hzb_n hxb_n h1_n h2_n h3_n h4_n hr_n VA_n VB_n VR_n VNa_n VNb_n
    refine hK.out _ _ ?_ (fun hH6 => ?_)
    · exact ⟨VNa.1, VNa.2.1, VNb.1, VNb.2.1⟩
    clear hK K hH5
    (try simp only [Act.put, List.setIfInBounds_toArray, List.set_cons_zero, List.set_cons_succ])
    refine wpAnyH_done (by kernel_rfl) ?_ _
    clear hH6
    obtain ⟨q1, q2, q3, q4, q5, q6⟩ := id VR
    go_wp2
    (try simp only [Exit.inBlock, Exit.then])
    refine bodyPost_ret (v := .agg #[.bool pr, .slice ar nr cr, .slice br mr dr]) (by simp [results, go_sem, q1, q2, q3]) rfl ?_
    exact ⟨_, rfl, hr, BB⟩


set_option maxRecDepth 20000 in
set_option maxHeartbeats 2000000 in
theorem qmul_at (u v : Value) (q r : Rat) (L : Nat) (w : World) (hu : RatAt w u q L) (hv : RatAt w v r L) (hL : 1 ≤ L) (hM : L ≤ 100000) (ht : Tab w) :
    Calls Tryz.prog 21 #[u, v] w fun e w' => ∃ x, e = .returned x ∧ RepQ w' x (q * r) ∧ Below w.heap.size w w' := by
  obtain ⟨p, ao, n, c, bo, m, d, rfl⟩ := hu.open
  obtain ⟨p2, ao2, n2, c2, bo2, m2, d2, rfl⟩ := hv.open
  have BB : Below w.heap.size w w := Below.refl _ _
  obtain ⟨Wb0, hW0, hS0, hL0, VA⟩ := V3.lay w 35 (.bool p) (.slice ao n c) (.slice bo m d)
  replace hu := hu.below hL0
  replace hv := hv.below hL0
  replace ht := ht.below hL0
  replace BB := BB.trans (hL0.mono BB.size)
  clear hL0
  obtain ⟨Wb1, hW1, hS1, hL1, VB⟩ := V3.lay Wb0 35 (.bool p2) (.slice ao2 n2 c2) (.slice bo2 m2 d2)
  rw [hS0] at VB hS1
  replace hu := hu.below hL1
  replace hv := hv.below hL1
  replace ht := ht.below hL1
  replace VA := VA.below hL1
  replace BB := BB.trans (hL1.mono BB.size)
  clear hL1
  obtain ⟨Wb2, hW2, hS2, hL2, VR⟩ := V3.lay Wb1 35 (.bool false) (.slice none 0 0) (.slice none 0 0)
  rw [hS1] at VR hS2
  replace hu := hu.below hL2
  replace hv := hv.below hL2
  replace ht := ht.below hL2
  replace VA := VA.below hL2
  replace VB := VB.below hL2
  replace BB := BB.trans (hL2.mono BB.size)
  clear hL2
  go_enter Tryz.func21, Tryz.ntmps21
  go_wp2_with fail
  rw [← hW0]
  rw [← hW1]
  rw [← hW2]
  clear hW0 hW1 hW2 hS0 hS1 hS2
  refine (parts_at _ _ _ _ hu hL).mono ?_
  rintro e w1 ⟨una, sna, za, xa, rfl, hza, hxa, hpa, hqa, b1⟩
  replace hu := hu.below b1
  replace hv := hv.below b1
  replace ht := ht.below b1
  replace VA := VA.below b1
  replace VB := VB.below b1
  replace VR := VR.below b1
  replace BB := BB.trans (b1.mono BB.size)
  clear b1
  obtain ⟨pna, ana, nna, cna, rfl⟩ := hza.open
  obtain ⟨bna, mna, dna, rfl⟩ := hxa.open
  have HQa : Hid (q = mkRat za xa) := hqa
  clear hqa
  have hZ1 : w.heap.size ≤ w1.heap.size := BB.size
  have hN1VA : w.heap.size ≠ w1.heap.size := Nat.ne_of_lt VA.lt
  have hN1VB : w.heap.size + 1 ≠ w1.heap.size := Nat.ne_of_lt VB.lt
  have hN1VR : w.heap.size + 1 + 1 ≠ w1.heap.size := Nat.ne_of_lt VR.lt
  obtain ⟨W1, hW1, hS1, hL1, VNa⟩ := V2.lay w1 27 (.bool pna) (.slice ana nna cna)
  replace hu := hu.below hL1
  replace hv := hv.below hL1
  replace ht := ht.below hL1
  replace hza := hza.below hL1
  replace hxa := hxa.below hL1
  replace VA := VA.below hL1
  replace VB := VB.below hL1
  replace VR := VR.below hL1
  replace BB := BB.trans (hL1.mono BB.size)
  clear hL1
  obtain ⟨VB_0, VB_1, VB_2, VB_3, VB_4, VB_5⟩ := id VB
  rw [hW1] at VB_0 VB_1 VB_2 VB_3 VB_4 VB_5
  go_wp2_with fail
  clear VB_0 VB_1 VB_2 VB_3 VB_4 VB_5
  rw [← hW1]
  generalize w1.heap.size = R1 at *
  clear hW1 hS1
  refine (parts_at _ _ _ _ hv hL).mono ?_
  rintro e w2 ⟨unb, snb, zb, xb, rfl, hzb, hxb, hpb, hqb, b2⟩
  replace hu := hu.below b2
  replace hv := hv.below b2
  replace ht := ht.below b2
  replace hza := hza.below b2
  replace hxa := hxa.below b2
  replace VA := VA.below b2
  replace VB := VB.below b2
  replace VR := VR.below b2
  replace VNa := VNa.below b2
  replace BB := BB.trans (b2.mono BB.size)
  clear b2
  obtain ⟨pnb, anb, nnb, cnb, rfl⟩ := hzb.open
  obtain ⟨bnb, mnb, dnb, rfl⟩ := hxb.open
  have HQb : Hid (r = mkRat zb xb) := hqb
  clear hqb
  have hZ2 : w.heap.size ≤ w2.heap.size := BB.size
  have hN2VA : w.heap.size ≠ w2.heap.size := Nat.ne_of_lt VA.lt
  have hN2VB : w.heap.size + 1 ≠ w2.heap.size := Nat.ne_of_lt VB.lt
  have hN2VR : w.heap.size + 1 + 1 ≠ w2.heap.size := Nat.ne_of_lt VR.lt
  have hN2VNa : R1 ≠ w2.heap.size := Nat.ne_of_lt VNa.lt
  obtain ⟨W2, hW2, hS2, hL2, VNb⟩ := V2.lay w2 27 (.bool pnb) (.slice anb nnb cnb)
  replace hu := hu.below hL2
  replace hv := hv.below hL2
  replace ht := ht.below hL2
  replace hza := hza.below hL2
  replace hxa := hxa.below hL2
  replace hzb := hzb.below hL2
  replace hxb := hxb.below hL2
  replace VA := VA.below hL2
  replace VB := VB.below hL2
  replace VR := VR.below hL2
  replace VNa := VNa.below hL2
  replace BB := BB.trans (hL2.mono BB.size)
  clear hL2
  obtain ⟨VNa_0, VNa_1, VNa_2, VNa_3⟩ := id VNa
  rw [hW2] at VNa_0 VNa_1 VNa_2 VNa_3
  go_wp2_with fail
  clear VNa_0 VNa_1 VNa_2 VNa_3
  rw [← hW2]
  generalize w2.heap.size = R2 at *
  clear hW2 hS2
  clear hu hv
  have HS : Hid (q * r = mkRat (za * zb) (xa * xb)) := by
    show _ = _
    rw [HQa.out, HQb.out, Rat.mkRat_mul_mkRat]
  have l1 := nlz_mul hza.nl hzb.nl (Nat.le_refl _)
  have l4 : nl W32 (xa * xb) ≤ L + L := nln_mul hxa.nl hxb.nl
  have hpp : 0 < xa * xb := Nat.mul_pos hpa hpb
  refine (wmul_any _ _ _ _ _ _ _ hza hzb (by omega)).mono ?_
  rintro e w3 ⟨t1, rfl, h1, b3⟩
  replace ht := ht.below b3
  replace hza := hza.below b3
  replace hxa := hxa.below b3
  replace hzb := hzb.below b3
  replace hxb := hxb.below b3
  replace VA := VA.below b3
  replace VB := VB.below b3
  replace VR := VR.below b3
  replace VNa := VNa.below b3
  replace VNb := VNb.below b3
  replace BB := BB.trans (b3.mono BB.size)
  clear b3
  go_wp2_with fail
  refine (nmul_at _ _ _ _ _ _ _ hxa hxb (by omega)).mono ?_
  rintro e w4 ⟨t4, rfl, h4, b4⟩
  replace ht := ht.below b4
  replace hza := hza.below b4
  replace hxa := hxa.below b4
  replace hzb := hzb.below b4
  replace hxb := hxb.below b4
  replace h1 := h1.below b4
  replace VA := VA.below b4
  replace VB := VB.below b4
  replace VR := VR.below b4
  replace VNa := VNa.below b4
  replace VNb := VNb.below b4
  replace BB := BB.trans (b4.mono BB.size)
  clear b4
  go_wp2_with fail
  refine (lowest_at _ _ _ _ _ _ _ (h1.at _ l1) (h4.at _ l4) (by omega) (by omega) hpp ht).mono ?_
  rintro e w5 ⟨rr, rfl, hr, b5⟩
  replace ht := ht.below b5
  replace hza := hza.below b5
  replace hxa := hxa.below b5
  replace hzb := hzb.below b5
  replace hxb := hxb.below b5
  replace h1 := h1.below b5
  replace h4 := h4.below b5
  replace VA := VA.below b5
  replace VB := VB.below b5
  replace VR := VR.below b5
  replace VNa := VNa.below b5
  replace VNb := VNb.below b5
  replace BB := BB.trans (b5.mono BB.size)
  clear b5
  rw [← HS.out] at hr
  obtain ⟨pr, ar, nr, cr, br, mr, dr, rfl⟩ := hr.open
  have hKp := VR.keepJ (.bool pr) (.slice ar nr cr) (.slice br mr dr)
  have ht_n := ht.keep hKp
  have hza_n := hza.keep hKp
  have hxa_n := hxa.keep hKp
  have hzb_n := hzb.keep hKp
  have hxb_n := hxb.keep hKp
  have h1_n := h1.keep hKp
  have h4_n := h4.keep hKp
  have hr_n := hr.keep hKp
  have BB_n := below_store3 (R := w.heap.size + 1 + 1) BB (by omega) (.bool pr) (.slice ar nr cr) (.slice br mr dr)
  clear hKp
  obtain ⟨q1, q2, q3, q4, q5, q6⟩ := id VR
  go_wp2
  (try simp only [Exit.inBlock, Exit.then])
  refine bodyPost_ret (v := .agg #[.bool pr, .slice ar nr cr, .slice br mr dr]) (by simp [results, go_sem, q1, q2, q3]) rfl ?_
  exact ⟨_, rfl, hr_n, BB_n⟩


set_option maxRecDepth 20000 in
set_option maxHeartbeats 1000000 in
theorem qneg_at (v : Value) (q : Rat) (L : Nat) (w : World) (hv : RatAt w v q L) (hL : 1 ≤ L) (hM : L ≤ 100000) (ht : Tab w) :
    Calls Tryz.prog 25 #[v] w fun e w' => ∃ x, e = .returned x ∧ RepQ w' x (-q) ∧ Below w.heap.size w w' := by
  obtain ⟨p, ao, n, c, bo, m, d, rfl⟩ := hv.open
  have BB : Below w.heap.size w w := Below.refl _ _
  obtain ⟨Wb0, hW0, hS0, hL0, VA⟩ := V3.lay w 35 (.bool p) (.slice ao n c) (.slice bo m d)
  replace hv := hv.below hL0
  replace ht := ht.below hL0
  replace BB := BB.trans (hL0.mono BB.size)
  clear hL0
  obtain ⟨Wb1, hW1, hS1, hL1, VR⟩ := V3.lay Wb0 35 (.bool false) (.slice none 0 0) (.slice none 0 0)
  rw [hS0] at VR hS1
  replace hv := hv.below hL1
  replace ht := ht.below hL1
  replace VA := VA.below hL1
  replace BB := BB.trans (hL1.mono BB.size)
  clear hL1
  go_enter Tryz.func25, Tryz.ntmps25
  go_wp2_with fail
  rw [← hW0]
  rw [← hW1]
  clear hW0 hW1 hS0 hS1
  refine (parts_at _ _ _ _ hv hL).mono ?_
  rintro e w1 ⟨una, sna, za, xa, rfl, hza, hxa, hpa, hqa, b1⟩
  replace hv := hv.below b1
  replace ht := ht.below b1
  replace VA := VA.below b1
  replace VR := VR.below b1
  replace BB := BB.trans (b1.mono BB.size)
  clear b1
  obtain ⟨pna, ana, nna, cna, rfl⟩ := hza.open
  obtain ⟨bna, mna, dna, rfl⟩ := hxa.open
  have HQa : Hid (q = mkRat za xa) := hqa
  clear hqa
  have hZ1 : w.heap.size ≤ w1.heap.size := BB.size
  have hN1VA : w.heap.size ≠ w1.heap.size := Nat.ne_of_lt VA.lt
  have hN1VR : w.heap.size + 1 ≠ w1.heap.size := Nat.ne_of_lt VR.lt
  obtain ⟨W1, hW1, hS1, hL1, VNa⟩ := V2.lay w1 27 (.bool pna) (.slice ana nna cna)
  replace hv := hv.below hL1
  replace ht := ht.below hL1
  replace hza := hza.below hL1
  replace hxa := hxa.below hL1
  replace VA := VA.below hL1
  replace VR := VR.below hL1
  replace BB := BB.trans (hL1.mono BB.size)
  clear hL1
  go_wp2_with fail
  rw [← hW1]
  generalize w1.heap.size = R1 at *
  clear hW1 hS1
  have HS : Hid (-q = mkRat (-za) xa) := by
    show _ = _
    rw [HQa.out, Rat.neg_mkRat]
  have l1 : nl W32 (-za).natAbs ≤ L := nlz_neg hza.nl
  refine (wneg_any _ _ _ _ hza).mono ?_
  rintro e w2 ⟨t1, rfl, h1, b2⟩
  replace hv := hv.below b2
  replace ht := ht.below b2
  replace hza := hza.below b2
  replace hxa := hxa.below b2
  replace VA := VA.below b2
  replace VR := VR.below b2
  replace VNa := VNa.below b2
  replace BB := BB.trans (b2.mono BB.size)
  clear b2
  go_wp2_with fail
  refine (lowest_at _ _ _ _ _ _ _ (h1.at _ l1) hxa (by omega) (by omega) hpa ht).mono ?_
  rintro e w3 ⟨rr, rfl, hr, b3⟩
  replace hv := hv.below b3
  replace ht := ht.below b3
  replace hza := hza.below b3
  replace hxa := hxa.below b3
  replace h1 := h1.below b3
  replace VA := VA.below b3
  replace VR := VR.below b3
  replace VNa := VNa.below b3
  replace BB := BB.trans (b3.mono BB.size)
  clear b3
  rw [← HS.out] at hr
  obtain ⟨pr, ar, nr, cr, br, mr, dr, rfl⟩ := hr.open
  have hKp := VR.keepJ (.bool pr) (.slice ar nr cr) (.slice br mr dr)
  have hv_n := hv.keep hKp
  have ht_n := ht.keep hKp
  have hza_n := hza.keep hKp
  have hxa_n := hxa.keep hKp
  have h1_n := h1.keep hKp
  have hr_n := hr.keep hKp
  have BB_n := below_store3 (R := w.heap.size + 1) BB (by omega) (.bool pr) (.slice ar nr cr) (.slice br mr dr)
  clear hKp
  obtain ⟨q1, q2, q3, q4, q5, q6⟩ := id VR
  go_wp2
  (try simp only [Exit.inBlock, Exit.then])
  refine bodyPost_ret (v := .agg #[.bool pr, .slice ar nr cr, .slice br mr dr]) (by simp [results, go_sem, q1, q2, q3]) rfl ?_
  exact ⟨_, rfl, hr_n, BB_n⟩


/-- A number's amount. -/
def absQ (q : Rat) : Rat := if q < 0 then -q else q
theorem mkRat_neg_iff (z : Int) (x : Nat) (hx : 0 < x) : mkRat z x < 0 ↔ z < 0 := by
  have h := mkRat_lt z 0 x 1 hx (by omega)
  rw [show mkRat 0 1 = (0 : Rat) by simp] at h
  rw [h]; simp
theorem absQ_mkRat (z : Int) (x : Nat) (hx : 0 < x) : absQ (mkRat z x) = mkRat (z.natAbs : Int) x := by
  unfold absQ
  by_cases h : z < 0
  · rw [if_pos ((mkRat_neg_iff z x hx).2 h), Rat.neg_mkRat, show (z.natAbs : Int) = -z by omega]
  · rw [if_neg (fun g => h ((mkRat_neg_iff z x hx).1 g)), show (z.natAbs : Int) = z by omega]


theorem mkRat_zero_iff (z : Int) (x : Nat) (hx : 0 < x) : mkRat z x = 0 ↔ z = 0 := Rat.mkRat_eq_zero (by omega)
theorem div_mkRat (z t : Int) (x y : Nat) (hx : 0 < x) (hy : 0 < y) (ht : t ≠ 0) : ((z * (y : Int) : Int) : Rat) / ((t * (x : Int) : Int) : Rat) = mkRat z x / mkRat t y := by
  have h1 := mkRat_mul_den z x hx
  have h2 := mkRat_mul_den t y hy
  have hx' : (x : Rat) ≠ 0 := fun e => by have := ratc_pos x hx; rw [e] at this; exact Rat.lt_irrefl this
  have hy' : (y : Rat) ≠ 0 := fun e => by have := ratc_pos y hy; rw [e] at this; exact Rat.lt_irrefl this
  have ht' : (mkRat t y) ≠ 0 := fun e => ht ((mkRat_zero_iff t y hy).1 e)
  rw [Rat.intCast_mul, Rat.intCast_mul, Rat.intCast_natCast, Rat.intCast_natCast, ← h1, ← h2]
  generalize mkRat z x = a at *
  generalize mkRat t y = b at *
  grind


set_option maxRecDepth 20000 in
set_option maxHeartbeats 2000000 in
theorem qdiv_zero (u v : Value) (q r : Rat) (L : Nat) (w : World) (hu : RatAt w u q L) (hv : RatAt w v r L) (hL : 1 ≤ L) (hM : L ≤ 100000) (ht : Tab w) (h0 : r = 0) :
    Calls Tryz.prog 40 #[u, v] w fun e w' => e = .returned (.tuple #[.agg #[.bool false, .slice none 0 0, .slice none 0 0], .int .i64 2]) ∧ Below w.heap.size w w' := by
  obtain ⟨p, ao, n, c, bo, m, d, rfl⟩ := hu.open
  obtain ⟨p2, ao2, n2, c2, bo2, m2, d2, rfl⟩ := hv.open
  have BB : Below w.heap.size w w := Below.refl _ _
  obtain ⟨Wb0, hW0, hS0, hL0, VA⟩ := V3.lay w 35 (.bool p) (.slice ao n c) (.slice bo m d)
  replace hu := hu.below hL0
  replace hv := hv.below hL0
  replace ht := ht.below hL0
  replace BB := BB.trans (hL0.mono BB.size)
  clear hL0
  obtain ⟨Wb1, hW1, hS1, hL1, VB⟩ := V3.lay Wb0 35 (.bool p2) (.slice ao2 n2 c2) (.slice bo2 m2 d2)
  rw [hS0] at VB hS1
  replace hu := hu.below hL1
  replace hv := hv.below hL1
  replace ht := ht.below hL1
  replace VA := VA.below hL1
  replace BB := BB.trans (hL1.mono BB.size)
  clear hL1
  obtain ⟨Wb2, hW2, hS2, hL2, VR⟩ := V3.lay Wb1 35 (.bool false) (.slice none 0 0) (.slice none 0 0)
  rw [hS1] at VR hS2
  replace hu := hu.below hL2
  replace hv := hv.below hL2
  replace ht := ht.below hL2
  replace VA := VA.below hL2
  replace VB := VB.below hL2
  replace BB := BB.trans (hL2.mono BB.size)
  clear hL2
  go_enter Tryz.func40, Tryz.ntmps40
  go_wp2_with fail
  rw [← hW0]
  rw [← hW1]
  rw [← hW2]
  clear hW0 hW1 hW2 hS0 hS1 hS2
  refine (parts_at _ _ _ _ hu hL).mono ?_
  rintro e w1 ⟨una, sna, za, xa, rfl, hza, hxa, hpa, hqa, b1⟩
  replace hu := hu.below b1
  replace hv := hv.below b1
  replace ht := ht.below b1
  replace VA := VA.below b1
  replace VB := VB.below b1
  replace VR := VR.below b1
  replace BB := BB.trans (b1.mono BB.size)
  clear b1
  obtain ⟨pna, ana, nna, cna, rfl⟩ := hza.open
  obtain ⟨bna, mna, dna, rfl⟩ := hxa.open
  have HQa : Hid (q = mkRat za xa) := hqa
  clear hqa
  have hZ1 : w.heap.size ≤ w1.heap.size := BB.size
  have hN1VA : w.heap.size ≠ w1.heap.size := Nat.ne_of_lt VA.lt
  have hN1VB : w.heap.size + 1 ≠ w1.heap.size := Nat.ne_of_lt VB.lt
  have hN1VR : w.heap.size + 1 + 1 ≠ w1.heap.size := Nat.ne_of_lt VR.lt
  obtain ⟨W1, hW1, hS1, hL1, VNa⟩ := V2.lay w1 27 (.bool pna) (.slice ana nna cna)
  replace hu := hu.below hL1
  replace hv := hv.below hL1
  replace ht := ht.below hL1
  replace hza := hza.below hL1
  replace hxa := hxa.below hL1
  replace VA := VA.below hL1
  replace VB := VB.below hL1
  replace VR := VR.below hL1
  replace BB := BB.trans (hL1.mono BB.size)
  clear hL1
  obtain ⟨VB_0, VB_1, VB_2, VB_3, VB_4, VB_5⟩ := id VB
  rw [hW1] at VB_0 VB_1 VB_2 VB_3 VB_4 VB_5
  go_wp2_with fail
  clear VB_0 VB_1 VB_2 VB_3 VB_4 VB_5
  rw [← hW1]
  generalize w1.heap.size = R1 at *
  clear hW1 hS1
  refine (parts_at _ _ _ _ hv hL).mono ?_
  rintro e w2 ⟨unb, snb, zb, xb, rfl, hzb, hxb, hpb, hqb, b2⟩
  replace hu := hu.below b2
  replace hv := hv.below b2
  replace ht := ht.below b2
  replace hza := hza.below b2
  replace hxa := hxa.below b2
  replace VA := VA.below b2
  replace VB := VB.below b2
  replace VR := VR.below b2
  replace VNa := VNa.below b2
  replace BB := BB.trans (b2.mono BB.size)
  clear b2
  obtain ⟨pnb, anb, nnb, cnb, rfl⟩ := hzb.open
  obtain ⟨bnb, mnb, dnb, rfl⟩ := hxb.open
  have HQb : Hid (r = mkRat zb xb) := hqb
  clear hqb
  have hZ2 : w.heap.size ≤ w2.heap.size := BB.size
  have hN2VA : w.heap.size ≠ w2.heap.size := Nat.ne_of_lt VA.lt
  have hN2VB : w.heap.size + 1 ≠ w2.heap.size := Nat.ne_of_lt VB.lt
  have hN2VR : w.heap.size + 1 + 1 ≠ w2.heap.size := Nat.ne_of_lt VR.lt
  have hN2VNa : R1 ≠ w2.heap.size := Nat.ne_of_lt VNa.lt
  obtain ⟨W2, hW2, hS2, hL2, VNb⟩ := V2.lay w2 27 (.bool pnb) (.slice anb nnb cnb)
  replace hu := hu.below hL2
  replace hv := hv.below hL2
  replace ht := ht.below hL2
  replace hza := hza.below hL2
  replace hxa := hxa.below hL2
  replace hzb := hzb.below hL2
  replace hxb := hxb.below hL2
  replace VA := VA.below hL2
  replace VB := VB.below hL2
  replace VR := VR.below hL2
  replace VNa := VNa.below hL2
  replace BB := BB.trans (hL2.mono BB.size)
  clear hL2
  go_wp2
  rw [← hW2]
  generalize w2.heap.size = R2 at *
  clear hW2 hS2
  clear hu hv
  have l1 := nlz_mul hza.nl (show nl W32 (xb : Int).natAbs ≤ L by rw [Int.natAbs_natCast]; exact hxb.nl) (Nat.le_refl _)
  have l2 := nlz_mul hzb.nl (show nl W32 (xa : Int).natAbs ≤ L by rw [Int.natAbs_natCast]; exact hxa.nl) (Nat.le_refl _)
  have hz0 : zb = 0 := (mkRat_zero_iff zb xb hpb).1 (by rw [← HQb.out]; exact h0)
  have hz1 : zb * (xa : Int) = 0 := by rw [hz0, Int.zero_mul]
  have HZ1 : Hid (zb * (xa : Int) = 0) := hz1
  clear hz0 hz1
  have hDr : Below W2.heap.size W2 W2.drew := (Below.refl _ _).drew
  replace ht := ht.below hDr
  replace hza := hza.below hDr
  replace hxa := hxa.below hDr
  replace hzb := hzb.below hDr
  replace hxb := hxb.below hDr
  replace VA := VA.below hDr
  replace VB := VB.below hDr
  replace VR := VR.below hDr
  replace VNa := VNa.below hDr
  replace VNb := VNb.below hDr
  replace BB := BB.trans (hDr.mono BB.size)
  clear hDr
  refine wp_region_held_drew (S := (fun w' => w'.cell? ⟨R1, 0, none⟩ = some (.bool pna) ∧ w'.cell? ⟨R1, 1, none⟩ = some (.slice ana nna cna) ∧ w'.cell? ⟨R2, 0, none⟩ = some (.bool pnb) ∧ w'.cell? ⟨R2, 1, none⟩ = some (.slice anb nnb cnb))) (by kernel_rfl) ?_ (fun hHeld => ?_)
  · exact ⟨VNa.1, VNa.2.1, VNb.1, VNb.2.1⟩
  generalize W2.drew = W3 at *
  refine wpAnyH_take (i := 0) (v := ?_) (by simp only [List.getElem?_toArray, List.getElem?_cons_succ, List.getElem?_cons_zero]; rfl) (by kernel_rfl) (by kernel_rfl) (by kernel_rfl) (by exact fun _ _ _ h => h) (Or.inl ⟨by rfl, ?_⟩) (by assumption) ?_
  rotate_left
  · (intro w hSw; (try dsimp only at hSw); go_simp; (try with_reducible rfl))
  (try simp only [Act.put, List.setIfInBounds_toArray, List.set_cons_zero, List.set_cons_succ])
  refine wpAnyH_take (i := 1) (v := ?_) (by simp only [List.getElem?_toArray, List.getElem?_cons_succ, List.getElem?_cons_zero]; rfl) (by kernel_rfl) (by kernel_rfl) (by kernel_rfl) (by exact fun _ _ _ h => h) (Or.inl ⟨by rfl, ?_⟩) (by assumption) ?_
  rotate_left
  · (intro w hSw; (try dsimp only at hSw); go_simp; (try with_reducible rfl))
  (try simp only [Act.put, List.setIfInBounds_toArray, List.set_cons_zero, List.set_cons_succ])
  refine wpAnyH_take (i := 3) (v := ?_) (by simp only [List.getElem?_toArray, List.getElem?_cons_succ, List.getElem?_cons_zero]; rfl) (by kernel_rfl) (by kernel_rfl) (by kernel_rfl) (by exact fun _ _ _ h => h) (Or.inl ⟨by rfl, ?_⟩) (by assumption) ?_
  rotate_left
  · (intro w hSw; (try dsimp only at hSw); go_simp; (try with_reducible rfl))
  (try simp only [Act.put, List.setIfInBounds_toArray, List.set_cons_zero, List.set_cons_succ])
  refine wpAnyH_take (i := 4) (v := ?_) (by simp only [List.getElem?_toArray, List.getElem?_cons_succ, List.getElem?_cons_zero]; rfl) (by kernel_rfl) (by kernel_rfl) (by kernel_rfl) (by exact fun _ _ _ h => h) (Or.inl ⟨by rfl, ?_⟩) (by assumption) ?_
  rotate_left
  · (intro w hSw; (try dsimp only at hSw); go_simp; (try with_reducible rfl))
  (try simp only [Act.put, List.setIfInBounds_toArray, List.set_cons_zero, List.set_cons_succ])
  refine wpAnyH_ready (rs := [2]) (by kernel_rfl) (by simp) ?_
  refine AllReadyH.cons (by simp only [List.getElem?_toArray, List.getElem?_cons_succ, List.getElem?_cons_zero]; rfl) (fun K hK => ?_) AllReadyH.nil
  go_simp
  refine (times_at _ _ _ _ _ _ _ hza hxb (by omega)).mono ?_
  rintro e w3 ⟨t1, rfl, h1, b3⟩
  go_wp2_with fail
  replace ht := ht.below b3
  replace hza := hza.below b3
  replace hxa := hxa.below b3
  replace hzb := hzb.below b3
  replace hxb := hxb.below b3
  replace VA := VA.below b3
  replace VB := VB.below b3
  replace VR := VR.below b3
  replace VNa := VNa.below b3
  replace VNb := VNb.below b3
  replace BB := BB.trans (b3.mono BB.size)
  clear b3
  refine hK.out _ _ ?_ (fun hH1 => ?_)
  · exact ⟨VNa.1, VNa.2.1, VNb.1, VNb.2.1⟩
  clear hK K hHeld
  (try simp only [Act.put, List.setIfInBounds_toArray, List.set_cons_zero, List.set_cons_succ])
  refine wpAnyH_ready (rs := [5]) (by kernel_rfl) (by simp) ?_
  refine AllReadyH.cons (by simp only [List.getElem?_toArray, List.getElem?_cons_succ, List.getElem?_cons_zero]; rfl) (fun K hK => ?_) AllReadyH.nil
  go_simp
  refine (times_at _ _ _ _ _ _ _ hzb hxa (by omega)).mono ?_
  rintro e w4 ⟨t2, rfl, h2, b4⟩
  go_wp2_with fail
  replace ht := ht.below b4
  replace hza := hza.below b4
  replace hxa := hxa.below b4
  replace hzb := hzb.below b4
  replace hxb := hxb.below b4
  replace h1 := h1.below b4
  replace VA := VA.below b4
  replace VB := VB.below b4
  replace VR := VR.below b4
  replace VNa := VNa.below b4
  replace VNb := VNb.below b4
  replace BB := BB.trans (b4.mono BB.size)
  clear b4
  refine hK.out _ _ ?_ (fun hH2 => ?_)
  · exact ⟨VNa.1, VNa.2.1, VNb.1, VNb.2.1⟩
  clear hK K hH1
  (try simp only [Act.put, List.setIfInBounds_toArray, List.set_cons_zero, List.set_cons_succ])
  refine wpAnyH_ready (rs := [6]) (by kernel_rfl) (by simp) ?_
  refine AllReadyH.cons (by simp only [List.getElem?_toArray, List.getElem?_cons_succ, List.getElem?_cons_zero]; rfl) (fun K hK => ?_) AllReadyH.nil
  go_simp
  refine (make_zero _ _ _ (L + L) (L + L) _ (h1.at _ l1) (by rw [← HZ1.out]; exact h2.at _ l2)).mono ?_
  rintro e w5 ⟨rfl, b5⟩
  go_wp2_with fail
  replace ht := ht.below b5
  replace hza := hza.below b5
  replace hxa := hxa.below b5
  replace hzb := hzb.below b5
  replace hxb := hxb.below b5
  replace h1 := h1.below b5
  replace h2 := h2.below b5
  replace VA := VA.below b5
  replace VB := VB.below b5
  replace VR := VR.below b5
  replace VNa := VNa.below b5
  replace VNb := VNb.below b5
  replace BB := BB.trans (b5.mono BB.size)
  clear b5
  refine hK.out _ _ ?_ (fun hH3 => ?_)
  · exact ⟨VNa.1, VNa.2.1, VNb.1, VNb.2.1⟩
  clear hK K hH2
  (try simp only [Act.put, List.setIfInBounds_toArray, List.set_cons_zero, List.set_cons_succ])
  refine wpAnyH_take (i := 7) (v := ?_) (by simp only [List.getElem?_toArray, List.getElem?_cons_succ, List.getElem?_cons_zero]; rfl) (by kernel_rfl) (by kernel_rfl) (by kernel_rfl) (by exact fun _ _ _ h => h) (Or.inl ⟨by rfl, ?_⟩) (by assumption) ?_
  rotate_left
  · (intro w hSw; (try dsimp only at hSw); go_simp; (try with_reducible rfl))
  (try simp only [Act.put, List.setIfInBounds_toArray, List.set_cons_zero, List.set_cons_succ])
  refine wpAnyH_take (i := 8) (v := ?_) (by simp only [List.getElem?_toArray, List.getElem?_cons_succ, List.getElem?_cons_zero]; rfl) (by kernel_rfl) (by kernel_rfl) (by kernel_rfl) (by exact fun _ _ _ h => h) (Or.inl ⟨by rfl, ?_⟩) (by assumption) ?_
  rotate_left
  · (intro w hSw; (try dsimp only at hSw); go_simp; (try with_reducible rfl))
  (try simp only [Act.put, List.setIfInBounds_toArray, List.set_cons_zero, List.set_cons_succ])
  refine wpAnyH_ready (rs := [9]) (by kernel_rfl) (by simp) ?_
  refine AllReadyH.cons (by simp only [List.getElem?_toArray, List.getElem?_cons_succ, List.getElem?_cons_zero]; rfl) (fun K hK => ?_) AllReadyH.nil
  have hKp := VR.keepJ (.bool false) (.slice none 0 0) (.slice none 0 0)
  have VA_n := VA.other3 (R := w.heap.size + 1 + 1) (by omega) (.bool false) (.slice none 0 0) (.slice none 0 0)
  have VB_n := VB.other3 (R := w.heap.size + 1 + 1) (by omega) (.bool false) (.slice none 0 0) (.slice none 0 0)
  have VNa_n := VNa.other3 (R := w.heap.size + 1 + 1) (by omega) (.bool false) (.slice none 0 0) (.slice none 0 0)
  have VNb_n := VNb.other3 (R := w.heap.size + 1 + 1) (by omega) (.bool false) (.slice none 0 0) (.slice none 0 0)
  have VR_n := VR.same (.bool false) (.slice none 0 0) (.slice none 0 0)
  have ht_n := ht.keep hKp
  have hza_n := hza.keep hKp
  have hxa_n := hxa.keep hKp
  have hzb_n := hzb.keep hKp
  have hxb_n := hxb.keep hKp
  have h1_n := h1.keep hKp
  have h2_n := h2.keep hKp
  have BB_n := below_store3 (R := w.heap.size + 1 + 1) BB (by omega) (.bool false) (.slice none 0 0) (.slice none 0 0)
  clear hKp
  obtain ⟨VR_0, VR_1, VR_2, VR_3, VR_4, VR_5⟩ := id VR
  go_simp
  clear VR_0 VR_1 VR_2 VR_3 VR_4 VR_5
  clear BB ht hza hxa hzb hxb h1 h2 VA VB VR VNa VNb
  generalize ((w5.setCell ⟨w.heap.size + 1 + 1, 0, none⟩ (.bool false)).setCell ⟨w.heap.size + 1 + 1, 1, none⟩ (.slice none 0 0)).setCell ⟨w.heap.size + 1 + 1, 2, none⟩ (.slice none 0 0) = W4 at *
  have BB := BB_n
  have ht := ht_n
  have hza := hza_n
  have hxa := hxa_n
  have hzb := hzb_n
  have hxb := hxb_n
  have h1 := h1_n
  have h2 := h2_n
  have VA := VA_n
  have VB := VB_n
  have VR := VR_n
  have VNa := VNa_n
  have VNb := VNb_n
  clear BB_n ht_n hza_n hxa_n hzb_n hxb_n h1_n h2_n VA_n VB_n VR_n VNa_n VNb_n
  refine hK.out _ _ ?_ (fun hH4 => ?_)
  · exact ⟨VNa.1, VNa.2.1, VNb.1, VNb.2.1⟩
  clear hK K hH3
  (try simp only [Act.put, List.setIfInBounds_toArray, List.set_cons_zero, List.set_cons_succ])
  refine wpAnyH_take (i := 10) (v := ?_) (by simp only [List.getElem?_toArray, List.getElem?_cons_succ, List.getElem?_cons_zero]; rfl) (by kernel_rfl) (by kernel_rfl) (by kernel_rfl) (by exact fun _ _ _ h => h) (Or.inl ⟨by rfl, ?_⟩) (by assumption) ?_
  rotate_left
  · (intro w hSw; (try dsimp only at hSw); go_simp; (try with_reducible rfl))
  (try simp only [Act.put, List.setIfInBounds_toArray, List.set_cons_zero, List.set_cons_succ])
  refine wpAnyH_done (by kernel_rfl) ?_ _
  clear hH4
  obtain ⟨q1, q2, q3, q4, q5, q6⟩ := id VR
  go_wp2
  (try simp only [Exit.inBlock, Exit.then])
  refine bodyPost_ret (v := .tuple #[.agg #[.bool false, .slice none 0 0, .slice none 0 0], .int .i64 2]) (by simp [results, go_sem, q1, q2, q3]) rfl ?_
  exact ⟨rfl, BB⟩


set_option maxRecDepth 20000 in
set_option maxHeartbeats 2000000 in
theorem qdiv_at (u v : Value) (q r : Rat) (L : Nat) (w : World) (hu : RatAt w u q L) (hv : RatAt w v r L) (hL : 1 ≤ L) (hM : L ≤ 100000) (ht : Tab w) (h0 : r ≠ 0) :
    Calls Tryz.prog 40 #[u, v] w fun e w' => ∃ x, e = .returned (.tuple #[x, .int .i64 0]) ∧ RepQ w' x (q / r) ∧ Below w.heap.size w w' := by
  obtain ⟨p, ao, n, c, bo, m, d, rfl⟩ := hu.open
  obtain ⟨p2, ao2, n2, c2, bo2, m2, d2, rfl⟩ := hv.open
  have BB : Below w.heap.size w w := Below.refl _ _
  obtain ⟨Wb0, hW0, hS0, hL0, VA⟩ := V3.lay w 35 (.bool p) (.slice ao n c) (.slice bo m d)
  replace hu := hu.below hL0
  replace hv := hv.below hL0
  replace ht := ht.below hL0
  replace BB := BB.trans (hL0.mono BB.size)
  clear hL0
  obtain ⟨Wb1, hW1, hS1, hL1, VB⟩ := V3.lay Wb0 35 (.bool p2) (.slice ao2 n2 c2) (.slice bo2 m2 d2)
  rw [hS0] at VB hS1
  replace hu := hu.below hL1
  replace hv := hv.below hL1
  replace ht := ht.below hL1
  replace VA := VA.below hL1
  replace BB := BB.trans (hL1.mono BB.size)
  clear hL1
  obtain ⟨Wb2, hW2, hS2, hL2, VR⟩ := V3.lay Wb1 35 (.bool false) (.slice none 0 0) (.slice none 0 0)
  rw [hS1] at VR hS2
  replace hu := hu.below hL2
  replace hv := hv.below hL2
  replace ht := ht.below hL2
  replace VA := VA.below hL2
  replace VB := VB.below hL2
  replace BB := BB.trans (hL2.mono BB.size)
  clear hL2
  go_enter Tryz.func40, Tryz.ntmps40
  go_wp2_with fail
  rw [← hW0]
  rw [← hW1]
  rw [← hW2]
  clear hW0 hW1 hW2 hS0 hS1 hS2
  refine (parts_at _ _ _ _ hu hL).mono ?_
  rintro e w1 ⟨una, sna, za, xa, rfl, hza, hxa, hpa, hqa, b1⟩
  replace hu := hu.below b1
  replace hv := hv.below b1
  replace ht := ht.below b1
  replace VA := VA.below b1
  replace VB := VB.below b1
  replace VR := VR.below b1
  replace BB := BB.trans (b1.mono BB.size)
  clear b1
  obtain ⟨pna, ana, nna, cna, rfl⟩ := hza.open
  obtain ⟨bna, mna, dna, rfl⟩ := hxa.open
  have HQa : Hid (q = mkRat za xa) := hqa
  clear hqa
  have hZ1 : w.heap.size ≤ w1.heap.size := BB.size
  have hN1VA : w.heap.size ≠ w1.heap.size := Nat.ne_of_lt VA.lt
  have hN1VB : w.heap.size + 1 ≠ w1.heap.size := Nat.ne_of_lt VB.lt
  have hN1VR : w.heap.size + 1 + 1 ≠ w1.heap.size := Nat.ne_of_lt VR.lt
  obtain ⟨W1, hW1, hS1, hL1, VNa⟩ := V2.lay w1 27 (.bool pna) (.slice ana nna cna)
  replace hu := hu.below hL1
  replace hv := hv.below hL1
  replace ht := ht.below hL1
  replace hza := hza.below hL1
  replace hxa := hxa.below hL1
  replace VA := VA.below hL1
  replace VB := VB.below hL1
  replace VR := VR.below hL1
  replace BB := BB.trans (hL1.mono BB.size)
  clear hL1
  obtain ⟨VB_0, VB_1, VB_2, VB_3, VB_4, VB_5⟩ := id VB
  rw [hW1] at VB_0 VB_1 VB_2 VB_3 VB_4 VB_5
  go_wp2_with fail
  clear VB_0 VB_1 VB_2 VB_3 VB_4 VB_5
  rw [← hW1]
  generalize w1.heap.size = R1 at *
  clear hW1 hS1
  refine (parts_at _ _ _ _ hv hL).mono ?_
  rintro e w2 ⟨unb, snb, zb, xb, rfl, hzb, hxb, hpb, hqb, b2⟩
  replace hu := hu.below b2
  replace hv := hv.below b2
  replace ht := ht.below b2
  replace hza := hza.below b2
  replace hxa := hxa.below b2
  replace VA := VA.below b2
  replace VB := VB.below b2
  replace VR := VR.below b2
  replace VNa := VNa.below b2
  replace BB := BB.trans (b2.mono BB.size)
  clear b2
  obtain ⟨pnb, anb, nnb, cnb, rfl⟩ := hzb.open
  obtain ⟨bnb, mnb, dnb, rfl⟩ := hxb.open
  have HQb : Hid (r = mkRat zb xb) := hqb
  clear hqb
  have hZ2 : w.heap.size ≤ w2.heap.size := BB.size
  have hN2VA : w.heap.size ≠ w2.heap.size := Nat.ne_of_lt VA.lt
  have hN2VB : w.heap.size + 1 ≠ w2.heap.size := Nat.ne_of_lt VB.lt
  have hN2VR : w.heap.size + 1 + 1 ≠ w2.heap.size := Nat.ne_of_lt VR.lt
  have hN2VNa : R1 ≠ w2.heap.size := Nat.ne_of_lt VNa.lt
  obtain ⟨W2, hW2, hS2, hL2, VNb⟩ := V2.lay w2 27 (.bool pnb) (.slice anb nnb cnb)
  replace hu := hu.below hL2
  replace hv := hv.below hL2
  replace ht := ht.below hL2
  replace hza := hza.below hL2
  replace hxa := hxa.below hL2
  replace hzb := hzb.below hL2
  replace hxb := hxb.below hL2
  replace VA := VA.below hL2
  replace VB := VB.below hL2
  replace VR := VR.below hL2
  replace VNa := VNa.below hL2
  replace BB := BB.trans (hL2.mono BB.size)
  clear hL2
  go_wp2
  rw [← hW2]
  generalize w2.heap.size = R2 at *
  clear hW2 hS2
  clear hu hv
  have l1 := nlz_mul hza.nl (show nl W32 (xb : Int).natAbs ≤ L by rw [Int.natAbs_natCast]; exact hxb.nl) (Nat.le_refl _)
  have l2 := nlz_mul hzb.nl (show nl W32 (xa : Int).natAbs ≤ L by rw [Int.natAbs_natCast]; exact hxa.nl) (Nat.le_refl _)
  have hz0 : zb ≠ 0 := fun e => h0 (by rw [HQb.out]; exact (mkRat_zero_iff zb xb hpb).2 e)
  have hz1 : zb * (xa : Int) ≠ 0 := Int.mul_ne_zero hz0 (by omega)
  have HS : Hid (((za * (xb : Int) : Int) : Rat) / ((zb * (xa : Int) : Int) : Rat) = q / r) := by
    show _ = _
    rw [HQa.out, HQb.out]; exact div_mkRat za zb xa xb hpa hpb hz0
  clear hz0
  have hDr : Below W2.heap.size W2 W2.drew := (Below.refl _ _).drew
  replace ht := ht.below hDr
  replace hza := hza.below hDr
  replace hxa := hxa.below hDr
  replace hzb := hzb.below hDr
  replace hxb := hxb.below hDr
  replace VA := VA.below hDr
  replace VB := VB.below hDr
  replace VR := VR.below hDr
  replace VNa := VNa.below hDr
  replace VNb := VNb.below hDr
  replace BB := BB.trans (hDr.mono BB.size)
  clear hDr
  refine wp_region_held_drew (S := (fun w' => w'.cell? ⟨R1, 0, none⟩ = some (.bool pna) ∧ w'.cell? ⟨R1, 1, none⟩ = some (.slice ana nna cna) ∧ w'.cell? ⟨R2, 0, none⟩ = some (.bool pnb) ∧ w'.cell? ⟨R2, 1, none⟩ = some (.slice anb nnb cnb))) (by kernel_rfl) ?_ (fun hHeld => ?_)
  · exact ⟨VNa.1, VNa.2.1, VNb.1, VNb.2.1⟩
  generalize W2.drew = W3 at *
  refine wpAnyH_take (i := 0) (v := ?_) (by simp only [List.getElem?_toArray, List.getElem?_cons_succ, List.getElem?_cons_zero]; rfl) (by kernel_rfl) (by kernel_rfl) (by kernel_rfl) (by exact fun _ _ _ h => h) (Or.inl ⟨by rfl, ?_⟩) (by assumption) ?_
  rotate_left
  · (intro w hSw; (try dsimp only at hSw); go_simp; (try with_reducible rfl))
  (try simp only [Act.put, List.setIfInBounds_toArray, List.set_cons_zero, List.set_cons_succ])
  refine wpAnyH_take (i := 1) (v := ?_) (by simp only [List.getElem?_toArray, List.getElem?_cons_succ, List.getElem?_cons_zero]; rfl) (by kernel_rfl) (by kernel_rfl) (by kernel_rfl) (by exact fun _ _ _ h => h) (Or.inl ⟨by rfl, ?_⟩) (by assumption) ?_
  rotate_left
  · (intro w hSw; (try dsimp only at hSw); go_simp; (try with_reducible rfl))
  (try simp only [Act.put, List.setIfInBounds_toArray, List.set_cons_zero, List.set_cons_succ])
  refine wpAnyH_take (i := 3) (v := ?_) (by simp only [List.getElem?_toArray, List.getElem?_cons_succ, List.getElem?_cons_zero]; rfl) (by kernel_rfl) (by kernel_rfl) (by kernel_rfl) (by exact fun _ _ _ h => h) (Or.inl ⟨by rfl, ?_⟩) (by assumption) ?_
  rotate_left
  · (intro w hSw; (try dsimp only at hSw); go_simp; (try with_reducible rfl))
  (try simp only [Act.put, List.setIfInBounds_toArray, List.set_cons_zero, List.set_cons_succ])
  refine wpAnyH_take (i := 4) (v := ?_) (by simp only [List.getElem?_toArray, List.getElem?_cons_succ, List.getElem?_cons_zero]; rfl) (by kernel_rfl) (by kernel_rfl) (by kernel_rfl) (by exact fun _ _ _ h => h) (Or.inl ⟨by rfl, ?_⟩) (by assumption) ?_
  rotate_left
  · (intro w hSw; (try dsimp only at hSw); go_simp; (try with_reducible rfl))
  (try simp only [Act.put, List.setIfInBounds_toArray, List.set_cons_zero, List.set_cons_succ])
  refine wpAnyH_ready (rs := [2]) (by kernel_rfl) (by simp) ?_
  refine AllReadyH.cons (by simp only [List.getElem?_toArray, List.getElem?_cons_succ, List.getElem?_cons_zero]; rfl) (fun K hK => ?_) AllReadyH.nil
  go_simp
  refine (times_at _ _ _ _ _ _ _ hza hxb (by omega)).mono ?_
  rintro e w3 ⟨t1, rfl, h1, b3⟩
  go_wp2_with fail
  replace ht := ht.below b3
  replace hza := hza.below b3
  replace hxa := hxa.below b3
  replace hzb := hzb.below b3
  replace hxb := hxb.below b3
  replace VA := VA.below b3
  replace VB := VB.below b3
  replace VR := VR.below b3
  replace VNa := VNa.below b3
  replace VNb := VNb.below b3
  replace BB := BB.trans (b3.mono BB.size)
  clear b3
  refine hK.out _ _ ?_ (fun hH1 => ?_)
  · exact ⟨VNa.1, VNa.2.1, VNb.1, VNb.2.1⟩
  clear hK K hHeld
  (try simp only [Act.put, List.setIfInBounds_toArray, List.set_cons_zero, List.set_cons_succ])
  refine wpAnyH_ready (rs := [5]) (by kernel_rfl) (by simp) ?_
  refine AllReadyH.cons (by simp only [List.getElem?_toArray, List.getElem?_cons_succ, List.getElem?_cons_zero]; rfl) (fun K hK => ?_) AllReadyH.nil
  go_simp
  refine (times_at _ _ _ _ _ _ _ hzb hxa (by omega)).mono ?_
  rintro e w4 ⟨t2, rfl, h2, b4⟩
  go_wp2_with fail
  replace ht := ht.below b4
  replace hza := hza.below b4
  replace hxa := hxa.below b4
  replace hzb := hzb.below b4
  replace hxb := hxb.below b4
  replace h1 := h1.below b4
  replace VA := VA.below b4
  replace VB := VB.below b4
  replace VR := VR.below b4
  replace VNa := VNa.below b4
  replace VNb := VNb.below b4
  replace BB := BB.trans (b4.mono BB.size)
  clear b4
  refine hK.out _ _ ?_ (fun hH2 => ?_)
  · exact ⟨VNa.1, VNa.2.1, VNb.1, VNb.2.1⟩
  clear hK K hH1
  (try simp only [Act.put, List.setIfInBounds_toArray, List.set_cons_zero, List.set_cons_succ])
  refine wpAnyH_ready (rs := [6]) (by kernel_rfl) (by simp) ?_
  refine AllReadyH.cons (by simp only [List.getElem?_toArray, List.getElem?_cons_succ, List.getElem?_cons_zero]; rfl) (fun K hK => ?_) AllReadyH.nil
  go_simp
  refine (make_at _ _ _ _ (L + L) (L + L) _ (h1.at _ l1) (h2.at _ l2) (by omega) (by omega) hz1 ht).mono ?_
  rintro e w5 ⟨rr, rfl, hr, b5⟩
  rw [HS.out] at hr
  obtain ⟨pr, ar, nr, cr, br, mr, dr, rfl⟩ := hr.open
  go_wp2_with fail
  replace ht := ht.below b5
  replace hza := hza.below b5
  replace hxa := hxa.below b5
  replace hzb := hzb.below b5
  replace hxb := hxb.below b5
  replace h1 := h1.below b5
  replace h2 := h2.below b5
  replace VA := VA.below b5
  replace VB := VB.below b5
  replace VR := VR.below b5
  replace VNa := VNa.below b5
  replace VNb := VNb.below b5
  replace BB := BB.trans (b5.mono BB.size)
  clear b5
  refine hK.out _ _ ?_ (fun hH3 => ?_)
  · exact ⟨VNa.1, VNa.2.1, VNb.1, VNb.2.1⟩
  clear hK K hH2
  (try simp only [Act.put, List.setIfInBounds_toArray, List.set_cons_zero, List.set_cons_succ])
  refine wpAnyH_take (i := 7) (v := ?_) (by simp only [List.getElem?_toArray, List.getElem?_cons_succ, List.getElem?_cons_zero]; rfl) (by kernel_rfl) (by kernel_rfl) (by kernel_rfl) (by exact fun _ _ _ h => h) (Or.inl ⟨by rfl, ?_⟩) (by assumption) ?_
  rotate_left
  · (intro w hSw; (try dsimp only at hSw); go_simp; (try with_reducible rfl))
  (try simp only [Act.put, List.setIfInBounds_toArray, List.set_cons_zero, List.set_cons_succ])
  refine wpAnyH_take (i := 8) (v := ?_) (by simp only [List.getElem?_toArray, List.getElem?_cons_succ, List.getElem?_cons_zero]; rfl) (by kernel_rfl) (by kernel_rfl) (by kernel_rfl) (by exact fun _ _ _ h => h) (Or.inl ⟨by rfl, ?_⟩) (by assumption) ?_
  rotate_left
  · (intro w hSw; (try dsimp only at hSw); go_simp; (try with_reducible rfl))
  (try simp only [Act.put, List.setIfInBounds_toArray, List.set_cons_zero, List.set_cons_succ])
  refine wpAnyH_ready (rs := [9]) (by kernel_rfl) (by simp) ?_
  refine AllReadyH.cons (by simp only [List.getElem?_toArray, List.getElem?_cons_succ, List.getElem?_cons_zero]; rfl) (fun K hK => ?_) AllReadyH.nil
  have hKp := VR.keepJ (.bool pr) (.slice ar nr cr) (.slice br mr dr)
  have VA_n := VA.other3 (R := w.heap.size + 1 + 1) (by omega) (.bool pr) (.slice ar nr cr) (.slice br mr dr)
  have VB_n := VB.other3 (R := w.heap.size + 1 + 1) (by omega) (.bool pr) (.slice ar nr cr) (.slice br mr dr)
  have VNa_n := VNa.other3 (R := w.heap.size + 1 + 1) (by omega) (.bool pr) (.slice ar nr cr) (.slice br mr dr)
  have VNb_n := VNb.other3 (R := w.heap.size + 1 + 1) (by omega) (.bool pr) (.slice ar nr cr) (.slice br mr dr)
  have VR_n := VR.same (.bool pr) (.slice ar nr cr) (.slice br mr dr)
  have ht_n := ht.keep hKp
  have hza_n := hza.keep hKp
  have hxa_n := hxa.keep hKp
  have hzb_n := hzb.keep hKp
  have hxb_n := hxb.keep hKp
  have h1_n := h1.keep hKp
  have h2_n := h2.keep hKp
  have hr_n := hr.keep hKp
  have BB_n := below_store3 (R := w.heap.size + 1 + 1) BB (by omega) (.bool pr) (.slice ar nr cr) (.slice br mr dr)
  clear hKp
  obtain ⟨VR_0, VR_1, VR_2, VR_3, VR_4, VR_5⟩ := id VR
  go_simp
  clear VR_0 VR_1 VR_2 VR_3 VR_4 VR_5
  clear BB ht hza hxa hzb hxb h1 h2 hr VA VB VR VNa VNb
  generalize ((w5.setCell ⟨w.heap.size + 1 + 1, 0, none⟩ (.bool pr)).setCell ⟨w.heap.size + 1 + 1, 1, none⟩ (.slice ar nr cr)).setCell ⟨w.heap.size + 1 + 1, 2, none⟩ (.slice br mr dr) = W4 at *
  have BB := BB_n
  have ht := ht_n
  have hza := hza_n
  have hxa := hxa_n
  have hzb := hzb_n
  have hxb := hxb_n
  have h1 := h1_n
  have h2 := h2_n
  have hr := hr_n
  have VA := VA_n
  have VB := VB_n
  have VR := VR_n
  have VNa := VNa_n
  have VNb := VNb_n
  clear BB_n ht_n hza_n hxa_n hzb_n hxb_n h1_n h2_n hr_n VA_n VB_n VR_n VNa_n VNb_n
  refine hK.out _ _ ?_ (fun hH4 => ?_)
  · exact ⟨VNa.1, VNa.2.1, VNb.1, VNb.2.1⟩
  clear hK K hH3
  (try simp only [Act.put, List.setIfInBounds_toArray, List.set_cons_zero, List.set_cons_succ])
  refine wpAnyH_take (i := 10) (v := ?_) (by simp only [List.getElem?_toArray, List.getElem?_cons_succ, List.getElem?_cons_zero]; rfl) (by kernel_rfl) (by kernel_rfl) (by kernel_rfl) (by exact fun _ _ _ h => h) (Or.inl ⟨by rfl, ?_⟩) (by assumption) ?_
  rotate_left
  · (intro w hSw; (try dsimp only at hSw); go_simp; (try with_reducible rfl))
  (try simp only [Act.put, List.setIfInBounds_toArray, List.set_cons_zero, List.set_cons_succ])
  refine wpAnyH_done (by kernel_rfl) ?_ _
  clear hH4
  obtain ⟨q1, q2, q3, q4, q5, q6⟩ := id VR
  go_wp2
  (try simp only [Exit.inBlock, Exit.then])
  refine bodyPost_ret (v := .tuple #[.agg #[.bool pr, .slice ar nr cr, .slice br mr dr], .int .i64 0]) (by simp [results, go_sem, q1, q2, q3]) rfl ?_
  exact ⟨_, rfl, hr, BB⟩


theorem inv_mkRat (z : Int) (x : Nat) (hx : 0 < x) (hz : z ≠ 0) : (x : Rat) / (z : Rat) = (mkRat z x)⁻¹ := by
  have h1 := mkRat_mul_den z x hx
  have hx' : (x : Rat) ≠ 0 := fun e => by have := ratc_pos x hx; rw [e] at this; exact Rat.lt_irrefl this
  have hz' : (mkRat z x) ≠ 0 := fun e => hz ((mkRat_zero_iff z x hx).1 e)
  rw [← h1]
  generalize mkRat z x = a at *
  grind


set_option maxRecDepth 20000 in
set_option maxHeartbeats 1000000 in
theorem qinv_zero (v : Value) (q : Rat) (L : Nat) (w : World) (hv : RatAt w v q L) (hL : 1 ≤ L) (hM : L ≤ 100000) (ht : Tab w) (h0 : q = 0) :
    Calls Tryz.prog 58 #[v] w fun e w' => e = .returned (.tuple #[.agg #[.bool false, .slice none 0 0, .slice none 0 0], .int .i64 2]) ∧ Below w.heap.size w w' := by
  obtain ⟨p, ao, n, c, bo, m, d, rfl⟩ := hv.open
  have BB : Below w.heap.size w w := Below.refl _ _
  obtain ⟨Wb0, hW0, hS0, hL0, VA⟩ := V3.lay w 35 (.bool p) (.slice ao n c) (.slice bo m d)
  replace hv := hv.below hL0
  replace ht := ht.below hL0
  replace BB := BB.trans (hL0.mono BB.size)
  clear hL0
  obtain ⟨Wb1, hW1, hS1, hL1, VR⟩ := V3.lay Wb0 35 (.bool false) (.slice none 0 0) (.slice none 0 0)
  rw [hS0] at VR hS1
  replace hv := hv.below hL1
  replace ht := ht.below hL1
  replace VA := VA.below hL1
  replace BB := BB.trans (hL1.mono BB.size)
  clear hL1
  go_enter Tryz.func58, Tryz.ntmps58
  go_wp2_with fail
  rw [← hW0]
  rw [← hW1]
  clear hW0 hW1 hS0 hS1
  refine (parts_at _ _ _ _ hv hL).mono ?_
  rintro e w1 ⟨una, sna, za, xa, rfl, hza, hxa, hpa, hqa, b1⟩
  replace hv := hv.below b1
  replace ht := ht.below b1
  replace VA := VA.below b1
  replace VR := VR.below b1
  replace BB := BB.trans (b1.mono BB.size)
  clear b1
  obtain ⟨pna, ana, nna, cna, rfl⟩ := hza.open
  obtain ⟨bna, mna, dna, rfl⟩ := hxa.open
  have HQa : Hid (q = mkRat za xa) := hqa
  clear hqa
  have hZ1 : w.heap.size ≤ w1.heap.size := BB.size
  have hN1VA : w.heap.size ≠ w1.heap.size := Nat.ne_of_lt VA.lt
  have hN1VR : w.heap.size + 1 ≠ w1.heap.size := Nat.ne_of_lt VR.lt
  obtain ⟨W1, hW1, hS1, hL1, VNa⟩ := V2.lay w1 27 (.bool pna) (.slice ana nna cna)
  replace hv := hv.below hL1
  replace ht := ht.below hL1
  replace hza := hza.below hL1
  replace hxa := hxa.below hL1
  replace VA := VA.below hL1
  replace VR := VR.below hL1
  replace BB := BB.trans (hL1.mono BB.size)
  clear hL1
  go_wp2_with fail
  rw [← hW1]
  generalize w1.heap.size = R1 at *
  clear hW1 hS1
  have hz0 : za = 0 := (mkRat_zero_iff za xa hpa).1 (by rw [← HQa.out]; exact h0)
  rw [hz0] at hza
  refine (make_zero _ _ _ _ _ _ (IntAt.mk (p := false) hxa) hza).mono ?_
  rintro e w2 ⟨rfl, b2⟩
  replace hv := hv.below b2
  replace ht := ht.below b2
  replace hza := hza.below b2
  replace hxa := hxa.below b2
  replace VA := VA.below b2
  replace VR := VR.below b2
  replace VNa := VNa.below b2
  replace BB := BB.trans (b2.mono BB.size)
  clear b2
  have hKp := VR.keepJ (.bool false) (.slice none 0 0) (.slice none 0 0)
  have hv_n := hv.keep hKp
  have ht_n := ht.keep hKp
  have hza_n := hza.keep hKp
  have hxa_n := hxa.keep hKp
  have BB_n := below_store3 (R := w.heap.size + 1) BB (by omega) (.bool false) (.slice none 0 0) (.slice none 0 0)
  clear hKp
  obtain ⟨q1, q2, q3, q4, q5, q6⟩ := id VR
  go_wp2
  (try simp only [Exit.inBlock, Exit.then])
  refine bodyPost_ret (v := .tuple #[.agg #[.bool false, .slice none 0 0, .slice none 0 0], .int .i64 2]) (by simp [results, go_sem, q1, q2, q3]) rfl ?_
  exact ⟨rfl, BB_n⟩


set_option maxRecDepth 20000 in
set_option maxHeartbeats 1000000 in
theorem qinv_at (v : Value) (q : Rat) (L : Nat) (w : World) (hv : RatAt w v q L) (hL : 1 ≤ L) (hM : L ≤ 100000) (ht : Tab w) (h0 : q ≠ 0) :
    Calls Tryz.prog 58 #[v] w fun e w' => ∃ x, e = .returned (.tuple #[x, .int .i64 0]) ∧ RepQ w' x q⁻¹ ∧ Below w.heap.size w w' := by
  obtain ⟨p, ao, n, c, bo, m, d, rfl⟩ := hv.open
  have BB : Below w.heap.size w w := Below.refl _ _
  obtain ⟨Wb0, hW0, hS0, hL0, VA⟩ := V3.lay w 35 (.bool p) (.slice ao n c) (.slice bo m d)
  replace hv := hv.below hL0
  replace ht := ht.below hL0
  replace BB := BB.trans (hL0.mono BB.size)
  clear hL0
  obtain ⟨Wb1, hW1, hS1, hL1, VR⟩ := V3.lay Wb0 35 (.bool false) (.slice none 0 0) (.slice none 0 0)
  rw [hS0] at VR hS1
  replace hv := hv.below hL1
  replace ht := ht.below hL1
  replace VA := VA.below hL1
  replace BB := BB.trans (hL1.mono BB.size)
  clear hL1
  go_enter Tryz.func58, Tryz.ntmps58
  go_wp2_with fail
  rw [← hW0]
  rw [← hW1]
  clear hW0 hW1 hS0 hS1
  refine (parts_at _ _ _ _ hv hL).mono ?_
  rintro e w1 ⟨una, sna, za, xa, rfl, hza, hxa, hpa, hqa, b1⟩
  replace hv := hv.below b1
  replace ht := ht.below b1
  replace VA := VA.below b1
  replace VR := VR.below b1
  replace BB := BB.trans (b1.mono BB.size)
  clear b1
  obtain ⟨pna, ana, nna, cna, rfl⟩ := hza.open
  obtain ⟨bna, mna, dna, rfl⟩ := hxa.open
  have HQa : Hid (q = mkRat za xa) := hqa
  clear hqa
  have hZ1 : w.heap.size ≤ w1.heap.size := BB.size
  have hN1VA : w.heap.size ≠ w1.heap.size := Nat.ne_of_lt VA.lt
  have hN1VR : w.heap.size + 1 ≠ w1.heap.size := Nat.ne_of_lt VR.lt
  obtain ⟨W1, hW1, hS1, hL1, VNa⟩ := V2.lay w1 27 (.bool pna) (.slice ana nna cna)
  replace hv := hv.below hL1
  replace ht := ht.below hL1
  replace hza := hza.below hL1
  replace hxa := hxa.below hL1
  replace VA := VA.below hL1
  replace VR := VR.below hL1
  replace BB := BB.trans (hL1.mono BB.size)
  clear hL1
  go_wp2_with fail
  rw [← hW1]
  generalize w1.heap.size = R1 at *
  clear hW1 hS1
  have hz0 : za ≠ 0 := fun e => h0 (by rw [HQa.out]; exact (mkRat_zero_iff za xa hpa).2 e)
  have HS : Hid (((zof false xa : Int) : Rat) / (za : Rat) = q⁻¹) := by
    show _ = _
    rw [HQa.out, zof_false, Rat.intCast_natCast]; exact inv_mkRat za xa hpa hz0
  refine (make_at _ _ _ _ _ _ _ (IntAt.mk (p := false) hxa) hza (by omega) (by omega) hz0 ht).mono ?_
  rintro e w2 ⟨rr, rfl, hr, b2⟩
  replace hv := hv.below b2
  replace ht := ht.below b2
  replace hza := hza.below b2
  replace hxa := hxa.below b2
  replace VA := VA.below b2
  replace VR := VR.below b2
  replace VNa := VNa.below b2
  replace BB := BB.trans (b2.mono BB.size)
  clear b2
  rw [HS.out] at hr
  obtain ⟨pr, ar, nr, cr, br, mr, dr, rfl⟩ := hr.open
  have hKp := VR.keepJ (.bool pr) (.slice ar nr cr) (.slice br mr dr)
  have hv_n := hv.keep hKp
  have ht_n := ht.keep hKp
  have hza_n := hza.keep hKp
  have hxa_n := hxa.keep hKp
  have hr_n := hr.keep hKp
  have BB_n := below_store3 (R := w.heap.size + 1) BB (by omega) (.bool pr) (.slice ar nr cr) (.slice br mr dr)
  clear hKp
  obtain ⟨q1, q2, q3, q4, q5, q6⟩ := id VR
  go_wp2
  (try simp only [Exit.inBlock, Exit.then])
  refine bodyPost_ret (v := .tuple #[.agg #[.bool pr, .slice ar nr cr, .slice br mr dr], .int .i64 0]) (by simp [results, go_sem, q1, q2, q3]) rfl ?_
  exact ⟨_, rfl, hr_n, BB_n⟩

/-- The value v is a fraction z / x, to the base 10000, of at most L limbs each, that is q. -/
def DocP (w : World) (v : Value) (z : Int) (x L : Nat) : Prop :=
  ∃ p ao n c bo m d, v = .agg #[.bool p, .slice ao n c, .slice bo m d] ∧ RepJ w (.agg #[.bool p, .slice ao n c]) z ∧ RepD w (.slice bo m d) x ∧ 0 < x ∧ nl W32 z.natAbs ≤ L ∧ nl W32 x ≤ L
def DocQ (w : World) (v : Value) (q : Rat) (L : Nat) : Prop := ∃ z x, DocP w v z x L ∧ q = mkRat z x
theorem DocP.below {w w' : World} {v : Value} {z : Int} {x L : Nat} (h : DocP w v z x L) (hb : Below w.heap.size w w') : DocP w' v z x L := by
  obtain ⟨p, ao, n, c, bo, m, d, h1, h2, h3, h4⟩ := h
  exact ⟨p, ao, n, c, bo, m, d, h1, h2.below hb, h3.below hb, h4⟩
theorem DocP.keep {w w' : World} {v : Value} {z : Int} {x L : Nat} (h : DocP w v z x L) (hk : KeepQ IsNum w w') : DocP w' v z x L := by
  obtain ⟨p, ao, n, c, bo, m, d, h1, h2, h3, h4⟩ := h
  exact ⟨p, ao, n, c, bo, m, d, h1, h2.keep hk, h3.keep hk, h4⟩
theorem DocQ.below {w w' : World} {v : Value} {q : Rat} {L : Nat} (h : DocQ w v q L) (hb : Below w.heap.size w w') : DocQ w' v q L := by
  obtain ⟨z, x, h1, h2⟩ := h; exact ⟨z, x, h1.below hb, h2⟩
theorem DocQ.keep {w w' : World} {v : Value} {q : Rat} {L : Nat} (h : DocQ w v q L) (hk : KeepQ IsNum w w') : DocQ w' v q L := by
  obtain ⟨z, x, h1, h2⟩ := h; exact ⟨z, x, h1.keep hk, h2⟩
theorem DocP.open {w : World} {v : Value} {z : Int} {x L : Nat} (h : DocP w v z x L) : ∃ p ao n c bo m d, v = .agg #[.bool p, .slice ao n c, .slice bo m d] := by
  obtain ⟨p, ao, n, c, bo, m, d, h1, _⟩ := h; exact ⟨p, ao, n, c, bo, m, d, h1⟩
theorem DocQ.open {w : World} {v : Value} {q : Rat} {L : Nat} (h : DocQ w v q L) : ∃ p ao n c bo m d, v = .agg #[.bool p, .slice ao n c, .slice bo m d] := by
  obtain ⟨z, x, h1, _⟩ := h; exact h1.open
theorem DocQ.le {w : World} {v : Value} {q : Rat} {L M : Nat} (h : DocQ w v q L) (hM : L ≤ M) : DocQ w v q M := by
  obtain ⟨z, x, ⟨p, ao, n, c, bo, m, d, h1, h2, h3, h4, h5, h6⟩, e⟩ := h
  exact ⟨z, x, ⟨p, ao, n, c, bo, m, d, h1, h2, h3, h4, by omega, by omega⟩, e⟩
theorem DocP.parts {w : World} {p : Bool} {ao : Option Addr} {n c : Nat} {bo : Option Addr} {m d : Nat} {z : Int} {x L : Nat} (h : DocP w (.agg #[.bool p, .slice ao n c, .slice bo m d]) z x L) :
    RepJ w (.agg #[.bool p, .slice ao n c]) z ∧ RepD w (.slice bo m d) x ∧ 0 < x ∧ nl W32 z.natAbs ≤ L ∧ nl W32 x ≤ L := by
  obtain ⟨p', ao', n', c', bo', m', d', e, h2, h3, h4⟩ := h
  simp only [Value.agg.injEq, Array.mk.injEq, List.cons.injEq, Value.bool.injEq, Value.slice.injEq, and_true] at e
  obtain ⟨rfl, ⟨rfl, rfl, rfl⟩, rfl, rfl, rfl⟩ := e
  exact ⟨h2, h3, h4⟩
theorem DocP.mk {w : World} {p : Bool} {ao : Option Addr} {n c : Nat} {bo : Option Addr} {m d : Nat} {z : Int} {x L : Nat} (h1 : RepJ w (.agg #[.bool p, .slice ao n c]) z) (h2 : RepD w (.slice bo m d) x) (h3 : 0 < x) (h4 : nl W32 z.natAbs ≤ L) (h5 : nl W32 x ≤ L) : DocP w (.agg #[.bool p, .slice ao n c, .slice bo m d]) z x L :=
  ⟨p, ao, n, c, bo, m, d, rfl, h1, h2, h3, h4, h5⟩
theorem RepD.open {w : World} {v : Value} {x : Nat} (h : RepD w v x) : ∃ ao c, v = .slice ao (nl 10000 x) c := by
  obtain ⟨ao, c, e, _⟩ := h; exact ⟨ao, c, e⟩
theorem natc_nl {x L : Nat} (h : nl W32 x ≤ L) : nl W32 (x : Int).natAbs ≤ L := by rw [Int.natAbs_natCast]; exact h
theorem nlj5 {x L : Nat} (h : nl W32 x ≤ L) (hL : L ≤ 1000) : nl 10000 x ≤ 1000000 := Nat.le_trans (nl10_le _ _ h) (by omega)
theorem zof_nat0 (x : Nat) : zof false x = (x : Int) := zof_false x


theorem RepJ.bool {w : World} {p : Bool} {ao : Option Addr} {n c : Nat} {z : Int} (h : RepJ w (.agg #[.bool p, .slice ao n c]) z) : p = decide (z < 0) := by
  obtain ⟨ao', c', e, _⟩ := h
  simp only [Value.agg.injEq, Array.mk.injEq, List.cons.injEq, Value.bool.injEq] at e
  exact e.1
theorem inv_doc (z : Int) (x : Nat) (hx : 0 < x) (hz : z ≠ 0) : mkRat (zof (decide (z < 0)) x) z.natAbs = (mkRat z x)⁻¹ := by
  rw [← inv_mkRat z x hx hz]
  have h := zof_bne (decide (z < 0)) false x z.natAbs (by omega)
  rw [zof_false] at h
  have e1 : zof (!(decide (z < 0) == false)) x = zof (decide (z < 0)) x := by cases decide (z < 0) <;> rfl
  rw [e1] at h
  rw [h]
  rcases (show z < 0 ∨ 0 < z by omega) with g | g
  · rw [decide_eq_true g, zof_true, show (z.natAbs : Int) = -z by omega, Rat.intCast_neg, Rat.intCast_neg, Rat.intCast_natCast]
    grind
  · rw [decide_eq_false (by omega), zof_false, show (z.natAbs : Int) = z by omega, Rat.intCast_natCast]

/-- What few and tiny answer. -/
def FewOut (p : Bool) (n m : Nat) (f g : Nat → Int) (w : World) (e : Ending) (w' : World) : Prop :=
  ∃ ao c bo d, e = .returned (.agg #[.bool p, .slice ao n c, .slice bo m d]) ∧ Nums .u64 w' (.slice ao n c) n f ∧ U64 n f ∧ Nums .u64 w' (.slice bo m d) m g ∧ U64 m g ∧ Below w.heap.size w w'


theorem RatAt.raw {w : World} {p : Bool} {ao : Option Addr} {n c : Nat} {bo : Option Addr} {m d K : Nat} {f g : Nat → Int} (h1 : Nums .u64 w (.slice ao n c) n f) (h2 : U64 n f) (h3 : Nums .u64 w (.slice bo m d) m g) (h4 : U64 m g) (hn : n ≤ K) (hm : m ≤ K) :
    RatAt w (.agg #[.bool p, .slice ao n c, .slice bo m d]) (mkRat (zof p (num f n)) (num g m)) K :=
  RatAt.mk ⟨_, _, _, _, _, rfl, h1, h2, rfl, hn⟩ ⟨_, _, h3, h4, rfl, hm⟩
/-- Nothing, in letters. -/
def Nil7 (p : Bool) (a : Option Addr) (n c : Nat) (b : Option Addr) (m d : Nat) : Prop := p = false ∧ a = none ∧ n = 0 ∧ c = 0 ∧ b = none ∧ m = 0 ∧ d = 0
theorem qdiv_zero2 (u v : Value) (q r : Rat) (L : Nat) (w : World) (hu : RatAt w u q L) (hv : RatAt w v r L) (hL : 1 ≤ L) (hM : L ≤ 100000) (ht : Tab w) (h0 : r = 0) : Calls Tryz.prog 40 #[u, v] w fun e w' => ∃ p a n c b m d, e = .returned (.tuple #[.agg #[.bool p, .slice a n c, .slice b m d], .int .i64 2]) ∧ Nil7 p a n c b m d ∧ Below w.heap.size w w' := by
  refine (qdiv_zero u v q r L w hu hv hL hM ht h0).mono ?_
  rintro e w1 ⟨rfl, hb⟩
  exact ⟨_, _, _, _, _, _, _, rfl, ⟨rfl, rfl, rfl, rfl, rfl, rfl, rfl⟩, hb⟩
theorem qinv_zero2 (v : Value) (q : Rat) (L : Nat) (w : World) (hv : RatAt w v q L) (hL : 1 ≤ L) (hM : L ≤ 100000) (ht : Tab w) (h0 : q = 0) : Calls Tryz.prog 58 #[v] w fun e w' => ∃ p a n c b m d, e = .returned (.tuple #[.agg #[.bool p, .slice a n c, .slice b m d], .int .i64 2]) ∧ Nil7 p a n c b m d ∧ Below w.heap.size w w' := by
  refine (qinv_zero v q L w hv hL hM ht h0).mono ?_
  rintro e w1 ⟨rfl, hb⟩
  exact ⟨_, _, _, _, _, _, _, rfl, ⟨rfl, rfl, rfl, rfl, rfl, rfl, rfl⟩, hb⟩
theorem make_zero2 (u v : Value) (a : Int) (L M : Nat) (w : World) (hu : IntAt w u a L) (hv : IntAt w v 0 M) : Calls Tryz.prog 54 #[u, v] w fun e w' => ∃ p a n c b m d, e = .returned (.tuple #[.agg #[.bool p, .slice a n c, .slice b m d], .int .i64 2]) ∧ Nil7 p a n c b m d ∧ Below w.heap.size w w' := by
  refine (make_zero u v a L M w hu hv).mono ?_
  rintro e w1 ⟨rfl, hb⟩
  exact ⟨_, _, _, _, _, _, _, rfl, ⟨rfl, rfl, rfl, rfl, rfl, rfl, rfl⟩, hb⟩

/-- The sum of the first n. -/
def sumq (q : Nat → Rat) : Nat → Rat
  | 0 => 0
  | n + 1 => sumq q n + q n
theorem sumq_cut (q : Nat → Rat) (m : Nat) : ∀ n, sumq q (m + n) = sumq q m + sumq (fun i => q (m + i)) n
  | 0 => by show sumq q m = sumq q m + 0; rw [Rat.add_zero]
  | n + 1 => by
    show sumq q (m + n) + q (m + n) = sumq q m + (sumq (fun i => q (m + i)) n + q (m + n))
    rw [sumq_cut q m n, Rat.add_assoc]
theorem qsz_sumq (q : Nat → Rat) (L : Nat) : ∀ n, (∀ i, i < n → qsz (q i) ≤ L) → qsz (sumq q n) ≤ n * (L + 1) + 1
  | 0, _ => by
    have : qsz (0 : Rat) ≤ 1 := qsz_int 0 (by decide) (by omega)
    show qsz (0 : Rat) ≤ _; omega
  | n + 1, h => by
    have := qsz_add _ _ (qsz_sumq q L n fun i hi => h i (by omega)) (h n (by omega))
    show qsz (sumq q n + q n) ≤ _
    rw [Nat.succ_mul]; omega
/-- A slice of n rational numbers, each of at most L limbs above and below. -/
def QRow (w : World) (v : Value) (n : Nat) (q : Nat → Rat) (L : Nat) : Prop := ∃ el, RowAt 3 w v n el ∧ ∀ i, i < n → RatAt w (.agg #[el i 0, el i 1, el i 2]) (q i) L
theorem QRow.below {w w' : World} {v : Value} {n : Nat} {q : Nat → Rat} {L : Nat} (h : QRow w v n q L) (hb : Below w.heap.size w w') : QRow w' v n q L := by
  obtain ⟨el, h1, h2⟩ := h
  exact ⟨el, h1.below hb, fun i hi => (h2 i hi).below hb⟩
theorem QRow.cut {w : World} {v : Value} {n : Nat} {q : Nat → Rat} {L : Nat} (h : QRow w v n q L) (m : Nat) (h0 : 0 < m) (hm : m < n) :
    ∃ b off c, v = .slice (some ⟨b, off, none⟩) n c ∧ n ≤ c ∧ c ≤ 9223372036854775807 ∧ QRow w (.slice (some ⟨b, off, none⟩) m c) m q L ∧ QRow w (.slice (some ⟨b, off + m * 3, none⟩) (n - m) (c - m)) (n - m) (fun i => q (m + i)) L := by
  obtain ⟨el, h1, h2⟩ := h
  obtain ⟨b, off, c, e, hc, hM, p1, p2⟩ := h1.cut m h0 hm
  exact ⟨b, off, c, e, hc, hM, ⟨el, p1, fun i hi => h2 i (by omega)⟩, ⟨_, p2, fun i hi => h2 (m + i) (by omega)⟩⟩
theorem QRow.sz {w : World} {v : Value} {n : Nat} {q : Nat → Rat} {L : Nat} (h : QRow w v n q L) (hL : 1 ≤ L) (i : Nat) (hi : i < n) : qsz (q i) ≤ L := by
  obtain ⟨el, _, h2⟩ := h; exact (h2 i hi).qsz hL

theorem txt_small (x L : Nat) (h : nl W32 x ≤ L) : (txt x).size ≤ 10 * L + 1 := by
  rw [txt_size]
  exact ndec_le _ _ (Nat.lt_of_lt_of_le (lt_pow_nl W32 x (by decide)) (Nat.pow_le_pow_right (by decide) h))
theorem ztxt_small (z : Int) (L : Nat) (h : nl W32 z.natAbs ≤ L) : (ztxt z).size ≤ 10 * L + 2 := by
  have := txt_small z.natAbs L h
  unfold ztxt
  split
  · rw [ByteArray.size_append]; show 1 + _ ≤ _; omega
  · omega
/-- A number as text. -/
def qtxt (q : Rat) : ByteArray := if q.den = 1 then ztxt q.num else ztxt q.num ++ { data := #[47] } ++ txt q.den


theorem even_num (f : Nat → Int) (n : Nat) : decide (at0 f n 0 % 2 = 0) = decide (num f n % 2 = 0) := by
  by_cases h : 0 < n
  · have e := num_digit f n 0 h
    unfold at0; rw [if_pos h]
    unfold dg at e
    rw [Nat.pow_zero, Nat.div_one] at e
    unfold W32 at e
    rw [decide_eq_decide]; omega
  · obtain rfl : n = 0 := by omega
    have hz : num f 0 = 0 := rfl
    unfold at0; rw [if_neg h, hz]; rfl
/-- The nearest whole number; of two the even one. -/
def roundQ (q : Rat) : Int := if 2 * (q - (q.floor : Rat)) < 1 ∨ (2 * (q - (q.floor : Rat)) = 1 ∧ q.floor % 2 = 0) then q.floor else q.floor + 1
theorem round_mkRat (z : Int) (x : Nat) (hx : 0 < x) : roundQ (mkRat z x) =
    if cmpI (((z.fmod (x : Int)).natAbs + (z.fmod (x : Int)).natAbs : Nat) : Int) (x : Int) < 0 ∨ (cmpI (((z.fmod (x : Int)).natAbs + (z.fmod (x : Int)).natAbs : Nat) : Int) (x : Int) = 0 ∧ (z.fdiv (x : Int)).natAbs % 2 = 0) then z.fdiv (x : Int) else z.fdiv (x : Int) + 1 := by
  unfold roundQ
  rw [floor_mkRat z x hx]
  have h1 := Int.mul_fdiv_add_fmod z (x : Int)
  have h2 := Int.fmod_nonneg_of_pos z (show (0 : Int) < (x : Int) by omega)
  generalize z.fdiv (x : Int) = F at *
  generalize z.fmod (x : Int) = G at *
  obtain ⟨r, rfl⟩ : ∃ r : Nat, G = (r : Int) := ⟨G.toNat, by omega⟩
  rw [Int.natAbs_natCast]
  have hx' := ratc_pos x hx
  have hxn : (x : Rat) ≠ 0 := fun e => by rw [e] at hx'; exact Rat.lt_irrefl hx'
  have hq : mkRat z x - (F : Rat) = mkRat (r : Int) x := by
    rw [Rat.mkRat_eq_div, Rat.mkRat_eq_div, ← h1, Rat.intCast_add, Rat.intCast_mul, Rat.intCast_natCast, Rat.intCast_natCast]
    grind
  have e2 : 2 * mkRat (r : Int) x = mkRat ((r + r : Nat) : Int) x := by
    rw [Rat.mkRat_eq_div, Rat.mkRat_eq_div, Rat.intCast_natCast, Rat.intCast_natCast, Rat.natCast_add]
    grind
  rw [hq, e2]
  have e1 : (1 : Rat) = mkRat 1 1 := show (1 : Rat) = mkRat (1 : Rat).num (1 : Rat).den from (Rat.mkRat_self 1).symm
  have hlt : mkRat ((r + r : Nat) : Int) x < 1 ↔ ((r + r : Nat) : Int) < (x : Int) := by
    rw [e1, mkRat_lt _ _ _ _ hx (by omega)]; simp
  have heq : mkRat ((r + r : Nat) : Int) x = 1 ↔ ((r + r : Nat) : Int) = (x : Int) := by
    rw [e1, Rat.mkRat_eq_iff (by omega) (by omega)]; simp
  simp only [hlt, heq]
  have c1 : cmpI ((r + r : Nat) : Int) (x : Int) < 0 ↔ ((r + r : Nat) : Int) < (x : Int) := by
    unfold cmpI; split
    · simp_all
    · split <;> simp_all
  have c2 : cmpI ((r + r : Nat) : Int) (x : Int) = 0 ↔ ((r + r : Nat) : Int) = (x : Int) := by
    unfold cmpI; split
    · simp_all; omega
    · split
      · simp_all; omega
      · simp_all; omega
  simp only [c1, c2]
  have c3 : F % 2 = 0 ↔ F.natAbs % 2 = 0 := by omega
  simp only [c3]


theorem shr_half (n i : Nat) : ((n : Int) / 2 ^ i) = ((n / 2 ^ i : Nat) : Int) := by rw [Int.natCast_ediv]; simp
theorem nl_ten (m K : Nat) (h : m < K) : nl W32 (10 ^ m) ≤ K :=
  nl_le W32 _ _ (by decide) (Nat.lt_of_le_of_lt (Nat.pow_le_pow_left (by decide : 10 ≤ W32) m) (Nat.pow_lt_pow_right (by decide) h))
theorem pow_bits (n i : Nat) : n % 2 ^ (i + 1) = n % 2 ^ i + 2 ^ i * (n / 2 ^ i % 2) := by
  rw [Nat.pow_succ, Nat.mod_mul]
end Go.Proofs.YtfibpckhbgemcaaGreatDoor

namespace Go.Proofs.YtfibpckhbgemcaaGreatDoor
open Go.RowKit
set_option linter.unusedVariables false

/-- A limb, or a byte of a table. -/
def IsLimb (v : Value) : Prop := ∃ x, v = .int .u64 x ∨ v = .int .u8 x
theorem limb_int (x : Int) : ¬ IsLimb (.int .i64 x) := fun ⟨_, h⟩ => by rcases h with h | h <;> cases h
theorem Nums.keepL {w w' : World} {v : Value} {n : Nat} {f : Nat → Int} (h : Nums .u64 w v n f) (hk : KeepQ IsLimb w w') : Nums .u64 w' v n f := by
  obtain ⟨ao, c, h1, h2, h3, h4⟩ := h
  exact ⟨ao, c, h1, h2, h3, fun hn => let ⟨b, off, e, hc⟩ := h4 hn; ⟨b, off, e, fun i hi => hk _ _ _ ⟨_, .inl rfl⟩ (hc i hi)⟩⟩
theorem Rep.keepL {w w' : World} {v : Value} {m : Nat} (h : Rep w v m) (hk : KeepQ IsLimb w w') : Rep w' v m := Nums.keepL h hk
theorem RepI.keepL {w w' : World} {v : Value} {z : Int} (h : RepI w v z) (hk : KeepQ IsLimb w w') : RepI w' v z := by
  obtain ⟨ao, c, h1, h2⟩ := h
  exact ⟨ao, c, h1, Nums.keepL h2 hk⟩
theorem IntAt.keepL {w w' : World} {v : Value} {z : Int} {L : Nat} (h : IntAt w v z L) (hk : KeepQ IsLimb w w') : IntAt w' v z L := by
  obtain ⟨neg, ao, n, c, f, h1, h2, h3⟩ := h
  exact ⟨neg, ao, n, c, f, h1, h2.keepL hk, h3⟩
theorem NatAt.keepL {w w' : World} {v : Value} {x L : Nat} (h : NatAt w v x L) (hk : KeepQ IsLimb w w') : NatAt w' v x L := by
  obtain ⟨n, f, h1, h2⟩ := h; exact ⟨n, f, h1.keepL hk, h2⟩
theorem RatAt.keepL {w w' : World} {v : Value} {q : Rat} {L : Nat} (h : RatAt w v q L) (hk : KeepQ IsLimb w w') : RatAt w' v q L := by
  obtain ⟨p, ao, n, c, bo, m, d, z, x, h1, h2, h3, h4⟩ := h
  exact ⟨p, ao, n, c, bo, m, d, z, x, h1, h2.keepL hk, h3.keepL hk, h4⟩
theorem RepQ.keepL {w w' : World} {v : Value} {q : Rat} (h : RepQ w v q) (hk : KeepQ IsLimb w w') : RepQ w' v q := by
  obtain ⟨p, ao, n, c, bo, m, d, h1, h2, h3⟩ := h
  exact ⟨p, ao, n, c, bo, m, d, h1, h2.keepL hk, h3.keepL hk⟩
theorem Tab.keepL {w w' : World} (h : Tab w) (hk : KeepQ IsLimb w w') : Tab w' := fun i hi => hk _ _ _ ⟨_, .inr rfl⟩ (h i hi)
theorem keepL_set {w : World} {a : Addr} {old : Value} (h : w.cell? a = some old) (hn : ¬ IsLimb old) (x : Value) : KeepQ IsLimb w (w.setCell a x) := by
  intro b o v hv hc
  rw [World.cell?_setCell_other _ _ _ _ (fun e => by rw [← e, h] at hc; cases hc; exact hn hv)]
  exact hc
/-- Two small numbers in a variable. -/
theorem V2.keepF {w : World} {R : Nat} {a b : Int} (h : V2 w R (.int .i64 a) (.int .i64 b)) (x' y' : Value) : KeepQ IsLimb w ((w.setCell ⟨R, 0, none⟩ x').setCell ⟨R, 1, none⟩ y') := by
  refine (keepL_set h.1 (limb_int a) x').trans (keepL_set (old := .int .i64 b) ?_ (limb_int b) y')
  rw [World.cell?_setCell_other _ _ _ _ (fun e => by injection e; omega)]; exact h.2.1

end Go.Proofs.YtfibpckhbgemcaaGreatDoor

namespace Go.Proofs.YtfibpckhbgemcaaGreatDoor
set_option linter.unusedVariables false

/-- The product of all numbers from 1 to n. -/
def fct : Nat → Nat
  | 0 => 1
  | n + 1 => fct n * (n + 1)
/-- The ways to take k of n things. -/
def wys : Nat → Nat → Nat
  | _, 0 => 1
  | 0, _ + 1 => 0
  | n + 1, k + 1 => wys n k + wys n (k + 1)
theorem wys_zero (n : Nat) : wys n 0 = 1 := by cases n <;> rfl
theorem wys_none : ∀ (n k : Nat), n < k → wys n k = 0 := by
  intro n
  induction n with
  | zero => intro k hk; cases k with
    | zero => omega
    | succ k => rfl
  | succ n ih => intro k hk; cases k with
    | zero => omega
    | succ k => show wys n k + wys n (k + 1) = 0; rw [ih k (by omega), ih (k + 1) (by omega)]
theorem wys_all : ∀ n, wys n n = 1 := by
  intro n
  induction n with
  | zero => rfl
  | succ n ih => show wys n n + wys n (n + 1) = 1; rw [ih, wys_none n (n + 1) (by omega)]
/-- One more is taken. -/
theorem wys_step : ∀ (n k : Nat), wys n (k + 1) * (k + 1) = wys n k * (n - k) := by
  intro n
  induction n with
  | zero => intro k; cases k <;> simp [wys]
  | succ n ih =>
    intro k
    by_cases hk : n < k
    · rw [wys_none (n + 1) (k + 1) (by omega), show n + 1 - k = 0 by omega]; simp
    have e1 : n + 1 - k = n - k + 1 := by omega
    cases k with
    | zero =>
      have h0 := ih 0
      show (wys n 0 + wys n 1) * 1 = wys (n + 1) 0 * (n + 1)
      rw [wys_zero] at h0 ⊢
      rw [wys_zero]; simp at h0 ⊢; omega
    | succ k =>
      have h1 := ih k
      have h2 := ih (k + 1)
      show (wys n (k + 1) + wys n (k + 1 + 1)) * (k + 1 + 1) = (wys n k + wys n (k + 1)) * (n + 1 - (k + 1))
      have e2 : n + 1 - (k + 1) = n - k := by omega
      have e3 : n - k = n - (k + 1) + 1 := by omega
      rw [e2]
      generalize wys n (k + 1) = A at *
      generalize wys n (k + 1 + 1) = B at *
      generalize wys n k = C at *
      rw [e3] at h1 ⊢
      generalize n - (k + 1) = D at *
      grind
theorem wys_sym (n k : Nat) (h : k ≤ n) : wys n k * (fct k * fct (n - k)) = fct n := by
  induction n generalizing k with
  | zero => (have e : k = 0 := by omega); subst e; decide
  | succ n ih =>
    cases k with
    | zero => rw [wys_zero]; simp [fct]
    | succ k =>
      show (wys n k + wys n (k + 1)) * (fct k * (k + 1) * fct (n + 1 - (k + 1))) = fct n * (n + 1)
      have h1 := ih k (by omega)
      have e1 : n + 1 - (k + 1) = n - k := by omega
      rw [e1]
      by_cases hk : k + 1 ≤ n
      · have h2 := ih (k + 1) hk
        have e2 : n - k = n - (k + 1) + 1 := by omega
        rw [e2] at h1 ⊢
        have h3 : fct (k + 1) = fct k * (k + 1) := rfl
        have h4 : fct (n - (k + 1) + 1) = fct (n - (k + 1)) * (n - (k + 1) + 1) := rfl
        rw [h3] at h2
        rw [h4] at h1 ⊢
        have e3 : n + 1 = (k + 1) + (n - (k + 1) + 1) := by omega
        rw [e3]
        generalize n - (k + 1) = D at *
        generalize fct D = P at *
        generalize fct k = Q at *
        generalize wys n k = C at *
        generalize wys n (k + 1) = B at *
        grind
      · obtain rfl : k = n := by omega
        rw [wys_none k (k + 1) (by omega)]
        simp at h1 ⊢
        simp [fct] at h1 ⊢
        grind
theorem fct_pos : ∀ i, 0 < fct i
  | 0 => by decide
  | i + 1 => Nat.mul_pos (fct_pos i) (Nat.succ_pos i)
theorem wys_pos {n k : Nat} (h : k ≤ n) : 0 < wys n k := by
  have h1 := wys_sym n k h
  have h2 := fct_pos n
  rcases Nat.eq_zero_or_pos (wys n k) with e | e
  · rw [e, Nat.zero_mul] at h1; omega
  · exact e
theorem fct_dvd_le : ∀ (n k : Nat), k ≤ n → fct k ∣ fct n
  | 0, k, h => by
    have e : k = 0 := by omega
    subst e
    exact ⟨1, rfl⟩
  | n + 1, k, h => by
    by_cases e : k = n + 1
    · subst e; exact ⟨1, (Nat.mul_one _).symm⟩
    · obtain ⟨c, hc⟩ := fct_dvd_le n k (by omega)
      exact ⟨c * (n + 1), by show fct n * (n + 1) = _; rw [hc, Nat.mul_assoc]⟩
/-- No rest is left. -/
theorem fct_dvd {a b n : Nat} (h : a + b ≤ n) : fct a * fct b ∣ fct n := by
  obtain ⟨c, hc⟩ := fct_dvd_le n (a + b) h
  have h1 := wys_sym (a + b) a (by omega)
  rw [show a + b - a = b by omega] at h1
  exact ⟨wys (a + b) a * c, by rw [hc, ← h1]; generalize fct a * fct b = X; grind⟩
/-- A product as a rational number, and shares of it. -/
theorem fctR_ne (n : Nat) : ((fct n : Nat) : Rat) ≠ 0 := by
  have h := fct_pos n
  intro e
  have : fct n = 0 := by exact_mod_cast e
  omega
theorem fctR_succ (n : Nat) : ((fct (n + 1) : Nat) : Rat) = ((fct n : Nat) : Rat) * ((n + 1 : Nat) : Rat) := by
  show ((fct n * (n + 1) : Nat) : Rat) = _
  rw [Rat.natCast_mul]

end Go.Proofs.YtfibpckhbgemcaaGreatDoor

namespace Go.Proofs.YtfibpckhbgemcaaGreatDoor
open Go.RowKit
set_option linter.unusedVariables false
set_option linter.unusedSimpArgs false

set_option maxRecDepth 20000 in
set_option maxHeartbeats 1000000 in
theorem qright_k (K : Nat) (hK : K ≤ 900000) (p : Bool) (ao : Option Addr) (n c : Nat) (bo : Option Addr) (m d : Nat) (f g : Nat → Int) (w : World) (h1 : Nums .u64 w (.slice ao n c) n f) (f1 : U64 n f) (k1 : n ≤ K) (h2 : Nums .u64 w (.slice bo m d) m g) (f2 : U64 m g) (k2 : m ≤ K) (ht : Tab w) (hA : (rightB f n && !(p && decide (num f n = 0))) = true) (hB : rightB g m = true) (hC : num g m ≠ 0) :
    Calls Tryz.prog 39 #[.agg #[.bool p, .slice ao n c, .slice bo m d]] w fun e w' => e = .returned (.bool (decide (Nat.gcd (num f n) (num g m) = 1))) ∧ Below w.heap.size w w' := by
  have BB : Below w.heap.size w w := Below.refl _ _
  obtain ⟨Wb0, hW0, hS0, hL0, VA⟩ := V3.lay w 35 (.bool p) (.slice ao n c) (.slice bo m d)
  replace h1 := h1.below hL0
  replace h2 := h2.below hL0
  replace ht := ht.below hL0
  replace BB := BB.trans (hL0.mono BB.size)
  clear hL0
  go_enter Tryz.func39, Tryz.ntmps39
  go_wp2_with fail
  rw [← hW0]
  clear hW0 hS0
  refine (wright_any p ao n c f _ h1 f1).mono ?_
  rintro e w1 ⟨rfl, b1⟩
  replace h1 := h1.below b1
  replace h2 := h2.below b1
  replace ht := ht.below b1
  replace VA := VA.below b1
  replace BB := BB.trans (b1.mono BB.size)
  clear b1
  rw [hA]
  obtain ⟨VA_0, VA_1, VA_2, VA_3, VA_4, VA_5⟩ := id VA
  go_wp2_with fail
  clear VA_0 VA_1 VA_2 VA_3 VA_4 VA_5
  refine (right_any _ _ _ _ h2).mono ?_
  rintro e wx ⟨rfl, hwx⟩
  replace hwx := hwx.symm
  subst hwx
  rw [hB]
  obtain ⟨VA_0, VA_1, VA_2, VA_3, VA_4, VA_5⟩ := id VA
  go_wp2_with fail
  clear VA_0 VA_1 VA_2 VA_3 VA_4 VA_5
  refine (nzero_at _ (num g m) K _ ⟨_, _, h2, f2, rfl, k2⟩).mono ?_
  rintro e wx ⟨rfl, hwx⟩
  replace hwx := hwx.symm
  subst hwx
  rw [decide_eq_false hC]
  obtain ⟨VA_0, VA_1, VA_2, VA_3, VA_4, VA_5⟩ := id VA
  go_wp2_with fail
  clear VA_0 VA_1 VA_2 VA_3 VA_4 VA_5
  refine (ngcd_at _ _ (num f n) (num g m) K K _ ⟨_, _, h1, f1, rfl, k1⟩ ⟨_, _, h2, f2, rfl, k2⟩ (by omega) (by omega) ht).mono ?_
  rintro e w2 ⟨r, rfl, hr, b2⟩
  replace h1 := h1.below b2
  replace h2 := h2.below b2
  replace ht := ht.below b2
  replace VA := VA.below b2
  replace BB := BB.trans (b2.mono BB.size)
  clear b2
  go_wp2_with fail
  refine (isOne_at _ _ _ _ (hr.at _ (Nat.le_refl _))).mono ?_
  rintro e w3 ⟨rfl, b3⟩
  replace h1 := h1.below b3
  replace h2 := h2.below b3
  replace ht := ht.below b3
  replace hr := hr.below b3
  replace VA := VA.below b3
  replace BB := BB.trans (b3.mono BB.size)
  clear b3
  go_wp2
  go_ret
  exact ⟨rfl, BB⟩

theorem qright_rep (v : Value) (q : Rat) (w : World) (hv : RepQ w v q) (hL : qsz q ≤ 900000) (ht : Tab w) :
    Calls Tryz.prog 39 #[v] w fun e w' => e = .returned (.bool true) ∧ Below w.heap.size w w' := by
  obtain ⟨p, ao, n, c, bo, m, d, rfl⟩ := hv.open
  obtain ⟨h1, h2⟩ := hv.parts
  unfold qsz at hL
  obtain ⟨a1, c1, e1, hR⟩ := h1
  simp only [Value.agg.injEq, Array.mk.injEq, List.cons.injEq, Value.bool.injEq, Value.slice.injEq, and_true] at e1
  obtain ⟨rfl, rfl, rfl, rfl⟩ := e1
  obtain ⟨a2, c2, e2, _⟩ := id h2
  simp only [Value.slice.injEq] at e2
  obtain ⟨rfl, rfl, rfl⟩ := e2
  obtain ⟨K, hK⟩ : ∃ K, K = max (nl W32 q.num.natAbs) (nl W32 q.den) := ⟨_, rfl⟩
  rw [← hK] at hL
  have hg : Nat.gcd q.num.natAbs q.den = 1 := q.reduced
  have hA : (!(decide (q.num < 0) && decide (q.num.natAbs = 0))) = true := by
    by_cases h : q.num < 0
    · rw [decide_eq_true h, decide_eq_false (by omega)]; rfl
    · rw [decide_eq_false h]; rfl
  have r := qright_k K hL (decide (q.num < 0)) ao (nl W32 q.num.natAbs) c bo (nl W32 q.den) d (dg W32 q.num.natAbs) (dg W32 q.den) w hR (u64_dg _ _) (by omega) h2 (u64_dg _ _) (by omega) ht (by rw [rightB_rep, num_nl, Bool.true_and]; exact hA) (rightB_rep _) (by rw [num_nl]; exact q.den_nz)
  rw [num_nl, num_nl, decide_eq_true hg] at r
  exact r

end Go.Proofs.YtfibpckhbgemcaaGreatDoor
