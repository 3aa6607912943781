/-
  Texts of mine.
-/
import Derived.Test.YtbelnhpjhpoacaaDoorJ18ba3c39c7
import Derived.Test.YtbelnhpjhpoacaaDoorJ6f02e42e81
import Derived.Test.YtbelnhpjhpoacaaDoorJa277b3785d
import Derived.Test.YtbelnhpjhpoacaaDoorJ2a3cd978e1
import Derived.Deep.Cut
import Derived.Test.YtbelnhpjhpoacaaDoorJ132f1d6029
namespace Go.Proofs.YtbelnhpjhpoacaaDoor
open Go.RowKit
set_option linter.unusedVariables false

/-- The value v is limbs, at most L, of the number x. -/
def NatAt (w : World) (v : Value) (x L : Nat) : Prop := ∃ n f, Nums .u64 w v n f ∧ U64 n f ∧ x = num f n ∧ n ≤ L
theorem NatAt.below {w w' : World} {v : Value} {x L : Nat} (h : NatAt w v x L) (hb : Below w.heap.size w w') : NatAt w' v x L := by
  obtain ⟨n, f, h1, h2⟩ := h; exact ⟨n, f, h1.below hb, h2⟩
theorem NatAt.keep {w w' : World} {v : Value} {x L : Nat} (h : NatAt w v x L) (hk : KeepQ IsNum w w') : NatAt w' v x L := by
  obtain ⟨n, f, h1, h2⟩ := h; exact ⟨n, f, h1.keep hk, h2⟩
theorem NatAt.nl {w : World} {v : Value} {x L : Nat} (h : NatAt w v x L) : nl W32 x ≤ L := by
  obtain ⟨n, f, _, _, rfl, hn⟩ := h
  exact Nat.le_trans (nl_le W32 _ n (by decide) (num_lt f n)) hn
theorem NatAt.open {w : World} {v : Value} {x L : Nat} (h : NatAt w v x L) : ∃ ao n c, v = .slice ao n c := by
  obtain ⟨n, f, ⟨ao, c, e, _⟩, _⟩ := h; exact ⟨ao, n, c, e⟩
theorem NatAt.le {w : World} {v : Value} {x L M : Nat} (h : NatAt w v x L) (hM : L ≤ M) : NatAt w v x M := by
  obtain ⟨n, f, h1, h2, h3, h4⟩ := h; exact ⟨n, f, h1, h2, h3, by omega⟩
theorem IntAt.le {w : World} {v : Value} {z : Int} {L M : Nat} (h : IntAt w v z L) (hM : L ≤ M) : IntAt w v z M := by
  obtain ⟨neg, ao, n, c, f, h1, h2, h3, h4, h5⟩ := h; exact ⟨neg, ao, n, c, f, h1, h2, h3, h4, by omega⟩
theorem Rep.at {w : World} {v : Value} {x : Nat} (h : Rep w v x) (L : Nat) (hL : nl W32 x ≤ L) : NatAt w v x L := ⟨_, _, h, u64_dg _ _, (num_nl x).symm, hL⟩
theorem Rep.open {w : World} {v : Value} {x : Nat} (h : Rep w v x) : ∃ ao n c, v = .slice ao n c := by
  obtain ⟨ao, c, e, _⟩ := h; exact ⟨ao, _, c, e⟩
theorem IntAt.abs {w : World} {p : Bool} {ao : Option Addr} {n c : Nat} {z : Int} {L : Nat} (h : IntAt w (.agg #[.bool p, .slice ao n c]) z L) : NatAt w (.slice ao n c) z.natAbs L := by
  obtain ⟨neg, ao', n', c', f, e, h2, h3, rfl, h5⟩ := h
  simp only [Value.agg.injEq, Array.mk.injEq, List.cons.injEq, Value.slice.injEq, and_true] at e
  obtain ⟨_, rfl, rfl, rfl⟩ := e
  exact ⟨_, f, h2, h3, (zof_abs _ _), h5⟩
theorem IntAt.mk {w : World} {p : Bool} {ao : Option Addr} {n c : Nat} {x : Nat} {L : Nat} (h : NatAt w (.slice ao n c) x L) : IntAt w (.agg #[.bool p, .slice ao n c]) (zof p x) L := by
  obtain ⟨n', f, h1, h2, rfl, h4⟩ := h
  have e : n' = n := by obtain ⟨ao', c', e, _⟩ := h1; simp only [Value.slice.injEq] at e; exact e.2.1.symm
  subst e
  exact ⟨p, ao, n', c, f, rfl, h1, h2, rfl, h4⟩
theorem IntAt.bool {w : World} {p : Bool} {ao : Option Addr} {n c : Nat} {z : Int} {L : Nat} (h : IntAt w (.agg #[.bool p, .slice ao n c]) z L) : z = zof p z.natAbs := by
  obtain ⟨neg, ao', n', c', f, e, _, _, rfl, _⟩ := h
  simp only [Value.agg.injEq, Array.mk.injEq, List.cons.injEq, Value.bool.injEq] at e
  rw [zof_abs, e.1]

/-- The value v is parts, of at most L limbs each, of the number q; a divisor 0 makes it 0. -/
def RatAt (w : World) (v : Value) (q : Rat) (L : Nat) : Prop :=
  ∃ p ao n c bo m d z x, v = .agg #[.bool p, .slice ao n c, .slice bo m d] ∧ IntAt w (.agg #[.bool p, .slice ao n c]) z L ∧ NatAt w (.slice bo m d) x L ∧ q = mkRat z x
theorem RatAt.below {w w' : World} {v : Value} {q : Rat} {L : Nat} (h : RatAt w v q L) (hb : Below w.heap.size w w') : RatAt w' v q L := by
  obtain ⟨p, ao, n, c, bo, m, d, z, x, h1, h2, h3, h4⟩ := h
  exact ⟨p, ao, n, c, bo, m, d, z, x, h1, h2.below hb, h3.below hb, h4⟩
theorem RatAt.keep {w w' : World} {v : Value} {q : Rat} {L : Nat} (h : RatAt w v q L) (hk : KeepQ IsNum w w') : RatAt w' v q L := by
  obtain ⟨p, ao, n, c, bo, m, d, z, x, h1, h2, h3, h4⟩ := h
  exact ⟨p, ao, n, c, bo, m, d, z, x, h1, h2.keep hk, h3.keep hk, h4⟩
theorem RatAt.le {w : World} {v : Value} {q : Rat} {L M : Nat} (h : RatAt w v q L) (hM : L ≤ M) : RatAt w v q M := by
  obtain ⟨p, ao, n, c, bo, m, d, z, x, h1, h2, h3, h4⟩ := h
  exact ⟨p, ao, n, c, bo, m, d, z, x, h1, h2.le hM, h3.le hM, h4⟩
theorem RatAt.open {w : World} {v : Value} {q : Rat} {L : Nat} (h : RatAt w v q L) : ∃ p ao n c bo m d, v = .agg #[.bool p, .slice ao n c, .slice bo m d] := by
  obtain ⟨p, ao, n, c, bo, m, d, z, x, h1, _⟩ := h
  exact ⟨p, ao, n, c, bo, m, d, h1⟩
theorem RatAt.parts {w : World} {p : Bool} {ao : Option Addr} {n c : Nat} {bo : Option Addr} {m d : Nat} {q : Rat} {L : Nat} (h : RatAt w (.agg #[.bool p, .slice ao n c, .slice bo m d]) q L) :
    ∃ z x, IntAt w (.agg #[.bool p, .slice ao n c]) z L ∧ NatAt w (.slice bo m d) x L ∧ q = mkRat z x := by
  obtain ⟨p', ao', n', c', bo', m', d', z, x, e, h2, h3, h4⟩ := h
  simp only [Value.agg.injEq, Array.mk.injEq, List.cons.injEq, Value.bool.injEq, Value.slice.injEq, and_true] at e
  obtain ⟨rfl, ⟨rfl, rfl, rfl⟩, rfl, rfl, rfl⟩ := e
  exact ⟨z, x, h2, h3, h4⟩
theorem RatAt.mk {w : World} {p : Bool} {ao : Option Addr} {n c : Nat} {bo : Option Addr} {m d : Nat} {z : Int} {x L : Nat} (h1 : IntAt w (.agg #[.bool p, .slice ao n c]) z L) (h2 : NatAt w (.slice bo m d) x L) : RatAt w (.agg #[.bool p, .slice ao n c, .slice bo m d]) (mkRat z x) L :=
  ⟨p, ao, n, c, bo, m, d, z, x, rfl, h1, h2, rfl⟩

/-- How many limbs the longer part has. -/
def qsz (q : Rat) : Nat := max (nl W32 q.num.natAbs) (nl W32 q.den)
/-- The value v is the number q in its one form. -/
def RepQ (w : World) (v : Value) (q : Rat) : Prop :=
  ∃ p ao n c bo m d, v = .agg #[.bool p, .slice ao n c, .slice bo m d] ∧ RepI w (.agg #[.bool p, .slice ao n c]) q.num ∧ Rep w (.slice bo m d) q.den
theorem RepQ.below {w w' : World} {v : Value} {q : Rat} (h : RepQ w v q) (hb : Below w.heap.size w w') : RepQ w' v q := by
  obtain ⟨p, ao, n, c, bo, m, d, h1, h2, h3⟩ := h
  exact ⟨p, ao, n, c, bo, m, d, h1, h2.below hb, h3.below hb⟩
theorem RepQ.keep {w w' : World} {v : Value} {q : Rat} (h : RepQ w v q) (hk : KeepQ IsNum w w') : RepQ w' v q := by
  obtain ⟨p, ao, n, c, bo, m, d, h1, h2, h3⟩ := h
  exact ⟨p, ao, n, c, bo, m, d, h1, h2.keep hk, h3.keep hk⟩
theorem RepQ.open {w : World} {v : Value} {q : Rat} (h : RepQ w v q) : ∃ p ao n c bo m d, v = .agg #[.bool p, .slice ao n c, .slice bo m d] := by
  obtain ⟨p, ao, n, c, bo, m, d, h1, _⟩ := h
  exact ⟨p, ao, n, c, bo, m, d, h1⟩
theorem RepQ.mk {w : World} {p : Bool} {ao : Option Addr} {n c : Nat} {bo : Option Addr} {m d : Nat} {q : Rat} (h1 : RepI w (.agg #[.bool p, .slice ao n c]) q.num) (h2 : Rep w (.slice bo m d) q.den) : RepQ w (.agg #[.bool p, .slice ao n c, .slice bo m d]) q :=
  ⟨p, ao, n, c, bo, m, d, rfl, h1, h2⟩
theorem RepQ.parts {w : World} {p : Bool} {ao : Option Addr} {n c : Nat} {bo : Option Addr} {m d : Nat} {q : Rat} (h : RepQ w (.agg #[.bool p, .slice ao n c, .slice bo m d]) q) :
    RepI w (.agg #[.bool p, .slice ao n c]) q.num ∧ Rep w (.slice bo m d) q.den := by
  obtain ⟨p', ao', n', c', bo', m', d', e, h2, h3⟩ := h
  simp only [Value.agg.injEq, Array.mk.injEq, List.cons.injEq, Value.bool.injEq, Value.slice.injEq, and_true] at e
  obtain ⟨rfl, ⟨rfl, rfl, rfl⟩, rfl, rfl, rfl⟩ := e
  exact ⟨h2, h3⟩
theorem RepQ.at {w : World} {v : Value} {q : Rat} (h : RepQ w v q) (L : Nat) (hL : qsz q ≤ L) : RatAt w v q L := by
  obtain ⟨p, ao, n, c, bo, m, d, h1, h2, h3⟩ := h
  unfold qsz at hL
  exact ⟨p, ao, n, c, bo, m, d, q.num, q.den, h1, h2.at L (by omega), h3.at L (by omega), (Rat.mkRat_self q).symm⟩
/-- Nothing: the zero value. -/
theorem RatAt.nil (w : World) (L : Nat) : RatAt w (.agg #[.bool false, .slice none 0 0, .slice none 0 0]) 0 L := by
  have h0 : NatAt w (.slice none 0 0) 0 L := ⟨0, fun _ => 0, Nums.nil _ _ _, fun i hi => by omega, rfl, by omega⟩
  have h1 : IntAt w (.agg #[.bool false, .slice none 0 0]) 0 L := IntAt.mk h0
  have := RatAt.mk h1 h0
  simpa using this

/-- The form of a fraction. -/
theorem mkRat_low (z : Int) (x : Nat) (hx : 0 < x) : (mkRat z x).num = z.fdiv ((Nat.gcd z.natAbs x : Nat) : Int) ∧ (mkRat z x).den = x / Nat.gcd z.natAbs x := by
  rw [Rat.num_mkRat, Rat.den_mkRat, if_neg (by omega), if_neg (by omega), Nat.gcd_comm x]
  refine ⟨?_, rfl⟩
  have hg : 0 < Nat.gcd z.natAbs x := Nat.gcd_pos_of_pos_right _ hx
  rw [Int.fdiv_eq_ediv_of_nonneg _ (by omega)]
theorem nl_num_mkRat (z : Int) (x L : Nat) (h1 : nl W32 z.natAbs ≤ L) (h2 : nl W32 x ≤ L) (hL : 1 ≤ L) : qsz (mkRat z x) ≤ L := by
  unfold qsz
  have hn : (mkRat z x).num.natAbs ≤ z.natAbs := by
    rw [Rat.num_mkRat]
    split
    · simp
    · exact Int.natAbs_ediv_le_natAbs _ _
  have hd : (mkRat z x).den ≤ max 1 x := by
    rw [Rat.den_mkRat]
    split
    · omega
    · exact Nat.le_trans (Nat.div_le_self _ _) (Nat.le_max_right _ _)
  have e1 := Nat.le_trans (nl_mono W32 _ _ (by decide) hn) h1
  have e2 := nl_mono W32 _ _ (by decide) hd
  have e3 : nl W32 (max 1 x) ≤ L := by
    rcases Nat.le_total 1 x with h | h
    · rw [Nat.max_eq_right h]; exact h2
    · rw [Nat.max_eq_left h]; exact Nat.le_trans (nl_small7 1 (by omega)) hL
  omega
theorem RatAt.qsz {w : World} {v : Value} {q : Rat} {L : Nat} (h : RatAt w v q L) (hL : 1 ≤ L) : qsz q ≤ L := by
  obtain ⟨p, ao, n, c, bo, m, d, z, x, h1, h2, h3, rfl⟩ := h
  exact nl_num_mkRat z x L h2.nl h3.nl hL

-- nat's functions, of any limbs
theorem ngcd_at (u v : Value) (x y L M : Nat) (w : World) (hu : NatAt w u x L) (hv : NatAt w v y M) (hL : L ≤ 900000) (hM : M ≤ 900000) (ht : Tab w) :
    Calls Tryd.prog 22 #[u, v] w fun e w' => ∃ r, e = .returned r ∧ Rep w' r (Nat.gcd x y) ∧ Below w.heap.size w w' := by
  have hx := hu.nl
  have hy := hv.nl
  obtain ⟨n, f, h1, h2, rfl, h4⟩ := hu
  obtain ⟨m, g, k1, k2, rfl, k4⟩ := hv
  exact gcd_any u v n m f g w h1 k1 h2 k2 (by omega) (by omega) ht
theorem ndiv_at (u v : Value) (x y L M : Nat) (w : World) (hu : NatAt w u x L) (hv : NatAt w v y M) (hL : L ≤ 999999) (hy : 0 < y) :
    Calls Tryd.prog 24 #[u, v] w fun e w' => ∃ q r, e = .returned (.tuple #[q, r, .int .i64 0]) ∧ Rep w' q (x / y) ∧ Rep w' r (x % y) ∧ Below w.heap.size w w' := by
  have hx := hu.nl
  obtain ⟨n, f, h1, h2, rfl, h4⟩ := hu
  obtain ⟨m, g, k1, k2, rfl, k4⟩ := hv
  refine (divMod_of u v n m f g w h1 k1 h2 k2 (by omega) (divide_any _ _ hy (by omega))).mono ?_
  rintro e w1 ⟨q, r, rfl, hq, hr, hb⟩
  exact ⟨q, r, rfl, hq.rep, hr.rep, hb⟩
theorem nadd_at (u v : Value) (x y L M : Nat) (w : World) (hu : NatAt w u x L) (hv : NatAt w v y M) (hL : L ≤ 999999) (hM : M ≤ 999999) :
    Calls Tryd.prog 61 #[u, v] w fun e w' => ∃ r, e = .returned r ∧ Rep w' r (x + y) ∧ Below w.heap.size w w' := by
  obtain ⟨n, f, h1, h2, rfl, h4⟩ := hu
  obtain ⟨m, g, k1, k2, rfl, k4⟩ := hv
  refine (add_any u v n m f g w h1 k1 h2 k2 (by omega) (by omega)).mono ?_
  rintro e w1 ⟨r, rfl, hr, hb⟩
  exact ⟨r, rfl, hr.rep, hb⟩

end Go.Proofs.YtbelnhpjhpoacaaDoor

namespace Go.Proofs.YtbelnhpjhpoacaaDoor
open Go.RowKit
set_option linter.unusedVariables false
set_option linter.unusedSimpArgs false

theorem nzero_at (v : Value) (x L : Nat) (w : World) (hv : NatAt w v x L) : Calls Tryd.prog 25 #[v] w fun e w' => e = .returned (.bool (decide (x = 0))) ∧ w' = w := by
  obtain ⟨n, f, h1, h2, rfl, _⟩ := hv
  have h := zero_any v n f w h1 h2
  rw [num_sz, decide_eq_decide.2 (nl_eq_zero W32 _ (by decide))] at h
  exact h
theorem ncmp_at (u v : Value) (x y L M : Nat) (w : World) (hu : NatAt w u x L) (hv : NatAt w v y M) : Calls Tryd.prog 35 #[u, v] w fun e w' => e = .returned (.int .i64 (cmpI x y)) ∧ Below w.heap.size w w' := by
  obtain ⟨n, f, h1, h2, rfl, _⟩ := hu
  obtain ⟨m, g, k1, k2, rfl, _⟩ := hv
  exact cmp_any u v n m f g w h1 k1 h2 k2
theorem nof_at (k : Nat) (w : World) (hk : k < 18446744073709551616) : Calls Tryd.prog 26 #[.int .u64 (k : Int)] w fun e w' => ∃ r, e = .returned r ∧ Rep w' r k ∧ Below w.heap.size w w' := by
  refine (of_any (k : Int) w (by omega) (by omega)).mono ?_
  rintro e w1 ⟨r, rfl, hr, hb⟩
  rw [Int.toNat_natCast] at hr
  exact ⟨r, rfl, hr.nums, hb⟩
theorem nlw_one : nl W32 1 ≤ 1 := nl_small7 1 (by omega)
theorem cmp_one (x : Nat) : (cmpI (x : Int) ((1 : Nat) : Int) == 0) = decide (x = 1) := by
  unfold cmpI
  rcases (show x < 1 ∨ x = 1 ∨ 1 < x by omega) with h | h | h
  · rw [if_pos (by omega), decide_eq_false (by omega)]; rfl
  · subst h; rfl
  · rw [if_neg (by omega), if_pos (by omega), decide_eq_false (by omega)]; rfl


set_option maxRecDepth 20000 in
set_option maxHeartbeats 400000 in
theorem isOne_at (v : Value) (x L : Nat) (w : World) (hv : NatAt w v x L) :
    Calls Tryd.prog 46 #[v] w fun e w' => e = .returned (.bool (decide (x = 1))) ∧ Below w.heap.size w w' := by
  have BB : Below w.heap.size w w := Below.refl _ _
  go_enter Tryd.func46, Tryd.ntmps46
  go_wp2_with fail
  refine (nof_at 1 _ (by omega)).mono ?_
  rintro e w1 ⟨r, rfl, hr, b1⟩
  replace hv := hv.below b1
  replace BB := BB.trans (b1.mono BB.size)
  clear b1
  go_wp2_with fail
  refine (ncmp_at _ _ _ _ _ 1 _ hv (hr.at 1 nlw_one)).mono ?_
  rintro e w2 ⟨rfl, b2⟩
  replace hv := hv.below b2
  replace hr := hr.below b2
  replace BB := BB.trans (b2.mono BB.size)
  clear b2
  have hq := cmp_one x
  generalize cmpI (x : Int) ((1 : Nat) : Int) = cc at *
  go_wp2
  go_ret
  exact ⟨rfl, BB⟩


theorem RepI.abs {w : World} {p : Bool} {ao : Option Addr} {n c : Nat} {z : Int} (h : RepI w (.agg #[.bool p, .slice ao n c]) z) : Rep w (.slice ao n c) z.natAbs := by
  obtain ⟨ao', c', e, hd⟩ := h
  simp only [Value.agg.injEq, Array.mk.injEq, List.cons.injEq, Value.slice.injEq, and_true] at e
  obtain ⟨_, rfl, rfl, rfl⟩ := e
  exact hd


set_option maxRecDepth 20000 in
set_option maxHeartbeats 1000000 in
theorem divide_at (u v : Value) (z : Int) (x L M : Nat) (w : World) (hu : IntAt w u z L) (hv : NatAt w v x M) (hL : L ≤ 999998) (hx : 0 < x) :
    Calls Tryd.prog 23 #[u, v] w fun e w' => ∃ r s, e = .returned (.tuple #[r, s]) ∧ RepI w' r (z.fdiv (x : Int)) ∧ Rep w' s (z.fmod (x : Int)).natAbs ∧ Below w.heap.size w w' := by
  obtain ⟨p, ao, n, c, rfl⟩ := hu.open
  obtain ⟨bo, m, d, rfl⟩ := hv.open
  have BB : Below w.heap.size w w := Below.refl _ _
  obtain ⟨Wb0, hW0, hS0, hL0, VA⟩ := V2.lay w 33 (.bool p) (.slice ao n c)
  replace hu := hu.below hL0
  replace hv := hv.below hL0
  replace BB := BB.trans (hL0.mono BB.size)
  clear hL0
  obtain ⟨Wb1, hW1, hS1, hL1, VR⟩ := V2.lay Wb0 33 (.bool false) (.slice none 0 0)
  rw [hS0] at VR hS1
  replace hu := hu.below hL1
  replace hv := hv.below hL1
  replace VA := VA.below hL1
  replace BB := BB.trans (hL1.mono BB.size)
  clear hL1
  go_enter Tryd.func23, Tryd.ntmps23
  go_wp2_with fail
  rw [← hW0]
  rw [← hW1]
  clear hW0 hW1 hS0 hS1
  refine (wdivMod_any _ _ _ ((zof false x : Int)) _ _ _ hu (IntAt.mk (p := false) hv) hL (by rw [zof_false]; omega)).mono ?_
  rintro e w1 ⟨vq, vr, rfl, hq, hr, b1⟩
  replace hu := hu.below b1
  replace hv := hv.below b1
  replace VA := VA.below b1
  replace VR := VR.below b1
  replace BB := BB.trans (b1.mono BB.size)
  clear b1
  rw [zof_false] at hq hr
  obtain ⟨pq, aq, nq, cq, rfl⟩ := hq.open
  obtain ⟨pr, ar, nr, cr, rfl⟩ := hr.open
  have hZ1 : w.heap.size ≤ w1.heap.size := BB.size
  have hN1VA : w.heap.size < w1.heap.size := VA.lt
  have hN1VR : w.heap.size + 1 < w1.heap.size := VR.lt
  obtain ⟨W2, hW2, hS2, hL2, VQ⟩ := V2.lay w1 33 (.bool pq) (.slice aq nq cq)
  replace hu := hu.below hL2
  replace hv := hv.below hL2
  replace hq := hq.below hL2
  replace hr := hr.below hL2
  replace VA := VA.below hL2
  replace VR := VR.below hL2
  replace BB := BB.trans (hL2.mono BB.size)
  clear hL2
  obtain ⟨W3, hW3, hS3, hL3, VS⟩ := V2.lay W2 33 (.bool pr) (.slice ar nr cr)
  replace hu := hu.below hL3
  replace hv := hv.below hL3
  replace hq := hq.below hL3
  replace hr := hr.below hL3
  replace VA := VA.below hL3
  replace VR := VR.below hL3
  replace VQ := VQ.below hL3
  replace BB := BB.trans (hL3.mono BB.size)
  clear hL3
  rw [hS2] at VS
  go_wp2
  rw [← hW2]
  rw [← hW3]
  generalize w1.heap.size = R1 at *
  clear hW2 hS2 hW3 hS3
  have hDr : Below W3.heap.size W3 W3.drew := (Below.refl _ _).drew
  replace hu := hu.below hDr
  replace hv := hv.below hDr
  replace hq := hq.below hDr
  replace hr := hr.below hDr
  replace VA := VA.below hDr
  replace VR := VR.below hDr
  replace VQ := VQ.below hDr
  replace VS := VS.below hDr
  replace BB := BB.trans (hDr.mono BB.size)
  clear hDr
  refine wp_region_held_drew (S := (fun w' => w'.cell? ⟨R1, 0, none⟩ = some (.bool pq) ∧ w'.cell? ⟨R1, 1, none⟩ = some (.slice aq nq cq) ∧ w'.cell? ⟨R1 + 1, 0, none⟩ = some (.bool pr) ∧ w'.cell? ⟨R1 + 1, 1, none⟩ = some (.slice ar nr cr))) (by kernel_rfl) ?_ (fun hHeld => ?_)
  · exact ⟨VQ.1, VQ.2.1, VS.1, VS.2.1⟩
  generalize W3.drew = W4 at *
  refine wpAnyH_take (i := 0) (v := ?_) (by simp only [List.getElem?_toArray, List.getElem?_cons_succ, List.getElem?_cons_zero]; rfl) (by kernel_rfl) (by kernel_rfl) (by kernel_rfl) (by exact fun _ _ _ h => h) (Or.inl ⟨by rfl, ?_⟩) (by assumption) ?_
  rotate_left
  · (intro w hSw; (try dsimp only at hSw); go_simp; (try with_reducible rfl))
  (try simp only [Act.put, List.setIfInBounds_toArray, List.set_cons_zero, List.set_cons_succ])
  refine wpAnyH_take (i := 1) (v := ?_) (by simp only [List.getElem?_toArray, List.getElem?_cons_succ, List.getElem?_cons_zero]; rfl) (by kernel_rfl) (by kernel_rfl) (by kernel_rfl) (by exact fun _ _ _ h => h) (Or.inl ⟨by rfl, ?_⟩) (by assumption) ?_
  rotate_left
  · (intro w hSw; (try dsimp only at hSw); go_simp; (try with_reducible rfl))
  (try simp only [Act.put, List.setIfInBounds_toArray, List.set_cons_zero, List.set_cons_succ])
  refine wpAnyH_take (i := 2) (v := ?_) (by simp only [List.getElem?_toArray, List.getElem?_cons_succ, List.getElem?_cons_zero]; rfl) (by kernel_rfl) (by kernel_rfl) (by kernel_rfl) (by exact fun _ _ _ h => h) (Or.inl ⟨by rfl, ?_⟩) (by assumption) ?_
  rotate_left
  · (intro w hSw; (try dsimp only at hSw); go_simp; (try with_reducible rfl))
  (try simp only [Act.put, List.setIfInBounds_toArray, List.set_cons_zero, List.set_cons_succ])
  refine wpAnyH_ready (rs := [3]) (by kernel_rfl) (by simp) ?_
  refine AllReadyH.cons (by simp only [List.getElem?_toArray, List.getElem?_cons_succ, List.getElem?_cons_zero]; rfl) (fun K hK => ?_) AllReadyH.nil
  have hKp := VR.keepJ (.bool pq) (.slice aq nq cq)
  have VA_n := VA.other (R := w.heap.size + 1) (by omega) (.bool pq) (.slice aq nq cq)
  have VQ_n := VQ.other (R := w.heap.size + 1) (by omega) (.bool pq) (.slice aq nq cq)
  have VS_n := VS.other (R := w.heap.size + 1) (by omega) (.bool pq) (.slice aq nq cq)
  have VR_n := VR.same (.bool pq) (.slice aq nq cq)
  have hu_n := hu.keep hKp
  have hv_n := hv.keep hKp
  have hq_n := hq.keep hKp
  have hr_n := hr.keep hKp
  have BB_n := below_store2 (R := w.heap.size + 1) BB (by omega) (.bool pq) (.slice aq nq cq)
  clear hKp
  obtain ⟨VR_0, VR_1, VR_2, VR_3⟩ := id VR
  go_simp
  clear VR_0 VR_1 VR_2 VR_3
  clear BB hu hv hq hr VA VR VQ VS
  generalize (W4.setCell ⟨w.heap.size + 1, 0, none⟩ (.bool pq)).setCell ⟨w.heap.size + 1, 1, none⟩ (.slice aq nq cq) = W5 at *
  have BB := BB_n
  have hu := hu_n
  have hv := hv_n
  have hq := hq_n
  have hr := hr_n
  have VA := VA_n
  have VR := VR_n
  have VQ := VQ_n
  have VS := VS_n
  clear BB_n hu_n hv_n hq_n hr_n VA_n VR_n VQ_n VS_n
  refine hK.out _ _ ?_ (fun hH1 => ?_)
  · exact ⟨VQ.1, VQ.2.1, VS.1, VS.2.1⟩
  clear hK K hHeld
  (try simp only [Act.put, List.setIfInBounds_toArray, List.set_cons_zero, List.set_cons_succ])
  refine wpAnyH_take (i := 4) (v := ?_) (by simp only [List.getElem?_toArray, List.getElem?_cons_succ, List.getElem?_cons_zero]; rfl) (by kernel_rfl) (by kernel_rfl) (by kernel_rfl) (by exact fun _ _ _ h => h) (Or.inl ⟨by rfl, ?_⟩) (by assumption) ?_
  rotate_left
  · (intro w hSw; (try dsimp only at hSw); go_simp; (try with_reducible rfl))
  (try simp only [Act.put, List.setIfInBounds_toArray, List.set_cons_zero, List.set_cons_succ])
  refine wpAnyH_done (by kernel_rfl) ?_ _
  clear hH1
  obtain ⟨q1, q2, q3, q4⟩ := id VR
  go_wp2
  (try simp only [Exit.inBlock, Exit.then])
  refine bodyPost_ret (v := .tuple #[.agg #[.bool pq, .slice aq nq cq], .slice ar nr cr]) (by simp [results, go_sem, q1, q2]) rfl ?_
  exact ⟨_, _, rfl, hq, hr.abs, BB⟩


set_option maxRecDepth 20000 in
set_option maxHeartbeats 2000000 in
theorem lowest_at (u v : Value) (z : Int) (x L M : Nat) (w : World) (hu : IntAt w u z L) (hv : NatAt w v x M) (hL : L ≤ 900000) (hM : M ≤ 900000) (hx : 0 < x) (ht : Tab w) :
    Calls Tryd.prog 15 #[u, v] w fun e w' => ∃ r, e = .returned r ∧ RepQ w' r (mkRat z x) ∧ Below w.heap.size w w' := by
  obtain ⟨p, ao, n, c, rfl⟩ := hu.open
  obtain ⟨bo, m, d, rfl⟩ := hv.open
  have hgp : 0 < Nat.gcd z.natAbs x := Nat.gcd_pos_of_pos_right _ hx
  have hgl : nl W32 (Nat.gcd z.natAbs x) ≤ M := Nat.le_trans (nl_mono W32 _ _ (by decide) (Nat.gcd_le_right _ hx)) hv.nl
  have HQ : Hid ((mkRat z x).num = z.fdiv ((Nat.gcd z.natAbs x : Nat) : Int) ∧ (mkRat z x).den = x / Nat.gcd z.natAbs x) := mkRat_low z x hx
  have BB : Below w.heap.size w w := Below.refl _ _
  obtain ⟨Wb0, hW0, hS0, hL0, VA⟩ := V2.lay w 33 (.bool p) (.slice ao n c)
  replace hu := hu.below hL0
  replace hv := hv.below hL0
  replace ht := ht.below hL0
  replace BB := BB.trans (hL0.mono BB.size)
  clear hL0
  obtain ⟨Wb1, hW1, hS1, hL1, VR⟩ := V3.lay Wb0 35 (.bool false) (.slice none 0 0) (.slice none 0 0)
  rw [hS0] at VR hS1
  replace hu := hu.below hL1
  replace hv := hv.below hL1
  replace ht := ht.below hL1
  replace VA := VA.below hL1
  replace BB := BB.trans (hL1.mono BB.size)
  clear hL1
  go_enter Tryd.func15, Tryd.ntmps15
  go_wp2_with fail
  rw [← hW0]
  rw [← hW1]
  clear hW0 hW1 hS0 hS1
  refine (ngcd_at _ _ _ _ _ _ _ hu.abs hv (by omega) (by omega) ht).mono ?_
  rintro e w1 ⟨g, rfl, hg, b1⟩
  replace hu := hu.below b1
  replace hv := hv.below b1
  replace ht := ht.below b1
  replace VA := VA.below b1
  replace VR := VR.below b1
  replace BB := BB.trans (b1.mono BB.size)
  clear b1
  generalize Nat.gcd z.natAbs x = G at *
  obtain ⟨VA_0, VA_1, VA_2, VA_3⟩ := id VA
  go_wp2_with fail
  clear VA_0 VA_1 VA_2 VA_3
  refine (divide_at _ _ _ _ _ M _ hu (hg.at M hgl) (by omega) hgp).mono ?_
  rintro e w2 ⟨vn, vs, rfl, hn, hs, b2⟩
  replace hu := hu.below b2
  replace hv := hv.below b2
  replace ht := ht.below b2
  replace hg := hg.below b2
  replace VA := VA.below b2
  replace VR := VR.below b2
  replace BB := BB.trans (b2.mono BB.size)
  clear b2
  obtain ⟨pn, an, nn, cn, rfl⟩ := hn.open
  obtain ⟨av, ns, cs, rfl⟩ := hs.open
  have hZ1 : w.heap.size ≤ w2.heap.size := BB.size
  have hN1VA : w.heap.size ≠ w2.heap.size := Nat.ne_of_lt VA.lt
  have hN1VR : w.heap.size + 1 ≠ w2.heap.size := Nat.ne_of_lt VR.lt
  obtain ⟨W1, hW1, hS1, hL1, VN⟩ := V2.lay w2 33 (.bool pn) (.slice an nn cn)
  replace hu := hu.below hL1
  replace hv := hv.below hL1
  replace ht := ht.below hL1
  replace hg := hg.below hL1
  replace hn := hn.below hL1
  replace hs := hs.below hL1
  replace VA := VA.below hL1
  replace VR := VR.below hL1
  replace BB := BB.trans (hL1.mono BB.size)
  clear hL1
  go_wp2_with fail
  rw [← hW1]
  generalize w2.heap.size = R1 at *
  clear hW1 hS1
  refine (ndiv_at _ _ _ _ _ M _ hv (hg.at M hgl) (by omega) hgp).mono ?_
  rintro e w3 ⟨vd, vx, rfl, hd, hxx, b3⟩
  replace hu := hu.below b3
  replace hv := hv.below b3
  replace ht := ht.below b3
  replace hg := hg.below b3
  replace hn := hn.below b3
  replace hs := hs.below b3
  replace VA := VA.below b3
  replace VR := VR.below b3
  replace VN := VN.below b3
  replace BB := BB.trans (b3.mono BB.size)
  clear b3
  obtain ⟨ad, nd, cd, rfl⟩ := hd.open
  have hKp := VR.keepJ (.bool pn) (.slice an nn cn) (.slice ad nd cd)
  have hu_n := hu.keep hKp
  have hv_n := hv.keep hKp
  have ht_n := ht.keep hKp
  have hg_n := hg.keep hKp
  have hn_n := hn.keep hKp
  have hs_n := hs.keep hKp
  have hd_n := hd.keep hKp
  have BB_n := below_store3 (R := w.heap.size + 1) BB (by omega) (.bool pn) (.slice an nn cn) (.slice ad nd cd)
  clear hKp
  obtain ⟨VN_0, VN_1, VN_2, VN_3⟩ := id VN
  obtain ⟨q1, q2, q3, q4, q5, q6⟩ := id VR
  go_wp2
  (try simp only [Exit.inBlock, Exit.then])
  refine bodyPost_ret (v := .agg #[.bool pn, .slice an nn cn, .slice ad nd cd]) (by simp [results, go_sem, q1, q2, q3]) rfl ?_
  exact ⟨_, rfl, RepQ.mk (by rw [HQ.out.1]; exact hn_n) (by rw [HQ.out.2]; exact hd_n), BB_n⟩


/-- What parts answers. -/
def PartOut (q : Rat) (L : Nat) (w : World) (e : Ending) (w' : World) : Prop :=
  ∃ u s z x, e = .returned (.tuple #[u, s]) ∧ IntAt w' u z L ∧ NatAt w' s x L ∧ 0 < x ∧ q = mkRat z x ∧ Below w.heap.size w w'


set_option maxRecDepth 20000 in
set_option maxHeartbeats 1000000 in
theorem parts_at (v : Value) (q : Rat) (L : Nat) (w : World) (hv : RatAt w v q L) (hL : 1 ≤ L) :
    Calls Tryd.prog 16 #[v] w fun e w' => PartOut q L w e w' := by
  obtain ⟨p, ao, n, c, bo, m, d, rfl⟩ := hv.open
  obtain ⟨z, x, hz, hx, hq⟩ := hv.parts
  have HQ : Hid (q = mkRat z x) := hq
  clear hq hv
  have BB : Below w.heap.size w w := Below.refl _ _
  obtain ⟨Wb0, hW0, hS0, hL0, VA⟩ := V3.lay w 35 (.bool p) (.slice ao n c) (.slice bo m d)
  replace hz := hz.below hL0
  replace hx := hx.below hL0
  replace BB := BB.trans (hL0.mono BB.size)
  clear hL0
  obtain ⟨Wb1, hW1, hS1, hL1, VR⟩ := V2.lay Wb0 33 (.bool false) (.slice none 0 0)
  rw [hS0] at VR hS1
  replace hz := hz.below hL1
  replace hx := hx.below hL1
  replace VA := VA.below hL1
  replace BB := BB.trans (hL1.mono BB.size)
  clear hL1
  go_enter Tryd.func16, Tryd.ntmps16
  go_wp2_with fail
  rw [← hW0]
  rw [← hW1]
  clear hW0 hW1 hS0 hS1
  refine (nzero_at _ _ _ _ hx).mono ?_
  rintro e wx ⟨rfl, hwx⟩
  replace hwx := hwx.symm
  subst hwx
  by_cases h0 : x = 0
  · rw [decide_eq_true h0]
    go_wp2_with fail
    refine (nof_at 1 _ (by omega)).mono ?_
    rintro e w1 ⟨r, rfl, hr, b1⟩
    replace hz := hz.below b1
    replace hx := hx.below b1
    replace VA := VA.below b1
    replace VR := VR.below b1
    replace BB := BB.trans (b1.mono BB.size)
    clear b1
    obtain ⟨ar, nr, cr, rfl⟩ := hr.open
    have hKp := VR.keepJ (.bool false) (.slice none 0 0)
    have hz_n := hz.keep hKp
    have hx_n := hx.keep hKp
    have hr_n := hr.keep hKp
    have BB_n := below_store2 (R := w.heap.size + 1) BB (by omega) (.bool false) (.slice none 0 0)
    clear hKp
    obtain ⟨q1, q2, q3, q4⟩ := id VR
    go_wp2
    (try simp only [Exit.inBlock, Exit.then])
    refine bodyPost_ret (v := .tuple #[.agg #[.bool false, .slice none 0 0], .slice ar nr cr]) (by simp [results, go_sem, q1, q2]) rfl ?_
    refine ⟨_, _, 0, 1, rfl, ?_, hr_n.at L (Nat.le_trans nlw_one hL), by omega, ?_, BB_n⟩
    · exact IntAt.mk (p := false) (x := 0) ⟨0, fun _ => 0, Nums.nil _ _ _, fun i hi => by omega, rfl, by omega⟩
    · rw [HQ.out, h0]; simp
  · rw [decide_eq_false h0]
    go_wp2
    have hDr : Below Wb1.heap.size Wb1 Wb1.drew := (Below.refl _ _).drew
    replace hz := hz.below hDr
    replace hx := hx.below hDr
    replace VA := VA.below hDr
    replace VR := VR.below hDr
    replace BB := BB.trans (hDr.mono BB.size)
    clear hDr
    refine wp_region_held_drew (S := (fun w' => w'.cell? ⟨w.heap.size, 0, none⟩ = some (.bool p) ∧ w'.cell? ⟨w.heap.size, 1, none⟩ = some (.slice ao n c) ∧ w'.cell? ⟨w.heap.size, 2, none⟩ = some (.slice bo m d))) (by kernel_rfl) ?_ (fun hHeld => ?_)
    · exact ⟨VA.1, VA.2.1, VA.2.2.1⟩
    generalize Wb1.drew = W1 at *
    refine wpAnyH_take (i := 0) (v := ?_) (by simp only [List.getElem?_toArray, List.getElem?_cons_succ, List.getElem?_cons_zero]; rfl) (by kernel_rfl) (by kernel_rfl) (by kernel_rfl) (by exact fun _ _ _ h => h) (Or.inl ⟨by rfl, ?_⟩) (by assumption) ?_
    rotate_left
    · (intro w hSw; (try dsimp only at hSw); go_simp; (try with_reducible rfl))
    (try simp only [Act.put, List.setIfInBounds_toArray, List.set_cons_zero, List.set_cons_succ])
    refine wpAnyH_take (i := 1) (v := ?_) (by simp only [List.getElem?_toArray, List.getElem?_cons_succ, List.getElem?_cons_zero]; rfl) (by kernel_rfl) (by kernel_rfl) (by kernel_rfl) (by exact fun _ _ _ h => h) (Or.inl ⟨by rfl, ?_⟩) (by assumption) ?_
    rotate_left
    · (intro w hSw; (try dsimp only at hSw); go_simp; (try with_reducible rfl))
    (try simp only [Act.put, List.setIfInBounds_toArray, List.set_cons_zero, List.set_cons_succ])
    refine wpAnyH_take (i := 2) (v := ?_) (by simp only [List.getElem?_toArray, List.getElem?_cons_succ, List.getElem?_cons_zero]; rfl) (by kernel_rfl) (by kernel_rfl) (by kernel_rfl) (by exact fun _ _ _ h => h) (Or.inl ⟨by rfl, ?_⟩) (by assumption) ?_
    rotate_left
    · (intro w hSw; (try dsimp only at hSw); go_simp; (try with_reducible rfl))
    (try simp only [Act.put, List.setIfInBounds_toArray, List.set_cons_zero, List.set_cons_succ])
    refine wpAnyH_take (i := 3) (v := ?_) (by simp only [List.getElem?_toArray, List.getElem?_cons_succ, List.getElem?_cons_zero]; rfl) (by kernel_rfl) (by kernel_rfl) (by kernel_rfl) (by exact fun _ _ _ h => h) (Or.inl ⟨by rfl, ?_⟩) (by assumption) ?_
    rotate_left
    · (intro w hSw; (try dsimp only at hSw); go_simp; (try with_reducible rfl))
    (try simp only [Act.put, List.setIfInBounds_toArray, List.set_cons_zero, List.set_cons_succ])
    refine wpAnyH_ready (rs := [4]) (by kernel_rfl) (by simp) ?_
    refine AllReadyH.cons (by simp only [List.getElem?_toArray, List.getElem?_cons_succ, List.getElem?_cons_zero]; rfl) (fun K hK => ?_) AllReadyH.nil
    have hKp := VR.keepJ (.bool p) (.slice ao n c)
    have VA_n := VA.other2 (R := w.heap.size + 1) (by omega) (.bool p) (.slice ao n c)
    have VR_n := VR.same (.bool p) (.slice ao n c)
    have hz_n := hz.keep hKp
    have hx_n := hx.keep hKp
    have BB_n := below_store2 (R := w.heap.size + 1) BB (by omega) (.bool p) (.slice ao n c)
    clear hKp
    obtain ⟨VR_0, VR_1, VR_2, VR_3⟩ := id VR
    go_simp
    clear VR_0 VR_1 VR_2 VR_3
    clear BB hz hx VA VR
    generalize (W1.setCell ⟨w.heap.size + 1, 0, none⟩ (.bool p)).setCell ⟨w.heap.size + 1, 1, none⟩ (.slice ao n c) = W2 at *
    have BB := BB_n
    have hz := hz_n
    have hx := hx_n
    have VA := VA_n
    have VR := VR_n
    clear BB_n hz_n hx_n VA_n VR_n
    refine hK.out _ _ ?_ (fun hH1 => ?_)
    · exact ⟨VA.1, VA.2.1, VA.2.2.1⟩
    clear hK K hHeld
    (try simp only [Act.put, List.setIfInBounds_toArray, List.set_cons_zero, List.set_cons_succ])
    refine wpAnyH_take (i := 5) (v := ?_) (by simp only [List.getElem?_toArray, List.getElem?_cons_succ, List.getElem?_cons_zero]; rfl) (by kernel_rfl) (by kernel_rfl) (by kernel_rfl) (by exact fun _ _ _ h => h) (Or.inl ⟨by rfl, ?_⟩) (by assumption) ?_
    rotate_left
    · (intro w hSw; (try dsimp only at hSw); go_simp; (try with_reducible rfl))
    (try simp only [Act.put, List.setIfInBounds_toArray, List.set_cons_zero, List.set_cons_succ])
    refine wpAnyH_done (by kernel_rfl) ?_ _
    clear hH1
    obtain ⟨q1, q2, q3, q4⟩ := id VR
    go_wp2
    (try simp only [Exit.inBlock, Exit.then])
    refine bodyPost_ret (v := .tuple #[.agg #[.bool p, .slice ao n c], .slice bo m d]) (by simp [results, go_sem, q1, q2]) rfl ?_
    exact ⟨_, _, z, x, rfl, hz, hx, by omega, HQ.out, BB⟩

end Go.Proofs.YtbelnhpjhpoacaaDoor

namespace Go.Proofs.YtbelnhpjhpoacaaDoor
open Go.RowKit
set_option linter.unusedVariables false

/-- How two numbers stand. -/
def cmpQ (a b : Rat) : Int := if a < b then -1 else if b < a then 1 else 0
theorem ratc_pos (x : Nat) (h : 0 < x) : (0 : Rat) < (x : Rat) := Rat.natCast_pos.2 h
theorem mkRat_mul_den (z : Int) (x : Nat) (h : 0 < x) : mkRat z x * (x : Rat) = (z : Rat) := by
  rw [Rat.mkRat_eq_div]
  exact Rat.div_mul_cancel (by have := ratc_pos x h; intro e; rw [e] at this; exact Rat.lt_irrefl this)
theorem mkRat_lt (z t : Int) (x y : Nat) (hx : 0 < x) (hy : 0 < y) : mkRat z x < mkRat t y ↔ z * (y : Int) < t * (x : Int) := by
  rw [Rat.mkRat_eq_div, Rat.mkRat_eq_div, Rat.div_lt_iff (ratc_pos x hx), Rat.div_def, Rat.mul_assoc, Rat.mul_comm _ (x : Rat), ← Rat.mul_assoc, ← Rat.div_def, Rat.lt_div_iff (ratc_pos y hy)]
  rw [show ((z : Rat) * (y : Rat)) = ((z * (y : Int) : Int) : Rat) by rw [Rat.intCast_mul, Rat.intCast_natCast], show ((t : Rat) * (x : Rat)) = ((t * (x : Int) : Int) : Rat) by rw [Rat.intCast_mul, Rat.intCast_natCast]]
  exact Rat.intCast_lt_intCast
theorem cmp_mkRat (z t : Int) (x y : Nat) (hx : 0 < x) (hy : 0 < y) : cmpI (z * (y : Int)) (t * (x : Int)) = cmpQ (mkRat z x) (mkRat t y) := by
  unfold cmpI cmpQ
  simp only [mkRat_lt z t x y hx hy, mkRat_lt t z y x hy hx]
theorem cmpQ_zero (a b : Rat) : (cmpQ a b == 0) = decide (a = b) := by
  unfold cmpQ
  by_cases h1 : a < b
  · rw [if_pos h1, decide_eq_false (Rat.ne_of_lt h1)]; rfl
  · rw [if_neg h1]
    by_cases h2 : b < a
    · rw [if_pos h2, decide_eq_false (Rat.ne_of_lt h2).symm]; rfl
    · rw [if_neg h2, decide_eq_true (Rat.le_antisymm (Rat.not_lt.1 h2) (Rat.not_lt.1 h1))]; rfl
theorem cmpQ_pos (a b : Rat) : decide (0 < cmpQ a b) = decide (b < a) := by
  unfold cmpQ
  by_cases h1 : a < b
  · rw [if_pos h1, decide_eq_false (p := b < a) (Rat.not_lt.2 (Rat.le_of_lt h1))]; rfl
  · rw [if_neg h1]
    by_cases h2 : b < a
    · rw [if_pos h2, decide_eq_true h2]; rfl
    · rw [if_neg h2, decide_eq_false h2]; rfl
theorem cmpQ_self (a : Rat) : cmpQ a a = 0 := by unfold cmpQ; rw [if_neg Rat.lt_irrefl, if_neg Rat.lt_irrefl]
theorem cmpI_sign (z : Int) (x : Nat) (hx : 0 < x) : cmpI z 0 = cmpQ (mkRat z x) 0 := by
  have h := cmp_mkRat z 0 x 1 hx (by omega)
  rw [show mkRat 0 1 = (0 : Rat) by simp] at h
  simpa using h
theorem zof_bne (p q : Bool) (X Y : Nat) (hY : 0 < Y) : mkRat (zof (!(p == q)) X) Y = ((zof p X : Int) : Rat) / ((zof q Y : Int) : Rat) := by
  rw [← Rat.divInt_eq_div]
  cases q with
  | false =>
    have e : zof (!(p == false)) X = zof p X := by cases p <;> rfl
    rw [e, zof_false, Rat.divInt_ofNat]
  | true =>
    have e : zof (!(p == true)) X = -zof p X := by cases p <;> simp [zof]
    rw [e, zof_true, Rat.divInt_neg', Rat.divInt_ofNat]
theorem floor_mkRat (z : Int) (x : Nat) (hx : 0 < x) : (mkRat z x).floor = z.fdiv (x : Int) := by
  rw [Int.fdiv_eq_ediv_of_nonneg _ (by omega)]
  refine Int.le_antisymm ?_ ?_
  · rw [Int.le_ediv_iff_mul_le (by omega)]
    have h := Rat.floor_le (mkRat z x)
    have h2 := Rat.mul_le_mul_of_nonneg_right h (Rat.le_of_lt (ratc_pos x hx))
    rw [mkRat_mul_den z x hx, ← Rat.intCast_natCast, ← Rat.intCast_mul] at h2
    exact Rat.intCast_le_intCast.1 h2
  · rw [Rat.le_floor_iff]
    have h : z / (x : Int) * (x : Int) ≤ z := Int.ediv_mul_le _ (by omega)
    have h2 : ((z / (x : Int) : Int) : Rat) * (x : Rat) ≤ mkRat z x * (x : Rat) := by
      rw [mkRat_mul_den z x hx, ← Rat.intCast_natCast, ← Rat.intCast_mul]
      exact Rat.intCast_le_intCast.2 h
    exact Rat.le_of_mul_le_mul_right h2 (ratc_pos x hx)
theorem add_mkRat (z t : Int) (x y : Nat) (hx : 0 < x) (hy : 0 < y) : mkRat (z * (y : Int) + t * (x : Int)) (x * y) = mkRat z x + mkRat t y := (Rat.mkRat_add_mkRat z t (by omega) (by omega)).symm
theorem add_mkRat_same (z t : Int) (x : Nat) (hx : 0 < x) : mkRat (z + t) x = mkRat z x + mkRat t x := by
  have hx' : (x : Rat) ≠ 0 := fun e => by have := ratc_pos x hx; rw [e] at this; exact Rat.lt_irrefl this
  rw [Rat.mkRat_eq_div, Rat.mkRat_eq_div, Rat.mkRat_eq_div, Rat.intCast_add]
  grind
theorem qsz_pos (q : Rat) : 1 ≤ qsz q := by
  unfold qsz
  have h : nl W32 q.den ≠ 0 := fun e => q.den_nz ((nl_eq_zero W32 _ (by decide)).1 e)
  omega
theorem qsz_num (q : Rat) : nl W32 q.num.natAbs ≤ qsz q := Nat.le_max_left _ _
theorem qsz_den (q : Rat) : nl W32 q.den ≤ qsz q := Nat.le_max_right _ _
theorem nln_mul {x y a b : Nat} (hx : nl W32 x ≤ a) (hy : nl W32 y ≤ b) : nl W32 (x * y) ≤ a + b := by
  have h := nlz_mul (x := (x : Int)) (y := (y : Int)) (a := a) (b := b) (c := a + b) (by simpa using hx) (by simpa using hy) (Nat.le_refl _)
  rw [← Int.natCast_mul, Int.natAbs_natCast] at h; exact h
theorem qsz_add (a b : Rat) {L M : Nat} (h1 : qsz a ≤ L) (h2 : qsz b ≤ M) : qsz (a + b) ≤ L + M + 1 := by
  have e : a + b = mkRat (a.num * (b.den : Int) + b.num * (a.den : Int)) (a.den * b.den) := by
    rw [add_mkRat _ _ _ _ (Nat.pos_of_ne_zero a.den_nz) (Nat.pos_of_ne_zero b.den_nz), Rat.mkRat_self, Rat.mkRat_self]
  rw [e]
  have ha := qsz_num a
  have hb := qsz_num b
  have hc := qsz_den a
  have hd := qsz_den b
  refine nl_num_mkRat _ _ _ ?_ ?_ (by omega)
  · refine nlz_add (nlz_mul (a := L) (b := M) (by omega) (by simp; omega) (Nat.le_refl _)) (nlz_mul (a := M) (b := L) (by omega) (by simp; omega) (Nat.le_refl _)) (by omega) (by omega)
  · exact Nat.le_trans (nln_mul (a := L) (b := M) (by omega) (by omega)) (by omega)
theorem qsz_mul (a b : Rat) {L M : Nat} (h1 : qsz a ≤ L) (h2 : qsz b ≤ M) : qsz (a * b) ≤ L + M := by
  have e : a * b = mkRat (a.num * b.num) (a.den * b.den) := by
    rw [← Rat.mkRat_mul_mkRat, Rat.mkRat_self, Rat.mkRat_self]
  rw [e]
  have ha := qsz_num a
  have hb := qsz_num b
  have hc := qsz_den a
  have hd := qsz_den b
  have hp := qsz_pos a
  exact nl_num_mkRat _ _ _ (nlz_mul (a := L) (b := M) (by omega) (by omega) (Nat.le_refl _)) (nln_mul (by omega) (by omega)) (by omega)
theorem qsz_neg (a : Rat) : qsz (-a) = qsz a := by
  show max (nl W32 (-a.num).natAbs) (nl W32 a.den) = _
  rw [Int.natAbs_neg]; rfl
theorem qsz_sub (a b : Rat) {L M : Nat} (h1 : qsz a ≤ L) (h2 : qsz b ≤ M) : qsz (a - b) ≤ L + M + 1 := by
  rw [Rat.sub_eq_add_neg]; exact qsz_add a (-b) h1 (by rw [qsz_neg]; exact h2)
theorem qsz_inv (a : Rat) {L : Nat} (h1 : qsz a ≤ L) : qsz a⁻¹ ≤ L := by
  have ha := qsz_num a
  have hc := qsz_den a
  have hp := qsz_pos a
  unfold qsz
  rw [Rat.num_inv, Rat.den_inv]
  have e1 : nl W32 (a.num.sign * (a.den : Int)).natAbs ≤ L := by
    rw [Int.natAbs_mul, Int.natAbs_natCast]
    refine Nat.le_trans (nl_mono W32 _ _ (by decide) (?_ : _ ≤ a.den)) (by omega)
    have : a.num.sign.natAbs ≤ 1 := by
      rcases Int.lt_trichotomy a.num 0 with h | h | h
      · rw [Int.sign_eq_neg_one_of_neg h]; decide
      · rw [h]; decide
      · rw [Int.sign_eq_one_of_pos h]; decide
    exact Nat.le_trans (Nat.mul_le_mul_right _ this) (by omega)
  have e2 : nl W32 (if a.num = 0 then 1 else a.num.natAbs) ≤ L := by
    split
    · exact Nat.le_trans nlw_one (by omega)
    · omega
  omega
theorem qsz_div (a b : Rat) {L M : Nat} (h1 : qsz a ≤ L) (h2 : qsz b ≤ M) : qsz (a / b) ≤ L + M := by
  rw [Rat.div_def]; exact qsz_mul _ _ h1 (qsz_inv b h2)
theorem qsz_int (z : Int) {L : Nat} (h : nl W32 z.natAbs ≤ L) (hL : 1 ≤ L) : qsz (z : Rat) ≤ L := by
  unfold qsz
  show max (nl W32 z.natAbs) (nl W32 1) ≤ L
  have := nlw_one
  omega

end Go.Proofs.YtbelnhpjhpoacaaDoor

namespace Go.Proofs.YtbelnhpjhpoacaaDoor
set_option linter.unusedVariables false
set_option linter.unusedSimpArgs false

structure Nd where
  leaf : Bool
  feat : Int
  cut : Rat
  left : Int
  right : Int
  miss : Bool
  val : Rat
  cov : Rat
/-- The first place of which p holds. -/
def fb (p : Nat → Bool) (n : Nat) : Option Nat := (List.range n).find? p
theorem fb_some {p : Nat → Bool} {n i : Nat} (hi : i < n) (h : ∀ j, j < i → p j = false) (hp : p i = true) : fb p n = some i := by
  unfold fb
  rw [List.find?_range_eq_some]
  exact ⟨hp, List.mem_range.2 hi, fun j hj => by simp [h j hj]⟩
theorem fb_none {p : Nat → Bool} {n : Nat} (h : ∀ j, j < n → p j = false) : fb p n = none := by
  unfold fb
  rw [List.find?_range_eq_none]
  intro i hi
  simp [h i hi]
theorem fb_congr {p q : Nat → Bool} {n : Nat} (h : ∀ j, j < n → p j = q j) : fb p n = fb q n := by
  by_cases e : ∃ i, i < n ∧ p i = true ∧ ∀ j, j < i → p j = false
  · obtain ⟨i, hi, h1, h2⟩ := e
    rw [fb_some hi h2 h1, fb_some hi (fun j hj => by rw [← h j (by omega)]; exact h2 j hj) (by rw [← h i hi]; exact h1)]
  · have h0 : ∀ i, i < n → p i = false := fun i => by
      induction i using Nat.strongRecOn with
      | ind i ih =>
        intro hi
        cases c : p i
        · rfl
        · exact absurd ⟨i, hi, c, fun j hj => ih j hj (by omega)⟩ e
    rw [fb_none h0, fb_none (fun j hj => by rw [← h j hj]; exact h0 j hj)]
theorem fb_is {p : Nat → Bool} {n : Nat} (h : fb p n = none) : ∀ j, j < n → p j = false := by
  unfold fb at h
  rw [List.find?_range_eq_none] at h
  intro j hj
  have := h j hj
  simpa using this
/-- A node stands as a child of another. -/
def kid (t : Nat → Nd) (y x : Nat) : Prop := (t y).leaf = false ∧ ((t y).left = (x : Int) ∨ (t y).right = (x : Int))
def kc (t : Nat → Nd) (x : Nat) (i : Nat) : Nat := (if (t i).leaf = false ∧ (t i).left = (x : Int) then 1 else 0) + (if (t i).leaf = false ∧ (t i).right = (x : Int) then 1 else 0)
def par (t : Nat → Nd) (x : Nat) : Nat → Nat
  | 0 => 0
  | n + 1 => par t x n + kc t x n
theorem kid_kc {t : Nat → Nd} {y x : Nat} (h : kid t y x) : 1 ≤ kc t x y := by
  unfold kc
  rcases h.2 with e | e
  · rw [if_pos ⟨h.1, e⟩]; omega
  · rw [if_pos (c := (t y).leaf = false ∧ (t y).right = (x : Int)) ⟨h.1, e⟩]; omega
theorem kc_kid {t : Nat → Nd} {y x : Nat} (h : 1 ≤ kc t x y) : kid t y x := by
  unfold kc at h
  by_cases e : (t y).leaf = false ∧ (t y).left = (x : Int)
  · exact ⟨e.1, .inl e.2⟩
  · by_cases e2 : (t y).leaf = false ∧ (t y).right = (x : Int)
    · exact ⟨e2.1, .inr e2.2⟩
    · rw [if_neg e, if_neg e2] at h; omega
theorem kc_two {t : Nat → Nd} {y x : Nat} (h : (t y).leaf = false) (h1 : (t y).left = (x : Int)) (h2 : (t y).right = (x : Int)) : kc t x y = 2 := by
  unfold kc
  rw [if_pos ⟨h, h1⟩, if_pos ⟨h, h2⟩]
theorem par_ge {t : Nat → Nd} {x y : Nat} : ∀ n, y < n → kc t x y ≤ par t x n
  | 0, h => by omega
  | n + 1, h => by
    show kc t x y ≤ par t x n + kc t x n
    by_cases e : y = n
    · subst e; omega
    · have := par_ge (t := t) (x := x) n (show y < n by omega); omega
theorem par_ge2 {t : Nat → Nd} {x y z : Nat} : ∀ n, y < n → z < n → y ≠ z → kc t x y + kc t x z ≤ par t x n
  | 0, h, _, _ => by omega
  | n + 1, h, h', hne => by
    show _ ≤ par t x n + kc t x n
    by_cases e : y = n
    · subst e
      have := par_ge (t := t) (x := x) (y := z) y (by omega); omega
    · by_cases e2 : z = n
      · subst e2
        have := par_ge (t := t) (x := x) (y := y) z (by omega); omega
      · have := par_ge2 (t := t) (x := x) n (show y < n by omega) (show z < n by omega) hne; omega
theorem par_pos {t : Nat → Nd} {x : Nat} : ∀ n, 1 ≤ par t x n → ∃ y, y < n ∧ kid t y x
  | 0, h => by simp [par] at h
  | n + 1, h => by
    have h' : 1 ≤ par t x n + kc t x n := h
    by_cases e : 1 ≤ kc t x n
    · exact ⟨n, by omega, kc_kid e⟩
    · obtain ⟨y, hy, k⟩ := par_pos (t := t) (x := x) n (by omega)
      exact ⟨y, by omega, k⟩
/-- Rule 1 of a tree: what its splits name is there. -/
def Named (t : Nat → Nd) (n : Nat) : Prop := ∀ i, i < n → (t i).leaf = false → 1 ≤ (t i).left ∧ (t i).left < (n : Int) ∧ 1 ≤ (t i).right ∧ (t i).right < (n : Int)
/-- Rule 2, first half: each node but the first stands once. -/
def Once (t : Nat → Nd) (n : Nat) : Prop := ∀ i, 1 ≤ i → i < n → par t i n = 1
theorem Once.one {t : Nat → Nd} {n : Nat} (h : Once t n) {x y z : Nat} (hx : 1 ≤ x) (hxn : x < n) (hy : y < n) (hz : z < n) (k1 : kid t y x) (k2 : kid t z x) : y = z := by
  refine Classical.byContradiction (fun e => ?_)
  have := par_ge2 (t := t) (x := x) n hy hz e
  have := kid_kc k1
  have := kid_kc k2
  have := h x hx hxn
  omega
/-- The last split that names a node. -/
def upOf (t : Nat → Nd) (x : Nat) : Nat → Option Nat
  | 0 => none
  | m + 1 => if (t m).leaf = false ∧ ((t m).left = (x : Int) ∨ (t m).right = (x : Int)) then some m else upOf t x m
theorem upOf_some {t : Nat → Nd} {x p : Nat} : ∀ {m}, upOf t x m = some p → p < m ∧ kid t p x
  | 0, h => by simp [upOf] at h
  | m + 1, h => by
    unfold upOf at h
    by_cases e : (t m).leaf = false ∧ ((t m).left = (x : Int) ∨ (t m).right = (x : Int))
    · rw [if_pos e] at h
      cases h
      exact ⟨by omega, e⟩
    · rw [if_neg e] at h
      have := upOf_some h
      exact ⟨by omega, this.2⟩
theorem upOf_none {t : Nat → Nd} {x : Nat} : ∀ {m}, upOf t x m = none → ∀ y, y < m → ¬ kid t y x
  | 0, _ => fun y hy => by omega
  | m + 1, h => fun y hy => by
    unfold upOf at h
    by_cases e : (t m).leaf = false ∧ ((t m).left = (x : Int) ∨ (t m).right = (x : Int))
    · rw [if_pos e] at h; cases h
    · rw [if_neg e] at h
      by_cases g : y = m
      · subst g; exact e
      · exact upOf_none h y (by omega)
/-- Up from parent to parent. -/
def lawUp (t : Nat → Nd) (n : Nat) : Nat → Nat → Bool
  | 0, _ => false
  | k + 1, x => if x = 0 then true else match upOf t x n with
    | none => false
    | some p => lawUp t n k p
theorem lawUp_more {t : Nat → Nd} {n : Nat} : ∀ k x, lawUp t n k x = true → lawUp t n (k + 1) x = true
  | 0, x, h => by simp [lawUp] at h
  | k + 1, x, h => by
    unfold lawUp at h ⊢
    by_cases e : x = 0
    · rw [if_pos e]
    · rw [if_neg e] at h ⊢
      cases u : upOf t x n with
      | none => rw [u] at h; cases h
      | some p => rw [u] at h; exact lawUp_more k p h
theorem lawUp_le {t : Nat → Nd} {n k x : Nat} (h : lawUp t n k x = true) : ∀ d, lawUp t n (k + d) x = true
  | 0 => h
  | d + 1 => lawUp_more _ _ (lawUp_le h d)
/-- What reached has found: out, and what waits. -/
structure DInv (t : Nat → Nd) (n : Nat) (out wait : List Nat) : Prop where
  nodup : (out ++ wait).Nodup
  small : ∀ x, x ∈ out ++ wait → x < n
  below : ∀ x, x ∈ wait → x ≠ 0 → ∃ y, y ∈ out ∧ kid t y x
  order : ∀ (k x : Nat), out[k]? = some x → x ≠ 0 → ∃ j y : Nat, j < k ∧ out[j]? = some y ∧ kid t y x
  closed : ∀ y, y ∈ out → ∀ x : Nat, kid t y x → x ∈ out ++ wait
  root : 0 ∈ out ++ wait
theorem DInv.start {t : Nat → Nd} {n : Nat} (hn : 0 < n) : DInv t n [] [0] :=
  ⟨by simp, fun x hx => by simp at hx; omega, fun x hx hne => by simp at hx; omega, fun k x h => by simp at h, fun y hy => by simp at hy, by simp⟩
theorem DInv.mem {t : Nat → Nd} {n : Nat} {out wait : List Nat} (h : DInv t n out wait) {x : Nat} (hx : x ∈ out) (h0 : x ≠ 0) : ∃ y, y ∈ out ∧ kid t y x := by
  obtain ⟨k, hk⟩ := List.getElem?_of_mem hx
  obtain ⟨j, y, _, hj, k2⟩ := h.order k x hk h0
  exact ⟨y, List.mem_of_getElem? hj, k2⟩
/-- A node is taken off and is a leaf. -/
theorem DInv.leaf {t : Nat → Nd} {n : Nat} {out ws : List Nat} {i : Nat} (h : DInv t n out (ws ++ [i])) (hl : (t i).leaf = true) : DInv t n (out ++ [i]) ws := by
  have e : ∀ x, x ∈ out ++ [i] ++ ws ↔ x ∈ out ++ (ws ++ [i]) := fun x => by simp; grind
  refine ⟨?_, fun x hx => h.small x ((e x).1 hx), fun x hx h0 => ?_, fun k x hk h0 => ?_, fun y hy x kx => ?_, (e 0).2 h.root⟩
  · have := h.nodup
    simp only [List.nodup_append, List.nodup_cons, List.mem_append, List.mem_singleton] at this ⊢
    grind
  · obtain ⟨y, hy, k⟩ := h.below x (by simp; exact .inl hx) h0
    exact ⟨y, by simp; exact .inl hy, k⟩
  · by_cases hlt : k < out.length
    · rw [List.getElem?_append_left hlt] at hk
      obtain ⟨j, y, hj, hy, k2⟩ := h.order k x hk h0
      exact ⟨j, y, hj, by rw [List.getElem?_append_left (by omega)]; exact hy, k2⟩
    · have hk2 : k = out.length := by
        have := (List.getElem?_eq_some_iff.1 hk).1
        simp at this; omega
      subst hk2
      rw [List.getElem?_append_right (Nat.le_refl _)] at hk
      simp at hk
      subst hk
      obtain ⟨y, hy, k2⟩ := h.below i (by simp) h0
      obtain ⟨j, hj⟩ := List.getElem?_of_mem hy
      have hjl := (List.getElem?_eq_some_iff.1 hj).1
      exact ⟨j, y, hjl, by rw [List.getElem?_append_left hjl]; exact hj, k2⟩
  · rw [e]
    rcases List.mem_append.1 hy with g | g
    · exact h.closed y g x kx
    · simp at g
      subst g
      exact absurd kx.1 (by rw [hl]; decide)
/-- It is a split. -/
theorem DInv.split {t : Nat → Nd} {n : Nat} {out ws : List Nat} {i l r : Nat} (h : DInv t n out (ws ++ [i])) (ho : Once t n) (hl : (t i).leaf = false) (el : (t i).left = (l : Int)) (er : (t i).right = (r : Int)) (l1 : 1 ≤ l) (l2 : l < n) (r1 : 1 ≤ r) (r2 : r < n) : DInv t n (out ++ [i]) (ws ++ [r, l]) := by
  have hi : i < n := h.small i (by simp)
  have kl : kid t i l := ⟨hl, .inl el⟩
  have kr : kid t i r := ⟨hl, .inr er⟩
  have hnd := h.nodup
  have hio : i ∉ out := fun hm => by
    simp only [List.nodup_append, List.mem_append, List.mem_singleton] at hnd
    exact hnd.2.2 i hm i (.inr rfl) rfl
  have fresh : ∀ x, 1 ≤ x → x < n → kid t i x → x ∉ out ++ (ws ++ [i]) := fun x x1 x2 kx hm => by
    have hp : ∃ y, y ∈ out ∧ kid t y x := by
      rcases List.mem_append.1 hm with g | g
      · exact h.mem g (by omega)
      · exact h.below x g (by omega)
    obtain ⟨y, hy, ky⟩ := hp
    have hyn : y < n := h.small y (List.mem_append.2 (.inl hy))
    have := ho.one x1 x2 hyn hi ky kx
    subst this
    exact hio hy
  have fl := fresh l l1 l2 kl
  have fr := fresh r r1 r2 kr
  have hlr : l ≠ r := fun e => by
    subst e
    have a := kc_two hl el er
    have b := par_ge (t := t) (x := l) (y := i) n hi
    have c := ho l l1 l2
    omega
  have e : ∀ x, x ∈ out ++ [i] ++ (ws ++ [r, l]) ↔ (x ∈ out ++ (ws ++ [i]) ∨ x = l ∨ x = r) := fun x => by simp; grind
  refine ⟨?_, fun x hx => ?_, fun x hx h0 => ?_, fun k x hk h0 => ?_, fun y hy x kx => ?_, (e 0).2 (.inl h.root)⟩
  · simp only [List.nodup_append, List.nodup_cons, List.mem_append, List.mem_singleton, List.mem_cons, List.not_mem_nil, or_false, not_false_eq_true, true_and] at hnd fl fr ⊢
    grind
  · rcases (e x).1 hx with g | g | g
    · exact h.small x g
    · omega
    · omega
  · rcases List.mem_append.1 hx with g | g
    · obtain ⟨y, hy, k⟩ := h.below x (by simp; exact .inl g) h0
      exact ⟨y, by simp; exact .inl hy, k⟩
    · simp at g
      rcases g with g | g
      · exact ⟨i, by simp, g ▸ kr⟩
      · exact ⟨i, by simp, g ▸ kl⟩
  · by_cases hlt : k < out.length
    · rw [List.getElem?_append_left hlt] at hk
      obtain ⟨j, y, hj, hy, k2⟩ := h.order k x hk h0
      exact ⟨j, y, hj, by rw [List.getElem?_append_left (by omega)]; exact hy, k2⟩
    · have hk2 : k = out.length := by
        have := (List.getElem?_eq_some_iff.1 hk).1
        simp at this; omega
      subst hk2
      rw [List.getElem?_append_right (Nat.le_refl _)] at hk
      simp at hk
      subst hk
      obtain ⟨y, hy, k2⟩ := h.below i (by simp) h0
      obtain ⟨j, hj⟩ := List.getElem?_of_mem hy
      have hjl := (List.getElem?_eq_some_iff.1 hj).1
      exact ⟨j, y, hjl, by rw [List.getElem?_append_left hjl]; exact hj, k2⟩
  · rw [e]
    rcases List.mem_append.1 hy with g | g
    · exact .inl (h.closed y g x kx)
    · simp at g
      subst g
      rcases kx.2 with g | g
      · exact .inr (.inl (by omega))
      · exact .inr (.inr (by omega))
theorem nodup_len : ∀ (n : Nat) (l : List Nat), l.Nodup → (∀ x, x ∈ l → x < n) → l.length ≤ n
  | 0, l, _, h => by
    cases l with
    | nil => simp
    | cons a l => exact absurd (h a (by simp)) (by omega)
  | n + 1, l, hd, h => by
    by_cases hm : n ∈ l
    · have := nodup_len n (l.erase n) (hd.erase n) (fun x hx => by
        have h1 := (hd.mem_erase_iff).1 hx
        have := h x h1.2
        have := h1.1
        omega)
      rw [List.length_erase_of_mem hm] at this
      have : 0 < l.length := List.length_pos_of_mem hm
      omega
    · have := nodup_len n l hd (fun x hx => by
        have := h x hx
        have : x ≠ n := fun e => hm (e ▸ hx)
        omega)
      omega
theorem DInv.len {t : Nat → Nd} {n : Nat} {out wait : List Nat} (h : DInv t n out wait) : out.length + wait.length ≤ n := by
  have := nodup_len n _ h.nodup h.small
  rw [List.length_append] at this
  exact this
/-- All that can be reached is found, and it alone. -/
theorem DInv.all {t : Nat → Nd} {n : Nat} {out : List Nat} (h : DInv t n out []) (ho : Once t n) (x : Nat) (hx : x < n) : lawUp t n (n + 1) x = true ↔ x ∈ out := by
  have hlen := h.len
  simp at hlen
  constructor
  · suffices ∀ k x, x < n → lawUp t n k x = true → x ∈ out from this (n + 1) x hx
    intro k
    induction k with
    | zero => intro x _ hh; simp [lawUp] at hh
    | succ k ih =>
      intro x hx hh
      unfold lawUp at hh
      by_cases e : x = 0
      · subst e; have := h.root; simpa using this
      · rw [if_neg e] at hh
        cases u : upOf t x n with
        | none => rw [u] at hh; cases hh
        | some p =>
          rw [u] at hh
          obtain ⟨p1, p2⟩ := upOf_some u
          have := h.closed p (ih p p1 hh) x p2
          simpa using this
  · intro hm
    obtain ⟨k, hk⟩ := List.getElem?_of_mem hm
    have hkl := (List.getElem?_eq_some_iff.1 hk).1
    have key : ∀ k x, out[k]? = some x → lawUp t n (k + 1) x = true := by
      intro k
      induction k using Nat.strongRecOn with
      | ind k ih =>
        intro x hk
        unfold lawUp
        by_cases e : x = 0
        · rw [if_pos e]
        · rw [if_neg e]
          obtain ⟨j, y, hj, hy, k2⟩ := h.order k x hk e
          have hxn : x < n := h.small x (by simp; exact List.mem_of_getElem? hk)
          have hyn : y < n := h.small y (by simp; exact List.mem_of_getElem? hy)
          cases u : upOf t x n with
          | none => exact absurd k2 (upOf_none u y hyn)
          | some p =>
            obtain ⟨p1, p2⟩ := upOf_some u
            have : p = y := ho.one (by omega) hxn p1 hyn p2 k2
            subst this
            have := lawUp_le (ih j hj p hy) (k - (j + 1))
            rw [show j + 1 + (k - (j + 1)) = k by omega] at this
            exact this
    have := lawUp_le (key k x hk) (n - k)
    rw [show k + 1 + (n - k) = n + 1 by omega] at this
    exact this

/-- What the rules ask of a node: where it does not hold. -/
def bad0 (F : Int) (t : Nat → Nd) (n : Nat) (i : Nat) : Bool := !(t i).leaf && (decide ((t i).feat ≥ F) || decide ((t i).left < 1) || decide ((t i).left ≥ (n : Int)) || decide ((t i).right < 1) || decide ((t i).right ≥ (n : Int)))
def bad1 (t : Nat → Nd) (n : Nat) (i : Nat) : Bool := decide (1 ≤ i) && decide (par t i n ≠ 1)
def bad2 (t : Nat → Nd) (n : Nat) (i : Nat) : Bool := !lawUp t n (n + 1) i
def bad3 (t : Nat → Nd) (i : Nat) : Bool := decide ((t i).cov ≤ 0)
def bad4 (t : Nat → Nd) (i : Nat) : Bool := !(t i).leaf && !decide ((t i).cov = (t (t i).left.toNat).cov + (t (t i).right.toNat).cov)
/-- The first fault of a tree by a rule: its error and its node. -/
def rl (F : Int) (t : Nat → Nd) (n : Nat) : Nat → Option (Int × Nat)
  | 0 => (fb (bad0 F t n) n).map (fun i => (8, i))
  | 1 => ((fb (bad1 t n) n).or (fb (bad2 t n) n)).map (fun i => (11, i))
  | 2 => (fb (bad3 t) n).map (fun i => (12, i))
  | _ => (fb (bad4 t) n).map (fun i => (13, i))
theorem rl0_named {F : Int} {t : Nat → Nd} {n : Nat} (h : rl F t n 0 = none) : Named t n := by
  have h0 : fb (bad0 F t n) n = none := by
    show fb (bad0 F t n) n = none
    cases e : fb (bad0 F t n) n with
    | none => rfl
    | some i => simp [rl, e] at h
  intro i hi hl
  have := fb_is h0 i hi
  unfold bad0 at this
  rw [hl] at this
  simp only [Bool.not_false, Bool.true_and, Bool.or_eq_false_iff, decide_eq_false_iff_not] at this
  omega
theorem bad1_once {t : Nat → Nd} {n : Nat} (h : fb (bad1 t n) n = none) : Once t n := by
  intro i h1 hi
  have := fb_is h i hi
  unfold bad1 at this
  rw [decide_eq_true h1, Bool.true_and, decide_eq_false_iff_not] at this
  omega
/-- The first fault of a model's trees, rule by rule, tree by tree. -/
def IsFirst (F : Int) (k : Nat) (N : Nat → Nat) (T : Nat → Nat → Nd) (x : Option (Int × Nat × Nat)) : Prop :=
  (x = none ∧ ∀ r, r < 4 → ∀ i, i < k → rl F (T i) (N i) r = none) ∨
  ∃ r i e nd, r < 4 ∧ i < k ∧ x = some (e, i, nd) ∧ rl F (T i) (N i) r = some (e, nd) ∧ (∀ r', r' < r → ∀ i', i' < k → rl F (T i') (N i') r' = none) ∧ ∀ i', i' < i → rl F (T i') (N i') r = none
theorem IsFirst.one {F : Int} {k : Nat} {N : Nat → Nat} {T : Nat → Nat → Nd} {x y : Option (Int × Nat × Nat)} (h : IsFirst F k N T x) (h' : IsFirst F k N T y) : x = y := by
  rcases h with ⟨rfl, h⟩ | ⟨r, i, e, nd, hr, hi, rfl, h1, h2, h3⟩ <;> rcases h' with ⟨rfl, h'⟩ | ⟨r', i', e', nd', hr', hi', rfl, h1', h2', h3'⟩
  · rfl
  · rw [h r' hr' i' hi'] at h1'; cases h1'
  · rw [h' r hr i hi] at h1; cases h1
  · rcases Nat.lt_trichotomy r r' with g | g | g
    · rw [h2' r g i hi] at h1; cases h1
    · subst g
      rcases Nat.lt_trichotomy i i' with g | g | g
      · rw [h3' i g] at h1; cases h1
      · subst g
        rw [h1] at h1'
        cases h1'
        rfl
      · rw [h3 i' g] at h1'; cases h1'
    · rw [h2 r' g i' hi'] at h1'; cases h1'

end Go.Proofs.YtbelnhpjhpoacaaDoor

namespace Go.Proofs.YtbelnhpjhpoacaaDoor
open Go.RowKit
set_option linter.unusedVariables false
set_option linter.unusedSimpArgs false


set_option maxRecDepth 20000 in
set_option maxHeartbeats 1000000 in
theorem qclean_at (v : Value) (q : Rat) (L : Nat) (w : World) (hv : RatAt w v q L) (hL : 1 ≤ L) (hM : L ≤ 100000) (ht : Tab w) :
    Calls Tryd.prog 12 #[v] w fun e w' => ∃ r, e = .returned r ∧ RepQ w' r q ∧ Below w.heap.size w w' := by
  obtain ⟨p, ao, n, c, bo, m, d, rfl⟩ := hv.open
  have BB : Below w.heap.size w w := Below.refl _ _
  obtain ⟨Wb0, hW0, hS0, hL0, VA⟩ := V3.lay w 35 (.bool p) (.slice ao n c) (.slice bo m d)
  replace hv := hv.below hL0
  replace ht := ht.below hL0
  replace BB := BB.trans (hL0.mono BB.size)
  clear hL0
  obtain ⟨Wb1, hW1, hS1, hL1, VR⟩ := V3.lay Wb0 35 (.bool false) (.slice none 0 0) (.slice none 0 0)
  rw [hS0] at VR hS1
  replace hv := hv.below hL1
  replace ht := ht.below hL1
  replace VA := VA.below hL1
  replace BB := BB.trans (hL1.mono BB.size)
  clear hL1
  go_enter Tryd.func12, Tryd.ntmps12
  go_wp2_with fail
  rw [← hW0]
  rw [← hW1]
  clear hW0 hW1 hS0 hS1
  refine (parts_at _ _ _ _ hv hL).mono ?_
  rintro e w1 ⟨una, sna, za, xa, rfl, hza, hxa, hpa, hqa, b1⟩
  replace hv := hv.below b1
  replace ht := ht.below b1
  replace VA := VA.below b1
  replace VR := VR.below b1
  replace BB := BB.trans (b1.mono BB.size)
  clear b1
  obtain ⟨pna, ana, nna, cna, rfl⟩ := hza.open
  obtain ⟨bna, mna, dna, rfl⟩ := hxa.open
  have HQa : Hid (q = mkRat za xa) := hqa
  clear hqa
  go_wp2_with fail
  refine (lowest_at _ _ _ _ _ _ _ hza hxa (by omega) (by omega) hpa ht).mono ?_
  rintro e w2 ⟨r, rfl, hr, b2⟩
  replace hv := hv.below b2
  replace ht := ht.below b2
  replace hza := hza.below b2
  replace hxa := hxa.below b2
  replace VA := VA.below b2
  replace VR := VR.below b2
  replace BB := BB.trans (b2.mono BB.size)
  clear b2
  rw [← HQa.out] at hr
  obtain ⟨pr, ar, nr, cr, br, mr, dr, rfl⟩ := hr.open
  have hKp := VR.keepJ (.bool pr) (.slice ar nr cr) (.slice br mr dr)
  have hv_n := hv.keep hKp
  have ht_n := ht.keep hKp
  have hza_n := hza.keep hKp
  have hxa_n := hxa.keep hKp
  have hr_n := hr.keep hKp
  have BB_n := below_store3 (R := w.heap.size + 1) BB (by omega) (.bool pr) (.slice ar nr cr) (.slice br mr dr)
  clear hKp
  obtain ⟨q1, q2, q3, q4, q5, q6⟩ := id VR
  go_wp2
  (try simp only [Exit.inBlock, Exit.then])
  refine bodyPost_ret (v := .agg #[.bool pr, .slice ar nr cr, .slice br mr dr]) (by simp [results, go_sem, q1, q2, q3]) rfl ?_
  exact ⟨_, rfl, hr_n, BB_n⟩

theorem cmpQ_neg (a b : Rat) : decide (cmpQ a b < 0) = decide (a < b) := by
  unfold cmpQ
  by_cases h1 : a < b
  · rw [if_pos h1, decide_eq_true h1]; rfl
  · rw [if_neg h1, decide_eq_false h1]
    split <;> rfl


theorem fmod_zero (z : Int) (x : Nat) (hx : 0 < x) : (z.fmod (x : Int)).natAbs = 0 ↔ (x : Int) ∣ z := by
  rw [Int.fmod_eq_emod_of_nonneg _ (by omega)]
  constructor
  · intro h; exact Int.dvd_of_emod_eq_zero (by omega)
  · intro h; have := Int.emod_eq_zero_of_dvd h; omega
theorem if_congr' {α : Sort _} {p q : Prop} [Decidable p] [Decidable q] {a b : α} (h : p ↔ q) : (if p then a else b) = if q then a else b := by
  by_cases hp : p
  · rw [if_pos hp, if_pos (h.1 hp)]
  · rw [if_neg hp, if_neg (fun g => hp (h.2 g))]
theorem ceil_mkRat (z : Int) (x : Nat) (hx : 0 < x) : -((-mkRat z x).floor) = if (z.fmod (x : Int)).natAbs = 0 then z.fdiv (x : Int) else z.fdiv (x : Int) + 1 := by
  rw [Rat.neg_mkRat, floor_mkRat _ _ hx]
  have e : ∀ t : Int, t.fdiv (x : Int) = t / (x : Int) := fun t => Int.fdiv_eq_ediv_of_nonneg _ (by omega)
  rw [e, e]
  have h1 := Int.mul_ediv_add_emod z (x : Int)
  have h2 := Int.emod_nonneg z (show (x : Int) ≠ 0 by omega)
  have h3 := Int.emod_lt_of_pos z (show (0 : Int) < (x : Int) by omega)
  rw [if_congr' (fmod_zero z x hx)]
  by_cases hd : (x : Int) ∣ z
  · rw [if_pos hd]
    obtain ⟨k, rfl⟩ := hd
    rw [show -((x : Int) * k) = (x : Int) * (-k) by rw [Int.mul_neg], Int.mul_ediv_cancel_left _ (by omega), Int.mul_ediv_cancel_left _ (by omega)]; omega
  · rw [if_neg hd]
    have h4 : z % (x : Int) ≠ 0 := fun h => hd (Int.dvd_of_emod_eq_zero h)
    have h5 : -z = ((x : Int) - z % (x : Int)) + (x : Int) * (-(z / (x : Int)) - 1) := by
      rw [Int.mul_sub, Int.mul_neg]; omega
    rw [h5, Int.add_mul_ediv_left _ _ (by omega), Int.ediv_eq_zero_of_lt (by omega) (by omega)]
    omega


theorem fdiv_nl (z : Int) (x L : Nat) (h : nl W32 z.natAbs ≤ L) : nl W32 (z.fdiv (x : Int)).natAbs ≤ L + 1 := by
  by_cases hx : x = 0
  · subst hx; simp [nl_zero]
  rw [Int.fdiv_eq_ediv_of_nonneg _ (by omega)]
  have h0 : (z / (x : Int)).natAbs ≤ z.natAbs := Int.natAbs_ediv_le_natAbs _ _
  exact Nat.le_trans (nl_mono W32 _ _ (by decide) h0) (by omega)


theorem cmpI_zero2 (a b : Int) : (cmpI a b == 0) = decide (a = b) := by
  unfold cmpI
  rcases Int.lt_trichotomy a b with h | h | h
  · rw [if_pos h, decide_eq_false (by omega)]; rfl
  · subst h; simp
  · rw [if_neg (by omega), if_pos h, decide_eq_false (by omega)]; rfl


/-- A number's amount. -/
def absQ (q : Rat) : Rat := if q < 0 then -q else q
theorem mkRat_neg_iff (z : Int) (x : Nat) (hx : 0 < x) : mkRat z x < 0 ↔ z < 0 := by
  have h := mkRat_lt z 0 x 1 hx (by omega)
  rw [show mkRat 0 1 = (0 : Rat) by simp] at h
  rw [h]; simp
theorem absQ_mkRat (z : Int) (x : Nat) (hx : 0 < x) : absQ (mkRat z x) = mkRat (z.natAbs : Int) x := by
  unfold absQ
  by_cases h : z < 0
  · rw [if_pos ((mkRat_neg_iff z x hx).2 h), Rat.neg_mkRat, show (z.natAbs : Int) = -z by omega]
  · rw [if_neg (fun g => h ((mkRat_neg_iff z x hx).1 g)), show (z.natAbs : Int) = z by omega]


theorem mkRat_zero_iff (z : Int) (x : Nat) (hx : 0 < x) : mkRat z x = 0 ↔ z = 0 := Rat.mkRat_eq_zero (by omega)
theorem div_mkRat (z t : Int) (x y : Nat) (hx : 0 < x) (hy : 0 < y) (ht : t ≠ 0) : ((z * (y : Int) : Int) : Rat) / ((t * (x : Int) : Int) : Rat) = mkRat z x / mkRat t y := by
  have h1 := mkRat_mul_den z x hx
  have h2 := mkRat_mul_den t y hy
  have hx' : (x : Rat) ≠ 0 := fun e => by have := ratc_pos x hx; rw [e] at this; exact Rat.lt_irrefl this
  have hy' : (y : Rat) ≠ 0 := fun e => by have := ratc_pos y hy; rw [e] at this; exact Rat.lt_irrefl this
  have ht' : (mkRat t y) ≠ 0 := fun e => ht ((mkRat_zero_iff t y hy).1 e)
  rw [Rat.intCast_mul, Rat.intCast_mul, Rat.intCast_natCast, Rat.intCast_natCast, ← h1, ← h2]
  generalize mkRat z x = a at *
  generalize mkRat t y = b at *
  grind


theorem inv_mkRat (z : Int) (x : Nat) (hx : 0 < x) (hz : z ≠ 0) : (x : Rat) / (z : Rat) = (mkRat z x)⁻¹ := by
  have h1 := mkRat_mul_den z x hx
  have hx' : (x : Rat) ≠ 0 := fun e => by have := ratc_pos x hx; rw [e] at this; exact Rat.lt_irrefl this
  have hz' : (mkRat z x) ≠ 0 := fun e => hz ((mkRat_zero_iff z x hx).1 e)
  rw [← h1]
  generalize mkRat z x = a at *
  grind

/-- The value v is a fraction z / x, to the base 10000, of at most L limbs each, that is q. -/
def DocP (w : World) (v : Value) (z : Int) (x L : Nat) : Prop :=
  ∃ p ao n c bo m d, v = .agg #[.bool p, .slice ao n c, .slice bo m d] ∧ RepJ w (.agg #[.bool p, .slice ao n c]) z ∧ RepD w (.slice bo m d) x ∧ 0 < x ∧ nl W32 z.natAbs ≤ L ∧ nl W32 x ≤ L
def DocQ (w : World) (v : Value) (q : Rat) (L : Nat) : Prop := ∃ z x, DocP w v z x L ∧ q = mkRat z x
theorem DocP.below {w w' : World} {v : Value} {z : Int} {x L : Nat} (h : DocP w v z x L) (hb : Below w.heap.size w w') : DocP w' v z x L := by
  obtain ⟨p, ao, n, c, bo, m, d, h1, h2, h3, h4⟩ := h
  exact ⟨p, ao, n, c, bo, m, d, h1, h2.below hb, h3.below hb, h4⟩
theorem DocP.keep {w w' : World} {v : Value} {z : Int} {x L : Nat} (h : DocP w v z x L) (hk : KeepQ IsNum w w') : DocP w' v z x L := by
  obtain ⟨p, ao, n, c, bo, m, d, h1, h2, h3, h4⟩ := h
  exact ⟨p, ao, n, c, bo, m, d, h1, h2.keep hk, h3.keep hk, h4⟩
theorem DocQ.below {w w' : World} {v : Value} {q : Rat} {L : Nat} (h : DocQ w v q L) (hb : Below w.heap.size w w') : DocQ w' v q L := by
  obtain ⟨z, x, h1, h2⟩ := h; exact ⟨z, x, h1.below hb, h2⟩
theorem DocQ.keep {w w' : World} {v : Value} {q : Rat} {L : Nat} (h : DocQ w v q L) (hk : KeepQ IsNum w w') : DocQ w' v q L := by
  obtain ⟨z, x, h1, h2⟩ := h; exact ⟨z, x, h1.keep hk, h2⟩
theorem DocP.open {w : World} {v : Value} {z : Int} {x L : Nat} (h : DocP w v z x L) : ∃ p ao n c bo m d, v = .agg #[.bool p, .slice ao n c, .slice bo m d] := by
  obtain ⟨p, ao, n, c, bo, m, d, h1, _⟩ := h; exact ⟨p, ao, n, c, bo, m, d, h1⟩
theorem DocQ.open {w : World} {v : Value} {q : Rat} {L : Nat} (h : DocQ w v q L) : ∃ p ao n c bo m d, v = .agg #[.bool p, .slice ao n c, .slice bo m d] := by
  obtain ⟨z, x, h1, _⟩ := h; exact h1.open
theorem DocQ.le {w : World} {v : Value} {q : Rat} {L M : Nat} (h : DocQ w v q L) (hM : L ≤ M) : DocQ w v q M := by
  obtain ⟨z, x, ⟨p, ao, n, c, bo, m, d, h1, h2, h3, h4, h5, h6⟩, e⟩ := h
  exact ⟨z, x, ⟨p, ao, n, c, bo, m, d, h1, h2, h3, h4, by omega, by omega⟩, e⟩
theorem DocP.parts {w : World} {p : Bool} {ao : Option Addr} {n c : Nat} {bo : Option Addr} {m d : Nat} {z : Int} {x L : Nat} (h : DocP w (.agg #[.bool p, .slice ao n c, .slice bo m d]) z x L) :
    RepJ w (.agg #[.bool p, .slice ao n c]) z ∧ RepD w (.slice bo m d) x ∧ 0 < x ∧ nl W32 z.natAbs ≤ L ∧ nl W32 x ≤ L := by
  obtain ⟨p', ao', n', c', bo', m', d', e, h2, h3, h4⟩ := h
  simp only [Value.agg.injEq, Array.mk.injEq, List.cons.injEq, Value.bool.injEq, Value.slice.injEq, and_true] at e
  obtain ⟨rfl, ⟨rfl, rfl, rfl⟩, rfl, rfl, rfl⟩ := e
  exact ⟨h2, h3, h4⟩
theorem DocP.mk {w : World} {p : Bool} {ao : Option Addr} {n c : Nat} {bo : Option Addr} {m d : Nat} {z : Int} {x L : Nat} (h1 : RepJ w (.agg #[.bool p, .slice ao n c]) z) (h2 : RepD w (.slice bo m d) x) (h3 : 0 < x) (h4 : nl W32 z.natAbs ≤ L) (h5 : nl W32 x ≤ L) : DocP w (.agg #[.bool p, .slice ao n c, .slice bo m d]) z x L :=
  ⟨p, ao, n, c, bo, m, d, rfl, h1, h2, h3, h4, h5⟩
theorem RepD.open {w : World} {v : Value} {x : Nat} (h : RepD w v x) : ∃ ao c, v = .slice ao (nl 10000 x) c := by
  obtain ⟨ao, c, e, _⟩ := h; exact ⟨ao, c, e⟩
theorem natc_nl {x L : Nat} (h : nl W32 x ≤ L) : nl W32 (x : Int).natAbs ≤ L := by rw [Int.natAbs_natCast]; exact h
theorem nlj5 {x L : Nat} (h : nl W32 x ≤ L) (hL : L ≤ 1000) : nl 10000 x ≤ 1000000 := Nat.le_trans (nl10_le _ _ h) (by omega)
theorem zof_nat0 (x : Nat) : zof false x = (x : Int) := zof_false x


theorem RepJ.bool {w : World} {p : Bool} {ao : Option Addr} {n c : Nat} {z : Int} (h : RepJ w (.agg #[.bool p, .slice ao n c]) z) : p = decide (z < 0) := by
  obtain ⟨ao', c', e, _⟩ := h
  simp only [Value.agg.injEq, Array.mk.injEq, List.cons.injEq, Value.bool.injEq] at e
  exact e.1
theorem inv_doc (z : Int) (x : Nat) (hx : 0 < x) (hz : z ≠ 0) : mkRat (zof (decide (z < 0)) x) z.natAbs = (mkRat z x)⁻¹ := by
  rw [← inv_mkRat z x hx hz]
  have h := zof_bne (decide (z < 0)) false x z.natAbs (by omega)
  rw [zof_false] at h
  have e1 : zof (!(decide (z < 0) == false)) x = zof (decide (z < 0)) x := by cases decide (z < 0) <;> rfl
  rw [e1] at h
  rw [h]
  rcases (show z < 0 ∨ 0 < z by omega) with g | g
  · rw [decide_eq_true g, zof_true, show (z.natAbs : Int) = -z by omega, Rat.intCast_neg, Rat.intCast_neg, Rat.intCast_natCast]
    grind
  · rw [decide_eq_false (by omega), zof_false, show (z.natAbs : Int) = z by omega, Rat.intCast_natCast]

/-- What few and tiny answer. -/
def FewOut (p : Bool) (n m : Nat) (f g : Nat → Int) (w : World) (e : Ending) (w' : World) : Prop :=
  ∃ ao c bo d, e = .returned (.agg #[.bool p, .slice ao n c, .slice bo m d]) ∧ Nums .u64 w' (.slice ao n c) n f ∧ U64 n f ∧ Nums .u64 w' (.slice bo m d) m g ∧ U64 m g ∧ Below w.heap.size w w'


theorem RatAt.raw {w : World} {p : Bool} {ao : Option Addr} {n c : Nat} {bo : Option Addr} {m d K : Nat} {f g : Nat → Int} (h1 : Nums .u64 w (.slice ao n c) n f) (h2 : U64 n f) (h3 : Nums .u64 w (.slice bo m d) m g) (h4 : U64 m g) (hn : n ≤ K) (hm : m ≤ K) :
    RatAt w (.agg #[.bool p, .slice ao n c, .slice bo m d]) (mkRat (zof p (num f n)) (num g m)) K :=
  RatAt.mk ⟨_, _, _, _, _, rfl, h1, h2, rfl, hn⟩ ⟨_, _, h3, h4, rfl, hm⟩
/-- Nothing, in letters. -/
def Nil7 (p : Bool) (a : Option Addr) (n c : Nat) (b : Option Addr) (m d : Nat) : Prop := p = false ∧ a = none ∧ n = 0 ∧ c = 0 ∧ b = none ∧ m = 0 ∧ d = 0

theorem nprint_at (v : Value) (x L : Nat) (w : World) (hv : NatAt w v x L) (hL : L ≤ 10000) : Calls Tryd.prog 48 #[v] w fun e w' => e = .returned (.string (txt x)) ∧ Below w.heap.size w w' := by
  obtain ⟨n, f, h1, h2, rfl, h4⟩ := hv
  exact print_any v n f w h1 h2 (by omega)
theorem txt_small (x L : Nat) (h : nl W32 x ≤ L) : (txt x).size ≤ 10 * L + 1 := by
  rw [txt_size]
  exact ndec_le _ _ (Nat.lt_of_lt_of_le (lt_pow_nl W32 x (by decide)) (Nat.pow_le_pow_right (by decide) h))
theorem ztxt_small (z : Int) (L : Nat) (h : nl W32 z.natAbs ≤ L) : (ztxt z).size ≤ 10 * L + 2 := by
  have := txt_small z.natAbs L h
  unfold ztxt
  split
  · rw [ByteArray.size_append]; show 1 + _ ≤ _; omega
  · omega
/-- A number as text. -/
def qtxt (q : Rat) : ByteArray := if q.den = 1 then ztxt q.num else ztxt q.num ++ { data := #[47] } ++ txt q.den


set_option maxRecDepth 20000 in
set_option maxHeartbeats 1000000 in
theorem qprint_at (v : Value) (q : Rat) (L : Nat) (w : World) (hv : RatAt w v q L) (hL : 1 ≤ L) (hM : L ≤ 9000) (ht : Tab w) :
    Calls Tryd.prog 33 #[v] w fun e w' => e = .returned (.string (qtxt q)) ∧ Below w.heap.size w w' := by
  obtain ⟨p, ao, n, c, bo, m, d, rfl⟩ := hv.open
  have hqs := hv.qsz hL
  have BB : Below w.heap.size w w := Below.refl _ _
  obtain ⟨Wb0, hW0, hS0, hL0, VA⟩ := V3.lay w 35 (.bool p) (.slice ao n c) (.slice bo m d)
  replace hv := hv.below hL0
  replace ht := ht.below hL0
  replace BB := BB.trans (hL0.mono BB.size)
  clear hL0
  go_enter Tryd.func33, Tryd.ntmps33
  go_wp2_with fail
  rw [← hW0]
  clear hW0 hS0
  refine (qclean_at _ _ _ _ hv hL (by omega) ht).mono ?_
  rintro e w1 ⟨rr, rfl, hr, b1⟩
  replace hv := hv.below b1
  replace ht := ht.below b1
  replace VA := VA.below b1
  replace BB := BB.trans (b1.mono BB.size)
  clear b1
  obtain ⟨pr, ar, nr, cr, br, mr, dr, rfl⟩ := hr.open
  have hKp := VA.keepJ (.bool pr) (.slice ar nr cr) (.slice br mr dr)
  have VA_n := VA.same (.bool pr) (.slice ar nr cr) (.slice br mr dr)
  have hv_n := hv.keep hKp
  have ht_n := ht.keep hKp
  have hr_n := hr.keep hKp
  have BB_n := below_store3 (R := w.heap.size) BB (by omega) (.bool pr) (.slice ar nr cr) (.slice br mr dr)
  clear hKp
  obtain ⟨VA_0, VA_1, VA_2, VA_3, VA_4, VA_5⟩ := id VA
  go_wp2_with fail
  clear VA_0 VA_1 VA_2 VA_3 VA_4 VA_5
  clear BB hv ht hr VA
  generalize ((w1.setCell ⟨w.heap.size, 0, none⟩ (.bool pr)).setCell ⟨w.heap.size, 1, none⟩ (.slice ar nr cr)).setCell ⟨w.heap.size, 2, none⟩ (.slice br mr dr) = W1 at *
  have BB := BB_n
  have hv := hv_n
  have ht := ht_n
  have hr := hr_n
  have VA := VA_n
  clear BB_n hv_n ht_n hr_n VA_n
  obtain ⟨hn, hd⟩ := hr.parts
  have ln := Nat.le_trans (qsz_num q) hqs
  have ld := Nat.le_trans (qsz_den q) hqs
  refine (isOne_at _ _ _ _ (hd.at L ld)).mono ?_
  rintro e w2 ⟨rfl, b2⟩
  replace hv := hv.below b2
  replace ht := ht.below b2
  replace hr := hr.below b2
  replace hn := hn.below b2
  replace hd := hd.below b2
  replace VA := VA.below b2
  replace BB := BB.trans (b2.mono BB.size)
  clear b2
  by_cases h1 : q.den = 1
  · rw [decide_eq_true h1]
    obtain ⟨VA_0, VA_1, VA_2, VA_3, VA_4, VA_5⟩ := id VA
    go_wp2_with fail
    clear VA_0 VA_1 VA_2 VA_3 VA_4 VA_5
    refine (wprint_any _ _ _ _ (hn.at L ln) (by omega)).mono ?_
    rintro e w3 ⟨rfl, b3⟩
    replace hv := hv.below b3
    replace ht := ht.below b3
    replace hr := hr.below b3
    replace hn := hn.below b3
    replace hd := hd.below b3
    replace VA := VA.below b3
    replace BB := BB.trans (b3.mono BB.size)
    clear b3
    go_wp2
    go_ret
    exact ⟨by unfold qtxt; rw [if_pos h1]; rfl, BB⟩
  · rw [decide_eq_false h1]
    have s1 := ztxt_small q.num L ln
    have s2 := txt_small q.den L ld
    have HX : Hid (qtxt q = ztxt q.num ++ { data := #[47] } ++ txt q.den) := by show _ = _; unfold qtxt; rw [if_neg h1]
    have HR := HX.out
    generalize hT : ztxt q.num = T at *
    generalize hU : txt q.den = U at *
    clear HR
    have n1 : ¬ 9223372036854775807 < T.size + 1 := by omega
    have n2 : ¬ 9223372036854775807 < T.size + 1 + U.size := by omega
    go_wp2
    have hDr : Below w2.heap.size w2 w2.drew := (Below.refl _ _).drew
    replace hv := hv.below hDr
    replace ht := ht.below hDr
    replace hr := hr.below hDr
    replace hn := hn.below hDr
    replace hd := hd.below hDr
    replace VA := VA.below hDr
    replace BB := BB.trans (hDr.mono BB.size)
    clear hDr
    refine wp_region_held_drew (S := (fun w' => w'.cell? ⟨w.heap.size, 0, none⟩ = some (.bool pr) ∧ w'.cell? ⟨w.heap.size, 1, none⟩ = some (.slice ar nr cr) ∧ w'.cell? ⟨w.heap.size, 2, none⟩ = some (.slice br mr dr))) (by kernel_rfl) ?_ (fun hHeld => ?_)
    · exact ⟨VA.1, VA.2.1, VA.2.2.1⟩
    generalize w2.drew = W2 at *
    refine wpAnyH_take (i := 0) (v := ?_) (by simp only [List.getElem?_toArray, List.getElem?_cons_succ, List.getElem?_cons_zero]; rfl) (by kernel_rfl) (by kernel_rfl) (by kernel_rfl) (by exact fun _ _ _ h => h) (Or.inl ⟨by rfl, ?_⟩) (by assumption) ?_
    rotate_left
    · (intro w hSw; (try dsimp only at hSw); go_simp; (try with_reducible rfl))
    (try simp only [Act.put, List.setIfInBounds_toArray, List.set_cons_zero, List.set_cons_succ])
    refine wpAnyH_take (i := 1) (v := ?_) (by simp only [List.getElem?_toArray, List.getElem?_cons_succ, List.getElem?_cons_zero]; rfl) (by kernel_rfl) (by kernel_rfl) (by kernel_rfl) (by exact fun _ _ _ h => h) (Or.inl ⟨by rfl, ?_⟩) (by assumption) ?_
    rotate_left
    · (intro w hSw; (try dsimp only at hSw); go_simp; (try with_reducible rfl))
    (try simp only [Act.put, List.setIfInBounds_toArray, List.set_cons_zero, List.set_cons_succ])
    refine wpAnyH_take (i := 4) (v := ?_) (by simp only [List.getElem?_toArray, List.getElem?_cons_succ, List.getElem?_cons_zero]; rfl) (by kernel_rfl) (by kernel_rfl) (by kernel_rfl) (by exact fun _ _ _ h => h) (Or.inl ⟨by rfl, ?_⟩) (by assumption) ?_
    rotate_left
    · (intro w hSw; (try dsimp only at hSw); go_simp; (try with_reducible rfl))
    (try simp only [Act.put, List.setIfInBounds_toArray, List.set_cons_zero, List.set_cons_succ])
    refine wpAnyH_take (i := 5) (v := ?_) (by simp only [List.getElem?_toArray, List.getElem?_cons_succ, List.getElem?_cons_zero]; rfl) (by kernel_rfl) (by kernel_rfl) (by kernel_rfl) (by exact fun _ _ _ h => h) (Or.inl ⟨by rfl, ?_⟩) (by assumption) ?_
    rotate_left
    · (intro w hSw; (try dsimp only at hSw); go_simp; (try with_reducible rfl))
    (try simp only [Act.put, List.setIfInBounds_toArray, List.set_cons_zero, List.set_cons_succ])
    refine wpAnyH_ready (rs := [2]) (by kernel_rfl) (by simp) ?_
    refine AllReadyH.cons (by simp only [List.getElem?_toArray, List.getElem?_cons_succ, List.getElem?_cons_zero]; rfl) (fun K hK => ?_) AllReadyH.nil
    go_simp
    refine (wprint_any _ _ _ _ (hn.at L ln) (by omega)).mono ?_
    rintro e w3 ⟨rfl, b3⟩
    rw [hT]
    go_wp2_with fail
    replace hv := hv.below b3
    replace ht := ht.below b3
    replace hr := hr.below b3
    replace hn := hn.below b3
    replace hd := hd.below b3
    replace VA := VA.below b3
    replace BB := BB.trans (b3.mono BB.size)
    clear b3
    refine hK.out _ _ ?_ (fun hH1 => ?_)
    · exact ⟨VA.1, VA.2.1, VA.2.2.1⟩
    clear hK K hHeld
    (try simp only [Act.put, List.setIfInBounds_toArray, List.set_cons_zero, List.set_cons_succ])
    refine wpAnyH_take (i := 3) (v := ?_) (by simp only [List.getElem?_toArray, List.getElem?_cons_succ, List.getElem?_cons_zero]; rfl) (by kernel_rfl) (by kernel_rfl) (by kernel_rfl) (by exact fun _ _ _ h => h) (Or.inl ⟨by rfl, ?_⟩) (by assumption) ?_
    rotate_left
    · (intro w hSw; (try dsimp only at hSw); go_simp; (try with_reducible rfl))
    (try simp only [Act.put, List.setIfInBounds_toArray, List.set_cons_zero, List.set_cons_succ])
    refine wpAnyH_ready (rs := [6]) (by kernel_rfl) (by simp) ?_
    refine AllReadyH.cons (by simp only [List.getElem?_toArray, List.getElem?_cons_succ, List.getElem?_cons_zero]; rfl) (fun K hK => ?_) AllReadyH.nil
    go_simp
    refine (nprint_at _ _ _ _ (hd.at L ld) (by omega)).mono ?_
    rintro e w4 ⟨rfl, b4⟩
    rw [hU]
    go_wp2_with fail
    replace hv := hv.below b4
    replace ht := ht.below b4
    replace hr := hr.below b4
    replace hn := hn.below b4
    replace hd := hd.below b4
    replace VA := VA.below b4
    replace BB := BB.trans (b4.mono BB.size)
    clear b4
    refine hK.out _ _ ?_ (fun hH2 => ?_)
    · exact ⟨VA.1, VA.2.1, VA.2.2.1⟩
    clear hK K hH1
    (try simp only [Act.put, List.setIfInBounds_toArray, List.set_cons_zero, List.set_cons_succ])
    refine wpAnyH_take (i := 7) (v := ?_) (by simp only [List.getElem?_toArray, List.getElem?_cons_succ, List.getElem?_cons_zero]; rfl) (by kernel_rfl) (by kernel_rfl) (by kernel_rfl) (by exact fun _ _ _ h => h) (Or.inl ⟨by rfl, ?_⟩) (by assumption) ?_
    rotate_left
    · (intro w hSw; (try dsimp only at hSw); go_simp; (try with_reducible rfl))
    (try simp only [Act.put, List.setIfInBounds_toArray, List.set_cons_zero, List.set_cons_succ])
    refine wpAnyH_take (i := 8) (v := ?_) (by simp only [List.getElem?_toArray, List.getElem?_cons_succ, List.getElem?_cons_zero]; rfl) (by kernel_rfl) (by kernel_rfl) (by kernel_rfl) (by exact fun _ _ _ h => h) (Or.inl ⟨by rfl, ?_⟩) (by assumption) ?_
    rotate_left
    · (intro w hSw; (try dsimp only at hSw); go_simp; (try with_reducible rfl))
    (try simp only [Act.put, List.setIfInBounds_toArray, List.set_cons_zero, List.set_cons_succ])
    refine wpAnyH_done (by kernel_rfl) ?_ _
    clear hH2
    go_wp2
    go_ret
    exact ⟨by rw [HX.out]; rfl, BB⟩


theorem even_num (f : Nat → Int) (n : Nat) : decide (at0 f n 0 % 2 = 0) = decide (num f n % 2 = 0) := by
  by_cases h : 0 < n
  · have e := num_digit f n 0 h
    unfold at0; rw [if_pos h]
    unfold dg at e
    rw [Nat.pow_zero, Nat.div_one] at e
    unfold W32 at e
    rw [decide_eq_decide]; omega
  · obtain rfl : n = 0 := by omega
    have hz : num f 0 = 0 := rfl
    unfold at0; rw [if_neg h, hz]; rfl
/-- The nearest whole number; of two the even one. -/
def roundQ (q : Rat) : Int := if 2 * (q - (q.floor : Rat)) < 1 ∨ (2 * (q - (q.floor : Rat)) = 1 ∧ q.floor % 2 = 0) then q.floor else q.floor + 1
theorem round_mkRat (z : Int) (x : Nat) (hx : 0 < x) : roundQ (mkRat z x) =
    if cmpI (((z.fmod (x : Int)).natAbs + (z.fmod (x : Int)).natAbs : Nat) : Int) (x : Int) < 0 ∨ (cmpI (((z.fmod (x : Int)).natAbs + (z.fmod (x : Int)).natAbs : Nat) : Int) (x : Int) = 0 ∧ (z.fdiv (x : Int)).natAbs % 2 = 0) then z.fdiv (x : Int) else z.fdiv (x : Int) + 1 := by
  unfold roundQ
  rw [floor_mkRat z x hx]
  have h1 := Int.mul_fdiv_add_fmod z (x : Int)
  have h2 := Int.fmod_nonneg_of_pos z (show (0 : Int) < (x : Int) by omega)
  generalize z.fdiv (x : Int) = F at *
  generalize z.fmod (x : Int) = G at *
  obtain ⟨r, rfl⟩ : ∃ r : Nat, G = (r : Int) := ⟨G.toNat, by omega⟩
  rw [Int.natAbs_natCast]
  have hx' := ratc_pos x hx
  have hxn : (x : Rat) ≠ 0 := fun e => by rw [e] at hx'; exact Rat.lt_irrefl hx'
  have hq : mkRat z x - (F : Rat) = mkRat (r : Int) x := by
    rw [Rat.mkRat_eq_div, Rat.mkRat_eq_div, ← h1, Rat.intCast_add, Rat.intCast_mul, Rat.intCast_natCast, Rat.intCast_natCast]
    grind
  have e2 : 2 * mkRat (r : Int) x = mkRat ((r + r : Nat) : Int) x := by
    rw [Rat.mkRat_eq_div, Rat.mkRat_eq_div, Rat.intCast_natCast, Rat.intCast_natCast, Rat.natCast_add]
    grind
  rw [hq, e2]
  have e1 : (1 : Rat) = mkRat 1 1 := show (1 : Rat) = mkRat (1 : Rat).num (1 : Rat).den from (Rat.mkRat_self 1).symm
  have hlt : mkRat ((r + r : Nat) : Int) x < 1 ↔ ((r + r : Nat) : Int) < (x : Int) := by
    rw [e1, mkRat_lt _ _ _ _ hx (by omega)]; simp
  have heq : mkRat ((r + r : Nat) : Int) x = 1 ↔ ((r + r : Nat) : Int) = (x : Int) := by
    rw [e1, Rat.mkRat_eq_iff (by omega) (by omega)]; simp
  simp only [hlt, heq]
  have c1 : cmpI ((r + r : Nat) : Int) (x : Int) < 0 ↔ ((r + r : Nat) : Int) < (x : Int) := by
    unfold cmpI; split
    · simp_all
    · split <;> simp_all
  have c2 : cmpI ((r + r : Nat) : Int) (x : Int) = 0 ↔ ((r + r : Nat) : Int) = (x : Int) := by
    unfold cmpI; split
    · simp_all; omega
    · split
      · simp_all; omega
      · simp_all; omega
  simp only [c1, c2]
  have c3 : F % 2 = 0 ↔ F.natAbs % 2 = 0 := by omega
  simp only [c3]


theorem shr_half (n i : Nat) : ((n : Int) / 2 ^ i) = ((n / 2 ^ i : Nat) : Int) := by rw [Int.natCast_ediv]; simp
theorem nl_ten (m K : Nat) (h : m < K) : nl W32 (10 ^ m) ≤ K :=
  nl_le W32 _ _ (by decide) (Nat.lt_of_le_of_lt (Nat.pow_le_pow_left (by decide : 10 ≤ W32) m) (Nat.pow_lt_pow_right (by decide) h))
theorem pow_bits (n i : Nat) : n % 2 ^ (i + 1) = n % 2 ^ i + 2 ^ i * (n / 2 ^ i % 2) := by
  rw [Nat.pow_succ, Nat.mod_mul]
end Go.Proofs.YtbelnhpjhpoacaaDoor

namespace Go.Proofs.YtbelnhpjhpoacaaDoor
open Go.RowKit
set_option linter.unusedVariables false

/-- A limb, or a byte of a table. -/
def IsLimb (v : Value) : Prop := ∃ x, v = .int .u64 x ∨ v = .int .u8 x
theorem limb_int (x : Int) : ¬ IsLimb (.int .i64 x) := fun ⟨_, h⟩ => by rcases h with h | h <;> cases h
theorem Nums.keepL {w w' : World} {v : Value} {n : Nat} {f : Nat → Int} (h : Nums .u64 w v n f) (hk : KeepQ IsLimb w w') : Nums .u64 w' v n f := by
  obtain ⟨ao, c, h1, h2, h3, h4⟩ := h
  exact ⟨ao, c, h1, h2, h3, fun hn => let ⟨b, off, e, hc⟩ := h4 hn; ⟨b, off, e, fun i hi => hk _ _ _ ⟨_, .inl rfl⟩ (hc i hi)⟩⟩
theorem Rep.keepL {w w' : World} {v : Value} {m : Nat} (h : Rep w v m) (hk : KeepQ IsLimb w w') : Rep w' v m := Nums.keepL h hk
theorem RepI.keepL {w w' : World} {v : Value} {z : Int} (h : RepI w v z) (hk : KeepQ IsLimb w w') : RepI w' v z := by
  obtain ⟨ao, c, h1, h2⟩ := h
  exact ⟨ao, c, h1, Nums.keepL h2 hk⟩
theorem IntAt.keepL {w w' : World} {v : Value} {z : Int} {L : Nat} (h : IntAt w v z L) (hk : KeepQ IsLimb w w') : IntAt w' v z L := by
  obtain ⟨neg, ao, n, c, f, h1, h2, h3⟩ := h
  exact ⟨neg, ao, n, c, f, h1, h2.keepL hk, h3⟩
theorem NatAt.keepL {w w' : World} {v : Value} {x L : Nat} (h : NatAt w v x L) (hk : KeepQ IsLimb w w') : NatAt w' v x L := by
  obtain ⟨n, f, h1, h2⟩ := h; exact ⟨n, f, h1.keepL hk, h2⟩
theorem RatAt.keepL {w w' : World} {v : Value} {q : Rat} {L : Nat} (h : RatAt w v q L) (hk : KeepQ IsLimb w w') : RatAt w' v q L := by
  obtain ⟨p, ao, n, c, bo, m, d, z, x, h1, h2, h3, h4⟩ := h
  exact ⟨p, ao, n, c, bo, m, d, z, x, h1, h2.keepL hk, h3.keepL hk, h4⟩
theorem RepQ.keepL {w w' : World} {v : Value} {q : Rat} (h : RepQ w v q) (hk : KeepQ IsLimb w w') : RepQ w' v q := by
  obtain ⟨p, ao, n, c, bo, m, d, h1, h2, h3⟩ := h
  exact ⟨p, ao, n, c, bo, m, d, h1, h2.keepL hk, h3.keepL hk⟩
theorem Tab.keepL {w w' : World} (h : Tab w) (hk : KeepQ IsLimb w w') : Tab w' := fun i hi => hk _ _ _ ⟨_, .inr rfl⟩ (h i hi)
theorem keepL_set {w : World} {a : Addr} {old : Value} (h : w.cell? a = some old) (hn : ¬ IsLimb old) (x : Value) : KeepQ IsLimb w (w.setCell a x) := by
  intro b o v hv hc
  rw [World.cell?_setCell_other _ _ _ _ (fun e => by rw [← e, h] at hc; cases hc; exact hn hv)]
  exact hc
/-- Two small numbers in a variable. -/
theorem V2.keepF {w : World} {R : Nat} {a b : Int} (h : V2 w R (.int .i64 a) (.int .i64 b)) (x' y' : Value) : KeepQ IsLimb w ((w.setCell ⟨R, 0, none⟩ x').setCell ⟨R, 1, none⟩ y') := by
  refine (keepL_set h.1 (limb_int a) x').trans (keepL_set (old := .int .i64 b) ?_ (limb_int b) y')
  rw [World.cell?_setCell_other _ _ _ _ (fun e => by injection e; omega)]; exact h.2.1

end Go.Proofs.YtbelnhpjhpoacaaDoor

namespace Go.Proofs.YtbelnhpjhpoacaaDoor
open Go.RowKit
set_option linter.unusedVariables false
set_option linter.unusedSimpArgs false


/-- Both sides of a number, of so small divisors. -/
def aboutN (a : Rat) (most : Nat) : Nat → Nat → Nat → Nat → Nat → Nat × Nat × Nat × Nat
  | 0, ln, ld, hn, hd => (ln, ld, hn, hd)
  | k + 1, ln, ld, hn, hd =>
    if ld + hd ≤ most then (if ((ln + hn : Nat) : Rat) / ((ld + hd : Nat) : Rat) ≤ a then aboutN a most k (ln + hn) (ld + hd) hn hd else aboutN a most k ln ld (ln + hn) (ld + hd)) else (ln, ld, hn, hd)
theorem about_step (a : Rat) (most k ln ld hn hd : Nat) : aboutN a most (k + 1) ln ld hn hd = if ld + hd ≤ most then (if ((ln + hn : Nat) : Rat) / ((ld + hd : Nat) : Rat) ≤ a then aboutN a most k (ln + hn) (ld + hd) hn hd else aboutN a most k ln ld (ln + hn) (ld + hd)) else (ln, ld, hn, hd) := rfl
theorem cmpQ_le (a b : Rat) : decide (cmpQ a b ≤ 0) = decide (a ≤ b) := by
  unfold cmpQ
  by_cases h1 : a < b
  · rw [if_pos h1, decide_eq_true (Rat.le_of_lt h1)]; rfl
  · rw [if_neg h1]
    by_cases h2 : b < a
    · rw [if_pos h2, decide_eq_false (Rat.not_le.2 h2)]; rfl
    · rw [if_neg h2, decide_eq_true (Rat.not_lt.1 h2)]; rfl
theorem qsz_frac (a b : Int) (h0 : a.natAbs < 4294967296) (h1 : b.natAbs < 4294967296) : qsz ((a : Rat) / (b : Rat)) ≤ 2 :=
  qsz_div (a : Rat) (b : Rat) (L := 1) (M := 1) (qsz_int a (nl_small7 _ h0) (by omega)) (qsz_int b (nl_small7 _ h1) (by omega))

theorem qsz_floor (q : Rat) {L : Nat} (h : qsz q ≤ L) : nl W32 q.floor.natAbs ≤ L + 1 := by
  rw [← Rat.mkRat_self q, floor_mkRat _ _ (Nat.pos_of_ne_zero q.den_nz)]
  exact fdiv_nl _ _ _ (Nat.le_trans (qsz_num q) h)
/-- The nearest of the number below and the number above. -/
def nearQ (q : Rat) (A C D E : Nat) : Rat := if ((D : Int) : Rat) / ((E : Int) : Rat) - (q - (q.floor : Rat)) < q - (q.floor : Rat) - ((A : Int) : Rat) / ((C : Int) : Rat) ∨ (q - (q.floor : Rat) - ((A : Int) : Rat) / ((C : Int) : Rat) = ((D : Int) : Rat) / ((E : Int) : Rat) - (q - (q.floor : Rat)) ∧ E < C) then (q.floor : Rat) + ((D : Int) : Rat) / ((E : Int) : Rat) else (q.floor : Rat) + ((A : Int) : Rat) / ((C : Int) : Rat)
theorem cmpQ_two (a b : Rat) : (cmpQ a b > 0 ↔ b < a) ∧ (cmpQ a b = 0 ↔ a = b) := by
  have h0 := cmpQ_zero a b
  have h1 := cmpQ_pos a b
  refine ⟨?_, ?_⟩
  · rw [gt_iff_lt, ← decide_eq_true_iff (p := 0 < cmpQ a b), h1, decide_eq_true_iff]
  · rw [← beq_iff_eq, h0, decide_eq_true_iff]
theorem cmpQ_lt {a b : Rat} (h : a < b) : cmpQ a b = -1 := by unfold cmpQ; rw [if_pos h]

/-- The sum of the first n. -/
def sumq (q : Nat → Rat) : Nat → Rat
  | 0 => 0
  | n + 1 => sumq q n + q n
theorem sumq_cut (q : Nat → Rat) (m : Nat) : ∀ n, sumq q (m + n) = sumq q m + sumq (fun i => q (m + i)) n
  | 0 => by show sumq q m = sumq q m + 0; rw [Rat.add_zero]
  | n + 1 => by
    show sumq q (m + n) + q (m + n) = sumq q m + (sumq (fun i => q (m + i)) n + q (m + n))
    rw [sumq_cut q m n, Rat.add_assoc]
theorem qsz_sumq (q : Nat → Rat) (L : Nat) : ∀ n, (∀ i, i < n → qsz (q i) ≤ L) → qsz (sumq q n) ≤ n * (L + 1) + 1
  | 0, _ => by
    have : qsz (0 : Rat) ≤ 1 := qsz_int 0 (by decide) (by omega)
    show qsz (0 : Rat) ≤ _; omega
  | n + 1, h => by
    have := qsz_add _ _ (qsz_sumq q L n fun i hi => h i (by omega)) (h n (by omega))
    show qsz (sumq q n + q n) ≤ _
    rw [Nat.succ_mul]; omega
/-- A slice of n rational numbers, each of at most L limbs above and below. -/
def QRow (w : World) (v : Value) (n : Nat) (q : Nat → Rat) (L : Nat) : Prop := ∃ el, RowAt 3 w v n el ∧ ∀ i, i < n → RatAt w (.agg #[el i 0, el i 1, el i 2]) (q i) L
theorem QRow.below {w w' : World} {v : Value} {n : Nat} {q : Nat → Rat} {L : Nat} (h : QRow w v n q L) (hb : Below w.heap.size w w') : QRow w' v n q L := by
  obtain ⟨el, h1, h2⟩ := h
  exact ⟨el, h1.below hb, fun i hi => (h2 i hi).below hb⟩
theorem QRow.cut {w : World} {v : Value} {n : Nat} {q : Nat → Rat} {L : Nat} (h : QRow w v n q L) (m : Nat) (h0 : 0 < m) (hm : m < n) :
    ∃ b off c, v = .slice (some ⟨b, off, none⟩) n c ∧ n ≤ c ∧ c ≤ 9223372036854775807 ∧ QRow w (.slice (some ⟨b, off, none⟩) m c) m q L ∧ QRow w (.slice (some ⟨b, off + m * 3, none⟩) (n - m) (c - m)) (n - m) (fun i => q (m + i)) L := by
  obtain ⟨el, h1, h2⟩ := h
  obtain ⟨b, off, c, e, hc, hM, p1, p2⟩ := h1.cut m h0 hm
  exact ⟨b, off, c, e, hc, hM, ⟨el, p1, fun i hi => h2 i (by omega)⟩, ⟨_, p2, fun i hi => h2 (m + i) (by omega)⟩⟩
theorem QRow.sz {w : World} {v : Value} {n : Nat} {q : Nat → Rat} {L : Nat} (h : QRow w v n q L) (hL : 1 ≤ L) (i : Nat) (hi : i < n) : qsz (q i) ≤ L := by
  obtain ⟨el, _, h2⟩ := h; exact (h2 i hi).qsz hL


end Go.Proofs.YtbelnhpjhpoacaaDoor
