/-
  What the document's own numbers of digits to the base 10000 answer: Trim, digit, Small, Order.
-/
import Derived.Test.YthhabammejkjcaaDoorDivSmall
import Derived.Test.YthhabammejkjcaaDoorAwake
namespace Go.Proofs.YthhabammejkjcaaDoor
open Go.RowKit

/-- The value v is the number m, by digits to the base 10000. -/
def RepD (w : World) (v : Value) (m : Nat) : Prop := Nums .i64 w v (nl 10000 m) (dg 10000 m)
/-- Digits. -/
def Dig (n : Nat) (f : Nat → Int) : Prop := ∀ i, i < n → 0 ≤ f i ∧ f i < ((10000 : Nat) : Int)
theorem dig_dg (m n : Nat) : Dig n (dg 10000 m) := fun i _ => dg_bounds 10000 m i (by decide)

theorem owns_nums {k : IntKind} {B : Nat} {w : World} {e : TypeId} {v : Value} {n : Nat} {f : Nat → Int} (h : w.ownsRow B e 1 v n (valsOf k f n)) (hl : n ≤ LIM) : Nums k w v n f := by
  rcases h.2 with ⟨rfl, rfl⟩ | ⟨g, cap, cur, rfl, hBg, hcur, hcap, hcm, hcs, htake⟩
  · exact Nums.nil _ _ _
  · refine ⟨_, _, rfl, hcap, hl, fun _ => ⟨_, _, rfl, fun i hi => ?_⟩⟩
    rw [Nat.zero_add, h.cellAt i (by omega), valsOf_at _ _ _ _ hi]

theorem sz_succ_zero' (f : Nat → Int) (k : Nat) (h : (f k == 0) = true) : sz f (k + 1) = sz f k := by
  have : f k = 0 := by simpa using h
  simp [sz, this]
theorem sz_succ_not' (f : Nat → Int) (k : Nat) (h : (f k == 0) = false) : sz f (k + 1) = k + 1 := by
  have : ¬ f k = 0 := by simpa using h
  simp [sz, this]

/-- A slice without an address has no room. -/
def NilC (v : Value) : Prop := ∀ n c, v = .slice none n c → c = 0
/-- The one slice begins where the other does. -/
def SameAt (v v' : Value) : Prop := ∀ a m c, v' = .slice (some a) m c → ∃ m' c', v = .slice (some a) m' c'
theorem nilC_owns {B : Nat} {w : World} {e : TypeId} {v : Value} {n : Nat} {xs : List Value} (h : w.ownsRow B e 1 v n xs) : NilC v := by
  rcases h.2 with ⟨rfl, rfl⟩ | ⟨g, cap, cur, rfl, _⟩
  · intro n c h; cases h; rfl
  · intro n c h; cases h

set_option maxRecDepth 20000 in
set_option maxHeartbeats 400000 in
theorem trim_nil (v : Value) (n : Nat) (f : Nat → Int) (w : World) (h : Nums .i64 w v n f) :
    Calls Tryd.prog 42 #[v] w fun e w' => ∃ v', e = .returned v' ∧ Nums .i64 w' v' (sz f n) f ∧ (NilC v → NilC v') ∧ SameAt v v' ∧ w' = w := by
  obtain ⟨ao, c, rfl, hnc, hl, h4⟩ := h
  unfold LIM at hl
  by_cases hn : n = 0
  · subst hn
    go_enter Tryd.func42, Tryd.ntmps42
    go_wp2
    go_rounds 1
    go_ret
    exact ⟨_, rfl, ⟨_, _, rfl, Nat.zero_le _, Nat.zero_le _, fun h => absurd h (by simp [sz])⟩, fun h => h, fun _ _ _ h => ⟨_, _, h⟩, rfl⟩
  · obtain ⟨b, off, rfl, hc⟩ := h4 (by omega)
    go_enter Tryd.func42, Tryd.ntmps42
    go_wp2
    go_loop [3] (fun v => ∃ k : Nat, k ≤ n ∧ v = .int .i64 k ∧ sz f n = sz f k) (fun v => (intOf v).toNat)
    case atStart => exact ⟨n, Nat.le_refl _, rfl, rfl⟩
    case round =>
      obtain ⟨k, hk, rfl, hs⟩ := hrel
      have HS : Hid (sz f n = sz f k) := hs
      clear hs
      cases k with
      | zero =>
        go_wp2
        go_ret
        refine ⟨_, rfl, ?_, fun _ _ _ h => by (cases h), fun _ _ _ h => by (cases h; exact ⟨_, _, rfl⟩), rfl⟩
        rw [HS.out]
        exact ⟨_, _, rfl, Nat.zero_le _, Nat.zero_le _, fun h => absurd h (by simp [sz])⟩
      | succ k =>
        have hcell := hc k (by omega)
        have h1 : ((k : Int) + 1 - 1) = k := by omega
        go_wp2
        · exact ⟨⟨k, by omega, rfl, by rw [HS.out]; exact sz_succ_zero' f k (by assumption)⟩, by simp [intOf]⟩
        · go_ret
          refine ⟨_, rfl, ?_, fun _ _ _ h => by (cases h), fun _ _ _ h => by (cases h; exact ⟨_, _, rfl⟩), rfl⟩
          rw [HS.out, sz_succ_not' f k (by assumption)]
          exact ⟨_, _, rfl, by omega, by unfold LIM; omega, fun _ => ⟨_, _, rfl, hc.mono hk⟩⟩

theorem trim_any (v : Value) (n : Nat) (f : Nat → Int) (w : World) (h : Nums .i64 w v n f) :
    Calls Tryd.prog 42 #[v] w fun e w' => ∃ v', e = .returned v' ∧ Nums .i64 w' v' (sz f n) f ∧ w' = w :=
  (trim_nil v n f w h).mono fun _ _ ⟨v', h1, h2, _, _, h4⟩ => ⟨v', h1, h2, h4⟩

set_option maxRecDepth 20000 in
set_option maxHeartbeats 400000 in
theorem digit_any (v : Value) (n : Nat) (f : Nat → Int) (w : World) (i : Nat) (h : Nums .i64 w v n f) (h1 : i ≤ LIM) :
    Calls Tryd.prog 54 #[v, .int .i64 (i : Int)] w fun e w' => e = .returned (.int .i64 (at0 f n i)) ∧ w' = w := by
  obtain ⟨ao, c, rfl, _, hl, h4⟩ := h
  unfold LIM at hl h1
  by_cases hi : i < n
  · obtain ⟨b, off, rfl, hc⟩ := h4 (by omega)
    have hcell := hc i hi
    go_enter Tryd.func54, Tryd.ntmps54
    go_wp2
    go_ret
    exact ⟨by simp [at0, hi], rfl⟩
  · go_enter Tryd.func54, Tryd.ntmps54
    go_wp2
    go_ret
    exact ⟨by simp [at0, hi], rfl⟩

theorem info_int : (Tryd.prog.info? 3).map (fun i => (i.zero, i.size, i.bytes)) = some (some (.int .i64 0), 1, 8) := by kernel_rfl

theorem small_end (x j : Nat) (h0 : x / 10000 ^ j = 0) (hj : 0 < j → x / 10000 ^ (j - 1) ≠ 0) : nl 10000 x = j := by
  have hlt : x < 10000 ^ j := by
    have := Nat.div_eq_zero_iff.1 h0
    rcases this with h | h
    · have := Nat.pow_pos (n := j) (show 0 < 10000 by omega); omega
    · exact h
  rw [nl_spec 10000 x j (by decide) hlt]
  refine sz_unique _ j j (Nat.le_refl _) (fun hp => ?_) (fun i h1 h2 => by omega)
  have h1 := hj hp
  unfold dg
  have hb : x / 10000 ^ (j - 1) < 10000 := by
    rw [Nat.div_lt_iff_lt_mul (Nat.pow_pos (by omega))]
    have : 10000 * 10000 ^ (j - 1) = 10000 ^ j := by rw [Nat.mul_comm, ← Nat.pow_succ]; congr 1; omega
    rw [this]; exact hlt
  rw [Nat.mod_eq_of_lt hb]; omega

set_option maxRecDepth 20000 in
set_option maxHeartbeats 1000000 in
theorem small_any (x : Nat) (w : World) (hx : x < 9223372036854775808) :
    Calls Tryd.prog 25 #[.int .i64 (x : Int)] w fun e w' => ∃ v, e = .returned v ∧ RepD w' v x ∧ Below w.heap.size w w' := by
  obtain ⟨i0, hi, hz0, hz1, hz2⟩ := info_parts info_int
  go_enter Tryd.func25, Tryd.ntmps25
  go_wp2
  go_loopw [0, 3] (fun vn v wr => ∃ j : Nat, j ≤ 20 ∧ vn = .int .i64 ((x / 10000 ^ j : Nat) : Int) ∧ (0 < j → x / 10000 ^ (j - 1) ≠ 0) ∧ wr.ownsRow w.heap.size 3 1 v j (valsOf .i64 (dg 10000 x) j) ∧ Below w.heap.size w wr) (fun vn _ _ => (intOf vn).toNat)
  case atStart => exact ⟨0, by omega, by simp, by omega, World.ownsRow_nil _ _ _ _, Below.refl _ _⟩
  case round =>
    obtain ⟨j, hj, rfl, hne, hown, hbel⟩ := hrel
    have HNE : Hid (0 < j → x / 10000 ^ (j - 1) ≠ 0) := hne
    clear hne
    have hs := hbel.size
    have hyx : x / 10000 ^ j ≤ x := Nat.div_le_self _ _
    by_cases hpos : 0 < x / 10000 ^ j
    · have hj4 : j < 5 := by
        by_cases g : j < 5
        · exact g
        · have h5 : 10000 ^ 5 ≤ 10000 ^ j := Nat.pow_le_pow_right (by omega) (by omega)
          have : x / 10000 ^ j = 0 := Nat.div_eq_of_lt (by omega)
          omega
      have hdg : Hid (((x / 10000 ^ j : Nat) : Int) % 10000 = dg 10000 x j) := by show _ = _; unfold dg; omega
      have hnx : Hid (x / 10000 ^ (j + 1) = x / 10000 ^ j / 10000) := by show _ = _; rw [Nat.pow_succ, Nat.div_div_eq_div_mul]
      have hnz : Hid (x / 10000 ^ j ≠ 0) := by show _ ≠ _; omega
      generalize hy : x / 10000 ^ j = y at *
      have hyi : (0 : Int) < (y : Int) := by omega
      go_wp2_with (at_builtin; refine wpList_append_own _ rfl _ _ 26 rfl w.heap.size 3 i0 (.int .i64 0) 1 8 Tryd.underlying26 hi hz0 hz1 hz2 rfl (by decide) _ _ _ rfl (hown.alloc _) ⟨wr.heap.size, 0, none⟩ 1 1 [.int .i64 ((y : Int) % 10000)] rfl rfl (cell_one_new _ _ _) ?c1 (by unfold maxLen; omega) (by omega) (by simp; omega) ?_)
      case c1 => intro u hu; simp at hu; subst hu; rfl
      intro v' w1 hown' hgrow _
      have hb1 : Below w.heap.size w w1 := (hbel.alloc hs _).grown hgrow (by simp; omega) (fun k e => (World.ownsRow.lt hown _ e).1)
      rw [hdg.out, valsOf_snoc, valsOf_congr .i64 (g := dg 10000 x) (fun i hi => by by_cases e : i = j; rw [e, put_same]; rw [put_other _ _ _ _ e])] at hown'
      clear hgrow hown
      go_wp2
      go_roundw
      case rel => exact ⟨j + 1, by omega, by rw [hnx.out]; simp, fun _ => by rw [Nat.add_sub_cancel, hy]; exact hnz.out, hown', hb1⟩
      case measure => simp [intOf]; omega
    · have hz : x / 10000 ^ j = 0 := Nat.le_zero.1 (Nat.not_lt.1 hpos)
      have he := small_end x j hz HNE.out
      have HE : Hid (nl 10000 x = j) := he
      rw [hz]
      clear he hz hpos hyx
      go_wp2
      go_ret
      refine ⟨_, rfl, ?_, hbel⟩
      unfold RepD
      rw [HE.out]; exact owns_nums hown (by unfold LIM; omega)

theorem cmpI_swap (a b : Int) : cmpI b a = 0 - cmpI a b := by
  rcases (show a < b ∨ a = b ∨ b < a by omega) with h | h | h
  · rw [cmpI_lt h, cmpI_gt h]; rfl
  · rw [cmpI_eq h, cmpI_eq h.symm]; rfl
  · rw [cmpI_gt h, cmpI_lt h]; rfl

set_option maxRecDepth 20000 in
set_option maxHeartbeats 1000000 in
theorem order_any (u v : Value) (x y : Nat) (w : World) (hu : RepD w u x) (hv : RepD w v y) :
    Calls Tryd.prog 28 #[u, v] w fun e w' => e = .returned (.int .i64 (cmpI x y)) ∧ Below w.heap.size w w' := by
  obtain ⟨ao, c, rfl, _, hl, h4⟩ := hu
  obtain ⟨bo, d, rfl, _, kl, k4⟩ := hv
  unfold LIM at hl kl
  by_cases hne : nl 10000 x = nl 10000 y
  · have hb : ((nl 10000 x : Int) != (nl 10000 y : Int)) = false := by simp [hne]
    by_cases h0 : nl 10000 x = 0
    · have h00 : nl 10000 y = 0 := by omega
      have e : Hid (x = y) := by show x = y; rw [(nl_eq_zero 10000 x (by decide)).1 h0, (nl_eq_zero 10000 y (by decide)).1 h00]
      clear hb h4 k4
      rw [h0, h00] at *
      go_enter Tryd.func28, Tryd.ntmps28
      go_wp2
      go_rounds 1
      go_ret
      exact ⟨ret_int (cmpI_eq (by rw [e.out])).symm, Below.refl _ _⟩
    · obtain ⟨b1, o1, rfl, hc⟩ := h4 (by omega)
      obtain ⟨b2, o2, rfl, kc⟩ := k4 (by omega)
      have HX : Hid (x < 10000 ^ nl 10000 y) := by show x < _; rw [← hne]; exact lt_pow_nl 10000 x (by decide)
      have HY : Hid (y < 10000 ^ nl 10000 y) := lt_pow_nl 10000 y (by decide)
      clear h4 k4
      rw [hne] at hc h0 hl ⊢
      clear hb hne
      generalize nl 10000 y = n at *
      have hb : ((n : Int) != (n : Int)) = false := by simp
      go_enter Tryd.func28, Tryd.ntmps28
      go_wp2
      go_loopw [5] (fun v wr => ∃ k : Nat, k ≤ n ∧ v = .int .i64 ((k : Int) - 1) ∧ x / 10000 ^ k = y / 10000 ^ k ∧ Below w.heap.size w wr) (fun v _ => (intOf v + 1).toNat)
      case atStart => exact ⟨n, Nat.le_refl _, rfl, by rw [Nat.div_eq_of_lt HX.out, Nat.div_eq_of_lt HY.out], Below.refl _ _⟩
      case round =>
        obtain ⟨k, hk, rfl, hdv, hbk⟩ := hrel
        have HD : Hid (x / 10000 ^ k = y / 10000 ^ k) := hdv
        clear hdv
        cases k with
        | zero =>
          go_wp2
          go_ret
          exact ⟨ret_int (cmpI_eq (by have := HD.out; simp at this; omega)).symm, hbk⟩
        | succ k =>
          have hcell : wr.cell? ⟨b1, o1 + k, none⟩ = some (.int .i64 (dg 10000 x k)) := (hbk.cell (hc.lt (by omega))).trans (hc k (by omega))
          have kcell : wr.cell? ⟨b2, o2 + k, none⟩ = some (.int .i64 (dg 10000 y k)) := (hbk.cell (kc.lt (by omega))).trans (kc k (by omega))
          have e1 : (((k + 1 : Nat) : Int) - 1) = (k : Int) := by omega
          rw [e1]
          have i1 : (0 : Int) ≤ (k : Int) := by omega
          have i2 : (k : Int) < (n : Int) := by omega
          by_cases hd : dg 10000 x k < dg 10000 y k
          · go_wp2
            go_quiet (fail)
            go_wp2
            go_ret
            exact ⟨ret_int ((cmpI_lt hd).symm.trans (cmp_digit _ _ _ _ HD.out (by omega))), below_drewN hbk _⟩
          · by_cases hg : dg 10000 y k < dg 10000 x k
            · go_wp2
              go_quiet (fail)
              go_wp2
              go_quiet (fail)
              go_wp2
              go_ret
              exact ⟨ret_int ((cmpI_gt hg).symm.trans (cmp_digit _ _ _ _ HD.out (by omega))), by simpa using below_drewN (below_drewN hbk _) _⟩
            · have hdd : Hid (dg 10000 x k = dg 10000 y k) := by show _ = _; omega
              go_wp2
              go_quiet (fail)
              go_wp2
              go_quiet (fail)
              go_wp2
              go_roundw
              case rel => exact ⟨k, by omega, rfl, same_digit _ _ _ _ HD.out hdd.out, by simpa using below_drewN (below_drewN hbk _) _⟩
              case measure => simp [intOf]
  · have hb : ((nl 10000 x : Int) != (nl 10000 y : Int)) = true := by rw [bne_iff_ne]; omega
    have hcn := cmp_nl 10000 x y (by decide) hne
    have HC : Hid (cmpI (nl 10000 x) (nl 10000 y) = cmpI x y) := hcn
    clear hcn
    by_cases hlt : nl 10000 x < nl 10000 y
    · have hlti : (nl 10000 x : Int) < (nl 10000 y : Int) := by omega
      go_enter Tryd.func28, Tryd.ntmps28
      go_wp2
      go_ret
      exact ⟨ret_int ((cmpI_lt hlti).symm.trans HC.out), Below.refl _ _⟩
    · have hlti : ¬ (nl 10000 x : Int) < (nl 10000 y : Int) := by omega
      go_enter Tryd.func28, Tryd.ntmps28
      go_wp2
      go_ret
      exact ⟨ret_int ((cmpI_gt (by omega)).symm.trans HC.out), Below.refl _ _⟩

end Go.Proofs.YthhabammejkjcaaDoor
