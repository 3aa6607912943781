/-
  What the document's own Parse answers.
-/
import Derived.Test.YtbnjogbbjoinnabRef4
namespace Go.Proofs.Ytbnjogbbjoinnab
open Go.RowKit

/-- Of a number's digits the first ones are the number divided by a power of ten. -/
theorem dval_div (s : ByteArray) (n k : Nat) (h : ∀ i, i < n → isDig s i) (hk : k ≤ n) : dval s n / 10 ^ k = dval s (n - k) := by
  induction k with
  | zero => simp
  | succ k ih =>
    rw [Nat.pow_succ, ← Nat.div_div_eq_div_mul, ih (by omega)]
    obtain ⟨m, hm⟩ : ∃ m, n - k = m + 1 := ⟨n - k - 1, by omega⟩
    have h2 := h m (by omega)
    rw [hm, show n - (k + 1) = m by omega]
    simp only [dval]
    unfold isDig at h2
    omega

theorem dval_dg (s : ByteArray) (j : Nat) (h : ∀ i, i < s.size → isDig s i) (hj : 4 * j ≤ s.size) : dg 10000 (dval s s.size) j = ((dval s (s.size - 4 * j) % 10000 : Nat) : Int) := by
  unfold dg
  rw [show (10000 : Nat) ^ j = 10 ^ (4 * j) by rw [Nat.pow_mul], dval_div s _ _ h hj]

theorem not_empty (s : ByteArray) (h : 0 < s.size) : s.toList.isEmpty = false := by
  rw [Lib.toList_data]
  have : s.size = s.data.toList.length := by simp
  rw [this] at h
  cases hs : s.data.toList
  · rw [hs] at h; simp at h
  · rfl

set_option maxRecDepth 20000 in
set_option maxHeartbeats 1000000 in
theorem refParse_form (s : ByteArray) (w : World) (hd : digitsB s = false) (hl : s.size ≤ 10000000) :
    Calls Try.prog 37 #[.string s] w fun e w' => e = .returned (.tuple #[.slice none 0 0, .int .i64 4]) ∧ w' = w := by
  by_cases h0 : s.size = 0
  · have he : s = ByteArray.empty := ByteArray.size_eq_zero_iff.1 h0
    subst he
    go_enter Try.func37, Try.ntmps37
    go_wp2
    go_ret2
    exact ⟨rfl, rfl⟩
  · have hem := not_empty s (by omega)
    go_enter Try.func37, Try.ntmps37
    go_wp2
    go_loop [4] (fun v => ∃ i : Nat, i ≤ s.size ∧ v = .int .i64 (i : Int) ∧ ∀ p, p < i → isDig s p) (fun v => s.size - (intOf v).toNat)
    case atStart => exact ⟨0, Nat.zero_le _, rfl, fun p hp => by omega⟩
    case round =>
      obtain ⟨i, hi, rfl, hdig⟩ := hrel
      have HD : Hid (∀ p, p < i → isDig s p) := hdig
      clear hdig
      by_cases hlt : i < s.size
      · by_cases h1 : (s[i]).toNat < 48
        · have h1i : ((s[i]).toNat : Int) < 48 := by omega
          go_wp2
          go_ret2
          exact ⟨rfl, rfl⟩
        · have h1i : ¬ ((s[i]).toNat : Int) < 48 := by omega
          by_cases h2 : 57 < (s[i]).toNat
          · have h2i : (57 : Int) < ((s[i]).toNat : Int) := by omega
            go_wp2
            go_ret2
            exact ⟨rfl, rfl⟩
          · have h2i : ¬ (57 : Int) < ((s[i]).toNat : Int) := by omega
            go_wp2
            exact ⟨⟨i + 1, by omega, rfl, fun p hp => by
              by_cases e : p = i
              · subst e; unfold isDig; rw [byte_at s p hlt]; omega
              · exact HD.out p (by omega)⟩, by simp [intOf]; omega⟩
      · exfalso
        have := digitsB_yes s (fun p hp => HD.out p (by omega))
        rw [hd, decide_eq_true (show 0 < s.size by omega)] at this
        cases this

/-- Digits from one place to another: what they add to the number. -/
theorem dval_part (s : ByteArray) (a i : Nat) (x : Nat) (h : dval s i = dval s a * 10 ^ (i - a) + x) (hi : a ≤ i) :
    dval s (i + 1) = dval s a * 10 ^ (i + 1 - a) + (10 * x + ((s.data.toList.getD i 0).toNat - 48)) := by
  simp only [dval]
  rw [h, show i + 1 - a = (i - a) + 1 by omega, Nat.pow_succ, Nat.add_mul, Nat.mul_assoc]; omega

set_option maxRecDepth 20000 in
set_option maxHeartbeats 2000000 in
theorem refParse_yes (s : ByteArray) (w : World) (hl : s.size ≤ 10000) (hd : digitsB s = true) :
    Calls Try.prog 37 #[.string s] w fun e w' => ∃ v, e = .returned (.tuple #[v, .int .i64 0]) ∧ RepD w' v (dval s s.size) ∧ Below w.heap.size w w' := by
  obtain ⟨i0, hi0, hz0, hz1, hz2⟩ := info_parts info_int
  have hdd : 0 < s.size ∧ ∀ i, i < s.size → isDig s i := by simpa [digitsB] using hd
  obtain ⟨hpos, hall⟩ := hdd
  have HA : Hid (∀ i, i < s.size → isDig s i) := hall
  have HB : Hid (∀ i (h : i < s.size), 48 ≤ (s[i]).toNat ∧ (s[i]).toNat ≤ 57) := fun i h => by have := hall i h; unfold isDig at this; rw [byte_at s i h] at this; exact this
  have HLT : Hid (dval s s.size < 10 ^ s.size) := dval_lt s _ hall
  have hem := not_empty s hpos
  clear hd hall
  go_enter Try.func37, Try.ntmps37
  go_wp2
  go_loop [4] (fun v => ∃ i : Nat, i ≤ s.size ∧ v = .int .i64 (i : Int)) (fun v => s.size - (intOf v).toNat)
  case atStart => exact ⟨0, Nat.zero_le _, rfl⟩
  case round =>
    obtain ⟨i, hi, rfl⟩ := hrel
    by_cases hlt : i < s.size
    · obtain ⟨b1, b2⟩ := HB.out i hlt
      have h1i : ¬ ((s[i]).toNat : Int) < 48 := by omega
      have h2i : ¬ (57 : Int) < ((s[i]).toNat : Int) := by omega
      go_wp2
      exact ⟨⟨i + 1, by omega, rfl⟩, by simp [intOf]; omega⟩
    · have his : i = s.size := by omega
      subst his
      have hnl : ¬ (10000 : Int) < (s.size : Int) := by omega
      go_wp2
      go_loopw [5, 6] (fun v ve wr => ∃ j : Nat, ve = .int .i64 ((s.size : Int) - 4 * (j : Int)) ∧ 4 * j < s.size + 4 ∧ wr.ownsRow w.heap.size 3 1 v j (valsOf .i64 (dg 10000 (dval s s.size)) j) ∧ Below w.heap.size w wr) (fun _ ve _ => (intOf ve + 4).toNat)
      case atStart => exact ⟨0, by simp, by omega, World.ownsRow_nil _ _ _ _, Below.refl _ _⟩
      case round =>
        obtain ⟨j, rfl, hj, hown, hbel⟩ := hrel
        have hsz := hbel.size
        by_cases hend : 4 * j < s.size
        · obtain ⟨E, hE⟩ : ∃ E : Nat, E = s.size - 4 * j := ⟨_, rfl⟩
          obtain ⟨A, hA⟩ : ∃ A : Nat, A = E - 4 := ⟨_, rfl⟩
          have hEi : (s.size : Int) - 4 * (j : Int) = (E : Int) := by omega
          rw [hEi]
          have hE0 : (0 : Int) < (E : Int) := by omega
          have hdgE : Hid (dg 10000 (dval s s.size) j = ((dval s E % 10000 : Nat) : Int)) := by show _ = _; rw [hE]; exact dval_dg s j HA.out (by omega)
          have hEs : E ≤ s.size := by omega
          have hAE : A ≤ E ∧ E ≤ A + 4 := by omega
          have hA0 : A = 0 ∨ E = A + 4 := by omega
          have hEn : Hid (((s.size : Int) - 4 * ((j + 1 : Nat) : Int)) = (E : Int) - 4) := by show _ = _; omega
          have hE5 : E < 4 → A = 0 := by omega
          have hE6 : ¬ E < 4 → (E : Int) - 4 = (A : Int) := by omega
          clear hE hA hEi
          by_cases hE4 : E < 4
          · have hA00 : A = 0 := hE5 hE4
            have hf : (E : Int) - 4 < 0 := by omega
            go_wp2
            go_loop [8, 9] (fun vx vi => ∃ i x : Nat, A ≤ i ∧ i ≤ E ∧ vx = .int .i64 (x : Int) ∧ vi = .int .i64 (i : Int) ∧ dval s i = dval s A * 10 ^ (i - A) + x ∧ x < 10 ^ (i - A)) (fun _ vi => E - (intOf vi).toNat)
            case atStart => exact ⟨A, 0, Nat.le_refl _, hAE.1, rfl, by rw [hA00]; rfl, by simp, by simp⟩
            case round =>
              obtain ⟨i, x, hi1, hi2, rfl, rfl, hv, hx⟩ := hrel
              have HV : Hid (dval s i = dval s A * 10 ^ (i - A) + x) := hv
              have HX : Hid (x < 10 ^ (i - A)) := hx
              clear hv hx
              by_cases hlt : i < E
              · have hx3 : x < 1000 := Nat.lt_of_lt_of_le HX.out (Nat.pow_le_pow_right (n := 10) (i := i - A) (j := 3) (by omega) (by omega))
                have his : i < s.size := by omega
                obtain ⟨b1, b2⟩ := HB.out i his
                have hpt := dval_part s A i x HV.out hi1
                rw [byte_at s i his] at hpt
                have HPT : Hid (dval s (i + 1) = dval s A * 10 ^ (i + 1 - A) + (10 * x + ((s[i]).toNat - 48))) := hpt
                clear hpt
                go_wp2
                refine ⟨⟨i + 1, 10 * x + ((s[i]).toNat - 48), by omega, by omega, ?_, rfl, HPT.out, ?_⟩, by simp [intOf]; omega⟩
                · congr 1; omega
                · have := HX.out
                  rw [show i + 1 - A = (i - A) + 1 by omega, Nat.pow_succ]; omega
              · have hiE : i = E := by omega
                subst hiE
                have hxm : Hid ((x : Int) = dg 10000 (dval s s.size) j) := by
                  show _ = _
                  rw [hdgE.out]
                  have h1 := HV.out
                  have h2 := HX.out
                  rcases hA0 with e | e
                  · rw [e] at h1 h2
                    simp only [dval] at h1
                    have h3 : (10 : Nat) ^ (i - 0) ≤ 10 ^ 4 := Nat.pow_le_pow_right (by omega) (by omega)
                    omega
                  · rw [show i - A = 4 by omega] at h1 h2
                    omega
                have hx4 : x < 10000 := Nat.lt_of_lt_of_le HX.out (Nat.pow_le_pow_right (n := 10) (i := i - A) (j := 4) (by omega) (by omega))
                go_wp2_with (at_builtin; refine wpList_append_own _ rfl _ _ 33 rfl w.heap.size 3 i0 (.int .i64 0) 1 8 Try.underlying33 hi0 hz0 hz1 hz2 rfl (by decide) _ _ _ rfl (hown.alloc _) ⟨wr.heap.size, 0, none⟩ 1 1 [.int .i64 (x : Int)] rfl rfl (cell_one_new _ _ _) ?c1 (by unfold maxLen; omega) (by omega) (by simp; omega) ?_)
                case c1 => first | rfl | (intro u hu; simp at hu; subst hu; rfl)
                intro v' w1 hown' hgrow _
                have hb1 : Below w.heap.size w w1 := (hbel.alloc hsz _).grown hgrow (by simp; omega) (fun k e => (World.ownsRow.lt hown _ e).1)
                rw [hxm.out, valsOf_snoc, valsOf_congr .i64 (g := dg 10000 (dval s s.size)) (fun i hi => by by_cases e : i = j; rw [e, put_same]; rw [put_other _ _ _ _ e])] at hown'
                clear hgrow hown
                go_wp2
                go_roundw
                case rel => exact ⟨j + 1, by rw [hEn.out], by omega, hown', hb1⟩
                case measure => simp [intOf]; omega
          · have hf : ¬ (E : Int) - 4 < 0 := by omega
            have hAi : (E : Int) - 4 = (A : Int) := hE6 hE4
            go_wp2
            go_loop [8, 9] (fun vx vi => ∃ i x : Nat, A ≤ i ∧ i ≤ E ∧ vx = .int .i64 (x : Int) ∧ vi = .int .i64 (i : Int) ∧ dval s i = dval s A * 10 ^ (i - A) + x ∧ x < 10 ^ (i - A)) (fun _ vi => E - (intOf vi).toNat)
            case atStart => exact ⟨A, 0, Nat.le_refl _, hAE.1, rfl, by rw [← hAi], by simp, by simp⟩
            case round =>
              obtain ⟨i, x, hi1, hi2, rfl, rfl, hv, hx⟩ := hrel
              have HV : Hid (dval s i = dval s A * 10 ^ (i - A) + x) := hv
              have HX : Hid (x < 10 ^ (i - A)) := hx
              clear hv hx
              by_cases hlt : i < E
              · have hx3 : x < 1000 := Nat.lt_of_lt_of_le HX.out (Nat.pow_le_pow_right (n := 10) (i := i - A) (j := 3) (by omega) (by omega))
                have his : i < s.size := by omega
                obtain ⟨b1, b2⟩ := HB.out i his
                have hpt := dval_part s A i x HV.out hi1
                rw [byte_at s i his] at hpt
                have HPT : Hid (dval s (i + 1) = dval s A * 10 ^ (i + 1 - A) + (10 * x + ((s[i]).toNat - 48))) := hpt
                clear hpt
                go_wp2
                refine ⟨⟨i + 1, 10 * x + ((s[i]).toNat - 48), by omega, by omega, ?_, rfl, HPT.out, ?_⟩, by simp [intOf]; omega⟩
                · congr 1; omega
                · have := HX.out
                  rw [show i + 1 - A = (i - A) + 1 by omega, Nat.pow_succ]; omega
              · have hiE : i = E := by omega
                subst hiE
                have hxm : Hid ((x : Int) = dg 10000 (dval s s.size) j) := by
                  show _ = _
                  rw [hdgE.out]
                  have h1 := HV.out
                  have h2 := HX.out
                  rcases hA0 with e | e
                  · rw [e] at h1 h2
                    simp only [dval] at h1
                    have h3 : (10 : Nat) ^ (i - 0) ≤ 10 ^ 4 := Nat.pow_le_pow_right (by omega) (by omega)
                    omega
                  · rw [show i - A = 4 by omega] at h1 h2
                    omega
                have hx4 : x < 10000 := Nat.lt_of_lt_of_le HX.out (Nat.pow_le_pow_right (n := 10) (i := i - A) (j := 4) (by omega) (by omega))
                go_wp2_with (at_builtin; refine wpList_append_own _ rfl _ _ 33 rfl w.heap.size 3 i0 (.int .i64 0) 1 8 Try.underlying33 hi0 hz0 hz1 hz2 rfl (by decide) _ _ _ rfl (hown.alloc _) ⟨wr.heap.size, 0, none⟩ 1 1 [.int .i64 (x : Int)] rfl rfl (cell_one_new _ _ _) ?c1 (by unfold maxLen; omega) (by omega) (by simp; omega) ?_)
                case c1 => first | rfl | (intro u hu; simp at hu; subst hu; rfl)
                intro v' w1 hown' hgrow _
                have hb1 : Below w.heap.size w w1 := (hbel.alloc hsz _).grown hgrow (by simp; omega) (fun k e => (World.ownsRow.lt hown _ e).1)
                rw [hxm.out, valsOf_snoc, valsOf_congr .i64 (g := dg 10000 (dval s s.size)) (fun i hi => by by_cases e : i = j; rw [e, put_same]; rw [put_other _ _ _ _ e])] at hown'
                clear hgrow hown
                go_wp2
                go_roundw
                case rel => exact ⟨j + 1, by rw [hEn.out, hAi], by omega, hown', hb1⟩
                case measure => simp [intOf]; omega
        · have hle : ¬ (0 : Int) < (s.size : Int) - 4 * (j : Int) := by omega
          have hN : Nums .i64 wr _ j (dg 10000 (dval s s.size)) := owns_nums hown (by unfold LIM; omega)
          have hlt : dval s s.size < 10000 ^ j := by
            refine Nat.lt_of_lt_of_le HLT.out ?_
            rw [show (10000 : Nat) ^ j = 10 ^ (4 * j) by rw [Nat.pow_mul]]
            exact Nat.pow_le_pow_right (by omega) (by omega)
          have hnl : Hid (nl 10000 (dval s s.size) = sz (dg 10000 (dval s s.size)) j) := nl_spec 10000 _ _ (by decide) hlt
          clear hlt
          go_wp2_with (go_at_call 46; refine (trim_any _ _ _ _ hN).mono ?_; rintro e w3 ⟨r, rfl, hr, rfl⟩)
          go_ret2
          refine ⟨_, rfl, ?_, hbel⟩
          unfold RepD
          rw [hnl.out]; exact hr

end Go.Proofs.Ytbnjogbbjoinnab
