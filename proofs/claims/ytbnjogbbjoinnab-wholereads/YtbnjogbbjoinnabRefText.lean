/-
  What the document's own Text answers: a number's decimal digits.
-/
import Derived.Test.YtbnjogbbjoinnabPrintAll
import Derived.Test.YtbnjogbbjoinnabRef4
namespace Go.Proofs.Ytbnjogbbjoinnab
open Go.RowKit

theorem dd_ref (x i k : Nat) (hk : k < 4) : 48 + ((x / 10000 ^ i % 10000 / 10 ^ k % 10 : Nat) : Int) = dd x (4 * i + k) := by
  unfold dd
  have e1 : (10000 : Nat) ^ i = 10 ^ (4 * i) := by rw [Nat.pow_mul]
  have e2 : (10000 : Nat) = 10 ^ k * 10 ^ (4 - k) := by rw [← Nat.pow_add, show k + (4 - k) = 4 by omega]
  have e3 : x / 10000 ^ i % 10000 / 10 ^ k % 10 = x / 10 ^ (4 * i + k) % 10 := by
    rw [e1, Nat.pow_add, ← Nat.div_div_eq_div_mul]
    generalize x / 10 ^ (4 * i) = y
    have h1 : y % 10000 / 10 ^ k = y / 10 ^ k % 10 ^ (4 - k) := by
      have := Nat.mod_mul_right_div_self y (10 ^ k) (10 ^ (4 - k))
      rw [← e2] at this; exact this
    rw [h1]
    exact Nat.mod_mod_of_dvd _ (by
      refine ⟨10 ^ (4 - k - 1), ?_⟩
      rw [Nat.mul_comm, ← Nat.pow_succ]; congr 1; omega)
  rw [e3]

theorem txt_zero : txt 0 = { data := #[48] } := by
  have h : ndec 0 = 1 := by unfold ndec; rw [if_pos (nl_zero 10)]
  unfold txt
  rw [h]
  rfl

set_option maxRecDepth 20000 in
set_option maxHeartbeats 1000000 in
theorem refText_any (u : Value) (x : Nat) (w : World) (hu : RepD w u x) (hx : nl 10000 x ≤ 100000) :
    Calls Try.prog 36 #[u] w fun e w' => e = .returned (.string (txt x)) ∧ Below w.heap.size w w' := by
  obtain ⟨i0, hi0, hz0, hz1, hz2⟩ := info_parts info_u8
  obtain ⟨ao, c, rfl, hnc, hl, h4⟩ := hu
  have hxl := lt_pow_nl 10000 x (by decide)
  have hx0 : nl 10000 x = 0 → x = 0 := fun h => (nl_eq_zero 10000 x (by decide)).1 h
  generalize nl 10000 x = la at *
  have HXL : Hid (x < 10 ^ (4 * la)) := by
    show _ < _
    rw [Nat.pow_mul]; exact hxl
  have H4 := show Hid (0 < la → ∃ b off, ao = some ⟨b, off, none⟩ ∧ Cells w .i64 b off la (dg 10000 x)) from h4
  clear h4 hxl
  go_enter Try.func36, Try.ntmps36
  go_wp2
  go_loopw [3, 4] (fun vb vi wr => ∃ i : Nat, i ≤ la ∧ vi = .int .i64 (i : Int) ∧ wr.ownsRow w.heap.size 5 1 vb (4 * i) (valsOf .u8 (dd x) (4 * i)) ∧ Below w.heap.size w wr) (fun _ vi _ => la - (intOf vi).toNat)
  case atStart => exact ⟨0, Nat.zero_le _, rfl, World.ownsRow_nil _ _ _ _, Below.refl _ _⟩
  case round =>
    obtain ⟨i, hi, rfl, hown, hbel⟩ := hrel
    have hsz := hbel.size
    by_cases hlt : i < la
    · obtain ⟨b, off, rfl, hc⟩ := H4.out (by omega)
      have hcell : wr.cell? ⟨b, off + i, none⟩ = some (.int .i64 (dg 10000 x i)) := (hc.below hbel (hc.lt (by omega))) i hlt
      have hD : dg 10000 x i = ((x / 10000 ^ i % 10000 : Nat) : Int) := rfl
      have hdd := fun k hk => dd_ref x i k hk
      have hDl : x / 10000 ^ i % 10000 < 10000 := Nat.mod_lt _ (by omega)
      rw [hD] at hcell
      generalize x / 10000 ^ i % 10000 = D at *
      have HDD : Hid (∀ k, k < 4 → 48 + ((D / 10 ^ k % 10 : Nat) : Int) = dd x (4 * i + k)) := hdd
      clear hD hdd hc
      go_wp2
      go_loopw [3, 5, 6] (fun vb vx vk w2 => ∃ k : Nat, k ≤ 4 ∧ vk = .int .i64 (k : Int) ∧ vx = .int .i64 ((D / 10 ^ k : Nat) : Int) ∧ w2.ownsRow w.heap.size 5 1 vb (4 * i + k) (valsOf .u8 (dd x) (4 * i + k)) ∧ Below w.heap.size w w2) (fun _ _ vk _ => 4 - (intOf vk).toNat)
      case atStart => exact ⟨0, by omega, rfl, by simp, hown, hbel⟩
      case round =>
        clear hown hbel hcell hsz
        obtain ⟨k, hk, rfl, rfl, hown, hbel⟩ := hrel
        have hsz := hbel.size
        have hdk : D / 10 ^ k ≤ D := Nat.div_le_self _ _
        by_cases hk4 : k < 4
        · have hv := HDD.out k hk4
          have hnx : Hid (D / 10 ^ (k + 1) = D / 10 ^ k / 10) := by show _ = _; rw [Nat.pow_succ, Nat.div_div_eq_div_mul]
          generalize D / 10 ^ k = y at *
          have HVV : Hid (48 + ((y % 10 : Nat) : Int) = dd x (4 * i + k)) := hv
          have hyi : ((y % 10 : Nat) : Int) = (y : Int) % 10 := by omega
          rw [hyi] at HVV
          clear hv hyi
          go_wp2_with (at_builtin; refine wpList_append_own _ rfl _ _ 83 rfl w.heap.size 5 i0 (.int .u8 0) 1 1 Try.underlying83 hi0 hz0 hz1 hz2 rfl (by decide) _ _ _ rfl (hown.alloc _) ⟨wr.heap.size, 0, none⟩ 1 1 [.int .u8 (48 + (y : Int) % 10)] rfl rfl (cell_one_new _ _ _) ?c1 (by unfold maxLen; omega) (by omega) (by simp; omega) ?_)
          case c1 => first | rfl | (intro u hu; simp at hu; subst hu; rfl)
          intro v' w1 hown' hgrow _
          have hb1 : Below w.heap.size w w1 := (hbel.alloc hsz _).grown hgrow (by simp; omega) (fun k e => (World.ownsRow.lt hown _ e).1)
          rw [HVV.out, valsOf_snoc, valsOf_congr .u8 (g := dd x) (fun j hj => by by_cases e : j = 4 * i + k; rw [e, put_same]; rw [put_other _ _ _ _ e])] at hown'
          clear hgrow hown
          go_wp2
          go_roundw
          case rel => exact ⟨k + 1, by omega, by go_num, by rw [hnx.out]; simp, hown', hb1⟩
          case measure => simp [intOf]; omega
        · obtain rfl : k = 4 := by omega
          go_wp2
          go_roundw
          case rel => exact ⟨i + 1, by omega, by go_num, hown, hbel⟩
          case measure => simp [intOf]; omega
    · have hila : i = la := by omega
      subst hila
      by_cases hi00 : i = 0
      · have hx00 := hx0 hi00
        subst hi00
        subst hx00

        obtain ⟨ab, cb, rfl⟩ : ∃ ab cb, u3 = .slice ab 0 cb := by
          rcases hown.2 with ⟨h, _⟩ | ⟨g, cap, cur, h, _⟩
          · exact ⟨_, _, h⟩
          · exact ⟨_, _, h⟩
        go_wp2
        go_loop [7] (fun v => v = .int .i64 0) (fun _ => 0)
        case atStart => rfl
        case round =>
          subst hrel
          go_wp2
          go_ret
          exact ⟨by rw [txt_zero]; rfl, hbel⟩
      · obtain ⟨g, cap, cur, rfl, hgB, hgh, hcap, hcapm, hcs, htake⟩ : ∃ g cap cur, u3 = .slice (some ⟨g, 0, none⟩) (4 * i) cap ∧ w.heap.size ≤ g ∧ wr.heap[g]? = some (.cells cur 5 (0, 0)) ∧ 4 * i ≤ cap ∧ cap ≤ maxLen ∧ cur.size = cap * 1 ∧ cur.toList.take (4 * i * 1) = valsOf .u8 (dd x) (4 * i) := by
          rcases hown.2 with ⟨_, h⟩ | h
          · omega
          · exact h
        have hcells : ∀ j, j < 4 * i → wr.cell? ⟨g, j, none⟩ = some (.int .u8 (dd x j)) := fun j hj => by
          have h := hown.cells (g := g) rfl j _ (valsOf_at .u8 (dd x) (4 * i) j hj)
          have e : (⟨g, 0, none⟩ : Addr).add j = ⟨g, 0 + j, none⟩ := by unfold Addr.add; split <;> simp_all
          rw [e, Nat.zero_add] at h
          exact h
        have hglt := (World.ownsRow.lt hown g rfl).2
        have hN4 : 4 ≤ 4 * i ∧ 4 * i ≤ 400000 := by omega
        clear hown hgh hcs htake hcapm hx0 hi00 H4
        generalize 4 * i = N at *
        have HXN : Hid (x < 10 ^ N) := HXL
        have HC : Hid (∀ j, j < N → wr.cell? ⟨g, j, none⟩ = some (.int .u8 (dd x j))) := hcells
        clear HXL hcells
        go_wp2
        go_loop [7] (fun v => ∃ m : Nat, 1 ≤ m ∧ m ≤ N ∧ v = .int .i64 (m : Int) ∧ ∀ p, m ≤ p → p < N → dd x p = 48) (fun v => (intOf v).toNat)
        case atStart => exact ⟨N, by omega, Nat.le_refl _, rfl, fun p h1 h2 => by omega⟩
        case round =>
          obtain ⟨m, hm1, hmN, rfl, hz⟩ := hrel
          have HZ : Hid (∀ p, m ≤ p → p < N → dd x p = 48) := hz
          clear hz
          by_cases hlast : 1 < m
          · obtain ⟨q, rfl⟩ : ∃ q, m = q + 1 := ⟨m - 1, by omega⟩
            have hcq := HC.out q (by omega)
            have hg : decide ((1 : Int) < ((q + 1 : Nat) : Int)) = true := by simp; omega
            have hq1' : (((q + 1 : Nat) : Int) - 1) = (q : Int) := by omega
            by_cases h48 : dd x q = 48
            · have hbq : (dd x q == 48) = true := by simp [h48]
              have H48 : Hid (dd x q = 48) := h48
              clear h48
              go_wp2
              go_round
              case rel => exact ⟨q, by omega, by omega, by go_num, fun p h1 h2 => by by_cases e : p = q; exact e ▸ H48.out; exact HZ.out p (by omega) h2⟩
              case measure => simp [intOf]
            · have hbq : (dd x q == 48) = false := by simp [h48]
              have H48 : Hid (dd x q ≠ 48) := h48
              clear h48
              have HM : Hid (q + 1 = ndec x) := by
                show _ = _
                have h := strip_end x N (N - (q + 1)) HXN.out (by omega) (fun j hj => HZ.out (N - 1 - j) (by omega) (by omega)) (.inr (by rw [show N - 1 - (N - (q + 1)) = q by omega]; exact H48.out))
                rw [show N - (N - (q + 1)) = q + 1 by omega] at h
                exact h
              have hm0 : (((q + 1 : Nat) : Int) == 0) = false := by simp; omega
              have hq1 : (((q + 1 : Nat) : Int) - 1) = (q : Int) := by omega
              clear HZ HXN
              obtain ⟨W0, hW0⟩ : ∃ W0, W0 = wr := ⟨_, rfl⟩
              subst hW0
              go_wp2
              go_loopw [8, 9] (fun vo vi w2 => ∃ k : Nat, k ≤ q + 1 ∧ vi = .int .i64 ((k : Int) - 1) ∧ w2.ownsRow W0.heap.size 5 1 vo (q + 1 - k) (valsOf .u8 (fun j => dd x (q - j)) (q + 1 - k)) ∧ Below W0.heap.size W0 w2) (fun _ vi _ => (intOf vi + 1).toNat)
              case atStart => exact ⟨q + 1, Nat.le_refl _, by rw [hq1], by rw [Nat.sub_self]; exact World.ownsRow_nil _ _ _ _, Below.refl _ _⟩
              case round =>
                obtain ⟨k, hk, rfl, hown5, hbel5⟩ := hrel
                have hs5 := hbel5.size
                cases k with
                | zero =>
                  have e1 : (((0 : Nat) : Int) - 1) = -1 := by omega
                  obtain ⟨g5, cap5, rfl, hc5⟩ : ∃ g5 cap5, u8 = .slice (some ⟨g5, 0, none⟩) (q + 1) cap5 ∧ ∀ j, j < q + 1 → wr.cell? ⟨g5, 0 + j, none⟩ = some (.int .u8 (dd x (q - j))) := by
                    rcases hown5.2 with ⟨_, h⟩ | ⟨g5, cap5, cur5, h, _⟩
                    · omega
                    · refine ⟨g5, cap5, h, fun j hj => ?_⟩
                      have h2 := hown5.cells (g := g5) (by rw [h]; rfl) j _ (valsOf_at .u8 (fun j => dd x (q - j)) (q + 1 - 0) j (by omega))
                      have e : (⟨g5, 0, none⟩ : Addr).add j = ⟨g5, 0 + j, none⟩ := by unfold Addr.add; split <;> simp_all
                      rw [e] at h2
                      exact h2
                  have hconv := run_convert_bytes_arg (P := Try.prog) wr 83 5 Try.underlying83 Try.underlying5 g5 0 (q + 1) cap5 (decs x (q + 1)) (decs_length _ _)
                    (fun i hi => by rw [decs_at _ _ _ hi, show q + 1 - 1 - i = q - i by omega]; exact hc5 i hi) 9 Try.underlying9
                  clear hown5 hc5
                  go_wp2
                  go_ret
                  refine ⟨?_, hbel.trans (hbel5.mono hsz)⟩
                  show Ending.returned (.string (strOfNums (decs x (q + 1)))) = _
                  rw [HM.out]; rfl
                | succ k =>
                  have e1 : (((k + 1 : Nat) : Int) - 1) = (k : Int) := by omega
                  rw [e1]
                  have hck : wr.cell? ⟨g, k, none⟩ = some (.int .u8 (dd x k)) := (hbel5.cell hglt).trans (HC.out k (by omega))
                  have hkN : k < N := by omega
                  have hki : (0 : Int) ≤ (k : Int) := by omega
                  generalize hdk : dd x k = Y at *
                  go_wp2_with (at_builtin; refine wpList_append_own _ rfl _ _ 83 rfl W0.heap.size 5 i0 (.int .u8 0) 1 1 Try.underlying83 hi0 hz0 hz1 hz2 rfl (by decide) _ _ _ rfl (hown5.alloc _) ⟨wr.heap.size, 0, none⟩ 1 1 [.int .u8 Y] rfl rfl (cell_one_new _ _ _) ?c1 (by unfold maxLen; omega) (by omega) (by simp; omega) ?_)
                  case c1 => first | rfl | (intro u hu; simp at hu; subst hu; rfl)
                  intro v' w1 hown' hgrow _
                  have hb1 : Below W0.heap.size W0 w1 := (hbel5.alloc hs5 _).grown hgrow (by simp; omega) (fun k e => (World.ownsRow.lt hown5 _ e).1)
                  rw [← hdk, valsOf_snoc, valsOf_congr .u8 (g := fun j => dd x (q - j)) (fun j hj => by by_cases e : j = q - k; rw [e, put_same, show q - (q - k) = k by omega]; rw [put_other _ _ _ _ e]), show q - k + 1 = q + 1 - k by omega] at hown'
                  clear hgrow hown5
                  go_wp2
                  go_roundw
                  case rel => exact ⟨k, by omega, by go_num, hown', hb1⟩
                  case measure => simp [intOf]
          · obtain ⟨q, rfl⟩ : ∃ q, m = q + 1 := ⟨m - 1, by omega⟩
            have hg : decide ((1 : Int) < ((q + 1 : Nat) : Int)) = false := by simp; omega
            have HM : Hid (q + 1 = ndec x) := by
              show _ = _
              have h := strip_end x N (N - (q + 1)) HXN.out (by omega) (fun j hj => HZ.out (N - 1 - j) (by omega) (by omega)) (.inl (by omega))
              rw [show N - (N - (q + 1)) = q + 1 by omega] at h
              exact h
            have hm0 : (((q + 1 : Nat) : Int) == 0) = false := by simp; omega
            have hq1 : (((q + 1 : Nat) : Int) - 1) = (q : Int) := by omega
            clear HZ HXN
            obtain ⟨W0, hW0⟩ : ∃ W0, W0 = wr := ⟨_, rfl⟩
            subst hW0
            go_wp2
            go_loopw [8, 9] (fun vo vi w2 => ∃ k : Nat, k ≤ q + 1 ∧ vi = .int .i64 ((k : Int) - 1) ∧ w2.ownsRow W0.heap.size 5 1 vo (q + 1 - k) (valsOf .u8 (fun j => dd x (q - j)) (q + 1 - k)) ∧ Below W0.heap.size W0 w2) (fun _ vi _ => (intOf vi + 1).toNat)
            case atStart => exact ⟨q + 1, Nat.le_refl _, by rw [hq1], by rw [Nat.sub_self]; exact World.ownsRow_nil _ _ _ _, Below.refl _ _⟩
            case round =>
              obtain ⟨k, hk, rfl, hown5, hbel5⟩ := hrel
              have hs5 := hbel5.size
              cases k with
              | zero =>
                have e1 : (((0 : Nat) : Int) - 1) = -1 := by omega
                obtain ⟨g5, cap5, rfl, hc5⟩ : ∃ g5 cap5, u8 = .slice (some ⟨g5, 0, none⟩) (q + 1) cap5 ∧ ∀ j, j < q + 1 → wr.cell? ⟨g5, 0 + j, none⟩ = some (.int .u8 (dd x (q - j))) := by
                  rcases hown5.2 with ⟨_, h⟩ | ⟨g5, cap5, cur5, h, _⟩
                  · omega
                  · refine ⟨g5, cap5, h, fun j hj => ?_⟩
                    have h2 := hown5.cells (g := g5) (by rw [h]; rfl) j _ (valsOf_at .u8 (fun j => dd x (q - j)) (q + 1 - 0) j (by omega))
                    have e : (⟨g5, 0, none⟩ : Addr).add j = ⟨g5, 0 + j, none⟩ := by unfold Addr.add; split <;> simp_all
                    rw [e] at h2
                    exact h2
                have hconv := run_convert_bytes_arg (P := Try.prog) wr 83 5 Try.underlying83 Try.underlying5 g5 0 (q + 1) cap5 (decs x (q + 1)) (decs_length _ _)
                  (fun i hi => by rw [decs_at _ _ _ hi, show q + 1 - 1 - i = q - i by omega]; exact hc5 i hi) 9 Try.underlying9
                clear hown5 hc5
                go_wp2
                go_ret
                refine ⟨?_, hbel.trans (hbel5.mono hsz)⟩
                show Ending.returned (.string (strOfNums (decs x (q + 1)))) = _
                rw [HM.out]; rfl
              | succ k =>
                have e1 : (((k + 1 : Nat) : Int) - 1) = (k : Int) := by omega
                rw [e1]
                have hck : wr.cell? ⟨g, k, none⟩ = some (.int .u8 (dd x k)) := (hbel5.cell hglt).trans (HC.out k (by omega))
                have hkN : k < N := by omega
                have hki : (0 : Int) ≤ (k : Int) := by omega
                generalize hdk : dd x k = Y at *
                go_wp2_with (at_builtin; refine wpList_append_own _ rfl _ _ 83 rfl W0.heap.size 5 i0 (.int .u8 0) 1 1 Try.underlying83 hi0 hz0 hz1 hz2 rfl (by decide) _ _ _ rfl (hown5.alloc _) ⟨wr.heap.size, 0, none⟩ 1 1 [.int .u8 Y] rfl rfl (cell_one_new _ _ _) ?c1 (by unfold maxLen; omega) (by omega) (by simp; omega) ?_)
                case c1 => first | rfl | (intro u hu; simp at hu; subst hu; rfl)
                intro v' w1 hown' hgrow _
                have hb1 : Below W0.heap.size W0 w1 := (hbel5.alloc hs5 _).grown hgrow (by simp; omega) (fun k e => (World.ownsRow.lt hown5 _ e).1)
                rw [← hdk, valsOf_snoc, valsOf_congr .u8 (g := fun j => dd x (q - j)) (fun j hj => by by_cases e : j = q - k; rw [e, put_same, show q - (q - k) = k by omega]; rw [put_other _ _ _ _ e]), show q - k + 1 = q + 1 - k by omega] at hown'
                clear hgrow hown5
                go_wp2
                go_roundw
                case rel => exact ⟨k, by omega, by go_num, hown', hb1⟩
                case measure => simp [intOf]

end Go.Proofs.Ytbnjogbbjoinnab
