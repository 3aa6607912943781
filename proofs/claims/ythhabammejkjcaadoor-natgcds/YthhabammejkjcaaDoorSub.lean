/-
  What nat.takeFrom and Sub do: differences.
-/
import Derived.Test.YthhabammejkjcaaDoorSum
namespace Go.Proofs.YthhabammejkjcaaDoor
open Go.RowKit

theorem take_step (B : Nat) (h g : Nat → Int) (N i : Nat) (c t S : Int) (hi : i < N) (ht : t = h i - g i - c) (hv : val B h N - c * (B : Int) ^ i = S - val B g i) :
    val B (put h i (t % B)) N - (0 - t / B) * (B : Int) ^ (i + 1) = S - val B g (i + 1) := by
  have e1 : (B : Int) ^ (i + 1) = (B : Int) ^ i * B := Int.pow_succ _ _
  rw [val_put B h N i _ hi, e1, Int.zero_sub, Int.neg_mul, Int.sub_neg, carry_step, ht]
  simp only [val]
  have e2 : (h i - g i - c - h i) * (B : Int) ^ i = 0 - (g i * (B : Int) ^ i) - c * (B : Int) ^ i := by rw [show h i - g i - c - h i = 0 - g i - c by omega, Int.sub_mul, Int.sub_mul, Int.zero_mul]
  rw [e2]; omega
theorem take_on (B : Nat) (h : Nat → Int) (N i : Nat) (c t S : Int) (hi : i < N) (ht : t = h i - c) (hv : val B h N - c * (B : Int) ^ i = S) :
    val B (put h i (t % B)) N - (0 - t / B) * (B : Int) ^ (i + 1) = S := by
  have e1 : (B : Int) ^ (i + 1) = (B : Int) ^ i * B := Int.pow_succ _ _
  rw [val_put B h N i _ hi, e1, Int.zero_sub, Int.neg_mul, Int.sub_neg, carry_step, ht]
  rw [show h i - c - h i = 0 - c by omega, Int.sub_mul, Int.zero_mul]; omega

/-- What a difference of limbs is in 64 bits: its lowest 32, and its highest one. -/
theorem wrap_diff (a x b : Int) (ha0 : 0 ≤ a) (ha : a < 4294967296) (hx0 : 0 ≤ x) (hx : x < 4294967296) (hb0 : 0 ≤ b) (hb : b ≤ 1) :
    bits .and .u64 (IntKind.u64.wrap (IntKind.u64.wrap (a - x) - b)) 4294967295 = (a - x - b) % 4294967296 ∧ IntKind.u64.wrap (IntKind.u64.wrap (a - x) - b) / 9223372036854775808 = 0 - (a - x - b) / 4294967296 := by
  have e : IntKind.u64.wrap (IntKind.u64.wrap (a - x) - b) = (a - x - b) % 18446744073709551616 := by
    rw [IntKind.wrap_u64, IntKind.wrap_u64]; omega
  rw [e, and_mask _ (by omega) (by omega)]
  constructor <;> omega
theorem wrap_diff1 (a b : Int) (ha0 : 0 ≤ a) (ha : a < 4294967296) (hb0 : 0 ≤ b) (hb : b ≤ 1) :
    bits .and .u64 (IntKind.u64.wrap (a - b)) 4294967295 = (a - b) % 4294967296 ∧ IntKind.u64.wrap (a - b) / 9223372036854775808 = 0 - (a - b) / 4294967296 := by
  have e : IntKind.u64.wrap (a - b) = (a - b) % 18446744073709551616 := IntKind.wrap_u64 _
  rw [e, and_mask _ (by omega) (by omega)]
  constructor <;> omega

theorem no_borrow (B : Nat) (h : Nat → Int) (N : Nat) (c S : Int) (hb : ∀ i, i < N → 0 ≤ h i ∧ h i < (B : Int)) (hc0 : 1 ≤ c) (hB : 0 < B) (hv : val B h N - c * (B : Int) ^ N = S) (hS : 0 ≤ S) : False := by
  have h1 := (val_bounds B h N hb).2
  have h2 := powB_pos B hB N
  have h3 := Int.mul_le_mul_of_nonneg_right hc0 (Int.le_of_lt h2)
  rw [Int.one_mul] at h3
  omega

set_option maxRecDepth 20000 in
set_option maxHeartbeats 1000000 in
theorem takeFrom_any (g off N c : Nat) (v : Value) (lb : Nat) (f fb : Nat → Int) (w : World) (hl : N ≤ LIM) (hlb : lb ≤ N)
    (hc : Cells w .u64 g off N f) (hs : Soft w g off N) (hf : U32 N f) (hv : Nums .u64 w v lb fb) (hb : U32 lb fb) (hne : 0 < lb → ∀ b o c, v = .slice (some ⟨b, o, none⟩) lb c → b ≠ g)
    (hfit : val W32 fb lb ≤ val W32 f N) :
    Calls Tryd.prog 85 #[.slice (some ⟨g, off, none⟩) N c, v] w fun e w' => e = .returned (.tuple #[]) ∧ ∃ (h : Nat → Int), Cells w' .u64 g off N h ∧ U32 N h ∧ val W32 h N = val W32 f N - val W32 fb lb ∧ Upd w w' g off N := by
  obtain ⟨bo, d, rfl, hd, kl, k4⟩ := hv
  unfold LIM at hl
  have K4 := show Hid (0 < lb → ∃ b off, bo = some ⟨b, off, none⟩ ∧ Cells w .u64 b off lb fb) from k4
  have HNE := show Hid (0 < lb → ∀ b o c, Value.slice bo lb d = .slice (some ⟨b, o, none⟩) lb c → b ≠ g) from hne
  have HF := show Hid (val W32 fb lb ≤ val W32 f N) from hfit
  clear k4 hne hfit
  go_enter Tryd.func85, Tryd.ntmps85
  go_wp2
  go_loopw [4, 12] (fun vc vi wr => ∃ (i : Nat) (cr : Int) (h : Nat → Int), i ≤ lb ∧ vc = .int .u64 cr ∧ vi = .int .i64 (i : Int) ∧ 0 ≤ cr ∧ cr ≤ 1 ∧ Cells wr .u64 g off N h ∧ U32 N h ∧
      val W32 h N - cr * (W32 : Int) ^ i = val W32 f N - val W32 fb i ∧ Upd w wr g off N) (fun _ vi _ => lb - (intOf vi).toNat)
  case atStart => exact ⟨0, 0, f, Nat.zero_le _, rfl, rfl, Int.le_refl _, by decide, hc, hf, by simp [val], Upd.refl _ _ _ _⟩
  case round =>
    obtain ⟨i, cr, h, hi, rfl, rfl, hc0, hc1, hch, huh, hval, hupd⟩ := hrel
    have HV : Hid (val W32 h N - cr * (W32 : Int) ^ i = val W32 f N - val W32 fb i) := hval
    clear hval
    by_cases hlt : i < lb
    · obtain ⟨b2, o2, rfl, kc⟩ := K4.out (by omega)
      have hbne := HNE.out (by omega) b2 o2 d rfl
      have hcb : wr.cell? ⟨b2, o2 + i, none⟩ = some (.int .u64 (fb i)) := (kc.upd hupd (.inl hbne)) i hlt
      have hca := hch i (by omega)
      have hfr := (hs.upd (hc.lt (by omega)) hupd) i (by omega)
      have bx := hb i hlt
      have bh := huh i (by omega)
      unfold W32 at bx bh
      obtain ⟨hm, hq⟩ := wrap_diff (h i) (fb i) cr bh.1 bh.2 bx.1 bx.2 hc0 hc1
      go_wp2
      go_roundw
      case rel =>
        refine ⟨i + 1, 0 - (h i - fb i - cr) / (W32 : Int), put h i ((h i - fb i - cr) % (W32 : Int)), by omega, by simp [W32], by go_num, by unfold W32; omega, by unfold W32; omega, hch.set i (by omega) _, put_bounds huh (by unfold W32; omega) (by unfold W32; omega), ?_, ?_⟩
        · exact take_step W32 h fb N i cr _ _ (by omega) rfl HV.out
        · exact hupd.trans (Upd.set i (by omega) _)
      case measure => simp [intOf]; omega
    · have hib : i = lb := by omega
      subst hib
      go_wp2
      go_loopw [4, 8] (fun vc vj w2 => ∃ (j : Nat) (cr : Int) (h : Nat → Int), j ≤ N ∧ vc = .int .u64 cr ∧ vj = .int .i64 (j : Int) ∧ 0 ≤ cr ∧ cr ≤ 1 ∧ Cells w2 .u64 g off N h ∧ U32 N h ∧
          val W32 h N - cr * (W32 : Int) ^ j = val W32 f N - val W32 fb i ∧ Upd w w2 g off N) (fun _ vj _ => N - (intOf vj).toNat)
      case atStart => exact ⟨i, cr, h, hlb, rfl, rfl, hc0, hc1, hch, huh, HV.out, hupd⟩
      case round =>
        clear hc0 hc1 hch huh HV hupd
        obtain ⟨j, cr, h, hj, rfl, rfl, hc0, hc1, hch, huh, hval, hupd⟩ := hrel
        have HV : Hid (val W32 h N - cr * (W32 : Int) ^ j = val W32 f N - val W32 fb i) := hval
        clear hval
        by_cases hcr : 0 < cr
        · have hjN : j < N := by
            by_cases q : j < N
            · exact q
            · have : j = N := by omega
              subst this
              exact (no_borrow W32 h j cr _ huh (by omega) (by decide) HV.out (by have := HF.out; omega)).elim
          have hca := hch j hjN
          have hfr := (hs.upd (hc.lt (by omega)) hupd) j hjN
          have bh := huh j hjN
          unfold W32 at bh
          obtain ⟨hm, hq⟩ := wrap_diff1 (h j) cr bh.1 bh.2 hc0 hc1
          go_wp2
          go_roundw
          case rel =>
            refine ⟨j + 1, 0 - (h j - cr) / (W32 : Int), put h j ((h j - cr) % (W32 : Int)), by omega, by simp [W32], by go_num, by unfold W32; omega, by unfold W32; omega, hch.set j hjN _, put_bounds huh (by unfold W32; omega) (by unfold W32; omega), ?_, ?_⟩
            · exact take_on W32 h N j cr _ _ hjN rfl HV.out
            · exact hupd.trans (Upd.set j hjN _)
          case measure => simp [intOf]; omega
        · have : cr = 0 := by omega
          subst this
          go_wp2
          go_end0
          exact ⟨rfl, h, hch, huh, by have := HV.out; rw [Int.zero_mul] at this; omega, hupd⟩

set_option maxRecDepth 20000 in
set_option maxHeartbeats 400000 in
theorem takeFrom_nil (ao : Option Addr) (c : Nat) (bo : Option Addr) (d : Nat) (w : World) :
    Calls Tryd.prog 85 #[.slice ao 0 c, .slice bo 0 d] w fun e w' => e = .returned (.tuple #[]) ∧ w' = w := by
  go_enter Tryd.func85, Tryd.ntmps85
  go_wp2
  refine wp_loop_rounds 1 ?_
  rw [rounds_succ]
  go_wp2
  refine wp_loop_rounds 1 ?_
  rw [rounds_succ]
  go_wp2
  go_end0
  exact ⟨rfl, rfl⟩

/-- nat.takeFrom of a number in memory of the call's own, which lies apart from what is taken. -/
theorem takeFrom_mine (B : Nat) (u v : Value) (x y : Nat) (w : World) (hu : RepM B w u x) (hv : Rep w v y) (hle : y ≤ x) (hBw : B ≤ w.heap.size)
    (hap : 0 < nl W32 y → ∀ b o c b' o' c', u = .slice (some ⟨b, o, none⟩) (nl W32 x) c → v = .slice (some ⟨b', o', none⟩) (nl W32 y) c' → b' ≠ b) :
    Calls Tryd.prog 85 #[u, v] w fun e w' => e = .returned (.tuple #[]) ∧ ∃ h : Nat → Int, Mine .u64 B w' u (nl W32 x) h ∧ U32 (nl W32 x) h ∧ val W32 h (nl W32 x) = ((x - y : Nat) : Int) ∧ Below B w w' := by
  have hnl : nl W32 y ≤ nl W32 x := by
    by_cases g : nl W32 x < nl W32 y
    · have := lt_of_nl W32 x y (by decide) g; omega
    · omega
  have vx := val_nl W32 x (by decide)
  have vy := val_nl W32 y (by decide)
  obtain ⟨ao, c, rfl, hnc, hl, h4⟩ := hu
  by_cases h0 : nl W32 x = 0
  · have hx0 := (nl_eq_zero W32 x (by decide)).1 h0
    have hy0 : y = 0 := by omega
    subst hx0 hy0
    obtain ⟨bo, d, rfl, hnd, kl, k4⟩ := hv
    rw [nl_zero] at *
    refine (takeFrom_nil ao c bo d w).mono fun e w' ⟨he, hw⟩ => ?_
    subst hw
    exact ⟨he, fun _ => 0, ⟨_, _, rfl, hnc, hl, fun h => by omega⟩, fun i hi => by omega, by simp [val], Below.refl _ _⟩
  · obtain ⟨b, off, rfl, hc, hs, hB⟩ := h4 (by omega)
    refine (takeFrom_any b off (nl W32 x) c v (nl W32 y) _ _ w hl hnl hc hs (u32_dg _ _) hv (u32_dg _ _) (fun hp b' o' c' he => hap hp b off c b' o' c' rfl he) (by rw [vx, vy]; omega)).mono fun e w' ⟨he, h, hch, huh, hvh, hupd⟩ => ?_
    refine ⟨he, h, ⟨_, _, rfl, hnc, hl, fun _ => ⟨_, _, rfl, hch, hs.upd (hc.lt (by omega)) hupd, hB⟩⟩, huh, ?_, hupd.below hB hBw⟩
    rw [hvh, vx, vy]; omega

set_option maxRecDepth 20000 in
set_option maxHeartbeats 400000 in
/-- nat.plain, and where its answer lies: it is what came in, or it lies in memory of its own. -/
theorem plain_at (v : Value) (n : Nat) (f : Nat → Int) (w : World) (h : Nums .u64 w v n f) (hf : U64 n f) :
    Calls Tryd.prog 36 #[v] w fun e w' => ∃ v', e = .returned v' ∧ Rep w' v' (num f n) ∧ Below w.heap.size w w' ∧ (v' = v ∨ RepM w.heap.size w' v' (num f n)) := by
  cases hr : rightB f n with
  | true =>
    go_enter Tryd.func36, Tryd.ntmps36
    go_wp2_with (go_at_call 51; refine (right_any _ _ _ _ h).mono ?_; rintro e w' ⟨rfl, rfl⟩; rw [hr])
    go_ret
    obtain ⟨e1, e2⟩ := right_form f n hf hr
    have hrep : Rep w' v (num f n) := by unfold Rep; rw [← e1]; exact h.congr e2
    exact ⟨_, rfl, hrep, Below.refl _ _, .inl rfl⟩
  | false =>
    go_enter Tryd.func36, Tryd.ntmps36
    go_wp2_with (first | (go_at_call 51; refine (right_any _ _ _ _ h).mono ?_; rintro e w' ⟨rfl, rfl⟩; rw [hr]) | (go_at_call 29; refine (clean_any _ _ _ _ h hf).mono ?_; rintro e w2 ⟨v', rfl, hm, hb⟩))
    go_ret
    exact ⟨_, rfl, hm.nums, hb, .inr hm⟩

theorem nums_lt {k : IntKind} {w : World} {v : Value} {n : Nat} {f : Nat → Int} (h : Nums k w v n f) (hn : 0 < n) {b o c m : Nat} (he : v = .slice (some ⟨b, o, none⟩) m c) : b < w.heap.size := by
  obtain ⟨ao, c', h1, _, _, h4⟩ := h
  obtain ⟨b', o', rfl, hc⟩ := h4 hn
  rw [h1] at he
  simp only [Value.slice.injEq, Option.some.injEq, Addr.mk.injEq] at he
  have := hc.lt hn
  omega
theorem mine_ge {k : IntKind} {B : Nat} {w : World} {v : Value} {n : Nat} {f : Nat → Int} (h : Mine k B w v n f) (hn : 0 < n) {b o c m : Nat} (he : v = .slice (some ⟨b, o, none⟩) m c) : B ≤ b := by
  obtain ⟨ao, c', h1, _, _, h4⟩ := h
  obtain ⟨b', o', rfl, hc, _, hB⟩ := h4 hn
  rw [h1] at he
  simp only [Value.slice.injEq, Option.some.injEq, Addr.mk.injEq] at he
  omega

set_option maxRecDepth 20000 in
set_option maxHeartbeats 1000000 in
theorem sub_neg (u v : Value) (n m : Nat) (f g : Nat → Int) (w : World) (hu : Nums .u64 w u n f) (hv : Nums .u64 w v m g) (hf : U64 n f) (hg : U64 m g) (h : num f n < num g m) :
    Calls Tryd.prog 88 #[u, v] w fun e w' => e = .returned (.tuple #[.slice none 0 0, .int .i64 3]) ∧ Below w.heap.size w w' := by
  have hc : cmpI (num f n) (num g m) = -1 := cmpI_lt (by omega)
  go_enter Tryd.func88, Tryd.ntmps88
  go_wp2_with (go_at_call 30; refine (cmp_any _ _ _ _ _ _ _ hu hv hf hg).mono ?_; rintro e w1 ⟨rfl, hb1⟩; rw [hc])
  go_ret2
  exact ⟨rfl, hb1⟩

set_option maxRecDepth 20000 in
set_option maxHeartbeats 1000000 in
theorem sub_ok (u v : Value) (n m : Nat) (f g : Nat → Int) (w : World) (hu : Nums .u64 w u n f) (hv : Nums .u64 w v m g) (hf : U64 n f) (hg : U64 m g) (h : num g m ≤ num f n) :
    Calls Tryd.prog 88 #[u, v] w fun e w' => ∃ r, e = .returned (.tuple #[r, .int .i64 0]) ∧ RepM w.heap.size w' r (num f n - num g m) ∧ Below w.heap.size w w' := by
  have hc : ¬ cmpI (num f n) (num g m) < 0 := by unfold cmpI; rw [if_neg (by omega)]; split <;> omega
  go_enter Tryd.func88, Tryd.ntmps88
  go_wp2_with fail
  refine (cmp_any _ _ _ _ _ _ _ hu hv hf hg).mono ?_
  rintro e w1 ⟨rfl, hb1⟩
  go_wp2_with fail
  refine (clean_any _ _ _ _ (hu.below hb1) hf).mono ?_
  rintro e w2 ⟨q, rfl, hq, hb2⟩
  have B2 : Below w.heap.size w w2 := hb1.trans (hb2.mono hb1.size)
  go_wp2_with fail
  refine (plain_at _ _ _ _ (hv.below B2) hg).mono ?_
  rintro e w3 ⟨r, rfl, hr, hb3, hat⟩
  have s1 := hb1.size
  have s2 := hb2.size
  have s3 := hb3.size
  have hq3 := hq.below hb3
  have hap : 0 < nl W32 (num g m) → ∀ b o c b' o' c', q = .slice (some ⟨b, o, none⟩) (nl W32 (num f n)) c → r = .slice (some ⟨b', o', none⟩) (nl W32 (num g m)) c' → b' ≠ b := by
    intro hp b o c b' o' c' hqe hre
    have hnl : nl W32 (num g m) ≤ nl W32 (num f n) := by
      by_cases g' : nl W32 (num f n) < nl W32 (num g m)
      · have := lt_of_nl W32 (num f n) (num g m) (by decide) g'; omega
      · omega
    have h1 := mine_ge hq (by omega) hqe
    have h2 := nums_lt hq.nums (by omega) hqe
    rcases hat with rfl | hat
    · have hm0 : 0 < m := by
        obtain ⟨ao, c0, h1, _⟩ := hv
        rw [h1] at hre
        simp only [Value.slice.injEq] at hre
        omega
      have h3 := nums_lt hv hm0 hre
      omega
    · have h3 := mine_ge hat hp hre
      omega
  go_wp2_with fail
  refine (takeFrom_mine w1.heap.size _ _ (num f n) (num g m) _ hq3 hr h (by omega) hap).mono ?_
  rintro e w4 ⟨rfl, h4, hm4, hu4, hv4, hb4⟩
  have HV4 : Hid (val W32 h4 (nl W32 (num f n)) = ((num f n - num g m : Nat) : Int)) := hv4
  clear hv4
  have B4 : Below w.heap.size w w4 := B2.trans ((hb3.mono (by omega)).trans (hb4.mono (by omega)))
  go_wp2_with (go_at_call 63; refine (cut_mine _ _ _ _ _ _ hm4 hu4 HV4.out).mono ?_; rintro e w5 ⟨r5, rfl, hr5, rfl⟩)
  go_ret2
  exact ⟨_, rfl, hr5.le (by omega), B4⟩

end Go.Proofs.YthhabammejkjcaaDoor
