/-
  What nat.addLimbs, addInto, sum and Add do: sums.
-/
import Derived.Test.YthhabammejkjcaaDoorDivide
import Derived.Test.YthhabammejkjcaaDoorTimes
import Derived.Laws.CopyOwn
namespace Go.Proofs.YthhabammejkjcaaDoor
open Go.RowKit

theorem add_step (B : Nat) (h g : Nat → Int) (N i : Nat) (c t S : Int) (hi : i < N) (ht : t = c + (h i + g i)) (hv : val B h N + c * (B : Int) ^ i = S + val B g i) :
    val B (put h i (t % B)) N + t / B * (B : Int) ^ (i + 1) = S + val B g (i + 1) := by
  have e1 : (B : Int) ^ (i + 1) = (B : Int) ^ i * B := Int.pow_succ _ _
  rw [val_put B h N i _ hi, e1, carry_step, ht]
  simp only [val]
  have e2 : (c + (h i + g i) - h i) * (B : Int) ^ i = c * (B : Int) ^ i + g i * (B : Int) ^ i := by rw [show c + (h i + g i) - h i = c + g i by omega, Int.add_mul]
  rw [e2]; omega
theorem carry_on (B : Nat) (h : Nat → Int) (N i : Nat) (c t S : Int) (hi : i < N) (ht : t = c + h i) (hv : val B h N + c * (B : Int) ^ i = S) :
    val B (put h i (t % B)) N + t / B * (B : Int) ^ (i + 1) = S := by
  have e1 : (B : Int) ^ (i + 1) = (B : Int) ^ i * B := Int.pow_succ _ _
  rw [val_put B h N i _ hi, e1, carry_step, ht, show c + h i - h i = c by omega]; exact hv

set_option maxRecDepth 20000 in
set_option maxHeartbeats 1000000 in
theorem addLimbs_any (g off N c : Nat) (v : Value) (lb : Nat) (f fb : Nat → Int) (w : World) (hl : N ≤ LIM) (hlb : lb ≤ N)
    (hc : Cells w .u64 g off N f) (hs : Soft w g off N) (hf : U32 N f) (hv : Nums .u64 w v lb fb) (hb : U32 lb fb) (hne : 0 < lb → ∀ b o c, v = .slice (some ⟨b, o, none⟩) lb c → b ≠ g) :
    Calls Tryd.prog 90 #[.slice (some ⟨g, off, none⟩) N c, v] w fun e w' => ∃ (cr : Int) (h : Nat → Int), e = .returned (.int .u64 cr) ∧ 0 ≤ cr ∧ cr ≤ 1 ∧ Cells w' .u64 g off N h ∧ U32 N h ∧ (∀ i, lb ≤ i → h i = f i) ∧
      val W32 h N + cr * (W32 : Int) ^ lb = val W32 f N + val W32 fb lb ∧ Upd w w' g off N := by
  obtain ⟨bo, d, rfl, hd, kl, k4⟩ := hv
  unfold LIM at hl
  have K4 := show Hid (0 < lb → ∃ b off, bo = some ⟨b, off, none⟩ ∧ Cells w .u64 b off lb fb) from k4
  have HNE := show Hid (0 < lb → ∀ b o c, Value.slice bo lb d = .slice (some ⟨b, o, none⟩) lb c → b ≠ g) from hne
  clear k4 hne
  go_enter Tryd.func90, Tryd.ntmps90
  go_wp2
  go_loopw [5, 10] (fun vc vi wr => ∃ (i : Nat) (cr : Int) (h : Nat → Int), i ≤ lb ∧ vc = .int .u64 cr ∧ vi = .int .i64 (i : Int) ∧ 0 ≤ cr ∧ cr ≤ 1 ∧ Cells wr .u64 g off N h ∧ U32 N h ∧ (∀ p, i ≤ p → h p = f p) ∧
      val W32 h N + cr * (W32 : Int) ^ i = val W32 f N + val W32 fb i ∧ Upd w wr g off N) (fun _ vi _ => lb - (intOf vi).toNat)
  case atStart => exact ⟨0, 0, f, Nat.zero_le _, rfl, rfl, Int.le_refl _, by decide, hc, hf, fun _ _ => rfl, by simp [val], Upd.refl _ _ _ _⟩
  case round =>
    obtain ⟨i, cr, h, hi, rfl, rfl, hc0, hc1, hch, huh, hsame, hval, hupd⟩ := hrel
    have HV : Hid (val W32 h N + cr * (W32 : Int) ^ i = val W32 f N + val W32 fb i) := hval
    have HS : Hid (∀ p, i ≤ p → h p = f p) := hsame
    clear hval hsame
    by_cases hlt : i < lb
    · obtain ⟨b2, o2, rfl, kc⟩ := K4.out (by omega)
      have hbne := HNE.out (by omega) b2 o2 d rfl
      have hcb : wr.cell? ⟨b2, o2 + i, none⟩ = some (.int .u64 (fb i)) := (kc.upd hupd (.inl hbne)) i hlt
      have hca := hch i (by omega)
      have hfr := (hs.upd (hc.lt (by omega)) hupd) i (by omega)
      have bx := hb i hlt
      have bh := huh i (by omega)
      unfold W32 at bx bh
      have hm := and_mask (cr + (h i + fb i)) (by omega) (by omega)
      go_wp2
      go_roundw
      case rel =>
        refine ⟨i + 1, (cr + (h i + fb i)) / (W32 : Int), put h i ((cr + (h i + fb i)) % (W32 : Int)), by omega, rfl, by go_num, by unfold W32; omega, by unfold W32; omega, hch.set i (by omega) _, put_bounds huh (by unfold W32; omega) (by unfold W32; omega), ?_, ?_, ?_⟩
        · intro p hp; rw [put_other _ _ _ _ (by omega)]; exact HS.out p (by omega)
        · exact add_step W32 h fb N i cr _ _ (by omega) rfl HV.out
        · exact hupd.trans (Upd.set i (by omega) _)
      case measure => simp [intOf]; omega
    · have : i = lb := by omega
      subst this
      go_wp2
      go_ret
      exact ⟨cr, h, rfl, hc0, hc1, hch, huh, HS.out, HV.out, hupd⟩

theorem no_carry (B : Nat) (hB : 0 < B) (h : Nat → Int) (N : Nat) (c S : Int) (hb : ∀ i, i < N → 0 ≤ h i ∧ h i < (B : Int)) (hc0 : 0 < c) (hv : val B h N + c * (B : Int) ^ N = S) (hS : S < (B : Int) ^ N) : False := by
  have h1 := (val_bounds B h N hb).1
  have h2 := powB_pos B hB N
  have h3 := Int.mul_le_mul_of_nonneg_right (show 1 ≤ c by omega) (Int.le_of_lt h2)
  rw [Int.one_mul] at h3
  omega

set_option maxRecDepth 20000 in
set_option maxHeartbeats 1000000 in
theorem addInto_any (g off N c : Nat) (v : Value) (lb : Nat) (f fb : Nat → Int) (w : World) (hl : N ≤ LIM) (hlb : lb ≤ N)
    (hc : Cells w .u64 g off N f) (hs : Soft w g off N) (hf : U32 N f) (hv : Nums .u64 w v lb fb) (hb : U32 lb fb) (hne : 0 < lb → ∀ b o c, v = .slice (some ⟨b, o, none⟩) lb c → b ≠ g)
    (hfit : val W32 f N + val W32 fb lb < (W32 : Int) ^ N) :
    Calls Tryd.prog 83 #[.slice (some ⟨g, off, none⟩) N c, v] w fun e w' => e = .returned (.tuple #[]) ∧ ∃ (h : Nat → Int), Cells w' .u64 g off N h ∧ U32 N h ∧ val W32 h N = val W32 f N + val W32 fb lb ∧ Upd w w' g off N := by
  have hv0 := hv
  obtain ⟨bo, d, rfl, hd, kl, k4⟩ := hv0
  clear k4
  have HF := show Hid (val W32 f N + val W32 fb lb < (W32 : Int) ^ N) from hfit
  clear hfit
  go_enter Tryd.func83, Tryd.ntmps83
  go_wp2_with fail
  refine (addLimbs_any g off N c _ lb f fb _ hl hlb hc hs hf hv hb hne).mono ?_
  rintro e w1 ⟨cr0, h0, rfl, h00, h01, hch0, huh0, _, hval0, hupd0⟩
  have HV0 : Hid (val W32 h0 N + cr0 * (W32 : Int) ^ lb = val W32 f N + val W32 fb lb) := hval0
  clear hval0 hne
  unfold LIM at hl
  go_wp2
  go_loopw [4, 5] (fun vc vi wr => ∃ (i : Nat) (cr : Int) (h : Nat → Int), i ≤ N ∧ vc = .int .u64 cr ∧ vi = .int .i64 (i : Int) ∧ 0 ≤ cr ∧ cr ≤ 1 ∧ Cells wr .u64 g off N h ∧ U32 N h ∧
      val W32 h N + cr * (W32 : Int) ^ i = val W32 f N + val W32 fb lb ∧ Upd w wr g off N) (fun _ vi _ => N - (intOf vi).toNat)
  case atStart => exact ⟨lb, cr0, h0, hlb, rfl, rfl, h00, h01, hch0, huh0, HV0.out, hupd0⟩
  case round =>
    clear hch0 huh0 HV0 hupd0
    obtain ⟨i, cr, h, hi, rfl, rfl, hc0, hc1, hch, huh, hval, hupd⟩ := hrel
    have HV : Hid (val W32 h N + cr * (W32 : Int) ^ i = val W32 f N + val W32 fb lb) := hval
    clear hval
    by_cases hcr : 0 < cr
    · have hiN : i < N := by
        by_cases q : i < N
        · exact q
        · have : i = N := by omega
          subst this
          exact (no_carry W32 (by decide) h i cr _ huh hcr HV.out HF.out).elim
      have hca := hch i hiN
      have hfr := (hs.upd (hc.lt (by omega)) hupd) i hiN
      have bh := huh i hiN
      unfold W32 at bh
      have hm := and_mask (cr + h i) (by omega) (by omega)
      go_wp2
      go_roundw
      case rel =>
        refine ⟨i + 1, (cr + h i) / (W32 : Int), put h i ((cr + h i) % (W32 : Int)), by omega, rfl, by go_num, by unfold W32; omega, by unfold W32; omega, hch.set i hiN _, put_bounds huh (by unfold W32; omega) (by unfold W32; omega), ?_, ?_⟩
        · exact carry_on W32 h N i cr _ _ hiN rfl HV.out
        · exact hupd.trans (Upd.set i hiN _)
      case measure => simp [intOf]; omega
    · have : cr = 0 := by omega
      subst this
      go_wp2
      go_end0
      exact ⟨rfl, h, hch, huh, by have := HV.out; rw [Int.zero_mul] at this; omega, hupd⟩

/-- What the block of a slice that 'make' laid holds. -/
theorem made_block {w w1 : World} {e : TypeId} {k : IntKind} {n : Nat} (h : w1.ownsRow w.heap.size e 1 (.slice (some ⟨w.heap.size, 0, none⟩) n n) n (madeCells (Value.int k 0).cells (n * 1)).toList) :
    w1.heap[w.heap.size]? = some (.cells (valsOf k (fun _ => 0) n).toArray e (0, 0)) := by
  rcases h.2 with ⟨h', _⟩ | ⟨g, cap, cur, h', _, hg, _, _, hs, ht⟩
  · simp at h'
  · simp only [Value.slice.injEq, Option.some.injEq, Addr.mk.injEq, and_true, true_and] at h'
    obtain ⟨rfl, rfl⟩ := h'
    rw [hg]
    have e1 : cur.toList = valsOf k (fun _ => 0) n := by
      have hlen : cur.toList.length = n := by rw [Array.length_toList, hs, Nat.mul_one]
      rw [List.take_of_length_le (by rw [hlen]; omega)] at ht
      rw [ht]
      apply List.ext_getElem?
      intro i
      by_cases hi : i < n
      · rw [made_zero k n i hi, valsOf_at _ _ _ _ hi]
      · rw [List.getElem?_eq_none (by rw [← ht, hlen]; omega), List.getElem?_eq_none (by rw [valsOf_length]; omega)]
    rw [← e1]

theorem val_upto (B : Nat) (g : Nat → Int) (k n : Nat) (h : k ≤ n) : val B (upto g k) n = val B g k := by
  rw [val_stays B (upto g k) n k h (fun i h1 _ => by unfold upto; rw [if_neg (by omega)])]
  exact val_congr k (fun i hi => upto_all g k i hi)

/-- Behind 'copy' of n numbers into a block of zeros. -/
theorem splice_cells {w : World} {g : Nat} {e : TypeId} {k : IntKind} {f : Nat → Int} {n N : Nat} (h : w.heap[g]? = some (.cells (splice (valsOf k (fun _ => 0) N) 0 (valsOf k f n)).toArray e (0, 0))) :
    Cells w k g 0 N (upto f n) ∧ Soft w g 0 N := by
  refine ⟨fun i hi => ?_, fun i _ => ?_⟩
  · rw [Nat.zero_add, cell_of_row w g i _ _ _ h]
    simp only [splice, List.take_zero, List.nil_append, Nat.zero_add, valsOf_length, List.getElem?_toArray]
    by_cases hin : i < n
    · rw [List.getElem?_append_left (by rw [valsOf_length]; exact hin), valsOf_at _ _ _ _ hin, upto_all _ _ _ hin]
    · rw [List.getElem?_append_right (by rw [valsOf_length]; omega), valsOf_length, List.getElem?_drop, show n + (i - n) = i by omega, valsOf_at _ _ _ _ hi]
      unfold upto; rw [if_neg hin]
  · rw [Nat.zero_add]; exact frozen_of_row w g i _ _ h

/-- What is copied lies where the slice says, in every later world. -/
def SrcOk (w : World) (ao : Option Addr) (n : Nat) (f : Nat → Int) : Prop :=
  ∀ w1 : World, Below w.heap.size w w1 → 0 < (valsOf .u64 f n).length → ∃ ad, ao = some ad ∧ ∀ j v, (valsOf .u64 f n)[j]? = some v → w1.cell? (ad.add j) = some v
theorem srcOk {w : World} {ao : Option Addr} {n c : Nat} {f : Nat → Int} (h : Nums .u64 w (.slice ao n c) n f) : SrcOk w ao n f := by
  obtain ⟨ao', c', he, _, _, h4⟩ := h
  simp only [Value.slice.injEq, true_and] at he
  obtain ⟨rfl, rfl⟩ := he
  intro w1 hb1 hp
  rw [valsOf_length] at hp
  obtain ⟨b, off, rfl, hc⟩ := h4 hp
  refine ⟨_, rfl, fun j u hj => ?_⟩
  have hjn : j < n := by
    by_cases g : j < n
    · exact g
    · rw [List.getElem?_eq_none (by rw [valsOf_length]; omega)] at hj; cases hj
  rw [valsOf_at _ _ _ _ hjn] at hj
  have e : (⟨b, off, none⟩ : Addr).add j = ⟨b, off + j, none⟩ := by unfold Addr.add; split <;> simp_all
  rw [e, ← hj]
  exact (hc.below hb1 (hc.lt hp)) j hjn
theorem SrcOk.get {w : World} {ao : Option Addr} {n : Nat} {f : Nat → Int} (h : SrcOk w ao n f) (w1 : World) (hb : Below w.heap.size w w1) (hp : 0 < (valsOf .u64 f n).length) (b : Option Addr) : b = b ∧ ∃ ad, ao = some ad ∧ ∀ j v, (valsOf .u64 f n)[j]? = some v → w1.cell? (ad.add j) = some v := ⟨rfl, h w1 hb hp⟩
theorem vals_one (k : IntKind) (f : Nat → Int) (n : Nat) : ∀ v ∈ valsOf k f n, v.oneCell' = true := by intro u hu; unfold valsOf at hu; simp at hu; obtain ⟨_, _, rfl⟩ := hu; rfl

/-- 'copy' of a slice into a block of zeros that the call has made. -/
theorem copy_run {w w1 : World} {ao : Option Addr} {n c N : Nat} {f : Nat → Int} (ty : TypeId) (hn : n ≤ N) (hsrc : SrcOk w ao n f) (hb : Below w.heap.size w w1)
    (hblk : w1.heap[w.heap.size]? = some (.cells (valsOf .u64 (fun _ => 0) N).toArray 51 (0, 0))) (hinf : (Tryd.prog.info? 51).map (·.size) = some 1) :
    ∃ w2, (Builtin.copy_ #[23, 23] ty #[.slice (some ⟨w.heap.size, 0, none⟩) N N, .slice ao n c]).run Tryd.prog w1 = .ok (goInt n) w2 ∧ Cells w2 .u64 w.heap.size 0 N (upto f n) ∧ Soft w2 w.heap.size 0 N ∧ Below w.heap.size w w2 := by
  by_cases h0 : n = 0
  · subst h0
    refine ⟨w1, run_copy_none (P := Tryd.prog) w1 _ _ ty 51 _ _ _ _ _ _ Tryd.underlying23 hinf (Nat.zero_min _), ?_, ?_, hb⟩
    · intro i hi
      rw [Nat.zero_add, cell_of_row w1 _ i _ _ _ hblk, List.getElem?_toArray, valsOf_at _ _ _ _ hi]; simp [upto]
    · intro i _; rw [Nat.zero_add]; exact frozen_of_row w1 _ i _ _ hblk
  · obtain ⟨ad, rfl, hcs⟩ := hsrc w1 hb (by rw [valsOf_length]; omega)
    have hrun := run_copy_row (P := Tryd.prog) w1 23 23 ty 51 w.heap.size 0 N N ad n c _ 51 (valsOf .u64 f n) Tryd.underlying23 hinf hblk (by rw [valsOf_length]; exact (Nat.min_eq_left hn).symm) hcs (by rw [valsOf_length]; simp [valsOf_length]; omega) (vals_one _ _ _)
    rw [valsOf_length] at hrun
    refine ⟨_, hrun, ?_⟩
    have hblk2 := setRow_heap w1 w.heap.size _ ((valsOf .u64 (fun _ => 0) N).toArray.toList.take 0 ++ valsOf .u64 f n ++ (valsOf .u64 (fun _ => 0) N).toArray.toList.drop (0 + n)).toArray 51 _ hblk
    have hs := splice_cells (w := w1.setRow w.heap.size ((valsOf .u64 (fun _ => 0) N).toArray.toList.take 0 ++ valsOf .u64 f n ++ (valsOf .u64 (fun _ => 0) N).toArray.toList.drop (0 + n)).toArray) (f := f) (n := n) (N := N) (k := .u64) (e := 51) (by rw [hblk2]; simp [splice, valsOf_length])
    exact ⟨hs.1, hs.2, below_setRow hb (Nat.le_refl _) _⟩

set_option maxRecDepth 20000 in
set_option maxHeartbeats 2000000 in
/-- nat.sum where the first is not the shorter one. -/
theorem sum_long (u v : Value) (x y : Nat) (w : World) (hu : Rep w u x) (hv : Rep w v y) (hle : nl W32 y ≤ nl W32 x) (hlim : nl W32 x ≤ 1000000) :
    Calls Tryd.prog 84 #[u, v] w fun e w' => ∃ r, e = .returned r ∧ RepM w.heap.size w' r (x + y) ∧ Below w.heap.size w w' := by
  obtain ⟨i0, hi, hz0, hz1, hz2⟩ := info_parts info_u64
  have hinf : (Tryd.prog.info? 51).map (·.size) = some 1 := by rw [hi]; simp [hz1]
  have HI := show Hid ((Tryd.prog.info? 51).map (·.size) = some 1) from hinf
  clear hinf
  have hv0 := hv
  obtain ⟨ao, c, rfl, hnc, hl, h4⟩ := hu
  obtain ⟨bo, d, rfl, hnd, kl, k4⟩ := hv
  clear k4
  have VX : Hid (val W32 (dg W32 x) (nl W32 x) = (x : Int)) := val_nl W32 x (by decide)
  have VY : Hid (val W32 (dg W32 y) (nl W32 y) = (y : Int)) := val_nl W32 y (by decide)
  have PX : Hid (x < W32 ^ nl W32 x) := lt_pow_nl W32 x (by decide)
  have PY : Hid (y < W32 ^ nl W32 y) := lt_pow_nl W32 y (by decide)
  unfold Rep at hv0
  have UX := u32_dg x (nl W32 x)
  have UY := u32_dg y (nl W32 y)
  generalize nl W32 x = la at *
  generalize nl W32 y = lb at *
  have C2 : SrcOk w ao la (dg W32 x) := srcOk ⟨_, _, rfl, hnc, hl, h4⟩
  clear h4
  have hnl : ¬ la < lb := by omega
  go_enter Tryd.func84, Tryd.ntmps84
  go_wp2_with (at_make; refine wpList_make_full _ rfl _ _ 23 rfl _ 51 i0 (.int .u64 0) 1 Tryd.underlying23 hi hz0 hz1 _ _ _ _ (la + 1) rfl rfl (by omega) (by omega) (by rw [hz2]; omega) (by unfold maxLen; omega) (Nat.le_refl _) ?_; intro w1 hown hgrow)
  obtain ⟨w2, hrun, hc2, hs2, hb2⟩ := copy_run (c := c) 3 (show la ≤ la + 1 by omega) C2 (below_grown hgrow) (made_block hown) HI.out
  rw [hrun]
  clear hown hgrow hrun
  have hU2 : U32 (la + 1) (upto (dg W32 x) la) := fun i _ => by
    unfold upto; split
    · exact UX i (by assumption)
    · exact ⟨Int.le_refl _, by decide⟩
  have hv1 : Hid (val W32 (upto (dg W32 x) la) (la + 1) = (x : Int)) := by show _ = _; rw [val_upto _ _ _ _ (by omega)]; exact VX.out
  have hfit : val W32 (upto (dg W32 x) la) (la + 1) + val W32 (dg W32 y) lb < (W32 : Int) ^ (la + 1) := by
    rw [hv1.out, VY.out]
    have p1 := PX.out
    have p2 : y < W32 ^ la := Nat.lt_of_lt_of_le PY.out (Nat.pow_le_pow_right (by decide) hle)
    have p3 : W32 ^ (la + 1) = W32 ^ la * W32 := Nat.pow_succ _ _
    have p4 : ((W32 ^ (la + 1) : Nat) : Int) = (W32 : Int) ^ (la + 1) := by simp
    rw [← p4, p3]
    have p5 : W32 ^ la * 2 ≤ W32 ^ la * W32 := Nat.mul_le_mul_left _ (by decide)
    omega
  go_wp2_with fail
  refine (addInto_any _ _ _ _ _ lb _ _ _ (by unfold LIM; omega) (by omega) hc2 hs2 hU2 (hv0.below hb2) UY (fun hp b o c' he => ?_) hfit).mono ?_
  · obtain ⟨ao', c'', he', _, _, h4'⟩ := hv0
    obtain ⟨b', o', rfl, hc'⟩ := h4' hp
    have hlt' := hc'.lt hp
    have e3 := he'.symm.trans he
    simp only [Value.slice.injEq, Option.some.injEq, Addr.mk.injEq] at e3
    omega
  rintro e w3 ⟨rfl, h, hch, huh, hvh, hupd⟩
  rw [hv1.out, VY.out] at hvh
  have hMine : Mine .u64 w.heap.size w3 (.slice (some ⟨w.heap.size, 0, none⟩) (la + 1) (la + 1)) (la + 1) h := ⟨_, _, rfl, Nat.le_refl _, by unfold LIM; omega, fun _ => ⟨_, _, rfl, hch, hs2.upd (hc2.lt (by omega)) hupd, Nat.le_refl _⟩⟩
  have hbel : Below w.heap.size w w3 := hb2.trans (hupd.below (Nat.le_refl _) hb2.size)
  go_wp2_with (go_at_call 63; refine (cut_mine _ _ _ _ _ (x + y) hMine huh (by rw [hvh]; simp)).mono ?_; rintro e w4 ⟨r, rfl, hr, rfl⟩)
  go_ret
  exact ⟨_, rfl, hr, hbel⟩

set_option maxRecDepth 20000 in
set_option maxHeartbeats 2000000 in
/-- nat.sum where the first is the shorter one. -/
theorem sum_short (u v : Value) (x y : Nat) (w : World) (hu : Rep w u x) (hv : Rep w v y) (hle : nl W32 y < nl W32 x) (hlim : nl W32 x ≤ 1000000) :
    Calls Tryd.prog 84 #[v, u] w fun e w' => ∃ r, e = .returned r ∧ RepM w.heap.size w' r (x + y) ∧ Below w.heap.size w w' := by
  obtain ⟨i0, hi, hz0, hz1, hz2⟩ := info_parts info_u64
  have hinf : (Tryd.prog.info? 51).map (·.size) = some 1 := by rw [hi]; simp [hz1]
  have HI := show Hid ((Tryd.prog.info? 51).map (·.size) = some 1) from hinf
  clear hinf
  have hv0 := hv
  obtain ⟨ao, c, rfl, hnc, hl, h4⟩ := hu
  obtain ⟨bo, d, rfl, hnd, kl, k4⟩ := hv
  clear k4
  have VX : Hid (val W32 (dg W32 x) (nl W32 x) = (x : Int)) := val_nl W32 x (by decide)
  have VY : Hid (val W32 (dg W32 y) (nl W32 y) = (y : Int)) := val_nl W32 y (by decide)
  have PX : Hid (x < W32 ^ nl W32 x) := lt_pow_nl W32 x (by decide)
  have PY : Hid (y < W32 ^ nl W32 y) := lt_pow_nl W32 y (by decide)
  unfold Rep at hv0
  have UX := u32_dg x (nl W32 x)
  have UY := u32_dg y (nl W32 y)
  generalize nl W32 x = la at *
  generalize nl W32 y = lb at *
  have C2 : SrcOk w ao la (dg W32 x) := srcOk ⟨_, _, rfl, hnc, hl, h4⟩
  clear h4
  have hnl : lb < la := by omega
  go_enter Tryd.func84, Tryd.ntmps84
  go_wp2_with (at_make; refine wpList_make_full _ rfl _ _ 23 rfl _ 51 i0 (.int .u64 0) 1 Tryd.underlying23 hi hz0 hz1 _ _ _ _ (la + 1) rfl rfl (by omega) (by omega) (by rw [hz2]; omega) (by unfold maxLen; omega) (Nat.le_refl _) ?_; intro w1 hown hgrow)
  obtain ⟨w2, hrun, hc2, hs2, hb2⟩ := copy_run (c := c) 3 (show la ≤ la + 1 by omega) C2 (below_grown hgrow) (made_block hown) HI.out
  rw [hrun]
  clear hown hgrow hrun
  have hU2 : U32 (la + 1) (upto (dg W32 x) la) := fun i _ => by
    unfold upto; split
    · exact UX i (by assumption)
    · exact ⟨Int.le_refl _, by decide⟩
  have hv1 : Hid (val W32 (upto (dg W32 x) la) (la + 1) = (x : Int)) := by show _ = _; rw [val_upto _ _ _ _ (by omega)]; exact VX.out
  have hfit : val W32 (upto (dg W32 x) la) (la + 1) + val W32 (dg W32 y) lb < (W32 : Int) ^ (la + 1) := by
    rw [hv1.out, VY.out]
    have p1 := PX.out
    have p2 : y < W32 ^ la := Nat.lt_of_lt_of_le PY.out (Nat.pow_le_pow_right (by decide) (Nat.le_of_lt hle))
    have p3 : W32 ^ (la + 1) = W32 ^ la * W32 := Nat.pow_succ _ _
    have p4 : ((W32 ^ (la + 1) : Nat) : Int) = (W32 : Int) ^ (la + 1) := by simp
    rw [← p4, p3]
    have p5 : W32 ^ la * 2 ≤ W32 ^ la * W32 := Nat.mul_le_mul_left _ (by decide)
    omega
  go_wp2_with fail
  refine (addInto_any _ _ _ _ _ lb _ _ _ (by unfold LIM; omega) (by omega) hc2 hs2 hU2 (hv0.below hb2) UY (fun hp b o c' he => ?_) hfit).mono ?_
  · obtain ⟨ao', c'', he', _, _, h4'⟩ := hv0
    obtain ⟨b', o', rfl, hc'⟩ := h4' hp
    have hlt' := hc'.lt hp
    have e3 := he'.symm.trans he
    simp only [Value.slice.injEq, Option.some.injEq, Addr.mk.injEq] at e3
    omega
  rintro e w3 ⟨rfl, h, hch, huh, hvh, hupd⟩
  rw [hv1.out, VY.out] at hvh
  have hMine : Mine .u64 w.heap.size w3 (.slice (some ⟨w.heap.size, 0, none⟩) (la + 1) (la + 1)) (la + 1) h := ⟨_, _, rfl, Nat.le_refl _, by unfold LIM; omega, fun _ => ⟨_, _, rfl, hch, hs2.upd (hc2.lt (by omega)) hupd, Nat.le_refl _⟩⟩
  have hbel : Below w.heap.size w w3 := hb2.trans (hupd.below (Nat.le_refl _) hb2.size)
  go_wp2_with (go_at_call 63; refine (cut_mine _ _ _ _ _ (x + y) hMine huh (by rw [hvh]; simp)).mono ?_; rintro e w4 ⟨r, rfl, hr, rfl⟩)
  go_ret
  exact ⟨_, rfl, hr, hbel⟩

theorem sum_any (u v : Value) (x y : Nat) (w : World) (hu : Rep w u x) (hv : Rep w v y) (hx : nl W32 x ≤ 1000000) (hy : nl W32 y ≤ 1000000) :
    Calls Tryd.prog 84 #[u, v] w fun e w' => ∃ r, e = .returned r ∧ RepM w.heap.size w' r (x + y) ∧ Below w.heap.size w w' := by
  by_cases h : nl W32 x < nl W32 y
  · rw [Nat.add_comm]; exact sum_short v u y x w hv hu h hy
  · exact sum_long u v x y w hu hv (by omega) hx

set_option maxRecDepth 20000 in
set_option maxHeartbeats 400000 in
theorem add_any (u v : Value) (n m : Nat) (f g : Nat → Int) (w : World) (hu : Nums .u64 w u n f) (hv : Nums .u64 w v m g) (hf : U64 n f) (hg : U64 m g) (hn : n ≤ 1000000) (hm : m ≤ 1000000) :
    Calls Tryd.prog 74 #[u, v] w fun e w' => ∃ r, e = .returned r ∧ RepM w.heap.size w' r (num f n + num g m) ∧ Below w.heap.size w w' := by
  have hx := nl_le W32 (num f n) n (by decide) (num_lt f n)
  have hy := nl_le W32 (num g m) m (by decide) (num_lt g m)
  go_enter Tryd.func74, Tryd.ntmps74
  go_wp2_with fail
  refine (plain_any _ _ _ _ hu hf).mono ?_
  rintro e w1 ⟨r1, rfl, hr1, hb1⟩
  go_wp2_with fail
  refine (plain_any _ _ _ _ (hv.below hb1) hg).mono ?_
  rintro e w2 ⟨r2, rfl, hr2, hb2⟩
  go_wp2_with fail
  refine (sum_any _ _ _ _ _ (Nums.below hr1 hb2) hr2 (by omega) (by omega)).mono ?_
  rintro e w3 ⟨r, rfl, hr, hb3⟩
  go_wp2
  go_ret
  have := hb1.size
  have := hb2.size
  exact ⟨_, rfl, hr.le (by omega), hb1.trans ((hb2.mono (by omega)).trans (hb3.mono (by omega)))⟩

end Go.Proofs.YthhabammejkjcaaDoor
