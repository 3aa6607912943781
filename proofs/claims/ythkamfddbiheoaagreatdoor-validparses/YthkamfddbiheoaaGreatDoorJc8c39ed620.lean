/-
  Texts of mine.
-/
import Derived.Test.YthkamfddbiheoaaGreatDoorJf7fc8f69bc
import Derived.Test.YthkamfddbiheoaaGreatDoorJb00f000c3f
import Derived.Laws.CopyOwn
import Derived.Test.YthkamfddbiheoaaGreatDoorJa607d653bf
namespace Go.Proofs.YthkamfddbiheoaaGreatDoor
open Go.RowKit

theorem add_step (B : Nat) (h g : Nat → Int) (N i : Nat) (c t S : Int) (hi : i < N) (ht : t = c + (h i + g i)) (hv : val B h N + c * (B : Int) ^ i = S + val B g i) :
  val B (put h i (t % B)) N + t / B * (B : Int) ^ (i + 1) = S + val B g (i + 1) := by
 have e1 : (B : Int) ^ (i + 1) = (B : Int) ^ i * B := Int.pow_succ _ _
 rw [val_put B h N i _ hi, e1, carry_step, ht]
 simp only [val]
 have e2 : (c + (h i + g i) - h i) * (B : Int) ^ i = c * (B : Int) ^ i + g i * (B : Int) ^ i := by rw [show c + (h i + g i) - h i = c + g i by omega, Int.add_mul]
 rw [e2]; omega
theorem carry_on (B : Nat) (h : Nat → Int) (N i : Nat) (c t S : Int) (hi : i < N) (ht : t = c + h i) (hv : val B h N + c * (B : Int) ^ i = S) :
  val B (put h i (t % B)) N + t / B * (B : Int) ^ (i + 1) = S := by
 have e1 : (B : Int) ^ (i + 1) = (B : Int) ^ i * B := Int.pow_succ _ _
 rw [val_put B h N i _ hi, e1, carry_step, ht, show c + h i - h i = c by omega]; exact hv

set_option maxRecDepth 20000 in
set_option maxHeartbeats 1000000 in
theorem addLimbs_any (g off N c : Nat) (v : Value) (lb : Nat) (f fb : Nat → Int) (w : World) (hl : N ≤ LIM) (hlb : lb ≤ N)
  (hc : Cells w .u64 g off N f) (hs : Soft w g off N) (hf : U32 N f) (hv : Nums .u64 w v lb fb) (hb : U32 lb fb) (hne : 0 < lb → ∀ b o c, v = .slice (some ⟨b, o, none⟩) lb c → b ≠ g) :
  Calls Tryz.prog 209 #[.slice (some ⟨g, off, none⟩) N c, v] w fun e w' => ∃ (cr : Int) (h : Nat → Int), e = .returned (.int .u64 cr) ∧ 0 ≤ cr ∧ cr ≤ 1 ∧ Cells w' .u64 g off N h ∧ U32 N h ∧ (∀ i, lb ≤ i → h i = f i) ∧
   val W32 h N + cr * (W32 : Int) ^ lb = val W32 f N + val W32 fb lb ∧ Upd w w' g off N := by
 obtain ⟨bo, d, rfl, hd, kl, k4⟩ := hv
 unfold LIM at hl
 have K4 := show Hid (0 < lb → ∃ b off, bo = some ⟨b, off, none⟩ ∧ Cells w .u64 b off lb fb) from k4
 have HNE := show Hid (0 < lb → ∀ b o c, Value.slice bo lb d = .slice (some ⟨b, o, none⟩) lb c → b ≠ g) from hne
 clear k4 hne
 go_enter Tryz.func209, Tryz.ntmps209
 go_wp2
 go_loopw [5, 10] (fun vc vi wr => ∃ (i : Nat) (cr : Int) (h : Nat → Int), i ≤ lb ∧ vc = .int .u64 cr ∧ vi = .int .i64 (i : Int) ∧ 0 ≤ cr ∧ cr ≤ 1 ∧ Cells wr .u64 g off N h ∧ U32 N h ∧ (∀ p, i ≤ p → h p = f p) ∧
   val W32 h N + cr * (W32 : Int) ^ i = val W32 f N + val W32 fb i ∧ Upd w wr g off N) (fun _ vi _ => lb - (intOf vi).toNat)
 case atStart => exact ⟨0, 0, f, Nat.zero_le _, rfl, rfl, Int.le_refl _, by decide, hc, hf, fun _ _ => rfl, by simp [val], Upd.refl _ _ _ _⟩
 case round =>
  obtain ⟨i, cr, h, hi, rfl, rfl, hc0, hc1, hch, huh, hsame, hval, hupd⟩ := hrel
  have HV : Hid (val W32 h N + cr * (W32 : Int) ^ i = val W32 f N + val W32 fb i) := hval
  have HS : Hid (∀ p, i ≤ p → h p = f p) := hsame
  clear hval hsame
  by_cases hlt : i < lb
  ·obtain ⟨b2, o2, rfl, kc⟩ := K4.out (by omega)
   have hbne := HNE.out (by omega) b2 o2 d rfl
   have hcb : wr.cell? ⟨b2, o2 + i, none⟩ = some (.int .u64 (fb i)) := (kc.upd hupd (.inl hbne)) i hlt
   have hca := hch i (by omega)
   have hfr := (hs.upd (hc.lt (by omega)) hupd) i (by omega)
   have bx := hb i hlt
   have bh := huh i (by omega)
   unfold W32 at bx bh
   have hm := and_mask (cr + (h i + fb i)) (by omega) (by omega)
   go_wp2
   go_roundw
   case rel =>
    refine ⟨i + 1, (cr + (h i + fb i)) / (W32 : Int), put h i ((cr + (h i + fb i)) % (W32 : Int)), by omega, rfl, by go_num, by unfold W32; omega, by unfold W32; omega, hch.set i (by omega) _, put_bounds huh (by unfold W32; omega) (by unfold W32; omega), ?_, ?_, ?_⟩
    ·intro p hp; rw [put_other _ _ _ _ (by omega)]; exact HS.out p (by omega)
    ·exact add_step W32 h fb N i cr _ _ (by omega) rfl HV.out
    ·exact hupd.trans (Upd.set i (by omega) _)
   case measure => simp [intOf]; omega
  ·have : i = lb := by omega
   subst this
   go_wp2
   go_ret
   exact ⟨cr, h, rfl, hc0, hc1, hch, huh, HS.out, HV.out, hupd⟩

theorem no_carry (B : Nat) (hB : 0 < B) (h : Nat → Int) (N : Nat) (c S : Int) (hb : ∀ i, i < N → 0 ≤ h i ∧ h i < (B : Int)) (hc0 : 0 < c) (hv : val B h N + c * (B : Int) ^ N = S) (hS : S < (B : Int) ^ N) : False := by
 have h1 := (val_bounds B h N hb).1
 have h2 := powB_pos B hB N
 have h3 := Int.mul_le_mul_of_nonneg_right (show 1 ≤ c by omega) (Int.le_of_lt h2)
 rw [Int.one_mul] at h3
 omega

set_option maxRecDepth 20000 in
set_option maxHeartbeats 1000000 in
theorem addInto_any (g off N c : Nat) (v : Value) (lb : Nat) (f fb : Nat → Int) (w : World) (hl : N ≤ LIM) (hlb : lb ≤ N)
  (hc : Cells w .u64 g off N f) (hs : Soft w g off N) (hf : U32 N f) (hv : Nums .u64 w v lb fb) (hb : U32 lb fb) (hne : 0 < lb → ∀ b o c, v = .slice (some ⟨b, o, none⟩) lb c → b ≠ g)
  (hfit : val W32 f N + val W32 fb lb < (W32 : Int) ^ N) :
  Calls Tryz.prog 204 #[.slice (some ⟨g, off, none⟩) N c, v] w fun e w' => e = .returned (.tuple #[]) ∧ ∃ (h : Nat → Int), Cells w' .u64 g off N h ∧ U32 N h ∧ val W32 h N = val W32 f N + val W32 fb lb ∧ Upd w w' g off N := by
 have hv0 := hv
 obtain ⟨bo, d, rfl, hd, kl, k4⟩ := hv0
 clear k4
 have HF := show Hid (val W32 f N + val W32 fb lb < (W32 : Int) ^ N) from hfit
 clear hfit
 go_enter Tryz.func204, Tryz.ntmps204
 go_wp2_with fail
 refine (addLimbs_any g off N c _ lb f fb _ hl hlb hc hs hf hv hb hne).mono ?_
 rintro e w1 ⟨cr0, h0, rfl, h00, h01, hch0, huh0, _, hval0, hupd0⟩
 have HV0 : Hid (val W32 h0 N + cr0 * (W32 : Int) ^ lb = val W32 f N + val W32 fb lb) := hval0
 clear hval0 hne
 unfold LIM at hl
 go_wp2
 go_loopw [4, 5] (fun vc vi wr => ∃ (i : Nat) (cr : Int) (h : Nat → Int), i ≤ N ∧ vc = .int .u64 cr ∧ vi = .int .i64 (i : Int) ∧ 0 ≤ cr ∧ cr ≤ 1 ∧ Cells wr .u64 g off N h ∧ U32 N h ∧
   val W32 h N + cr * (W32 : Int) ^ i = val W32 f N + val W32 fb lb ∧ Upd w wr g off N) (fun _ vi _ => N - (intOf vi).toNat)
 case atStart => exact ⟨lb, cr0, h0, hlb, rfl, rfl, h00, h01, hch0, huh0, HV0.out, hupd0⟩
 case round =>
  clear hch0 huh0 HV0 hupd0
  obtain ⟨i, cr, h, hi, rfl, rfl, hc0, hc1, hch, huh, hval, hupd⟩ := hrel
  have HV : Hid (val W32 h N + cr * (W32 : Int) ^ i = val W32 f N + val W32 fb lb) := hval
  clear hval
  by_cases hcr : 0 < cr
  ·have hiN : i < N := by
    by_cases q : i < N
    ·exact q
    ·have : i = N := by omega
     subst this
     exact (no_carry W32 (by decide) h i cr _ huh hcr HV.out HF.out).elim
   have hca := hch i hiN
   have hfr := (hs.upd (hc.lt (by omega)) hupd) i hiN
   have bh := huh i hiN
   unfold W32 at bh
   have hm := and_mask (cr + h i) (by omega) (by omega)
   go_wp2
   go_roundw
   case rel =>
    refine ⟨i + 1, (cr + h i) / (W32 : Int), put h i ((cr + h i) % (W32 : Int)), by omega, rfl, by go_num, by unfold W32; omega, by unfold W32; omega, hch.set i hiN _, put_bounds huh (by unfold W32; omega) (by unfold W32; omega), ?_, ?_⟩
    ·exact carry_on W32 h N i cr _ _ hiN rfl HV.out
    ·exact hupd.trans (Upd.set i hiN _)
   case measure => simp [intOf]; omega
  ·have : cr = 0 := by omega
   subst this
   go_wp2
   go_end0
   exact ⟨rfl, h, hch, huh, by have := HV.out; rw [Int.zero_mul] at this; omega, hupd⟩

/-- What the block of a slice that 'make' laid holds. -/
theorem made_block {w w1 : World} {e : TypeId} {k : IntKind} {n : Nat} (h : w1.ownsRow w.heap.size e 1 (.slice (some ⟨w.heap.size, 0, none⟩) n n) n (madeCells (Value.int k 0).cells (n * 1)).toList) :
  w1.heap[w.heap.size]? = some (.cells (valsOf k (fun _ => 0) n).toArray e (0, 0)) := by
 rcases h.2 with ⟨h', _⟩ | ⟨g, cap, cur, h', _, hg, _, _, hs, ht⟩
 ·simp at h'
 ·simp only [Value.slice.injEq, Option.some.injEq, Addr.mk.injEq, and_true, true_and] at h'
  obtain ⟨rfl, rfl⟩ := h'
  rw [hg]
  have e1 : cur.toList = valsOf k (fun _ => 0) n := by
   have hlen : cur.toList.length = n := by rw [Array.length_toList, hs, Nat.mul_one]
   rw [List.take_of_length_le (by rw [hlen]; omega)] at ht
   rw [ht]
   apply List.ext_getElem?
   intro i
   by_cases hi : i < n
   ·rw [made_zero k n i hi, valsOf_at _ _ _ _ hi]
   ·rw [List.getElem?_eq_none (by rw [← ht, hlen]; omega), List.getElem?_eq_none (by rw [valsOf_length]; omega)]
  rw [← e1]

theorem val_upto (B : Nat) (g : Nat → Int) (k n : Nat) (h : k ≤ n) : val B (upto g k) n = val B g k := by
 rw [val_stays B (upto g k) n k h (fun i h1 _ => by unfold upto; rw [if_neg (by omega)])]
 exact val_congr k (fun i hi => upto_all g k i hi)

/-- Behind 'copy' of n numbers into a block of zeros. -/
theorem splice_cells {w : World} {g : Nat} {e : TypeId} {k : IntKind} {f : Nat → Int} {n N : Nat} (h : w.heap[g]? = some (.cells (splice (valsOf k (fun _ => 0) N) 0 (valsOf k f n)).toArray e (0, 0))) :
  Cells w k g 0 N (upto f n) ∧ Soft w g 0 N := by
 refine ⟨fun i hi => ?_, fun i _ => ?_⟩
 ·rw [Nat.zero_add, cell_of_row w g i _ _ _ h]
  simp only [splice, List.take_zero, List.nil_append, Nat.zero_add, valsOf_length, List.getElem?_toArray]
  by_cases hin : i < n
  ·rw [List.getElem?_append_left (by rw [valsOf_length]; exact hin), valsOf_at _ _ _ _ hin, upto_all _ _ _ hin]
  ·rw [List.getElem?_append_right (by rw [valsOf_length]; omega), valsOf_length, List.getElem?_drop, show n + (i - n) = i by omega, valsOf_at _ _ _ _ hi]
   unfold upto; rw [if_neg hin]
 ·rw [Nat.zero_add]; exact frozen_of_row w g i _ _ h

/-- What is copied lies where the slice says, in every later world. -/
def SrcOk (w : World) (ao : Option Addr) (n : Nat) (f : Nat → Int) : Prop :=
 ∀ w1 : World, Below w.heap.size w w1 → 0 < (valsOf .u64 f n).length → ∃ ad, ao = some ad ∧ ∀ j v, (valsOf .u64 f n)[j]? = some v → w1.cell? (ad.add j) = some v
theorem srcOk {w : World} {ao : Option Addr} {n c : Nat} {f : Nat → Int} (h : Nums .u64 w (.slice ao n c) n f) : SrcOk w ao n f := by
 obtain ⟨ao', c', he, _, _, h4⟩ := h
 simp only [Value.slice.injEq, true_and] at he
 obtain ⟨rfl, rfl⟩ := he
 intro w1 hb1 hp
 rw [valsOf_length] at hp
 obtain ⟨b, off, rfl, hc⟩ := h4 hp
 refine ⟨_, rfl, fun j u hj => ?_⟩
 have hjn : j < n := by
  by_cases g : j < n
  ·exact g
  ·rw [List.getElem?_eq_none (by rw [valsOf_length]; omega)] at hj; cases hj
 rw [valsOf_at _ _ _ _ hjn] at hj
 have e : (⟨b, off, none⟩ : Addr).add j = ⟨b, off + j, none⟩ := by unfold Addr.add; split <;> simp_all
 rw [e, ← hj]
 exact (hc.below hb1 (hc.lt hp)) j hjn
theorem vals_one (k : IntKind) (f : Nat → Int) (n : Nat) : ∀ v ∈ valsOf k f n, v.oneCell' = true := by intro u hu; unfold valsOf at hu; simp at hu; obtain ⟨_, _, rfl⟩ := hu; rfl

/-- 'copy' of a slice into a block of zeros that the call has made. -/
theorem copy_run {w w1 : World} {ao : Option Addr} {n c N : Nat} {f : Nat → Int} (ty : TypeId) (hn : n ≤ N) (hsrc : SrcOk w ao n f) (hb : Below w.heap.size w w1)
  (hblk : w1.heap[w.heap.size]? = some (.cells (valsOf .u64 (fun _ => 0) N).toArray 90 (0, 0))) (hinf : (Tryz.prog.info? 90).map (·.size) = some 1) :
  ∃ w2, (Builtin.copy_ #[40, 40] ty #[.slice (some ⟨w.heap.size, 0, none⟩) N N, .slice ao n c]).run Tryz.prog w1 = .ok (goInt n) w2 ∧ Cells w2 .u64 w.heap.size 0 N (upto f n) ∧ Soft w2 w.heap.size 0 N ∧ Below w.heap.size w w2 := by
 by_cases h0 : n = 0
 ·subst h0
  refine ⟨w1, run_copy_none (P := Tryz.prog) w1 _ _ ty 90 _ _ _ _ _ _ Tryz.underlying40 hinf (Nat.zero_min _), ?_, ?_, hb⟩
  ·intro i hi
   rw [Nat.zero_add, cell_of_row w1 _ i _ _ _ hblk, List.getElem?_toArray, valsOf_at _ _ _ _ hi]; simp [upto]
  ·intro i _; rw [Nat.zero_add]; exact frozen_of_row w1 _ i _ _ hblk
 ·obtain ⟨ad, rfl, hcs⟩ := hsrc w1 hb (by rw [valsOf_length]; omega)
  have hrun := run_copy_row (P := Tryz.prog) w1 40 40 ty 90 w.heap.size 0 N N ad n c _ 90 (valsOf .u64 f n) Tryz.underlying40 hinf hblk (by rw [valsOf_length]; exact (Nat.min_eq_left hn).symm) hcs (by rw [valsOf_length]; simp [valsOf_length]; omega) (vals_one _ _ _)
  rw [valsOf_length] at hrun
  refine ⟨_, hrun, ?_⟩
  have hblk2 := setRow_heap w1 w.heap.size _ ((valsOf .u64 (fun _ => 0) N).toArray.toList.take 0 ++ valsOf .u64 f n ++ (valsOf .u64 (fun _ => 0) N).toArray.toList.drop (0 + n)).toArray 90 _ hblk
  have hs := splice_cells (w := w1.setRow w.heap.size ((valsOf .u64 (fun _ => 0) N).toArray.toList.take 0 ++ valsOf .u64 f n ++ (valsOf .u64 (fun _ => 0) N).toArray.toList.drop (0 + n)).toArray) (f := f) (n := n) (N := N) (k := .u64) (e := 90) (by rw [hblk2]; simp [splice, valsOf_length])
  exact ⟨hs.1, hs.2, below_setRow hb (Nat.le_refl _) _⟩

set_option maxRecDepth 20000 in
set_option maxHeartbeats 2000000 in
/-- nat.sum where the first is not the shorter one. -/
theorem sum_long (u v : Value) (x y : Nat) (w : World) (hu : Rep w u x) (hv : Rep w v y) (hle : nl W32 y ≤ nl W32 x) (hlim : nl W32 x ≤ 1000000) :
  Calls Tryz.prog 183 #[u, v] w fun e w' => ∃ r, e = .returned r ∧ RepM w.heap.size w' r (x + y) ∧ Below w.heap.size w w' := by
 obtain ⟨i0, hi, hz0, hz1, hz2⟩ := info_parts info_u64
 have hinf : (Tryz.prog.info? 90).map (·.size) = some 1 := by rw [hi]; simp [hz1]
 have HI := show Hid ((Tryz.prog.info? 90).map (·.size) = some 1) from hinf
 clear hinf
 have hv0 := hv
 obtain ⟨ao, c, rfl, hnc, hl, h4⟩ := hu
 obtain ⟨bo, d, rfl, hnd, kl, k4⟩ := hv
 clear k4
 have VX : Hid (val W32 (dg W32 x) (nl W32 x) = (x : Int)) := val_nl W32 x (by decide)
 have VY : Hid (val W32 (dg W32 y) (nl W32 y) = (y : Int)) := val_nl W32 y (by decide)
 have PX : Hid (x < W32 ^ nl W32 x) := lt_pow_nl W32 x (by decide)
 have PY : Hid (y < W32 ^ nl W32 y) := lt_pow_nl W32 y (by decide)
 unfold Rep at hv0
 have UX := u32_dg x (nl W32 x)
 have UY := u32_dg y (nl W32 y)
 generalize nl W32 x = la at *
 generalize nl W32 y = lb at *
 have C2 : SrcOk w ao la (dg W32 x) := srcOk ⟨_, _, rfl, hnc, hl, h4⟩
 clear h4
 have hnl : ¬ la < lb := by omega
 go_enter Tryz.func183, Tryz.ntmps183
 go_wp2_with (at_make; refine wpList_make_full _ rfl _ _ 40 rfl _ 90 i0 (.int .u64 0) 1 Tryz.underlying40 hi hz0 hz1 _ _ _ _ (la + 1) rfl rfl (by omega) (by omega) (by rw [hz2]; omega) (by unfold maxLen; omega) (Nat.le_refl _) ?_; intro w1 hown hgrow)
 obtain ⟨w2, hrun, hc2, hs2, hb2⟩ := copy_run (c := c) 3 (show la ≤ la + 1 by omega) C2 (below_grown hgrow) (made_block hown) HI.out
 rw [hrun]
 clear hown hgrow hrun
 have hU2 : U32 (la + 1) (upto (dg W32 x) la) := fun i _ => by
  unfold upto; split
  ·exact UX i (by assumption)
  ·exact ⟨Int.le_refl _, by decide⟩
 have hv1 : Hid (val W32 (upto (dg W32 x) la) (la + 1) = (x : Int)) := by show _ = _; rw [val_upto _ _ _ _ (by omega)]; exact VX.out
 have hfit : val W32 (upto (dg W32 x) la) (la + 1) + val W32 (dg W32 y) lb < (W32 : Int) ^ (la + 1) := by
  rw [hv1.out, VY.out]
  have p1 := PX.out
  have p2 : y < W32 ^ la := Nat.lt_of_lt_of_le PY.out (Nat.pow_le_pow_right (by decide) hle)
  have p3 : W32 ^ (la + 1) = W32 ^ la * W32 := Nat.pow_succ _ _
  have p4 : ((W32 ^ (la + 1) : Nat) : Int) = (W32 : Int) ^ (la + 1) := by simp
  rw [← p4, p3]
  have p5 : W32 ^ la * 2 ≤ W32 ^ la * W32 := Nat.mul_le_mul_left _ (by decide)
  omega
 go_wp2_with fail
 refine (addInto_any _ _ _ _ _ lb _ _ _ (by unfold LIM; omega) (by omega) hc2 hs2 hU2 (hv0.below hb2) UY (fun hp b o c' he => ?_) hfit).mono ?_
 ·obtain ⟨ao', c'', he', _, _, h4'⟩ := hv0
  obtain ⟨b', o', rfl, hc'⟩ := h4' hp
  have hlt' := hc'.lt hp
  have e3 := he'.symm.trans he
  simp only [Value.slice.injEq, Option.some.injEq, Addr.mk.injEq] at e3
  omega
 rintro e w3 ⟨rfl, h, hch, huh, hvh, hupd⟩
 rw [hv1.out, VY.out] at hvh
 have hMine : Mine .u64 w.heap.size w3 (.slice (some ⟨w.heap.size, 0, none⟩) (la + 1) (la + 1)) (la + 1) h := ⟨_, _, rfl, Nat.le_refl _, by unfold LIM; omega, fun _ => ⟨_, _, rfl, hch, hs2.upd (hc2.lt (by omega)) hupd, Nat.le_refl _⟩⟩
 have hbel : Below w.heap.size w w3 := hb2.trans (hupd.below (Nat.le_refl _) hb2.size)
 go_wp2_with (go_at_call 168; refine (cut_mine _ _ _ _ _ (x + y) hMine huh (by rw [hvh]; simp)).mono ?_; rintro e w4 ⟨r, rfl, hr, rfl⟩)
 go_ret
 exact ⟨_, rfl, hr, hbel⟩

set_option maxRecDepth 20000 in
set_option maxHeartbeats 2000000 in
/-- nat.sum where the first is the shorter one. -/
theorem sum_short (u v : Value) (x y : Nat) (w : World) (hu : Rep w u x) (hv : Rep w v y) (hle : nl W32 y < nl W32 x) (hlim : nl W32 x ≤ 1000000) :
  Calls Tryz.prog 183 #[v, u] w fun e w' => ∃ r, e = .returned r ∧ RepM w.heap.size w' r (x + y) ∧ Below w.heap.size w w' := by
 obtain ⟨i0, hi, hz0, hz1, hz2⟩ := info_parts info_u64
 have hinf : (Tryz.prog.info? 90).map (·.size) = some 1 := by rw [hi]; simp [hz1]
 have HI := show Hid ((Tryz.prog.info? 90).map (·.size) = some 1) from hinf
 clear hinf
 have hv0 := hv
 obtain ⟨ao, c, rfl, hnc, hl, h4⟩ := hu
 obtain ⟨bo, d, rfl, hnd, kl, k4⟩ := hv
 clear k4
 have VX : Hid (val W32 (dg W32 x) (nl W32 x) = (x : Int)) := val_nl W32 x (by decide)
 have VY : Hid (val W32 (dg W32 y) (nl W32 y) = (y : Int)) := val_nl W32 y (by decide)
 have PX : Hid (x < W32 ^ nl W32 x) := lt_pow_nl W32 x (by decide)
 have PY : Hid (y < W32 ^ nl W32 y) := lt_pow_nl W32 y (by decide)
 unfold Rep at hv0
 have UX := u32_dg x (nl W32 x)
 have UY := u32_dg y (nl W32 y)
 generalize nl W32 x = la at *
 generalize nl W32 y = lb at *
 have C2 : SrcOk w ao la (dg W32 x) := srcOk ⟨_, _, rfl, hnc, hl, h4⟩
 clear h4
 have hnl : lb < la := by omega
 go_enter Tryz.func183, Tryz.ntmps183
 go_wp2_with (at_make; refine wpList_make_full _ rfl _ _ 40 rfl _ 90 i0 (.int .u64 0) 1 Tryz.underlying40 hi hz0 hz1 _ _ _ _ (la + 1) rfl rfl (by omega) (by omega) (by rw [hz2]; omega) (by unfold maxLen; omega) (Nat.le_refl _) ?_; intro w1 hown hgrow)
 obtain ⟨w2, hrun, hc2, hs2, hb2⟩ := copy_run (c := c) 3 (show la ≤ la + 1 by omega) C2 (below_grown hgrow) (made_block hown) HI.out
 rw [hrun]
 clear hown hgrow hrun
 have hU2 : U32 (la + 1) (upto (dg W32 x) la) := fun i _ => by
  unfold upto; split
  ·exact UX i (by assumption)
  ·exact ⟨Int.le_refl _, by decide⟩
 have hv1 : Hid (val W32 (upto (dg W32 x) la) (la + 1) = (x : Int)) := by show _ = _; rw [val_upto _ _ _ _ (by omega)]; exact VX.out
 have hfit : val W32 (upto (dg W32 x) la) (la + 1) + val W32 (dg W32 y) lb < (W32 : Int) ^ (la + 1) := by
  rw [hv1.out, VY.out]
  have p1 := PX.out
  have p2 : y < W32 ^ la := Nat.lt_of_lt_of_le PY.out (Nat.pow_le_pow_right (by decide) (Nat.le_of_lt hle))
  have p3 : W32 ^ (la + 1) = W32 ^ la * W32 := Nat.pow_succ _ _
  have p4 : ((W32 ^ (la + 1) : Nat) : Int) = (W32 : Int) ^ (la + 1) := by simp
  rw [← p4, p3]
  have p5 : W32 ^ la * 2 ≤ W32 ^ la * W32 := Nat.mul_le_mul_left _ (by decide)
  omega
 go_wp2_with fail
 refine (addInto_any _ _ _ _ _ lb _ _ _ (by unfold LIM; omega) (by omega) hc2 hs2 hU2 (hv0.below hb2) UY (fun hp b o c' he => ?_) hfit).mono ?_
 ·obtain ⟨ao', c'', he', _, _, h4'⟩ := hv0
  obtain ⟨b', o', rfl, hc'⟩ := h4' hp
  have hlt' := hc'.lt hp
  have e3 := he'.symm.trans he
  simp only [Value.slice.injEq, Option.some.injEq, Addr.mk.injEq] at e3
  omega
 rintro e w3 ⟨rfl, h, hch, huh, hvh, hupd⟩
 rw [hv1.out, VY.out] at hvh
 have hMine : Mine .u64 w.heap.size w3 (.slice (some ⟨w.heap.size, 0, none⟩) (la + 1) (la + 1)) (la + 1) h := ⟨_, _, rfl, Nat.le_refl _, by unfold LIM; omega, fun _ => ⟨_, _, rfl, hch, hs2.upd (hc2.lt (by omega)) hupd, Nat.le_refl _⟩⟩
 have hbel : Below w.heap.size w w3 := hb2.trans (hupd.below (Nat.le_refl _) hb2.size)
 go_wp2_with (go_at_call 168; refine (cut_mine _ _ _ _ _ (x + y) hMine huh (by rw [hvh]; simp)).mono ?_; rintro e w4 ⟨r, rfl, hr, rfl⟩)
 go_ret
 exact ⟨_, rfl, hr, hbel⟩

theorem sum_any (u v : Value) (x y : Nat) (w : World) (hu : Rep w u x) (hv : Rep w v y) (hx : nl W32 x ≤ 1000000) (hy : nl W32 y ≤ 1000000) :
  Calls Tryz.prog 183 #[u, v] w fun e w' => ∃ r, e = .returned r ∧ RepM w.heap.size w' r (x + y) ∧ Below w.heap.size w w' := by
 by_cases h : nl W32 x < nl W32 y
 ·rw [Nat.add_comm]; exact sum_short v u y x w hv hu h hy
 ·exact sum_long u v x y w hu hv (by omega) hx

set_option maxRecDepth 20000 in
set_option maxHeartbeats 400000 in
theorem add_any (u v : Value) (n m : Nat) (f g : Nat → Int) (w : World) (hu : Nums .u64 w u n f) (hv : Nums .u64 w v m g) (hf : U64 n f) (hg : U64 m g) (hn : n ≤ 1000000) (hm : m ≤ 1000000) :
  Calls Tryz.prog 140 #[u, v] w fun e w' => ∃ r, e = .returned r ∧ RepM w.heap.size w' r (num f n + num g m) ∧ Below w.heap.size w w' := by
 have hx := nl_le W32 (num f n) n (by decide) (num_lt f n)
 have hy := nl_le W32 (num g m) m (by decide) (num_lt g m)
 go_enter Tryz.func140, Tryz.ntmps140
 go_wp2_with fail
 refine (plain_any _ _ _ _ hu hf).mono ?_
 rintro e w1 ⟨r1, rfl, hr1, hb1⟩
 go_wp2_with fail
 refine (plain_any _ _ _ _ (hv.below hb1) hg).mono ?_
 rintro e w2 ⟨r2, rfl, hr2, hb2⟩
 go_wp2_with fail
 refine (sum_any _ _ _ _ _ (Nums.below hr1 hb2) hr2 (by omega) (by omega)).mono ?_
 rintro e w3 ⟨r, rfl, hr, hb3⟩
 go_wp2
 go_ret
 have := hb1.size
 have := hb2.size
 exact ⟨_, rfl, hr.le (by omega), hb1.trans ((hb2.mono (by omega)).trans (hb3.mono (by omega)))⟩

theorem take_step (B : Nat) (h g : Nat → Int) (N i : Nat) (c t S : Int) (hi : i < N) (ht : t = h i - g i - c) (hv : val B h N - c * (B : Int) ^ i = S - val B g i) :
  val B (put h i (t % B)) N - (0 - t / B) * (B : Int) ^ (i + 1) = S - val B g (i + 1) := by
 have e1 : (B : Int) ^ (i + 1) = (B : Int) ^ i * B := Int.pow_succ _ _
 rw [val_put B h N i _ hi, e1, Int.zero_sub, Int.neg_mul, Int.sub_neg, carry_step, ht]
 simp only [val]
 have e2 : (h i - g i - c - h i) * (B : Int) ^ i = 0 - (g i * (B : Int) ^ i) - c * (B : Int) ^ i := by rw [show h i - g i - c - h i = 0 - g i - c by omega, Int.sub_mul, Int.sub_mul, Int.zero_mul]
 rw [e2]; omega
theorem take_on (B : Nat) (h : Nat → Int) (N i : Nat) (c t S : Int) (hi : i < N) (ht : t = h i - c) (hv : val B h N - c * (B : Int) ^ i = S) :
  val B (put h i (t % B)) N - (0 - t / B) * (B : Int) ^ (i + 1) = S := by
 have e1 : (B : Int) ^ (i + 1) = (B : Int) ^ i * B := Int.pow_succ _ _
 rw [val_put B h N i _ hi, e1, Int.zero_sub, Int.neg_mul, Int.sub_neg, carry_step, ht]
 rw [show h i - c - h i = 0 - c by omega, Int.sub_mul, Int.zero_mul]; omega

/-- What a difference of limbs is in 64 bits: its lowest 32, and its highest one. -/
theorem wrap_diff (a x b : Int) (ha0 : 0 ≤ a) (ha : a < 4294967296) (hx0 : 0 ≤ x) (hx : x < 4294967296) (hb0 : 0 ≤ b) (hb : b ≤ 1) :
  bits .and .u64 (IntKind.u64.wrap (IntKind.u64.wrap (a - x) - b)) 4294967295 = (a - x - b) % 4294967296 ∧ IntKind.u64.wrap (IntKind.u64.wrap (a - x) - b) / 9223372036854775808 = 0 - (a - x - b) / 4294967296 := by
 have e : IntKind.u64.wrap (IntKind.u64.wrap (a - x) - b) = (a - x - b) % 18446744073709551616 := by
  rw [IntKind.wrap_u64, IntKind.wrap_u64]; omega
 rw [e, and_mask _ (by omega) (by omega)]
 constructor <;> omega
theorem wrap_diff1 (a b : Int) (ha0 : 0 ≤ a) (ha : a < 4294967296) (hb0 : 0 ≤ b) (hb : b ≤ 1) :
  bits .and .u64 (IntKind.u64.wrap (a - b)) 4294967295 = (a - b) % 4294967296 ∧ IntKind.u64.wrap (a - b) / 9223372036854775808 = 0 - (a - b) / 4294967296 := by
 have e : IntKind.u64.wrap (a - b) = (a - b) % 18446744073709551616 := IntKind.wrap_u64 _
 rw [e, and_mask _ (by omega) (by omega)]
 constructor <;> omega

theorem no_borrow (B : Nat) (h : Nat → Int) (N : Nat) (c S : Int) (hb : ∀ i, i < N → 0 ≤ h i ∧ h i < (B : Int)) (hc0 : 1 ≤ c) (hB : 0 < B) (hv : val B h N - c * (B : Int) ^ N = S) (hS : 0 ≤ S) : False := by
 have h1 := (val_bounds B h N hb).2
 have h2 := powB_pos B hB N
 have h3 := Int.mul_le_mul_of_nonneg_right hc0 (Int.le_of_lt h2)
 rw [Int.one_mul] at h3
 omega

set_option maxRecDepth 20000 in
set_option maxHeartbeats 1000000 in
theorem takeFrom_any (g off N c : Nat) (v : Value) (lb : Nat) (f fb : Nat → Int) (w : World) (hl : N ≤ LIM) (hlb : lb ≤ N)
  (hc : Cells w .u64 g off N f) (hs : Soft w g off N) (hf : U32 N f) (hv : Nums .u64 w v lb fb) (hb : U32 lb fb) (hne : 0 < lb → ∀ b o c, v = .slice (some ⟨b, o, none⟩) lb c → b ≠ g)
  (hfit : val W32 fb lb ≤ val W32 f N) :
  Calls Tryz.prog 205 #[.slice (some ⟨g, off, none⟩) N c, v] w fun e w' => e = .returned (.tuple #[]) ∧ ∃ (h : Nat → Int), Cells w' .u64 g off N h ∧ U32 N h ∧ val W32 h N = val W32 f N - val W32 fb lb ∧ Upd w w' g off N := by
 obtain ⟨bo, d, rfl, hd, kl, k4⟩ := hv
 unfold LIM at hl
 have K4 := show Hid (0 < lb → ∃ b off, bo = some ⟨b, off, none⟩ ∧ Cells w .u64 b off lb fb) from k4
 have HNE := show Hid (0 < lb → ∀ b o c, Value.slice bo lb d = .slice (some ⟨b, o, none⟩) lb c → b ≠ g) from hne
 have HF := show Hid (val W32 fb lb ≤ val W32 f N) from hfit
 clear k4 hne hfit
 go_enter Tryz.func205, Tryz.ntmps205
 go_wp2
 go_loopw [4, 12] (fun vc vi wr => ∃ (i : Nat) (cr : Int) (h : Nat → Int), i ≤ lb ∧ vc = .int .u64 cr ∧ vi = .int .i64 (i : Int) ∧ 0 ≤ cr ∧ cr ≤ 1 ∧ Cells wr .u64 g off N h ∧ U32 N h ∧
   val W32 h N - cr * (W32 : Int) ^ i = val W32 f N - val W32 fb i ∧ Upd w wr g off N) (fun _ vi _ => lb - (intOf vi).toNat)
 case atStart => exact ⟨0, 0, f, Nat.zero_le _, rfl, rfl, Int.le_refl _, by decide, hc, hf, by simp [val], Upd.refl _ _ _ _⟩
 case round =>
  obtain ⟨i, cr, h, hi, rfl, rfl, hc0, hc1, hch, huh, hval, hupd⟩ := hrel
  have HV : Hid (val W32 h N - cr * (W32 : Int) ^ i = val W32 f N - val W32 fb i) := hval
  clear hval
  by_cases hlt : i < lb
  ·obtain ⟨b2, o2, rfl, kc⟩ := K4.out (by omega)
   have hbne := HNE.out (by omega) b2 o2 d rfl
   have hcb : wr.cell? ⟨b2, o2 + i, none⟩ = some (.int .u64 (fb i)) := (kc.upd hupd (.inl hbne)) i hlt
   have hca := hch i (by omega)
   have hfr := (hs.upd (hc.lt (by omega)) hupd) i (by omega)
   have bx := hb i hlt
   have bh := huh i (by omega)
   unfold W32 at bx bh
   obtain ⟨hm, hq⟩ := wrap_diff (h i) (fb i) cr bh.1 bh.2 bx.1 bx.2 hc0 hc1
   go_wp2
   go_roundw
   case rel =>
    refine ⟨i + 1, 0 - (h i - fb i - cr) / (W32 : Int), put h i ((h i - fb i - cr) % (W32 : Int)), by omega, by simp [W32], by go_num, by unfold W32; omega, by unfold W32; omega, hch.set i (by omega) _, put_bounds huh (by unfold W32; omega) (by unfold W32; omega), ?_, ?_⟩
    ·exact take_step W32 h fb N i cr _ _ (by omega) rfl HV.out
    ·exact hupd.trans (Upd.set i (by omega) _)
   case measure => simp [intOf]; omega
  ·have hib : i = lb := by omega
   subst hib
   go_wp2
   go_loopw [4, 8] (fun vc vj w2 => ∃ (j : Nat) (cr : Int) (h : Nat → Int), j ≤ N ∧ vc = .int .u64 cr ∧ vj = .int .i64 (j : Int) ∧ 0 ≤ cr ∧ cr ≤ 1 ∧ Cells w2 .u64 g off N h ∧ U32 N h ∧
     val W32 h N - cr * (W32 : Int) ^ j = val W32 f N - val W32 fb i ∧ Upd w w2 g off N) (fun _ vj _ => N - (intOf vj).toNat)
   case atStart => exact ⟨i, cr, h, hlb, rfl, rfl, hc0, hc1, hch, huh, HV.out, hupd⟩
   case round =>
    clear hc0 hc1 hch huh HV hupd
    obtain ⟨j, cr, h, hj, rfl, rfl, hc0, hc1, hch, huh, hval, hupd⟩ := hrel
    have HV : Hid (val W32 h N - cr * (W32 : Int) ^ j = val W32 f N - val W32 fb i) := hval
    clear hval
    by_cases hcr : 0 < cr
    ·have hjN : j < N := by
      by_cases q : j < N
      ·exact q
      ·have : j = N := by omega
       subst this
       exact (no_borrow W32 h j cr _ huh (by omega) (by decide) HV.out (by have := HF.out; omega)).elim
     have hca := hch j hjN
     have hfr := (hs.upd (hc.lt (by omega)) hupd) j hjN
     have bh := huh j hjN
     unfold W32 at bh
     obtain ⟨hm, hq⟩ := wrap_diff1 (h j) cr bh.1 bh.2 hc0 hc1
     go_wp2
     go_roundw
     case rel =>
      refine ⟨j + 1, 0 - (h j - cr) / (W32 : Int), put h j ((h j - cr) % (W32 : Int)), by omega, by simp [W32], by go_num, by unfold W32; omega, by unfold W32; omega, hch.set j hjN _, put_bounds huh (by unfold W32; omega) (by unfold W32; omega), ?_, ?_⟩
      ·exact take_on W32 h N j cr _ _ hjN rfl HV.out
      ·exact hupd.trans (Upd.set j hjN _)
     case measure => simp [intOf]; omega
    ·have : cr = 0 := by omega
     subst this
     go_wp2
     go_end0
     exact ⟨rfl, h, hch, huh, by have := HV.out; rw [Int.zero_mul] at this; omega, hupd⟩

set_option maxRecDepth 20000 in
set_option maxHeartbeats 400000 in
theorem takeFrom_nil (ao : Option Addr) (c : Nat) (bo : Option Addr) (d : Nat) (w : World) :
  Calls Tryz.prog 205 #[.slice ao 0 c, .slice bo 0 d] w fun e w' => e = .returned (.tuple #[]) ∧ w' = w := by
 go_enter Tryz.func205, Tryz.ntmps205
 go_wp2
 refine wp_loop_rounds 1 ?_
 rw [rounds_succ]
 go_wp2
 refine wp_loop_rounds 1 ?_
 rw [rounds_succ]
 go_wp2
 go_end0
 exact ⟨rfl, rfl⟩

/-- nat.takeFrom of a number in memory of the call's own, which lies apart from what is taken. -/
theorem takeFrom_mine (B : Nat) (u v : Value) (x y : Nat) (w : World) (hu : RepM B w u x) (hv : Rep w v y) (hle : y ≤ x) (hBw : B ≤ w.heap.size)
  (hap : 0 < nl W32 y → ∀ b o c b' o' c', u = .slice (some ⟨b, o, none⟩) (nl W32 x) c → v = .slice (some ⟨b', o', none⟩) (nl W32 y) c' → b' ≠ b) :
  Calls Tryz.prog 205 #[u, v] w fun e w' => e = .returned (.tuple #[]) ∧ ∃ h : Nat → Int, Mine .u64 B w' u (nl W32 x) h ∧ U32 (nl W32 x) h ∧ val W32 h (nl W32 x) = ((x - y : Nat) : Int) ∧ Below B w w' := by
 have hnl : nl W32 y ≤ nl W32 x := by
  by_cases g : nl W32 x < nl W32 y
  ·have := lt_of_nl W32 x y (by decide) g; omega
  ·omega
 have vx := val_nl W32 x (by decide)
 have vy := val_nl W32 y (by decide)
 obtain ⟨ao, c, rfl, hnc, hl, h4⟩ := hu
 by_cases h0 : nl W32 x = 0
 ·have hx0 := (nl_eq_zero W32 x (by decide)).1 h0
  have hy0 : y = 0 := by omega
  subst hx0 hy0
  obtain ⟨bo, d, rfl, hnd, kl, k4⟩ := hv
  rw [nl_zero] at *
  refine (takeFrom_nil ao c bo d w).mono fun e w' ⟨he, hw⟩ => ?_
  subst hw
  exact ⟨he, fun _ => 0, ⟨_, _, rfl, hnc, hl, fun h => by omega⟩, fun i hi => by omega, by simp [val], Below.refl _ _⟩
 ·obtain ⟨b, off, rfl, hc, hs, hB⟩ := h4 (by omega)
  refine (takeFrom_any b off (nl W32 x) c v (nl W32 y) _ _ w hl hnl hc hs (u32_dg _ _) hv (u32_dg _ _) (fun hp b' o' c' he => hap hp b off c b' o' c' rfl he) (by rw [vx, vy]; omega)).mono fun e w' ⟨he, h, hch, huh, hvh, hupd⟩ => ?_
  refine ⟨he, h, ⟨_, _, rfl, hnc, hl, fun _ => ⟨_, _, rfl, hch, hs.upd (hc.lt (by omega)) hupd, hB⟩⟩, huh, ?_, hupd.below hB hBw⟩
  rw [hvh, vx, vy]; omega

set_option maxRecDepth 20000 in
set_option maxHeartbeats 400000 in
/-- nat.plain, and where its answer lies: it is what came in, or it lies in memory of its own. -/
theorem plain_at (v : Value) (n : Nat) (f : Nat → Int) (w : World) (h : Nums .u64 w v n f) (hf : U64 n f) :
  Calls Tryz.prog 109 #[v] w fun e w' => ∃ v', e = .returned v' ∧ Rep w' v' (num f n) ∧ Below w.heap.size w w' ∧ (v' = v ∨ RepM w.heap.size w' v' (num f n)) := by
 cases hr : rightB f n with
 | true =>
  go_enter Tryz.func109, Tryz.ntmps109
  go_wp2_with (go_at_call 159; refine (right_any _ _ _ _ h).mono ?_; rintro e w' ⟨rfl, rfl⟩; rw [hr])
  go_ret
  obtain ⟨e1, e2⟩ := right_form f n hf hr
  have hrep : Rep w' v (num f n) := by unfold Rep; rw [← e1]; exact h.congr e2
  exact ⟨_, rfl, hrep, Below.refl _ _, .inl rfl⟩
 | false =>
  go_enter Tryz.func109, Tryz.ntmps109
  go_wp2_with (first | (go_at_call 159; refine (right_any _ _ _ _ h).mono ?_; rintro e w' ⟨rfl, rfl⟩; rw [hr]) | (go_at_call 117; refine (clean_any _ _ _ _ h hf).mono ?_; rintro e w2 ⟨v', rfl, hm, hb⟩))
  go_ret
  exact ⟨_, rfl, hm.nums, hb, .inr hm⟩

theorem nums_lt {k : IntKind} {w : World} {v : Value} {n : Nat} {f : Nat → Int} (h : Nums k w v n f) (hn : 0 < n) {b o c m : Nat} (he : v = .slice (some ⟨b, o, none⟩) m c) : b < w.heap.size := by
 obtain ⟨ao, c', h1, _, _, h4⟩ := h
 obtain ⟨b', o', rfl, hc⟩ := h4 hn
 rw [h1] at he
 simp only [Value.slice.injEq, Option.some.injEq, Addr.mk.injEq] at he
 have := hc.lt hn
 omega
theorem mine_ge {k : IntKind} {B : Nat} {w : World} {v : Value} {n : Nat} {f : Nat → Int} (h : Mine k B w v n f) (hn : 0 < n) {b o c m : Nat} (he : v = .slice (some ⟨b, o, none⟩) m c) : B ≤ b := by
 obtain ⟨ao, c', h1, _, _, h4⟩ := h
 obtain ⟨b', o', rfl, hc, _, hB⟩ := h4 hn
 rw [h1] at he
 simp only [Value.slice.injEq, Option.some.injEq, Addr.mk.injEq] at he
 omega

set_option maxRecDepth 20000 in
set_option maxHeartbeats 1000000 in
theorem sub_neg (u v : Value) (n m : Nat) (f g : Nat → Int) (w : World) (hu : Nums .u64 w u n f) (hv : Nums .u64 w v m g) (hf : U64 n f) (hg : U64 m g) (h : num f n < num g m) :
  Calls Tryz.prog 186 #[u, v] w fun e w' => e = .returned (.tuple #[.slice none 0 0, .int .i64 3]) ∧ Below w.heap.size w w' := by
 have hc : cmpI (num f n) (num g m) = -1 := cmpI_lt (by omega)
 go_enter Tryz.func186, Tryz.ntmps186
 go_wp2_with (go_at_call 97; refine (cmp_any _ _ _ _ _ _ _ hu hv hf hg).mono ?_; rintro e w1 ⟨rfl, hb1⟩; rw [hc])
 go_ret2
 exact ⟨rfl, hb1⟩

set_option maxRecDepth 20000 in
set_option maxHeartbeats 1000000 in
theorem sub_ok (u v : Value) (n m : Nat) (f g : Nat → Int) (w : World) (hu : Nums .u64 w u n f) (hv : Nums .u64 w v m g) (hf : U64 n f) (hg : U64 m g) (h : num g m ≤ num f n) :
  Calls Tryz.prog 186 #[u, v] w fun e w' => ∃ r, e = .returned (.tuple #[r, .int .i64 0]) ∧ RepM w.heap.size w' r (num f n - num g m) ∧ Below w.heap.size w w' := by
 have hc : ¬ cmpI (num f n) (num g m) < 0 := by unfold cmpI; rw [if_neg (by omega)]; split <;> omega
 go_enter Tryz.func186, Tryz.ntmps186
 go_wp2_with fail
 refine (cmp_any _ _ _ _ _ _ _ hu hv hf hg).mono ?_
 rintro e w1 ⟨rfl, hb1⟩
 go_wp2_with fail
 refine (clean_any _ _ _ _ (hu.below hb1) hf).mono ?_
 rintro e w2 ⟨q, rfl, hq, hb2⟩
 have B2 : Below w.heap.size w w2 := hb1.trans (hb2.mono hb1.size)
 go_wp2_with fail
 refine (plain_at _ _ _ _ (hv.below B2) hg).mono ?_
 rintro e w3 ⟨r, rfl, hr, hb3, hat⟩
 have s1 := hb1.size
 have s2 := hb2.size
 have s3 := hb3.size
 have hq3 := hq.below hb3
 have hap : 0 < nl W32 (num g m) → ∀ b o c b' o' c', q = .slice (some ⟨b, o, none⟩) (nl W32 (num f n)) c → r = .slice (some ⟨b', o', none⟩) (nl W32 (num g m)) c' → b' ≠ b := by
  intro hp b o c b' o' c' hqe hre
  have hnl : nl W32 (num g m) ≤ nl W32 (num f n) := by
   by_cases g' : nl W32 (num f n) < nl W32 (num g m)
   ·have := lt_of_nl W32 (num f n) (num g m) (by decide) g'; omega
   ·omega
  have h1 := mine_ge hq (by omega) hqe
  have h2 := nums_lt hq.nums (by omega) hqe
  rcases hat with rfl | hat
  ·have hm0 : 0 < m := by
    obtain ⟨ao, c0, h1, _⟩ := hv
    rw [h1] at hre
    simp only [Value.slice.injEq] at hre
    omega
   have h3 := nums_lt hv hm0 hre
   omega
  ·have h3 := mine_ge hat hp hre
   omega
 go_wp2_with fail
 refine (takeFrom_mine w1.heap.size _ _ (num f n) (num g m) _ hq3 hr h (by omega) hap).mono ?_
 rintro e w4 ⟨rfl, h4, hm4, hu4, hv4, hb4⟩
 have HV4 : Hid (val W32 h4 (nl W32 (num f n)) = ((num f n - num g m : Nat) : Int)) := hv4
 clear hv4
 have B4 : Below w.heap.size w w4 := B2.trans ((hb3.mono (by omega)).trans (hb4.mono (by omega)))
 go_wp2_with (go_at_call 168; refine (cut_mine _ _ _ _ _ _ hm4 hu4 HV4.out).mono ?_; rintro e w5 ⟨r5, rfl, hr5, rfl⟩)
 go_ret2
 exact ⟨_, rfl, hr5.le (by omega), B4⟩

theorem less_step (B : Nat) (h fa fb : Nat → Int) (n i : Nat) (u v U D c t : Int) (hi : i < n) (hz : h i = 0) (ht : t = (U + u * fa i) % B - (D + v * fb i) % B - c)
  (hv : val B h n + (U - D - c) * (B : Int) ^ i = u * val B fa i - v * val B fb i) :
  val B (put h i (t % B)) n + ((U + u * fa i) / B - (D + v * fb i) / B - (0 - t / B)) * (B : Int) ^ (i + 1) = u * val B fa (i + 1) - v * val B fb (i + 1) := by
 have e1 : (B : Int) ^ (i + 1) = (B : Int) ^ i * B := Int.pow_succ _ _
 have d1 := Int.mul_ediv_add_emod (U + u * fa i) B
 have d2 := Int.mul_ediv_add_emod (D + v * fb i) B
 have d3 := Int.mul_ediv_add_emod t B
 rw [val_put B h n i _ hi, hz, e1]
 simp only [val]
 generalize (U + u * fa i) / (B : Int) = qU at *
 generalize (D + v * fb i) / (B : Int) = qD at *
 generalize (U + u * fa i) % (B : Int) = rU at *
 generalize (D + v * fb i) % (B : Int) = rD at *
 generalize t / (B : Int) = qt at *
 generalize t % (B : Int) = rt at *
 generalize (B : Int) ^ i = P at *
 grind

theorem less_end (V K X u v A B x y P : Int) (hP : 0 < P) (hV : 0 ≤ V ∧ V < P) (hX : 0 ≤ X ∧ X < P) (h : V + K * P = u * A - v * B) (hx : u * x = v * y + X) (ha : ∃ p, x = A + p * P) (hb : ∃ q, y = B + q * P) : V = X := by
 obtain ⟨p, hp⟩ := ha
 obtain ⟨q, hq⟩ := hb
 have e : X = V + (K + u * p - v * q) * P := by grind
 generalize K + u * p - v * q = M at e
 by_cases h0 : M = 0
 ·rw [h0] at e; omega
 ·exfalso
  by_cases h1 : 1 ≤ M
  ·have := Int.mul_le_mul_of_nonneg_right h1 (Int.le_of_lt hP); omega
  ·have h2 : M ≤ -1 := by omega
   have := Int.mul_le_mul_of_nonneg_right h2 (Int.le_of_lt hP); omega

theorem digits_hi (x n : Nat) : ∃ p : Int, (x : Int) = val W32 (dg W32 x) n + p * (W32 : Int) ^ n := by
 refine ⟨((x / W32 ^ n : Nat) : Int), ?_⟩
 rw [val_dg]
 have h := Nat.div_add_mod x (W32 ^ n)
 have e : ((W32 ^ n : Nat) : Int) = (W32 : Int) ^ n := by simp
 rw [← e, ← Int.natCast_mul, ← Int.natCast_add, Nat.mul_comm]
 omega

set_option maxRecDepth 20000 in
set_option maxHeartbeats 1000000 in
theorem lessTimes_a (u v : Nat) (va vb : Value) (x y X : Nat) (w : World) (ha : Rep w va x) (hb : Rep w vb y) (hu : u < 4294967296) (hv : v < 4294967296) (hx : u * x = v * y + X) (hX : X < W32 ^ (nl W32 x)) (hlx : nl W32 x ≤ 1000000) (hly : nl W32 y ≤ 1000000) (hle : nl W32 x ≤ nl W32 y) :
  Calls Tryz.prog 166 #[.int .u64 (u : Int), va, .int .u64 (v : Int), vb] w fun e w' => ∃ r, e = .returned r ∧ RepM w.heap.size w' r X ∧ Below w.heap.size w w' := by
 obtain ⟨i0, hi, hz0, hz1, hz2⟩ := info_parts info_u64
 obtain ⟨ao, c, rfl, _, hl, h4⟩ := ha
 obtain ⟨bo, d, rfl, _, kl, k4⟩ := hb
 generalize nl W32 x = la at *
 generalize nl W32 y = lb at *
 have hn1 : la ≤ la := by omega
 have hn2 : la ≤ lb := by omega
 have hmi : (la : Int) ≤ (lb : Int) := by omega
 have hmj : ¬ (lb : Int) < (la : Int) := by omega
 have HX : Hid (X < W32 ^ la) := hX
 have HXX : Hid (u * x = v * y + X) := hx
 have hfa : ∀ i, 0 ≤ dg W32 x i ∧ dg W32 x i < 4294967296 := fun i => dg_bounds W32 x i (by decide)
 have hfb : ∀ i, 0 ≤ dg W32 y i ∧ dg W32 y i < 4294967296 := fun i => dg_bounds W32 y i (by decide)
 have HA : Hid (∃ p : Int, (x : Int) = val W32 (dg W32 x) la + p * (W32 : Int) ^ la) := digits_hi x _
 have HB : Hid (∃ p : Int, (y : Int) = val W32 (dg W32 y) la + p * (W32 : Int) ^ la) := digits_hi y _
 generalize dg W32 x = fa at *
 generalize dg W32 y = fb at *
 have H4 := show Hid (0 < la → ∃ b off, ao = some ⟨b, off, none⟩ ∧ Cells w .u64 b off la fa) from h4
 have K4 := show Hid (0 < lb → ∃ b off, bo = some ⟨b, off, none⟩ ∧ Cells w .u64 b off lb fb) from k4
 have hnm : la ≤ maxLen := by unfold maxLen; omega
 have hna : i0.bytes * la ≤ 281474976710656 := by rw [hz2]; omega
 have hnl : la ≤ LIM := by unfold LIM; omega
 clear h4 k4 hX hx
 go_enter Tryz.func166, Tryz.ntmps166
 go_wp2_with (at_make; refine wpList_make_full _ rfl _ _ 40 rfl _ 90 i0 (.int .u64 0) 1 Tryz.underlying40 hi hz0 hz1 _ _ _ _ la rfl rfl rfl rfl hna hnm (Nat.le_refl _) ?_; intro w1 hown hgrow)
 have hb1 := below_grown hgrow
 obtain ⟨hc1, hs1⟩ := mine_made (k := .u64) (w := w) hown (fun _ => 0) (fun i hi => made_zero .u64 la i hi)
 clear hown hgrow hna hnm
 have hsz1 := hb1.size
 go_loopw [10, 11, 12, 23] (fun vU vD vc vi wr => ∃ (i : Nat) (U D cr : Int) (h : Nat → Int), i ≤ la ∧ vU = .int .u64 U ∧ vD = .int .u64 D ∧ vc = .int .u64 cr ∧ vi = .int .i64 (i : Int) ∧ 0 ≤ U ∧ U < 4294967296 ∧ 0 ≤ D ∧ D < 4294967296 ∧ 0 ≤ cr ∧ cr ≤ 1 ∧ Cells wr .u64 w.heap.size 0 la h ∧ U32 la h ∧ (∀ p, i ≤ p → h p = 0) ∧
   val W32 h la + (U - D - cr) * (W32 : Int) ^ i = (u : Int) * val W32 fa i - (v : Int) * val W32 fb i ∧ Soft wr w.heap.size 0 la ∧ Below w.heap.size w wr) (fun _ _ _ vi _ => la - (intOf vi).toNat)
 case atStart => exact ⟨0, 0, 0, 0, fun _ => 0, Nat.zero_le _, rfl, rfl, rfl, rfl, by omega, by omega, by omega, by omega, by omega, by omega, hc1, fun _ _ => ⟨Int.le_refl _, (by decide : (0 : Int) < (W32 : Int))⟩, fun _ _ => rfl, by rw [val_zero la (fun _ _ => rfl)]; simp [val], hs1, hb1⟩
 case round =>
  clear hc1 hs1 hb1
  obtain ⟨i, U, D, cr, h, hiN, rfl, rfl, rfl, rfl, hU0, hU1, hD0, hD1, hc0, hc1, hch, huh, hz, hval, hsr, hbel⟩ := hrel
  have HV : Hid (val W32 h la + (U - D - cr) * (W32 : Int) ^ i = (u : Int) * val W32 fa i - (v : Int) * val W32 fb i) := hval
  have HZ : Hid (∀ p, i ≤ p → h p = 0) := hz
  clear hval hz
  by_cases hlt : i < la
  ·obtain ⟨b1, o1, rfl, hca0⟩ := H4.out (by omega)
   obtain ⟨b2, o2, rfl, hcb0⟩ := K4.out (by omega)
   have hca : wr.cell? ⟨b1, o1 + i, none⟩ = some (.int .u64 (fa i)) := (hca0.below hbel (hca0.lt (by omega))) i (by omega)
   have hcb : wr.cell? ⟨b2, o2 + i, none⟩ = some (.int .u64 (fb i)) := (hcb0.below hbel (hcb0.lt (by omega))) i (by omega)
   have hcell : wr.cell? ⟨w.heap.size, i, none⟩ = some (.int .u64 (h i)) := by have := hch i hlt; rw [Nat.zero_add] at this; exact this
   have hfr : wr.frozen? ⟨w.heap.size, i, none⟩ = false := by have := hsr i hlt; rw [Nat.zero_add] at this; exact this
   have q1 := mul_le_mul32 (u : Int) (fa i) (by omega) (by omega) (hfa i).1 (hfa i).2
   have q2 := mul_le_mul32 (v : Int) (fb i) (by omega) (by omega) (hfb i).1 (hfb i).2
   have hst := less_step W32 h fa fb la i (u : Int) (v : Int) U D cr _ hlt (HZ.out i (Nat.le_refl _)) rfl HV.out
   have HST : Hid (val W32 (put h i (((U + (u : Int) * fa i) % W32 - (D + (v : Int) * fb i) % W32 - cr) % W32)) la + ((U + (u : Int) * fa i) / W32 - (D + (v : Int) * fb i) / W32 - (0 - ((U + (u : Int) * fa i) % W32 - (D + (v : Int) * fb i) % W32 - cr) / W32)) * (W32 : Int) ^ (i + 1) = (u : Int) * val W32 fa (i + 1) - (v : Int) * val W32 fb (i + 1)) := hst
   clear hst HV hca0 hcb0
   have hi0 : (0 : Int) ≤ (i : Int) := by omega
   generalize hP1 : (u : Int) * fa i = P1 at *
   generalize hP2 : (v : Int) * fb i = P2 at *
   have m1 := and_mask (U + P1) (by omega) (by omega)
   have m2 := and_mask (D + P2) (by omega) (by omega)
   obtain ⟨hm, hq⟩ := wrap_diff ((U + P1) % 4294967296) ((D + P2) % 4294967296) cr (by omega) (by omega) (by omega) (by omega) hc0 hc1
   have hW : (W32 : Int) = 4294967296 := rfl
   rw [hW] at HST
   clear hW
   go_wp2
   go_roundw
   case rel =>
    refine ⟨i + 1, (U + P1) / 4294967296, (D + P2) / 4294967296, 0 - ((U + P1) % 4294967296 - (D + P2) % 4294967296 - cr) / 4294967296, put h i (((U + P1) % 4294967296 - (D + P2) % 4294967296 - cr) % 4294967296), by omega, rfl, rfl, by simp, by go_num, by omega, by omega, by omega, by omega, by omega, by omega, ?_, put_bounds huh (by omega) (by unfold W32; omega), ?_, HST.out, ?_, ?_⟩
    ·have := hch.set i hlt (((U + P1) % 4294967296 - (D + P2) % 4294967296 - cr) % 4294967296); rw [Nat.zero_add] at this; exact this
    ·intro p hp; rw [put_other _ _ _ _ (by omega)]; exact HZ.out p (by omega)
    ·exact hsr.set _ _
    ·exact hbel.setCell (by simp) _
   case measure => simp [intOf]; omega
  ·have hiN' : i = la := by omega
   subst hiN'
   have hP := powB_pos W32 (by decide) i
   have hVb := val_bounds W32 h i (fun j hj => huh j hj)
   have hXi : (0 : Int) ≤ (X : Int) ∧ (X : Int) < (W32 : Int) ^ i := by
    have e : ((W32 ^ i : Nat) : Int) = (W32 : Int) ^ i := by simp
    have := HX.out
    omega
   have hxi : (u : Int) * (x : Int) = (v : Int) * (y : Int) + (X : Int) := by
    have := HXX.out
    rw [← Int.natCast_mul, ← Int.natCast_mul, ← Int.natCast_add, this]
   have hfin : val W32 h i = (X : Int) := less_end _ _ _ _ _ _ _ _ _ _ hP hVb hXi HV.out hxi HA.out HB.out
   have hMine : Mine .u64 w.heap.size wr (.slice (some ⟨w.heap.size, 0, none⟩) i i) i h := ⟨_, _, rfl, Nat.le_refl _, hnl, fun _ => ⟨_, _, rfl, hch, hsr, Nat.le_refl _⟩⟩
   have HF : Hid (val W32 h i = (X : Int)) := hfin
   clear hfin hxi hXi hVb hP HV HZ HX HXX HA HB
   go_wp2_with (go_at_call 168; refine (cut_mine _ _ _ _ _ X hMine huh HF.out).mono ?_; rintro e w3 ⟨r, rfl, hr, rfl⟩)
   go_ret
   exact ⟨_, rfl, hr, hbel⟩

set_option maxRecDepth 20000 in
set_option maxHeartbeats 1000000 in
theorem lessTimes_b (u v : Nat) (va vb : Value) (x y X : Nat) (w : World) (ha : Rep w va x) (hb : Rep w vb y) (hu : u < 4294967296) (hv : v < 4294967296) (hx : u * x = v * y + X) (hX : X < W32 ^ (nl W32 y)) (hlx : nl W32 x ≤ 1000000) (hly : nl W32 y ≤ 1000000) (hle : nl W32 y < nl W32 x) :
  Calls Tryz.prog 166 #[.int .u64 (u : Int), va, .int .u64 (v : Int), vb] w fun e w' => ∃ r, e = .returned r ∧ RepM w.heap.size w' r X ∧ Below w.heap.size w w' := by
 obtain ⟨i0, hi, hz0, hz1, hz2⟩ := info_parts info_u64
 obtain ⟨ao, c, rfl, _, hl, h4⟩ := ha
 obtain ⟨bo, d, rfl, _, kl, k4⟩ := hb
 generalize nl W32 x = la at *
 generalize nl W32 y = lb at *
 have hn1 : lb ≤ la := by omega
 have hn2 : lb ≤ lb := by omega
 have hmi : (lb : Int) < (la : Int) := by omega
 have hmj : ¬ (la : Int) ≤ (lb : Int) := by omega
 have HX : Hid (X < W32 ^ lb) := hX
 have HXX : Hid (u * x = v * y + X) := hx
 have hfa : ∀ i, 0 ≤ dg W32 x i ∧ dg W32 x i < 4294967296 := fun i => dg_bounds W32 x i (by decide)
 have hfb : ∀ i, 0 ≤ dg W32 y i ∧ dg W32 y i < 4294967296 := fun i => dg_bounds W32 y i (by decide)
 have HA : Hid (∃ p : Int, (x : Int) = val W32 (dg W32 x) lb + p * (W32 : Int) ^ lb) := digits_hi x _
 have HB : Hid (∃ p : Int, (y : Int) = val W32 (dg W32 y) lb + p * (W32 : Int) ^ lb) := digits_hi y _
 generalize dg W32 x = fa at *
 generalize dg W32 y = fb at *
 have H4 := show Hid (0 < la → ∃ b off, ao = some ⟨b, off, none⟩ ∧ Cells w .u64 b off la fa) from h4
 have K4 := show Hid (0 < lb → ∃ b off, bo = some ⟨b, off, none⟩ ∧ Cells w .u64 b off lb fb) from k4
 have hnm : lb ≤ maxLen := by unfold maxLen; omega
 have hna : i0.bytes * lb ≤ 281474976710656 := by rw [hz2]; omega
 have hnl : lb ≤ LIM := by unfold LIM; omega
 clear h4 k4 hX hx
 go_enter Tryz.func166, Tryz.ntmps166
 go_wp2_with (at_make; refine wpList_make_full _ rfl _ _ 40 rfl _ 90 i0 (.int .u64 0) 1 Tryz.underlying40 hi hz0 hz1 _ _ _ _ lb rfl rfl rfl rfl hna hnm (Nat.le_refl _) ?_; intro w1 hown hgrow)
 have hb1 := below_grown hgrow
 obtain ⟨hc1, hs1⟩ := mine_made (k := .u64) (w := w) hown (fun _ => 0) (fun i hi => made_zero .u64 lb i hi)
 clear hown hgrow hna hnm
 have hsz1 := hb1.size
 go_loopw [10, 11, 12, 23] (fun vU vD vc vi wr => ∃ (i : Nat) (U D cr : Int) (h : Nat → Int), i ≤ lb ∧ vU = .int .u64 U ∧ vD = .int .u64 D ∧ vc = .int .u64 cr ∧ vi = .int .i64 (i : Int) ∧ 0 ≤ U ∧ U < 4294967296 ∧ 0 ≤ D ∧ D < 4294967296 ∧ 0 ≤ cr ∧ cr ≤ 1 ∧ Cells wr .u64 w.heap.size 0 lb h ∧ U32 lb h ∧ (∀ p, i ≤ p → h p = 0) ∧
   val W32 h lb + (U - D - cr) * (W32 : Int) ^ i = (u : Int) * val W32 fa i - (v : Int) * val W32 fb i ∧ Soft wr w.heap.size 0 lb ∧ Below w.heap.size w wr) (fun _ _ _ vi _ => lb - (intOf vi).toNat)
 case atStart => exact ⟨0, 0, 0, 0, fun _ => 0, Nat.zero_le _, rfl, rfl, rfl, rfl, by omega, by omega, by omega, by omega, by omega, by omega, hc1, fun _ _ => ⟨Int.le_refl _, (by decide : (0 : Int) < (W32 : Int))⟩, fun _ _ => rfl, by rw [val_zero lb (fun _ _ => rfl)]; simp [val], hs1, hb1⟩
 case round =>
  clear hc1 hs1 hb1
  obtain ⟨i, U, D, cr, h, hiN, rfl, rfl, rfl, rfl, hU0, hU1, hD0, hD1, hc0, hc1, hch, huh, hz, hval, hsr, hbel⟩ := hrel
  have HV : Hid (val W32 h lb + (U - D - cr) * (W32 : Int) ^ i = (u : Int) * val W32 fa i - (v : Int) * val W32 fb i) := hval
  have HZ : Hid (∀ p, i ≤ p → h p = 0) := hz
  clear hval hz
  by_cases hlt : i < lb
  ·obtain ⟨b1, o1, rfl, hca0⟩ := H4.out (by omega)
   obtain ⟨b2, o2, rfl, hcb0⟩ := K4.out (by omega)
   have hca : wr.cell? ⟨b1, o1 + i, none⟩ = some (.int .u64 (fa i)) := (hca0.below hbel (hca0.lt (by omega))) i (by omega)
   have hcb : wr.cell? ⟨b2, o2 + i, none⟩ = some (.int .u64 (fb i)) := (hcb0.below hbel (hcb0.lt (by omega))) i (by omega)
   have hcell : wr.cell? ⟨w.heap.size, i, none⟩ = some (.int .u64 (h i)) := by have := hch i hlt; rw [Nat.zero_add] at this; exact this
   have hfr : wr.frozen? ⟨w.heap.size, i, none⟩ = false := by have := hsr i hlt; rw [Nat.zero_add] at this; exact this
   have q1 := mul_le_mul32 (u : Int) (fa i) (by omega) (by omega) (hfa i).1 (hfa i).2
   have q2 := mul_le_mul32 (v : Int) (fb i) (by omega) (by omega) (hfb i).1 (hfb i).2
   have hst := less_step W32 h fa fb lb i (u : Int) (v : Int) U D cr _ hlt (HZ.out i (Nat.le_refl _)) rfl HV.out
   have HST : Hid (val W32 (put h i (((U + (u : Int) * fa i) % W32 - (D + (v : Int) * fb i) % W32 - cr) % W32)) lb + ((U + (u : Int) * fa i) / W32 - (D + (v : Int) * fb i) / W32 - (0 - ((U + (u : Int) * fa i) % W32 - (D + (v : Int) * fb i) % W32 - cr) / W32)) * (W32 : Int) ^ (i + 1) = (u : Int) * val W32 fa (i + 1) - (v : Int) * val W32 fb (i + 1)) := hst
   clear hst HV hca0 hcb0
   have hi0 : (0 : Int) ≤ (i : Int) := by omega
   generalize hP1 : (u : Int) * fa i = P1 at *
   generalize hP2 : (v : Int) * fb i = P2 at *
   have m1 := and_mask (U + P1) (by omega) (by omega)
   have m2 := and_mask (D + P2) (by omega) (by omega)
   obtain ⟨hm, hq⟩ := wrap_diff ((U + P1) % 4294967296) ((D + P2) % 4294967296) cr (by omega) (by omega) (by omega) (by omega) hc0 hc1
   have hW : (W32 : Int) = 4294967296 := rfl
   rw [hW] at HST
   clear hW
   go_wp2
   go_roundw
   case rel =>
    refine ⟨i + 1, (U + P1) / 4294967296, (D + P2) / 4294967296, 0 - ((U + P1) % 4294967296 - (D + P2) % 4294967296 - cr) / 4294967296, put h i (((U + P1) % 4294967296 - (D + P2) % 4294967296 - cr) % 4294967296), by omega, rfl, rfl, by simp, by go_num, by omega, by omega, by omega, by omega, by omega, by omega, ?_, put_bounds huh (by omega) (by unfold W32; omega), ?_, HST.out, ?_, ?_⟩
    ·have := hch.set i hlt (((U + P1) % 4294967296 - (D + P2) % 4294967296 - cr) % 4294967296); rw [Nat.zero_add] at this; exact this
    ·intro p hp; rw [put_other _ _ _ _ (by omega)]; exact HZ.out p (by omega)
    ·exact hsr.set _ _
    ·exact hbel.setCell (by simp) _
   case measure => simp [intOf]; omega
  ·have hiN' : i = lb := by omega
   subst hiN'
   have hP := powB_pos W32 (by decide) i
   have hVb := val_bounds W32 h i (fun j hj => huh j hj)
   have hXi : (0 : Int) ≤ (X : Int) ∧ (X : Int) < (W32 : Int) ^ i := by
    have e : ((W32 ^ i : Nat) : Int) = (W32 : Int) ^ i := by simp
    have := HX.out
    omega
   have hxi : (u : Int) * (x : Int) = (v : Int) * (y : Int) + (X : Int) := by
    have := HXX.out
    rw [← Int.natCast_mul, ← Int.natCast_mul, ← Int.natCast_add, this]
   have hfin : val W32 h i = (X : Int) := less_end _ _ _ _ _ _ _ _ _ _ hP hVb hXi HV.out hxi HA.out HB.out
   have hMine : Mine .u64 w.heap.size wr (.slice (some ⟨w.heap.size, 0, none⟩) i i) i h := ⟨_, _, rfl, Nat.le_refl _, hnl, fun _ => ⟨_, _, rfl, hch, hsr, Nat.le_refl _⟩⟩
   have HF : Hid (val W32 h i = (X : Int)) := hfin
   clear hfin hxi hXi hVb hP HV HZ HX HXX HA HB
   go_wp2_with (go_at_call 168; refine (cut_mine _ _ _ _ _ X hMine huh HF.out).mono ?_; rintro e w3 ⟨r, rfl, hr, rfl⟩)
   go_ret
   exact ⟨_, rfl, hr, hbel⟩

theorem lessTimes_any (u v : Nat) (va vb : Value) (x y X : Nat) (w : World) (ha : Rep w va x) (hb : Rep w vb y) (hu : u < 4294967296) (hv : v < 4294967296) (hx : u * x = v * y + X) (hXx : X ≤ x) (hXy : X ≤ y) (hlx : nl W32 x ≤ 1000000) (hly : nl W32 y ≤ 1000000) :
  Calls Tryz.prog 166 #[.int .u64 (u : Int), va, .int .u64 (v : Int), vb] w fun e w' => ∃ r, e = .returned r ∧ RepM w.heap.size w' r X ∧ Below w.heap.size w w' := by
 have h1 := lt_pow_nl W32 x (by decide)
 have h2 := lt_pow_nl W32 y (by decide)
 by_cases h : nl W32 x ≤ nl W32 y
 ·exact lessTimes_a u v va vb x y X w ha hb hu hv hx (by omega) hlx hly h
 ·exact lessTimes_b u v va vb x y X w ha hb hu hv hx (by omega) hlx hly (by omega)

/-- Five cells of a block, none frozen. -/
def St (w : World) (g : Nat) (f : Nat → Value) : Prop := ∀ i, i < 5 → w.cell? ⟨g, i, none⟩ = some (f i) ∧ w.frozen? ⟨g, i, none⟩ = false
theorem St.set {w : World} {g : Nat} {f : Nat → Value} (h : St w g f) (j : Nat) (v : Value) : St (w.setCell ⟨g, j, none⟩ v) g (fun i => if i = j then v else f i) := by
 intro i hi
 obtain ⟨h1, h2⟩ := h i hi
 refine ⟨?_, by simp [h2]⟩
 by_cases e : i = j
 ·subst e
  show _ = some (if i = i then v else f i)
  rw [if_pos rfl]; exact World.cell?_setCell_same _ _ _ h1
 ·show _ = some (if i = j then v else f i)
  rw [if_neg e, World.cell?_setCell_other _ _ _ _ (fun e' => by injection e'; omega)]; exact h1
theorem St.other {w : World} {g g' : Nat} {f : Nat → Value} (h : St w g f) (j : Nat) (v : Value) (hne : g ≠ g') : St (w.setCell ⟨g', j, none⟩ v) g f := by
 intro i hi
 obtain ⟨h1, h2⟩ := h i hi
 refine ⟨?_, by simp [h2]⟩
 rw [World.cell?_setCell_other _ _ _ _ (fun e' => by injection e'; omega)]; exact h1
theorem St.congr {w : World} {g : Nat} {f f' : Nat → Value} (h : St w g f) (e : ∀ i, i < 5 → f i = f' i) : St w g f' := fun i hi => by rw [← e i hi]; exact h i hi

/-- A step's five fields. -/
def fields (u0 u1 v0 v1 : Nat) (ev : Bool) : Nat → Value := fun i => if i = 0 then .int .u64 (u0 : Int) else if i = 1 then .int .u64 (u1 : Int) else if i = 2 then .int .u64 (v0 : Int) else if i = 3 then .int .u64 (v1 : Int) else .bool ev

/-- What the steps are sure of. -/
def Sure (A B u0 u1 v0 v1 : Nat) (ev : Bool) : Prop := v0 = 0 ∨ (1 ≤ v0 ∧ ∃ a b, Coll A B a b u0 u1 v0 v1 (!ev) ∧ v1 ≤ b ∧ v0 + v1 ≤ a - b)

/-- What sureSteps answers. -/
def SureOut (A B : Nat) (e : Ending) : Prop := ∃ (u0 u1 v0 v1 : Nat) (ev : Bool), e = .returned (.agg #[.int .u64 (u0 : Int), .int .u64 (u1 : Int), .int .u64 (v0 : Int), .int .u64 (v1 : Int), .bool ev]) ∧ Sure A B u0 u1 v0 v1 ev

theorem st_new (w : World) (u0 u1 v0 v1 : Nat) (ev : Bool) (t : TypeId) : St (w.alloc (.cells #[.int .u64 (u0 : Int), .int .u64 (u1 : Int), .int .u64 (v0 : Int), .int .u64 (v1 : Int), .bool ev] t)) w.heap.size (fields u0 u1 v0 v1 ev) := by
 intro i hi
 have : i = 0 ∨ i = 1 ∨ i = 2 ∨ i = 3 ∨ i = 4 := by omega
 rcases this with e | e | e | e | e <;> subst e <;> refine ⟨?_, ?_⟩ <;> simp [fields]

set_option maxRecDepth 20000 in
set_option maxHeartbeats 1000000 in
theorem sureSteps_any (A B : Nat) (w : World) (hA : A < 18446744073709551616) (hBA : B ≤ A) :
  Calls Tryz.prog 164 #[.int .u64 (A : Int), .int .u64 (B : Int)] w fun e w' => SureOut A B e ∧ Below w.heap.size w w' := by
 have hz : St (w.alloc (.cells #[.int .u64 0, .int .u64 0, .int .u64 0, .int .u64 0, .bool false] 202)) w.heap.size (fields 0 0 0 0 false) := st_new w 0 0 0 0 false 202
 have hs : St ((w.alloc (.cells #[.int .u64 0, .int .u64 0, .int .u64 0, .int .u64 0, .bool false] 202)).alloc (.cells #[.int .u64 0, .int .u64 1, .int .u64 0, .int .u64 0, .bool false] 202)) (w.heap.size + 1) (fields 0 1 0 0 false) := by
  have h := st_new (w.alloc (.cells #[.int .u64 0, .int .u64 0, .int .u64 0, .int .u64 0, .bool false] 202)) 0 1 0 0 false 202
  simpa using h
 have hz2 : St ((w.alloc (.cells #[.int .u64 0, .int .u64 0, .int .u64 0, .int .u64 0, .bool false] 202)).alloc (.cells #[.int .u64 0, .int .u64 1, .int .u64 0, .int .u64 0, .bool false] 202)) w.heap.size (fields 0 0 0 0 false) := fun i hi =>
  ⟨((Below.refl (w.heap.size + 1) _).alloc (by simp) _).cell (by simp) |>.trans (hz i hi).1, ((Below.refl (w.heap.size + 1) _).alloc (by simp) _).frozen (by simp) |>.trans (hz i hi).2⟩
 have hb0 : Below w.heap.size w ((w.alloc (.cells #[.int .u64 0, .int .u64 0, .int .u64 0, .int .u64 0, .bool false] 202)).alloc (.cells #[.int .u64 0, .int .u64 1, .int .u64 0, .int .u64 0, .bool false] 202)) := ((Below.refl _ _).alloc (Nat.le_refl _) _).alloc (by simp) _
 go_enter Tryz.func164, Tryz.ntmps164
 go_wp2
 go_loopw [0, 1, 6, 7] (fun va vb vu vv wr => ∃ (a b u0 u1 u2 v0 v1 v2 : Nat) (ev : Bool), va = .int .u64 (a : Int) ∧ vb = .int .u64 (b : Int) ∧ vu = .int .u64 (u2 : Int) ∧ vv = .int .u64 (v2 : Int) ∧ Coll A B a b u1 u2 v1 v2 ev ∧ Sure A B u0 u1 v0 v1 ev ∧ St wr (w.heap.size + 1) (fields u0 u1 v0 v1 ev) ∧ St wr w.heap.size (fields 0 0 0 0 false) ∧ Below w.heap.size w wr) (fun _ vb _ _ _ => (intOf vb).toNat)
 case atStart => exact ⟨A, B, 0, 1, 0, 0, 0, 1, false, rfl, rfl, rfl, rfl, Coll.start A B hBA, .inl rfl, hs, hz2, hb0⟩
 case round =>
  clear hz hs hz2 hb0
  obtain ⟨a, b, u0, u1, u2, v0, v1, v2, ev, rfl, rfl, rfl, rfl, hC, hS, hst, hst0, hbel⟩ := hrel
  have c0 : wr.cell? ⟨w.heap.size + 1, 0, none⟩ = some (.int .u64 (u0 : Int)) := (hst 0 (by omega)).1
  have c1 : wr.cell? ⟨w.heap.size + 1, 1, none⟩ = some (.int .u64 (u1 : Int)) := (hst 1 (by omega)).1
  have c2 : wr.cell? ⟨w.heap.size + 1, 2, none⟩ = some (.int .u64 (v0 : Int)) := (hst 2 (by omega)).1
  have c3 : wr.cell? ⟨w.heap.size + 1, 3, none⟩ = some (.int .u64 (v1 : Int)) := (hst 3 (by omega)).1
  have c4 : wr.cell? ⟨w.heap.size + 1, 4, none⟩ = some (.bool ev) := (hst 4 (by omega)).1
  have f0 : wr.frozen? ⟨w.heap.size + 1, 0, none⟩ = false := (hst 0 (by omega)).2
  have f1 : wr.frozen? ⟨w.heap.size + 1, 1, none⟩ = false := (hst 1 (by omega)).2
  have f2 : wr.frozen? ⟨w.heap.size + 1, 2, none⟩ = false := (hst 2 (by omega)).2
  have f3 : wr.frozen? ⟨w.heap.size + 1, 3, none⟩ = false := (hst 3 (by omega)).2
  have f4 : wr.frozen? ⟨w.heap.size + 1, 4, none⟩ = false := (hst 4 (by omega)).2
  have z0 : wr.cell? ⟨w.heap.size, 0, none⟩ = some (.int .u64 0) := (hst0 0 (by omega)).1
  have z1 : wr.cell? ⟨w.heap.size, 1, none⟩ = some (.int .u64 0) := (hst0 1 (by omega)).1
  have z2 : wr.cell? ⟨w.heap.size, 2, none⟩ = some (.int .u64 0) := (hst0 2 (by omega)).1
  have z3 : wr.cell? ⟨w.heap.size, 3, none⟩ = some (.int .u64 0) := (hst0 3 (by omega)).1
  have z4 : wr.cell? ⟨w.heap.size, 4, none⟩ = some (.bool false) := (hst0 4 (by omega)).1
  have y0 : wr.frozen? ⟨w.heap.size, 0, none⟩ = false := (hst0 0 (by omega)).2
  have y1 : wr.frozen? ⟨w.heap.size, 1, none⟩ = false := (hst0 1 (by omega)).2
  have y2 : wr.frozen? ⟨w.heap.size, 2, none⟩ = false := (hst0 2 (by omega)).2
  have y3 : wr.frozen? ⟨w.heap.size, 3, none⟩ = false := (hst0 3 (by omega)).2
  have y4 : wr.frozen? ⟨w.heap.size, 4, none⟩ = false := (hst0 4 (by omega)).2
  have hle := hC.le
  have h1v := hC.one
  have haA : a ≤ A := by
   have h1 := hC.hA
   have h2 : 1 * a ≤ v2 * a := Nat.mul_le_mul_right _ h1v
   omega
  by_cases hbv : v2 ≤ b
  ·have hsum := hC.sum (by omega)
   have j1 : (v2 : Int) ≤ (b : Int) := by omega
   by_cases hab : v1 + v2 ≤ a - b
   ·have j2 : (v1 : Int) + (v2 : Int) ≤ (a : Int) - (b : Int) := by omega
    have hN := hC.step (show 0 < b by omega)
    have hNA := hN.hA
    have hNuv := hN.uv
    have hdm := Nat.div_add_mod a b
    have hmod := Nat.mod_lt a (show 0 < b by omega)
    have hqi : (a : Int) / (b : Int) = ((a / b : Nat) : Int) := by simp
    have hv2A : v1 + a / b * v2 ≤ A := by
     have h2 : (v1 + a / b * v2) * 1 ≤ (v1 + a / b * v2) * b := Nat.mul_le_mul_left _ (by omega)
     omega
    have hq1 : a / b ≤ a := Nat.div_le_self _ _
    generalize a / b = q at *
    generalize a % b = r at *
    obtain ⟨QB, hQB⟩ : ∃ QB, QB = b * q := ⟨_, rfl⟩
    obtain ⟨QU, hQU⟩ : ∃ QU, QU = q * u2 := ⟨_, rfl⟩
    obtain ⟨QV, hQV⟩ : ∃ QV, QV = q * v2 := ⟨_, rfl⟩
    have p1 : (q : Int) * (b : Int) = (QB : Int) := by rw [hQB, Nat.mul_comm]; simp
    have p2 : (q : Int) * (u2 : Int) = (QU : Int) := by rw [hQU]; simp
    have p3 : (q : Int) * (v2 : Int) = (QV : Int) := by rw [hQV]; simp
    rw [← hQB] at hdm
    rw [← hQV] at hv2A hNuv hN
    rw [← hQU] at hNuv hN
    have hr : (a : Int) - (QB : Int) = (r : Int) := by omega
    have HN : Hid (Coll A B b r u2 (u1 + QU) v2 (v1 + QV) (!ev)) := hN
    have HS : Hid (Sure A B u1 u2 v1 v2 (!ev)) := by
     rcases Nat.eq_zero_or_pos v1 with e | e
     ·exact .inl e
     ·exact .inr ⟨e, a, b, by rw [Bool.not_not]; exact hC, hbv, hab⟩
    clear hQB hQU hQV hN hNA hS hC
    go_wp2
    go_roundw
    case rel =>
     refine ⟨b, r, u1, u2, u1 + QU, v1, v2, v1 + QV, !ev, rfl, rfl, by simp, by simp, HN.out, HS.out, ?_, ?_, ?_⟩
     ·refine (((((hst.set 0 _).set 1 _).set 2 _).set 3 _).set 4 _).congr (fun i hi => ?_)
      have : i = 0 ∨ i = 1 ∨ i = 2 ∨ i = 3 ∨ i = 4 := by omega
      rcases this with e | e | e | e | e <;> subst e <;> simp [fields]
     ·exact ((((hst0.other 0 _ (by omega)).other 1 _ (by omega)).other 2 _ (by omega)).other 3 _ (by omega)).other 4 _ (by omega)
     ·exact ((((hbel.setCell (by simp) _).setCell (by simp) _).setCell (by simp) _).setCell (by simp) _).setCell (by simp) _
    case measure => simp [intOf]; omega
   ·have j2 : ¬ (v1 : Int) + (v2 : Int) ≤ (a : Int) - (b : Int) := by omega
    have HS : Hid (Sure A B u0 u1 v0 v1 ev) := hS
    clear hS hC
    go_wp2
    (try simp only [Exit.inBlock, Exit.then])
    refine bodyPost_ret (v := .agg #[.int .u64 (u0 : Int), .int .u64 (u1 : Int), .int .u64 (v0 : Int), .int .u64 (v1 : Int), .bool ev]) (by simp [results, go_sem, z0, z1, z2, z3, z4]) rfl ?_
    refine ⟨⟨u0, u1, v0, v1, ev, rfl, HS.out⟩, ?_⟩
    exact ((((hbel.setCell (by simp) _).setCell (by simp) _).setCell (by simp) _).setCell (by simp) _).setCell (by simp) _
  ·have j1 : ¬ (v2 : Int) ≤ (b : Int) := by omega
   have HS : Hid (Sure A B u0 u1 v0 v1 ev) := hS
   clear hS hC
   go_wp2
   (try simp only [Exit.inBlock, Exit.then])
   refine bodyPost_ret (v := .agg #[.int .u64 (u0 : Int), .int .u64 (u1 : Int), .int .u64 (v0 : Int), .int .u64 (v1 : Int), .bool ev]) (by simp [results, go_sem, z0, z1, z2, z3, z4]) rfl ?_
   refine ⟨⟨u0, u1, v0, v1, ev, rfl, HS.out⟩, ?_⟩
   exact ((((hbel.setCell (by simp) _).setCell (by simp) _).setCell (by simp) _).setCell (by simp) _).setCell (by simp) _

end Go.Proofs.YthkamfddbiheoaaGreatDoor
