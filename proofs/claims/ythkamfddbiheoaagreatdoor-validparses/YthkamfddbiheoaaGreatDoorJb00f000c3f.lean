/-
  Texts of mine.
-/
import Derived.Test.YthkamfddbiheoaaGreatDoorJ5e1350a8ca
import Derived.Lib.OthersKept
namespace Go.Proofs.YthkamfddbiheoaaGreatDoor
open Go.RowKit

/-- A row of so many numbers of kind k, as values. -/
def valsOf (k : IntKind) (f : Nat → Int) (n : Nat) : List Value := (List.range n).map (fun i => Value.int k (f i))
theorem valsOf_length (k : IntKind) (f : Nat → Int) (n : Nat) : (valsOf k f n).length = n := by simp [valsOf]
theorem valsOf_at (k : IntKind) (f : Nat → Int) (n i : Nat) (h : i < n) : (valsOf k f n)[i]? = some (.int k (f i)) := by simp [valsOf, h]
theorem valsOf_set (k : IntKind) (f : Nat → Int) (n j : Nat) (v : Int) : (valsOf k f n).set j (.int k v) = valsOf k (put f j v) n := by
 apply List.ext_getElem?
 intro i
 rw [List.getElem?_set]
 by_cases hi : i < n
 ·rw [valsOf_at _ _ _ _ hi, valsOf_at _ _ _ _ hi, valsOf_length]
  by_cases e : j = i
  ·subst e; rw [if_pos rfl, if_pos hi, put_same]
  ·rw [if_neg e, put_other _ _ _ _ (by omega)]
 ·have h1 : (valsOf k f n)[i]? = none := by rw [List.getElem?_eq_none]; rw [valsOf_length]; omega
  have h2 : (valsOf k (put f j v) n)[i]? = none := by rw [List.getElem?_eq_none]; rw [valsOf_length]; omega
  rw [h1, h2, valsOf_length]
  split
  ·rw [if_neg (by omega)]
  ·rfl
theorem valsOf_snoc (k : IntKind) (f : Nat → Int) (n : Nat) (v : Int) : valsOf k f n ++ [.int k v] = valsOf k (put f n v) (n + 1) := by
 simp only [valsOf, List.range_succ, List.map_append, List.map_cons, List.map_nil, put_same]
 congr 1
 exact List.map_congr_left (fun i hi => by rw [put_other _ _ _ _ (by simp at hi; omega)])
theorem valsOf_congr (k : IntKind) {f g : Nat → Int} {n : Nat} (h : ∀ i, i < n → f i = g i) : valsOf k f n = valsOf k g n :=
 List.map_congr_left (fun i hi => by rw [h i (by simpa using hi)])

theorem grown_refl (w : World) (row : Option Nat) : w.grownBy w row := ⟨rfl, rfl, rfl, Nat.le_refl _, fun _ _ _ => rfl⟩
theorem grown_trans {a b c : World} {row : Option Nat} (h : a.grownBy b row) (g : b.grownBy c row) : a.grownBy c row :=
 ⟨g.os.trans h.os, g.tape.trans h.tape, g.output.trans h.output, Nat.le_trans h.size g.size, fun k hk hr => (g.block k (Nat.lt_of_lt_of_le hk h.size) hr).trans (h.block k hk hr)⟩
/-- In memory of the call's own (from B on), to be appended to: the number m in its form. -/
def Grows (B : Nat) (w : World) (v : Value) (m : Nat) : Prop := w.ownsRow B 90 1 v (nl W32 m) (valsOf .u64 (dg W32 m) (nl W32 m))

theorem times_step (B : Nat) (h f : Nat → Int) (n j : Nat) (p d q t : Int) (hj : j < n) (hh : h j = f j) (ht : t = p + f j * d)
  (hv : val B h n + p * (B : Int) ^ j = val B f j * d + q + (val B f n - val B f j)) :
  val B (put h j (t % B)) n + t / B * (B : Int) ^ (j + 1) = val B f (j + 1) * d + q + (val B f n - val B f (j + 1)) := by
 have e1 : (B : Int) ^ (j + 1) = (B : Int) ^ j * B := Int.pow_succ _ _
 rw [val_put B h n j _ hj, e1, carry_step, ht, hh]
 simp only [val]
 have e2 : (p + f j * d - f j) * (B : Int) ^ j = p * (B : Int) ^ j + f j * d * (B : Int) ^ j - f j * (B : Int) ^ j := by rw [Int.sub_mul, Int.add_mul]
 have e3 : (val B f j + f j * (B : Int) ^ j) * d = val B f j * d + f j * d * (B : Int) ^ j := by
  rw [Int.add_mul, Int.mul_assoc, Int.mul_comm ((B : Int) ^ j) d, ← Int.mul_assoc]
 rw [e2, e3]; omega

/-- What is left of the row at the loop's end, with nothing carried out. -/
theorem times_end (h : Nat → Int) (m m' n : Nat) (hn : n = nl W32 m) (hu : U32 n h) (hle : m ≤ m') (hv : val W32 h n = (m' : Int)) : nl W32 m' = n ∧ ∀ i, i < n → h i = dg W32 m' i := by
 have h1 := sz_val W32 (by decide) h n m' hu hv
 have h2 := sz_le h n
 refine ⟨?_, val_digit W32 h n m' hu hv⟩
 by_cases g : nl W32 m' < nl W32 m
 ·have := lt_of_nl W32 m' m (by decide) g; omega
 ·omega
/-- The same, with a limb carried out. -/
theorem times_more (h : Nat → Int) (m' n : Nat) (p : Int) (hu : U32 n h) (hp0 : 0 < p) (hp1 : p < (W32 : Int)) (hv : val W32 h n + p * (W32 : Int) ^ n = (m' : Int)) :
  nl W32 m' = n + 1 ∧ ∀ i, i < n + 1 → put h n p i = dg W32 m' i := by
 refine two_limbs m' (put h n p) (n + 1) ?_ ?_ ?_
 ·intro i hi
  by_cases e : i = n
  ·rw [e, put_same]; exact ⟨by omega, hp1⟩
  ·rw [put_other _ _ _ _ e]; exact hu i (by omega)
 ·simp only [val]
  rw [put_same, val_congr n (fun i hi => put_other h n i p (by omega))]; exact hv
 ·intro _; rw [show n + 1 - 1 = n by omega, put_same]; omega

set_option maxRecDepth 20000 in
set_option maxHeartbeats 2000000 in
theorem timesPlus_any (B : Nat) (v : Value) (m : Nat) (d q : Nat) (w : World) (hB : B ≤ w.heap.size) (hv : Grows B w v m) (hlim : nl W32 m ≤ 1000000) (hd0 : 0 < d) (hd1 : d < 4294967296) (hq : q < 4294967296) :
  Calls Tryz.prog 181 #[v, .int .u64 (d : Int), .int .u64 (q : Int)] w fun e w' => ∃ v', e = .returned v' ∧ Grows B w' v' (m * d + q) ∧ w.grownBy w' v.ownBlock := by
 obtain ⟨i0, hi, hz0, hz1, hz2⟩ := info_parts info_u64
 have hmm : m ≤ m * d + q := by have := Nat.le_mul_of_pos_right m hd0; omega
 have hvm := val_nl W32 m (by decide)
 have hcast : ((m * d + q : Nat) : Int) = (m : Int) * d + q := by simp
 rcases hv.2 with ⟨rfl, hn0⟩ | ⟨g, cap, cur, rfl, hBg, hcur, hcap, hcm, hcs, htake⟩
 ·have hm0 : m = 0 := (nl_eq_zero W32 m (by decide)).1 hn0
  subst hm0
  by_cases hqp : q = 0
  ·subst hqp
   go_enter Tryz.func181, Tryz.ntmps181
   go_wp2
   go_rounds 1
   go_ret
   exact ⟨_, rfl, by simpa using hv, grown_refl _ _⟩
  ·have hqi : (0 : Int) < (q : Int) := by omega
   go_enter Tryz.func181, Tryz.ntmps181
   go_wp2
   refine wp_loop_rounds 1 ?_
   rw [rounds_succ]
   go_wp2_with (at_builtin; refine wpList_append_own _ rfl _ _ 40 rfl B 90 i0 (.int .u64 0) 1 8 Tryz.underlying40 hi hz0 hz1 hz2 rfl (by decide) _ 0 [] rfl (World.ownsRow_nil _ _ _ _) ⟨w.heap.size, 0, none⟩ 1 1 [.int .u64 (q : Int)] rfl rfl (cell_one_new _ _ _) ?c2 (by unfold maxLen; omega) (by omega) (by simp; omega) ?_)
   case c2 => intro u hu; simp at hu; subst hu; rfl
   intro v' w1 hown' hgrow _
   obtain ⟨e1, e2⟩ := times_more (fun _ => 0) q 0 (q : Int) (fun i hi => by omega) hqi (by unfold W32; omega) (by simp [val])
   have HE1 : Hid (nl W32 q = 1) := by show nl W32 q = 1; simpa using e1
   have HE2 := e2
   clear e1
   go_wp2
   go_ret
   refine ⟨_, rfl, ?_, grown_trans (World.grownBy_alloc _ _ _) hgrow⟩
   unfold Grows
   rw [show 0 * d + q = q by omega, HE1.out]
   have : valsOf .u64 (dg W32 q) 1 = [.int .u64 (q : Int)] := by
    have := HE2 0 (by omega)
    simp [valsOf, ← this, put]
   rw [this]; simpa using hown'
 ·have hown : w.ownsRow B 90 1 (.slice (some ⟨g, 0, none⟩) (nl W32 m) cap) (nl W32 m) (valsOf .u64 (dg W32 m) (nl W32 m)) := hv
  have hu0 := u32_dg m (nl W32 m)
  generalize hf : dg W32 m = f at *
  generalize hn : nl W32 m = n at *
  have HN : Hid (nl W32 m = n) := hn
  have HF : Hid (dg W32 m = f) := hf
  have HVM : Hid (val W32 f n = (m : Int)) := hvm
  clear hcur hcs htake hcap hn hf hvm
  go_enter Tryz.func181, Tryz.ntmps181
  go_wp2
  go_loopw [2, 11] (fun vp vj wr => ∃ (j : Nat) (h : Nat → Int) (p : Int), j ≤ n ∧ vp = .int .u64 p ∧ vj = .int .i64 (j : Int) ∧ 0 ≤ p ∧ p < 4294967296 ∧ wr.ownsRow B 90 1 (.slice (some ⟨g, 0, none⟩) n cap) n (valsOf .u64 h n) ∧ U32 n h ∧ (∀ i, j ≤ i → h i = f i) ∧
   val W32 h n + p * (W32 : Int) ^ j = val W32 f j * d + q + (val W32 f n - val W32 f j) ∧ w.grownBy wr (some g)) (fun _ vj _ => n - (intOf vj).toNat)
  case atStart => exact ⟨0, f, q, Nat.zero_le _, rfl, rfl, by omega, by omega, hown, hu0, fun _ _ => rfl, by simp [val]; omega, grown_refl _ _⟩
  case round =>
   obtain ⟨j, h, p, hj, rfl, rfl, hp0, hp1, hoj, huj, hsame, hval, hgr⟩ := hrel
   have HS : Hid (∀ i, j ≤ i → h i = f i) := hsame
   have HV : Hid (val W32 h n + p * (W32 : Int) ^ j = val W32 f j * d + q + (val W32 f n - val W32 f j)) := hval
   clear hsame hval
   have hgs := hgr.size
   by_cases hjn : j < n
   ·have hcell := hoj.cellAt j (by omega)
    rw [valsOf_at _ _ _ _ hjn] at hcell
    have hfr := hoj.frozenAt j
    have hhj := HS.out j (Nat.le_refl _)
    rw [hhj] at hcell
    have bf := huj j hjn
    rw [hhj] at bf
    unfold W32 at bf
    have HHJ : Hid (h j = f j) := hhj
    clear hhj
    have hxy := mul_le_mul32 (f j) d bf.1 bf.2 (by omega) (by omega)
    have hm := and_mask (p + f j * d) (by omega) (by omega)
    go_wp2
    go_roundw
    case rel =>
     have hst := hoj.stored j (.int .u64 ((p + f j * d) % 4294967296))
     rw [valsOf_set] at hst
     refine ⟨j + 1, put h j ((p + f j * d) % (W32 : Int)), (p + f j * d) / (W32 : Int), by omega, rfl, by go_num, by unfold W32; omega, by unfold W32; omega, hst.1, put_bounds huj (by unfold W32; omega) (by unfold W32; omega), ?_, ?_, grown_trans hgr hst.2⟩
     ·intro i hi; rw [put_other _ _ _ _ (by omega)]; exact HS.out i (by omega)
     ·exact times_step W32 h f n j p d q _ hjn HHJ.out rfl HV.out
    case measure => simp [intOf]; omega
   ·have hjn' : j = n := by omega
    subst hjn'
    have hV : Hid (val W32 h j + p * (W32 : Int) ^ j = ((m * d + q : Nat) : Int)) := by
     show _ = _
     have := HV.out
     rw [HVM.out] at this; rw [hcast]; omega
    by_cases hp : 0 < p
    ·obtain ⟨e1, e2⟩ := times_more h (m * d + q) j p huj hp (by unfold W32; omega) hV.out
     have E1 : Hid (nl W32 (m * d + q) = j + 1) := e1
     clear e1 hV
     go_wp2_with (at_builtin; refine wpList_append_own _ rfl _ _ 40 rfl B 90 i0 (.int .u64 0) 1 8 Tryz.underlying40 hi hz0 hz1 hz2 rfl (by decide) _ _ _ rfl (hoj.alloc _) ⟨wr.heap.size, 0, none⟩ 1 1 [.int .u64 p] rfl rfl (cell_one_new _ _ _) ?c3 (by unfold maxLen; omega) (by omega) (by simp; omega) ?_)
     case c3 => intro u hu; simp at hu; subst hu; rfl
     intro v' w1 hown' hgrow _
     go_wp2
     go_ret
     refine ⟨_, rfl, ?_, grown_trans hgr (grown_trans (World.grownBy_alloc _ _ _) hgrow)⟩
     unfold Grows
     rw [E1.out, ← valsOf_congr .u64 e2, ← valsOf_snoc]; exact hown'
    ·have hp0' : p = 0 := by omega
     subst hp0'
     obtain ⟨e1, e2⟩ := times_end h m (m * d + q) j HN.out.symm huj hmm (by have := hV.out; simpa using this)
     have E1 : Hid (nl W32 (m * d + q) = j) := e1
     clear e1 hV
     go_wp2
     go_ret
     refine ⟨_, rfl, ?_, hgr⟩
     unfold Grows
     rw [E1.out, ← valsOf_congr .u64 e2]; exact hoj

end Go.Proofs.YthkamfddbiheoaaGreatDoor
