/-
  What the document's own From, Is, Two answer.
-/
import Derived.Test.YthhabammejkjcaaDoorRef3
namespace Go.Proofs.YthhabammejkjcaaDoor
open Go.RowKit

/-- The number that the limbs from k on are. -/
def hiNum (f : Nat → Int) (n k : Nat) : Nat := num (fun i => f (k + i)) (n - k)
theorem hiNum_all (f : Nat → Int) (n : Nat) : hiNum f n 0 = num f n := by
  unfold hiNum; simp
theorem hiNum_end (f : Nat → Int) (n : Nat) : hiNum f n n = 0 := by
  unfold hiNum num; simp [val]
theorem hiNum_step (f : Nat → Int) (n k : Nat) (h : k < n) : hiNum f n k = hiNum f n (k + 1) * 4294967296 + (f k % 4294967296).toNat := by
  have e1 := num_val (fun i => f (k + i)) (n - k)
  have e2 := num_val (fun i => f (k + 1 + i)) (n - (k + 1))
  unfold hiNum
  rw [show n - k = 1 + (n - (k + 1)) by omega, val_add] at e1
  have e3 : val W32 (fun i => lo (fun i => f (k + i)) (1 + i)) (n - (k + 1)) = val W32 (lo (fun i => f (k + 1 + i))) (n - (k + 1)) := val_congr _ (fun i _ => by simp only [lo]; rw [show k + (1 + i) = k + 1 + i by omega])
  rw [e3, e2] at e1
  simp only [val, lo] at e1
  rw [show 1 + (n - (k + 1)) = n - k by omega] at e1
  simp at e1
  omega
theorem hiNum_lt (f : Nat → Int) (n k : Nat) : hiNum f n k < W32 ^ (n - k) := num_lt _ _
theorem nl_small (x n : Nat) (h : x < W32 ^ n) : nl 10000 x ≤ 3 * n := by
  refine nl_le 10000 x (3 * n) (by decide) (Nat.lt_of_lt_of_le h ?_)
  rw [Nat.pow_mul]
  exact Nat.pow_le_pow_left (by decide) n

theorem below_of_drew {w w' : World} (h : Below w.drew.heap.size w.drew w') : Below w.heap.size w w' := ⟨h.os, h.tape, h.output, h.size, h.block⟩

set_option maxRecDepth 20000 in
set_option maxHeartbeats 2000000 in
theorem from_any (v : Value) (n : Nat) (f : Nat → Int) (w : World) (hv : Nums .u64 w v n f) (hf : U64 n f) (hn : n ≤ 1000) :
    Calls Tryd.prog 6 #[v] w fun e w' => ∃ r, e = .returned r ∧ RepD w' r (num f n) ∧ Below w.heap.size w w' := by
  obtain ⟨ao, c, rfl, hnc, hl, h4⟩ := hv
  go_enter Tryd.func6, Tryd.ntmps6
  go_wp2_with fail
  refine (small_any 4294967296 _ (by omega)).mono ?_
  rintro e w1 ⟨un, rfl, hun, hb1⟩
  have H4 := show Hid (0 < n → ∃ b off, ao = some ⟨b, off, none⟩ ∧ Cells w .u64 b off n f) from h4
  clear h4
  go_wp2
  go_loopw [3, 5] (fun vo vi wr => ∃ k : Nat, k ≤ n ∧ vi = .int .i64 ((k : Int) - 1) ∧ RepD wr vo (hiNum f n k) ∧ RepD wr un 4294967296 ∧ Below w.heap.size w wr) (fun _ vi _ => (intOf vi + 1).toNat)
  case atStart => exact ⟨n, Nat.le_refl _, rfl, by rw [hiNum_end]; unfold RepD; rw [nl_zero]; exact Nums.nil _ _ _, hun, hb1⟩
  case round =>
    obtain ⟨k, hk, rfl, hvo, hun2, hbel⟩ := hrel
    cases k with
    | zero =>
      rw [hiNum_all] at hvo
      go_wp2
      go_ret
      exact ⟨_, rfl, hvo, hbel⟩
    | succ k =>
      obtain ⟨b, off, rfl, hc⟩ := H4.out (by omega)
      have hcell : wr.cell? ⟨b, off + k, none⟩ = some (.int .u64 (f k)) := (hc.below hbel (hc.lt (by omega))) k (by omega)
      have hblt : b < wr.heap.size := Nat.lt_of_lt_of_le (hc.lt (by omega)) hbel.size
      have hfk := hf k (by omega)
      have hm := and_mask (f k) hfk.1 hfk.2
      have hst : Hid (hiNum f n k = hiNum f n (k + 1) * 4294967296 + (f k % 4294967296).toNat) := hiNum_step f n k (by omega)
      have hb1 : nl 10000 (hiNum f n (k + 1)) ≤ 1000000 := Nat.le_trans (nl_small _ _ (hiNum_lt f n (k + 1))) (by omega)
      have hb2 : nl 10000 (hiNum f n (k + 1) * 4294967296) ≤ 1000000 := by
        have h1 := hiNum_lt f n (k + 1)
        have h2 : hiNum f n (k + 1) * 4294967296 < W32 ^ (n - (k + 1) + 1) := by rw [Nat.pow_succ]; exact Nat.mul_lt_mul_of_pos_right h1 (by decide)
        exact Nat.le_trans (nl_small _ _ h2) (by omega)
      have hb3 : nl 10000 4294967296 ≤ 1000000 := Nat.le_trans (nl_small 4294967296 2 (by decide)) (by omega)
      have hb4 : nl 10000 (f k % 4294967296).toNat ≤ 1000000 := Nat.le_trans (nl_small _ 1 (by unfold W32; omega)) (by omega)
      have hcast : f k % 4294967296 = ((f k % 4294967296).toNat : Int) := by omega
      have hlow : (f k % 4294967296).toNat < 4294967296 := by omega
      generalize hz : (f k % 4294967296).toNat = z at *
      rw [hcast] at hm
      clear hcast hz hfk
      generalize hiNum f n (k + 1) = X at *
      have e1 : (((k + 1 : Nat) : Int) - 1) = (k : Int) := by omega
      rw [e1]
      have hwz : Hid (IntKind.i64.wrap (z : Int) = (z : Int)) := by show _ = _; rw [IntKind.wrap_i64]; omega
      have i1 : (0 : Int) ≤ (k : Int) := by omega
      have i2 : (k : Int) < (n : Int) := by omega
      go_wp2
      go_region_held3 (fun w' => w'.cell? ⟨b, off + k, none⟩ = some (.int .u64 (f k))) (assumption) (first
        | (go_at_call 13; refine (times_any _ _ X 4294967296 _ (by exact hvo) (by exact hun2) hb1 hb3).mono ?_; rintro e w2 ⟨r2, rfl, hr2, hb2'⟩; have hc2 := (hb2'.cell (p := ⟨b, off + k, none⟩) hblt).trans hcell)
        | (go_at_call 25; rw [hwz.out]; refine (small_any z _ (by omega)).mono ?_; rintro e w3 ⟨r3, rfl, hr3, hb3'⟩; have hc3 := (hb3'.cell (p := ⟨b, off + k, none⟩) (Nat.lt_of_lt_of_le hblt hb2'.size)).trans hc2)
        | (go_at_call 26; refine (plus_any _ _ (X * 4294967296) z _ (hr2.below hb3') hr3 hb2 hb4).mono ?_; rintro e w4 ⟨r4, rfl, hr4, hb4'⟩; have hc4 := (hb4'.cell (p := ⟨b, off + k, none⟩) (Nat.lt_of_lt_of_le hblt (Nat.le_trans hb2'.size hb3'.size))).trans hc3))
      go_wp2
      go_roundw
      case rel =>
        have s2 : wr.heap.size ≤ w2.heap.size := hb2'.size
        have s3 := hb3'.size
        have hB4 : Below wr.heap.size wr w4 := Below.trans (b := w2) (below_of_drew hb2') ((hb3'.mono s2).trans (hb4'.mono (Nat.le_trans s2 s3)))
        refine ⟨k, by omega, rfl, by rw [hst.out]; exact hr4, hun2.below hB4, hbel.trans (hB4.mono hbel.size)⟩
      case measure => simp [intOf]

theorem nl_num (f : Nat → Int) (n : Nat) (hn : n ≤ 1000) : nl 10000 (num f n) ≤ 3000 := Nat.le_trans (nl_small _ _ (num_lt f n)) (by omega)

/-- Is: limbs in their one form are a number just if it is theirs. -/
def isB (f : Nat → Int) (n m : Nat) : Bool := rightB f n && (cmpI (num f n) m == 0)
theorem cmpI_zero (a b : Int) : (cmpI a b == 0) = decide (a = b) := by
  rcases (show a < b ∨ a = b ∨ b < a by omega) with h | h | h
  · rw [cmpI_lt h]; simp; omega
  · rw [cmpI_eq h]; simp [h]
  · rw [cmpI_gt h]; simp; omega

set_option maxRecDepth 20000 in
set_option maxHeartbeats 1000000 in
theorem is_any (u v : Value) (n m : Nat) (f : Nat → Int) (w : World) (hu : Nums .u64 w u n f) (hf : U64 n f) (hn : n ≤ 1000) (hv : RepD w v m) :
    Calls Tryd.prog 8 #[u, v] w fun e w' => e = .returned (.bool (isB f n m)) ∧ Below w.heap.size w w' := by
  cases hr : rightB f n with
  | false =>
    have hi : isB f n m = false := by simp [isB, hr]
    rw [hi]
    go_enter Tryd.func8, Tryd.ntmps8
    go_wp2_with (go_at_call 27; refine (refRight_any _ _ _ _ hu).mono ?_; rintro e w1 ⟨rfl, rfl⟩; rw [hr])
    go_ret
    exact ⟨rfl, Below.refl _ _⟩
  | true =>
    have hi : isB f n m = (cmpI (num f n) m == 0) := by simp [isB, hr]
    rw [hi]
    clear hi
    go_enter Tryd.func8, Tryd.ntmps8
    go_wp2_with fail
    refine (refRight_any _ _ _ _ hu).mono ?_
    rintro e w1 ⟨rfl, rfl⟩
    rw [hr]
    go_wp2_with fail
    refine (from_any _ _ _ _ hu hf hn).mono ?_
    rintro e w2 ⟨r, rfl, hr2, hb2⟩
    go_wp2_with fail
    refine (order_any _ _ _ _ _ hr2 (hv.below hb2)).mono ?_
    rintro e w3 ⟨rfl, hb3⟩
    go_wp2
    go_ret
    exact ⟨rfl, hb2.trans (hb3.mono hb2.size)⟩

theorem is_rep (u v : Value) (x m : Nat) (w : World) (hu : Rep w u x) (hx : nl W32 x ≤ 1000) (hv : RepD w v m) (h : x = m) :
    Calls Tryd.prog 8 #[u, v] w fun e w' => e = .returned (.bool true) ∧ Below w.heap.size w w' := by
  have g := is_any u v _ m _ w hu (u64_dg x _) hx hv
  have e : isB (dg W32 x) (nl W32 x) m = true := by
    unfold isB
    rw [num_nl, cmpI_zero, h]
    simp only [rightB, Bool.and_eq_true, decide_eq_true_eq]
    exact ⟨⟨fun i _ => by have := dg_bounds W32 m i (by decide); unfold W32 at this ⊢; omega, fun h0 => nl_top W32 m h0⟩, trivial⟩
  rw [e] at g; exact g

end Go.Proofs.YthhabammejkjcaaDoor
