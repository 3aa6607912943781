/-
  What nat.writeBlocks answers of any number and any powers of ten.
-/
import Derived.Test.YthhabammejkjcaaDoorPrint
import Derived.Test.YthhabammejkjcaaDoorPower
import Derived.Test.YthhabammejkjcaaDoorDivAll
namespace Go.Proofs.YthhabammejkjcaaDoor
open Go.RowKit

/-- The powers of ten that a number is cut by. -/
def ten (i : Nat) : Nat := 10 ^ (288 * 2 ^ i)
theorem ten_pos (i : Nat) : 0 < ten i := Nat.pow_pos (by decide)
theorem ten_succ (i : Nat) : ten i * ten i = ten (i + 1) := by
  unfold ten
  rw [← Nat.pow_add, Nat.pow_succ]; congr 1; omega

/-- A number whose limbs lie below B. -/
def RepB (B : Nat) (w : World) (v : Value) (m : Nat) : Prop :=
  ∃ ao c, v = .slice ao (nl W32 m) c ∧ nl W32 m ≤ c ∧ nl W32 m ≤ LIM ∧ (0 < nl W32 m → ∃ b off, ao = some ⟨b, off, none⟩ ∧ Cells w .u64 b off (nl W32 m) (dg W32 m) ∧ b < B)
theorem RepB.rep {B : Nat} {w : World} {v : Value} {m : Nat} (h : RepB B w v m) : Rep w v m := by
  obtain ⟨ao, c, h1, h2, h3, h4⟩ := h
  exact ⟨ao, c, h1, h2, h3, fun hn => let ⟨b, off, e, hc, _⟩ := h4 hn; ⟨b, off, e, hc⟩⟩
theorem RepB.below {B : Nat} {w w' : World} {v : Value} {m : Nat} (h : RepB B w v m) (hb : Below B w w') : RepB B w' v m := by
  obtain ⟨ao, c, h1, h2, h3, h4⟩ := h
  exact ⟨ao, c, h1, h2, h3, fun hn => let ⟨b, off, e, hc, hl⟩ := h4 hn; ⟨b, off, e, hc.below hb hl, hl⟩⟩
theorem RepB.mono {B B' : Nat} {w : World} {v : Value} {m : Nat} (h : RepB B w v m) (hb : B ≤ B') : RepB B' w v m := by
  obtain ⟨ao, c, h1, h2, h3, h4⟩ := h
  exact ⟨ao, c, h1, h2, h3, fun hn => let ⟨b, off, e, hc, hl⟩ := h4 hn; ⟨b, off, e, hc, by omega⟩⟩
theorem Rep.repB {w : World} {v : Value} {m : Nat} (h : Rep w v m) : RepB w.heap.size w v m := by
  obtain ⟨ao, c, h1, h2, h3, h4⟩ := h
  exact ⟨ao, c, h1, h2, h3, fun hn => let ⟨b, off, e, hc⟩ := h4 hn; ⟨b, off, e, hc, hc.lt hn⟩⟩

/-- A row of such powers, in memory below B. -/
def Tens (B : Nat) (w : World) (v : Value) (t : Nat) : Prop :=
  ∃ ao c, v = .slice ao t c ∧ t ≤ c ∧ (0 < t → ∃ b off, ao = some ⟨b, off, none⟩ ∧ b < B ∧ ∀ i, i < t → ∃ u, w.cell? ⟨b, off + i, none⟩ = some u ∧ RepB B w u (ten i))
theorem Tens.below {B : Nat} {w w' : World} {v : Value} {t : Nat} (h : Tens B w v t) (hb : Below B w w') : Tens B w' v t := by
  obtain ⟨ao, c, h1, h2, h4⟩ := h
  refine ⟨ao, c, h1, h2, fun hn => ?_⟩
  obtain ⟨b, off, e, hl, hc⟩ := h4 hn
  refine ⟨b, off, e, hl, fun i hi => ?_⟩
  obtain ⟨u, hu, hr⟩ := hc i hi
  exact ⟨u, (hb.cell hl).trans hu, hr.below hb⟩

theorem dd_hi (x p H : Nat) : dd (x / 10 ^ H) p = dd x (H + p) := by
  unfold dd
  rw [Nat.div_div_eq_div_mul, ← Nat.pow_add]
theorem dd_lo (x p H : Nat) (h : p < H) : dd (x % 10 ^ H) p = dd x p := by
  unfold dd
  have e : 10 ^ H = 10 ^ (p + 1) * 10 ^ (H - p - 1) := by rw [← Nat.pow_add]; congr 1; omega
  have e2 : x % 10 ^ H % 10 ^ (p + 1) = x % 10 ^ (p + 1) := by rw [e]; exact Nat.mod_mul_right_mod _ _ _
  have e3 : ∀ y, y / 10 ^ p % 10 = y % 10 ^ (p + 1) / 10 ^ p := fun y => by rw [Nat.pow_succ, Nat.mod_mul_right_div_self]
  rw [e3, e3 x, e2]

set_option maxRecDepth 20000 in
set_option maxHeartbeats 400000 in
theorem writeBlocks_base (go oo L c K cc : Nat) (ao : Option Addr) (va : Value) (x : Nat) (h0 : Nat → Int) (w : World) (hL : L = 9 * K) (hlim : L ≤ LIM) (hgo : go < w.heap.size)
    (hout : Cells w .u8 go oo L h0) (hsoft : Soft w go oo L) (ha : Rep w va x) :
    Calls Tryd.prog 73 #[.slice (some ⟨go, oo, none⟩) L c, va, .slice ao 0 cc] w fun e w' =>
      e = .returned (.tuple #[]) ∧ Cells w' .u8 go oo L (fun i => dd x (L - 1 - i)) ∧ UpdB w.heap.size w w' go oo L := by
  have HL : Hid (L = 9 * K) := hL
  clear hL
  go_enter Tryd.func73, Tryd.ntmps73
  go_wp2_with fail
  refine (clean_rep _ _ _ ha).mono ?_
  rintro e w1 ⟨v1, rfl, hv1, hb1⟩
  go_wp2_with fail
  refine (chunks_any w.heap.size _ _ _ _ K _ x h0 _ HL.out hlim hgo hb1.size (hout.below hb1 hgo) (hsoft.below hb1 hgo) hv1).mono ?_
  rintro e w2 ⟨rfl, hc2, hu2⟩
  go_wp2
  refine bodyPost_ret (results_none rfl _ _ _) rfl ?_
  exact ⟨rfl, hc2, (UpdB.of_below hb1 hgo).trans hu2⟩

/-- What writeBlocks is to do with t powers of ten. -/
def WritesAt (t : Nat) : Prop := ∀ (go oo c B : Nat) (va vt : Value) (x : Nat) (h0 : Nat → Int) (w : World), B ≤ go → go < w.heap.size → 288 * 2 ^ t ≤ c →
    Cells w .u8 go oo (288 * 2 ^ t) h0 → Soft w go oo (288 * 2 ^ t) → Rep w va x → nl W32 x ≤ 900000 → Tens B w vt t →
    Calls Tryd.prog 73 #[.slice (some ⟨go, oo, none⟩) (288 * 2 ^ t) c, va, vt] w fun e w' =>
      e = .returned (.tuple #[]) ∧ Cells w' .u8 go oo (288 * 2 ^ t) (fun i => dd x (288 * 2 ^ t - 1 - i)) ∧ UpdB w.heap.size w w' go oo (288 * 2 ^ t)

set_option maxRecDepth 20000 in
set_option maxHeartbeats 1000000 in
theorem writes_step (t : Nat) (ht : t ≤ 20) (IH : WritesAt t) : WritesAt (t + 1) := by
  intro go oo c B va vt x h0 w hB hgo hc hout hsoft ha hx htens
  have hH20 : 2 ^ t ≤ 2 ^ 20 := Nat.pow_le_pow_right (by omega) ht
  have hLs : 288 * 2 ^ (t + 1) = 2 * (288 * 2 ^ t) := by rw [Nat.pow_succ]; omega
  have hp : 0 < 2 ^ t := Nat.two_pow_pos t
  unfold WritesAt at IH
  have htn : ten t = 10 ^ (288 * 2 ^ t) := rfl
  rw [hLs] at hc hout hsoft ⊢
  generalize 288 * 2 ^ t = H at *
  have hHb : 288 ≤ H ∧ H ≤ 301989888 := by omega
  obtain ⟨hH1, hH2⟩ := hHb
  have htens0 := htens
  obtain ⟨ao, cc, rfl, htc, h4⟩ := htens
  obtain ⟨b, off, rfl, hbB, hcells⟩ := h4 (by omega)
  obtain ⟨u, hu, hru⟩ := hcells t (by omega)
  have hT0 : Tens B w (.slice (some ⟨b, off, none⟩) t cc) t := ⟨_, _, rfl, by omega, fun _ => ⟨_, _, rfl, hbB, fun i hi => hcells i (by omega)⟩⟩
  have hD : Hid (DivideOk x (ten t)) := divide_any x (ten t) (ten_pos t) (by omega)
  have hq : nl W32 (x / ten t) ≤ 900000 := Nat.le_trans (nl_le W32 _ (nl W32 x) (by decide) (Nat.lt_of_le_of_lt (Nat.div_le_self _ _) (lt_pow_nl W32 x (by decide)))) hx
  have hr : nl W32 (x % ten t) ≤ 900000 := Nat.le_trans (nl_le W32 _ (nl W32 x) (by decide) (Nat.lt_of_le_of_lt (Nat.mod_le _ _) (lt_pow_nl W32 x (by decide)))) hx
  have HQD : Hid (∀ p, dd (x / ten t) p = dd x (H + p)) := fun p => by rw [htn]; exact dd_hi x p H
  have HRD : Hid (∀ p, p < H → dd (x % ten t) p = dd x p) := fun p hp => by rw [htn]; exact dd_lo x p H hp
  have hru' := hru.rep
  clear hH20 hLs hp hcells htens0 hx h4 htn
  have hL2 : (2 * (H : Int)) / 2 = (H : Int) := by omega
  go_enter Tryd.func73, Tryd.ntmps73
  go_wp2_with fail
  refine (hD.out _ _ _ ha hru').mono ?_
  rintro e w1 ⟨vq, vr, rfl, hq1, hr1, hb1⟩
  have s1 := hb1.size
  have hgo1 : go < w1.heap.size := by omega
  have hout1 := hout.below hb1 hgo
  have hsoft1 := hsoft.below hb1 hgo
  have hT1 : Tens B w1 (.slice (some ⟨b, off, none⟩) t cc) t := hT0.below (hb1.mono (by omega))
  have hc1 : H ≤ c := by omega
  have hc2 : H ≤ c - H := by omega
  have hout1a := hout1.mono (show H ≤ 2 * H by omega)
  have hsoft1a := hsoft1.mono (show H ≤ 2 * H by omega)
  have hqr := hq1.rep
  have HIH : Hid (∀ (go oo c B : Nat) (va vt : Value) (x : Nat) (h0 : Nat → Int) (w : World), B ≤ go → go < w.heap.size → H ≤ c →
    Cells w .u8 go oo H h0 → Soft w go oo H → Rep w va x → nl W32 x ≤ 900000 → Tens B w vt t →
    Calls Tryd.prog 73 #[.slice (some ⟨go, oo, none⟩) H c, va, vt] w fun e w' =>
      e = .returned (.tuple #[]) ∧ Cells w' .u8 go oo H (fun i => dd x (H - 1 - i)) ∧ UpdB w.heap.size w w' go oo H) := IH
  clear IH hT0 hout hsoft ha hru hru' hu hD
  generalize hQ : x / ten t = Q at *
  generalize hR : x % ten t = R at *
  clear hQ hR
  have i1 : (0 : Int) ≤ (H : Int) := by omega
  have i2 : (H : Int) ≤ (c : Int) := by omega
  have i3 : (H : Int) ≤ 2 * (H : Int) := by omega
  have i4 : (t : Int) ≤ (cc : Int) := by omega
  have i5 : (0 : Int) ≤ (t : Int) := by omega
  have i6 : (t : Int) ≤ (t : Int) + 1 := by omega
  have i7 : 2 * (H : Int) ≤ (c : Int) := by omega
  have n1 : ¬ c = H := by omega
  have n2 : H ≤ 2 * H := by omega
  have n3 : t ≤ cc := by omega
  have n4 : 2 * H - H = H := by omega
  go_wp2
  go_region_held3 (fun _ => True) (trivial) (first
    | (go_at_call 73; refine (HIH.out go oo c B vq (.slice (some ⟨b, off, none⟩) t cc) Q h0 _ hB (by exact hgo1) hc1 (by exact hout1a) (by exact hsoft1a) (by exact hqr) hq (by exact hT1)).mono ?_; rintro e w2 ⟨rfl, hcq, hu20⟩; have hu2 : UpdB w1.heap.size w1 w2 go oo H := ⟨hu20.os, hu20.tape, hu20.output, hu20.size, hu20.block, hu20.cell, hu20.froz⟩))
  have s2 := hu2.size
  have hgo2 : go < w2.heap.size := by omega
  have hout2 : Cells w2 .u8 go (oo + H) H (fun i => h0 (H + i)) := fun i hi => by rw [hu2.cell _ (by omega)]; exact hout1.from H H (by omega) i hi
  have hsoft2 : Soft w2 go (oo + H) H := (hsoft1.from H H (by omega)).updB hu2
  have hT2 := hT1.below (hu2.below (B' := B) hB (by omega))
  have hr2 : Rep w2 vr R := by
    obtain ⟨ao, c', h1, h2, h3, h4⟩ := hr1
    refine ⟨ao, c', h1, h2, h3, fun hn => ?_⟩
    obtain ⟨b', off', e', hc', _, hB'⟩ := h4 hn
    refine ⟨b', off', e', fun i hi => ?_⟩
    rw [World.cell?_of_block (w := w1) (hu2.block b' (hc'.lt hn) (by omega))]
    exact hc' i hi
  clear hu20 hout1a hsoft1a hT1 hqr hq1 hr1
  go_wp2
  go_region_held3 (fun _ => True) (trivial) (first
    | (go_at_call 73; (try rw [n4]); refine (HIH.out go (oo + H) (c - H) B vr (.slice (some ⟨b, off, none⟩) t cc) R (fun i => h0 (H + i)) _ hB (by exact hgo2) hc2 (by exact hout2) (by exact hsoft2) (by exact hr2) hr (by exact hT2)).mono ?_; rintro e w3 ⟨rfl, hcr, hu30⟩; have hu3 : UpdB w2.heap.size w2 w3 go (oo + H) H := ⟨hu30.os, hu30.tape, hu30.output, hu30.size, hu30.block, hu30.cell, hu30.froz⟩))
  have hfin : Cells w3 .u8 go oo (2 * H) (fun i => dd x (2 * H - 1 - i)) := by
    intro i hi
    by_cases hiH : i < H
    · rw [hu3.cell _ (by omega), hcq i hiH]
      show some (Value.int IntKind.u8 (dd Q (H - 1 - i))) = some (Value.int IntKind.u8 (dd x (2 * H - 1 - i)))
      rw [HQD.out, show H + (H - 1 - i) = 2 * H - 1 - i by omega]
    · have h1 : w3.cell? ⟨go, oo + H + (i - H), none⟩ = some (Value.int IntKind.u8 (dd R (H - 1 - (i - H)))) := hcr (i - H) (by omega)
      rw [show oo + H + (i - H) = oo + i by omega, HRD.out _ (by omega), show H - 1 - (i - H) = 2 * H - 1 - i by omega] at h1
      exact h1
  have hU : UpdB w.heap.size w w3 go oo (2 * H) := (UpdB.of_below hb1 hgo).trans (((hu2.mono s1).wide (Nat.le_refl _) (by omega)).trans ((hu3.mono (by omega)).wide (by omega) (by omega)))
  clear hu30 hu3 hu2 hcr hcq hout2 hsoft2 hout1 hsoft1 hb1
  go_wp2
  go_end0
  exact ⟨rfl, hfin, hU⟩

theorem writes_all : ∀ t, t ≤ 21 → WritesAt t := by
  intro t
  induction t with
  | zero =>
    intro _ go oo c B va vt x h0 w hB hgo hc hout hsoft ha hx htens
    obtain ⟨ao, cc, rfl, _, _⟩ := htens
    exact writeBlocks_base go oo _ c 32 cc ao va x h0 w (by omega) (by unfold LIM; omega) hgo hout hsoft ha
  | succ t ih => exact fun h => writes_step t (by omega) (ih (by omega))

end Go.Proofs.YthhabammejkjcaaDoor
