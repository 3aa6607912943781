/-
  Texts of mine, joined: what lies beneath the statement.
-/
import Derived.Test.YtnnnkajomljdgaaGreatDoorJ4bb07b6830
import Derived.Test.YtnnnkajomljdgaaGreatDoorJ88b258d9b9
import Derived.Test.YtnnnkajomljdgaaGreatDoorJdfe08f342d
import Derived.Test.YtnnnkajomljdgaaGreatDoorJ6c73594b0b
namespace Go.Proofs.YtnnnkajomljdgaaGreatDoor
set_option linter.unusedVariables false
set_option linter.unusedSimpArgs false

/-- A tree that may be for so many features. -/
structure MayT (F : Int) (t : Nat → Nd) (n : Nat) : Prop where
 pos : 1 ≤ n
 few : n ≤ 255
 feat : ∀ i, i < n → (t i).leaf = false → 0 ≤ (t i).feat ∧ (t i).feat < F
 named : Named t n
 once : Once t n
 up : ∀ i, i < n → lawUp t n (n + 1) i = true
 cov : ∀ i, i < n → 0 < (t i).cov
 parts : ∀ i, i < n → (t i).leaf = false → (t i).cov = (t (t i).left.toNat).cov + (t (t i).right.toNat).cov
theorem rl_none1 {F : Int} {t : Nat → Nd} {n : Nat} (h : rl F t n 1 = none) : fb (bad1 t n) n = none ∧ fb (bad2 t n) n = none := by
 simp only [rl, Option.map_eq_none_iff] at h
 cases e : fb (bad1 t n) n with
 | none => rw [e] at h; exact ⟨rfl, by simpa using h⟩
 | some i => rw [e] at h; simp at h
theorem mayT_of {F : Int} {t : Nat → Nd} {n : Nat} (hf : tfit t n = true) (h : ∀ r, r < 4 → rl F t n r = none) : MayT F t n := by
 unfold tfit at hf
 simp only [Bool.and_eq_true, decide_eq_true_eq, Option.isNone_iff_eq_none] at hf
 have h0 := h 0 (by omega)
 have h1 := rl_none1 (h 1 (by omega))
 have h2 := h 2 (by omega)
 have h3 := h 3 (by omega)
 simp only [rl, Option.map_eq_none_iff] at h0 h2 h3
 refine ⟨hf.1.1, hf.1.2, fun i hi hl => ?_, rl0_named (h 0 (by omega)), bad1_once h1.1, fun i hi => ?_, fun i hi => ?_, fun i hi hl => ?_⟩
 ·have a := fb_is hf.2 i hi
  have b := fb_is h0 i hi
  unfold badF at a
  unfold bad0 at b
  rw [hl] at b
  simp only [Bool.not_false, Bool.true_and, Bool.or_eq_false_iff, decide_eq_false_iff_not] at b
  simp only [Bool.not_eq_false', Bool.and_eq_true, decide_eq_true_eq] at a
  omega
 ·have := fb_is h1.2 i hi
  unfold bad2 at this
  simpa using this
 ·have := fb_is h2 i hi
  unfold bad3 at this
  rw [decide_eq_false_iff_not] at this
  grind
 ·have := fb_is h3 i hi
  unfold bad4 at this
  rw [hl] at this
  simpa using this
theorem ChkOut.may {F : Int} {k : Nat} {N : Nat → Nat} {T : Nat → Nat → Nd} {s d : Int} (h : ChkOut F k N T (.agg #[.int .i64 0, .int .i64 0, .int .i64 s, .int .i64 d])) : 0 ≤ F ∧ F ≤ 64 ∧ k ≤ 64 ∧ ∀ i, i < k → MayT F (T i) (N i) := by
 rcases h with ⟨_, e⟩ | ⟨hf, x, hx, e⟩
 ·simp at e
 ·rcases hx with ⟨rfl, hx⟩ | ⟨r, i, er, nd, hr, hi, rfl, h1, _⟩
  ·have a := mfit_is hf
   refine ⟨a.1, a.2.1, a.2.2.1, fun i hi => mayT_of ?_ (fun r hr => hx r hr i hi)⟩
   unfold mfit at hf
   simp only [Bool.and_eq_true, decide_eq_true_eq, Option.isNone_iff_eq_none] at hf
   have := fb_is hf.2 i hi
   simpa using this
  ·have := rl_err h1
   simp [fltV] at e
   omega

/-- How many steps a node lies below the first. -/
def lv (t : Nat → Nd) (n : Nat) : Nat → Nat → Nat
 | 0, _ => 0
 | k + 1, x => if x = 0 then 0 else match upOf t x n with
  | none => 0
  | some p => lv t n k p + 1
theorem lv_more {t : Nat → Nd} {n : Nat} : ∀ k x, lawUp t n k x = true → lv t n (k + 1) x = lv t n k x
 | 0, x, h => by simp [lawUp] at h
 | k + 1, x, h => by
  show (if x = 0 then 0 else match upOf t x n with | none => 0 | some p => lv t n (k + 1) p + 1) = (if x = 0 then 0 else match upOf t x n with | none => 0 | some p => lv t n k p + 1)
  unfold lawUp at h
  by_cases e : x = 0
  ·rw [if_pos e, if_pos e]
  ·rw [if_neg e] at h
   rw [if_neg e, if_neg e]
   cases u : upOf t x n with
   | none => rfl
   | some p =>
    rw [u] at h
    show lv t n (k + 1) p + 1 = lv t n k p + 1
    rw [lv_more k p h]
theorem lv_lt {t : Nat → Nd} {n : Nat} : ∀ k x, lawUp t n k x = true → lv t n k x < k
 | 0, x, h => by simp [lawUp] at h
 | k + 1, x, h => by
  rw [lv]
  unfold lawUp at h
  by_cases e : x = 0
  ·rw [if_pos e]; exact Nat.succ_pos k
  ·rw [if_neg e] at h
   rw [if_neg e]
   cases u : upOf t x n with
   | none => rw [u] at h; cases h
   | some p =>
    rw [u] at h
    have := lv_lt k p h
    show lv t n k p + 1 < k + 1
    omega
def lvl (t : Nat → Nd) (n x : Nat) : Nat := lv t n (n + 1) x
theorem MayT.lvl_le {F : Int} {t : Nat → Nd} {n : Nat} (h : MayT F t n) {x : Nat} (hx : x < n) : lvl t n x ≤ n := by
 have := lv_lt (n + 1) x (h.up x hx)
 unfold lvl
 omega
theorem MayT.lvl_kid {F : Int} {t : Nat → Nd} {n : Nat} (h : MayT F t n) {y x : Nat} (hy : y < n) (hx : x < n) (h1 : 1 ≤ x) (hk : kid t y x) : lvl t n x = lvl t n y + 1 := by
 have hu := h.up x hx
 unfold lvl
 unfold lawUp at hu
 rw [if_neg (by omega)] at hu
 cases u : upOf t x n with
 | none => rw [u] at hu; cases hu
 | some p =>
  rw [u] at hu
  obtain ⟨p1, p2⟩ := upOf_some u
  have : p = y := h.once.one h1 hx p1 hy p2 hk
  subst this
  rw [lv, if_neg (by omega), u]
  show lv t n n p + 1 = lv t n (n + 1) p + 1
  rw [lv_more n p hu]

/-- To which side an entry goes; the next node; the way. -/
def goL (a : Nd) (c : Cl) : Bool := if a.leaf = true then false else if c.miss = true then a.miss else decide (c.val < a.cut)
def nxt (a : Nd) (r : Nat → Cl) : Nat := if goL a (r a.feat.toNat) = true then a.left.toNat else a.right.toNat
def wayN (t : Nat → Nd) (r : Nat → Cl) : Nat → Nat → List Nat
 | 0, x => [x]
 | k + 1, x => if (t x).leaf = true then [x] else x :: wayN t r k (nxt (t x) r)
theorem nxt_kid {t : Nat → Nd} {n x : Nat} (hN : Named t n) (hx : x < n) (hl : (t x).leaf = false) (r : Nat → Cl) : 1 ≤ nxt (t x) r ∧ nxt (t x) r < n ∧ kid t x (nxt (t x) r) := by
 have := hN x hx hl
 unfold nxt
 by_cases g : goL (t x) (r (t x).feat.toNat) = true
 ·rw [if_pos g]
  exact ⟨by omega, by omega, hl, .inl (by omega)⟩
 ·rw [if_neg g]
  exact ⟨by omega, by omega, hl, .inr (by omega)⟩
theorem MayT.nxt {F : Int} {t : Nat → Nd} {n : Nat} (h : MayT F t n) {x : Nat} (hx : x < n) (hl : (t x).leaf = false) (r : Nat → Cl) : Go.Proofs.YtnnnkajomljdgaaGreatDoor.nxt (t x) r < n ∧ lvl t n (Go.Proofs.YtnnnkajomljdgaaGreatDoor.nxt (t x) r) = lvl t n x + 1 := by
 obtain ⟨h1, h2, h3⟩ := nxt_kid h.named hx hl r
 exact ⟨h2, h.lvl_kid hx h2 h1 h3⟩
theorem MayT.way_more {F : Int} {t : Nat → Nd} {n : Nat} (h : MayT F t n) (r : Nat → Cl) : ∀ k x, x < n → n + 1 ≤ lvl t n x + k → wayN t r (k + 1) x = wayN t r k x
 | 0, x, hx, hk => by have := h.lvl_le hx; omega
 | k + 1, x, hx, hk => by
  show (if (t x).leaf = true then [x] else x :: wayN t r (k + 1) (Go.Proofs.YtnnnkajomljdgaaGreatDoor.nxt (t x) r)) = (if (t x).leaf = true then [x] else x :: wayN t r k (Go.Proofs.YtnnnkajomljdgaaGreatDoor.nxt (t x) r))
  cases hl : (t x).leaf with
  | true => rfl
  | false =>
   obtain ⟨a, b⟩ := h.nxt hx hl r
   rw [if_neg (by simp), if_neg (by simp), h.way_more r k _ a (by omega)]
/-- The way from a node on. -/
def way (t : Nat → Nd) (n : Nat) (r : Nat → Cl) (x : Nat) : List Nat := wayN t r (n + 1) x
theorem way_leaf {t : Nat → Nd} {n x : Nat} {r : Nat → Cl} (hl : (t x).leaf = true) : way t n r x = [x] := by unfold way; rw [wayN, if_pos hl]
theorem MayT.way_split {F : Int} {t : Nat → Nd} {n : Nat} (h : MayT F t n) (r : Nat → Cl) {x : Nat} (hx : x < n) (hl : (t x).leaf = false) : way t n r x = x :: way t n r (Go.Proofs.YtnnnkajomljdgaaGreatDoor.nxt (t x) r) := by
 obtain ⟨a, b⟩ := h.nxt hx hl r
 unfold way
 rw [wayN, if_neg (by simp [hl]), h.way_more r n _ a (by omega)]
theorem MayT.way_ind {F : Int} {t : Nat → Nd} {n : Nat} (h : MayT F t n) (r : Nat → Cl) {P : Nat → Prop} (h0 : ∀ x, x < n → (t x).leaf = true → P x) (h1 : ∀ x, x < n → (t x).leaf = false → P (Go.Proofs.YtnnnkajomljdgaaGreatDoor.nxt (t x) r) → P x) : ∀ k x, x < n → n + 1 ≤ lvl t n x + k → P x
 | 0, x, hx, hk => by have := h.lvl_le hx; omega
 | k + 1, x, hx, hk => by
  cases hl : (t x).leaf with
  | true => exact h0 x hx hl
  | false =>
   obtain ⟨a, b⟩ := h.nxt hx hl r
   exact h1 x hx hl (h.way_ind r h0 h1 k _ a (by omega))
theorem MayT.by_way {F : Int} {t : Nat → Nd} {n : Nat} (h : MayT F t n) (r : Nat → Cl) {P : Nat → Prop} (h0 : ∀ x, x < n → (t x).leaf = true → P x) (h1 : ∀ x, x < n → (t x).leaf = false → P (Go.Proofs.YtnnnkajomljdgaaGreatDoor.nxt (t x) r) → P x) {x : Nat} (hx : x < n) : P x := h.way_ind r h0 h1 (n + 1) x hx (by omega)
/-- The leaf at the end of the way. -/
def wlast (t : Nat → Nd) (n : Nat) (r : Nat → Cl) (x : Nat) : Nat := (way t n r x).getLastD 0
theorem wlast_leaf {t : Nat → Nd} {n x : Nat} {r : Nat → Cl} (hl : (t x).leaf = true) : wlast t n r x = x := by unfold wlast; rw [way_leaf hl]; rfl
theorem way_ne (t : Nat → Nd) (n : Nat) (r : Nat → Cl) (x : Nat) : way t n r x ≠ [] := by
 unfold way
 rw [wayN]
 by_cases e : (t x).leaf = true
 ·rw [if_pos e]; simp
 ·rw [if_neg e]; simp
theorem MayT.wlast_split {F : Int} {t : Nat → Nd} {n : Nat} (h : MayT F t n) (r : Nat → Cl) {x : Nat} (hx : x < n) (hl : (t x).leaf = false) : wlast t n r x = wlast t n r (Go.Proofs.YtnnnkajomljdgaaGreatDoor.nxt (t x) r) := by
 unfold wlast
 rw [h.way_split r hx hl]
 have := way_ne t n r (Go.Proofs.YtnnnkajomljdgaaGreatDoor.nxt (t x) r)
 cases e : way t n r (Go.Proofs.YtnnnkajomljdgaaGreatDoor.nxt (t x) r) with
 | nil => exact absurd e this
 | cons a l => simp [List.getLastD]
theorem MayT.wlast_is {F : Int} {t : Nat → Nd} {n : Nat} (h : MayT F t n) (r : Nat → Cl) {x : Nat} (hx : x < n) : wlast t n r x < n ∧ (t (wlast t n r x)).leaf = true :=
 h.by_way r (P := fun x => wlast t n r x < n ∧ (t (wlast t n r x)).leaf = true) (fun x hx hl => by rw [wlast_leaf hl]; exact ⟨hx, hl⟩) (fun x hx hl ih => by rw [h.wlast_split r hx hl]; exact ih) hx
theorem MayT.way_len {F : Int} {t : Nat → Nd} {n : Nat} (h : MayT F t n) (r : Nat → Cl) {x : Nat} (hx : x < n) : (way t n r x).length + lvl t n x ≤ n + 1 :=
 h.by_way r (P := fun x => (way t n r x).length + lvl t n x ≤ n + 1) (fun x hx hl => by have := h.lvl_le hx; rw [way_leaf hl]; simp; omega) (fun x hx hl ih => by
  have := (h.nxt hx hl r).2
  rw [h.way_split r hx hl]
  simp only [List.length_cons]
  omega) hx
/-- What a model predicts: tree by tree, and in all. -/
def leafV (T : Nat → Nat → Nd) (N : Nat → Nat) (r : Nat → Cl) (i : Nat) : Rat := (T i (wlast (T i) (N i) r 0)).val
end Go.Proofs.YtnnnkajomljdgaaGreatDoor

namespace Go.Proofs.YtnnnkajomljdgaaGreatDoor
open Go.RowKit
set_option linter.unusedVariables false
set_option linter.unusedSimpArgs false

theorem cmpQ_lt10 (q r : Rat) : decide (cmpQ q r < 0) = decide (q < r) := by
 unfold cmpQ
 by_cases h : q < r
 ·simp [h]
 ·by_cases h2 : r < q
  ·simp [h, h2]
  ·simp [h, h2]


set_option maxRecDepth 100000 in
set_option maxHeartbeats 4000000 in
theorem rleft_at (d : Nd) (c : Cl) (p1 p2 p3 p4 : Bool) (a1 b1 a2 b2 a3 b3 a4 b4 : Option Addr) (n1 c1 m1 d1 n2 c2 m2 d2 n3 c3 m3 d3 n4 c4 m4 d4 : Nat) (L : Nat) (w : World) (hu : RatAt w (.agg #[.bool p1, .slice a1 n1 c1, .slice b1 m1 d1]) d.cut L) (hv : RatAt w (.agg #[.bool p4, .slice a4 n4 c4, .slice b4 m4 d4]) c.val L) (hL : 1 ≤ L) (hM : L ≤ 100000) :
  Calls Tryz.prog 41 #[.agg #[.bool d.leaf, .int .i64 d.feat, .bool p1, .slice a1 n1 c1, .slice b1 m1 d1, .int .i64 d.left, .int .i64 d.right, .bool d.miss, .bool p2, .slice a2 n2 c2, .slice b2 m2 d2, .bool p3, .slice a3 n3 c3, .slice b3 m3 d3], .agg #[.bool c.miss, .bool p4, .slice a4 n4 c4, .slice b4 m4 d4]] w fun e w' => e = .returned (.bool (goL d c)) ∧ Below w.heap.size w w' := by
 have hAB : ∀ o o', Below w.heap.size w ((w.alloc o).alloc o') := fun o o' => ((Below.refl _ _).alloc (Nat.le_refl _) _).alloc (by simp) _
 rcases d with ⟨lf, ft, q, ll, rr, ms, vl, cv⟩
 rcases c with ⟨cm, r⟩
 dsimp only at hu hv ⊢
 cases lf
 ·cases cm
  ·have HO : Hid (goL ⟨false, ft, q, ll, rr, ms, vl, cv⟩ ⟨false, r⟩ = decide (r < q)) := rfl
   have h1 := hu.below (hAB (.cells #[.bool false, .int .i64 ft, .bool p1, .slice a1 n1 c1, .slice b1 m1 d1, .int .i64 ll, .int .i64 rr, .bool ms, .bool p2, .slice a2 n2 c2, .slice b2 m2 d2, .bool p3, .slice a3 n3 c3, .slice b3 m3 d3] 67) (.cells #[.bool false, .bool p4, .slice a4 n4 c4, .slice b4 m4 d4] 71))
   have h2 := hv.below (hAB (.cells #[.bool false, .int .i64 ft, .bool p1, .slice a1 n1 c1, .slice b1 m1 d1, .int .i64 ll, .int .i64 rr, .bool ms, .bool p2, .slice a2 n2 c2, .slice b2 m2 d2, .bool p3, .slice a3 n3 c3, .slice b3 m3 d3] 67) (.cells #[.bool false, .bool p4, .slice a4 n4 c4, .slice b4 m4 d4] 71))
   have BB := hAB (.cells #[.bool false, .int .i64 ft, .bool p1, .slice a1 n1 c1, .slice b1 m1 d1, .int .i64 ll, .int .i64 rr, .bool ms, .bool p2, .slice a2 n2 c2, .slice b2 m2 d2, .bool p3, .slice a3 n3 c3, .slice b3 m3 d3] 67) (.cells #[.bool false, .bool p4, .slice a4 n4 c4, .slice b4 m4 d4] 71)
   go_enter Tryz.func41, Tryz.ntmps41
   go_wp2_with fail
   refine (qcmp_at _ _ r q L _ h2 h1 hL hM).mono ?_
   rintro e w1 ⟨rfl, b1⟩
   replace BB := BB.trans (b1.mono BB.size)
   clear b1 h1 h2
   have HC : Hid (decide (cmpQ r q < 0) = decide (r < q)) := cmpQ_lt10 r q
   generalize cmpQ r q = cq at *
   go_wp2
   go_ret
   exact ⟨by rw [HO.out, ← HC.out]; rfl, BB⟩
  ·cases ms <;> (go_enter Tryz.func41, Tryz.ntmps41; go_wp2; go_ret; exact ⟨rfl, hAB _ _⟩)
 ·go_enter Tryz.func41, Tryz.ntmps41
  go_wp2
  go_ret
  exact ⟨rfl, hAB _ _⟩


set_option maxRecDepth 100000 in
set_option maxHeartbeats 4000000 in
theorem lleft_at (d : Nd) (c : Cl) (p1 p2 p3 p4 : Bool) (a1 b1 a2 b2 a3 b3 a4 b4 : Option Addr) (n1 c1 m1 d1 n2 c2 m2 d2 n3 c3 m3 d3 n4 c4 m4 d4 : Nat) (L : Nat) (w : World) (hu : RatAt w (.agg #[.bool p1, .slice a1 n1 c1, .slice b1 m1 d1]) d.cut L) (hv : RatAt w (.agg #[.bool p4, .slice a4 n4 c4, .slice b4 m4 d4]) c.val L) (hL : 1 ≤ L) (hM : L ≤ 100000) :
  Calls Tryz.prog 42 #[.agg #[.bool d.leaf, .int .i64 d.feat, .bool p1, .slice a1 n1 c1, .slice b1 m1 d1, .int .i64 d.left, .int .i64 d.right, .bool d.miss, .bool p2, .slice a2 n2 c2, .slice b2 m2 d2, .bool p3, .slice a3 n3 c3, .slice b3 m3 d3], .agg #[.bool c.miss, .bool p4, .slice a4 n4 c4, .slice b4 m4 d4]] w fun e w' => e = .returned (.bool (goL d c)) ∧ Below w.heap.size w w' := by
 have hAB : ∀ o o', Below w.heap.size w ((w.alloc o).alloc o') := fun o o' => ((Below.refl _ _).alloc (Nat.le_refl _) _).alloc (by simp) _
 rcases d with ⟨lf, ft, q, ll, rr, ms, vl, cv⟩
 rcases c with ⟨cm, r⟩
 dsimp only at hu hv ⊢
 cases lf
 ·cases cm
  ·have HO : Hid (goL ⟨false, ft, q, ll, rr, ms, vl, cv⟩ ⟨false, r⟩ = decide (r < q)) := rfl
   have h1 := hu.below (hAB (.cells #[.bool false, .int .i64 ft, .bool p1, .slice a1 n1 c1, .slice b1 m1 d1, .int .i64 ll, .int .i64 rr, .bool ms, .bool p2, .slice a2 n2 c2, .slice b2 m2 d2, .bool p3, .slice a3 n3 c3, .slice b3 m3 d3] 67) (.cells #[.bool false, .bool p4, .slice a4 n4 c4, .slice b4 m4 d4] 71))
   have h2 := hv.below (hAB (.cells #[.bool false, .int .i64 ft, .bool p1, .slice a1 n1 c1, .slice b1 m1 d1, .int .i64 ll, .int .i64 rr, .bool ms, .bool p2, .slice a2 n2 c2, .slice b2 m2 d2, .bool p3, .slice a3 n3 c3, .slice b3 m3 d3] 67) (.cells #[.bool false, .bool p4, .slice a4 n4 c4, .slice b4 m4 d4] 71))
   have BB := hAB (.cells #[.bool false, .int .i64 ft, .bool p1, .slice a1 n1 c1, .slice b1 m1 d1, .int .i64 ll, .int .i64 rr, .bool ms, .bool p2, .slice a2 n2 c2, .slice b2 m2 d2, .bool p3, .slice a3 n3 c3, .slice b3 m3 d3] 67) (.cells #[.bool false, .bool p4, .slice a4 n4 c4, .slice b4 m4 d4] 71)
   go_enter Tryz.func42, Tryz.ntmps42
   go_wp2_with fail
   refine (qcmp_at _ _ r q L _ h2 h1 hL hM).mono ?_
   rintro e w1 ⟨rfl, b1⟩
   replace BB := BB.trans (b1.mono BB.size)
   clear b1 h1 h2
   have HC : Hid (decide (cmpQ r q < 0) = decide (r < q)) := cmpQ_lt10 r q
   generalize cmpQ r q = cq at *
   go_wp2
   go_ret
   exact ⟨by rw [HO.out, ← HC.out]; rfl, BB⟩
  ·cases ms <;> (go_enter Tryz.func42, Tryz.ntmps42; go_wp2; go_ret; exact ⟨rfl, hAB _ _⟩)
 ·go_enter Tryz.func42, Tryz.ntmps42
  go_wp2
  go_ret
  exact ⟨rfl, hAB _ _⟩

def Quad10 (w : World) (b o : Nat) (x y z u : Value) : Prop := w.cell? ⟨b, o, none⟩ = some x ∧ w.cell? ⟨b, o + 1, none⟩ = some y ∧ w.cell? ⟨b, o + 2, none⟩ = some z ∧ w.cell? ⟨b, o + 3, none⟩ = some u
theorem Quad10.out {w : World} {b o : Nat} {x y z u : Value} (h : Quad10 w b o x y z u) : w.cell? ⟨b, o, none⟩ = some x ∧ w.cell? ⟨b, o + 1, none⟩ = some y ∧ w.cell? ⟨b, o + 2, none⟩ = some z ∧ w.cell? ⟨b, o + 3, none⟩ = some u := h
theorem Quad10.below {w w' : World} {b o : Nat} {x y z u : Value} (h : Quad10 w b o x y z u) (hb : Below w.heap.size w w') : Quad10 w' b o x y z u := by
 have hl := World.block_lt_of_cell? w _ h.1
 exact ⟨(hb.cell (p := ⟨b, o, none⟩) hl).trans h.1, (hb.cell (p := ⟨b, o + 1, none⟩) hl).trans h.2.1, (hb.cell (p := ⟨b, o + 2, none⟩) hl).trans h.2.2.1, (hb.cell (p := ⟨b, o + 3, none⟩) hl).trans h.2.2.2⟩


set_option maxRecDepth 100000 in
set_option maxHeartbeats 8000000 in
theorem child_at (d : Nd) (r : Nat → Cl) (vr : Value) (nr : Nat) (p1 p2 p3 : Bool) (a1 b1 a2 b2 a3 b3 : Option Addr) (n1 c1 m1 d1 n2 c2 m2 d2 n3 c3 m3 d3 : Nat) (L : Nat) (w : World) (hu : RatAt w (.agg #[.bool p1, .slice a1 n1 c1, .slice b1 m1 d1]) d.cut L) (hrow : CRow w vr nr r L) (hf : 0 ≤ d.feat ∧ d.feat < (nr : Int)) (hl : 0 ≤ d.left) (hr : 0 ≤ d.right) (hL : 1 ≤ L) (hM : L ≤ 100000) :
  Calls Tryz.prog 39 #[.agg #[.bool d.leaf, .int .i64 d.feat, .bool p1, .slice a1 n1 c1, .slice b1 m1 d1, .int .i64 d.left, .int .i64 d.right, .bool d.miss, .bool p2, .slice a2 n2 c2, .slice b2 m2 d2, .bool p3, .slice a3 n3 c3, .slice b3 m3 d3], vr] w fun e w' => e = .returned (.int .i64 (nxt d r : Int)) ∧ Below w.heap.size w w' := by
 obtain ⟨hf0, hf1⟩ := hf
 obtain ⟨fn, hfn⟩ : ∃ fn : Nat, d.feat = (fn : Int) := ⟨d.feat.toNat, by omega⟩
 have hfl : fn < nr := by omega
 obtain ⟨lr, hlr⟩ : ∃ x : Nat, d.left = (x : Int) := ⟨d.left.toNat, by omega⟩
 obtain ⟨rr, hrr⟩ : ∃ x : Nat, d.right = (x : Int) := ⟨d.right.toNat, by omega⟩
 have HO : Hid (nxt d r = if goL d (r fn) = true then lr else rr) := by
  show nxt d r = _
  unfold nxt
  rw [hfn, hlr, hrr]
  rfl
 rw [hfn, hlr, hrr]
 have g0 : (0 : Int) ≤ (fn : Int) := by omega
 have g1 : (fn : Int) < (nr : Int) := by omega
 clear hf0 hf1 hl hr hfn hlr hrr
 obtain ⟨lf, hlf⟩ : ∃ z, d.leaf = z := ⟨_, rfl⟩
 obtain ⟨ms, hms⟩ : ∃ z, d.miss = z := ⟨_, rfl⟩
 have CON := fun w (h1 : RatAt w (.agg #[.bool p1, .slice a1 n1 c1, .slice b1 m1 d1]) d.cut L) p4 a4 b4 n4 c4 m4 d4 h2 => rleft_at ⟨lf, (fn : Int), d.cut, (lr : Int), (rr : Int), ms, d.val, d.cov⟩ (r fn) p1 p2 p3 p4 a1 b1 a2 b2 a3 b3 a4 b4 n1 c1 m1 d1 n2 c2 m2 d2 n3 c3 m3 d3 n4 c4 m4 d4 L w h1 h2 hL hM
 have HG : Hid (goL ⟨lf, (fn : Int), d.cut, (lr : Int), (rr : Int), ms, d.val, d.cov⟩ (r fn) = goL d (r fn)) := by
  show goL _ _ = _
  rw [← hlf, ← hms]
  rfl
 have HCON : Hid (∀ (w : World) (h1 : RatAt w (.agg #[.bool p1, .slice a1 n1 c1, .slice b1 m1 d1]) d.cut L) p4 a4 b4 n4 c4 m4 d4 (h2 : RatAt w (.agg #[.bool p4, .slice a4 n4 c4, .slice b4 m4 d4]) (r fn).val L), Calls Tryz.prog 41 #[.agg #[.bool lf, .int .i64 (fn : Int), .bool p1, .slice a1 n1 c1, .slice b1 m1 d1, .int .i64 (lr : Int), .int .i64 (rr : Int), .bool ms, .bool p2, .slice a2 n2 c2, .slice b2 m2 d2, .bool p3, .slice a3 n3 c3, .slice b3 m3 d3], .agg #[.bool (r fn).miss, .bool p4, .slice a4 n4 c4, .slice b4 m4 d4]] w fun e w' => e = .returned (.bool (goL ⟨lf, (fn : Int), d.cut, (lr : Int), (rr : Int), ms, d.val, d.cov⟩ (r fn))) ∧ Below w.heap.size w w') := CON
 rw [hlf, hms]
 clear CON hlf hms
 obtain ⟨ar, cr, rfl, hrc, hr63⟩ := hrow.open
 have BB : Below w.heap.size w w := Below.refl _ _
 obtain ⟨W0, hW0, hS0, hL0, VN, FN⟩ := V14.lay w 67 (.bool lf) (.int .i64 (fn : Int)) (.bool p1) (.slice a1 n1 c1) (.slice b1 m1 d1) (.int .i64 (lr : Int)) (.int .i64 (rr : Int)) (.bool ms) (.bool p2) (.slice a2 n2 c2) (.slice b2 m2 d2) (.bool p3) (.slice a3 n3 c3) (.slice b3 m3 d3)
 replace hu := hu.below hL0
 replace hrow := hrow.below hL0
 replace BB := BB.trans (hL0.mono BB.size)
 clear hL0
 go_enter Tryz.func39, Tryz.ntmps39
 go_wp2_with fail
 rw [← hW0]
 clear hW0 hS0 FN
 obtain ⟨b4, off4, c94, p4, a4, n4, c4, bb4, m4, d4, hv4, hcc4, hc64, X0, X1, X2, X3, r4⟩ := hrow.at hfl
 cases hv4
 obtain ⟨cm, hcm⟩ : ∃ z, (r fn).miss = z := ⟨_, rfl⟩
 rw [hcm] at X0 HCON
 clear hcm
 have QC : Quad10 W0 b4 (off4 + fn * 4) (.bool cm) (.bool p4) (.slice a4 n4 c4) (.slice bb4 m4 d4) := ⟨X0, X1, X2, X3⟩
 clear X0 X1 X2 X3 hrow
 have hDr : Below W0.heap.size W0 W0.drew := (Below.refl _ _).drew
 replace hu := hu.below hDr
 replace r4 := r4.below hDr
 replace QC := QC.below hDr
 replace VN := VN.below hDr
 replace BB := BB.trans (hDr.mono BB.size)
 clear hDr
 refine wp_region_held_drew (S := (fun w' => w'.cell? ⟨w.heap.size, 0, none⟩ = some (.bool lf) ∧ w'.cell? ⟨w.heap.size, 1, none⟩ = some (.int .i64 (fn : Int)) ∧ w'.cell? ⟨w.heap.size, 2, none⟩ = some (.bool p1) ∧ w'.cell? ⟨w.heap.size, 3, none⟩ = some (.slice a1 n1 c1) ∧ w'.cell? ⟨w.heap.size, 4, none⟩ = some (.slice b1 m1 d1) ∧ w'.cell? ⟨w.heap.size, 5, none⟩ = some (.int .i64 (lr : Int)) ∧ w'.cell? ⟨w.heap.size, 6, none⟩ = some (.int .i64 (rr : Int)) ∧ w'.cell? ⟨w.heap.size, 7, none⟩ = some (.bool ms) ∧ w'.cell? ⟨w.heap.size, 8, none⟩ = some (.bool p2) ∧ w'.cell? ⟨w.heap.size, 9, none⟩ = some (.slice a2 n2 c2) ∧ w'.cell? ⟨w.heap.size, 10, none⟩ = some (.slice b2 m2 d2) ∧ w'.cell? ⟨w.heap.size, 11, none⟩ = some (.bool p3) ∧ w'.cell? ⟨w.heap.size, 12, none⟩ = some (.slice a3 n3 c3) ∧ w'.cell? ⟨w.heap.size, 13, none⟩ = some (.slice b3 m3 d3) ∧ w'.cell? ⟨b4, off4 + fn * 4, none⟩ = some (.bool cm) ∧ w'.cell? ⟨b4, off4 + fn * 4 + 1, none⟩ = some (.bool p4) ∧ w'.cell? ⟨b4, off4 + fn * 4 + 2, none⟩ = some (.slice a4 n4 c4) ∧ w'.cell? ⟨b4, off4 + fn * 4 + 3, none⟩ = some (.slice bb4 m4 d4))) (by kernel_rfl) ?_ (fun hHeld => ?_)
 ·exact ⟨VN.c0, VN.c1, VN.c2, VN.c3, VN.c4, VN.c5, VN.c6, VN.c7, VN.c8, VN.c9, VN.c10, VN.c11, VN.c12, VN.c13, QC.out.1, QC.out.2.1, QC.out.2.2.1, QC.out.2.2.2⟩
 generalize W0.drew = W1 at *
 refine wpAnyH_take (i := 0) (v := ?_) (by simp only [xL1, xL2, xL3]; rfl) (by kernel_rfl) (by kernel_rfl) (by kernel_rfl) (by exact fun _ _ _ h => h) (Or.inl ⟨by rfl, ?_⟩) (by assumption) ?_
 rotate_left
 ·(intro w hSw; (try dsimp only at hSw); go_simp; (try with_reducible rfl))
 (try simp only [Act.put, xL4, xL5, xL6])
 refine wpAnyH_take (i := 1) (v := ?_) (by simp only [xL1, xL2, xL3]; rfl) (by kernel_rfl) (by kernel_rfl) (by kernel_rfl) (by exact fun _ _ _ h => h) (Or.inl ⟨by rfl, ?_⟩) (by assumption) ?_
 rotate_left
 ·(intro w hSw; (try dsimp only at hSw); go_simp; (try with_reducible rfl))
 (try simp only [Act.put, xL4, xL5, xL6])
 refine wpAnyH_take (i := 2) (v := ?_) (by simp only [xL1, xL2, xL3]; rfl) (by kernel_rfl) (by kernel_rfl) (by kernel_rfl) (by exact fun _ _ _ h => h) (Or.inl ⟨by rfl, ?_⟩) (by assumption) ?_
 rotate_left
 ·(intro w hSw; (try dsimp only at hSw); go_simp; (try with_reducible rfl))
 (try simp only [Act.put, xL4, xL5, xL6])
 refine wpAnyH_take (i := 3) (v := ?_) (by simp only [xL1, xL2, xL3]; rfl) (by kernel_rfl) (by kernel_rfl) (by kernel_rfl) (by exact fun _ _ _ h => h) (Or.inl ⟨by rfl, ?_⟩) (by assumption) ?_
 rotate_left
 ·(intro w hSw; (try dsimp only at hSw); go_simp; (try with_reducible rfl))
 (try simp only [Act.put, xL4, xL5, xL6])
 refine wpAnyH_take (i := 4) (v := ?_) (by simp only [xL1, xL2, xL3]; rfl) (by kernel_rfl) (by kernel_rfl) (by kernel_rfl) (by exact fun _ _ _ h => h) (Or.inl ⟨by rfl, ?_⟩) (by assumption) ?_
 rotate_left
 ·(intro w hSw; (try dsimp only at hSw); go_simp; (try with_reducible rfl))
 (try simp only [Act.put, xL4, xL5, xL6])
 refine wpAnyH_take (i := 5) (v := ?_) (by simp only [xL1, xL2, xL3]; rfl) (by kernel_rfl) (by kernel_rfl) (by kernel_rfl) (by exact fun _ _ _ h => h) (Or.inl ⟨by rfl, ?_⟩) (by assumption) ?_
 rotate_left
 ·(intro w hSw; (try dsimp only at hSw); go_simp; (try with_reducible rfl))
 (try simp only [Act.put, xL4, xL5, xL6])
 refine wpAnyH_ready (rs := [6]) (by kernel_rfl) (by simp) ?_
 refine AllReadyH.cons (by simp only [xL1, xL2, xL3]; rfl) (fun K hK => ?_) AllReadyH.nil
 go_simp
 refine (HCON.out _ hu _ _ _ _ _ _ _ r4).mono ?_
 rintro e w1 ⟨rfl, b1⟩
 rw [HG.out]
 obtain ⟨g, hg⟩ : ∃ g, goL d (r fn) = g := ⟨_, rfl⟩
 have HGG : Hid (goL d (r fn) = g) := hg
 rw [hg]
 clear hg HCON HG
 go_wp2_with fail
 replace hu := hu.below b1
 replace r4 := r4.below b1
 replace QC := QC.below b1
 replace VN := VN.below b1
 replace BB := BB.trans (b1.mono BB.size)
 clear b1
 refine hK.out _ _ ?_ (fun hH1 => ?_)
 ·exact ⟨VN.c0, VN.c1, VN.c2, VN.c3, VN.c4, VN.c5, VN.c6, VN.c7, VN.c8, VN.c9, VN.c10, VN.c11, VN.c12, VN.c13, QC.out.1, QC.out.2.1, QC.out.2.2.1, QC.out.2.2.2⟩
 clear hK K hHeld
 (try simp only [Act.put, xL4, xL5, xL6])
 refine wpAnyH_done (by kernel_rfl) ?_ _
 clear hH1
 obtain ⟨V_0, V_1, V_2, V_3, V_4, V_5, V_6, V_7, V_8, V_9, V_10, V_11, V_12, V_13⟩ := id VN
 cases g
 ·go_wp2
  go_ret
  exact ⟨by rw [HO.out, HGG.out]; rfl, BB⟩
 ·go_wp2
  go_ret
  exact ⟨by rw [HO.out, HGG.out]; rfl, BB⟩

/-- May a model be? -/
noncomputable def mayB (F : Int) (k : Nat) (N : Nat → Nat) (T : Nat → Nat → Nd) : Bool := @decide (ChkOut F k N T (.agg #[.int .i64 0, .int .i64 0, .int .i64 0, .int .i64 0])) (Classical.propDecidable _)
theorem mayB_of {F : Int} {k : Nat} {N : Nat → Nat} {T : Nat → Nat → Nd} {a s d : Int} (h : ChkOut F k N T (.agg #[.int .i64 a, .int .i64 0, .int .i64 s, .int .i64 d])) : decide (a = 0) = mayB F k N T := by
 unfold mayB
 by_cases e : a = 0
 ·subst e
  obtain ⟨a2, s2, d2, e2, hz⟩ := h.open
  injection e2 with e2
  simp only [Array.mk.injEq, List.cons.injEq, Value.int.injEq, true_and, and_true] at e2
  obtain ⟨e0, es, ed⟩ := e2
  obtain ⟨rfl, rfl⟩ := hz e0.symm
  subst es ed
  rw [decide_eq_true rfl]
  exact (@decide_eq_true _ (Classical.propDecidable _) h).symm
 ·rw [decide_eq_false e]
  refine (@decide_eq_false _ (Classical.propDecidable _) (fun h2 => e ?_)).symm
  have := h.one h2
  injection this with this
  simp only [Array.mk.injEq, List.cons.injEq, Value.int.injEq, true_and, and_true] at this
  exact this.1
theorem mayB_may {F : Int} {k : Nat} {N : Nat → Nat} {T : Nat → Nat → Nd} (h : mayB F k N T = true) : 0 ≤ F ∧ F ≤ 64 ∧ k ≤ 64 ∧ ∀ i, i < k → MayT F (T i) (N i) := by
 unfold mayB at h
 exact (@of_decide_eq_true _ (Classical.propDecidable _) h).may
theorem ok_may (F : Int) (v : Value) (k : Nat) (N : Nat → Nat) (T : Nat → Nat → Nd) (L : Nat) (w : World) (hv : MRow w v k N T L) (ht : Tab w) (hL : 1 ≤ L) (hLM : L ≤ 30000) :
  Calls Tryz.prog 25 #[.agg #[.int .i64 F, v]] w fun e w' => e = .returned (.bool (mayB F k N T)) ∧ Below w.heap.size w w' := by
 refine (ok_at F v k N T L w hv ht hL hLM).mono ?_
 rintro e w' ⟨a, s, d, rfl, h, hb⟩
 exact ⟨by rw [mayB_of h], hb⟩

/-- What Way has found: the nodes ahead, and where it stands. -/
def WInv (t : Nat → Nd) (n : Nat) (r : Nat → Cl) (zs : List Nat) (x : Nat) : Prop := x < n ∧ ∃ pre, zs = pre ++ [x] ∧ pre ++ way t n r x = way t n r 0
theorem WInv.start {t : Nat → Nd} {n : Nat} (r : Nat → Cl) (h : 0 < n) : WInv t n r [0] 0 := ⟨h, [], rfl, rfl⟩
theorem WInv.leaf {t : Nat → Nd} {n : Nat} {r : Nat → Cl} {zs : List Nat} {x : Nat} (h : WInv t n r zs x) (hl : (t x).leaf = true) : zs = way t n r 0 := by
 obtain ⟨_, pre, e, h⟩ := h
 rw [way_leaf hl] at h
 rw [e, h]
theorem WInv.split {F : Int} {t : Nat → Nd} {n : Nat} {r : Nat → Cl} {zs : List Nat} {x : Nat} (h : WInv t n r zs x) (hm : MayT F t n) (hl : (t x).leaf = false) : WInv t n r (zs ++ [nxt (t x) r]) (nxt (t x) r) := by
 obtain ⟨hx, pre, e, h⟩ := h
 rw [hm.way_split r hx hl] at h
 refine ⟨(hm.nxt hx hl r).1, pre ++ [x], by rw [e], ?_⟩
 rw [← h, List.append_assoc]
 rfl
theorem WInv.len {F : Int} {t : Nat → Nd} {n : Nat} {r : Nat → Cl} {zs : List Nat} {x : Nat} (h : WInv t n r zs x) (hm : MayT F t n) : 1 ≤ zs.length ∧ zs.length ≤ n + 1 := by
 obtain ⟨hx, pre, e, h⟩ := h
 have h1 := hm.way_len r (x := 0) (by omega)
 rw [← h, List.length_append] at h1
 have := List.length_pos_iff.2 (way_ne t n r x)
 rw [e, List.length_append]
 simp
 omega
theorem int_app {B : Nat} {w : World} {g c k m : Nat} {zs ys : List Nat} (hz : zs.length = k) (hy : ys.length = m) (h : w.ownsRow B 3 1 (.slice (some ⟨g, 0, none⟩) (k + m) c) (k + m) (zs.map (fun x : Nat => Value.int .i64 (x : Int)) ++ ys.map (fun x : Nat => Value.int .i64 (x : Int)))) : IntOwn B w (.slice (some ⟨g, 0, none⟩) (k + m) c) (zs ++ ys) := by
 unfold IntOwn
 rw [List.length_append, List.map_append, hz, hy]
 exact h
theorem IntOwn.le {B B' : Nat} {w : World} {v : Value} {zs : List Nat} (h : IntOwn B w v zs) (hb : B' ≤ B) : IntOwn B' w v zs := by
 refine ⟨h.1, ?_⟩
 rcases h.2 with h | ⟨g, c, cur, e, h1, h2⟩
 ·exact .inl h
 ·exact .inr ⟨g, c, cur, e, Nat.le_trans hb h1, h2⟩

set_option maxRecDepth 100000 in
set_option maxHeartbeats 16000000 in
theorem lway_ind (vt vr : Value) (n nr : Nat) (t : Nat → Nd) (r : Nat → Cl) (L : Nat) (hL : 1 ≤ L) (hM : L ≤ 30000) (hm : MayT (nr : Int) t n) : ∀ (k x : Nat) (w : World), x < n → n + 1 ≤ lvl t n x + k → TRow w vt n t L → CRow w vr nr r L →
  Calls Tryz.prog 14 #[vt, .int .i64 (x : Int), vr] w fun e w' => ∃ u, e = .returned u ∧ IntOwn w.heap.size w' u (way t n r x) ∧ Below w.heap.size w w' := by
 intro k
 induction k with
 | zero =>
  intro x w hx hk
  have := hm.lvl_le hx
  omega
 | succ k ih =>
  intro x w hx hk ht hr
  obtain ⟨ao, ct, rfl, htc, ht63⟩ := ht.open
  obtain ⟨ar, cr, rfl, hrc, hr63⟩ := hr.open
  have BB : Below w.heap.size w w := Below.refl _ _
  have g0 : (0 : Int) ≤ (x : Int) := by omega
  have g1 : (x : Int) < (n : Int) := by omega
  have hn255 := hm.few
  go_enter Tryz.func14, Tryz.ntmps14
  obtain ⟨b, off, cc, p1, a1, n1, c1, b1, m1, d1, p2, a2, n2, c2, b2, m2, d2, p3, a3, n3, c3, b3, m3, d3, hvv, hcc, hc6, NN, r1, r2, r3, i1, i2, i3⟩ := ht.at hx
  cases hvv
  obtain ⟨lf, hlf⟩ : ∃ z, (t x).leaf = z := ⟨_, rfl⟩
  rw [hlf] at NN
  obtain ⟨N_0, N_1, N_2, N_3, N_4, N_5, N_6, N_7, N_8, N_9, N_10, N_11, N_12, N_13⟩ := id NN
  obtain ⟨W1, hW1, hS1, hL1, VN, FN⟩ := V14.lay w 67 (.bool lf) (.int .i64 (t x).feat) (.bool p1) (.slice a1 n1 c1) (.slice b1 m1 d1) (.int .i64 (t x).left) (.int .i64 (t x).right) (.bool (t x).miss) (.bool p2) (.slice a2 n2 c2) (.slice b2 m2 d2) (.bool p3) (.slice a3 n3 c3) (.slice b3 m3 d3)
  replace ht := ht.below hL1
  replace hr := hr.below hL1
  replace r1 := r1.below hL1
  replace BB := BB.trans (hL1.mono BB.size)
  clear hL1
  obtain ⟨V_0, V_1, V_2, V_3, V_4, V_5, V_6, V_7, V_8, V_9, V_10, V_11, V_12, V_13⟩ := id VN
  rw [hW1] at V_0 V_1 V_2 V_3 V_4 V_5 V_6 V_7 V_8 V_9 V_10 V_11 V_12 V_13
  cases lf
  ·have HN := hm.named x hx hlf
   have HF := hm.feat x hx hlf
   have HWS : Hid (way t n r x = x :: way t n r (nxt (t x) r)) := hm.way_split r hx hlf
   have HNX := hm.nxt hx hlf r
   obtain ⟨fn, hfn⟩ : ∃ fn : Nat, (t x).feat = (fn : Int) := ⟨(t x).feat.toNat, by omega⟩
   have hfl : fn < nr := by omega
   obtain ⟨lr, hlr⟩ : ∃ z : Nat, (t x).left = (z : Int) := ⟨(t x).left.toNat, by omega⟩
   obtain ⟨rr, hrr⟩ : ∃ z : Nat, (t x).right = (z : Int) := ⟨(t x).right.toNat, by omega⟩
   obtain ⟨ms, hms⟩ : ∃ z, (t x).miss = z := ⟨_, rfl⟩
   have HO : Hid (nxt (t x) r = if goL (t x) (r fn) = true then lr else rr) := by
    show nxt (t x) r = _
    unfold nxt
    rw [hfn, hlr, hrr]
    rfl
   have HCON : Hid (∀ (w : World) (h1 : RatAt w (.agg #[.bool p1, .slice a1 n1 c1, .slice b1 m1 d1]) (t x).cut L) p4 a4 b4 n4 c4 m4 d4 (h2 : RatAt w (.agg #[.bool p4, .slice a4 n4 c4, .slice b4 m4 d4]) (r fn).val L), Calls Tryz.prog 42 #[.agg #[.bool false, .int .i64 (fn : Int), .bool p1, .slice a1 n1 c1, .slice b1 m1 d1, .int .i64 (lr : Int), .int .i64 (rr : Int), .bool ms, .bool p2, .slice a2 n2 c2, .slice b2 m2 d2, .bool p3, .slice a3 n3 c3, .slice b3 m3 d3], .agg #[.bool (r fn).miss, .bool p4, .slice a4 n4 c4, .slice b4 m4 d4]] w fun e w' => e = .returned (.bool (goL (t x) (r fn))) ∧ Below w.heap.size w w') := fun w h1 p4 a4 b4 n4 c4 m4 d4 h2 => by
    have := lleft_at (t x) (r fn) p1 p2 p3 p4 a1 b1 a2 b2 a3 b3 a4 b4 n1 c1 m1 d1 n2 c2 m2 d2 n3 c3 m3 d3 n4 c4 m4 d4 L w h1 h2 hL (by omega)
    rw [hlf, hfn, hlr, hrr, hms] at this
    exact this
   simp only [hfn, hlr, hrr, hms] at VN hW1 V_1 N_1 V_5 N_5 V_6 N_6 V_7 N_7
   have f0 : (0 : Int) ≤ (fn : Int) := by omega
   have f1 : (fn : Int) < (nr : Int) := by omega
   clear hlf hfn hlr hrr hms HN HF
   go_wp2
   clear V_0 V_1 V_2 V_3 V_4 V_5 V_6 V_7 V_8 V_9 V_10 V_11 V_12 V_13 N_0 N_1 N_2 N_3 N_4 N_5 N_6 N_7 N_8 N_9 N_10 N_11 N_12 N_13
   rw [← hW1]
   clear hW1 hS1 FN
   obtain ⟨b4, off4, c94, p4, a4, n4, c4, bb4, m4, d4, hv4, hcc4, hc64, X0, X1, X2, X3, r4⟩ := hr.at hfl
   cases hv4
   obtain ⟨cm, hcm⟩ : ∃ z, (r fn).miss = z := ⟨_, rfl⟩
   rw [hcm] at X0 HCON
   clear hcm
   have QC : Quad10 W1 b4 (off4 + fn * 4) (.bool cm) (.bool p4) (.slice a4 n4 c4) (.slice bb4 m4 d4) := ⟨X0, X1, X2, X3⟩
   clear X0 X1 X2 X3
   have hRl : w.heap.size < W1.heap.size := World.block_lt_of_cell? _ _ VN.c0
   have hDr : Below W1.heap.size W1 W1.drew := (Below.refl _ _).drew
   replace ht := ht.below hDr
   replace hr := hr.below hDr
   replace r1 := r1.below hDr
   replace r4 := r4.below hDr
   replace QC := QC.below hDr
   replace VN := VN.below hDr
   replace BB := BB.trans (hDr.mono BB.size)
   clear hDr
   refine wp_region_held_drew (S := (fun w' => w'.cell? ⟨w.heap.size, 0, none⟩ = some (.bool false) ∧ w'.cell? ⟨w.heap.size, 1, none⟩ = some (.int .i64 (fn : Int)) ∧ w'.cell? ⟨w.heap.size, 2, none⟩ = some (.bool p1) ∧ w'.cell? ⟨w.heap.size, 3, none⟩ = some (.slice a1 n1 c1) ∧ w'.cell? ⟨w.heap.size, 4, none⟩ = some (.slice b1 m1 d1) ∧ w'.cell? ⟨w.heap.size, 5, none⟩ = some (.int .i64 (lr : Int)) ∧ w'.cell? ⟨w.heap.size, 6, none⟩ = some (.int .i64 (rr : Int)) ∧ w'.cell? ⟨w.heap.size, 7, none⟩ = some (.bool ms) ∧ w'.cell? ⟨w.heap.size, 8, none⟩ = some (.bool p2) ∧ w'.cell? ⟨w.heap.size, 9, none⟩ = some (.slice a2 n2 c2) ∧ w'.cell? ⟨w.heap.size, 10, none⟩ = some (.slice b2 m2 d2) ∧ w'.cell? ⟨w.heap.size, 11, none⟩ = some (.bool p3) ∧ w'.cell? ⟨w.heap.size, 12, none⟩ = some (.slice a3 n3 c3) ∧ w'.cell? ⟨w.heap.size, 13, none⟩ = some (.slice b3 m3 d3) ∧ w'.cell? ⟨b4, off4 + fn * 4, none⟩ = some (.bool cm) ∧ w'.cell? ⟨b4, off4 + fn * 4 + 1, none⟩ = some (.bool p4) ∧ w'.cell? ⟨b4, off4 + fn * 4 + 2, none⟩ = some (.slice a4 n4 c4) ∧ w'.cell? ⟨b4, off4 + fn * 4 + 3, none⟩ = some (.slice bb4 m4 d4))) (by kernel_rfl) ?_ (fun hHeld => ?_)
   ·exact ⟨VN.c0, VN.c1, VN.c2, VN.c3, VN.c4, VN.c5, VN.c6, VN.c7, VN.c8, VN.c9, VN.c10, VN.c11, VN.c12, VN.c13, QC.out.1, QC.out.2.1, QC.out.2.2.1, QC.out.2.2.2⟩
   generalize W1.drew = W1 at *
   refine wpAnyH_take (i := 0) (v := ?_) (by simp only [xL1, xL2, xL3]; rfl) (by kernel_rfl) (by kernel_rfl) (by kernel_rfl) (by exact fun _ _ _ h => h) (Or.inl ⟨by rfl, ?_⟩) (by assumption) ?_
   rotate_left
   ·(intro w hSw; (try dsimp only at hSw); go_simp; (try with_reducible rfl))
   (try simp only [Act.put, xL4, xL5, xL6])
   refine wpAnyH_take (i := 1) (v := ?_) (by simp only [xL1, xL2, xL3]; rfl) (by kernel_rfl) (by kernel_rfl) (by kernel_rfl) (by exact fun _ _ _ h => h) (Or.inl ⟨by rfl, ?_⟩) (by assumption) ?_
   rotate_left
   ·(intro w hSw; (try dsimp only at hSw); go_simp; (try with_reducible rfl))
   (try simp only [Act.put, xL4, xL5, xL6])
   refine wpAnyH_take (i := 2) (v := ?_) (by simp only [xL1, xL2, xL3]; rfl) (by kernel_rfl) (by kernel_rfl) (by kernel_rfl) (by exact fun _ _ _ h => h) (Or.inl ⟨by rfl, ?_⟩) (by assumption) ?_
   rotate_left
   ·(intro w hSw; (try dsimp only at hSw); go_simp; (try with_reducible rfl))
   (try simp only [Act.put, xL4, xL5, xL6])
   refine wpAnyH_take (i := 3) (v := ?_) (by simp only [xL1, xL2, xL3]; rfl) (by kernel_rfl) (by kernel_rfl) (by kernel_rfl) (by exact fun _ _ _ h => h) (Or.inl ⟨by rfl, ?_⟩) (by assumption) ?_
   rotate_left
   ·(intro w hSw; (try dsimp only at hSw); go_simp; (try with_reducible rfl))
   (try simp only [Act.put, xL4, xL5, xL6])
   refine wpAnyH_take (i := 4) (v := ?_) (by simp only [xL1, xL2, xL3]; rfl) (by kernel_rfl) (by kernel_rfl) (by kernel_rfl) (by exact fun _ _ _ h => h) (Or.inl ⟨by rfl, ?_⟩) (by assumption) ?_
   rotate_left
   ·(intro w hSw; (try dsimp only at hSw); go_simp; (try with_reducible rfl))
   (try simp only [Act.put, xL4, xL5, xL6])
   refine wpAnyH_take (i := 5) (v := ?_) (by simp only [xL1, xL2, xL3]; rfl) (by kernel_rfl) (by kernel_rfl) (by kernel_rfl) (by exact fun _ _ _ h => h) (Or.inl ⟨by rfl, ?_⟩) (by assumption) ?_
   rotate_left
   ·(intro w hSw; (try dsimp only at hSw); go_simp; (try with_reducible rfl))
   (try simp only [Act.put, xL4, xL5, xL6])
   refine wpAnyH_ready (rs := [6]) (by kernel_rfl) (by simp) ?_
   refine AllReadyH.cons (by simp only [xL1, xL2, xL3]; rfl) (fun K hK => ?_) AllReadyH.nil
   go_simp
   refine (HCON.out _ r1 _ _ _ _ _ _ _ r4).mono ?_
   rintro e w1 ⟨rfl, b1⟩
   obtain ⟨g, hg⟩ : ∃ g, goL (t x) (r fn) = g := ⟨_, rfl⟩
   rw [hg] at HO ⊢
   clear hg HCON
   go_wp2_with fail
   replace ht := ht.below b1
   replace hr := hr.below b1
   replace r1 := r1.below b1
   replace r4 := r4.below b1
   replace QC := QC.below b1
   replace VN := VN.below b1
   replace BB := BB.trans (b1.mono BB.size)
   clear b1
   refine hK.out _ _ ?_ (fun hH1 => ?_)
   ·exact ⟨VN.c0, VN.c1, VN.c2, VN.c3, VN.c4, VN.c5, VN.c6, VN.c7, VN.c8, VN.c9, VN.c10, VN.c11, VN.c12, VN.c13, QC.out.1, QC.out.2.1, QC.out.2.2.1, QC.out.2.2.2⟩
   clear hK K hHeld
   (try simp only [Act.put, xL4, xL5, xL6])
   refine wpAnyH_done (by kernel_rfl) ?_ _
   clear hH1
   have hA3 : Below w1.heap.size w1 (w1.alloc (.cells #[.int .i64 (x : Int)] 3)) := (Below.refl _ _).alloc (Nat.le_refl _) _
   have hF := int_first w1 x w.heap.size BB.size
   replace ht := ht.below hA3
   replace hr := hr.below hA3
   replace VN := VN.below hA3
   replace BB := BB.trans (hA3.mono BB.size)
   clear hA3 r1 r4 QC
   cases g
   ·have HO2 : nxt (t x) r = rr := HO.out
    rw [HO2] at HNX HWS
    clear HO HO2
    have IH := ih rr _ HNX.1 (by omega) ht hr
    obtain ⟨V_0, V_1, V_2, V_3, V_4, V_5, V_6, V_7, V_8, V_9, V_10, V_11, V_12, V_13⟩ := id VN
    have HMX : Hid (MayT (nr : Int) t n) := hm
    have HLN : Hid ((way t n r rr).length ≤ n + 1) := by have := hm.way_len r HNX.1; show _ ≤ _; omega
    have HNE : Hid (way t n r rr ≠ []) := way_ne _ _ _ _
    have HIH : Hid _ := IH
    clear IH ih hm HNX
    go_wp2_with fail
    refine Calls.mono HIH.out ?_
    rintro e w7 ⟨u, rfl, hU, b7⟩
    clear V_0 V_1 V_2 V_3 V_4 V_5 V_6 V_7 V_8 V_9 V_10 V_11 V_12 V_13
    have hF7 := hF.later b7
    have BB7 := BB.trans (b7.mono BB.size)
    have hU7 := hU.le BB.size
    clear HIH ht hr VN hF b7 hU
    generalize way t n r rr = zs at *
    have hl7 := HLN.out
    have hp7 : 1 ≤ zs.length := List.length_pos_iff.2 HNE.out
    obtain ⟨gu, cu, rfl, hcu⟩ := hU7.open (by omega)
    obtain ⟨k, hk⟩ : ∃ k, zs.length = k := ⟨_, rfl⟩
    have hcl : ∀ j u, (zs.map (fun x : Nat => Value.int .i64 (x : Int)))[j]? = some u → w7.cell? ((⟨gu, 0, none⟩ : Addr).add j) = some u := World.ownsRow.cells hU7 (g := gu) rfl
    have hnl : (zs.map (fun x : Nat => Value.int .i64 (x : Int))).length = k * 1 := by rw [List.length_map, hk, Nat.mul_one]
    have h1c : ∀ u ∈ zs.map (fun x : Nat => Value.int .i64 (x : Int)), u.oneCell' = true := by intro u hu; rw [List.mem_map] at hu; obtain ⟨y, _, rfl⟩ := hu; rfl
    have hsz7 := BB7.size
    have HK : Hid (zs.length = k) := hk
    rw [hk] at hl7 hp7 ⊢
    have hF8 : w7.ownsRow w.heap.size 3 1 (.slice (some ⟨w1.heap.size, 0, none⟩) 1 1) 1 [.int .i64 (x : Int)] := hF7
    have HH : Hid ((∀ j u, (zs.map (fun x : Nat => Value.int .i64 (x : Int)))[j]? = some u → w7.cell? ((⟨gu, 0, none⟩ : Addr).add j) = some u) ∧ (∀ u ∈ zs.map (fun x : Nat => Value.int .i64 (x : Int)), u.oneCell' = true)) := ⟨hcl, h1c⟩
    clear hk hcl h1c
    go_wp2_with (at_builtin; refine wpList_append_pureM (Q' := fun _ => False) rfl _ _ _ rfl w.heap.size 3 (.int .i64 0) 1 8 Tryz.underlying29 info_int rfl (by omega) (.slice (some ⟨w1.heap.size, 0, none⟩) 1 1) rfl 1 [.int .i64 (x : Int)] hF8 (fun _ _ _ _ _ h => h) ⟨gu, 0, none⟩ k cu (by omega) (by omega) rfl (zs.map (fun x : Nat => Value.int .i64 (x : Int))) hnl HH.out.1 HH.out.2 (by simp) (by simp) (by omega) (by omega) hsz7 ?_; intro gn cn w8 hO8 hg8 hat8 _ _; have BB8 : Below w.heap.size w w8 := below_grownB BB7 hg8 BB7.size (fun g h => (hF7.both g h).1); clear hg8 hat8)
    go_ret
    exact ⟨_, rfl, by rw [HWS.out]; exact int_app (zs := [x]) rfl HK.out hO8, BB8⟩
   ·have HO2 : nxt (t x) r = lr := HO.out
    rw [HO2] at HNX HWS
    clear HO HO2
    have IH := ih lr _ HNX.1 (by omega) ht hr
    obtain ⟨V_0, V_1, V_2, V_3, V_4, V_5, V_6, V_7, V_8, V_9, V_10, V_11, V_12, V_13⟩ := id VN
    have HMX : Hid (MayT (nr : Int) t n) := hm
    have HLN : Hid ((way t n r lr).length ≤ n + 1) := by have := hm.way_len r HNX.1; show _ ≤ _; omega
    have HNE : Hid (way t n r lr ≠ []) := way_ne _ _ _ _
    have HIH : Hid _ := IH
    clear IH ih hm HNX
    go_wp2_with fail
    refine Calls.mono HIH.out ?_
    rintro e w7 ⟨u, rfl, hU, b7⟩
    clear V_0 V_1 V_2 V_3 V_4 V_5 V_6 V_7 V_8 V_9 V_10 V_11 V_12 V_13
    have hF7 := hF.later b7
    have BB7 := BB.trans (b7.mono BB.size)
    have hU7 := hU.le BB.size
    clear HIH ht hr VN hF b7 hU
    generalize way t n r lr = zs at *
    have hl7 := HLN.out
    have hp7 : 1 ≤ zs.length := List.length_pos_iff.2 HNE.out
    obtain ⟨gu, cu, rfl, hcu⟩ := hU7.open (by omega)
    obtain ⟨k, hk⟩ : ∃ k, zs.length = k := ⟨_, rfl⟩
    have hcl : ∀ j u, (zs.map (fun x : Nat => Value.int .i64 (x : Int)))[j]? = some u → w7.cell? ((⟨gu, 0, none⟩ : Addr).add j) = some u := World.ownsRow.cells hU7 (g := gu) rfl
    have hnl : (zs.map (fun x : Nat => Value.int .i64 (x : Int))).length = k * 1 := by rw [List.length_map, hk, Nat.mul_one]
    have h1c : ∀ u ∈ zs.map (fun x : Nat => Value.int .i64 (x : Int)), u.oneCell' = true := by intro u hu; rw [List.mem_map] at hu; obtain ⟨y, _, rfl⟩ := hu; rfl
    have hsz7 := BB7.size
    have HK : Hid (zs.length = k) := hk
    rw [hk] at hl7 hp7 ⊢
    have hF8 : w7.ownsRow w.heap.size 3 1 (.slice (some ⟨w1.heap.size, 0, none⟩) 1 1) 1 [.int .i64 (x : Int)] := hF7
    have HH : Hid ((∀ j u, (zs.map (fun x : Nat => Value.int .i64 (x : Int)))[j]? = some u → w7.cell? ((⟨gu, 0, none⟩ : Addr).add j) = some u) ∧ (∀ u ∈ zs.map (fun x : Nat => Value.int .i64 (x : Int)), u.oneCell' = true)) := ⟨hcl, h1c⟩
    clear hk hcl h1c
    go_wp2_with (at_builtin; refine wpList_append_pureM (Q' := fun _ => False) rfl _ _ _ rfl w.heap.size 3 (.int .i64 0) 1 8 Tryz.underlying29 info_int rfl (by omega) (.slice (some ⟨w1.heap.size, 0, none⟩) 1 1) rfl 1 [.int .i64 (x : Int)] hF8 (fun _ _ _ _ _ h => h) ⟨gu, 0, none⟩ k cu (by omega) (by omega) rfl (zs.map (fun x : Nat => Value.int .i64 (x : Int))) hnl HH.out.1 HH.out.2 (by simp) (by simp) (by omega) (by omega) hsz7 ?_; intro gn cn w8 hO8 hg8 hat8 _ _; have BB8 : Below w.heap.size w w8 := below_grownB BB7 hg8 BB7.size (fun g h => (hF7.both g h).1); clear hg8 hat8)
    go_ret
    exact ⟨_, rfl, by rw [HWS.out]; exact int_app (zs := [x]) rfl HK.out hO8, BB8⟩
  ·have HW : Hid (way t n r x = [x]) := way_leaf hlf
   clear hlf ht hr r1 r2 r3 i1 i2 i3
   have hF := int_first W1 x w.heap.size BB.size
   rw [hS1] at hF
   have BB2 : Below w.heap.size w (W1.alloc (.cells #[.int .i64 (x : Int)] 3)) := BB.alloc BB.size _
   subst hW1
   go_wp2
   go_ret
   exact ⟨_, rfl, by rw [HW.out]; exact hF, BB2⟩
theorem lway_at (vt vr : Value) (n nr : Nat) (t : Nat → Nd) (r : Nat → Cl) (L : Nat) (w : World) (ht : TRow w vt n t L) (hr : CRow w vr nr r L) (hL : 1 ≤ L) (hM : L ≤ 30000) (hm : MayT (nr : Int) t n) :
  Calls Tryz.prog 14 #[vt, .int .i64 0, vr] w fun e w' => ∃ u, e = .returned u ∧ IntOwn w.heap.size w' u (way t n r 0) ∧ Below w.heap.size w w' :=
 lway_ind vt vr n nr t r L hL hM hm (n + 1) 0 w (by have := hm.pos; omega) (by omega) ht hr

/-- An array of k numbers of which the first i are told. -/
def VArr (w : World) (g k i : Nat) (q : Nat → Rat) : Prop := ∃ el, Arr3 w g k el ∧ ∀ j, j < i → RepQ w (elv el j) (q j)
theorem VArr.below {w w' : World} {g k i : Nat} {q : Nat → Rat} (h : VArr w g k i q) (hb : Below w.heap.size w w') : VArr w' g k i q := let ⟨el, a, b⟩ := h; ⟨el, a.below hb, fun j hj => (b j hj).below hb⟩
theorem VArr.put {w : World} {g k i : Nat} {q : Nat → Rat} (h : VArr w g k i q) (hi : i < k) {p : Bool} {a b : Option Addr} {n c m d : Nat} (hr : RepQ w (.agg #[.bool p, .slice a n c, .slice b m d]) (q i)) : ∃ u0 u1 u2, w.cell? ⟨g, i * 3, none⟩ = some u0 ∧ w.cell? ⟨g, i * 3 + 1, none⟩ = some u1 ∧ w.cell? ⟨g, i * 3 + 2, none⟩ = some u2 ∧ w.frozen? ⟨g, i * 3, none⟩ = false ∧ w.frozen? ⟨g, i * 3 + 1, none⟩ = false ∧ w.frozen? ⟨g, i * 3 + 2, none⟩ = false ∧
  VArr (((w.setCell ⟨g, i * 3, none⟩ (.bool p)).setCell ⟨g, i * 3 + 1, none⟩ (.slice a n c)).setCell ⟨g, i * 3 + 2, none⟩ (.slice b m d)) g k (i + 1) q := by
 obtain ⟨el, A, R⟩ := h
 obtain ⟨A2, K2⟩ := A.set i hi (.bool p) (.slice a n c) (.slice b m d) (num_bool _) (num_slice _ _ _) (num_slice _ _ _)
 refine ⟨_, _, _, A.1 i hi 0 (by omega), A.1 i hi 1 (by omega), A.1 i hi 2 (by omega), A.2.1 i hi 0 (by omega), A.2.1 i hi 1 (by omega), A.2.1 i hi 2 (by omega), _, A2, fun j hj => ?_⟩
 by_cases e : j = i
 ·subst e
  have := hr.keep K2
  simpa [elv, upd3] using this
 ·have := (R j (by omega)).keep K2
  simp only [elv, upd3_other el i j _ _ _ e] at *
  exact this
theorem VArr.row {w : World} {g k : Nat} {q : Nat → Rat} (h : VArr w g k k q) (hk : k ≤ 100000) : FRow w (.slice (some ⟨g, 0, none⟩) k k) k q :=
 let ⟨el, a, b⟩ := h; ⟨el, a.row k k (Nat.le_refl _) (Nat.le_refl _) (by omega), b⟩
noncomputable def whyI (F : Int) (k : Nat) (N : Nat → Nat) (T : Nat → Nat → Nd) (nr : Nat) : Int := if mayB F k N T = true then (if (nr : Int) = F then 0 else 14) else 1
theorem whyI_no {F : Int} {k : Nat} {N : Nat → Nat} {T : Nat → Nat → Nd} {nr : Nat} (h : mayB F k N T = false) : whyI F k N T nr = 1 := by unfold whyI; rw [h]; rfl
theorem whyI_len {F : Int} {k : Nat} {N : Nat → Nat} {T : Nat → Nat → Nd} {nr : Nat} (h : mayB F k N T = true) (h2 : ¬ (nr : Int) = F) : whyI F k N T nr = 14 := by unfold whyI; rw [if_pos h, if_neg h2]
theorem whyI_yes {F : Int} {k : Nat} {N : Nat → Nat} {T : Nat → Nat → Nd} {nr : Nat} (h : mayB F k N T = true) (h2 : (nr : Int) = F) : whyI F k N T nr = 0 := by unfold whyI; rw [if_pos h, if_pos h2]
theorem leafV_sz {w : World} {v : Value} {k : Nat} {N : Nat → Nat} {T : Nat → Nat → Nd} {L : Nat} {F : Int} (h : MRow w v k N T L) (hL : 1 ≤ L) (hm : ∀ i, i < k → MayT F (T i) (N i)) (r : Nat → Cl) : ∀ i, i < k → qsz (leafV T N r i) ≤ L := by
 intro i hi
 obtain ⟨b, off, c, a, d, _, _, _, TR⟩ := h.at hi
 have hp := (hm i hi).pos
 have hw := (hm i hi).wlast_is r (x := 0) (by omega)
 obtain ⟨_, _, _, _, _, _, _, _, _, _, _, _, _, _, _, _, _, _, _, _, _, _, _, _, _, _, _, _, _, r2, _⟩ := TR.at hw.1
 exact r2.qsz hL


set_option maxRecDepth 20000 in
set_option maxHeartbeats 2000000 in
theorem rlength_at (F : Int) (a ar : Option Addr) (k c nr cr : Nat) (w : World) :
  Calls Tryz.prog 45 #[.agg #[.int .i64 F, .slice a k c], .slice ar nr cr] w fun e w' => e = .returned (.int .i64 (if (nr : Int) = F then 0 else 14)) ∧ Below w.heap.size w w' := by
 have hA : Below w.heap.size w (w.alloc (.cells #[.int .i64 F, .slice a k c] 27)) := (Below.refl _ _).alloc (Nat.le_refl _) _
 by_cases h : (nr : Int) = F
 ·rw [if_pos h]
  have g2 : ((nr : Int) != F) = false := by simpa using h
  have g3 : decide ((nr : Int) = F) = true := decide_eq_true h
  go_enter Tryz.func45, Tryz.ntmps45
  go_wp2
  go_ret
  exact ⟨rfl, hA⟩
 ·rw [if_neg h]
  have g2 : ((nr : Int) != F) = true := by simpa using h
  have g3 : decide ((nr : Int) = F) = false := decide_eq_false h
  go_enter Tryz.func45, Tryz.ntmps45
  go_wp2
  go_ret
  exact ⟨rfl, hA⟩


set_option maxRecDepth 100000 in
set_option maxHeartbeats 4000000 in
theorem rfits_at (F : Int) (vm vr : Value) (k nr : Nat) (N : Nat → Nat) (T : Nat → Nat → Nd) (r : Nat → Cl) (L : Nat) (w : World) (hM : MRow w vm k N T L) (hR : CRow w vr nr r L) (hT : Tab w) (hL : 1 ≤ L) (hLM : L ≤ 30000) :
  Calls Tryz.prog 18 #[.agg #[.int .i64 F, vm], vr] w fun e w' => e = .returned (.int .i64 (whyI F k N T nr)) ∧ Below w.heap.size w w' := by
 obtain ⟨ao, c, rfl, hnc, hc63⟩ := hM.open
 obtain ⟨ar, cr, rfl, hrc, hr63⟩ := hR.open
 obtain ⟨W0, hW0, hS0, hL0, VM⟩ := V2.lay w 27 (.int .i64 F) (.slice ao k c)
 have BB : Below w.heap.size w W0 := hL0
 have hM1 := hM.below hL0
 have hT1 := hT.below hL0
 clear hL0
 go_enter Tryz.func18, Tryz.ntmps18
 obtain ⟨VM_0, VM_1, VM_2, VM_3⟩ := id VM
 rw [hW0] at VM_0 VM_1 VM_2 VM_3
 go_wp2_with fail
 clear VM_0 VM_1 VM_2 VM_3
 rw [← hW0]
 clear hW0 hS0
 refine (ok_may F _ k N T L _ hM1 hT1 hL hLM).mono ?_
 rintro e w1 ⟨rfl, b1⟩
 replace VM := VM.below b1
 replace BB := BB.trans (b1.mono BB.size)
 clear b1 hM1 hT1
 obtain ⟨VM_0, VM_1, VM_2, VM_3⟩ := id VM
 obtain ⟨mb, hmb⟩ : ∃ mb, mayB F k N T = mb := ⟨_, rfl⟩
 rw [hmb]
 have HB : Hid (mayB F k N T = mb) := hmb
 clear hmb
 cases mb
 ·go_wp2
  go_ret
  exact ⟨by rw [whyI_no HB.out]; rfl, BB⟩
 ·go_wp2_with fail
  refine (rlength_at F _ _ k c nr cr _).mono ?_
  rintro e w2 ⟨rfl, b2⟩
  replace BB := BB.trans (b2.mono BB.size)
  clear b2
  have HW : Hid (whyI F k N T nr = if (nr : Int) = F then 0 else 14) := by show whyI _ _ _ _ _ = _; unfold whyI; rw [if_pos HB.out]
  generalize (if (nr : Int) = F then (0 : Int) else 14) = x at *
  go_wp2
  go_ret
  exact ⟨by rw [HW.out]; rfl, BB⟩


set_option maxRecDepth 100000 in
set_option maxHeartbeats 4000000 in
theorem lwhy_at (F : Int) (vm vr : Value) (k nr : Nat) (N : Nat → Nat) (T : Nat → Nat → Nd) (r : Nat → Cl) (L : Nat) (w : World) (hM : MRow w vm k N T L) (hR : CRow w vr nr r L) (hT : Tab w) (hL : 1 ≤ L) (hLM : L ≤ 30000) :
  Calls Tryz.prog 17 #[.agg #[.int .i64 F, vm], vr] w fun e w' => e = .returned (.int .i64 (whyI F k N T nr)) ∧ Below w.heap.size w w' := by
 obtain ⟨ao, c, rfl, hnc, hc63⟩ := hM.open
 obtain ⟨ar, cr, rfl, hrc, hr63⟩ := hR.open
 obtain ⟨W0, hW0, hS0, hL0, VM⟩ := V2.lay w 27 (.int .i64 F) (.slice ao k c)
 have BB : Below w.heap.size w W0 := hL0
 have hM1 := hM.below hL0
 have hT1 := hT.below hL0
 clear hL0
 go_enter Tryz.func17, Tryz.ntmps17
 obtain ⟨VM_0, VM_1, VM_2, VM_3⟩ := id VM
 rw [hW0] at VM_0 VM_1 VM_2 VM_3
 go_wp2_with fail
 clear VM_0 VM_1 VM_2 VM_3
 rw [← hW0]
 clear hW0 hS0
 refine (ok_may F _ k N T L _ hM1 hT1 hL hLM).mono ?_
 rintro e w1 ⟨rfl, b1⟩
 replace VM := VM.below b1
 replace BB := BB.trans (b1.mono BB.size)
 clear b1 hM1 hT1
 obtain ⟨VM_0, VM_1, VM_2, VM_3⟩ := id VM
 obtain ⟨mb, hmb⟩ : ∃ mb, mayB F k N T = mb := ⟨_, rfl⟩
 rw [hmb]
 have HB : Hid (mayB F k N T = mb) := hmb
 clear hmb
 cases mb
 ·go_wp2
  go_ret
  exact ⟨by rw [whyI_no HB.out]; rfl, BB⟩
 ·by_cases h : (nr : Int) = F
  ·have g2 : ((nr : Int) != F) = false := by simpa using h
   have g3 : decide ((nr : Int) = F) = true := decide_eq_true h
   have HH : Hid ((nr : Int) = F) := h
   clear h
   go_wp2
   go_ret
   exact ⟨by rw [whyI_yes HB.out HH.out]; rfl, BB⟩
  ·have g2 : ((nr : Int) != F) = true := by simpa using h
   have g3 : decide ((nr : Int) = F) = false := decide_eq_false h
   have HH : Hid (¬ (nr : Int) = F) := h
   go_wp2
   go_ret
   exact ⟨by rw [whyI_len HB.out HH.out]; rfl, BB⟩


set_option maxRecDepth 100000 in
set_option maxHeartbeats 16000000 in
theorem rvalues_at (F : Int) (vm vr : Value) (k nr : Nat) (N : Nat → Nat) (T : Nat → Nat → Nd) (r : Nat → Cl) (L : Nat) (w : World) (hM : MRow w vm k N T L) (hR : CRow w vr nr r L) (hT : Tab w) (hL : 1 ≤ L) (hLM : L ≤ 30000) (hk : k ≤ 1000) (hm : ∀ i, i < k → MayT (nr : Int) (T i) (N i)) :
  Calls Tryz.prog 44 #[.agg #[.int .i64 F, vm], vr] w fun e w' => ∃ u, e = .returned u ∧ FRow w' u k (leafV T N r) ∧ Below w.heap.size w w' := by
 obtain ⟨ao, c, rfl, hnc, hc63⟩ := hM.open
 obtain ⟨ar, cr, rfl, hrc, hr63⟩ := hR.open
 obtain ⟨i0, hi, hz0, hz1, hz2⟩ := info_parts info_wrat
 obtain ⟨W0, hW0, hS0, hL0, VM⟩ := V2.lay w 27 (.int .i64 F) (.slice ao k c)
 have BB : Below w.heap.size w W0 := hL0
 clear hL0
 have HM0 : Hid (MRow w (.slice ao k c) k N T L) := hM
 have HR0 : Hid (CRow w (.slice ar nr cr) nr r L) := hR
 have HT0 : Hid (Tab w) := hT
 have HMY : Hid (∀ i, i < k → MayT (nr : Int) (T i) (N i)) := hm
 clear hM hR hT hm
 go_enter Tryz.func44, Tryz.ntmps44
 obtain ⟨VM_0, VM_1, VM_2, VM_3⟩ := id VM
 rw [hW0] at VM_0 VM_1 VM_2 VM_3
 have hGB : w.heap.size ≤ w.heap.size + 1 := by omega
 go_wp2_with (at_make; refine wpList_make_full _ rfl _ _ 47 rfl _ 44 i0 (.agg #[.bool false, .slice none 0 0, .slice none 0 0]) 3 Tryz.underlying47 hi hz0 hz1 _ _ _ _ k rfl rfl (by omega) (by omega) (by rw [hz2]; omega) (by unfold maxLen; omega) (Nat.le_refl _) ?_; intro w1 hown hgrow; rw [← hW0] at hown hgrow; have hb1 := below_grown hgrow; have A1 := arr3_made hown; have BB1 := BB.trans (hb1.mono BB.size); obtain ⟨q1, q2, q3, q4⟩ := VM.below hb1; clear VM_0 VM_1 VM_2 VM_3)
 rw [hS0] at A1
 have VA : VArr w1 (w.heap.size + 1) k 0 (leafV T N r) := ⟨_, A1, fun j hj => absurd hj (Nat.not_lt_zero _)⟩
 clear q1 q2 q3 q4 hown hgrow hb1 A1 VM BB hi hz0 hz1 hz2 hW0 hS0
 generalize w.heap.size + 1 = G at *
 go_loopw [16] (fun vi wr => ∃ i : Nat, i ≤ k ∧ vi = .int .i64 (i : Int) ∧ VArr wr G k i (leafV T N r) ∧ Below w.heap.size w wr) (fun vi _ => k - (intOf vi).toNat)
 case atStart => exact ⟨0, by omega, rfl, VA, BB1⟩
 case round =>
  clear VA BB1
  obtain ⟨i, hi, rfl, VA, BB⟩ := hrel
  by_cases hlt : i < k
  ·have g1 : (i : Int) < (k : Int) := by omega
   have g0 : (0 : Int) ≤ (i : Int) := by omega
   obtain ⟨b, off, cc, a, d, hvv, hcc, XC0, TR0⟩ := HM0.out.at hlt
   cases hvv
   have XC : wr.cell? ⟨b, off + i, none⟩ = some (.slice a (N i) d) := (BB.cell (p := ⟨b, off + i, none⟩) (World.block_lt_of_cell? _ _ XC0)).trans XC0
   have HMT : Hid (MayT (nr : Int) (T i) (N i)) := HMY.out i hlt
   have HTR : Hid (TRow w (.slice a (N i) d) (N i) (T i) L) := TR0
   have HLV : Hid (leafV T N r i = (T i (wlast (T i) (N i) r 0)).val) := rfl
   have HN1 : Hid (0 < N i) := HMT.out.pos
   generalize N i = n at *
   generalize T i = t at *
   clear XC0 TR0
   go_wp2
   clear XC
   go_loopw [8] (fun va w2 => ∃ x : Nat, va = .int .i64 (x : Int) ∧ x < n ∧ Hid (wlast t n r x = wlast t n r 0) ∧ VArr w2 G k i (leafV T N r) ∧ Below w.heap.size w w2) (fun va _ => n + 1 - lvl t n (intOf va).toNat)
   case atStart => exact ⟨0, rfl, HN1.out, rfl, VA, BB⟩
   case round =>
    clear VA BB
    obtain ⟨x, rfl, hx, HWL, VA, BB⟩ := hrel
    have f0 : (0 : Int) ≤ (x : Int) := by omega
    have f1 : (x : Int) < (n : Int) := by omega
    obtain ⟨b9, off9, cc9, p1, a1, n1, c1, b1, m1, d1, p2, a2, n2, c2, b2, m2, d2, p3, a3, n3, c3, b3, m3, d3, hvv, hcc9, hc6, NN, r1, r2, r3, i1, i2, i3⟩ := (HTR.out.below BB).at hx
    cases hvv
    obtain ⟨lf, hlf⟩ : ∃ z, (t x).leaf = z := ⟨_, rfl⟩
    cases lf
    ·have HNM := HMT.out.named x hx hlf
     have HF := HMT.out.feat x hx hlf
     have hrw := HR0.out.below BB
     have HW2 : Hid (wlast t n r (nxt (t x) r) = wlast t n r 0) := by
      show wlast _ _ _ _ = _
      rw [← HMT.out.wlast_split r hx hlf]
      exact HWL.out
     have HLV2 : Hid (lvl t n (nxt (t x) r) = lvl t n x + 1) := (HMT.out.nxt hx hlf r).2
     have hnx : nxt (t x) r < n := (HMT.out.nxt hx hlf r).1
     have HLX : Hid (lvl t n x ≤ n) := HMT.out.lvl_le hx
     have HCH : Hid (∀ w', RatAt w' (.agg #[.bool p1, .slice a1 n1 c1, .slice b1 m1 d1]) (t x).cut L → CRow w' (.slice ar nr cr) nr r L → Calls Tryz.prog 39 #[.agg #[.bool false, .int .i64 (t x).feat, .bool p1, .slice a1 n1 c1, .slice b1 m1 d1, .int .i64 (t x).left, .int .i64 (t x).right, .bool (t x).miss, .bool p2, .slice a2 n2 c2, .slice b2 m2 d2, .bool p3, .slice a3 n3 c3, .slice b3 m3 d3], .slice ar nr cr] w' fun e w'' => e = .returned (.int .i64 (nxt (t x) r : Int)) ∧ Below w'.heap.size w' w'') := fun w' h1 h2 => by
      have := child_at (t x) r _ nr p1 p2 p3 a1 b1 a2 b2 a3 b3 n1 c1 m1 d1 n2 c2 m2 d2 n3 c3 m3 d3 L w' h1 h2 HF (by omega) (by omega) hL (by omega)
      rw [hlf] at this
      exact this
     rw [hlf] at NN
     clear hlf HNM HF HWL
     obtain ⟨N_0, N_1, N_2, N_3, N_4, N_5, N_6, N_7, N_8, N_9, N_10, N_11, N_12, N_13⟩ := NN
     go_wp2_with fail
     refine (HCH.out _ r1 hrw).mono ?_
     rintro e w2 ⟨rfl, b9⟩
     replace VA := VA.below b9
     replace BB := BB.trans (b9.mono BB.size)
     clear N_0 N_1 N_2 N_3 N_4 N_5 N_6 N_7 N_8 N_9 N_10 N_11 N_12 N_13 HCH hrw r1 r2 r3 i1 i2 i3 b9
     generalize nxt (t x) r = y at *
     go_wp2
     go_roundw
     case rel => exact ⟨y, rfl, hnx, HW2, VA, BB⟩
     case measure =>
      have h1 := HLV2.out
      have h2 := HLX.out
      simp [intOf]
      omega
    ·have HV : Hid (leafV T N r i = (t x).val) := by
      show leafV _ _ _ _ = _
      rw [HLV.out, ← HWL.out, wlast_leaf hlf]
     rw [hlf] at NN
     have ht := HT0.out.below BB
     clear hlf HWL r1 r3 i1 i2 i3
     obtain ⟨N_0, N_1, N_2, N_3, N_4, N_5, N_6, N_7, N_8, N_9, N_10, N_11, N_12, N_13⟩ := NN
     go_wp2_with fail
     refine (qclean_at _ (t x).val L _ r2 hL (by omega) ht).mono ?_
     rintro e w3 ⟨u, rfl, hq, b9⟩
     replace VA := VA.below b9
     replace BB := BB.trans (b9.mono BB.size)
     obtain ⟨p5, a5, n5, c5, b5, m5, d5, rfl⟩ := hq.open
     rw [← HV.out] at hq
     clear N_0 N_1 N_2 N_3 N_4 N_5 N_6 N_7 N_8 N_9 N_10 N_11 N_12 N_13 r2 ht b9 HV
     obtain ⟨u0, u1, u2, x0, x1, x2, y0, y1, y2, VA2⟩ := VA.put hlt hq
     have BB2 : Below w.heap.size w (((w3.setCell ⟨G, i * 3, none⟩ (.bool p5)).setCell ⟨G, i * 3 + 1, none⟩ (.slice a5 n5 c5)).setCell ⟨G, i * 3 + 2, none⟩ (.slice b5 m5 d5)) := ((BB.setCell hGB _).setCell hGB _).setCell hGB _
     go_wp2
     go_roundw
     case rel => exact ⟨i + 1, by omega, by go_num, VA2, BB2⟩
     case measure => simp [intOf]; omega
  ·obtain rfl : i = k := by omega
   have g1 : ¬ (i : Int) < (i : Int) := by omega
   go_wp2
   go_ret
   exact ⟨_, rfl, VA.row (by omega), BB⟩

set_option maxRecDepth 100000 in
set_option maxHeartbeats 4000000 in
theorem rpredict_yes (F : Int) (vm vr : Value) (k nr : Nat) (N : Nat → Nat) (T : Nat → Nat → Nd) (r : Nat → Cl) (L : Nat) (w : World) (hM : MRow w vm k N T L) (hR : CRow w vr nr r L) (hT : Tab w) (hL : 1 ≤ L) (hLM : L ≤ 30000) (hw : whyI F k N T nr = 0) (hk : k ≤ 1000) (hm : ∀ i, i < k → MayT (nr : Int) (T i) (N i)) (hMX : k * (L + 1) + L ≤ 100000) :
  Calls Tryz.prog 15 #[.agg #[.int .i64 F, vm], vr] w fun e w' => ∃ x, e = .returned (.tuple #[x, .int .i64 0]) ∧ RepQ w' x (sumq (leafV T N r) k) ∧ Below w.heap.size w w' := by
 obtain ⟨ao, c, rfl, hnc, hc63⟩ := hM.open
 obtain ⟨ar, cr, rfl, hrc, hr63⟩ := hR.open
 obtain ⟨W0, hW0, hS0, hL0, VM⟩ := V2.lay w 27 (.int .i64 F) (.slice ao k c)
 have BB : Below w.heap.size w W0 := hL0
 obtain ⟨W1, hW1, hS1, hL1, VR⟩ := V3.lay W0 44 (.bool false) (.slice none 0 0) (.slice none 0 0)
 rw [hS0] at VR
 replace VM := VM.below hL1
 replace BB := BB.trans (hL1.mono BB.size)
 have hM1 := (hM.below hL0).below hL1
 have hR1 := (hR.below hL0).below hL1
 have hT1 := (hT.below hL0).below hL1
 clear hL0 hL1
 go_enter Tryz.func15, Tryz.ntmps15
 obtain ⟨VM_0, VM_1, VM_2, VM_3⟩ := id VM
 rw [hW1, hW0] at VM_0 VM_1 VM_2 VM_3
 go_wp2_with fail
 clear VM_0 VM_1 VM_2 VM_3
 rw [← hW0, ← hW1]
 clear hW0 hW1 hS0 hS1
 refine (rfits_at F _ _ k nr N T r L _ hM1 hR1 hT1 hL hLM).mono ?_
 rintro e w1 ⟨rfl, b1⟩
 replace VM := VM.below b1
 replace VR := VR.below b1
 replace hM1 := hM1.below b1
 replace hR1 := hR1.below b1
 replace hT1 := hT1.below b1
 replace BB := BB.trans (b1.mono BB.size)
 clear b1
 obtain ⟨VM_0, VM_1, VM_2, VM_3⟩ := id VM
 rw [hw]
 go_wp2_with fail
 clear VM_0 VM_1 VM_2 VM_3
 refine (rvalues_at F _ _ k nr N T r L _ hM1 hR1 hT1 hL hLM hk hm).mono ?_
 rintro e w2 ⟨u, rfl, hF, b2⟩
 replace VM := VM.below b2
 replace VR := VR.below b2
 replace hT1 := hT1.below b2
 replace BB := BB.trans (b2.mono BB.size)
 clear b2
 have hq := hF.q L (leafV_sz hM hL hm r)
 obtain ⟨au, cu, rfl⟩ := hF.open
 go_wp2_with fail
 refine (qsum_any L (k * (L + 1) + L) hL (by omega) hMX k _ _ _ hq hT1 (by omega)).mono ?_
 rintro e w3 ⟨s, rfl, hs, b3⟩
 replace VR := VR.below b3
 replace BB := BB.trans (b3.mono BB.size)
 clear b3
 obtain ⟨p5, a5, n5, c5, b5, m5, d5, rfl⟩ := hs.open
 have hKp := VR.keepJ (.bool p5) (.slice a5 n5 c5) (.slice b5 m5 d5)
 have hs_n := hs.keep hKp
 have BB_n := below_store3 (R := w.heap.size + 1) BB (by omega) (.bool p5) (.slice a5 n5 c5) (.slice b5 m5 d5)
 obtain ⟨z1, z2, z3, z4, z5, z6⟩ := id VR
 clear hKp
 go_wp2
 (try simp only [Exit.inBlock, Exit.then])
 refine bodyPost_ret (v := .tuple #[.agg #[.bool p5, .slice a5 n5 c5, .slice b5 m5 d5], .int .i64 0]) (by simp [results, go_sem, z1, z2, z3]) rfl ?_
 exact ⟨_, rfl, hs_n, BB_n⟩



structure Cel10 (w : World) (b o : Nat) (x : Value) : Prop where
 cell : w.cell? ⟨b, o, none⟩ = some x
theorem Cel10.lt {w : World} {b o : Nat} {x : Value} (h : Cel10 w b o x) : b < w.heap.size := World.block_lt_of_cell? _ _ h.cell
theorem Cel10.below {w w' : World} {b o : Nat} {x : Value} (h : Cel10 w b o x) (hb : Below w.heap.size w w') : Cel10 w' b o x := ⟨(hb.cell (p := ⟨b, o, none⟩) h.lt).trans h.cell⟩
theorem Cel10.from {B : Nat} {w w' : World} {b o : Nat} {x : Value} (h : w.cell? ⟨b, o, none⟩ = some x) (hb : Below w.heap.size w w') : Cel10 w' b o x := ⟨(hb.cell (p := ⟨b, o, none⟩) (World.block_lt_of_cell? _ _ h)).trans h⟩
theorem Cel10.other3 {w : World} {b o R : Nat} {x : Value} (h : Cel10 w b o x) (hne : b ≠ R) (u0 u1 u2 : Value) : Cel10 (((w.setCell ⟨R, 0, none⟩ u0).setCell ⟨R, 1, none⟩ u1).setCell ⟨R, 2, none⟩ u2) b o x :=
 ⟨by rw [World.cell?_setCell_other _ _ _ _ (fun e => by injection e; omega), World.cell?_setCell_other _ _ _ _ (fun e => by injection e; omega), World.cell?_setCell_other _ _ _ _ (fun e => by injection e; omega)]; exact h.cell⟩
theorem int_lastcell {B : Nat} {w : World} {v : Value} {zs : List Nat} (h : IntOwn B w v zs) (hne : zs ≠ []) : ∃ g c k, v = .slice (some ⟨g, 0, none⟩) (k + 1) c ∧ B ≤ g ∧ k + 1 = zs.length ∧ w.cell? ⟨g, k, none⟩ = some (.int .i64 ((zs.getLastD 0 : Nat) : Int)) := by
 obtain ⟨g, c, rfl, hc⟩ := h.open (List.length_pos_iff.2 hne)
 rcases List.eq_nil_or_concat zs with rfl | ⟨ws, i, rfl⟩
 ·exact absurd rfl hne
 rw [List.concat_eq_append] at *
 have hl : (ws ++ [i]).length = ws.length + 1 := by simp
 have := h.cell rfl (j := ws.length) (x := i) (by simp)
 refine ⟨g, c, ws.length, by rw [hl], (h.both g rfl).1, hl.symm, ?_⟩
 rw [this]
 simp


set_option maxRecDepth 100000 in
set_option maxHeartbeats 4000000 in
theorem is10_at (u v : Value) (q : Rat) (L M : Nat) (w : World) (hu : RepQ w u q) (hs : qsz q ≤ L) (hv : RatAt w v q M) (hM2 : 2 ≤ M) (hLM : L + M ≤ 890) :
  Calls Tryz.prog 19 #[u, v] w fun e w' => e = .returned (.bool true) ∧ Below w.heap.size w w' := by
 obtain ⟨pu, au, nu, cu, bu, mu, du, rfl⟩ := hu.open
 obtain ⟨pv, av, nv, cv, bv, mv, dv, rfl⟩ := hv.open
 have BB : Below w.heap.size w w := Below.refl _ _
 obtain ⟨Wb0, hW0, hS0, hL0, VU⟩ := V3.lay w 44 (.bool pu) (.slice au nu cu) (.slice bu mu du)
 replace hu := hu.below hL0
 replace hv := hv.below hL0
 replace BB := BB.trans (hL0.mono BB.size)
 clear hL0
 obtain ⟨Wb1, hW1, hS1, hL1, VV⟩ := V3.lay Wb0 44 (.bool pv) (.slice av nv cv) (.slice bv mv dv)
 rw [hS0] at VV hS1
 replace hu := hu.below hL1
 replace hv := hv.below hL1
 replace VU := VU.below hL1
 replace BB := BB.trans (hL1.mono BB.size)
 clear hL1
 go_enter Tryz.func19, Tryz.ntmps19
 go_wp2
 rw [← hW0]
 rw [← hW1]
 clear hW0 hW1 hS0 hS1
 have hDr : Below Wb1.heap.size Wb1 Wb1.drew := (Below.refl _ _).drew
 replace hu := hu.below hDr
 replace hv := hv.below hDr
 replace VU := VU.below hDr
 replace VV := VV.below hDr
 replace BB := BB.trans (hDr.mono BB.size)
 clear hDr
 refine wp_region_held_drew (S := (fun w' => w'.cell? ⟨w.heap.size, 0, none⟩ = some (.bool pu) ∧ w'.cell? ⟨w.heap.size, 1, none⟩ = some (.slice au nu cu) ∧ w'.cell? ⟨w.heap.size, 2, none⟩ = some (.slice bu mu du) ∧ w'.cell? ⟨w.heap.size + 1, 0, none⟩ = some (.bool pv) ∧ w'.cell? ⟨w.heap.size + 1, 1, none⟩ = some (.slice av nv cv) ∧ w'.cell? ⟨w.heap.size + 1, 2, none⟩ = some (.slice bv mv dv))) (by kernel_rfl) ?_ (fun hHeld => ?_)
 ·exact ⟨VU.1, VU.2.1, VU.2.2.1, VV.1, VV.2.1, VV.2.2.1⟩
 generalize Wb1.drew = W1 at *
 refine wpAnyH_take (i := 0) (v := ?_) (by simp only [xL1, xL2, xL3]; rfl) (by kernel_rfl) (by kernel_rfl) (by kernel_rfl) (by exact fun _ _ _ h => h) (Or.inl ⟨by rfl, ?_⟩) (by assumption) ?_
 rotate_left
 ·(intro w hSw; (try dsimp only at hSw); go_simp; (try with_reducible rfl))
 (try simp only [Act.put, xL4, xL5, xL6])
 refine wpAnyH_take (i := 1) (v := ?_) (by simp only [xL1, xL2, xL3]; rfl) (by kernel_rfl) (by kernel_rfl) (by kernel_rfl) (by exact fun _ _ _ h => h) (Or.inl ⟨by rfl, ?_⟩) (by assumption) ?_
 rotate_left
 ·(intro w hSw; (try dsimp only at hSw); go_simp; (try with_reducible rfl))
 (try simp only [Act.put, xL4, xL5, xL6])
 refine wpAnyH_ready (rs := [2]) (by kernel_rfl) (by simp) ?_
 refine AllReadyH.cons (by simp only [xL1, xL2, xL3]; rfl) (fun K hK => ?_) AllReadyH.nil
 go_simp
 refine (jfrom_at _ q M _ hv hM2 (by omega)).mono ?_
 rintro e w1 ⟨x1, rfl, j1, b1⟩
 go_wp2_with fail
 replace hu := hu.below b1
 replace hv := hv.below b1
 replace VU := VU.below b1
 replace VV := VV.below b1
 replace BB := BB.trans (b1.mono BB.size)
 clear b1
 refine hK.out _ _ ?_ (fun hH1 => ?_)
 ·exact ⟨VU.1, VU.2.1, VU.2.2.1, VV.1, VV.2.1, VV.2.2.1⟩
 clear hK K hHeld
 (try simp only [Act.put, xL4, xL5, xL6])
 refine wpAnyH_ready (rs := [3]) (by kernel_rfl) (by simp) ?_
 refine AllReadyH.cons (by simp only [xL1, xL2, xL3]; rfl) (fun K hK => ?_) AllReadyH.nil
 go_simp
 refine (jis_at _ _ q L M _ hu hs j1 hLM).mono ?_
 rintro e w2 ⟨rfl, b2⟩
 go_wp2_with fail
 replace hu := hu.below b2
 replace hv := hv.below b2
 replace j1 := j1.below b2
 replace VU := VU.below b2
 replace VV := VV.below b2
 replace BB := BB.trans (b2.mono BB.size)
 clear b2
 refine hK.out _ _ ?_ (fun hH2 => ?_)
 ·exact ⟨VU.1, VU.2.1, VU.2.2.1, VV.1, VV.2.1, VV.2.2.1⟩
 clear hK K hH1
 (try simp only [Act.put, xL4, xL5, xL6])
 refine wpAnyH_take (i := 4) (v := ?_) (by simp only [xL1, xL2, xL3]; rfl) (by kernel_rfl) (by kernel_rfl) (by kernel_rfl) (by exact fun _ _ _ h => h) (Or.inl ⟨by rfl, ?_⟩) (by assumption) ?_
 rotate_left
 ·(intro w hSw; (try dsimp only at hSw); go_simp; (try with_reducible rfl))
 (try simp only [Act.put, xL4, xL5, xL6])
 refine wpAnyH_done (by kernel_rfl) ?_ _
 clear hH2
 go_wp2
 go_ret
 exact ⟨rfl, BB⟩


set_option maxRecDepth 100000 in
set_option maxHeartbeats 16000000 in
theorem lpredict_at (F : Int) (vm vr : Value) (k nr : Nat) (N : Nat → Nat) (T : Nat → Nat → Nd) (r : Nat → Cl) (L : Nat) (w : World) (hM : MRow w vm k N T L) (hR : CRow w vr nr r L) (hT : Tab w) (hL : 1 ≤ L) (hLM : L ≤ 30000) (hk : k ≤ 1000) (hm : ∀ i, i < k → MayT (nr : Int) (T i) (N i)) (hMX : k * (L + 1) + 1 + L ≤ 100000) :
  Calls Tryz.prog 20 #[.agg #[.int .i64 F, vm], vr] w fun e w' => ∃ x, e = .returned x ∧ RepQ w' x (sumq (leafV T N r) k) ∧ Below w.heap.size w w' := by
 obtain ⟨ao, c, rfl, hnc, hc63⟩ := hM.open
 obtain ⟨ar, cr, rfl, hrc, hr63⟩ := hR.open
 have HSZ : Hid (∀ i, i ≤ k → qsz (sumq (leafV T N r) i) ≤ k * (L + 1) + 1) := fun i hi => by
  have h1 := qsz_sumq (leafV T N r) L i (fun j hj => leafV_sz hM hL hm r j (by omega))
  have h2 := Nat.mul_le_mul_right (L + 1) hi
  omega
 have HM0 : Hid (MRow w (.slice ao k c) k N T L) := hM
 have HR0 : Hid (CRow w (.slice ar nr cr) nr r L) := hR
 have HT0 : Hid (Tab w) := hT
 have HMY : Hid (∀ i, i < k → MayT (nr : Int) (T i) (N i)) := hm
 clear hM hR hT hm
 have BB : Below w.heap.size w w := Below.refl _ _
 obtain ⟨Wb0, hW0, hS0, hL0, VM⟩ := V2.lay w 27 (.int .i64 F) (.slice ao k c)
 replace BB := BB.trans (hL0.mono BB.size)
 clear hL0
 obtain ⟨Wb1, hW1, hS1, hL1, VR⟩ := V3.lay Wb0 44 (.bool false) (.slice none 0 0) (.slice none 0 0)
 rw [hS0] at VR hS1
 replace VM := VM.below hL1
 replace BB := BB.trans (hL1.mono BB.size)
 clear hL1
 go_enter Tryz.func20, Tryz.ntmps20
 go_wp2_with fail
 rw [← hW0]
 rw [← hW1]
 clear hW0 hW1 hS0 hS1
 refine (qzero_at _).mono ?_
 rintro e w1 ⟨v1, rfl, hs, b1⟩
 replace VM := VM.below b1
 replace VR := VR.below b1
 replace BB := BB.trans (b1.mono BB.size)
 clear b1
 obtain ⟨p0, a0, n0, c0, y0, m0, d0, rfl⟩ := hs.open
 have hZ1 : w.heap.size ≤ w1.heap.size := BB.size
 have hN1VM : w.heap.size ≠ w1.heap.size := Nat.ne_of_lt VM.lt
 have hN1VR : w.heap.size + 1 ≠ w1.heap.size := Nat.ne_of_lt VR.lt
 obtain ⟨W1, hW1, hS1, hL1, VS⟩ := V3.lay w1 44 (.bool p0) (.slice a0 n0 c0) (.slice y0 m0 d0)
 replace hs := hs.below hL1
 replace VM := VM.below hL1
 replace VR := VR.below hL1
 replace BB := BB.trans (hL1.mono BB.size)
 clear hL1
 obtain ⟨VM_0, VM_1, VM_2, VM_3⟩ := id VM
 obtain ⟨VS_0, VS_1, VS_2, VS_3, VS_4, VS_5⟩ := id VS
 rw [hW1] at VM_0 VM_1 VM_2 VM_3 VS_0 VS_1 VS_2 VS_3 VS_4 VS_5
 go_wp2_with fail
 clear VM_0 VM_1 VM_2 VM_3 VS_0 VS_1 VS_2 VS_3 VS_4 VS_5
 rw [← hW1]
 generalize w1.heap.size = R1 at *
 clear hW1 hS1
 have hs : RepQ W1 (.agg #[.bool p0, .slice a0 n0 c0, .slice y0 m0 d0]) (sumq (leafV T N r) 0) := hs
 go_loopw [6] (fun vi wr => ∃ (i : Nat) (p5 : Bool) (a5 : Option Addr) (n5 c5 : Nat) (y5 : Option Addr) (m5 d5 : Nat), i ≤ k ∧ vi = .int .i64 (i : Int) ∧ V3 wr R1 (.bool p5) (.slice a5 n5 c5) (.slice y5 m5 d5) ∧ RepQ wr (.agg #[.bool p5, .slice a5 n5 c5, .slice y5 m5 d5]) (sumq (leafV T N r) i) ∧ V2 wr w.heap.size (.int .i64 F) (.slice ao k c) ∧ V3 wr (w.heap.size + 1) (.bool false) (.slice none 0 0) (.slice none 0 0) ∧ Below w.heap.size w wr) (fun vi _ => k - (intOf vi).toNat)
 case atStart => exact ⟨0, _, _, _, _, _, _, _, by omega, rfl, VS, hs, VM, VR, BB⟩
 case round =>
  clear VS hs VM VR BB
  obtain ⟨i, p5, a5, n5, c5, y5, m5, d5, hi, rfl, VS, hs, VM, VR, BB⟩ := hrel
  by_cases hlt : i < k
  ·have g1 : (i : Int) < (k : Int) := by omega
   have g0 : (0 : Int) ≤ (i : Int) := by omega
   have wi : IntKind.i64.wrap ((i : Int) + 1) = (i : Int) + 1 := by rw [IntKind.wrap_i64]; omega
   obtain ⟨b, off, cc, a, d, hvv, hcc, XC0, TR0⟩ := HM0.out.at hlt
   have hbw : b < w.heap.size := World.block_lt_of_cell? _ _ XC0
   cases hvv
   have TC := Cel10.from (B := 0) XC0 BB
   have HMT : Hid (MayT (nr : Int) (T i) (N i)) := HMY.out i hlt
   have TR := TR0.below BB
   have HTR0 : Hid (TRow w (.slice a (N i) d) (N i) (T i) L) := TR0
   have CR := HR0.out.below BB
   have ht := HT0.out.below BB
   have HSI : Hid (sumq (leafV T N r) (i + 1) = sumq (leafV T N r) i + (T i (wlast (T i) (N i) r 0)).val) := rfl
   have HSZI : Hid (qsz (sumq (leafV T N r) i) ≤ k * (L + 1) + 1) := HSZ.out i hi
   have HWX := HMT.out.wlast_is r (x := 0) (by have := HMT.out.pos; omega)
   have HLN := HMT.out.way_len r (x := 0) (by have := HMT.out.pos; omega)
   have HNE := way_ne (T i) (N i) r 0
   have HWL : Hid (wlast (T i) (N i) r 0 = (way (T i) (N i) r 0).getLastD 0) := rfl
   have hn255 := HMT.out.few
   clear XC0 TR0
   have hRS : R1 < wr.heap.size := VS.lt
   have T1 := TC.cell
   obtain ⟨VM_0, VM_1, VM_2, VM_3⟩ := id VM
   go_wp2_with fail
   clear VM_0 VM_1 VM_2 VM_3
   clear T1
   refine (lway_at _ _ (N i) nr (T i) r L _ TR CR hL hLM HMT.out).mono ?_
   rintro e w2 ⟨vw, rfl, OW, b2⟩
   replace hs := hs.below b2
   replace TR := TR.below b2
   replace ht := ht.below b2
   replace VS := VS.below b2
   replace VM := VM.below b2
   replace VR := VR.below b2
   replace TC := TC.below b2
   replace BB := BB.trans (b2.mono BB.size)
   clear b2
   obtain ⟨gw, cw, kw, rfl, hgB, hkw, XW0⟩ := int_lastcell OW HNE
   rw [← HWL.out] at XW0
   have XW : Cel10 w2 gw kw _ := ⟨XW0⟩
   clear XW0 OW CR
   obtain ⟨xl, hxl⟩ : ∃ xl, wlast (T i) (N i) r 0 = xl := ⟨_, rfl⟩
   rw [hxl] at XW HWX HSI
   clear hxl HWL HNE
   have hxn : xl < N i := HWX.1
   obtain ⟨bn, ofn, cc, p1, a1, n1, c1, b1, m1, d1, p2, a2, n2, c2, b2, m2, d2, p3, a3, n3, c3, b3, m3, d3, hvv, hcc, hc6, NN, r1, r2, r3, i1, i2, i3⟩ := TR.at hxn
   cases hvv
   have Y8 : Cel10 w2 bn (ofn + xl * 14 + 8) (.bool p2) := ⟨NN.c8⟩
   have Y9 : Cel10 w2 bn (ofn + xl * 14 + 9) (.slice a2 n2 c2) := ⟨NN.c9⟩
   have Y10 : Cel10 w2 bn (ofn + xl * 14 + 10) (.slice b2 m2 d2) := ⟨NN.c10⟩
   have hbn : bn < w.heap.size := by
    obtain ⟨b8, o8, cc8, p1q, a1q, n1q, c1q, b1q, m1q, d1q, p2q, a2q, n2q, c2q, b2q, m2q, d2q, p3q, a3q, n3q, c3q, b3q, m3q, d3q, hv8, _, _, N8, _⟩ := HTR0.out.at hxn
    cases hv8
    exact World.block_lt_of_cell? _ _ N8.c0
   clear TR NN r1 r3 i1 i2 i3
   obtain ⟨k1, hk1⟩ : ∃ k1, k1 = kw + 1 := ⟨_, rfl⟩
   rw [← hk1]
   have f2 : (k1 : Int) - 1 = (kw : Int) := by omega
   have f3 : (0 : Int) ≤ (kw : Int) := by omega
   have f4 : (kw : Int) < (k1 : Int) := by omega
   have f0 : IntKind.i64.wrap (kw : Int) = (kw : Int) := by rw [IntKind.wrap_i64]; omega
   have f5 : (0 : Int) ≤ (xl : Int) := by omega
   have f6 : (xl : Int) < (N i : Int) := by omega
   clear hk1
   go_wp2
   have hDr : Below w2.heap.size w2 w2.drew := (Below.refl _ _).drew
   replace hs := hs.below hDr
   replace ht := ht.below hDr
   replace r2 := r2.below hDr
   replace VS := VS.below hDr
   replace VM := VM.below hDr
   replace VR := VR.below hDr
   replace TC := TC.below hDr
   replace XW := XW.below hDr
   replace Y8 := Y8.below hDr
   replace Y9 := Y9.below hDr
   replace Y10 := Y10.below hDr
   replace BB := BB.trans (hDr.mono BB.size)
   clear hDr
   refine wp_region_held_drew (S := (fun w' => w'.cell? ⟨w.heap.size, 0, none⟩ = some (.int .i64 F) ∧ w'.cell? ⟨w.heap.size, 1, none⟩ = some (.slice (some ⟨b, off, none⟩) k c) ∧ w'.cell? ⟨b, off + i, none⟩ = some (.slice (some ⟨bn, ofn, none⟩) (N i) d) ∧ w'.cell? ⟨gw, kw, none⟩ = some (.int .i64 (xl : Int)) ∧ w'.cell? ⟨bn, ofn + xl * 14 + 8, none⟩ = some (.bool p2) ∧ w'.cell? ⟨bn, ofn + xl * 14 + 8 + 1, none⟩ = some (.slice a2 n2 c2) ∧ w'.cell? ⟨bn, ofn + xl * 14 + 8 + 2, none⟩ = some (.slice b2 m2 d2))) (by kernel_rfl) ?_ (fun hHeld => ?_)
   ·exact ⟨VM.1, VM.2.1, TC.cell, XW.cell, Y8.cell, Y9.cell, Y10.cell⟩
   generalize w2.drew = W22 at *
   refine wpAnyH_take (i := 1) (v := ?_) (by simp only [xL1, xL2, xL3]; rfl) (by kernel_rfl) (by kernel_rfl) (by kernel_rfl) (by exact fun _ _ _ h => h) (Or.inl ⟨by rfl, ?_⟩) (by assumption) ?_
   rotate_left
   ·(intro w hSw; (try dsimp only at hSw); go_simp; (try with_reducible rfl))
   (try simp only [Act.put, xL4, xL5, xL6])
   refine wpAnyH_take (i := 2) (v := ?_) (by simp only [xL1, xL2, xL3]; rfl) (by kernel_rfl) (by kernel_rfl) (by kernel_rfl) (by exact fun _ _ _ h => h) (Or.inl ⟨by rfl, ?_⟩) (by assumption) ?_
   rotate_left
   ·(intro w hSw; (try dsimp only at hSw); go_simp; (try with_reducible rfl))
   (try simp only [Act.put, xL4, xL5, xL6])
   refine wpAnyH_take (i := 3) (v := ?_) (by simp only [xL1, xL2, xL3]; rfl) (by kernel_rfl) (by kernel_rfl) (by kernel_rfl) (by exact fun _ _ _ h => h) (Or.inl ⟨by rfl, ?_⟩) (by assumption) ?_
   rotate_left
   ·(intro w hSw; (try dsimp only at hSw); go_simp; (try with_reducible rfl))
   (try simp only [Act.put, xL4, xL5, xL6])
   refine wpAnyH_take (i := 4) (v := ?_) (by simp only [xL1, xL2, xL3]; rfl) (by kernel_rfl) (by kernel_rfl) (by kernel_rfl) (by exact fun _ _ _ h => h) (Or.inl ⟨by rfl, ?_⟩) (by assumption) ?_
   rotate_left
   ·(intro w hSw; (try dsimp only at hSw); go_simp; (try with_reducible rfl))
   (try simp only [Act.put, xL4, xL5, xL6])
   refine wpAnyH_take (i := 5) (v := ?_) (by simp only [xL1, xL2, xL3]; rfl) (by kernel_rfl) (by kernel_rfl) (by kernel_rfl) (by exact fun _ _ _ h => h) (Or.inl ⟨by rfl, ?_⟩) (by assumption) ?_
   rotate_left
   ·(intro w hSw; (try dsimp only at hSw); go_simp; (try with_reducible rfl))
   (try simp only [Act.put, xL4, xL5, xL6])
   refine wpAnyH_take (i := 6) (v := ?_) (by simp only [xL1, xL2, xL3]; rfl) (by kernel_rfl) (by kernel_rfl) (by kernel_rfl) (by exact fun _ _ _ h => h) (Or.inl ⟨by rfl, ?_⟩) (by assumption) ?_
   rotate_left
   ·(intro w hSw; (try dsimp only at hSw); go_simp; (try with_reducible rfl))
   (try simp only [Act.put, xL4, xL5, xL6])
   refine wpAnyH_take (i := 7) (v := ?_) (by simp only [xL1, xL2, xL3]; rfl) (by kernel_rfl) (by kernel_rfl) (by kernel_rfl) (by exact fun _ _ _ h => h) (Or.inl ⟨by rfl, ?_⟩) (by assumption) ?_
   rotate_left
   ·(intro w hSw; (try dsimp only at hSw); go_simp; (try with_reducible rfl))
   (try simp only [Act.put, xL4, xL5, xL6])
   refine wpAnyH_take (i := 8) (v := ?_) (by simp only [xL1, xL2, xL3]; rfl) (by kernel_rfl) (by kernel_rfl) (by kernel_rfl) (by exact fun _ _ _ h => h) (Or.inl ⟨by rfl, ?_⟩) (by assumption) ?_
   rotate_left
   ·(intro w hSw; (try dsimp only at hSw); go_simp; (try with_reducible rfl))
   (try simp only [Act.put, xL4, xL5, xL6])
   refine wpAnyH_take (i := 9) (v := ?_) (by simp only [xL1, xL2, xL3]; rfl) (by kernel_rfl) (by kernel_rfl) (by kernel_rfl) (by exact fun _ _ _ h => h) (Or.inl ⟨by rfl, ?_⟩) (by assumption) ?_
   rotate_left
   ·(intro w hSw; (try dsimp only at hSw); go_simp; (try with_reducible rfl))
   (try simp only [Act.put, xL4, xL5, xL6])
   refine wpAnyH_take (i := 10) (v := ?_) (by simp only [xL1, xL2, xL3]; rfl) (by kernel_rfl) (by kernel_rfl) (by kernel_rfl) (by exact fun _ _ _ h => h) (Or.inl ⟨by rfl, ?_⟩) (by assumption) ?_
   rotate_left
   ·(intro w hSw; (try dsimp only at hSw); go_simp; (try with_reducible rfl))
   (try simp only [Act.put, xL4, xL5, xL6])
   refine wpAnyH_take (i := 11) (v := ?_) (by simp only [xL1, xL2, xL3]; rfl) (by kernel_rfl) (by kernel_rfl) (by kernel_rfl) (by exact fun _ _ _ h => h) (Or.inl ⟨by rfl, ?_⟩) (by assumption) ?_
   rotate_left
   ·(intro w hSw; (try dsimp only at hSw); go_simp; (try with_reducible rfl))
   (try simp only [Act.put, xL4, xL5, xL6])
   refine wpAnyH_take (i := 12) (v := ?_) (by simp only [xL1, xL2, xL3]; rfl) (by kernel_rfl) (by kernel_rfl) (by kernel_rfl) (by exact fun _ _ _ h => h) (Or.inl ⟨by rfl, ?_⟩) (by assumption) ?_
   rotate_left
   ·(intro w hSw; (try dsimp only at hSw); go_simp; (try with_reducible rfl))
   (try simp only [Act.put, xL4, xL5, xL6])
   refine wpAnyH_take (i := 13) (v := ?_) (by simp only [xL1, xL2, xL3]; rfl) (by kernel_rfl) (by kernel_rfl) (by kernel_rfl) (by exact fun _ _ _ h => h) (Or.inl ⟨by rfl, ?_⟩) (by assumption) ?_
   rotate_left
   ·(intro w hSw; (try dsimp only at hSw); go_simp; (try with_reducible rfl))
   (try simp only [Act.put, xL4, xL5, xL6])
   refine wpAnyH_take (i := 14) (v := ?_) (by simp only [xL1, xL2, xL3]; rfl) (by kernel_rfl) (by kernel_rfl) (by kernel_rfl) (by exact fun _ _ _ h => h) (Or.inl ⟨by rfl, ?_⟩) (by assumption) ?_
   rotate_left
   ·(intro w hSw; (try dsimp only at hSw); go_simp; (try with_reducible rfl))
   (try simp only [Act.put, xL4, xL5, xL6])
   refine wpAnyH_ready (rs := [0]) (by kernel_rfl) (by simp) ?_
   refine AllReadyH.cons (by simp only [xL1, xL2, xL3]; rfl) (fun K hK => ?_) AllReadyH.nil
   obtain ⟨VS_0, VS_1, VS_2, VS_3, VS_4, VS_5⟩ := id VS
   go_simp
   clear VS_0 VS_1 VS_2 VS_3 VS_4 VS_5
   refine hK.out _ _ ?_ (fun hH1 => ?_)
   ·exact ⟨VM.1, VM.2.1, TC.cell, XW.cell, Y8.cell, Y9.cell, Y10.cell⟩
   clear hK K hHeld
   (try simp only [Act.put, xL4, xL5, xL6])
   refine wpAnyH_ready (rs := [15]) (by kernel_rfl) (by simp) ?_
   refine AllReadyH.cons (by simp only [xL1, xL2, xL3]; rfl) (fun K hK => ?_) AllReadyH.nil
   go_simp
   refine (qadd_at _ _ (sumq (leafV T N r) i) _ (k * (L + 1) + 1 + L) _ (hs.at _ (Nat.le_trans HSZI.out (by omega))) (r2.le (by omega)) (by omega) hMX ht).mono ?_
   rintro e w3 ⟨vs, rfl, h9, b3⟩
   obtain ⟨p6, a6, n6, c6, y6, m6, d6, rfl⟩ := h9.open
   rw [← HSI.out] at h9
   go_wp2_with fail
   replace hs := hs.below b3
   replace ht := ht.below b3
   replace r2 := r2.below b3
   replace VS := VS.below b3
   replace VM := VM.below b3
   replace VR := VR.below b3
   replace TC := TC.below b3
   replace XW := XW.below b3
   replace Y8 := Y8.below b3
   replace Y9 := Y9.below b3
   replace Y10 := Y10.below b3
   replace BB := BB.trans (b3.mono BB.size)
   clear b3
   refine hK.out _ _ ?_ (fun hH2 => ?_)
   ·exact ⟨VM.1, VM.2.1, TC.cell, XW.cell, Y8.cell, Y9.cell, Y10.cell⟩
   clear hK K hH1
   (try simp only [Act.put, xL4, xL5, xL6])
   refine wpAnyH_ready (rs := [16]) (by kernel_rfl) (by simp) ?_
   refine AllReadyH.cons (by simp only [xL1, xL2, xL3]; rfl) (fun K hK => ?_) AllReadyH.nil
   have hKp := VS.keepJ (.bool p6) (.slice a6 n6 c6) (.slice y6 m6 d6)
   have VM_n := VM.other3 (R := R1) (by omega) (.bool p6) (.slice a6 n6 c6) (.slice y6 m6 d6)
   have VR_n := VR.other3 (R := R1) (by omega) (.bool p6) (.slice a6 n6 c6) (.slice y6 m6 d6)
   have TC_n := TC.other3 (R := R1) (by omega) (.bool p6) (.slice a6 n6 c6) (.slice y6 m6 d6)
   have XW_n := XW.other3 (R := R1) (by omega) (.bool p6) (.slice a6 n6 c6) (.slice y6 m6 d6)
   have Y8_n := Y8.other3 (R := R1) (by omega) (.bool p6) (.slice a6 n6 c6) (.slice y6 m6 d6)
   have Y9_n := Y9.other3 (R := R1) (by omega) (.bool p6) (.slice a6 n6 c6) (.slice y6 m6 d6)
   have Y10_n := Y10.other3 (R := R1) (by omega) (.bool p6) (.slice a6 n6 c6) (.slice y6 m6 d6)
   have VS_n := VS.same (.bool p6) (.slice a6 n6 c6) (.slice y6 m6 d6)
   have hs_n := hs.keep hKp
   have ht_n := ht.keep hKp
   have r2_n := r2.keep hKp
   have h9_n := h9.keep hKp
   have BB_n := below_store3 (R := R1) BB (by omega) (.bool p6) (.slice a6 n6 c6) (.slice y6 m6 d6)
   clear hKp
   obtain ⟨VS_0, VS_1, VS_2, VS_3, VS_4, VS_5⟩ := id VS
   go_simp
   clear VS_0 VS_1 VS_2 VS_3 VS_4 VS_5
   clear BB hs ht r2 h9 VS VM VR TC XW Y8 Y9 Y10
   generalize ((w3.setCell ⟨R1, 0, none⟩ (.bool p6)).setCell ⟨R1, 1, none⟩ (.slice a6 n6 c6)).setCell ⟨R1, 2, none⟩ (.slice y6 m6 d6) = W23 at *
   have BB := BB_n
   have hs := hs_n
   have ht := ht_n
   have r2 := r2_n
   have h9 := h9_n
   have VS := VS_n
   have VM := VM_n
   have VR := VR_n
   have TC := TC_n
   have XW := XW_n
   have Y8 := Y8_n
   have Y9 := Y9_n
   have Y10 := Y10_n
   clear BB_n hs_n ht_n r2_n h9_n VS_n VM_n VR_n TC_n XW_n Y8_n Y9_n Y10_n
   refine hK.out _ _ ?_ (fun hH3 => ?_)
   ·exact ⟨VM.1, VM.2.1, TC.cell, XW.cell, Y8.cell, Y9.cell, Y10.cell⟩
   clear hK K hH2
   (try simp only [Act.put, xL4, xL5, xL6])
   refine wpAnyH_done (by kernel_rfl) ?_ _
   clear hH3
   go_wp2
   go_roundw
   case rel => exact ⟨i + 1, _, _, _, _, _, _, _, by omega, by go_num, VS, h9, VM, VR, BB⟩
   case measure => simp [intOf]; omega
  ·obtain rfl : i = k := by omega
   have g1 : ¬ (i : Int) < (i : Int) := by omega
   have hKp := VR.keepJ (.bool p5) (.slice a5 n5 c5) (.slice y5 m5 d5)
   have hs_n := hs.keep hKp
   have BB_n := below_store3 (R := w.heap.size + 1) BB (by omega) (.bool p5) (.slice a5 n5 c5) (.slice y5 m5 d5)
   clear hKp
   obtain ⟨VS_0, VS_1, VS_2, VS_3, VS_4, VS_5⟩ := id VS
   obtain ⟨VM_0, VM_1, VM_2, VM_3⟩ := id VM
   obtain ⟨q1, q2, q3, q4, q5, q6⟩ := id VR
   go_wp2
   (try simp only [Exit.inBlock, Exit.then])
   refine bodyPost_ret (v := .agg #[.bool p5, .slice a5 n5 c5, .slice y5 m5 d5]) (by simp [results, go_sem, q1, q2, q3]) rfl ?_
   exact ⟨_, rfl, hs_n, BB_n⟩

set_option maxRecDepth 100000 in
set_option maxHeartbeats 4000000 in
theorem rmean_bad (F : Int) (vm vl : Value) (k nl : Nat) (N : Nat → Nat) (T : Nat → Nat → Nd) (NR : Nat → Nat) (R : Nat → Nat → Cl) (L : Nat) (w : World) (hM : MRow w vm k N T L) (hR : ARow w vl nl NR R L) (hT : Tab w) (hL : 1 ≤ L) (hLM : L ≤ 30000) (hB : mayB F k N T = false) :
  Calls Tryz.prog 22 #[.agg #[.int .i64 F, vm], vl] w fun e w' => e = .returned (.tuple #[.agg #[.bool false, .slice none 0 0, .slice none 0 0], .int .i64 1]) ∧ Below w.heap.size w w' := by
 obtain ⟨ao, c, rfl, hnc, hc63⟩ := hM.open
 obtain ⟨ar, cr, rfl, hrc, hr63⟩ := hR.open
 have HM0 : Hid (MRow w (.slice ao k c) k N T L) := hM
 have HR0 : Hid (ARow w (.slice ar nl cr) nl NR R L) := hR
 have HT0 : Hid (Tab w) := hT
 have hM1 := hM
 have hT1 := hT
 clear hM hR hT
 have BB : Below w.heap.size w w := Below.refl _ _
 obtain ⟨Wb0, hW0, hS0, hL0, VM⟩ := V2.lay w 27 (.int .i64 F) (.slice ao k c)
 replace BB := BB.trans (hL0.mono BB.size)
 replace hM1 := hM1.below hL0
 replace hT1 := hT1.below hL0
 obtain ⟨Wb1, hW1, hS1, hL1, VR⟩ := V3.lay Wb0 44 (.bool false) (.slice none 0 0) (.slice none 0 0)
 rw [hS0] at VR
 replace VM := VM.below hL1
 replace BB := BB.trans (hL1.mono BB.size)
 replace hM1 := hM1.below hL1
 replace hT1 := hT1.below hL1
 clear hL0 hL1
 go_enter Tryz.func22, Tryz.ntmps22
 obtain ⟨VM_0, VM_1, VM_2, VM_3⟩ := id VM
 rw [hW1, hW0] at VM_0 VM_1 VM_2 VM_3
 go_wp2_with fail
 clear VM_0 VM_1 VM_2 VM_3
 rw [← hW0, ← hW1]
 clear hW0 hW1 hS0 hS1
 refine (ok_may F _ k N T L _ hM1 hT1 hL hLM).mono ?_
 rintro e w1 ⟨rfl, b1⟩
 replace hM1 := hM1.below b1
 replace hT1 := hT1.below b1
 replace VM := VM.below b1
 replace VR := VR.below b1
 replace BB := BB.trans (b1.mono BB.size)
 clear b1
 rw [hB]
 clear hB
 clear hM1 hT1
 have hKp := VR.keepJ (.bool false) (.slice none 0 0) (.slice none 0 0)
 have BB_n := below_store3 (R := w.heap.size + 1) BB (by omega) (.bool false) (.slice none 0 0) (.slice none 0 0)
 clear hKp
 obtain ⟨VM_0, VM_1, VM_2, VM_3⟩ := id VM
 obtain ⟨q1, q2, q3, q4, q5, q6⟩ := id VR
 go_wp2
 (try simp only [Exit.inBlock, Exit.then])
 refine bodyPost_ret (v := .tuple #[.agg #[.bool false, .slice none 0 0, .slice none 0 0], .int .i64 1]) (by simp [results, go_sem, q1, q2, q3]) rfl ?_
 exact ⟨rfl, BB_n⟩

/-- What Mean answers of a model that may be. -/
def MeanOut (F : Int) (k nl : Nat) (N : Nat → Nat) (T : Nat → Nat → Nd) (NR : Nat → Nat) (R : Nat → Nat → Cl) (e : Ending) (w' : World) : Prop :=
 ((∃ i, i < nl ∧ ¬ (NR i : Int) = F) ∧ e = .returned (.tuple #[.agg #[.bool false, .slice none 0 0, .slice none 0 0], .int .i64 14])) ∨
 ((∀ i, i < nl → (NR i : Int) = F) ∧ nl = 0 ∧ e = .returned (.tuple #[.agg #[.bool false, .slice none 0 0, .slice none 0 0], .int .i64 15])) ∨
 ((∀ i, i < nl → (NR i : Int) = F) ∧ 0 < nl ∧ ∃ x, e = .returned (.tuple #[x, .int .i64 0]) ∧ RepQ w' x (sumq (fun i => sumq (leafV T N (R i)) k) nl / ((nl : Int) : Rat)))

theorem V2.off3 {w : World} {R g o : Nat} {x y : Value} (h : V2 w R x y) (hne : R ≠ g) (u0 u1 u2 : Value) : V2 (((w.setCell ⟨g, o, none⟩ u0).setCell ⟨g, o + 1, none⟩ u1).setCell ⟨g, o + 2, none⟩ u2) R x y := by
 obtain ⟨a, b, c, d⟩ := h
 refine ⟨?_, ?_, by simp [c], by simp [d]⟩
 ·rw [World.cell?_setCell_other _ _ _ _ (fun e => by injection e; omega), World.cell?_setCell_other _ _ _ _ (fun e => by injection e; omega), World.cell?_setCell_other _ _ _ _ (fun e => by injection e; omega)]; exact a
 ·rw [World.cell?_setCell_other _ _ _ _ (fun e => by injection e; omega), World.cell?_setCell_other _ _ _ _ (fun e => by injection e; omega), World.cell?_setCell_other _ _ _ _ (fun e => by injection e; omega)]; exact b
theorem V3.off3 {w : World} {R g o : Nat} {x y z : Value} (h : V3 w R x y z) (hne : R ≠ g) (u0 u1 u2 : Value) : V3 (((w.setCell ⟨g, o, none⟩ u0).setCell ⟨g, o + 1, none⟩ u1).setCell ⟨g, o + 2, none⟩ u2) R x y z := by
 obtain ⟨a, b, c, d, e, f⟩ := h
 refine ⟨?_, ?_, ?_, by simp [d], by simp [e], by simp [f]⟩
 ·rw [World.cell?_setCell_other _ _ _ _ (fun e => by injection e; omega), World.cell?_setCell_other _ _ _ _ (fun e => by injection e; omega), World.cell?_setCell_other _ _ _ _ (fun e => by injection e; omega)]; exact a
 ·rw [World.cell?_setCell_other _ _ _ _ (fun e => by injection e; omega), World.cell?_setCell_other _ _ _ _ (fun e => by injection e; omega), World.cell?_setCell_other _ _ _ _ (fun e => by injection e; omega)]; exact b
 ·rw [World.cell?_setCell_other _ _ _ _ (fun e => by injection e; omega), World.cell?_setCell_other _ _ _ _ (fun e => by injection e; omega), World.cell?_setCell_other _ _ _ _ (fun e => by injection e; omega)]; exact c


set_option maxRecDepth 100000 in
set_option maxHeartbeats 16000000 in
theorem rmean_at (F : Int) (vm vl : Value) (k nl : Nat) (N : Nat → Nat) (T : Nat → Nat → Nd) (NR : Nat → Nat) (R : Nat → Nat → Cl) (L : Nat) (w : World) (hM : MRow w vm k N T L) (hR : ARow w vl nl NR R L) (hT : Tab w) (hL : 1 ≤ L) (hLM : L ≤ 30000) (hB : mayB F k N T = true) (hk : k ≤ 1000) (hnl : nl ≤ 1000) (S : Nat) (hS : k * (L + 1) + 1 ≤ S) (hMX : nl * (S + 1) + S + 2 ≤ 100000) (hMX2 : k * (L + 1) + L ≤ 100000) (HMY : Hid (∀ i, i < k → MayT F (T i) (N i))) :
  Calls Tryz.prog 22 #[.agg #[.int .i64 F, vm], vl] w fun e w' => MeanOut F k nl N T NR R e w' ∧ Below w.heap.size w w' := by
 obtain ⟨ao, c, rfl, hnc, hc63⟩ := hM.open
 obtain ⟨ar, cr, rfl, hrc, hr63⟩ := hR.open
 have HM0 : Hid (MRow w (.slice ao k c) k N T L) := hM
 have HR0 : Hid (ARow w (.slice ar nl cr) nl NR R L) := hR
 have HT0 : Hid (Tab w) := hT
 have hM1 := hM
 have hT1 := hT
 clear hM hR hT
 have BB : Below w.heap.size w w := Below.refl _ _
 obtain ⟨Wb0, hW0, hS0, hL0, VM⟩ := V2.lay w 27 (.int .i64 F) (.slice ao k c)
 replace BB := BB.trans (hL0.mono BB.size)
 replace hM1 := hM1.below hL0
 replace hT1 := hT1.below hL0
 obtain ⟨Wb1, hW1, hS1, hL1, VR⟩ := V3.lay Wb0 44 (.bool false) (.slice none 0 0) (.slice none 0 0)
 rw [hS0] at VR
 replace VM := VM.below hL1
 replace BB := BB.trans (hL1.mono BB.size)
 replace hM1 := hM1.below hL1
 replace hT1 := hT1.below hL1
 clear hL0 hL1
 go_enter Tryz.func22, Tryz.ntmps22
 obtain ⟨VM_0, VM_1, VM_2, VM_3⟩ := id VM
 rw [hW1, hW0] at VM_0 VM_1 VM_2 VM_3
 go_wp2_with fail
 clear VM_0 VM_1 VM_2 VM_3
 rw [← hW0, ← hW1]
 clear hW0 hW1 hS0 hS1
 refine (ok_may F _ k N T L _ hM1 hT1 hL hLM).mono ?_
 rintro e w1 ⟨rfl, b1⟩
 replace hM1 := hM1.below b1
 replace hT1 := hT1.below b1
 replace VM := VM.below b1
 replace VR := VR.below b1
 replace BB := BB.trans (b1.mono BB.size)
 clear b1
 rw [hB]
 clear hB
 clear hM1 hT1
 obtain ⟨VM_0, VM_1, VM_2, VM_3⟩ := id VM
 go_wp2
 clear VM_0 VM_1 VM_2 VM_3
 obtain ⟨i0, hi0, hz0, hz1, hz2⟩ := info_parts info_wrat
 have HI0 : Hid (Tryz.prog.info? 44 = some i0 ∧ i0.zero = some (.agg #[.bool false, .slice none 0 0, .slice none 0 0]) ∧ i0.size = 3 ∧ i0.bytes = 56) := ⟨hi0, hz0, hz1, hz2⟩
 clear hi0 hz0 hz1 hz2
 go_loopw [18] (fun vi wr => ∃ i : Nat, i ≤ nl ∧ vi = .int .i64 (i : Int) ∧ Hid (∀ j, j < i → (NR j : Int) = F) ∧ V2 wr w.heap.size (.int .i64 F) (.slice ao k c) ∧ V3 wr (w.heap.size + 1) (.bool false) (.slice none 0 0) (.slice none 0 0) ∧ Below w.heap.size w wr) (fun vi _ => nl - (intOf vi).toNat)
 case atStart => exact ⟨0, by omega, rfl, fun j hj => by omega, VM, VR, BB⟩
 case round =>
  clear VM VR BB
  obtain ⟨i, hi, rfl, HJ, VM, VR, BB⟩ := hrel
  by_cases hlt : i < nl
  ·have g1 : (i : Int) < (nl : Int) := by omega
   have g0 : (0 : Int) ≤ (i : Int) := by omega
   obtain ⟨b, off, cc, a, d, hvv, hcc, XC0, TR0⟩ := HR0.out.at hlt
   cases hvv
   have XC : wr.cell? ⟨b, off + i, none⟩ = some (.slice a (NR i) d) := (BB.cell (p := ⟨b, off + i, none⟩) (World.block_lt_of_cell? _ _ XC0)).trans XC0
   clear XC0 TR0
   obtain ⟨VM_0, VM_1, VM_2, VM_3⟩ := id VM
   go_wp2_with fail
   clear VM_0 VM_1 VM_2 VM_3
   clear XC
   refine (rlength_at F _ _ k c (NR i) d _).mono ?_
   rintro e w21 ⟨rfl, b21⟩
   replace VM := VM.below b21
   replace VR := VR.below b21
   replace BB := BB.trans (b21.mono BB.size)
   clear b21
   by_cases hq : (NR i : Int) = F
   ·rw [if_pos hq]
    have HJ2 : Hid (∀ j, j < i + 1 → (NR j : Int) = F) := fun j hj => by
     by_cases e9 : j = i
     ·subst e9; exact hq
     ·exact HJ.out j (by omega)
    clear hq HJ
    go_wp2
    go_roundw
    case rel => exact ⟨i + 1, by omega, by go_num, HJ2, VM, VR, BB⟩
    case measure => simp [intOf]; omega
   ·rw [if_neg hq]
    have HQ : Hid (¬ (NR i : Int) = F) := hq
    clear hq
    have hKp := VR.keepJ (.bool false) (.slice none 0 0) (.slice none 0 0)
    have BB_n := below_store3 (R := w.heap.size + 1) BB (by omega) (.bool false) (.slice none 0 0) (.slice none 0 0)
    clear hKp
    obtain ⟨q1, q2, q3, q4, q5, q6⟩ := id VR
    go_wp2
    (try simp only [Exit.inBlock, Exit.then])
    refine bodyPost_ret (v := .tuple #[.agg #[.bool false, .slice none 0 0, .slice none 0 0], .int .i64 14]) (by simp [results, go_sem, q1, q2, q3]) rfl ?_
    exact ⟨.inl ⟨⟨i, hlt, HQ.out⟩, rfl⟩, BB_n⟩
  ·obtain rfl : i = nl := by omega
   have g1 : ¬ (i : Int) < (i : Int) := by omega
   have HAL : Hid (∀ j, j < i → (NR j : Int) = F) := HJ.out
   clear HJ
   have hGB : w.heap.size ≤ wr.heap.size := BB.size
   have hlt1 : w.heap.size < wr.heap.size := VM.lt
   have hlt2 : w.heap.size + 1 < wr.heap.size := VR.lt
   go_wp2_with (at_make; refine wpList_make_full _ rfl _ _ 47 rfl _ 44 i0 (.agg #[.bool false, .slice none 0 0, .slice none 0 0]) 3 Tryz.underlying47 HI0.out.1 HI0.out.2.1 HI0.out.2.2.1 _ _ _ _ i rfl rfl (by omega) (by omega) (by rw [HI0.out.2.2.2]; omega) (by unfold maxLen; omega) (Nat.le_refl _) ?_; intro w1 hown hgrow)
   have hb1 := below_grown hgrow
   have A1 := arr3_made hown
   replace BB := BB.trans (hb1.mono BB.size)
   replace VM := VM.below hb1
   replace VR := VR.below hb1
   have VA : VArr w1 wr.heap.size i 0 (fun i => sumq (leafV T N (R i)) k) := ⟨_, A1, fun j hj => absurd hj (Nat.not_lt_zero _)⟩
   clear hown hgrow hb1 A1
   generalize wr.heap.size = G at *
   go_loopw [35] (fun vi wr => ∃ j : Nat, j ≤ i ∧ vi = .int .i64 (j : Int) ∧ VArr wr G i j (fun i => sumq (leafV T N (R i)) k) ∧ V2 wr w.heap.size (.int .i64 F) (.slice ao k c) ∧ V3 wr (w.heap.size + 1) (.bool false) (.slice none 0 0) (.slice none 0 0) ∧ Below w.heap.size w wr) (fun vi _ => i - (intOf vi).toNat)
   case atStart => exact ⟨0, by omega, rfl, VA, VM, VR, BB⟩
   case round =>
    clear VA VM VR BB
    obtain ⟨j, hj, rfl, VA, VM, VR, BB⟩ := hrel
    by_cases hlt : j < i
    ·have g1 : (j : Int) < (i : Int) := by omega
     have g0 : (0 : Int) ≤ (j : Int) := by omega
     obtain ⟨b, off, cc, a, d, hvv, hcc, XC0, TR0⟩ := HR0.out.at hlt
     cases hvv
     have XC := (BB.cell (p := ⟨b, off + j, none⟩) (World.block_lt_of_cell? _ _ XC0)).trans XC0
     have CR := TR0.below BB
     have MR := HM0.out.below BB
     have ht := HT0.out.below BB
     have HF : Hid ((NR j : Int) = F) := HAL.out j hlt
     have HMJ : Hid (∀ i, i < k → MayT ((NR j : Nat) : Int) (T i) (N i)) := by
      show ∀ i, i < k → MayT ((NR j : Nat) : Int) (T i) (N i)
      rw [HF.out]
      exact HMY.out
     clear XC0 TR0
     obtain ⟨VM_0, VM_1, VM_2, VM_3⟩ := id VM
     go_wp2_with fail
     clear VM_0 VM_1 VM_2 VM_3
     clear XC
     refine (rvalues_at F _ _ k (NR j) N T (R j) L _ MR CR ht hL hLM hk HMJ.out).mono ?_
     rintro e w41 ⟨vu, rfl, hF, b41⟩
     replace VA := VA.below b41
     replace MR := MR.below b41
     replace CR := CR.below b41
     replace ht := ht.below b41
     replace VM := VM.below b41
     replace VR := VR.below b41
     replace BB := BB.trans (b41.mono BB.size)
     clear b41
     obtain ⟨au, cu, rfl⟩ := hF.open
     go_wp2_with fail
     have hq := hF.q L (leafV_sz HM0.out hL HMJ.out (R j))
     clear hF MR CR
     refine (qsum_any L (k * (L + 1) + L) hL (by omega) hMX2 k _ _ _ hq ht (by omega)).mono ?_
     rintro e w42 ⟨vs, rfl, hs, b42⟩
     replace VA := VA.below b42
     replace ht := ht.below b42
     replace hq := hq.below b42
     replace VM := VM.below b42
     replace VR := VR.below b42
     replace BB := BB.trans (b42.mono BB.size)
     clear b42
     obtain ⟨p5, a5, n5, c5, y5, m5, d5, rfl⟩ := hs.open
     obtain ⟨u0, u1, u2, x0, x1, x2, y0, y1, y2, VA2⟩ := VA.put hlt hs
     have BB2 : Below w.heap.size w (((w42.setCell ⟨G, j * 3, none⟩ (.bool p5)).setCell ⟨G, j * 3 + 1, none⟩ (.slice a5 n5 c5)).setCell ⟨G, j * 3 + 2, none⟩ (.slice y5 m5 d5)) := ((BB.setCell hGB _).setCell hGB _).setCell hGB _
     have VM2 := VM.off3 (g := G) (o := j * 3) (by omega) (.bool p5) (.slice a5 n5 c5) (.slice y5 m5 d5)
     have VR2 := VR.off3 (g := G) (o := j * 3) (by omega) (.bool p5) (.slice a5 n5 c5) (.slice y5 m5 d5)
     go_wp2
     go_roundw
     case rel => exact ⟨j + 1, by omega, by go_num, VA2, VM2, VR2, BB2⟩
     case measure => simp [intOf]; omega
    ·obtain rfl : j = i := by omega
     have g1 : ¬ (j : Int) < (j : Int) := by omega
     have ht := HT0.out.below BB
     have hq := (VA.row (by omega)).q S (fun i hi => by
      have := qsz_sumq (leafV T N (R i)) L k (leafV_sz HM0.out hL HMY.out (R i))
      exact Nat.le_trans this hS)
     clear VA
     go_wp2_with fail
     by_cases hn0 : j = 0
     ·subst hn0
      refine (qmean_none _ _ _ _ hq).mono ?_
      rintro e w61 ⟨rfl, b61⟩
      replace VR := VR.below b61
      replace BB := BB.trans (b61.mono BB.size)
      clear b61
      have hKp := VR.keepJ (.bool false) (.slice none 0 0) (.slice none 0 0)
      have BB_n := below_store3 (R := w.heap.size + 1) BB (by omega) (.bool false) (.slice none 0 0) (.slice none 0 0)
      clear hKp
      obtain ⟨q1, q2, q3, q4, q5, q6⟩ := id VR
      go_wp2
      (try simp only [Exit.inBlock, Exit.then])
      refine bodyPost_ret (v := .tuple #[.agg #[.bool false, .slice none 0 0, .slice none 0 0], .int .i64 15]) (by simp [results, go_sem, q1, q2, q3]) rfl ?_
      exact ⟨.inr (.inl ⟨HAL.out, rfl, rfl⟩), BB_n⟩
     ·have hn1 : 0 < j := by omega
      refine (qmean_some _ j _ S (j * (S + 1) + S + 2) _ hq ht (by omega) (by omega) hMX (by omega) hn1 (by omega)).mono ?_
      rintro e w71 ⟨vx, rfl, hx, b71⟩
      replace VR := VR.below b71
      replace BB := BB.trans (b71.mono BB.size)
      clear b71
      obtain ⟨p5, a5, n5, c5, y5, m5, d5, rfl⟩ := hx.open
      have hKp := VR.keepJ (.bool p5) (.slice a5 n5 c5) (.slice y5 m5 d5)
      have hx_n := hx.keep hKp
      have BB_n := below_store3 (R := w.heap.size + 1) BB (by omega) (.bool p5) (.slice a5 n5 c5) (.slice y5 m5 d5)
      clear hKp
      obtain ⟨q1, q2, q3, q4, q5, q6⟩ := id VR
      go_wp2
      (try simp only [Exit.inBlock, Exit.then])
      refine bodyPost_ret (v := .tuple #[.agg #[.bool p5, .slice a5 n5 c5, .slice y5 m5 d5], .int .i64 0]) (by simp [results, go_sem, q1, q2, q3]) rfl ?_
      exact ⟨.inr (.inr ⟨HAL.out, hn1, _, rfl, hx_n⟩), BB_n⟩

/-- The first error of d rows from j on. -/
def fe (E : Nat → Int) : Nat → Nat → Int
 | _, 0 => 0
 | j, d + 1 => if E j = 0 then fe E (j + 1) d else E j
/-- The sum of what is told of those without one, from the last on. -/
def st (E : Nat → Int) (P : Nat → Rat) : Nat → Nat → Rat
 | _, 0 => 0
 | j, d + 1 => if E j = 0 then st E P (j + 1) d + P j else st E P (j + 1) d
theorem fe_zero {E : Nat → Int} : ∀ d j, (∀ i, j ≤ i → i < j + d → E i = 0) → fe E j d = 0
 | 0, j, h => rfl
 | d + 1, j, h => by
  show (if E j = 0 then fe E (j + 1) d else E j) = 0
  rw [if_pos (h j (by omega) (by omega))]
  exact fe_zero d (j + 1) (fun i h1 h2 => h i (by omega) (by omega))
theorem fe_one {E : Nat → Int} {e : Int} : ∀ d j, (∀ i, j ≤ i → i < j + d → E i = 0 ∨ E i = e) → (∃ i, j ≤ i ∧ i < j + d ∧ E i ≠ 0) → fe E j d = e
 | 0, j, h, h2 => by obtain ⟨i, a, b, _⟩ := h2; omega
 | d + 1, j, h, h2 => by
  show (if E j = 0 then fe E (j + 1) d else E j) = e
  by_cases e0 : E j = 0
  ·rw [if_pos e0]
   refine fe_one d (j + 1) (fun i h1 h3 => h i (by omega) (by omega)) ?_
   obtain ⟨i, a, b, c⟩ := h2
   have : i ≠ j := fun e => c (by rw [e]; exact e0)
   exact ⟨i, by omega, by omega, c⟩
  ·rw [if_neg e0]
   rcases h j (by omega) (by omega) with g | g
   ·exact absurd g e0
   ·exact g
theorem st_sum {E : Nat → Int} {P : Nat → Rat} : ∀ d j, (∀ i, j ≤ i → i < j + d → E i = 0) → st E P j d = sumq (fun i => P (j + i)) d
 | 0, j, h => rfl
 | d + 1, j, h => by
  show (if E j = 0 then st E P (j + 1) d + P j else st E P (j + 1) d) = _
  rw [if_pos (h j (by omega) (by omega)), st_sum d (j + 1) (fun i h1 h2 => h i (by omega) (by omega))]
  have := sumq_cut (fun i => P (j + i)) 1 d
  rw [show d + 1 = 1 + d by omega, this]
  show _ = (0 + P (j + 0)) + _
  rw [Rat.zero_add, Rat.add_comm]
  have e9 : (fun i => P (j + 1 + i)) = (fun i => P (j + (1 + i))) := by
   funext i
   rw [Nat.add_assoc]
  rw [e9]
  rfl
theorem st_sz {E : Nat → Int} {P : Nat → Rat} {S : Nat} : ∀ d j, (∀ i, j ≤ i → i < j + d → E i = 0 → qsz (P i) ≤ S) → qsz (st E P j d) ≤ d * (S + 1) + 1
 | 0, j, h => by
  have : qsz (0 : Rat) ≤ 1 := qsz_int 0 (by decide) (by omega)
  show qsz (0 : Rat) ≤ _; omega
 | d + 1, j, h => by
  show qsz (if E j = 0 then st E P (j + 1) d + P j else st E P (j + 1) d) ≤ _
  have ih := st_sz (E := E) (P := P) (S := S) d (j + 1) (fun i h1 h2 h3 => h i (by omega) (by omega) h3)
  rw [Nat.succ_mul]
  by_cases e0 : E j = 0
  ·rw [if_pos e0]
   have := qsz_add _ _ ih (h j (by omega) (by omega) e0)
   omega
  ·rw [if_neg e0]; omega
/-- A number and an error: the one, or the other. -/
def MX (w : World) (x : Value) (e1 : Int) (q : Rat) : Prop := (e1 = 0 ∧ RepQ w x q) ∨ (¬ e1 = 0 ∧ x = .agg #[.bool false, .slice none 0 0, .slice none 0 0])
theorem MX.below {w w' : World} {x : Value} {e1 : Int} {q : Rat} (h : MX w x e1 q) (hb : Below w.heap.size w w') : MX w' x e1 q := by
 rcases h with ⟨a, b⟩ | h
 ·exact .inl ⟨a, b.below hb⟩
 ·exact .inr h
theorem MX.open {w : World} {x : Value} {e1 : Int} {q : Rat} (h : MX w x e1 q) : ∃ p a n c b m d, x = .agg #[.bool p, .slice a n c, .slice b m d] := by
 rcases h with ⟨_, b⟩ | ⟨_, h⟩
 ·exact b.open
 ·exact ⟨_, _, _, _, _, _, _, h⟩
noncomputable def wantM (F : Int) (k nl : Nat) (N : Nat → Nat) (T : Nat → Nat → Nd) (NR : Nat → Nat) : Int := if nl = 0 then (if mayB F k N T = true then 15 else 1) else fe (fun i => whyI F k N T (NR i)) 0 nl
theorem wantM_some {F : Int} {k nl : Nat} {N : Nat → Nat} {T : Nat → Nat → Nd} {NR : Nat → Nat} (h : ¬ nl = 0) : wantM F k nl N T NR = fe (fun i => whyI F k N T (NR i)) 0 nl := by unfold wantM; rw [if_neg h]
theorem wantM_all {F : Int} {k nl : Nat} {N : Nat → Nat} {T : Nat → Nat → Nd} {NR : Nat → Nat} (h : wantM F k nl N T NR = 0) : 0 < nl ∧ ∀ i, 0 ≤ i → i < 0 + nl → whyI F k N T (NR i) = 0 := by
 unfold wantM at h
 by_cases h0 : nl = 0
 ·rw [if_pos h0] at h
  by_cases hb : mayB F k N T = true
  ·rw [if_pos hb] at h; omega
  ·rw [if_neg hb] at h; omega
 ·rw [if_neg h0] at h
  refine ⟨by omega, fun i _ hi => ?_⟩
  suffices ∀ d j, fe (fun i => whyI F k N T (NR i)) j d = 0 → ∀ i, j ≤ i → i < j + d → whyI F k N T (NR i) = 0 from this nl 0 h i (by omega) hi
  intro d
  induction d with
  | zero => intro j _ i h1 h2; omega
  | succ d ih =>
   intro j hj i h1 h2
   have hj : (if whyI F k N T (NR j) = 0 then fe (fun i => whyI F k N T (NR i)) (j + 1) d else whyI F k N T (NR j)) = 0 := hj
   by_cases e : whyI F k N T (NR j) = 0
   ·rw [if_pos e] at hj
    by_cases e2 : i = j
    ·subst e2; exact e
    ·exact ih (j + 1) hj i (by omega) (by omega)
   ·rw [if_neg e] at hj; exact absurd hj e

theorem rmean_all (F : Int) (vm vl : Value) (k nl : Nat) (N : Nat → Nat) (T : Nat → Nat → Nd) (NR : Nat → Nat) (R : Nat → Nat → Cl) (L : Nat) (w : World) (hM : MRow w vm k N T L) (hR : ARow w vl nl NR R L) (hT : Tab w) (hL : 1 ≤ L) (hLM : L ≤ 30000) (hk : k ≤ 1000) (hnl : nl ≤ 1000) (S : Nat) (hS : k * (L + 1) + 1 ≤ S) (hMX : nl * (S + 1) + S + 2 ≤ 100000) (hMX2 : k * (L + 1) + L ≤ 100000) :
  Calls Tryz.prog 22 #[.agg #[.int .i64 F, vm], vl] w fun e w' => ∃ x e1, e = .returned (.tuple #[x, .int .i64 e1]) ∧ e1 = wantM F k nl N T NR ∧ MX w' x e1 (sumq (fun i => sumq (leafV T N (R i)) k) nl / ((nl : Int) : Rat)) ∧ Below w.heap.size w w' := by
 cases hB : mayB F k N T with
 | false =>
  refine (rmean_bad F vm vl k nl N T NR R L w hM hR hT hL hLM hB).mono ?_
  rintro e w' ⟨rfl, b⟩
  refine ⟨_, 1, rfl, ?_, .inr ⟨by omega, rfl⟩, b⟩
  by_cases h0 : nl = 0
  ·unfold wantM; rw [if_pos h0, hB]; rfl
  ·rw [wantM_some h0]
   exact (fe_one nl 0 (fun i _ _ => .inr (whyI_no hB)) ⟨0, by omega, by omega, by rw [whyI_no hB]; omega⟩).symm
 | true =>
  refine (rmean_at F vm vl k nl N T NR R L w hM hR hT hL hLM hB hk hnl S hS hMX hMX2 (mayB_may hB).2.2.2).mono ?_
  rintro e w' ⟨h, b⟩
  rcases h with ⟨⟨i, hi, hne⟩, rfl⟩ | ⟨hal, h0, rfl⟩ | ⟨hal, h0, x, rfl, hx⟩
  ·refine ⟨_, 14, rfl, ?_, .inr ⟨by omega, rfl⟩, b⟩
   rw [wantM_some (by omega)]
   refine (fe_one nl 0 (fun j _ _ => ?_) ⟨i, by omega, by omega, by rw [whyI_len hB hne]; omega⟩).symm
   by_cases e : (NR j : Int) = F
   ·exact .inl (whyI_yes hB e)
   ·exact .inr (whyI_len hB e)
  ·refine ⟨_, 15, rfl, ?_, .inr ⟨by omega, rfl⟩, b⟩
   unfold wantM; rw [if_pos h0, hB]; rfl
  ·refine ⟨x, 0, rfl, ?_, .inl ⟨rfl, hx⟩, b⟩
   rw [wantM_some (by omega)]
   exact (fe_zero nl 0 (fun j _ hj => whyI_yes hB (hal j (by omega)))).symm
theorem ARow.mono {w : World} {v : Value} {k : Nat} {N : Nat → Nat} {t : Nat → Nat → Cl} {L L' : Nat} (h : ARow w v k N t L) (hL : L ≤ L') : ARow w v k N t L' := by
 obtain ⟨el, h1, h2⟩ := h
 exact ⟨el, h1, fun i hi => (h2 i hi).mono hL⟩

end Go.Proofs.YtnnnkajomljdgaaGreatDoor
