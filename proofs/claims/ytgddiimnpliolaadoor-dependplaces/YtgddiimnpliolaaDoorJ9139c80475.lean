/-
  Texts of mine, joined: what lies beneath the statement.
-/
import Derived.Test.YtgddiimnpliolaaDoorJ7a8da8948c
import Derived.Test.YtgddiimnpliolaaDoorJe950d5ff60
import Derived.Test.YtgddiimnpliolaaDoorJ2a39433548
import Derived.Test.YtgddiimnpliolaaDoorJb31471e51a
namespace Go.Proofs.YtgddiimnpliolaaDoor
set_option linter.unusedVariables false
set_option linter.unusedSimpArgs false
structure MayT (F : Int) (t : Nat → Nd) (n : Nat) : Prop where
  pos : 1 ≤ n
  few : n ≤ 255
  feat : ∀ i, i < n → (t i).leaf = false → 0 ≤ (t i).feat ∧ (t i).feat < F
  named : Named t n
  once : Once t n
  up : ∀ i, i < n → lawUp t n (n + 1) i = true
  cov : ∀ i, i < n → 0 < (t i).cov
  parts : ∀ i, i < n → (t i).leaf = false → (t i).cov = (t (t i).left.toNat).cov + (t (t i).right.toNat).cov
theorem rl_none1 {F : Int} {t : Nat → Nd} {n : Nat} (h : rl F t n 1 = none) : fb (bad1 t n) n = none ∧ fb (bad2 t n) n = none := by
  simp only [rl, Option.map_eq_none_iff] at h
  cases e : fb (bad1 t n) n with
  | none => rw [e] at h; exact ⟨rfl, by simpa using h⟩
  | some i => rw [e] at h; simp at h
theorem mayT_of {F : Int} {t : Nat → Nd} {n : Nat} (hf : tfit t n = true) (h : ∀ r, r < 4 → rl F t n r = none) : MayT F t n := by
  unfold tfit at hf
  simp only [Bool.and_eq_true, decide_eq_true_eq, Option.isNone_iff_eq_none] at hf
  have h0 := h 0 (by omega)
  have h1 := rl_none1 (h 1 (by omega))
  have h2 := h 2 (by omega)
  have h3 := h 3 (by omega)
  simp only [rl, Option.map_eq_none_iff] at h0 h2 h3
  refine ⟨hf.1.1, hf.1.2, fun i hi hl => ?_, rl0_named (h 0 (by omega)), bad1_once h1.1, fun i hi => ?_, fun i hi => ?_, fun i hi hl => ?_⟩
  · have a := fb_is hf.2 i hi
    have b := fb_is h0 i hi
    unfold badF at a
    unfold bad0 at b
    rw [hl] at b
    simp only [Bool.not_false, Bool.true_and, Bool.or_eq_false_iff, decide_eq_false_iff_not] at b
    simp only [Bool.not_eq_false', Bool.and_eq_true, decide_eq_true_eq] at a
    omega
  · have := fb_is h1.2 i hi
    unfold bad2 at this
    simpa using this
  · have := fb_is h2 i hi
    unfold bad3 at this
    rw [decide_eq_false_iff_not] at this
    grind
  · have := fb_is h3 i hi
    unfold bad4 at this
    rw [hl] at this
    simpa using this
theorem ChkOut.may {F : Int} {k : Nat} {N : Nat → Nat} {T : Nat → Nat → Nd} {s d : Int} (h : ChkOut F k N T (.agg #[.int .i64 0, .int .i64 0, .int .i64 s, .int .i64 d])) : 0 ≤ F ∧ F ≤ 64 ∧ k ≤ 64 ∧ ∀ i, i < k → MayT F (T i) (N i) := by
  rcases h with ⟨_, e⟩ | ⟨hf, x, hx, e⟩
  · simp at e
  · rcases hx with ⟨rfl, hx⟩ | ⟨r, i, er, nd, hr, hi, rfl, h1, _⟩
    · have a := mfit_is hf
      refine ⟨a.1, a.2.1, a.2.2.1, fun i hi => mayT_of ?_ (fun r hr => hx r hr i hi)⟩
      unfold mfit at hf
      simp only [Bool.and_eq_true, decide_eq_true_eq, Option.isNone_iff_eq_none] at hf
      have := fb_is hf.2 i hi
      simpa using this
    · have := rl_err h1
      simp [fltV] at e
      omega
def lv (t : Nat → Nd) (n : Nat) : Nat → Nat → Nat
  | 0, _ => 0
  | k + 1, x => if x = 0 then 0 else match upOf t x n with
    | none => 0
    | some p => lv t n k p + 1
theorem lv_more {t : Nat → Nd} {n : Nat} : ∀ k x, lawUp t n k x = true → lv t n (k + 1) x = lv t n k x
  | 0, x, h => by simp [lawUp] at h
  | k + 1, x, h => by
    show (if x = 0 then 0 else match upOf t x n with | none => 0 | some p => lv t n (k + 1) p + 1) = (if x = 0 then 0 else match upOf t x n with | none => 0 | some p => lv t n k p + 1)
    unfold lawUp at h
    by_cases e : x = 0
    · rw [if_pos e, if_pos e]
    · rw [if_neg e] at h
      rw [if_neg e, if_neg e]
      cases u : upOf t x n with
      | none => rfl
      | some p =>
        rw [u] at h
        show lv t n (k + 1) p + 1 = lv t n k p + 1
        rw [lv_more k p h]
theorem lv_lt {t : Nat → Nd} {n : Nat} : ∀ k x, lawUp t n k x = true → lv t n k x < k
  | 0, x, h => by simp [lawUp] at h
  | k + 1, x, h => by
    rw [lv]
    unfold lawUp at h
    by_cases e : x = 0
    · rw [if_pos e]; exact Nat.succ_pos k
    · rw [if_neg e] at h
      rw [if_neg e]
      cases u : upOf t x n with
      | none => rw [u] at h; cases h
      | some p =>
        rw [u] at h
        have := lv_lt k p h
        show lv t n k p + 1 < k + 1
        omega
def lvl (t : Nat → Nd) (n x : Nat) : Nat := lv t n (n + 1) x
theorem MayT.lvl_le {F : Int} {t : Nat → Nd} {n : Nat} (h : MayT F t n) {x : Nat} (hx : x < n) : lvl t n x ≤ n := by
  have := lv_lt (n + 1) x (h.up x hx)
  unfold lvl
  omega
theorem MayT.lvl_kid {F : Int} {t : Nat → Nd} {n : Nat} (h : MayT F t n) {y x : Nat} (hy : y < n) (hx : x < n) (h1 : 1 ≤ x) (hk : kid t y x) : lvl t n x = lvl t n y + 1 := by
  have hu := h.up x hx
  unfold lvl
  unfold lawUp at hu
  rw [if_neg (by omega)] at hu
  cases u : upOf t x n with
  | none => rw [u] at hu; cases hu
  | some p =>
    rw [u] at hu
    obtain ⟨p1, p2⟩ := upOf_some u
    have : p = y := h.once.one h1 hx p1 hy p2 hk
    subst this
    rw [lv, if_neg (by omega), u]
    show lv t n n p + 1 = lv t n (n + 1) p + 1
    rw [lv_more n p hu]
def goL (a : Nd) (c : Cl) : Bool := if a.leaf = true then false else if c.miss = true then a.miss else decide (c.val < a.cut)
def nxt (a : Nd) (r : Nat → Cl) : Nat := if goL a (r a.feat.toNat) = true then a.left.toNat else a.right.toNat
def wayN (t : Nat → Nd) (r : Nat → Cl) : Nat → Nat → List Nat
  | 0, x => [x]
  | k + 1, x => if (t x).leaf = true then [x] else x :: wayN t r k (nxt (t x) r)
theorem nxt_kid {t : Nat → Nd} {n x : Nat} (hN : Named t n) (hx : x < n) (hl : (t x).leaf = false) (r : Nat → Cl) : 1 ≤ nxt (t x) r ∧ nxt (t x) r < n ∧ kid t x (nxt (t x) r) := by
  have := hN x hx hl
  unfold nxt
  by_cases g : goL (t x) (r (t x).feat.toNat) = true
  · rw [if_pos g]
    exact ⟨by omega, by omega, hl, .inl (by omega)⟩
  · rw [if_neg g]
    exact ⟨by omega, by omega, hl, .inr (by omega)⟩
theorem MayT.nxt {F : Int} {t : Nat → Nd} {n : Nat} (h : MayT F t n) {x : Nat} (hx : x < n) (hl : (t x).leaf = false) (r : Nat → Cl) : Go.Proofs.YtgddiimnpliolaaDoor.nxt (t x) r < n ∧ lvl t n (Go.Proofs.YtgddiimnpliolaaDoor.nxt (t x) r) = lvl t n x + 1 := by
  obtain ⟨h1, h2, h3⟩ := nxt_kid h.named hx hl r
  exact ⟨h2, h.lvl_kid hx h2 h1 h3⟩
theorem MayT.way_more {F : Int} {t : Nat → Nd} {n : Nat} (h : MayT F t n) (r : Nat → Cl) : ∀ k x, x < n → n + 1 ≤ lvl t n x + k → wayN t r (k + 1) x = wayN t r k x
  | 0, x, hx, hk => by have := h.lvl_le hx; omega
  | k + 1, x, hx, hk => by
    show (if (t x).leaf = true then [x] else x :: wayN t r (k + 1) (Go.Proofs.YtgddiimnpliolaaDoor.nxt (t x) r)) = (if (t x).leaf = true then [x] else x :: wayN t r k (Go.Proofs.YtgddiimnpliolaaDoor.nxt (t x) r))
    cases hl : (t x).leaf with
    | true => rfl
    | false =>
      obtain ⟨a, b⟩ := h.nxt hx hl r
      rw [if_neg (by simp), if_neg (by simp), h.way_more r k _ a (by omega)]
theorem MayT.way_plus {F : Int} {t : Nat → Nd} {n : Nat} (h : MayT F t n) (r : Nat → Cl) {k x : Nat} (hx : x < n) (hk : n + 1 ≤ lvl t n x + k) : ∀ d, wayN t r (k + d) x = wayN t r k x
  | 0 => rfl
  | d + 1 => by rw [← Nat.add_assoc, h.way_more r (k + d) x hx (by omega), h.way_plus r hx hk d]
def way (t : Nat → Nd) (n : Nat) (r : Nat → Cl) (x : Nat) : List Nat := wayN t r (n + 1) x
theorem way_leaf {t : Nat → Nd} {n x : Nat} {r : Nat → Cl} (hl : (t x).leaf = true) : way t n r x = [x] := by unfold way; rw [wayN, if_pos hl]
theorem MayT.way_split {F : Int} {t : Nat → Nd} {n : Nat} (h : MayT F t n) (r : Nat → Cl) {x : Nat} (hx : x < n) (hl : (t x).leaf = false) : way t n r x = x :: way t n r (Go.Proofs.YtgddiimnpliolaaDoor.nxt (t x) r) := by
  obtain ⟨a, b⟩ := h.nxt hx hl r
  unfold way
  rw [wayN, if_neg (by simp [hl]), h.way_more r n _ a (by omega)]
theorem MayT.way_ind {F : Int} {t : Nat → Nd} {n : Nat} (h : MayT F t n) (r : Nat → Cl) {P : Nat → Prop} (h0 : ∀ x, x < n → (t x).leaf = true → P x) (h1 : ∀ x, x < n → (t x).leaf = false → P (Go.Proofs.YtgddiimnpliolaaDoor.nxt (t x) r) → P x) : ∀ k x, x < n → n + 1 ≤ lvl t n x + k → P x
  | 0, x, hx, hk => by have := h.lvl_le hx; omega
  | k + 1, x, hx, hk => by
    cases hl : (t x).leaf with
    | true => exact h0 x hx hl
    | false =>
      obtain ⟨a, b⟩ := h.nxt hx hl r
      exact h1 x hx hl (h.way_ind r h0 h1 k _ a (by omega))
theorem MayT.by_way {F : Int} {t : Nat → Nd} {n : Nat} (h : MayT F t n) (r : Nat → Cl) {P : Nat → Prop} (h0 : ∀ x, x < n → (t x).leaf = true → P x) (h1 : ∀ x, x < n → (t x).leaf = false → P (Go.Proofs.YtgddiimnpliolaaDoor.nxt (t x) r) → P x) {x : Nat} (hx : x < n) : P x := h.way_ind r h0 h1 (n + 1) x hx (by omega)
def wlast (t : Nat → Nd) (n : Nat) (r : Nat → Cl) (x : Nat) : Nat := (way t n r x).getLastD 0
theorem wlast_leaf {t : Nat → Nd} {n x : Nat} {r : Nat → Cl} (hl : (t x).leaf = true) : wlast t n r x = x := by unfold wlast; rw [way_leaf hl]; rfl
theorem way_ne (t : Nat → Nd) (n : Nat) (r : Nat → Cl) (x : Nat) : way t n r x ≠ [] := by
  unfold way
  rw [wayN]
  by_cases e : (t x).leaf = true
  · rw [if_pos e]; simp
  · rw [if_neg e]; simp
theorem MayT.wlast_split {F : Int} {t : Nat → Nd} {n : Nat} (h : MayT F t n) (r : Nat → Cl) {x : Nat} (hx : x < n) (hl : (t x).leaf = false) : wlast t n r x = wlast t n r (Go.Proofs.YtgddiimnpliolaaDoor.nxt (t x) r) := by
  unfold wlast
  rw [h.way_split r hx hl]
  have := way_ne t n r (Go.Proofs.YtgddiimnpliolaaDoor.nxt (t x) r)
  cases e : way t n r (Go.Proofs.YtgddiimnpliolaaDoor.nxt (t x) r) with
  | nil => exact absurd e this
  | cons a l => simp [List.getLastD]
theorem MayT.wlast_is {F : Int} {t : Nat → Nd} {n : Nat} (h : MayT F t n) (r : Nat → Cl) {x : Nat} (hx : x < n) : wlast t n r x < n ∧ (t (wlast t n r x)).leaf = true :=
  h.by_way r (P := fun x => wlast t n r x < n ∧ (t (wlast t n r x)).leaf = true) (fun x hx hl => by rw [wlast_leaf hl]; exact ⟨hx, hl⟩) (fun x hx hl ih => by rw [h.wlast_split r hx hl]; exact ih) hx
theorem MayT.way_len {F : Int} {t : Nat → Nd} {n : Nat} (h : MayT F t n) (r : Nat → Cl) {x : Nat} (hx : x < n) : (way t n r x).length + lvl t n x ≤ n + 1 :=
  h.by_way r (P := fun x => (way t n r x).length + lvl t n x ≤ n + 1) (fun x hx hl => by have := h.lvl_le hx; rw [way_leaf hl]; simp; omega) (fun x hx hl ih => by
    have := (h.nxt hx hl r).2
    rw [h.way_split r hx hl]
    simp only [List.length_cons]
    omega) hx
theorem MayT.way_small {F : Int} {t : Nat → Nd} {n : Nat} (h : MayT F t n) (r : Nat → Cl) {x : Nat} (hx : x < n) : ∀ y ∈ way t n r x, y < n :=
  h.by_way r (P := fun x => ∀ y ∈ way t n r x, y < n) (fun x hx hl => by rw [way_leaf hl]; simp; exact hx) (fun x hx hl ih => by
    rw [h.way_split r hx hl]
    intro y hy
    rw [List.mem_cons] at hy
    rcases hy with rfl | hy
    · exact hx
    · exact ih y hy) hx
def leafV (T : Nat → Nat → Nd) (N : Nat → Nat) (r : Nat → Cl) (i : Nat) : Rat := (T i (wlast (T i) (N i) r 0)).val
def predN (T : Nat → Nat → Nd) (N : Nat → Nat) (r : Nat → Cl) : Nat → Rat
  | 0 => 0
  | k + 1 => predN T N r k + leafV T N r k

def kl (t : Nat → Nd) (x : Nat) : Nat := (t x).left.toNat
def kr (t : Nat → Nd) (x : Nat) : Nat := (t x).right.toNat
theorem MayT.kids {F : Int} {t : Nat → Nd} {n : Nat} (h : MayT F t n) {x : Nat} (hx : x < n) (hl : (t x).leaf = false) : (t x).left = (kl t x : Int) ∧ (t x).right = (kr t x : Int) ∧ 1 ≤ kl t x ∧ kl t x < n ∧ 1 ≤ kr t x ∧ kr t x < n ∧ lvl t n (kl t x) = lvl t n x + 1 ∧ lvl t n (kr t x) = lvl t n x + 1 := by
  have hN := h.named x hx hl
  have e1 : (t x).left = (kl t x : Int) := by unfold kl; omega
  have e2 : (t x).right = (kr t x : Int) := by unfold kr; omega
  have a1 : 1 ≤ kl t x := by omega
  have a2 : kl t x < n := by omega
  have a3 : 1 ≤ kr t x := by omega
  have a4 : kr t x < n := by omega
  exact ⟨e1, e2, a1, a2, a3, a4, h.lvl_kid hx a2 a1 ⟨hl, .inl e1⟩, h.lvl_kid hx a4 a3 ⟨hl, .inr e2⟩⟩
theorem MayT.tree_ind {F : Int} {t : Nat → Nd} {n : Nat} (h : MayT F t n) {P : Nat → Prop} (h0 : ∀ x, x < n → (t x).leaf = true → P x) (h1 : ∀ x, x < n → (t x).leaf = false → P (kl t x) → P (kr t x) → P x) : ∀ k x, x < n → n + 1 ≤ lvl t n x + k → P x
  | 0, x, hx, hk => by have := h.lvl_le hx; omega
  | k + 1, x, hx, hk => by
    cases hl : (t x).leaf with
    | true => exact h0 x hx hl
    | false =>
      obtain ⟨_, _, _, a2, _, a4, b1, b2⟩ := h.kids hx hl
      exact h1 x hx hl (h.tree_ind h0 h1 k _ a2 (by omega)) (h.tree_ind h0 h1 k _ a4 (by omega))
theorem MayT.by_tree {F : Int} {t : Nat → Nd} {n : Nat} (h : MayT F t n) {P : Nat → Prop} (h0 : ∀ x, x < n → (t x).leaf = true → P x) (h1 : ∀ x, x < n → (t x).leaf = false → P (kl t x) → P (kr t x) → P x) {x : Nat} (hx : x < n) : P x := h.tree_ind h0 h1 (n + 1) x hx (by omega)
def preN (t : Nat → Nd) : Nat → Nat → List Nat
  | 0, x => [x]
  | k + 1, x => if (t x).leaf = true then [x] else x :: (preN t k (kl t x) ++ preN t k (kr t x))
theorem MayT.pre_more {F : Int} {t : Nat → Nd} {n : Nat} (h : MayT F t n) : ∀ k x, x < n → n + 1 ≤ lvl t n x + k → preN t (k + 1) x = preN t k x
  | 0, x, hx, hk => by have := h.lvl_le hx; omega
  | k + 1, x, hx, hk => by
    show (if (t x).leaf = true then [x] else x :: (preN t (k + 1) (kl t x) ++ preN t (k + 1) (kr t x))) = (if (t x).leaf = true then [x] else x :: (preN t k (kl t x) ++ preN t k (kr t x)))
    cases hl : (t x).leaf with
    | true => rfl
    | false =>
      obtain ⟨_, _, _, a2, _, a4, b1, b2⟩ := h.kids hx hl
      rw [if_neg (by simp), if_neg (by simp), h.pre_more k _ a2 (by omega), h.pre_more k _ a4 (by omega)]
def pre (t : Nat → Nd) (n x : Nat) : List Nat := preN t (n + 1) x
theorem pre_leaf {t : Nat → Nd} {n x : Nat} (hl : (t x).leaf = true) : pre t n x = [x] := by unfold pre; rw [preN, if_pos hl]
theorem MayT.pre_split {F : Int} {t : Nat → Nd} {n : Nat} (h : MayT F t n) {x : Nat} (hx : x < n) (hl : (t x).leaf = false) : pre t n x = x :: (pre t n (kl t x) ++ pre t n (kr t x)) := by
  obtain ⟨_, _, _, a2, _, a4, b1, b2⟩ := h.kids hx hl
  unfold pre
  rw [preN, if_neg (by simp [hl]), h.pre_more n _ a2 (by omega), h.pre_more n _ a4 (by omega)]
def lvs (t : Nat → Nd) (n x : Nat) : List Nat := (pre t n x).filter (fun y => (t y).leaf)
theorem lvs_leaf {t : Nat → Nd} {n x : Nat} (hl : (t x).leaf = true) : lvs t n x = [x] := by unfold lvs; rw [pre_leaf hl]; simp [hl]
theorem MayT.lvs_split {F : Int} {t : Nat → Nd} {n : Nat} (h : MayT F t n) {x : Nat} (hx : x < n) (hl : (t x).leaf = false) : lvs t n x = lvs t n (kl t x) ++ lvs t n (kr t x) := by
  unfold lvs
  rw [h.pre_split hx hl]
  simp [hl]
theorem MayT.count {F : Int} {t : Nat → Nd} {n : Nat} (h : MayT F t n) {x : Nat} (hx : x < n) : 2 * (lvs t n x).length = (pre t n x).length + 1 :=
  h.by_tree (P := fun x => 2 * (lvs t n x).length = (pre t n x).length + 1) (fun x hx hl => by rw [lvs_leaf hl, pre_leaf hl]; rfl) (fun x hx hl a b => by
    rw [h.lvs_split hx hl, h.pre_split hx hl]
    simp only [List.length_append, List.length_cons]
    omega) hx
def covS (t : Nat → Nd) : List Nat → Rat
  | [] => 0
  | x :: l => covS t l + (t x).cov
theorem covS_app (t : Nat → Nd) : ∀ l l', covS t (l ++ l') = covS t l + covS t l'
  | [], l' => by show covS t l' = 0 + covS t l'; rw [Rat.zero_add]
  | x :: l, l' => by
    show covS t (l ++ l') + (t x).cov = covS t l + (t x).cov + covS t l'
    rw [covS_app t l l']
    grind
theorem MayT.covers {F : Int} {t : Nat → Nd} {n : Nat} (h : MayT F t n) {x : Nat} (hx : x < n) : covS t (lvs t n x) = (t x).cov :=
  h.by_tree (P := fun x => covS t (lvs t n x) = (t x).cov) (fun x hx hl => by rw [lvs_leaf hl]; show 0 + (t x).cov = _; rw [Rat.zero_add]) (fun x hx hl a b => by
    rw [h.lvs_split hx hl, covS_app, a, b]
    exact (h.parts x hx hl).symm) hx
def dpN (t : Nat → Nd) : Nat → Nat → Nat
  | 0, _ => 0
  | k + 1, x => if (t x).leaf = true then 0 else max (dpN t k (kl t x)) (dpN t k (kr t x)) + 1
theorem MayT.dp_more {F : Int} {t : Nat → Nd} {n : Nat} (h : MayT F t n) : ∀ k x, x < n → n + 1 ≤ lvl t n x + k → dpN t (k + 1) x = dpN t k x
  | 0, x, hx, hk => by have := h.lvl_le hx; omega
  | k + 1, x, hx, hk => by
    show (if (t x).leaf = true then 0 else max (dpN t (k + 1) (kl t x)) (dpN t (k + 1) (kr t x)) + 1) = (if (t x).leaf = true then 0 else max (dpN t k (kl t x)) (dpN t k (kr t x)) + 1)
    cases hl : (t x).leaf with
    | true => rfl
    | false =>
      obtain ⟨_, _, _, a2, _, a4, b1, b2⟩ := h.kids hx hl
      rw [if_neg (by simp), if_neg (by simp), h.dp_more k _ a2 (by omega), h.dp_more k _ a4 (by omega)]
def dp (t : Nat → Nd) (n x : Nat) : Nat := dpN t (n + 1) x
theorem dp_leaf {t : Nat → Nd} {n x : Nat} (hl : (t x).leaf = true) : dp t n x = 0 := by unfold dp; rw [dpN, if_pos hl]
theorem MayT.dp_split {F : Int} {t : Nat → Nd} {n : Nat} (h : MayT F t n) {x : Nat} (hx : x < n) (hl : (t x).leaf = false) : dp t n x = max (dp t n (kl t x)) (dp t n (kr t x)) + 1 := by
  obtain ⟨_, _, _, a2, _, a4, b1, b2⟩ := h.kids hx hl
  unfold dp
  rw [dpN, if_neg (by simp [hl]), h.dp_more n _ a2 (by omega), h.dp_more n _ a4 (by omega)]
theorem MayT.dp_le {F : Int} {t : Nat → Nd} {n : Nat} (h : MayT F t n) {x : Nat} (hx : x < n) : dp t n x + lvl t n x ≤ n :=
  h.by_tree (P := fun x => dp t n x + lvl t n x ≤ n) (fun x hx hl => by rw [dp_leaf hl]; have := h.lvl_le hx; omega) (fun x hx hl a b => by
    obtain ⟨_, _, _, _, _, _, b1, b2⟩ := h.kids hx hl
    rw [h.dp_split hx hl]
    omega) hx
theorem MayT.dp_max {F : Int} {t : Nat → Nd} {n : Nat} (h : MayT F t n) {x : Nat} (hx : x < n) : (∀ y ∈ pre t n x, lvl t n y ≤ lvl t n x + dp t n x) ∧ ∃ y ∈ pre t n x, lvl t n y = lvl t n x + dp t n x :=
  h.by_tree (P := fun x => (∀ y ∈ pre t n x, lvl t n y ≤ lvl t n x + dp t n x) ∧ ∃ y ∈ pre t n x, lvl t n y = lvl t n x + dp t n x) (fun x hx hl => by
    rw [pre_leaf hl, dp_leaf hl]
    exact ⟨fun y hy => by simp at hy; rw [hy]; exact Nat.le_refl _, x, by simp, rfl⟩) (fun x hx hl a b => by
    obtain ⟨_, _, _, _, _, _, b1, b2⟩ := h.kids hx hl
    rw [h.pre_split hx hl, h.dp_split hx hl]
    refine ⟨fun y hy => ?_, ?_⟩
    · simp only [List.mem_cons, List.mem_append] at hy
      rcases hy with rfl | hy | hy
      · omega
      · have := a.1 y hy; omega
      · have := b.1 y hy; omega
    · obtain ⟨y, hy, ey⟩ := a.2
      obtain ⟨z, hz, ez⟩ := b.2
      by_cases c : dp t n (kr t x) ≤ dp t n (kl t x)
      · exact ⟨y, by simp [hy], by omega⟩
      · exact ⟨z, by simp [hz], by omega⟩) hx

def inS (s f : Nat) : Bool := decide (s / 2 ^ f % 2 = 1)
theorem inS_none (f : Nat) : inS 0 f = false := by
  unfold inS
  rw [Nat.zero_div]
  rfl
theorem inS_all {f : Nat} (h : f < 64) : inS 18446744073709551615 f = true := by
  have : ∀ f : Fin 64, inS 18446744073709551615 f.1 = true := by decide +kernel
  exact this ⟨f, h⟩
def sayN (t : Nat → Nd) (r : Nat → Cl) (s : Nat) : Nat → Nat → Rat
  | 0, _ => 0
  | k + 1, x => if (t x).leaf = true then (t x).val else if inS s (t x).feat.toNat = true then sayN t r s k (nxt (t x) r) else ((t (kl t x)).cov * sayN t r s k (kl t x) + (t (kr t x)).cov * sayN t r s k (kr t x)) / (t x).cov
theorem MayT.say_more {F : Int} {t : Nat → Nd} {n : Nat} (h : MayT F t n) (r : Nat → Cl) (s : Nat) : ∀ k x, x < n → n + 1 ≤ lvl t n x + k → sayN t r s (k + 1) x = sayN t r s k x
  | 0, x, hx, hk => by have := h.lvl_le hx; omega
  | k + 1, x, hx, hk => by
    show (if (t x).leaf = true then (t x).val else if inS s (t x).feat.toNat = true then sayN t r s (k + 1) (Go.Proofs.YtgddiimnpliolaaDoor.nxt (t x) r) else ((t (kl t x)).cov * sayN t r s (k + 1) (kl t x) + (t (kr t x)).cov * sayN t r s (k + 1) (kr t x)) / (t x).cov) = (if (t x).leaf = true then (t x).val else if inS s (t x).feat.toNat = true then sayN t r s k (Go.Proofs.YtgddiimnpliolaaDoor.nxt (t x) r) else ((t (kl t x)).cov * sayN t r s k (kl t x) + (t (kr t x)).cov * sayN t r s k (kr t x)) / (t x).cov)
    cases hl : (t x).leaf with
    | true => rfl
    | false =>
      obtain ⟨_, _, _, a2, _, a4, b1, b2⟩ := h.kids hx hl
      obtain ⟨c1, c2⟩ := h.nxt hx hl r
      rw [h.say_more r s k _ a2 (by omega), h.say_more r s k _ a4 (by omega), h.say_more r s k _ c1 (by omega)]
def say (t : Nat → Nd) (n : Nat) (r : Nat → Cl) (s x : Nat) : Rat := sayN t r s (n + 1) x
theorem say_leaf {t : Nat → Nd} {n : Nat} {r : Nat → Cl} {s x : Nat} (hl : (t x).leaf = true) : say t n r s x = (t x).val := by unfold say; rw [sayN, if_pos hl]
theorem MayT.say_in {F : Int} {t : Nat → Nd} {n : Nat} (h : MayT F t n) (r : Nat → Cl) {s x : Nat} (hx : x < n) (hl : (t x).leaf = false) (hi : inS s (t x).feat.toNat = true) : say t n r s x = say t n r s (Go.Proofs.YtgddiimnpliolaaDoor.nxt (t x) r) := by
  obtain ⟨c1, c2⟩ := h.nxt hx hl r
  unfold say
  rw [sayN, if_neg (by simp [hl]), if_pos hi, h.say_more r s n _ c1 (by omega)]
theorem MayT.say_out {F : Int} {t : Nat → Nd} {n : Nat} (h : MayT F t n) (r : Nat → Cl) {s x : Nat} (hx : x < n) (hl : (t x).leaf = false) (hi : inS s (t x).feat.toNat = false) : say t n r s x = ((t (kl t x)).cov * say t n r s (kl t x) + (t (kr t x)).cov * say t n r s (kr t x)) / (t x).cov := by
  obtain ⟨_, _, _, a2, _, a4, b1, b2⟩ := h.kids hx hl
  unfold say
  rw [sayN, if_neg (by simp [hl]), if_neg (by simp [hi]), h.say_more r s n _ a2 (by omega), h.say_more r s n _ a4 (by omega)]
theorem mean_eq (a b c x y : Rat) : (a * x + b * y) / c = a / c * x + b / c * y := by
  simp only [Rat.div_def]
  grind
theorem MayT.say_all {F : Int} {t : Nat → Nd} {n : Nat} (h : MayT F t n) (hF : F ≤ 64) (r : Nat → Cl) {x : Nat} (hx : x < n) : say t n r 18446744073709551615 x = (t (wlast t n r x)).val :=
  h.by_way r (P := fun x => say t n r 18446744073709551615 x = (t (wlast t n r x)).val) (fun x hx hl => by rw [say_leaf hl, wlast_leaf hl]) (fun x hx hl ih => by
    have hf := h.feat x hx hl
    rw [h.say_in r hx hl (inS_all (by omega)), ih, h.wlast_split r hx hl]) hx
def wsL (t : Nat → Nd) : List Nat → Rat
  | [] => 0
  | x :: l => (t x).val * (t x).cov + wsL t l
theorem wsL_app (t : Nat → Nd) : ∀ l l', wsL t (l ++ l') = wsL t l + wsL t l'
  | [], l' => by show wsL t l' = 0 + wsL t l'; rw [Rat.zero_add]
  | x :: l, l' => by
    show (t x).val * (t x).cov + wsL t (l ++ l') = (t x).val * (t x).cov + wsL t l + wsL t l'
    rw [wsL_app t l l', Rat.add_assoc]
def ws (t : Nat → Nd) (n x : Nat) : Rat := wsL t (lvs t n x)
theorem ws_leaf {t : Nat → Nd} {n x : Nat} (hl : (t x).leaf = true) : ws t n x = (t x).val * (t x).cov := by
  unfold ws
  rw [lvs_leaf hl]
  show _ + (0 : Rat) = _
  rw [Rat.add_zero]
theorem MayT.ws_split {F : Int} {t : Nat → Nd} {n : Nat} (h : MayT F t n) {x : Nat} (hx : x < n) (hl : (t x).leaf = false) : ws t n x = ws t n (kl t x) + ws t n (kr t x) := by
  unfold ws
  rw [h.lvs_split hx hl, wsL_app]
theorem MayT.say_none {F : Int} {t : Nat → Nd} {n : Nat} (h : MayT F t n) (r : Nat → Cl) {x : Nat} (hx : x < n) : say t n r 0 x = ws t n x / (t x).cov :=
  h.by_tree (P := fun x => say t n r 0 x = ws t n x / (t x).cov) (fun x hx hl => by
    have hc := h.cov x hx
    rw [say_leaf hl, ws_leaf hl, Rat.div_def, Rat.mul_assoc, Rat.mul_inv_cancel _ (by grind), Rat.mul_one]) (fun x hx hl a b => by
    obtain ⟨_, _, _, a2, _, a4, _, _⟩ := h.kids hx hl
    have c1 := h.cov _ a2
    have c2 := h.cov _ a4
    have key : ∀ u v : Rat, 0 < u → u * (v / u) = v := fun u v hu => by
      rw [Rat.div_def, Rat.mul_comm v, ← Rat.mul_assoc, Rat.mul_inv_cancel _ (by grind), Rat.one_mul]
    rw [h.say_out r hx hl (inS_none _), a, b, h.ws_split hx hl, key _ _ c1, key _ _ c2]) hx
def kidS (t : Nat → Nd) (r : Nat → Cl) (s x : Nat) : List Nat := if (t x).leaf = true then [] else if inS s (t x).feat.toNat = true then [nxt (t x) r] else [kl t x, kr t x]
theorem MayT.kl_ne_kr {F : Int} {t : Nat → Nd} {n : Nat} (h : MayT F t n) {x : Nat} (hx : x < n) (hl : (t x).leaf = false) : kl t x ≠ kr t x := fun e => by
  obtain ⟨e1, e2, l1, l2, _, _, _, _⟩ := h.kids hx hl
  rw [← e] at e2
  have a := kc_two hl e1 e2
  have b := par_ge (t := t) (x := kl t x) (y := x) n hx
  have c := h.once _ l1 l2
  omega
theorem MayT.kidS_is {F : Int} {t : Nat → Nd} {n : Nat} (h : MayT F t n) (r : Nat → Cl) (s : Nat) {x : Nat} (hx : x < n) : (kidS t r s x).Nodup ∧ ∀ c ∈ kidS t r s x, 1 ≤ c ∧ c < n ∧ kid t x c := by
  unfold kidS
  cases hl : (t x).leaf with
  | true => exact ⟨by simp, by simp⟩
  | false =>
    rw [if_neg (by simp)]
    obtain ⟨e1, e2, l1, l2, l3, l4, _, _⟩ := h.kids hx hl
    by_cases hi : inS s (t x).feat.toNat = true
    · rw [if_pos hi]
      have := nxt_kid h.named hx hl r
      exact ⟨by simp, by simpa using this⟩
    · rw [if_neg hi]
      refine ⟨by simp [h.kl_ne_kr hx hl], fun c hc => ?_⟩
      simp only [List.mem_cons, List.not_mem_nil, or_false] at hc
      rcases hc with rfl | rfl
      · exact ⟨l1, l2, hl, .inl e1⟩
      · exact ⟨l3, l4, hl, .inr e2⟩
structure QInv (t : Nat → Nd) (n : Nat) (r : Nat → Cl) (s : Nat) (out : List Nat) (k : Nat) : Prop where
  le : k ≤ out.length
  root : out[0]? = some 0
  small : ∀ x ∈ out, x < n
  nodup : out.Nodup
  up : ∀ x ∈ out, x ≠ 0 → ∃ j y : Nat, j < k ∧ out[j]? = some y ∧ kid t y x
  kids : ∀ j y : Nat, j < k → out[j]? = some y → ∀ c ∈ kidS t r s y, ∃ m : Nat, j < m ∧ out[m]? = some c
theorem QInv.start {t : Nat → Nd} {n : Nat} {r : Nat → Cl} {s : Nat} (hn : 0 < n) : QInv t n r s [0] 0 :=
  ⟨by simp, rfl, by simp; exact hn, by simp, fun x hx h0 => by simp at hx; exact absurd hx h0, fun j y hj => by omega⟩
theorem QInv.len {t : Nat → Nd} {n : Nat} {r : Nat → Cl} {s : Nat} {out : List Nat} {k : Nat} (h : QInv t n r s out k) : out.length ≤ n := nodup_len n _ h.nodup h.small
theorem QInv.step {F : Int} {t : Nat → Nd} {n : Nat} {r : Nat → Cl} {s : Nat} {out : List Nat} {k x : Nat} (hm : MayT F t n) (h : QInv t n r s out k) (hx : out[k]? = some x) : QInv t n r s (out ++ kidS t r s x) (k + 1) := by
  have hk : k < out.length := (List.getElem?_eq_some_iff.1 hx).1
  have hxn : x < n := h.small x (List.mem_of_getElem? hx)
  obtain ⟨kn, kk⟩ := hm.kidS_is r s hxn
  have fresh : ∀ c ∈ kidS t r s x, c ∉ out := fun c hc hco => by
    obtain ⟨c1, c2, c3⟩ := kk c hc
    obtain ⟨j, y, hj, hy, ky⟩ := h.up c hco (by omega)
    have hyn : y < n := h.small y (List.mem_of_getElem? hy)
    have e := hm.once.one c1 c2 hyn hxn ky c3
    subst e
    have := (List.getElem?_inj (i := j) (j := k) (l := out) (by omega) h.nodup).1 (hy.trans hx.symm)
    omega
  refine ⟨by simp; omega, ?_, fun y hy => ?_, ?_, fun y hy h0 => ?_, fun j y hj hy c hc => ?_⟩
  · rw [List.getElem?_append_left (by omega)]; exact h.root
  · rcases List.mem_append.1 hy with g | g
    · exact h.small y g
    · exact (kk y g).2.1
  · rw [List.nodup_append]
    exact ⟨h.nodup, kn, fun a ha b hb e => fresh b hb (e ▸ ha)⟩
  · rcases List.mem_append.1 hy with g | g
    · obtain ⟨j, z, a, b, c⟩ := h.up y g h0
      exact ⟨j, z, by omega, by rw [List.getElem?_append_left (by omega)]; exact b, c⟩
    · exact ⟨k, x, by omega, by rw [List.getElem?_append_left hk]; exact hx, (kk y g).2.2⟩
  · by_cases e : j < k
    · rw [List.getElem?_append_left (by omega)] at hy
      obtain ⟨m, a, b⟩ := h.kids j y e hy c hc
      have hml := (List.getElem?_eq_some_iff.1 b).1
      exact ⟨m, a, by rw [List.getElem?_append_left hml]; exact b⟩
    · obtain rfl : j = k := by omega
      rw [List.getElem?_append_left hk, hx] at hy
      cases hy
      obtain ⟨m, hm2⟩ := List.getElem?_of_mem hc
      exact ⟨out.length + m, by omega, by rw [List.getElem?_append_right (by omega), Nat.add_sub_cancel_left]; exact hm2⟩
def Beh (K : Nat → List Nat) : List Nat → Prop
  | [] => True
  | y :: l => (∀ c ∈ K y, c ∈ l) ∧ y ∉ l ∧ Beh K l
theorem QInv.beh {t : Nat → Nd} {n : Nat} {r : Nat → Cl} {s : Nat} {out : List Nat} (h : QInv t n r s out out.length) : Beh (kidS t r s) out := by
  have key : ∀ d k, k + d = out.length → Beh (kidS t r s) (out.drop k) := by
    intro d
    induction d with
    | zero => intro k hk; rw [List.drop_of_length_le (by omega)]; trivial
    | succ d ih =>
      intro k hk
      have hkl : k < out.length := by omega
      rw [List.drop_eq_getElem_cons hkl]
      refine ⟨fun c hc => ?_, fun hm => ?_, ih (k + 1) (by omega)⟩
      · obtain ⟨m, a, b⟩ := h.kids k _ hkl (List.getElem?_eq_getElem hkl) c hc
        rw [List.mem_iff_getElem?]
        exact ⟨m - (k + 1), by rw [List.getElem?_drop, show k + 1 + (m - (k + 1)) = m by omega]; exact b⟩
      · obtain ⟨m, hm2⟩ := List.mem_iff_getElem?.1 hm
        rw [List.getElem?_drop] at hm2
        have hl2 := (List.getElem?_eq_some_iff.1 hm2).1
        have := (List.getElem?_inj (i := k + 1 + m) (j := k) (l := out) hl2 h.nodup).1 (hm2.trans (List.getElem?_eq_getElem hkl).symm)
        omega
  have := key out.length 0 (by omega)
  simpa using this
theorem QInv.all {F : Int} {t : Nat → Nd} {n : Nat} {r : Nat → Cl} {out : List Nat} (hm : MayT F t n) (h : QInv t n r 0 out out.length) : ∀ x, x < n → x ∈ out := by
  suffices ∀ k x, x < n → lvl t n x ≤ k → x ∈ out from fun x hx => this _ x hx (Nat.le_refl _)
  intro k
  induction k with
  | zero =>
    intro x hx hk
    by_cases e : x = 0
    · subst e; exact List.mem_of_getElem? h.root
    · have hu := hm.up x hx
      unfold lawUp at hu
      rw [if_neg e] at hu
      cases u : upOf t x n with
      | none => rw [u] at hu; cases hu
      | some p =>
        obtain ⟨p1, p2⟩ := upOf_some u
        have := hm.lvl_kid p1 hx (by omega) p2
        omega
  | succ k ih =>
    intro x hx hk
    by_cases e : x = 0
    · subst e; exact List.mem_of_getElem? h.root
    · have hu := hm.up x hx
      unfold lawUp at hu
      rw [if_neg e] at hu
      cases u : upOf t x n with
      | none => rw [u] at hu; cases hu
      | some p =>
        obtain ⟨p1, p2⟩ := upOf_some u
        have hl := hm.lvl_kid p1 hx (by omega) p2
        obtain ⟨j, hj⟩ := List.getElem?_of_mem (ih p p1 (by omega))
        have hjl := (List.getElem?_eq_some_iff.1 hj).1
        obtain ⟨m, _, b⟩ := h.kids j p hjl hj x (by
          unfold kidS
          rw [if_neg (by simp [p2.1]), if_neg (by simp [inS_none])]
          unfold kl kr
          rcases p2.2 with g | g
          · simp; omega
          · simp; omega)
        exact List.mem_of_getElem? b
theorem QInv.full {F : Int} {t : Nat → Nd} {n : Nat} {r : Nat → Cl} {out : List Nat} (hm : MayT F t n) (h : QInv t n r 0 out out.length) : out.length = n := by
  have h1 := h.len
  have hp : out.Perm (List.range n) := by
    rw [List.perm_iff_count]
    intro a
    by_cases ha : a < n
    · rw [h.nodup.count, if_pos (h.all hm a ha), List.nodup_range.count, if_pos (List.mem_range.2 ha)]
    · have : a ∉ out := fun hh => ha (h.small a hh)
      rw [List.count_eq_zero_of_not_mem this, List.count_eq_zero_of_not_mem (by simpa using ha)]
  have h2 := hp.length_eq
  simp at h2
  omega
def stp (f : (Nat → Rat) → Nat → Rat) (q : Nat → Rat) (i : Nat) : Nat → Rat := fun j => if j = i then f q i else q j
def runB (f : (Nat → Rat) → Nat → Rat) (l : List Nat) : Nat → Rat := l.foldl (stp f) (fun _ => 0)
theorem runB_more (f : (Nat → Rat) → Nat → Rat) (l : List Nat) (i : Nat) : runB f (l ++ [i]) = stp f (runB f l) i := by
  unfold runB
  rw [List.foldl_append]
  rfl
theorem runB_is {f : (Nat → Rat) → Nat → Rat} {g : Nat → Rat} {K : Nat → List Nat} {n : Nat} (hf : ∀ q i, i < n → (∀ c ∈ K i, q c = g c) → f q i = g i) : ∀ l, (∀ x ∈ l, x < n) → Beh K l → ∀ y ∈ l, runB f l.reverse y = g y
  | [], _, _, y, hy => by cases hy
  | a :: l, hs, ⟨h1, h2, h3⟩, y, hy => by
    have ih := runB_is hf l (fun x hx => hs x (List.mem_cons_of_mem _ hx)) h3
    rw [List.reverse_cons, runB_more]
    unfold stp
    by_cases e : y = a
    · subst e
      rw [if_pos rfl]
      exact hf _ _ (hs _ (by simp)) (fun c hc => ih c (h1 c hc))
    · rw [if_neg e]
      exact ih y (by simpa [e] using hy)
theorem runB_sz {f : (Nat → Rat) → Nat → Rat} {b : Nat → Nat} {n : Nat} (h0 : ∀ i, 1 ≤ b i) (hf : ∀ q i, i < n → (∀ j, j < n → qsz (q j) ≤ b j) → qsz (f q i) ≤ b i) (l : List Nat) (hl : ∀ x ∈ l, x < n) : ∀ j, j < n → qsz (runB f l j) ≤ b j := by
  suffices ∀ (l : List Nat) (q : Nat → Rat), (∀ x ∈ l, x < n) → (∀ j, j < n → qsz (q j) ≤ b j) → ∀ j, j < n → qsz (l.foldl (stp f) q j) ≤ b j from this l _ hl (fun j hj => Nat.le_trans (qsz_int 0 (L := 1) (by decide) (by omega)) (h0 j))
  intro l
  induction l with
  | nil => intro q _ hq; exact hq
  | cons a l ih =>
    intro q hs hq
    refine ih _ (fun x hx => hs x (List.mem_cons_of_mem _ hx)) (fun j hj => ?_)
    unfold stp
    by_cases e : j = a
    · rw [if_pos e, e]
      exact hf q a (hs a (by simp)) hq
    · rw [if_neg e]
      exact hq j hj
def fSay (t : Nat → Nd) (r : Nat → Cl) (s : Nat) (q : Nat → Rat) (i : Nat) : Rat := if (t i).leaf = true then (t i).val else if inS s (t i).feat.toNat = true then q (nxt (t i) r) else (t (kl t i)).cov / (t i).cov * q (kl t i) + (t (kr t i)).cov / (t i).cov * q (kr t i)
theorem MayT.run_say {F : Int} {t : Nat → Nd} {n : Nat} {r : Nat → Cl} {s : Nat} {out : List Nat} (hm : MayT F t n) (h : QInv t n r s out out.length) : runB (fSay t r s) out.reverse 0 = say t n r s 0 := by
  refine runB_is (K := kidS t r s) (n := n) (fun q i hi hq => ?_) out h.small h.beh 0 (List.mem_of_getElem? h.root)
  unfold fSay
  unfold kidS at hq
  cases hl : (t i).leaf with
  | true => rw [if_pos rfl, say_leaf hl]
  | false =>
    rw [hl] at hq
    cases hi2 : inS s (t i).feat.toNat with
    | true =>
      rw [hi2] at hq
      rw [if_neg (by simp), if_pos rfl, hm.say_in r hi hl hi2]
      exact hq _ (by simp)
    | false =>
      rw [hi2] at hq
      rw [if_neg (by simp), if_neg (by simp), hm.say_out r hi hl hi2, mean_eq, hq _ (by simp), hq _ (by simp)]
def fSum (t : Nat → Nd) (q : Nat → Rat) (i : Nat) : Rat := if (t i).leaf = true then (t i).val * (t i).cov else q (kl t i) + q (kr t i)
theorem MayT.run_sum {F : Int} {t : Nat → Nd} {n : Nat} {r : Nat → Cl} {out : List Nat} (hm : MayT F t n) (h : QInv t n r 0 out out.length) {x : Nat} (hx : x < n) : runB (fSum t) out.reverse x = ws t n x := by
  refine runB_is (K := kidS t r 0) (n := n) (fun q i hi hq => ?_) out h.small h.beh x (h.all hm x hx)
  unfold fSum
  unfold kidS at hq
  cases hl : (t i).leaf with
  | true => rw [if_pos rfl, ws_leaf hl]
  | false =>
    rw [hl, inS_none] at hq
    rw [if_neg (by simp), hm.ws_split hi hl, hq _ (by simp), hq _ (by simp)]
def bnd (t : Nat → Nd) (n C x : Nat) : Nat := (pre t n x).length * C
theorem pre_pos (t : Nat → Nd) (n x : Nat) : 1 ≤ (pre t n x).length := by
  unfold pre
  rw [preN]
  by_cases e : (t x).leaf = true
  · rw [if_pos e]; simp
  · rw [if_neg e]; simp
theorem bnd_pos {t : Nat → Nd} {n C : Nat} (hC : 1 ≤ C) (x : Nat) : C ≤ bnd t n C x := by
  have := Nat.mul_le_mul_right C (pre_pos t n x)
  unfold bnd
  omega
theorem MayT.bnd_split {F : Int} {t : Nat → Nd} {n : Nat} (h : MayT F t n) (C : Nat) {x : Nat} (hx : x < n) (hl : (t x).leaf = false) : bnd t n C x = bnd t n C (kl t x) + bnd t n C (kr t x) + C := by
  unfold bnd
  rw [h.pre_split hx hl]
  simp only [List.length_cons, List.length_append, Nat.add_mul]
  omega
theorem MayT.bnd_nxt {F : Int} {t : Nat → Nd} {n : Nat} (h : MayT F t n) (C : Nat) (r : Nat → Cl) {x : Nat} (hx : x < n) (hl : (t x).leaf = false) : bnd t n C (Go.Proofs.YtgddiimnpliolaaDoor.nxt (t x) r) ≤ bnd t n C x := by
  rw [h.bnd_split C hx hl]
  unfold Go.Proofs.YtgddiimnpliolaaDoor.nxt
  by_cases g : goL (t x) (r (t x).feat.toNat) = true
  · rw [if_pos g]; unfold kl; omega
  · rw [if_neg g]; unfold kr; omega
theorem MayT.pre_sub {F : Int} {t : Nat → Nd} {n : Nat} (h : MayT F t n) {x : Nat} (hx : x < n) : ∀ y ∈ pre t n x, y < n ∧ (pre t n y).length ≤ (pre t n x).length ∧ ((t y).leaf = false → kl t y ∈ pre t n x ∧ kr t y ∈ pre t n x) :=
  h.by_tree (P := fun x => ∀ y ∈ pre t n x, y < n ∧ (pre t n y).length ≤ (pre t n x).length ∧ ((t y).leaf = false → kl t y ∈ pre t n x ∧ kr t y ∈ pre t n x)) (fun x hx hl y hy => by
    rw [pre_leaf hl] at hy
    simp at hy
    subst hy
    exact ⟨hx, Nat.le_refl _, fun g => by rw [hl] at g; cases g⟩) (fun x hx hl a b y hy => by
    have self : ∀ z, z ∈ pre t n z := fun z => by
      unfold pre
      rw [preN]
      by_cases e : (t z).leaf = true
      · rw [if_pos e]; simp
      · rw [if_neg e]; simp
    have s1 := self (kl t x)
    have s2 := self (kr t x)
    rw [h.pre_split hx hl] at hy ⊢
    simp only [List.mem_cons, List.mem_append, List.length_cons, List.length_append] at hy ⊢
    rcases hy with rfl | hy | hy
    · refine ⟨hx, ?_, fun _ => ⟨.inr (.inl s1), .inr (.inr s2)⟩⟩
      rw [h.pre_split hx hl]
      simp
    · obtain ⟨a1, a2, a3⟩ := a y hy
      exact ⟨a1, by omega, fun g => ⟨.inr (.inl (a3 g).1), .inr (.inl (a3 g).2)⟩⟩
    · obtain ⟨a1, a2, a3⟩ := b y hy
      exact ⟨a1, by omega, fun g => ⟨.inr (.inr (a3 g).1), .inr (.inr (a3 g).2)⟩⟩) hx
theorem MayT.pre_all {F : Int} {t : Nat → Nd} {n : Nat} (h : MayT F t n) : ∀ x, x < n → x ∈ pre t n 0 := by
  have h0 : 0 < n := h.pos
  suffices ∀ k x, x < n → lvl t n x ≤ k → x ∈ pre t n 0 from fun x hx => this _ x hx (Nat.le_refl _)
  have self : 0 ∈ pre t n 0 := by
    unfold pre
    rw [preN]
    by_cases e : (t 0).leaf = true
    · rw [if_pos e]; simp
    · rw [if_neg e]; simp
  intro k
  induction k with
  | zero =>
    intro x hx hk
    by_cases e : x = 0
    · subst e; exact self
    · have hu := h.up x hx
      unfold lawUp at hu
      rw [if_neg e] at hu
      cases u : upOf t x n with
      | none => rw [u] at hu; cases hu
      | some p =>
        obtain ⟨p1, p2⟩ := upOf_some u
        have := h.lvl_kid p1 hx (by omega) p2
        omega
  | succ k ih =>
    intro x hx hk
    by_cases e : x = 0
    · subst e; exact self
    · have hu := h.up x hx
      unfold lawUp at hu
      rw [if_neg e] at hu
      cases u : upOf t x n with
      | none => rw [u] at hu; cases hu
      | some p =>
        obtain ⟨p1, p2⟩ := upOf_some u
        have hl := h.lvl_kid p1 hx (by omega) p2
        have := ((h.pre_sub h0) p (ih p p1 (by omega))).2.2 p2.1
        rcases p2.2 with g | g
        · have e2 : kl t p = x := by unfold kl; omega
          rw [← e2]; exact this.1
        · have e2 : kr t p = x := by unfold kr; omega
          rw [← e2]; exact this.2
end Go.Proofs.YtgddiimnpliolaaDoor

namespace Go.Proofs.YtgddiimnpliolaaDoor
open Go.RowKit
set_option linter.unusedVariables false
structure ElG (k : Nat) {α : Type} (A : World → (Nat → Value) → α → Prop) : Prop where
  keep : ∀ {w w' : World} {el : Nat → Value} {d : α}, A w el d → KeepQ IsLimb w w' → A w' el d
  congr : ∀ {w : World} {el el' : Nat → Value} {d : α}, A w el d → (∀ j, j < k → el j = el' j) → A w el' d
def GOwn (T : TypeId) (k : Nat) {α : Type} (A : World → (Nat → Value) → α → Prop) (B : Nat) (w : World) (v : Value) (l : List α) : Prop :=
  ∃ cs : List Value, w.ownsRow B T k v l.length cs ∧ (∀ g, v.ownBlock = some g → PureB IsLimb w g) ∧ ∀ i a, l[i]? = some a → A w (fun j => cs.getD (i * k + j) undef) a
def GRow (k : Nat) {α : Type} (A : World → (Nat → Value) → α → Prop) (w : World) (v : Value) (l : List α) : Prop := ∃ el, RowAt k w v l.length el ∧ ∀ i a, l[i]? = some a → A w (el i) a
section
variable {T : TypeId} {k : Nat} {α : Type} {A : World → (Nat → Value) → α → Prop} {B : Nat} {w w' : World} {v : Value} {l : List α}
theorem GRow.below (h : GRow k A w v l) (hA : ElG k A) (hb : Below w.heap.size w w') : GRow k A w' v l := by
  obtain ⟨el, h1, h2⟩ := h
  exact ⟨el, h1.below hb, fun i a hi => hA.keep (h2 i a hi) (KeepQ.below hb)⟩
theorem GRow.open (h : GRow k A w v l) : ∃ a c, v = .slice a l.length c ∧ l.length ≤ c ∧ c ≤ 9223372036854775807 := by
  obtain ⟨el, ⟨ao, c, h1, h2, h3, _⟩, _⟩ := h
  exact ⟨ao, c, h1, h2, h3⟩
theorem GRow.at (h : GRow k A w v l) {i : Nat} {a : α} (hi : l[i]? = some a) : ∃ (b off c : Nat) (e : Nat → Value), v = .slice (some ⟨b, off, none⟩) l.length c ∧ l.length ≤ c ∧ (∀ j, j < k → w.cell? ⟨b, off + i * k + j, none⟩ = some (e j)) ∧ A w e a := by
  obtain ⟨el, ⟨ao, c, h1, h2, h3, h4⟩, h5⟩ := h
  have hl : i < l.length := by have := List.getElem?_eq_some_iff.1 hi; exact this.1
  obtain ⟨b, off, rfl, hc⟩ := h4 (by omega)
  exact ⟨b, off, c, el i, h1, h2, hc i hl, h5 i a hi⟩
theorem GOwn.nil : GOwn T k A B w (.slice none 0 0) [] := ⟨[], World.ownsRow_nil _ _ _ _, fun g h => by simp [Value.ownBlock] at h, fun i a hi => by simp at hi⟩
theorem GOwn.le (h : GOwn T k A B w v l) {B' : Nat} (hb : B' ≤ B) : GOwn T k A B' w v l := by
  obtain ⟨cs, h1, h2, h3⟩ := h
  exact ⟨cs, owns_le h1 hb, h2, h3⟩
theorem GOwn.later (h : GOwn T k A B w v l) (hA : ElG k A) (hb : Below w.heap.size w w') : GOwn T k A B w' v l := by
  obtain ⟨cs, h1, h2, h3⟩ := h
  exact ⟨cs, owns_later h1 hb, fun g hg => (h2 g hg).below hb (World.ownsRow.lt h1 g hg).2, fun i a hi => hA.keep (h3 i a hi) (KeepQ.below hb)⟩
theorem GOwn.form (h : GOwn T k A B w v l) : ∃ a c, v = .slice a l.length c ∧ l.length ≤ c := by
  obtain ⟨cs, h1, _⟩ := h
  rcases h1.2 with ⟨rfl, e⟩ | ⟨g, c, _, rfl, _, _, h, _⟩
  · exact ⟨none, 0, by rw [e], by omega⟩
  · exact ⟨_, c, rfl, h⟩
theorem GOwn.none (h : GOwn T k A B w v l) (h0 : l.length = 0) : (v = .slice none 0 0) ∨ ∃ g c, v = .slice (some ⟨g, 0, Option.none⟩) 0 c := by
  obtain ⟨cs, h1, _⟩ := h
  rcases h1.2 with ⟨rfl, e⟩ | ⟨g, c, _, rfl, _⟩
  · exact .inl rfl
  · exact .inr ⟨g, c, by rw [h0]⟩
theorem GOwn.open (h : GOwn T k A B w v l) (h0 : 0 < l.length) : ∃ g c, v = .slice (some ⟨g, 0, Option.none⟩) l.length c ∧ l.length ≤ c ∧ B ≤ g ∧ g < w.heap.size := by
  obtain ⟨cs, h1, _⟩ := h
  have h2 := h1
  rcases h1.2 with ⟨rfl, e⟩ | ⟨g, c, _, rfl, hB, hg, hc, _⟩
  · omega
  · exact ⟨g, c, rfl, hc, hB, (World.ownsRow.lt h2 g rfl).2⟩
theorem GOwn.row (h : GOwn T k A B w v l) (hA : ElG k A) : GRow k A w v l := by
  obtain ⟨cs, h1, _, h3⟩ := h
  refine ⟨fun i j => cs.getD (i * k + j) undef, ?_, h3⟩
  have hl := h1.1
  rcases h1.2 with ⟨rfl, e⟩ | ⟨g, c, cur, rfl, hB, hg, hc, hm, rest⟩
  · rw [e]; exact RowAt.nil _ _ _
  · refine ⟨_, c, rfl, hc, by unfold maxLen at hm; omega, fun _ => ⟨g, 0, rfl, fun i hi j hj => ?_⟩⟩
    have hlt : i * k + j < cs.length := by
      rw [hl]
      have := Nat.mul_le_mul_right k (show i + 1 ≤ l.length by omega)
      rw [Nat.add_mul] at this
      omega
    rw [Nat.zero_add]
    exact owns_cell h1 (by show cs[i * k + j]? = some (cs.getD (i * k + j) undef); rw [List.getD_eq_getElem?_getD, List.getElem?_eq_getElem hlt]; rfl)
theorem GOwn.kept {row : Option Nat} (h : GOwn T k A B w v l) (hA : ElG k A) (hg : w.grownBy w' row) (hk : KeepQ IsLimb w w') (hne : v.ownBlock = Option.none ∨ v.ownBlock ≠ row) : GOwn T k A B w' v l := by
  obtain ⟨cs, h1, h2, h3⟩ := h
  refine ⟨cs, h1.kept hg hne, fun g hgg o u hu => h2 g hgg o u ?_, fun i a hi => hA.keep (h3 i a hi) hk⟩
  have hlt := (World.ownsRow.lt h1 g hgg).2
  have hne2 : some g ≠ row := fun e => by
    rcases hne with a | a
    · rw [hgg] at a; cases a
    · exact a (hgg.trans e)
  rw [← World.cell?_of_block (w := w) (hg.block g hlt hne2)]; exact hu
theorem GOwn.more {v' : Value} {m : Nat} {l' : List α} {cs news : List Value} (hA : ElG k A) (hm : l'.length = m) (h1 : w'.ownsRow B T k v' (l.length + m) (cs ++ news)) (hl : cs.length = l.length * k) (hp : ∀ g, v'.ownBlock = some g → PureB IsLimb w' g) (hk : KeepQ IsLimb w w')
    (h3 : ∀ i a, l[i]? = some a → A w (fun j => cs.getD (i * k + j) undef) a) (hn : ∀ i a, l'[i]? = some a → A w (fun j => news.getD (i * k + j) undef) a) : GOwn T k A B w' v' (l ++ l') := by
  refine ⟨cs ++ news, by rw [List.length_append, hm]; exact h1, hp, fun i a hi => ?_⟩
  by_cases e : i < l.length
  · rw [List.getElem?_append_left e] at hi
    refine hA.congr (hA.keep (h3 i a hi) hk) (fun j hj => ?_)
    simp only [List.getD_eq_getElem?_getD]
    have := Nat.mul_le_mul_right k (show i + 1 ≤ l.length by omega)
    rw [Nat.add_mul] at this
    rw [List.getElem?_append_left (by omega)]
  · rw [List.getElem?_append_right (by omega)] at hi
    refine hA.congr (hA.keep (hn _ a hi) hk) (fun j hj => ?_)
    simp only [List.getD_eq_getElem?_getD]
    have h5 : i * k = (i - l.length) * k + l.length * k := by rw [← Nat.add_mul]; congr 1; omega
    rw [List.getElem?_append_right (by omega), hl, h5]
    congr 2
    omega
end
theorem GOwn.parts {T : TypeId} {k : Nat} {α : Type} {A : World → (Nat → Value) → α → Prop} {B : Nat} {w : World} {v : Value} {l : List α} (h : GOwn T k A B w v l) : ∃ cs : List Value, w.ownsRow B T k v l.length cs ∧ cs.length = l.length * k ∧ (∀ g, v.ownBlock = some g → PureB IsLimb w g) ∧ ∀ i a, l[i]? = some a → A w (fun j => cs.getD (i * k + j) undef) a := by
  obtain ⟨cs, h1, h2, h3⟩ := h
  exact ⟨cs, h1, h1.1, h2, h3⟩
end Go.Proofs.YtgddiimnpliolaaDoor

namespace Go.Proofs.YtgddiimnpliolaaDoor
open Go.RowKit
set_option linter.unusedVariables false
set_option linter.unusedSimpArgs false
def RsAt (L : Nat) (w : World) (el : Nat → Value) (q : Rat) : Prop := AtN w (el 0) (el 1) (el 2) q L
theorem rsEl (L : Nat) : ElG 3 (RsAt L) where
  keep := fun ⟨p, ao, m, c, bo, k, d, h1, h2, h3, h4⟩ hk => ⟨p, ao, m, c, bo, k, d, h1, h2, h3, h4.keepL hk⟩
  congr := fun ⟨p, ao, m, c, bo, k, d, h1, h2, h3, h4⟩ he => ⟨p, ao, m, c, bo, k, d, (he 0 (by omega)).symm.trans h1, (he 1 (by omega)).symm.trans h2, (he 2 (by omega)).symm.trans h3, h4⟩
def RsOw (L B : Nat) (w : World) (v : Value) (l : List Rat) : Prop := GOwn 40 3 (RsAt L) B w v l
theorem RsOw.below {L B : Nat} {w w' : World} {v : Value} {l : List Rat} (h : RsOw L B w v l) (hb : Below w.heap.size w w') : RsOw L B w' v l := GOwn.later h (rsEl L) hb
theorem RsOw.qrow {L B : Nat} {w : World} {v : Value} {l : List Rat} (h : RsOw L B w v l) : QRow w v l.length (fun i => l.getD i 0) L := by
  obtain ⟨el, h1, h2⟩ := GOwn.row h (rsEl L)
  refine ⟨el, h1, fun i hi => ?_⟩
  obtain ⟨p, ao, m, c, bo, k, d, e1, e2, e3, e4⟩ := h2 i _ (List.getElem?_eq_getElem hi)
  rw [e1, e2, e3]
  show RatAt w _ (l.getD i 0) L
  rw [List.getD_eq_getElem?_getD, List.getElem?_eq_getElem hi]
  exact e4
theorem rs_one {L : Nat} {w : World} {p : Bool} {a b : Option Addr} {n c m d : Nat} {x : Rat} (h : RatAt w (.agg #[.bool p, .slice a n c, .slice b m d]) x L) : ∀ (i : Nat) (y : Rat), [x][i]? = some y → RsAt L w (fun j => [Value.bool p, .slice a n c, .slice b m d].getD (i * 3 + j) undef) y := by
  intro i y hy
  match i, hy with
  | 0, hy =>
    cases hy
    exact ⟨p, a, n, c, b, m, d, rfl, rfl, rfl, h⟩

set_option maxRecDepth 20000 in
set_option maxHeartbeats 1000000 in
theorem number9_at (p : Bool) (s t : Value) (n m : Nat) (f g : Nat → Int) (w : World) (h : Raw w s n f) (k : Raw w t m g) :
    Calls Tryd.prog 34 #[.agg #[.bool p, s, t]] w fun e w' => FewOut p (min n 3) (min m 3) f g w e w' := by
  have hA : ∀ o o', Below w.heap.size w ((w.alloc o).alloc o') := fun o o' => ((Below.refl _ _).alloc (Nat.le_refl _) _).alloc (by simp) _
  obtain ⟨ao, c, rfl, hnil, hnc, hcm, hu, h4⟩ := h
  obtain ⟨bo, d, rfl, knil, knc, kcm, ku, k4⟩ := k
  unfold maxLen at hcm kcm
  by_cases hlt : 3 < n
  · obtain ⟨b1, off1, rfl, hc⟩ := h4 (by omega)
    have hN : Nums .u64 w (.slice (some ⟨b1, off1, none⟩) 3 c) 3 f := ⟨_, _, rfl, by omega, by unfold LIM; omega, fun _ => ⟨_, _, rfl, hc.mono (by omega)⟩⟩
    have hi : (n : Int) > 3 := by omega
    rw [show min n 3 = 3 by omega]
    by_cases klt : 3 < m
    · obtain ⟨b2, off2, rfl, kc⟩ := k4 (by omega)
      have kN : Nums .u64 w (.slice (some ⟨b2, off2, none⟩) 3 d) 3 g := ⟨_, _, rfl, by omega, by unfold LIM; omega, fun _ => ⟨_, _, rfl, kc.mono (by omega)⟩⟩
      have ki : (m : Int) > 3 := by omega
      rw [show min m 3 = 3 by omega]
      go_enter Tryd.func34, Tryd.ntmps34
      go_wp2
      refine bodyPost_ret (v := .agg #[.bool p, .slice (some ⟨b1, off1, none⟩) 3 c, .slice (some ⟨b2, off2, none⟩) 3 d]) (by simp [results, go_sem]) rfl ?_
      exact ⟨_, _, _, _, rfl, hN.below (hA _ _), fun i hi => hu i (by omega), kN.below (hA _ _), fun i hi => ku i (by omega), hA _ _⟩
    · have kN : Nums .u64 w (.slice bo m d) m g := ⟨_, _, rfl, knc, by unfold LIM; omega, k4⟩
      have ki : ¬ (m : Int) > 3 := by omega
      rw [show min m 3 = m by omega]
      go_enter Tryd.func34, Tryd.ntmps34
      go_wp2
      refine bodyPost_ret (v := .agg #[.bool p, .slice (some ⟨b1, off1, none⟩) 3 c, .slice bo m d]) (by simp [results, go_sem]) rfl ?_
      exact ⟨_, _, _, _, rfl, hN.below (hA _ _), fun i hi => hu i (by omega), kN.below (hA _ _), fun i hi => ku i (by omega), hA _ _⟩
  · have hN : Nums .u64 w (.slice ao n c) n f := ⟨_, _, rfl, hnc, by unfold LIM; omega, h4⟩
    have hi : ¬ (n : Int) > 3 := by omega
    rw [show min n 3 = n by omega]
    by_cases klt : 3 < m
    · obtain ⟨b2, off2, rfl, kc⟩ := k4 (by omega)
      have kN : Nums .u64 w (.slice (some ⟨b2, off2, none⟩) 3 d) 3 g := ⟨_, _, rfl, by omega, by unfold LIM; omega, fun _ => ⟨_, _, rfl, kc.mono (by omega)⟩⟩
      have ki : (m : Int) > 3 := by omega
      rw [show min m 3 = 3 by omega]
      go_enter Tryd.func34, Tryd.ntmps34
      go_wp2
      refine bodyPost_ret (v := .agg #[.bool p, .slice ao n c, .slice (some ⟨b2, off2, none⟩) 3 d]) (by simp [results, go_sem]) rfl ?_
      exact ⟨_, _, _, _, rfl, hN.below (hA _ _), fun i hi => hu i (by omega), kN.below (hA _ _), fun i hi => ku i (by omega), hA _ _⟩
    · have kN : Nums .u64 w (.slice bo m d) m g := ⟨_, _, rfl, knc, by unfold LIM; omega, k4⟩
      have ki : ¬ (m : Int) > 3 := by omega
      rw [show min m 3 = m by omega]
      go_enter Tryd.func34, Tryd.ntmps34
      go_wp2
      refine bodyPost_ret (v := .agg #[.bool p, .slice ao n c, .slice bo m d]) (by simp [results, go_sem]) rfl ?_
      exact ⟨_, _, _, _, rfl, hN.below (hA _ _), fun i hi => hu i (by omega), kN.below (hA _ _), fun i hi => ku i (by omega), hA _ _⟩
end Go.Proofs.YtgddiimnpliolaaDoor
