/-
  Texts of mine, joined: what lies beneath the statement.
-/
import Derived.Test.YtgddiimnpliolaaDoorJff91650ec9
import Derived.Test.YtgddiimnpliolaaDoorJ4336de308b
import Derived.Test.YtgddiimnpliolaaDoorJ1115779102
import Derived.Test.YtgddiimnpliolaaDoorJcebd791176
import Derived.Test.YtgddiimnpliolaaDoorJ57d3204701
namespace Go.Proofs.YtgddiimnpliolaaDoor
set_option linter.unusedVariables false
set_option linter.unusedSimpArgs false
def inS (s f : Nat) : Bool := decide (s / 2 ^ f % 2 = 1)
theorem inS_none (f : Nat) : inS 0 f = false := by
  unfold inS
  rw [Nat.zero_div]
  rfl
theorem inS_all {f : Nat} (h : f < 64) : inS 18446744073709551615 f = true := by
  have : ∀ f : Fin 64, inS 18446744073709551615 f.1 = true := by decide +kernel
  exact this ⟨f, h⟩
def sayN (t : Nat → Nd) (r : Nat → Cl) (s : Nat) : Nat → Nat → Rat
  | 0, _ => 0
  | k + 1, x => if (t x).leaf = true then (t x).val else if inS s (t x).feat.toNat = true then sayN t r s k (nxt (t x) r) else ((t (kl t x)).cov * sayN t r s k (kl t x) + (t (kr t x)).cov * sayN t r s k (kr t x)) / (t x).cov
theorem MayT.say_more {F : Int} {t : Nat → Nd} {n : Nat} (h : MayT F t n) (r : Nat → Cl) (s : Nat) : ∀ k x, x < n → n + 1 ≤ lvl t n x + k → sayN t r s (k + 1) x = sayN t r s k x
  | 0, x, hx, hk => by have := h.lvl_le hx; omega
  | k + 1, x, hx, hk => by
    show (if (t x).leaf = true then (t x).val else if inS s (t x).feat.toNat = true then sayN t r s (k + 1) (Go.Proofs.YtgddiimnpliolaaDoor.nxt (t x) r) else ((t (kl t x)).cov * sayN t r s (k + 1) (kl t x) + (t (kr t x)).cov * sayN t r s (k + 1) (kr t x)) / (t x).cov) = (if (t x).leaf = true then (t x).val else if inS s (t x).feat.toNat = true then sayN t r s k (Go.Proofs.YtgddiimnpliolaaDoor.nxt (t x) r) else ((t (kl t x)).cov * sayN t r s k (kl t x) + (t (kr t x)).cov * sayN t r s k (kr t x)) / (t x).cov)
    cases hl : (t x).leaf with
    | true => rfl
    | false =>
      obtain ⟨_, _, _, a2, _, a4, b1, b2⟩ := h.kids hx hl
      obtain ⟨c1, c2⟩ := h.nxt hx hl r
      rw [h.say_more r s k _ a2 (by omega), h.say_more r s k _ a4 (by omega), h.say_more r s k _ c1 (by omega)]
def say (t : Nat → Nd) (n : Nat) (r : Nat → Cl) (s x : Nat) : Rat := sayN t r s (n + 1) x
theorem say_leaf {t : Nat → Nd} {n : Nat} {r : Nat → Cl} {s x : Nat} (hl : (t x).leaf = true) : say t n r s x = (t x).val := by unfold say; rw [sayN, if_pos hl]
theorem MayT.say_in {F : Int} {t : Nat → Nd} {n : Nat} (h : MayT F t n) (r : Nat → Cl) {s x : Nat} (hx : x < n) (hl : (t x).leaf = false) (hi : inS s (t x).feat.toNat = true) : say t n r s x = say t n r s (Go.Proofs.YtgddiimnpliolaaDoor.nxt (t x) r) := by
  obtain ⟨c1, c2⟩ := h.nxt hx hl r
  unfold say
  rw [sayN, if_neg (by simp [hl]), if_pos hi, h.say_more r s n _ c1 (by omega)]
theorem MayT.say_out {F : Int} {t : Nat → Nd} {n : Nat} (h : MayT F t n) (r : Nat → Cl) {s x : Nat} (hx : x < n) (hl : (t x).leaf = false) (hi : inS s (t x).feat.toNat = false) : say t n r s x = ((t (kl t x)).cov * say t n r s (kl t x) + (t (kr t x)).cov * say t n r s (kr t x)) / (t x).cov := by
  obtain ⟨_, _, _, a2, _, a4, b1, b2⟩ := h.kids hx hl
  unfold say
  rw [sayN, if_neg (by simp [hl]), if_neg (by simp [hi]), h.say_more r s n _ a2 (by omega), h.say_more r s n _ a4 (by omega)]
theorem mean_eq (a b c x y : Rat) : (a * x + b * y) / c = a / c * x + b / c * y := by
  simp only [Rat.div_def]
  grind
theorem MayT.say_all {F : Int} {t : Nat → Nd} {n : Nat} (h : MayT F t n) (hF : F ≤ 64) (r : Nat → Cl) {x : Nat} (hx : x < n) : say t n r 18446744073709551615 x = (t (wlast t n r x)).val :=
  h.by_way r (P := fun x => say t n r 18446744073709551615 x = (t (wlast t n r x)).val) (fun x hx hl => by rw [say_leaf hl, wlast_leaf hl]) (fun x hx hl ih => by
    have hf := h.feat x hx hl
    rw [h.say_in r hx hl (inS_all (by omega)), ih, h.wlast_split r hx hl]) hx
def wsL (t : Nat → Nd) : List Nat → Rat
  | [] => 0
  | x :: l => (t x).val * (t x).cov + wsL t l
theorem wsL_app (t : Nat → Nd) : ∀ l l', wsL t (l ++ l') = wsL t l + wsL t l'
  | [], l' => by show wsL t l' = 0 + wsL t l'; rw [Rat.zero_add]
  | x :: l, l' => by
    show (t x).val * (t x).cov + wsL t (l ++ l') = (t x).val * (t x).cov + wsL t l + wsL t l'
    rw [wsL_app t l l', Rat.add_assoc]
def ws (t : Nat → Nd) (n x : Nat) : Rat := wsL t (lvs t n x)
theorem ws_leaf {t : Nat → Nd} {n x : Nat} (hl : (t x).leaf = true) : ws t n x = (t x).val * (t x).cov := by
  unfold ws
  rw [lvs_leaf hl]
  show _ + (0 : Rat) = _
  rw [Rat.add_zero]
theorem MayT.ws_split {F : Int} {t : Nat → Nd} {n : Nat} (h : MayT F t n) {x : Nat} (hx : x < n) (hl : (t x).leaf = false) : ws t n x = ws t n (kl t x) + ws t n (kr t x) := by
  unfold ws
  rw [h.lvs_split hx hl, wsL_app]
theorem MayT.say_none {F : Int} {t : Nat → Nd} {n : Nat} (h : MayT F t n) (r : Nat → Cl) {x : Nat} (hx : x < n) : say t n r 0 x = ws t n x / (t x).cov :=
  h.by_tree (P := fun x => say t n r 0 x = ws t n x / (t x).cov) (fun x hx hl => by
    have hc := h.cov x hx
    rw [say_leaf hl, ws_leaf hl, Rat.div_def, Rat.mul_assoc, Rat.mul_inv_cancel _ (by grind), Rat.mul_one]) (fun x hx hl a b => by
    obtain ⟨_, _, _, a2, _, a4, _, _⟩ := h.kids hx hl
    have c1 := h.cov _ a2
    have c2 := h.cov _ a4
    have key : ∀ u v : Rat, 0 < u → u * (v / u) = v := fun u v hu => by
      rw [Rat.div_def, Rat.mul_comm v, ← Rat.mul_assoc, Rat.mul_inv_cancel _ (by grind), Rat.one_mul]
    rw [h.say_out r hx hl (inS_none _), a, b, h.ws_split hx hl, key _ _ c1, key _ _ c2]) hx
def kidS (t : Nat → Nd) (r : Nat → Cl) (s x : Nat) : List Nat := if (t x).leaf = true then [] else if inS s (t x).feat.toNat = true then [nxt (t x) r] else [kl t x, kr t x]
theorem MayT.kl_ne_kr {F : Int} {t : Nat → Nd} {n : Nat} (h : MayT F t n) {x : Nat} (hx : x < n) (hl : (t x).leaf = false) : kl t x ≠ kr t x := fun e => by
  obtain ⟨e1, e2, l1, l2, _, _, _, _⟩ := h.kids hx hl
  rw [← e] at e2
  have a := kc_two hl e1 e2
  have b := par_ge (t := t) (x := kl t x) (y := x) n hx
  have c := h.once _ l1 l2
  omega
theorem MayT.kidS_is {F : Int} {t : Nat → Nd} {n : Nat} (h : MayT F t n) (r : Nat → Cl) (s : Nat) {x : Nat} (hx : x < n) : (kidS t r s x).Nodup ∧ ∀ c ∈ kidS t r s x, 1 ≤ c ∧ c < n ∧ kid t x c := by
  unfold kidS
  cases hl : (t x).leaf with
  | true => exact ⟨by simp, by simp⟩
  | false =>
    rw [if_neg (by simp)]
    obtain ⟨e1, e2, l1, l2, l3, l4, _, _⟩ := h.kids hx hl
    by_cases hi : inS s (t x).feat.toNat = true
    · rw [if_pos hi]
      have := nxt_kid h.named hx hl r
      exact ⟨by simp, by simpa using this⟩
    · rw [if_neg hi]
      refine ⟨by simp [h.kl_ne_kr hx hl], fun c hc => ?_⟩
      simp only [List.mem_cons, List.not_mem_nil, or_false] at hc
      rcases hc with rfl | rfl
      · exact ⟨l1, l2, hl, .inl e1⟩
      · exact ⟨l3, l4, hl, .inr e2⟩
structure QInv (t : Nat → Nd) (n : Nat) (r : Nat → Cl) (s : Nat) (out : List Nat) (k : Nat) : Prop where
  le : k ≤ out.length
  root : out[0]? = some 0
  small : ∀ x ∈ out, x < n
  nodup : out.Nodup
  up : ∀ x ∈ out, x ≠ 0 → ∃ j y : Nat, j < k ∧ out[j]? = some y ∧ kid t y x
  kids : ∀ j y : Nat, j < k → out[j]? = some y → ∀ c ∈ kidS t r s y, ∃ m : Nat, j < m ∧ out[m]? = some c
theorem QInv.start {t : Nat → Nd} {n : Nat} {r : Nat → Cl} {s : Nat} (hn : 0 < n) : QInv t n r s [0] 0 :=
  ⟨by simp, rfl, by simp; exact hn, by simp, fun x hx h0 => by simp at hx; exact absurd hx h0, fun j y hj => by omega⟩
theorem QInv.len {t : Nat → Nd} {n : Nat} {r : Nat → Cl} {s : Nat} {out : List Nat} {k : Nat} (h : QInv t n r s out k) : out.length ≤ n := nodup_len n _ h.nodup h.small
theorem QInv.step {F : Int} {t : Nat → Nd} {n : Nat} {r : Nat → Cl} {s : Nat} {out : List Nat} {k x : Nat} (hm : MayT F t n) (h : QInv t n r s out k) (hx : out[k]? = some x) : QInv t n r s (out ++ kidS t r s x) (k + 1) := by
  have hk : k < out.length := (List.getElem?_eq_some_iff.1 hx).1
  have hxn : x < n := h.small x (List.mem_of_getElem? hx)
  obtain ⟨kn, kk⟩ := hm.kidS_is r s hxn
  have fresh : ∀ c ∈ kidS t r s x, c ∉ out := fun c hc hco => by
    obtain ⟨c1, c2, c3⟩ := kk c hc
    obtain ⟨j, y, hj, hy, ky⟩ := h.up c hco (by omega)
    have hyn : y < n := h.small y (List.mem_of_getElem? hy)
    have e := hm.once.one c1 c2 hyn hxn ky c3
    subst e
    have := (List.getElem?_inj (i := j) (j := k) (l := out) (by omega) h.nodup).1 (hy.trans hx.symm)
    omega
  refine ⟨by simp; omega, ?_, fun y hy => ?_, ?_, fun y hy h0 => ?_, fun j y hj hy c hc => ?_⟩
  · rw [List.getElem?_append_left (by omega)]; exact h.root
  · rcases List.mem_append.1 hy with g | g
    · exact h.small y g
    · exact (kk y g).2.1
  · rw [List.nodup_append]
    exact ⟨h.nodup, kn, fun a ha b hb e => fresh b hb (e ▸ ha)⟩
  · rcases List.mem_append.1 hy with g | g
    · obtain ⟨j, z, a, b, c⟩ := h.up y g h0
      exact ⟨j, z, by omega, by rw [List.getElem?_append_left (by omega)]; exact b, c⟩
    · exact ⟨k, x, by omega, by rw [List.getElem?_append_left hk]; exact hx, (kk y g).2.2⟩
  · by_cases e : j < k
    · rw [List.getElem?_append_left (by omega)] at hy
      obtain ⟨m, a, b⟩ := h.kids j y e hy c hc
      have hml := (List.getElem?_eq_some_iff.1 b).1
      exact ⟨m, a, by rw [List.getElem?_append_left hml]; exact b⟩
    · obtain rfl : j = k := by omega
      rw [List.getElem?_append_left hk, hx] at hy
      cases hy
      obtain ⟨m, hm2⟩ := List.getElem?_of_mem hc
      exact ⟨out.length + m, by omega, by rw [List.getElem?_append_right (by omega), Nat.add_sub_cancel_left]; exact hm2⟩
def Beh (K : Nat → List Nat) : List Nat → Prop
  | [] => True
  | y :: l => (∀ c ∈ K y, c ∈ l) ∧ y ∉ l ∧ Beh K l
theorem QInv.beh {t : Nat → Nd} {n : Nat} {r : Nat → Cl} {s : Nat} {out : List Nat} (h : QInv t n r s out out.length) : Beh (kidS t r s) out := by
  have key : ∀ d k, k + d = out.length → Beh (kidS t r s) (out.drop k) := by
    intro d
    induction d with
    | zero => intro k hk; rw [List.drop_of_length_le (by omega)]; trivial
    | succ d ih =>
      intro k hk
      have hkl : k < out.length := by omega
      rw [List.drop_eq_getElem_cons hkl]
      refine ⟨fun c hc => ?_, fun hm => ?_, ih (k + 1) (by omega)⟩
      · obtain ⟨m, a, b⟩ := h.kids k _ hkl (List.getElem?_eq_getElem hkl) c hc
        rw [List.mem_iff_getElem?]
        exact ⟨m - (k + 1), by rw [List.getElem?_drop, show k + 1 + (m - (k + 1)) = m by omega]; exact b⟩
      · obtain ⟨m, hm2⟩ := List.mem_iff_getElem?.1 hm
        rw [List.getElem?_drop] at hm2
        have hl2 := (List.getElem?_eq_some_iff.1 hm2).1
        have := (List.getElem?_inj (i := k + 1 + m) (j := k) (l := out) hl2 h.nodup).1 (hm2.trans (List.getElem?_eq_getElem hkl).symm)
        omega
  have := key out.length 0 (by omega)
  simpa using this
theorem QInv.all {F : Int} {t : Nat → Nd} {n : Nat} {r : Nat → Cl} {out : List Nat} (hm : MayT F t n) (h : QInv t n r 0 out out.length) : ∀ x, x < n → x ∈ out := by
  suffices ∀ k x, x < n → lvl t n x ≤ k → x ∈ out from fun x hx => this _ x hx (Nat.le_refl _)
  intro k
  induction k with
  | zero =>
    intro x hx hk
    by_cases e : x = 0
    · subst e; exact List.mem_of_getElem? h.root
    · have hu := hm.up x hx
      unfold lawUp at hu
      rw [if_neg e] at hu
      cases u : upOf t x n with
      | none => rw [u] at hu; cases hu
      | some p =>
        obtain ⟨p1, p2⟩ := upOf_some u
        have := hm.lvl_kid p1 hx (by omega) p2
        omega
  | succ k ih =>
    intro x hx hk
    by_cases e : x = 0
    · subst e; exact List.mem_of_getElem? h.root
    · have hu := hm.up x hx
      unfold lawUp at hu
      rw [if_neg e] at hu
      cases u : upOf t x n with
      | none => rw [u] at hu; cases hu
      | some p =>
        obtain ⟨p1, p2⟩ := upOf_some u
        have hl := hm.lvl_kid p1 hx (by omega) p2
        obtain ⟨j, hj⟩ := List.getElem?_of_mem (ih p p1 (by omega))
        have hjl := (List.getElem?_eq_some_iff.1 hj).1
        obtain ⟨m, _, b⟩ := h.kids j p hjl hj x (by
          unfold kidS
          rw [if_neg (by simp [p2.1]), if_neg (by simp [inS_none])]
          unfold kl kr
          rcases p2.2 with g | g
          · simp; omega
          · simp; omega)
        exact List.mem_of_getElem? b
theorem QInv.full {F : Int} {t : Nat → Nd} {n : Nat} {r : Nat → Cl} {out : List Nat} (hm : MayT F t n) (h : QInv t n r 0 out out.length) : out.length = n := by
  have h1 := h.len
  have hp : out.Perm (List.range n) := by
    rw [List.perm_iff_count]
    intro a
    by_cases ha : a < n
    · rw [h.nodup.count, if_pos (h.all hm a ha), List.nodup_range.count, if_pos (List.mem_range.2 ha)]
    · have : a ∉ out := fun hh => ha (h.small a hh)
      rw [List.count_eq_zero_of_not_mem this, List.count_eq_zero_of_not_mem (by simpa using ha)]
  have h2 := hp.length_eq
  simp at h2
  omega
def stp (f : (Nat → Rat) → Nat → Rat) (q : Nat → Rat) (i : Nat) : Nat → Rat := fun j => if j = i then f q i else q j
def runB (f : (Nat → Rat) → Nat → Rat) (l : List Nat) : Nat → Rat := l.foldl (stp f) (fun _ => 0)
theorem runB_more (f : (Nat → Rat) → Nat → Rat) (l : List Nat) (i : Nat) : runB f (l ++ [i]) = stp f (runB f l) i := by
  unfold runB
  rw [List.foldl_append]
  rfl
theorem runB_is {f : (Nat → Rat) → Nat → Rat} {g : Nat → Rat} {K : Nat → List Nat} {n : Nat} (hf : ∀ q i, i < n → (∀ c ∈ K i, q c = g c) → f q i = g i) : ∀ l, (∀ x ∈ l, x < n) → Beh K l → ∀ y ∈ l, runB f l.reverse y = g y
  | [], _, _, y, hy => by cases hy
  | a :: l, hs, ⟨h1, h2, h3⟩, y, hy => by
    have ih := runB_is hf l (fun x hx => hs x (List.mem_cons_of_mem _ hx)) h3
    rw [List.reverse_cons, runB_more]
    unfold stp
    by_cases e : y = a
    · subst e
      rw [if_pos rfl]
      exact hf _ _ (hs _ (by simp)) (fun c hc => ih c (h1 c hc))
    · rw [if_neg e]
      exact ih y (by simpa [e] using hy)
theorem runB_sz {f : (Nat → Rat) → Nat → Rat} {b : Nat → Nat} {n : Nat} (h0 : ∀ i, 1 ≤ b i) (hf : ∀ q i, i < n → (∀ j, j < n → qsz (q j) ≤ b j) → qsz (f q i) ≤ b i) (l : List Nat) (hl : ∀ x ∈ l, x < n) : ∀ j, j < n → qsz (runB f l j) ≤ b j := by
  suffices ∀ (l : List Nat) (q : Nat → Rat), (∀ x ∈ l, x < n) → (∀ j, j < n → qsz (q j) ≤ b j) → ∀ j, j < n → qsz (l.foldl (stp f) q j) ≤ b j from this l _ hl (fun j hj => Nat.le_trans (qsz_int 0 (L := 1) (by decide) (by omega)) (h0 j))
  intro l
  induction l with
  | nil => intro q _ hq; exact hq
  | cons a l ih =>
    intro q hs hq
    refine ih _ (fun x hx => hs x (List.mem_cons_of_mem _ hx)) (fun j hj => ?_)
    unfold stp
    by_cases e : j = a
    · rw [if_pos e, e]
      exact hf q a (hs a (by simp)) hq
    · rw [if_neg e]
      exact hq j hj
def fSay (t : Nat → Nd) (r : Nat → Cl) (s : Nat) (q : Nat → Rat) (i : Nat) : Rat := if (t i).leaf = true then (t i).val else if inS s (t i).feat.toNat = true then q (nxt (t i) r) else (t (kl t i)).cov / (t i).cov * q (kl t i) + (t (kr t i)).cov / (t i).cov * q (kr t i)
theorem MayT.run_say {F : Int} {t : Nat → Nd} {n : Nat} {r : Nat → Cl} {s : Nat} {out : List Nat} (hm : MayT F t n) (h : QInv t n r s out out.length) : runB (fSay t r s) out.reverse 0 = say t n r s 0 := by
  refine runB_is (K := kidS t r s) (n := n) (fun q i hi hq => ?_) out h.small h.beh 0 (List.mem_of_getElem? h.root)
  unfold fSay
  unfold kidS at hq
  cases hl : (t i).leaf with
  | true => rw [if_pos rfl, say_leaf hl]
  | false =>
    rw [hl] at hq
    cases hi2 : inS s (t i).feat.toNat with
    | true =>
      rw [hi2] at hq
      rw [if_neg (by simp), if_pos rfl, hm.say_in r hi hl hi2]
      exact hq _ (by simp)
    | false =>
      rw [hi2] at hq
      rw [if_neg (by simp), if_neg (by simp), hm.say_out r hi hl hi2, mean_eq, hq _ (by simp), hq _ (by simp)]
def fSum (t : Nat → Nd) (q : Nat → Rat) (i : Nat) : Rat := if (t i).leaf = true then (t i).val * (t i).cov else q (kl t i) + q (kr t i)
theorem MayT.run_sum {F : Int} {t : Nat → Nd} {n : Nat} {r : Nat → Cl} {out : List Nat} (hm : MayT F t n) (h : QInv t n r 0 out out.length) {x : Nat} (hx : x < n) : runB (fSum t) out.reverse x = ws t n x := by
  refine runB_is (K := kidS t r 0) (n := n) (fun q i hi hq => ?_) out h.small h.beh x (h.all hm x hx)
  unfold fSum
  unfold kidS at hq
  cases hl : (t i).leaf with
  | true => rw [if_pos rfl, ws_leaf hl]
  | false =>
    rw [hl, inS_none] at hq
    rw [if_neg (by simp), hm.ws_split hi hl, hq _ (by simp), hq _ (by simp)]
def bnd (t : Nat → Nd) (n C x : Nat) : Nat := (pre t n x).length * C
theorem pre_pos (t : Nat → Nd) (n x : Nat) : 1 ≤ (pre t n x).length := by
  unfold pre
  rw [preN]
  by_cases e : (t x).leaf = true
  · rw [if_pos e]; simp
  · rw [if_neg e]; simp
theorem bnd_pos {t : Nat → Nd} {n C : Nat} (hC : 1 ≤ C) (x : Nat) : C ≤ bnd t n C x := by
  have := Nat.mul_le_mul_right C (pre_pos t n x)
  unfold bnd
  omega
theorem MayT.bnd_split {F : Int} {t : Nat → Nd} {n : Nat} (h : MayT F t n) (C : Nat) {x : Nat} (hx : x < n) (hl : (t x).leaf = false) : bnd t n C x = bnd t n C (kl t x) + bnd t n C (kr t x) + C := by
  unfold bnd
  rw [h.pre_split hx hl]
  simp only [List.length_cons, List.length_append, Nat.add_mul]
  omega
theorem MayT.bnd_nxt {F : Int} {t : Nat → Nd} {n : Nat} (h : MayT F t n) (C : Nat) (r : Nat → Cl) {x : Nat} (hx : x < n) (hl : (t x).leaf = false) : bnd t n C (Go.Proofs.YtgddiimnpliolaaDoor.nxt (t x) r) ≤ bnd t n C x := by
  rw [h.bnd_split C hx hl]
  unfold Go.Proofs.YtgddiimnpliolaaDoor.nxt
  by_cases g : goL (t x) (r (t x).feat.toNat) = true
  · rw [if_pos g]; unfold kl; omega
  · rw [if_neg g]; unfold kr; omega
theorem MayT.pre_sub {F : Int} {t : Nat → Nd} {n : Nat} (h : MayT F t n) {x : Nat} (hx : x < n) : ∀ y ∈ pre t n x, y < n ∧ (pre t n y).length ≤ (pre t n x).length ∧ ((t y).leaf = false → kl t y ∈ pre t n x ∧ kr t y ∈ pre t n x) :=
  h.by_tree (P := fun x => ∀ y ∈ pre t n x, y < n ∧ (pre t n y).length ≤ (pre t n x).length ∧ ((t y).leaf = false → kl t y ∈ pre t n x ∧ kr t y ∈ pre t n x)) (fun x hx hl y hy => by
    rw [pre_leaf hl] at hy
    simp at hy
    subst hy
    exact ⟨hx, Nat.le_refl _, fun g => by rw [hl] at g; cases g⟩) (fun x hx hl a b y hy => by
    have self : ∀ z, z ∈ pre t n z := fun z => by
      unfold pre
      rw [preN]
      by_cases e : (t z).leaf = true
      · rw [if_pos e]; simp
      · rw [if_neg e]; simp
    have s1 := self (kl t x)
    have s2 := self (kr t x)
    rw [h.pre_split hx hl] at hy ⊢
    simp only [List.mem_cons, List.mem_append, List.length_cons, List.length_append] at hy ⊢
    rcases hy with rfl | hy | hy
    · refine ⟨hx, ?_, fun _ => ⟨.inr (.inl s1), .inr (.inr s2)⟩⟩
      rw [h.pre_split hx hl]
      simp
    · obtain ⟨a1, a2, a3⟩ := a y hy
      exact ⟨a1, by omega, fun g => ⟨.inr (.inl (a3 g).1), .inr (.inl (a3 g).2)⟩⟩
    · obtain ⟨a1, a2, a3⟩ := b y hy
      exact ⟨a1, by omega, fun g => ⟨.inr (.inr (a3 g).1), .inr (.inr (a3 g).2)⟩⟩) hx
theorem MayT.pre_all {F : Int} {t : Nat → Nd} {n : Nat} (h : MayT F t n) : ∀ x, x < n → x ∈ pre t n 0 := by
  have h0 : 0 < n := h.pos
  suffices ∀ k x, x < n → lvl t n x ≤ k → x ∈ pre t n 0 from fun x hx => this _ x hx (Nat.le_refl _)
  have self : 0 ∈ pre t n 0 := by
    unfold pre
    rw [preN]
    by_cases e : (t 0).leaf = true
    · rw [if_pos e]; simp
    · rw [if_neg e]; simp
  intro k
  induction k with
  | zero =>
    intro x hx hk
    by_cases e : x = 0
    · subst e; exact self
    · have hu := h.up x hx
      unfold lawUp at hu
      rw [if_neg e] at hu
      cases u : upOf t x n with
      | none => rw [u] at hu; cases hu
      | some p =>
        obtain ⟨p1, p2⟩ := upOf_some u
        have := h.lvl_kid p1 hx (by omega) p2
        omega
  | succ k ih =>
    intro x hx hk
    by_cases e : x = 0
    · subst e; exact self
    · have hu := h.up x hx
      unfold lawUp at hu
      rw [if_neg e] at hu
      cases u : upOf t x n with
      | none => rw [u] at hu; cases hu
      | some p =>
        obtain ⟨p1, p2⟩ := upOf_some u
        have hl := h.lvl_kid p1 hx (by omega) p2
        have := ((h.pre_sub h0) p (ih p p1 (by omega))).2.2 p2.1
        rcases p2.2 with g | g
        · have e2 : kl t p = x := by unfold kl; omega
          rw [← e2]; exact this.1
        · have e2 : kr t p = x := by unfold kr; omega
          rw [← e2]; exact this.2
end Go.Proofs.YtgddiimnpliolaaDoor

namespace Go.Proofs.YtgddiimnpliolaaDoor
open Go.RowKit
set_option linter.unusedVariables false
set_option linter.unusedSimpArgs false
theorem step_append_pureM {P : Program} {Q' : Value → Prop} {ops : Array Oper} {o : Oper} {a : Act} {K : Act → World → Prop} {Q : Exit → Act → World → Prop} {E : Prop} {w : World} (hgd : o.guard = none) (s x : Operand) (t : TypeId)
    (ho : o.op = .call { callee := .builtin .append, args := #[s, x], argTypes := #[t, t] }) (base : Nat) (e : TypeId) (z : Value) (size bytes : Nat) (ht : P.underlying t = some (.slice e))
    (hinfo : (P.info? e).map (fun i => (i.zero, i.size, i.bytes)) = some (some z, size, bytes)) (hzs : z.cells.size = size) (hsz : 0 < size)
    (v : Value) (hs : a.eval s = v) (n : Nat) (xs : List Value) (hown : w.ownsRow base e size v n xs) (hpure : ∀ g, v.ownBlock = some g → PureB Q' w g)
    (ad : Addr) (m c : Nat) (hm1 : 1 ≤ m) (hm2 : m ≤ 1000) (hx : a.eval x = .slice (some ad) m c) (news : List Value) (hl : news.length = m * size) (hnews : ∀ j u, news[j]? = some u → w.cell? (ad.add j) = some u) (h1 : ∀ u ∈ news, u.oneCell' = true)
    (hq : ∀ u ∈ news, ¬ Q' u) (hqz : ∀ u ∈ z.cells.toList, ¬ Q' u) (h63 : n ≤ 1000000000) (hbytes : bytes ≤ 1000) (hbase : base ≤ w.heap.size)
    (h : ∀ g' cap' w', w'.ownsRow base e size (.slice (some ⟨g', 0, none⟩) (n + m) cap') (n + m) (xs ++ news) → w.grownBy w' v.ownBlock → (v.ownBlock = some g' ∨ g' = w.heap.size) → PureB Q' w' g' → KeepQ Q' w w' →
      K (a.put o.dst (.slice (some ⟨g', 0, none⟩) (n + m) cap')) w') :
    if Region.wanted o (yielded ops a.tmps) = true then Oper.wp P o a w K Q else E := by
  have hw : Region.wanted o (yielded ops a.tmps) = true := by simp [Region.wanted, hgd]
  rw [if_pos hw]
  obtain ⟨i0, hi, hz0, hz1, hz2⟩ := info_parts hinfo
  obtain ⟨g', cap', w', hr, h2, h3, h4, h5, h6⟩ := append_pureM (P := P) (Q := Q') w base t o.type e i0 z size bytes ht hi hz0 hz1 hz2 hzs hsz v n xs hown hpure ad m c hm1 hm2 news hl hnews h1 hq hqz h63 hbytes hbase
  unfold Oper.wp execOp
  simp only [ho, resolve, invoke, builtin, Sem.run_bind, Sem.run_pure, Result.andThen_ok, List.map_toArray, List.map_cons, List.map_nil, hs, hx, hr]
  exact h g' cap' w' h2 h3 h4 h5 h6
theorem RInv.run8 {t : Nat → Nd} {n : Nat} : ∀ d (out wait : List Nat), n - out.length ≤ d → RInv t n out wait → ∃ out', RInv t n out' [] := by
  intro d
  induction d with
  | zero =>
    intro out wait hd h
    rcases List.eq_nil_or_concat wait with rfl | ⟨ws, i, rfl⟩
    · exact ⟨out, h⟩
    · have := h.len
      simp at this
      omega
  | succ d ih =>
    intro out wait hd h
    rcases List.eq_nil_or_concat wait with rfl | ⟨ws, i, rfl⟩
    · exact ⟨out, h⟩
    · rw [List.concat_eq_append] at h
      have hl := h.len
      simp at hl
      obtain ⟨F, hm⟩ := h.m
      have hi : i < n := h.d.small i (by simp)
      cases e : (t i).leaf with
      | true => exact ih _ _ (by simp; omega) (h.leaf e)
      | false =>
        obtain ⟨e1, e2, a1, a2, a3, a4, _, _⟩ := hm.kids hi e
        exact ih _ _ (by simp; omega) (h.split hm.once e e1 e2 a1 a2 a3 a4)
theorem MayT.pre_count8 {F : Int} {t : Nat → Nd} {n : Nat} (h : MayT F t n) : (pre t n 0).length = n := by
  obtain ⟨out, ho⟩ := RInv.run8 n [] [0] (by simp) (RInv.start (t := t) h.pos ⟨F, h⟩)
  rw [← ho.all]
  exact ho.count
theorem MayT.pre_few8 {F : Int} {t : Nat → Nd} {n : Nat} (h : MayT F t n) {x : Nat} (hx : x < n) : (pre t n x).length ≤ n := by
  have h0 : 0 < n := h.pos
  have h1 := ((h.pre_sub h0) x (h.pre_all x hx)).2.1
  have h2 := h.pre_count8
  omega
theorem IntOwn.below {B : Nat} {w w' : World} {v : Value} {zs : List Nat} (h : IntOwn B w v zs) (hb : Below w.heap.size w w') : IntOwn B w' v zs := h.later hb
theorem MayT.lvs_few8 {F : Int} {t : Nat → Nd} {n : Nat} (h : MayT F t n) {x : Nat} (hx : x < n) : 1 ≤ (lvs t n x).length ∧ (lvs t n x).length ≤ n := by
  have h1 := h.count hx
  have h2 := h.pre_few8 hx
  omega
set_option maxRecDepth 100000 in
set_option maxHeartbeats 16000000 in
theorem lleaves8_ind (F : Int) (vt : Value) (n : Nat) (t : Nat → Nd) (L : Nat) (hm : MayT F t n) : ∀ (k x : Nat) (w : World), x < n → n + 1 ≤ lvl t n x + k → TRow w vt n t L →
    Calls Tryd.prog 10 #[vt, .int .i64 (x : Int)] w fun e w' => ∃ u, e = .returned u ∧ IntOwn w.heap.size w' u (lvs t n x) ∧ Below w.heap.size w w' := by
  intro k
  induction k with
  | zero =>
    intro x w hx hk
    have := hm.lvl_le hx
    omega
  | succ k ih =>
    intro x w hx hk ht
    obtain ⟨ao, ct, rfl, htc, ht63⟩ := ht.open
    have BB : Below w.heap.size w w := Below.refl _ _
    have g0 : (0 : Int) ≤ (x : Int) := by omega
    have g1 : (x : Int) < (n : Int) := by omega
    have hn255 := hm.few
    obtain ⟨b, off, cc, p1, a1, n1, c1, b1, m1, d1, p2, a2, n2, c2, b2, m2, d2, p3, a3, n3, c3, b3, m3, d3, hvv, hcc, hc6, NN, r1, r2, r3, i1, i2, i3⟩ := ht.at hx
    cases hvv
    obtain ⟨lf, hlf⟩ : ∃ z, (t x).leaf = z := ⟨_, rfl⟩
    rw [hlf] at NN
    have X0 : Cel10 w b (off + x * 14) (.bool lf) := ⟨NN.c0⟩
    have X5 : Cel10 w b (off + x * 14 + 5) (.int .i64 (t x).left) := ⟨NN.c5⟩
    have X6 : Cel10 w b (off + x * 14 + 6) (.int .i64 (t x).right) := ⟨NN.c6⟩
    clear NN r1 r2 r3 i1 i2 i3
    cases lf
    · obtain ⟨e1, e2, k1, k2, k3, k4, l1, l2⟩ := hm.kids hx hlf
      have HWS : Hid (lvs t n x = lvs t n (kl t x) ++ lvs t n (kr t x)) := hm.lvs_split hx hlf
      have hk1 : n + 1 ≤ lvl t n (kl t x) + k := by omega
      have hk2 : n + 1 ≤ lvl t n (kr t x) + k := by omega
      have IH1 : Hid (∀ w, TRow w (.slice (some ⟨b, off, none⟩) n ct) n t L → Calls Tryd.prog 10 #[.slice (some ⟨b, off, none⟩) n ct, .int .i64 (kl t x : Int)] w fun e w' => ∃ u, e = .returned u ∧ IntOwn w.heap.size w' u (lvs t n (kl t x)) ∧ Below w.heap.size w w') := fun w h => ih (kl t x) w k2 hk1 h
      have IH2 : Hid (∀ w, TRow w (.slice (some ⟨b, off, none⟩) n ct) n t L → Calls Tryd.prog 10 #[.slice (some ⟨b, off, none⟩) n ct, .int .i64 (kr t x : Int)] w fun e w' => ∃ u, e = .returned u ∧ IntOwn w.heap.size w' u (lvs t n (kr t x)) ∧ Below w.heap.size w w') := fun w h => ih (kr t x) w k4 hk2 h
      have hf1 := hm.lvs_few8 k2
      have hf2 := hm.lvs_few8 k4
      rw [e1] at X5
      rw [e2] at X6
      clear ih hk1 hk2 hk l1 l2 e1 e2 k1 k3 hlf
      have HMX : Hid (MayT F t n) := hm
      clear hm
      generalize lvs t n (kl t x) = zl at *
      generalize lvs t n (kr t x) = zr at *
      generalize kl t x = lr at *
      generalize kr t x = rr at *
      obtain ⟨ll, hll⟩ : ∃ ll, zl.length = ll := ⟨_, rfl⟩
      obtain ⟨lq, hlq⟩ : ∃ lq, zr.length = lq := ⟨_, rfl⟩
      have HLL : Hid (zl.length = ll) := hll
      have HLQ : Hid (zr.length = lq) := hlq
      rw [hll] at hf1
      rw [hlq] at hf2
      clear hll hlq
      have Z0 := X0.cell
      go_enter Tryd.func10, Tryd.ntmps10
      go_wp2
      clear Z0
      refine wp_region_until 14 #[true, true, true, true, true, true, true, true, true, true, true, true, true, true, false, false] (fun aF lsd a' w' => ∃ vu0 vu1 vu2 vu3 vu4 vu5 vu6 vu7 vu8 vu9 vu10 vu11 vu12 vu13 : Value, a' = (((((((((((((aF.put (some 12) vu0).put (some 13) vu1).put (some 14) vu2).put (some 15) vu3).put (some 16) vu4).put (some 17) vu5).put (some 18) vu6).put (some 19) vu7).put (some 20) vu8).put (some 21) vu9).put (some 22) vu10).put (some 23) vu11).put (some 24) vu12).put (some 25) vu13 ∧ Below w.heap.size w w' ∧ (lsd.getD 0 false = true → vu0 = .slice (some ⟨b, off, none⟩) n ct) ∧ (lsd.getD 1 false = true → vu1 = .slice (some ⟨b, off, none⟩) n ct) ∧ (lsd.getD 2 false = true → vu2 = .int .i64 (x : Int)) ∧ (lsd.getD 3 false = true → vu3 = .pointer (some ⟨b, off + x * 14, none⟩)) ∧ (lsd.getD 4 false = true → vu4 = .pointer (some ⟨b, off + x * 14 + 5, none⟩)) ∧ (lsd.getD 5 false = true → vu5 = .int .i64 (lr : Int)) ∧ (lsd.getD 6 false = true → IntOwn w.heap.size w' vu6 zl) ∧ (lsd.getD 7 false = true → vu7 = .slice (some ⟨b, off, none⟩) n ct) ∧ (lsd.getD 8 false = true → vu8 = .slice (some ⟨b, off, none⟩) n ct) ∧ (lsd.getD 9 false = true → vu9 = .int .i64 (x : Int)) ∧ (lsd.getD 10 false = true → vu10 = .pointer (some ⟨b, off + x * 14, none⟩)) ∧ (lsd.getD 11 false = true → vu11 = .pointer (some ⟨b, off + x * 14 + 6, none⟩)) ∧ (lsd.getD 12 false = true → vu12 = .int .i64 (rr : Int)) ∧ (lsd.getD 13 false = true → IntOwn w.heap.size w' vu13 zr)) (by kernel_rfl) (by decide) (by kernel_rfl) (by rfl) (by kernel_rfl) ?_ ?_ ?_
      · exact ⟨_, _, _, _, _, _, _, _, _, _, _, _, _, _, by simp only [Act.put, List.setIfInBounds_toArray, List.set_cons_zero, List.set_cons_succ]; rfl, (Below.refl _ _).drew, fun h => absurd h (fun h => mark_none h), fun h => absurd h (fun h => mark_none h), fun h => absurd h (fun h => mark_none h), fun h => absurd h (fun h => mark_none h), fun h => absurd h (fun h => mark_none h), fun h => absurd h (fun h => mark_none h), fun h => absurd h (fun h => mark_none h), fun h => absurd h (fun h => mark_none h), fun h => absurd h (fun h => mark_none h), fun h => absurd h (fun h => mark_none h), fun h => absurd h (fun h => mark_none h), fun h => absurd h (fun h => mark_none h), fun h => absurd h (fun h => mark_none h), fun h => absurd h (fun h => mark_none h)⟩
      · rintro lsd au wn iu hszu ⟨vu0, vu1, vu2, vu3, vu4, vu5, vu6, vu7, vu8, vu9, vu10, vu11, vu12, vu13, rfl, hbu, fu0, fu1, fu2, fu3, fu4, fu5, fu6, fu7, fu8, fu9, fu10, fu11, fu12, fu13⟩ himu hru
        rcases (show iu = 0 ∨ iu = 1 ∨ iu = 2 ∨ iu = 3 ∨ iu = 4 ∨ iu = 5 ∨ iu = 6 ∨ iu = 7 ∨ iu = 8 ∨ iu = 9 ∨ iu = 10 ∨ iu = 11 ∨ iu = 12 ∨ iu = 13 by omega) with rfl | rfl | rfl | rfl | rfl | rfl | rfl | rfl | rfl | rfl | rfl | rfl | rfl | rfl
        · refine wpOp_shut (by rfl) (fun K hK => ?_)
          simp only [Act.put, List.setIfInBounds_toArray, List.set_cons_zero, List.set_cons_succ]
          go_simp
          exact hK.out _ _ ⟨(.slice (some ⟨b, off, none⟩) n ct), vu1, vu2, vu3, vu4, vu5, vu6, vu7, vu8, vu9, vu10, vu11, vu12, vu13, by simp only [Act.put, List.setIfInBounds_toArray, List.set_cons_zero, List.set_cons_succ], hbu, fun _ => rfl, fun h => fu1 (mark_of (by decide) h), fun h => fu2 (mark_of (by decide) h), fun h => fu3 (mark_of (by decide) h), fun h => fu4 (mark_of (by decide) h), fun h => fu5 (mark_of (by decide) h), fun h => fu6 (mark_of (by decide) h), fun h => fu7 (mark_of (by decide) h), fun h => fu8 (mark_of (by decide) h), fun h => fu9 (mark_of (by decide) h), fun h => fu10 (mark_of (by decide) h), fun h => fu11 (mark_of (by decide) h), fun h => fu12 (mark_of (by decide) h), fun h => fu13 (mark_of (by decide) h)⟩
        · refine wpOp_shut (by rfl) (fun K hK => ?_)
          simp only [Act.put, List.setIfInBounds_toArray, List.set_cons_zero, List.set_cons_succ]
          go_simp
          exact hK.out _ _ ⟨vu0, (.slice (some ⟨b, off, none⟩) n ct), vu2, vu3, vu4, vu5, vu6, vu7, vu8, vu9, vu10, vu11, vu12, vu13, by simp only [Act.put, List.setIfInBounds_toArray, List.set_cons_zero, List.set_cons_succ], hbu, fun h => fu0 (mark_of (by decide) h), fun _ => rfl, fun h => fu2 (mark_of (by decide) h), fun h => fu3 (mark_of (by decide) h), fun h => fu4 (mark_of (by decide) h), fun h => fu5 (mark_of (by decide) h), fun h => fu6 (mark_of (by decide) h), fun h => fu7 (mark_of (by decide) h), fun h => fu8 (mark_of (by decide) h), fun h => fu9 (mark_of (by decide) h), fun h => fu10 (mark_of (by decide) h), fun h => fu11 (mark_of (by decide) h), fun h => fu12 (mark_of (by decide) h), fun h => fu13 (mark_of (by decide) h)⟩
        · refine wpOp_shut (by rfl) (fun K hK => ?_)
          simp only [Act.put, List.setIfInBounds_toArray, List.set_cons_zero, List.set_cons_succ]
          go_simp
          exact hK.out _ _ ⟨vu0, vu1, (.int .i64 (x : Int)), vu3, vu4, vu5, vu6, vu7, vu8, vu9, vu10, vu11, vu12, vu13, by simp only [Act.put, List.setIfInBounds_toArray, List.set_cons_zero, List.set_cons_succ], hbu, fun h => fu0 (mark_of (by decide) h), fun h => fu1 (mark_of (by decide) h), fun _ => rfl, fun h => fu3 (mark_of (by decide) h), fun h => fu4 (mark_of (by decide) h), fun h => fu5 (mark_of (by decide) h), fun h => fu6 (mark_of (by decide) h), fun h => fu7 (mark_of (by decide) h), fun h => fu8 (mark_of (by decide) h), fun h => fu9 (mark_of (by decide) h), fun h => fu10 (mark_of (by decide) h), fun h => fu11 (mark_of (by decide) h), fun h => fu12 (mark_of (by decide) h), fun h => fu13 (mark_of (by decide) h)⟩
        · have eu1 := fu1 (dep_of 1 hru rfl (by kernel_rfl))
          have eu2 := fu2 (dep_of 2 hru rfl (by kernel_rfl))
          replace eu1 := eu1.symm
          subst eu1
          replace eu2 := eu2.symm
          subst eu2
          refine wpOp_shut (by rfl) (fun K hK => ?_)
          simp only [Act.put, List.setIfInBounds_toArray, List.set_cons_zero, List.set_cons_succ]
          go_simp
          exact hK.out _ _ ⟨vu0, (.slice (some ⟨b, off, none⟩) n ct), (.int .i64 (x : Int)), (.pointer (some ⟨b, off + x * 14, none⟩)), vu4, vu5, vu6, vu7, vu8, vu9, vu10, vu11, vu12, vu13, by simp only [Act.put, List.setIfInBounds_toArray, List.set_cons_zero, List.set_cons_succ], hbu, fun h => fu0 (mark_of (by decide) h), fun _ => rfl, fun _ => rfl, fun _ => rfl, fun h => fu4 (mark_of (by decide) h), fun h => fu5 (mark_of (by decide) h), fun h => fu6 (mark_of (by decide) h), fun h => fu7 (mark_of (by decide) h), fun h => fu8 (mark_of (by decide) h), fun h => fu9 (mark_of (by decide) h), fun h => fu10 (mark_of (by decide) h), fun h => fu11 (mark_of (by decide) h), fun h => fu12 (mark_of (by decide) h), fun h => fu13 (mark_of (by decide) h)⟩
        · have eu3 := fu3 (dep_of 3 hru rfl (by kernel_rfl))
          replace eu3 := eu3.symm
          subst eu3
          refine wpOp_shut (by rfl) (fun K hK => ?_)
          simp only [Act.put, List.setIfInBounds_toArray, List.set_cons_zero, List.set_cons_succ]
          go_simp
          exact hK.out _ _ ⟨vu0, vu1, vu2, (.pointer (some ⟨b, off + x * 14, none⟩)), (.pointer (some ⟨b, off + x * 14 + 5, none⟩)), vu5, vu6, vu7, vu8, vu9, vu10, vu11, vu12, vu13, by simp only [Act.put, List.setIfInBounds_toArray, List.set_cons_zero, List.set_cons_succ], hbu, fun h => fu0 (mark_of (by decide) h), fun h => fu1 (mark_of (by decide) h), fun h => fu2 (mark_of (by decide) h), fun _ => rfl, fun _ => rfl, fun h => fu5 (mark_of (by decide) h), fun h => fu6 (mark_of (by decide) h), fun h => fu7 (mark_of (by decide) h), fun h => fu8 (mark_of (by decide) h), fun h => fu9 (mark_of (by decide) h), fun h => fu10 (mark_of (by decide) h), fun h => fu11 (mark_of (by decide) h), fun h => fu12 (mark_of (by decide) h), fun h => fu13 (mark_of (by decide) h)⟩
        · have eu4 := fu4 (dep_of 4 hru rfl (by kernel_rfl))
          replace eu4 := eu4.symm
          subst eu4
          refine wpOp_shut (by rfl) (fun K hK => ?_)
          simp only [Act.put, List.setIfInBounds_toArray, List.set_cons_zero, List.set_cons_succ]
          have z1 := (X5.below hbu).cell
          go_simp
          exact hK.out _ _ ⟨vu0, vu1, vu2, vu3, (.pointer (some ⟨b, off + x * 14 + 5, none⟩)), (.int .i64 (lr : Int)), vu6, vu7, vu8, vu9, vu10, vu11, vu12, vu13, by simp only [Act.put, List.setIfInBounds_toArray, List.set_cons_zero, List.set_cons_succ], hbu, fun h => fu0 (mark_of (by decide) h), fun h => fu1 (mark_of (by decide) h), fun h => fu2 (mark_of (by decide) h), fun h => fu3 (mark_of (by decide) h), fun _ => rfl, fun _ => rfl, fun h => fu6 (mark_of (by decide) h), fun h => fu7 (mark_of (by decide) h), fun h => fu8 (mark_of (by decide) h), fun h => fu9 (mark_of (by decide) h), fun h => fu10 (mark_of (by decide) h), fun h => fu11 (mark_of (by decide) h), fun h => fu12 (mark_of (by decide) h), fun h => fu13 (mark_of (by decide) h)⟩
        · have eu0 := fu0 (dep_of 0 hru rfl (by kernel_rfl))
          have eu5 := fu5 (dep_of 5 hru rfl (by kernel_rfl))
          replace eu0 := eu0.symm
          subst eu0
          replace eu5 := eu5.symm
          subst eu5
          refine wpOp_shut (by rfl) (fun K hK => ?_)
          simp only [Act.put, List.setIfInBounds_toArray, List.set_cons_zero, List.set_cons_succ]
          have ht := ht.below hbu
          go_simp
          refine (IH1.out _ ht).mono ?_
          rintro eu wx ⟨u6, rfl, h6, bu⟩
          replace h6 := h6.le (show w.heap.size ≤ _ from Nat.le_trans BB.size hbu.size)
          go_wp2_with fail
          have hbu2 := hbu.trans (bu.mono hbu.size)
          exact hK.out _ _ ⟨(.slice (some ⟨b, off, none⟩) n ct), vu1, vu2, vu3, vu4, (.int .i64 (lr : Int)), _, vu7, vu8, vu9, vu10, vu11, vu12, vu13, by simp only [Act.put, List.setIfInBounds_toArray, List.set_cons_zero, List.set_cons_succ], hbu2, fun _ => rfl, fun h => fu1 (mark_of (by decide) h), fun h => fu2 (mark_of (by decide) h), fun h => fu3 (mark_of (by decide) h), fun h => fu4 (mark_of (by decide) h), fun _ => rfl, fun _ => h6, fun h => fu7 (mark_of (by decide) h), fun h => fu8 (mark_of (by decide) h), fun h => fu9 (mark_of (by decide) h), fun h => fu10 (mark_of (by decide) h), fun h => fu11 (mark_of (by decide) h), fun h => fu12 (mark_of (by decide) h), fun h => (fu13 (mark_of (by decide) h)).below bu⟩
        · refine wpOp_shut (by rfl) (fun K hK => ?_)
          simp only [Act.put, List.setIfInBounds_toArray, List.set_cons_zero, List.set_cons_succ]
          go_simp
          exact hK.out _ _ ⟨vu0, vu1, vu2, vu3, vu4, vu5, vu6, (.slice (some ⟨b, off, none⟩) n ct), vu8, vu9, vu10, vu11, vu12, vu13, by simp only [Act.put, List.setIfInBounds_toArray, List.set_cons_zero, List.set_cons_succ], hbu, fun h => fu0 (mark_of (by decide) h), fun h => fu1 (mark_of (by decide) h), fun h => fu2 (mark_of (by decide) h), fun h => fu3 (mark_of (by decide) h), fun h => fu4 (mark_of (by decide) h), fun h => fu5 (mark_of (by decide) h), fun h => fu6 (mark_of (by decide) h), fun _ => rfl, fun h => fu8 (mark_of (by decide) h), fun h => fu9 (mark_of (by decide) h), fun h => fu10 (mark_of (by decide) h), fun h => fu11 (mark_of (by decide) h), fun h => fu12 (mark_of (by decide) h), fun h => fu13 (mark_of (by decide) h)⟩
        · refine wpOp_shut (by rfl) (fun K hK => ?_)
          simp only [Act.put, List.setIfInBounds_toArray, List.set_cons_zero, List.set_cons_succ]
          go_simp
          exact hK.out _ _ ⟨vu0, vu1, vu2, vu3, vu4, vu5, vu6, vu7, (.slice (some ⟨b, off, none⟩) n ct), vu9, vu10, vu11, vu12, vu13, by simp only [Act.put, List.setIfInBounds_toArray, List.set_cons_zero, List.set_cons_succ], hbu, fun h => fu0 (mark_of (by decide) h), fun h => fu1 (mark_of (by decide) h), fun h => fu2 (mark_of (by decide) h), fun h => fu3 (mark_of (by decide) h), fun h => fu4 (mark_of (by decide) h), fun h => fu5 (mark_of (by decide) h), fun h => fu6 (mark_of (by decide) h), fun h => fu7 (mark_of (by decide) h), fun _ => rfl, fun h => fu9 (mark_of (by decide) h), fun h => fu10 (mark_of (by decide) h), fun h => fu11 (mark_of (by decide) h), fun h => fu12 (mark_of (by decide) h), fun h => fu13 (mark_of (by decide) h)⟩
        · refine wpOp_shut (by rfl) (fun K hK => ?_)
          simp only [Act.put, List.setIfInBounds_toArray, List.set_cons_zero, List.set_cons_succ]
          go_simp
          exact hK.out _ _ ⟨vu0, vu1, vu2, vu3, vu4, vu5, vu6, vu7, vu8, (.int .i64 (x : Int)), vu10, vu11, vu12, vu13, by simp only [Act.put, List.setIfInBounds_toArray, List.set_cons_zero, List.set_cons_succ], hbu, fun h => fu0 (mark_of (by decide) h), fun h => fu1 (mark_of (by decide) h), fun h => fu2 (mark_of (by decide) h), fun h => fu3 (mark_of (by decide) h), fun h => fu4 (mark_of (by decide) h), fun h => fu5 (mark_of (by decide) h), fun h => fu6 (mark_of (by decide) h), fun h => fu7 (mark_of (by decide) h), fun h => fu8 (mark_of (by decide) h), fun _ => rfl, fun h => fu10 (mark_of (by decide) h), fun h => fu11 (mark_of (by decide) h), fun h => fu12 (mark_of (by decide) h), fun h => fu13 (mark_of (by decide) h)⟩
        · have eu8 := fu8 (dep_of 8 hru rfl (by kernel_rfl))
          have eu9 := fu9 (dep_of 9 hru rfl (by kernel_rfl))
          replace eu8 := eu8.symm
          subst eu8
          replace eu9 := eu9.symm
          subst eu9
          refine wpOp_shut (by rfl) (fun K hK => ?_)
          simp only [Act.put, List.setIfInBounds_toArray, List.set_cons_zero, List.set_cons_succ]
          go_simp
          exact hK.out _ _ ⟨vu0, vu1, vu2, vu3, vu4, vu5, vu6, vu7, (.slice (some ⟨b, off, none⟩) n ct), (.int .i64 (x : Int)), (.pointer (some ⟨b, off + x * 14, none⟩)), vu11, vu12, vu13, by simp only [Act.put, List.setIfInBounds_toArray, List.set_cons_zero, List.set_cons_succ], hbu, fun h => fu0 (mark_of (by decide) h), fun h => fu1 (mark_of (by decide) h), fun h => fu2 (mark_of (by decide) h), fun h => fu3 (mark_of (by decide) h), fun h => fu4 (mark_of (by decide) h), fun h => fu5 (mark_of (by decide) h), fun h => fu6 (mark_of (by decide) h), fun h => fu7 (mark_of (by decide) h), fun _ => rfl, fun _ => rfl, fun _ => rfl, fun h => fu11 (mark_of (by decide) h), fun h => fu12 (mark_of (by decide) h), fun h => fu13 (mark_of (by decide) h)⟩
        · have eu10 := fu10 (dep_of 10 hru rfl (by kernel_rfl))
          replace eu10 := eu10.symm
          subst eu10
          refine wpOp_shut (by rfl) (fun K hK => ?_)
          simp only [Act.put, List.setIfInBounds_toArray, List.set_cons_zero, List.set_cons_succ]
          go_simp
          exact hK.out _ _ ⟨vu0, vu1, vu2, vu3, vu4, vu5, vu6, vu7, vu8, vu9, (.pointer (some ⟨b, off + x * 14, none⟩)), (.pointer (some ⟨b, off + x * 14 + 6, none⟩)), vu12, vu13, by simp only [Act.put, List.setIfInBounds_toArray, List.set_cons_zero, List.set_cons_succ], hbu, fun h => fu0 (mark_of (by decide) h), fun h => fu1 (mark_of (by decide) h), fun h => fu2 (mark_of (by decide) h), fun h => fu3 (mark_of (by decide) h), fun h => fu4 (mark_of (by decide) h), fun h => fu5 (mark_of (by decide) h), fun h => fu6 (mark_of (by decide) h), fun h => fu7 (mark_of (by decide) h), fun h => fu8 (mark_of (by decide) h), fun h => fu9 (mark_of (by decide) h), fun _ => rfl, fun _ => rfl, fun h => fu12 (mark_of (by decide) h), fun h => fu13 (mark_of (by decide) h)⟩
        · have eu11 := fu11 (dep_of 11 hru rfl (by kernel_rfl))
          replace eu11 := eu11.symm
          subst eu11
          refine wpOp_shut (by rfl) (fun K hK => ?_)
          simp only [Act.put, List.setIfInBounds_toArray, List.set_cons_zero, List.set_cons_succ]
          have z1 := (X6.below hbu).cell
          go_simp
          exact hK.out _ _ ⟨vu0, vu1, vu2, vu3, vu4, vu5, vu6, vu7, vu8, vu9, vu10, (.pointer (some ⟨b, off + x * 14 + 6, none⟩)), (.int .i64 (rr : Int)), vu13, by simp only [Act.put, List.setIfInBounds_toArray, List.set_cons_zero, List.set_cons_succ], hbu, fun h => fu0 (mark_of (by decide) h), fun h => fu1 (mark_of (by decide) h), fun h => fu2 (mark_of (by decide) h), fun h => fu3 (mark_of (by decide) h), fun h => fu4 (mark_of (by decide) h), fun h => fu5 (mark_of (by decide) h), fun h => fu6 (mark_of (by decide) h), fun h => fu7 (mark_of (by decide) h), fun h => fu8 (mark_of (by decide) h), fun h => fu9 (mark_of (by decide) h), fun h => fu10 (mark_of (by decide) h), fun _ => rfl, fun _ => rfl, fun h => fu13 (mark_of (by decide) h)⟩
        · have eu7 := fu7 (dep_of 7 hru rfl (by kernel_rfl))
          have eu12 := fu12 (dep_of 12 hru rfl (by kernel_rfl))
          replace eu7 := eu7.symm
          subst eu7
          replace eu12 := eu12.symm
          subst eu12
          have h6 := fu6 (dep_of 6 hru rfl (by kernel_rfl))
          refine wpOp_shut (by rfl) (fun K hK => ?_)
          simp only [Act.put, List.setIfInBounds_toArray, List.set_cons_zero, List.set_cons_succ]
          have ht := ht.below hbu
          go_simp
          refine (IH2.out _ ht).mono ?_
          rintro eu wx ⟨u13, rfl, h13, bu⟩
          replace h13 := h13.le (show w.heap.size ≤ _ from Nat.le_trans BB.size hbu.size)
          go_wp2_with fail
          have hbu2 := hbu.trans (bu.mono hbu.size)
          exact hK.out _ _ ⟨vu0, vu1, vu2, vu3, vu4, vu5, vu6, (.slice (some ⟨b, off, none⟩) n ct), vu8, vu9, vu10, vu11, (.int .i64 (rr : Int)), _, by simp only [Act.put, List.setIfInBounds_toArray, List.set_cons_zero, List.set_cons_succ], hbu2, fun h => fu0 (mark_of (by decide) h), fun h => fu1 (mark_of (by decide) h), fun h => fu2 (mark_of (by decide) h), fun h => fu3 (mark_of (by decide) h), fun h => fu4 (mark_of (by decide) h), fun h => fu5 (mark_of (by decide) h), fun h => (fu6 (mark_of (by decide) h)).below bu, fun _ => rfl, fun h => fu8 (mark_of (by decide) h), fun h => fu9 (mark_of (by decide) h), fun h => fu10 (mark_of (by decide) h), fun h => fu11 (mark_of (by decide) h), fun _ => rfl, fun _ => h13⟩
      rintro au Wu31 ⟨vu0, vu1, vu2, vu3, vu4, vu5, vu6, vu7, vu8, vu9, vu10, vu11, vu12, vu13, rfl, hbu, fu0, fu1, fu2, fu3, fu4, fu5, fu6, fu7, fu8, fu9, fu10, fu11, fu12, fu13⟩
      have eu0 := (fu0 rfl).symm
      subst eu0
      have eu1 := (fu1 rfl).symm
      subst eu1
      have eu2 := (fu2 rfl).symm
      subst eu2
      have eu3 := (fu3 rfl).symm
      subst eu3
      have eu4 := (fu4 rfl).symm
      subst eu4
      have eu5 := (fu5 rfl).symm
      subst eu5
      have h6 := fu6 rfl
      have eu7 := (fu7 rfl).symm
      subst eu7
      have eu8 := (fu8 rfl).symm
      subst eu8
      have eu9 := (fu9 rfl).symm
      subst eu9
      have eu10 := (fu10 rfl).symm
      subst eu10
      have eu11 := (fu11 rfl).symm
      subst eu11
      have eu12 := (fu12 rfl).symm
      subst eu12
      have h13 := fu13 rfl
      clear fu0 fu1 fu2 fu3 fu4 fu5 fu6 fu7 fu8 fu9 fu10 fu11 fu12 fu13
      replace ht := ht.below hbu
      replace BB := BB.trans (hbu.mono BB.size)
      clear hbu
      simp only [Act.put, List.setIfInBounds_toArray, List.set_cons_zero, List.set_cons_succ]
      refine wpAnyH_ready (rs := [14]) (by kernel_rfl) (by simp) ?_
      refine AllReadyH.cons (by rfl) (fun K hK => ?_) AllReadyH.nil
      obtain ⟨gl, cl, rfl, hcl⟩ := h6.open (by have := HLL.out; omega)
      obtain ⟨gu, cu, rfl, hcu⟩ := h13.open (by have := HLQ.out; omega)
      rw [HLL.out] at hcl
      rw [HLQ.out] at hcu
      have hF8 := int_len HLL.out h6
      have hcc : ∀ j u, (zr.map (fun x : Nat => Value.int .i64 (x : Int)))[j]? = some u → Wu31.cell? ((⟨gu, 0, none⟩ : Addr).add j) = some u := World.ownsRow.cells h13 (g := gu) rfl
      have hnl : (zr.map (fun x : Nat => Value.int .i64 (x : Int))).length = lq * 1 := by rw [List.length_map, HLQ.out, Nat.mul_one]
      have h1c : ∀ u ∈ zr.map (fun x : Nat => Value.int .i64 (x : Int)), u.oneCell' = true := by intro u hu; rw [List.mem_map] at hu; obtain ⟨y, _, rfl⟩ := hu; rfl
      refine step_append_pureM (Q' := fun _ => False) (by rfl) _ _ _ (by rfl) w.heap.size 3 (.int .i64 0) 1 8 Tryd.underlying27 info_int (by rfl) (by omega) (.slice (some ⟨gl, 0, none⟩) zl.length cl) (by rfl) ll (zl.map (fun x : Nat => Value.int .i64 (x : Int))) hF8 (fun _ _ _ _ _ h => h) ⟨gu, 0, none⟩ lq cu (by omega) (by omega) (by rw [← HLQ.out]; rfl) (zr.map (fun x : Nat => Value.int .i64 (x : Int))) hnl hcc h1c (by simp) (by simp) (by omega) (by omega) BB.size ?_
      intro gn cn w8 hO8 hg8 hat8 _ _
      have BB8 : Below w.heap.size w w8 := below_grownB BB hg8 BB.size (fun g h => (h6.both g h).1)
      have hO9 := int_app HLL.out HLQ.out hO8
      clear hO8 hg8 hat8 hcc hnl h1c hF8
      refine hK.out _ _ trivial (fun _ => ?_)
      clear hK K
      simp only [Act.put, List.setIfInBounds_toArray, List.set_cons_zero, List.set_cons_succ]
      refine wpAnyH_ready (rs := [15]) (by kernel_rfl) (by simp) ?_
      refine AllReadyH.cons (by rfl) (fun K hK => ?_) AllReadyH.nil
      go_simp
      refine hK.out _ _ trivial (fun _ => ?_)
      clear hK K
      simp only [Act.put, List.setIfInBounds_toArray, List.set_cons_zero, List.set_cons_succ]
      refine wpAnyH_done (by kernel_rfl) ?_ _
      go_wp2
      go_ret
      exact ⟨_, rfl, by rw [HWS.out]; exact hO9, BB8⟩
    · have HW : Hid (lvs t n x = [x]) := lvs_leaf hlf
      clear hlf ht X5 X6
      have hF := int_first w x w.heap.size (Nat.le_refl _)
      have BB2 : Below w.heap.size w (w.alloc (.cells #[.int .i64 (x : Int)] 3)) := BB.alloc (Nat.le_refl _) _
      have Z0 := X0.cell
      go_enter Tryd.func10, Tryd.ntmps10
      go_wp2
      go_ret
      exact ⟨_, rfl, by rw [HW.out]; exact hF, BB2⟩
theorem lleaves8_at (F : Int) (vt : Value) (n x : Nat) (t : Nat → Nd) (L : Nat) (w : World) (hm : MayT F t n) (hx : x < n) (ht : TRow w vt n t L) :
    Calls Tryd.prog 10 #[vt, .int .i64 (x : Int)] w fun e w' => ∃ u, e = .returned u ∧ IntOwn w.heap.size w' u (lvs t n x) ∧ Below w.heap.size w w' :=
  lleaves8_ind F vt n t L hm (n + 1) x w hx (by omega) ht

set_option maxRecDepth 100000 in
set_option maxHeartbeats 8000000 in
theorem ldepth8_ind (vt : Value) (n : Nat) (t : Nat → Nd) (L : Nat) (F : Int) (hm : MayT F t n) : ∀ (k x : Nat) (w : World), x < n → n + 1 ≤ lvl t n x + k → TRow w vt n t L →
    Calls Tryd.prog 12 #[vt, .int .i64 (x : Int)] w fun e w' => e = .returned (.int .i64 (dp t n x : Int)) ∧ Below w.heap.size w w' := by
  intro k
  induction k with
  | zero =>
    intro x w hx hk
    have := hm.lvl_le hx
    omega
  | succ k ih =>
    intro x w hx hk ht
    obtain ⟨ao, ct, rfl, htc, ht63⟩ := ht.open
    have g0 : (0 : Int) ≤ (x : Int) := by omega
    have g1 : (x : Int) < (n : Int) := by omega
    have hn255 := hm.few
    have HT0 : Hid (TRow w (.slice ao n ct) n t L) := ht
    obtain ⟨b, off, cc, p1, a1, n1, c1, b1, m1, d1, p2, a2, n2, c2, b2, m2, d2, p3, a3, n3, c3, b3, m3, d3, hvv, hcc, hc6, NN, r1, r2, r3, i1, i2, i3⟩ := ht.at hx
    cases hvv
    obtain ⟨lf, hlf⟩ : ∃ z, (t x).leaf = z := ⟨_, rfl⟩
    rw [hlf] at NN
    clear r1 r2 r3 i1 i2 i3
    cases lf
    · obtain ⟨e1, e2, _, a2, _, a4, v1, v2⟩ := hm.kids hx hlf
      have HD : Hid (dp t n x = max (dp t n (kl t x)) (dp t n (kr t x)) + 1) := hm.dp_split hx hlf
      have hl1 := hm.dp_le a2
      have hl2 := hm.dp_le a4
      rw [e1, e2] at NN
      have IH1 : Hid (Calls Tryd.prog 12 #[.slice (some ⟨b, off, none⟩) n ct, .int .i64 ((kl t x : Nat) : Int)] w fun e w' => e = .returned (.int .i64 (dp t n (kl t x) : Int)) ∧ Below w.heap.size w w') := ih (kl t x) w a2 (by omega) HT0.out
      have IH2 : Hid (∀ w', TRow w' (.slice (some ⟨b, off, none⟩) n ct) n t L → Calls Tryd.prog 12 #[.slice (some ⟨b, off, none⟩) n ct, .int .i64 ((kr t x : Nat) : Int)] w' fun e w'' => e = .returned (.int .i64 (dp t n (kr t x) : Int)) ∧ Below w'.heap.size w' w'') := fun w' h => ih (kr t x) w' a4 (by omega) h
      have NN0 := NN
      clear ih hlf e1 e2 hm v1 v2 hk
      generalize kl t x = l at *
      generalize kr t x = rr at *
      obtain ⟨da, hda⟩ : ∃ da, dp t n l = da := ⟨_, rfl⟩
      obtain ⟨db, hdb⟩ : ∃ db, dp t n rr = db := ⟨_, rfl⟩
      rw [hda] at HD hl1 IH1
      rw [hdb] at HD hl2 IH2
      clear hda hdb ht
      go_enter Tryd.func12, Tryd.ntmps12
      obtain ⟨N_0, N_1, N_2, N_3, N_4, N_5, N_6, N_7, N_8, N_9, N_10, N_11, N_12, N_13⟩ := NN
      go_wp2_with fail
      refine Calls.mono IH1.out ?_
      rintro e w1 ⟨rfl, b1⟩
      clear N_0 N_1 N_2 N_3 N_4 N_5 N_6 N_7 N_8 N_9 N_10 N_11 N_12 N_13 IH1
      obtain ⟨N_0, N_1, N_2, N_3, N_4, N_5, N_6, N_7, N_8, N_9, N_10, N_11, N_12, N_13⟩ := NN0.low b1
      go_wp2_with fail
      refine Calls.mono (IH2.out _ (HT0.out.below b1)) ?_
      rintro e w2 ⟨rfl, b2⟩
      clear N_0 N_1 N_2 N_3 N_4 N_5 N_6 N_7 N_8 N_9 N_10 N_11 N_12 N_13 IH2 NN0
      have BB := b1.trans (b2.mono b1.size)
      clear b1 b2
      by_cases hlt : da < db
      · have f1 : (da : Int) < (db : Int) := by omega
        have wd : IntKind.i64.wrap ((db : Int) + 1) = (db : Int) + 1 := by rw [IntKind.wrap_i64]; omega
        have HE : Hid ((dp t n x : Int) = (db : Int) + 1) := by show (dp t n x : Int) = _; rw [HD.out]; omega
        clear HD
        go_wp2
        go_ret
        exact ⟨by rw [HE.out]; rfl, BB⟩
      · have f1 : ¬ (da : Int) < (db : Int) := by omega
        have wd : IntKind.i64.wrap ((da : Int) + 1) = (da : Int) + 1 := by rw [IntKind.wrap_i64]; omega
        have HE : Hid ((dp t n x : Int) = (da : Int) + 1) := by show (dp t n x : Int) = _; rw [HD.out]; omega
        clear HD
        go_wp2
        go_ret
        exact ⟨by rw [HE.out]; rfl, BB⟩
    · have HD : Hid (dp t n x = 0) := dp_leaf hlf
      clear hlf ih ht
      go_enter Tryd.func12, Tryd.ntmps12
      obtain ⟨N_0, N_1, N_2, N_3, N_4, N_5, N_6, N_7, N_8, N_9, N_10, N_11, N_12, N_13⟩ := NN
      go_wp2
      go_ret
      exact ⟨by rw [HD.out]; rfl, Below.refl _ _⟩
theorem ldepth8_at (vt : Value) (n : Nat) (t : Nat → Nd) (L : Nat) (F : Int) (w : World) (hm : MayT F t n) (ht : TRow w vt n t L) :
    Calls Tryd.prog 12 #[vt, .int .i64 0] w fun e w' => e = .returned (.int .i64 (dp t n 0 : Int)) ∧ Below w.heap.size w w' :=
  ldepth8_ind vt n t L F hm (n + 1) 0 w (by have := hm.pos; omega) (by omega) ht
end Go.Proofs.YtgddiimnpliolaaDoor
