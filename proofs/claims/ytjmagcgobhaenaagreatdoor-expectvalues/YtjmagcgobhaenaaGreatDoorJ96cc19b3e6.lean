/-
  Texts of mine, joined: what lies beneath the statement.
-/
import Derived.Test.YtjmagcgobhaenaaGreatDoorJadc9609297
namespace Go.Proofs.YtjmagcgobhaenaaGreatDoor
set_option linter.unusedVariables false
set_option linter.unusedSimpArgs false
theorem MayT.lvs_pos {F : Int} {t : Nat → Nd} {n : Nat} (h : MayT F t n) {x : Nat} (hx : x < n) : 1 ≤ (lvs t n x).length := by
 have h1 := h.count hx
 have h2 := pre_pos t n x
 omega
theorem say_u {F : Int} {t : Nat → Nd} {n L : Nat} (hm : MayT F t n) (hz : ∀ i,i < n → qsz (t i).val ≤ L ∧ qsz (t i).cov ≤ L) (r : Nat → Cl) (s : Nat) {x : Nat} (hx : x < n) : qsz (say t n r s x * (t x).cov) + 1 ≤ (2 * L + 1) * (lvs t n x).length := by
 refine hm.by_tree (P := fun x => qsz (say t n r s x * (t x).cov) + 1 ≤ (2 * L + 1) * (lvs t n x).length) (fun x hx hl => ?_) (fun x hx hl a b => ?_) hx
 ·rw [say_leaf hl,lvs_leaf hl]
  have h1 := qsz_mul _ _ (hz x hx).1 (hz x hx).2
  simp only [List.length_cons,List.length_nil]
  omega
 ·obtain ⟨_,_,_,a2,_,a4,_,_⟩ := hm.kids hx hl
  have p1 := hm.lvs_pos a2
  have p2 := hm.lvs_pos a4
  rw [hm.lvs_split hx hl,List.length_append,Nat.mul_add]
  have q1 : 2 * L + 1 ≤ (2 * L + 1) * (lvs t n (kl t x)).length := Nat.le_mul_of_pos_right _ p1
  have q2 : 2 * L + 1 ≤ (2 * L + 1) * (lvs t n (kr t x)).length := Nat.le_mul_of_pos_right _ p2
  have c0 : (t x).cov ≠ 0 := fun e => by have := hm.cov x hx; rw [e] at this; exact absurd this (by decide)
  cases hi : inS s (t x).feat.toNat with
  | true =>
   rw [hm.say_in r hx hl hi]
   have key : ∀ c,c < n → qsz (say t n r s c * (t x).cov) ≤ qsz (say t n r s c * (t c).cov) + 2 * L := fun c hc => by
    have cc : (t c).cov ≠ 0 := fun e => by have := hm.cov c hc; rw [e] at this; exact absurd this (by decide)
    have e1 : say t n r s c * (t x).cov = say t n r s c * (t c).cov * ((t x).cov / (t c).cov) := by
     rw [Rat.div_def]
     have : (t c).cov * (t c).cov⁻¹ = 1 := Rat.mul_inv_cancel _ cc
     grind
    rw [e1]
    have h3 := qsz_div _ _ (hz _ hx).2 (hz _ hc).2
    have h4 := qsz_mul _ _ (Nat.le_refl (qsz (say t n r s c * (t c).cov))) h3
    omega
   have : Go.Proofs.YtjmagcgobhaenaaGreatDoor.nxt (t x) r = kl t x ∨ Go.Proofs.YtjmagcgobhaenaaGreatDoor.nxt (t x) r = kr t x := by
    unfold Go.Proofs.YtjmagcgobhaenaaGreatDoor.nxt kl kr
    by_cases g : goL (t x) (r (t x).feat.toNat) = true
    ·rw [if_pos g]; exact .inl rfl
    ·rw [if_neg g]; exact .inr rfl
   rcases this with e | e
   ·rw [e]
    have := key _ a2
    omega
   ·rw [e]
    have := key _ a4
    omega
  | false =>
   rw [hm.say_out r hx hl hi]
   have e1 : ((t (kl t x)).cov * say t n r s (kl t x) + (t (kr t x)).cov * say t n r s (kr t x)) / (t x).cov * (t x).cov = say t n r s (kl t x) * (t (kl t x)).cov + say t n r s (kr t x) * (t (kr t x)).cov := by
    rw [Rat.div_def,Rat.mul_assoc,Rat.inv_mul_cancel _ c0,Rat.mul_one,Rat.mul_comm (t (kl t x)).cov,Rat.mul_comm (t (kr t x)).cov]
   rw [e1]
   have h5 := qsz_add _ _ (Nat.le_refl (qsz (say t n r s (kl t x) * (t (kl t x)).cov))) (Nat.le_refl (qsz (say t n r s (kr t x) * (t (kr t x)).cov)))
   omega
theorem say_tight {F : Int} {t : Nat → Nd} {n L : Nat} (hm : MayT F t n) (hz : ∀ i,i < n → qsz (t i).val ≤ L ∧ qsz (t i).cov ≤ L) (r : Nat → Cl) (s : Nat) {x : Nat} (hx : x < n) : qsz (say t n r s x) + 1 ≤ (2 * L + 1) * (lvs t n x).length + L := by
 have h1 := say_u hm hz r s hx
 have c0 : (t x).cov ≠ 0 := fun e => by have := hm.cov x hx; rw [e] at this; exact absurd this (by decide)
 have e1 : say t n r s x = say t n r s x * (t x).cov / (t x).cov := by rw [Rat.div_def,Rat.mul_assoc,Rat.mul_inv_cancel _ c0,Rat.mul_one]
 have h2 := qsz_div _ _ (Nat.le_refl (qsz (say t n r s x * (t x).cov))) (hz x hx).2
 rw [← e1] at h2
 omega
theorem say_few15 {F : Int} {t : Nat → Nd} {n : Nat} (hm : MayT F t n) (hz : ∀ i,i < n → qsz (t i).val ≤ 4 ∧ qsz (t i).cov ≤ 4) (hn : n ≤ 15) (r : Nat → Cl) (s : Nat) {x : Nat} (hx : x < n) : qsz (say t n r s x) ≤ 75 := by
 have h1 := say_tight hm hz r s hx
 have h2 := hm.count hx
 have h3 := hm.pre_few hx
 omega
theorem sayV_few {w : World} {v : Value} {k : Nat} {N : Nat → Nat} {T : Nat → Nat → Nd} {F : Int} (h : MRow w v k N T 4) (hm : ∀ i,i < k → MayT F (T i) (N i)) (hN : ∀ i,N i ≤ 15) (hk : k ≤ 3) (r : Nat → Cl) (s : Nat) : qsz (sumq (sayV T N r s) k) ≤ 229 := by
 have h1 := qsz_sumq (sayV T N r s) 75 k (fun i hi => say_few15 (hm i hi) (h.sz11 (by omega) hi) (hN i) r s (hm i hi).pos)
 omega
theorem whyI_zero11 {F : Int} {k : Nat} {N : Nat → Nat} {T : Nat → Nat → Nd} {nr : Nat} (h : whyI F k N T nr = 0) : mayB F k N T = true ∧ (nr : Int) = F := by
 unfold whyI at h
 by_cases a : mayB F k N T = true
 ·rw [if_pos a] at h
  by_cases b : (nr : Int) = F
  ·exact ⟨a,b⟩
  ·rw [if_neg b] at h; omega
 ·rw [if_neg a] at h; omega
theorem u64_wf {z : Int} (h : (Lit.int .u64 z).wf = true) : ∃ s : Nat,z = (s : Int) ∧ s < 18446744073709551616 := by
 simp [Lit.wf] at h
 have e1 : IntKind.u64.min = 0 := by decide
 have e2 : IntKind.u64.max = 18446744073709551615 := by decide
 exact ⟨z.toNat,by omega,by omega⟩
end Go.Proofs.YtjmagcgobhaenaaGreatDoor
