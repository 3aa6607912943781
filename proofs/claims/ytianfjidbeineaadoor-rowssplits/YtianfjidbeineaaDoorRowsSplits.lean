/-
  Proves that Split cuts any words, up to 60, into parts with no bar in them, and that the parts with bars between are the words, whatever comes in (the statement RowsSplits, its tied card); the table of math/bits lies as the program's text lays it; no other condition.
-/
import Derived.Test.YtianfjidbeineaaDoorRows
import Derived.Test.YtianfjidbeineaaDoorJ64a48a56e7
import Derived.WalkKit
import Derived.ProofKit
import Derived.OpenShut
import Derived.ShutString
import Derived.ChangeOld
import Derived.Below
import Derived.Test.YtianfjidbeineaaDoorTie
import Derived.Test.YtianfjidbeineaaDoorCards
import Derived.LaidByTextLater
import Derived.LaidHandle
import Derived.Lib.LaidTab
import Derived.SevenTiedAt
namespace Go.Proofs.YtianfjidbeineaaDoor.rowsSplits
open Go.ChangeShapes Go.WideShapes Go.ChangeAt Go.RowKit
open Go.ChangeMaps (open_string shut_string)
set_option linter.unusedVariables false
set_option linter.unusedSimpArgs false

theorem parts_in9 {τ : Tau} {n : Nat} {p : Nat × Nat} (hp : p ∈ partsT τ n) : p.1 + p.2 ≤ n := parts_in hp

set_option maxRecDepth 100000 in
set_option maxHeartbeats 8000000 in
theorem walk (v : Value) (n0 : Nat) (τ : Tau) (w : World) (hv : RowAt 3 w v n0 (tel τ)) (ht : Tab w) :
    Calls Tryd.prog 3 #[v] w fun e w' => e = .returned (.bool true) ∧ Below w.heap.size w w' := by
  obtain ⟨ao, c, rfl, hnc, hc63⟩ : ∃ a c, v = .slice a n0 c ∧ n0 ≤ c ∧ c ≤ 9223372036854775807 := by obtain ⟨a, c, h1, h2, h3, _⟩ := hv; exact ⟨a, c, h1, h2, h3⟩
  go_enter Tryd.func3, Tryd.ntmps3
  by_cases h60 : 60 < n0
  · have g60 : (n0 : Int) > 60 := by omega
    have hv1 := hv.pre (show 60 ≤ n0 by omega)
    obtain ⟨bh, oh, hao⟩ : ∃ b o, ao = some ⟨b, o, none⟩ := by obtain ⟨_, _, e9, _, _, h9⟩ := hv; cases e9; obtain ⟨b, o, e, _⟩ := h9 (by omega); exact ⟨b, o, e⟩
    subst hao
    go_wp2_with fail
    refine (split_at _ 60 τ w hv1 (by omega)).mono ?_
    rintro e w1 ⟨hr, b1⟩
    have ht1 := ht.below b1
    have hv0 : Hid (RowAt 3 w1 (.slice (some ⟨bh, oh, none⟩) 60 c) 60 (tel τ)) := hv1.below b1
    clear hv1 hv
    rcases hr with ⟨h0, rfl⟩ | ⟨h0, r, rfl, PO⟩
    · omega

    · have HCU : Hid (Cut9 τ (partsT τ 60) (spl τ 60).1.length 60) := cut9 τ 60
      have hPL : (partsT τ 60).length ≤ 61 := by have := parts_len τ 60; omega
      have HIN : Hid (∀ p ∈ partsT τ 60, p.1 + p.2 ≤ 60) := fun p hp => parts_in9 hp
      generalize partsT τ 60 = P at *
      generalize (spl τ 60).1.length = KL at *
      obtain ⟨us, hru, hpu⟩ := PO
      have HPU : Hid (∀ (i : Nat) (p : Nat × Nat), P[i]? = some p → ∃ u, us[i]? = some u ∧ SOwn w.heap.size w1 u p.2 (fun x => τ (p.1 + x))) := hpu
      have hlen := HCU.out.len
      obtain ⟨gP, cP, rfl⟩ : ∃ g c, r = .slice (some ⟨g, 0, none⟩) P.length c := by
        rcases hru.2 with ⟨rfl, h9⟩ | ⟨g, c, _, rfl, _⟩
        · omega
        · exact ⟨g, c, rfl⟩
      obtain ⟨K, hK⟩ : ∃ K, P.length = K := ⟨_, rfl⟩
      have HK : Hid (P.length = K) := hK
      rw [hK] at hru hlen hPL
      rw [hK]
      have hru0 : Hid (w1.ownsRow w.heap.size 22 1 (.slice (some ⟨gP, 0, none⟩) K cP) K us) := hru
      have hKc : K ≤ cP := (owns_cap hru).1
      clear hpu hK hru
      have HKL : Hid (K = KL + 1) := hlen
      have HKL : Hid (K = KL + 1) := hlen
      have n1_ : ¬ (60 : Int) = 0 := by omega
      have n2_ : True := trivial
      clear hlen
      go_wp2
      go_loopw [4, 5] (fun va vi wr => ∃ i : Nat, i ≤ K ∧ vi = .int .i64 (i : Int) ∧ va = .int .i64 ((enP P i : Nat) : Int) ∧ Below w1.heap.size w1 wr) (fun _ vi _ => K - (intOf vi).toNat)
      case atStart => exact ⟨0, by omega, rfl, rfl, Below.refl _ _⟩
      case round =>
        obtain ⟨i, hi, rfl, rfl, BR⟩ := hrel
        by_cases hlt : i < K
        · have g1 : (i : Int) < (K : Int) := by omega
          have g0 : (0 : Int) ≤ (i : Int) := by omega
          obtain ⟨p, hp⟩ : ∃ p, P[i]? = some p := ⟨_, List.getElem?_eq_getElem (by rw [HK.out]; omega)⟩
          have HPG : Hid (P[i]? = some p) := hp
          have HPD : Hid (P.getD i (0, 0) = p) := by show _ = _; rw [List.getD_eq_getElem?_getD, hp]; rfl
          obtain ⟨u, hu, so⟩ := HPU.out i p hp
          have hpin : p.1 + p.2 ≤ 60 := HIN.out p (List.mem_of_getElem? hp)
          have HSO : Hid (SOwn w.heap.size w1 u p.2 (fun x => τ (p.1 + x))) := so
          obtain ⟨au, cu, rfl⟩ := so.form
          have HU : Hid (us[i]? = some (.slice au p.2 cu)) := hu
          clear hu so hp
          by_cases hi0 : i = 0
          · have HT1 : Hid (enP P i = p.1) := by
              show enP P i = p.1
              rw [hi0]
              have h9 := HCU.out.first p (by have := HPG.out; rw [hi0] at this; exact this)
              rw [h9]; rfl
            have hnz : ¬ (i : Int) > 0 := by omega
            have hnz2 : ¬ 0 < i := by omega
            rw [HT1.out]
            obtain ⟨t, ht_⟩ : ∃ t, p.1 = t := ⟨_, rfl⟩
            have HT0 : Hid (p.1 = t) := ht_
            rw [ht_]
            clear ht_ hi0
            go_wp2
            go_loopw [4, 6] (fun va vk wr => ∃ k : Nat, k ≤ p.2 ∧ vk = .int .i64 (k : Int) ∧ va = .int .i64 ((p.1 + k : Nat) : Int) ∧ Below w1.heap.size w1 wr) (fun _ vk _ => p.2 - (intOf vk).toNat)
            case atStart => exact ⟨0, by omega, rfl, by rw [HT0.out]; rfl, BR⟩
            case round =>
              clear BR
              obtain ⟨k, hk, rfl, rfl, BR⟩ := hrel
              have hrr := owns_later hru0.out BR
              have XU : wr.cell? ⟨gP, i, none⟩ = some (.slice au p.2 cu) := owns_cell hrr HU.out
              clear hrr
              by_cases hlk : k < p.2
              · have k1 : (k : Int) < (p.2 : Int) := by omega
                have k0 : (0 : Int) ≤ (k : Int) := by omega
                obtain ⟨ba, oa, ca, hva, hca, Y0, Y1, Y2⟩ := tel_at ((HSO.out.row).below BR) hlk
                cases hva
                have hat : p.1 + k < 60 := by omega
                obtain ⟨bl, ol, cl, hvl, hcl, Z0, Z1, Z2⟩ := tel_at (hv0.out.below BR) hat
                cases hvl
                have HNB := HCU.out.plain i p HPG.out k hlk
                have Y0 : wr.cell? ⟨ba, oa + k * 3, none⟩ = some (.int .i64 (τ (p.1 + k)).1) := Y0
                have Y1 : wr.cell? ⟨ba, oa + k * 3 + 1, none⟩ = some (.int .i64 (τ (p.1 + k)).2.1) := Y1
                have Y2 : wr.cell? ⟨ba, oa + k * 3 + 2, none⟩ = some (.string (τ (p.1 + k)).2.2) := Y2
                have hnb : ((τ (p.1 + k)).2.2.toList == [124]) = false := HNB
                clear HNB
                generalize (τ (p.1 + k)).1 = tA at *
                generalize (τ (p.1 + k)).2.1 = tB at *
                generalize (τ (p.1 + k)).2.2 = s at *
                obtain ⟨t, ht_⟩ : ∃ t, p.1 + k = t := ⟨_, rfl⟩
                have HTT : Hid (p.1 + k = t) := ht_
                rw [ht_] at hat Z0 Z1 Z2
                rw [ht_]
                clear ht_
                have t0 : (0 : Int) ≤ (t : Int) := by omega
                have t1 : (t : Int) < (60 : Int) := by omega
                have t2 : ¬ (t : Int) ≥ (60 : Int) := by omega
                have t3 : decide ((t : Int) ≥ (60 : Int)) = false := decide_eq_false t2
                have t4 : IntKind.i64.wrap ((t : Int) + 1) = (t : Int) + 1 := by rw [IntKind.wrap_i64]; omega
                have t5 : decide (60 ≤ t) = false := by simp; omega
                have hss : (s.toList == s.toList) = true := by simp
                go_wp2
                go_quiet (fail)
                go_wp2
                go_roundw
                case rel => exact ⟨k + 1, by omega, by go_num, by have := HTT.out; go_num, below_drewN BR _⟩
                case measure => simp [intOf]; omega
              · obtain ⟨kk, hkk⟩ : ∃ kk, kk = p.2 := ⟨_, rfl⟩
                have HKE : Hid (enP P (i + 1) = p.1 + k) := by show enP P (i + 1) = _; rw [enP_succ, HPD.out]; omega
                have hkn : ¬ (k : Int) < (p.2 : Int) := by omega
                clear hkk
                go_wp2
                go_roundw
                case rel => exact ⟨i + 1, by omega, by go_num, by rw [HKE.out], BR⟩
                case measure => simp [intOf]; omega
          · obtain ⟨j, hij⟩ : ∃ j, i = j + 1 := ⟨i - 1, by omega⟩
            have HIJ : Hid (i = j + 1) := hij
            have HPJ : P[j + 1]? = some p := by rw [← hij]; exact HPG.out
            obtain ⟨q, hq⟩ : ∃ q, P[j]? = some q := ⟨_, List.getElem?_eq_getElem (by rw [HK.out]; omega)⟩
            obtain ⟨hbar, hnx⟩ := HCU.out.next j q p hq HPJ
            have hen : enP P i = q.1 + q.2 := by rw [hij, enP_succ, List.getD_eq_getElem?_getD, hq]; rfl
            rw [hen]
            obtain ⟨t, ht_⟩ : ∃ t, q.1 + q.2 = t := ⟨_, rfl⟩
            rw [ht_] at hbar hnx ⊢
            have htn : t < 60 := by omega
            have HT0 : Hid (p.1 = t + 1) := hnx
            have hnz : (i : Int) > 0 := by omega
            have hnz2 : 0 < i := by omega
            clear ht_ hen hq hnx HPJ hij hi0
            obtain ⟨bl, ol, cl, hvl, hcl, Z0, Z1, Z2⟩ := tel_at (hv0.out.below BR) htn
            cases hvl
            have hbr : ((τ t).2.2.toList == [124]) = true := hbar
            generalize (τ t).2.2 = s at Z2 hbr
            clear hbar Z0 Z1
            have t0 : (0 : Int) ≤ (t : Int) := by omega
            have t1 : (t : Int) < (60 : Int) := by omega
            have t2 : ¬ (t : Int) ≥ (60 : Int) := by omega
            have t3 : decide ((t : Int) ≥ (60 : Int)) = false := decide_eq_false t2
            have t5 : decide (60 ≤ t) = false := by simp; omega
            have hbn : (s.toList != [124]) = false := by simp [bne, hbr]
            have hbe : s.toList = [124] := by simpa using hbr
            have t4 : IntKind.i64.wrap ((t : Int) + 1) = (t : Int) + 1 := by rw [IntKind.wrap_i64]; omega
            go_wp2
            clear t0 t1 t2 t3 t5 Z2
            go_loopw [4, 6] (fun va vk wr => ∃ k : Nat, k ≤ p.2 ∧ vk = .int .i64 (k : Int) ∧ va = .int .i64 ((p.1 + k : Nat) : Int) ∧ Below w1.heap.size w1 wr) (fun _ vk _ => p.2 - (intOf vk).toNat)
            case atStart => exact ⟨0, by omega, rfl, by have := HT0.out; rw [this]; go_num, BR⟩
            case round =>
              clear BR
              obtain ⟨k, hk, rfl, rfl, BR⟩ := hrel
              have hrr := owns_later hru0.out BR
              have XU : wr.cell? ⟨gP, i, none⟩ = some (.slice au p.2 cu) := owns_cell hrr HU.out
              clear hrr
              by_cases hlk : k < p.2
              · have k1 : (k : Int) < (p.2 : Int) := by omega
                have k0 : (0 : Int) ≤ (k : Int) := by omega
                obtain ⟨ba, oa, ca, hva, hca, Y0, Y1, Y2⟩ := tel_at ((HSO.out.row).below BR) hlk
                cases hva
                have hat : p.1 + k < 60 := by omega
                obtain ⟨bl, ol, cl, hvl, hcl, Z0, Z1, Z2⟩ := tel_at (hv0.out.below BR) hat
                cases hvl
                have HNB := HCU.out.plain i p HPG.out k hlk
                have Y0 : wr.cell? ⟨ba, oa + k * 3, none⟩ = some (.int .i64 (τ (p.1 + k)).1) := Y0
                have Y1 : wr.cell? ⟨ba, oa + k * 3 + 1, none⟩ = some (.int .i64 (τ (p.1 + k)).2.1) := Y1
                have Y2 : wr.cell? ⟨ba, oa + k * 3 + 2, none⟩ = some (.string (τ (p.1 + k)).2.2) := Y2
                have hnb : ((τ (p.1 + k)).2.2.toList == [124]) = false := HNB
                clear HNB
                generalize (τ (p.1 + k)).1 = tA at *
                generalize (τ (p.1 + k)).2.1 = tB at *
                generalize (τ (p.1 + k)).2.2 = s at *
                obtain ⟨t, ht_⟩ : ∃ t, p.1 + k = t := ⟨_, rfl⟩
                have HTT : Hid (p.1 + k = t) := ht_
                rw [ht_] at hat Z0 Z1 Z2
                rw [ht_]
                clear ht_
                have t0 : (0 : Int) ≤ (t : Int) := by omega
                have t1 : (t : Int) < (60 : Int) := by omega
                have t2 : ¬ (t : Int) ≥ (60 : Int) := by omega
                have t3 : decide ((t : Int) ≥ (60 : Int)) = false := decide_eq_false t2
                have t4 : IntKind.i64.wrap ((t : Int) + 1) = (t : Int) + 1 := by rw [IntKind.wrap_i64]; omega
                have t5 : decide (60 ≤ t) = false := by simp; omega
                have hss : (s.toList == s.toList) = true := by simp
                go_wp2
                go_quiet (fail)
                go_wp2
                go_roundw
                case rel => exact ⟨k + 1, by omega, by go_num, by have := HTT.out; go_num, below_drewN BR _⟩
                case measure => simp [intOf]; omega
              · obtain ⟨kk, hkk⟩ : ∃ kk, kk = p.2 := ⟨_, rfl⟩
                have HKE : Hid (enP P (i + 1) = p.1 + k) := by show enP P (i + 1) = _; rw [enP_succ, HPD.out]; omega
                have hkn : ¬ (k : Int) < (p.2 : Int) := by omega
                clear hkk
                go_wp2
                go_roundw
                case rel => exact ⟨i + 1, by omega, by go_num, by rw [HKE.out], BR⟩
                case measure => simp [intOf]; omega
        · obtain rfl : i = K := by omega
          have g1 : ¬ (i : Int) < (i : Int) := by omega
          have hEN : enP P i = 60 := by
            have h9 := HKL.out
            subst h9
            obtain ⟨p, hp⟩ : ∃ p, P[KL]? = some p := ⟨_, List.getElem?_eq_getElem (by rw [HK.out]; omega)⟩
            have h8 := HCU.out.last p hp
            rw [enP_succ, List.getD_eq_getElem?_getD, hp]
            exact h8
          rw [hEN]
          clear hEN
          go_wp2_with fail
          refine (awake9_at _ (ht1.below BR)).mono ?_
          rintro e w2 ⟨rfl, b2⟩
          have BB := (b1.trans (BR.mono b1.size)).trans (b2.mono (by have := b1.size; have := BR.size; omega))
          go_wp2
          go_ret
          exact ⟨rfl, BB⟩
  · have g60 : ¬ (n0 : Int) > 60 := by omega
    have hv1 := hv
    obtain ⟨n, hn⟩ : ∃ n, n0 = n := ⟨_, rfl⟩
    subst hn
    have hn60 : n0 ≤ 60 := by omega
    go_wp2_with fail
    refine (split_at _ n0 τ w hv1 (by omega)).mono ?_
    rintro e w1 ⟨hr, b1⟩
    have ht1 := ht.below b1
    have hv0 : Hid (RowAt 3 w1 (.slice ao n0 c) n0 (tel τ)) := hv1.below b1
    clear hv1 hv
    rcases hr with ⟨h0, rfl⟩ | ⟨h0, r, rfl, PO⟩
    · subst h0
      go_wp2_with fail
      refine (awake9_at _ ht1).mono ?_
      rintro e w2 ⟨rfl, b2⟩
      have BB := b1.trans (b2.mono b1.size)
      go_wp2
      go_ret
      exact ⟨rfl, BB⟩
    · have HCU : Hid (Cut9 τ (partsT τ n0) (spl τ n0).1.length n0) := cut9 τ n0
      have hPL : (partsT τ n0).length ≤ 61 := by have := parts_len τ n0; omega
      have HIN : Hid (∀ p ∈ partsT τ n0, p.1 + p.2 ≤ n0) := fun p hp => parts_in9 hp
      generalize partsT τ n0 = P at *
      generalize (spl τ n0).1.length = KL at *
      obtain ⟨us, hru, hpu⟩ := PO
      have HPU : Hid (∀ (i : Nat) (p : Nat × Nat), P[i]? = some p → ∃ u, us[i]? = some u ∧ SOwn w.heap.size w1 u p.2 (fun x => τ (p.1 + x))) := hpu
      have hlen := HCU.out.len
      obtain ⟨gP, cP, rfl⟩ : ∃ g c, r = .slice (some ⟨g, 0, none⟩) P.length c := by
        rcases hru.2 with ⟨rfl, h9⟩ | ⟨g, c, _, rfl, _⟩
        · omega
        · exact ⟨g, c, rfl⟩
      obtain ⟨K, hK⟩ : ∃ K, P.length = K := ⟨_, rfl⟩
      have HK : Hid (P.length = K) := hK
      rw [hK] at hru hlen hPL
      rw [hK]
      have hru0 : Hid (w1.ownsRow w.heap.size 22 1 (.slice (some ⟨gP, 0, none⟩) K cP) K us) := hru
      have hKc : K ≤ cP := (owns_cap hru).1
      clear hpu hK hru
      have HKL : Hid (K = KL + 1) := hlen
      have HKL : Hid (K = KL + 1) := hlen
      have n1_ : ¬ (n0 : Int) = 0 := by omega
      have n2_ : ((n0 : Int) == 0) = false := by simp; omega
      clear hlen
      go_wp2
      go_loopw [4, 5] (fun va vi wr => ∃ i : Nat, i ≤ K ∧ vi = .int .i64 (i : Int) ∧ va = .int .i64 ((enP P i : Nat) : Int) ∧ Below w1.heap.size w1 wr) (fun _ vi _ => K - (intOf vi).toNat)
      case atStart => exact ⟨0, by omega, rfl, rfl, Below.refl _ _⟩
      case round =>
        obtain ⟨i, hi, rfl, rfl, BR⟩ := hrel
        by_cases hlt : i < K
        · have g1 : (i : Int) < (K : Int) := by omega
          have g0 : (0 : Int) ≤ (i : Int) := by omega
          obtain ⟨p, hp⟩ : ∃ p, P[i]? = some p := ⟨_, List.getElem?_eq_getElem (by rw [HK.out]; omega)⟩
          have HPG : Hid (P[i]? = some p) := hp
          have HPD : Hid (P.getD i (0, 0) = p) := by show _ = _; rw [List.getD_eq_getElem?_getD, hp]; rfl
          obtain ⟨u, hu, so⟩ := HPU.out i p hp
          have hpin : p.1 + p.2 ≤ n0 := HIN.out p (List.mem_of_getElem? hp)
          have HSO : Hid (SOwn w.heap.size w1 u p.2 (fun x => τ (p.1 + x))) := so
          obtain ⟨au, cu, rfl⟩ := so.form
          have HU : Hid (us[i]? = some (.slice au p.2 cu)) := hu
          clear hu so hp
          by_cases hi0 : i = 0
          · have HT1 : Hid (enP P i = p.1) := by
              show enP P i = p.1
              rw [hi0]
              have h9 := HCU.out.first p (by have := HPG.out; rw [hi0] at this; exact this)
              rw [h9]; rfl
            have hnz : ¬ (i : Int) > 0 := by omega
            have hnz2 : ¬ 0 < i := by omega
            rw [HT1.out]
            obtain ⟨t, ht_⟩ : ∃ t, p.1 = t := ⟨_, rfl⟩
            have HT0 : Hid (p.1 = t) := ht_
            rw [ht_]
            clear ht_ hi0
            go_wp2
            go_loopw [4, 6] (fun va vk wr => ∃ k : Nat, k ≤ p.2 ∧ vk = .int .i64 (k : Int) ∧ va = .int .i64 ((p.1 + k : Nat) : Int) ∧ Below w1.heap.size w1 wr) (fun _ vk _ => p.2 - (intOf vk).toNat)
            case atStart => exact ⟨0, by omega, rfl, by rw [HT0.out]; rfl, BR⟩
            case round =>
              clear BR
              obtain ⟨k, hk, rfl, rfl, BR⟩ := hrel
              have hrr := owns_later hru0.out BR
              have XU : wr.cell? ⟨gP, i, none⟩ = some (.slice au p.2 cu) := owns_cell hrr HU.out
              clear hrr
              by_cases hlk : k < p.2
              · have k1 : (k : Int) < (p.2 : Int) := by omega
                have k0 : (0 : Int) ≤ (k : Int) := by omega
                obtain ⟨ba, oa, ca, hva, hca, Y0, Y1, Y2⟩ := tel_at ((HSO.out.row).below BR) hlk
                cases hva
                have hat : p.1 + k < n0 := by omega
                obtain ⟨bl, ol, cl, hvl, hcl, Z0, Z1, Z2⟩ := tel_at (hv0.out.below BR) hat
                cases hvl
                have HNB := HCU.out.plain i p HPG.out k hlk
                have Y0 : wr.cell? ⟨ba, oa + k * 3, none⟩ = some (.int .i64 (τ (p.1 + k)).1) := Y0
                have Y1 : wr.cell? ⟨ba, oa + k * 3 + 1, none⟩ = some (.int .i64 (τ (p.1 + k)).2.1) := Y1
                have Y2 : wr.cell? ⟨ba, oa + k * 3 + 2, none⟩ = some (.string (τ (p.1 + k)).2.2) := Y2
                have hnb : ((τ (p.1 + k)).2.2.toList == [124]) = false := HNB
                clear HNB
                generalize (τ (p.1 + k)).1 = tA at *
                generalize (τ (p.1 + k)).2.1 = tB at *
                generalize (τ (p.1 + k)).2.2 = s at *
                obtain ⟨t, ht_⟩ : ∃ t, p.1 + k = t := ⟨_, rfl⟩
                have HTT : Hid (p.1 + k = t) := ht_
                rw [ht_] at hat Z0 Z1 Z2
                rw [ht_]
                clear ht_
                have t0 : (0 : Int) ≤ (t : Int) := by omega
                have t1 : (t : Int) < (n0 : Int) := by omega
                have t2 : ¬ (t : Int) ≥ (n0 : Int) := by omega
                have t3 : decide ((t : Int) ≥ (n0 : Int)) = false := decide_eq_false t2
                have t4 : IntKind.i64.wrap ((t : Int) + 1) = (t : Int) + 1 := by rw [IntKind.wrap_i64]; omega
                have t5 : decide (n0 ≤ t) = false := by simp; omega
                have hss : (s.toList == s.toList) = true := by simp
                go_wp2
                go_quiet (fail)
                go_wp2
                go_roundw
                case rel => exact ⟨k + 1, by omega, by go_num, by have := HTT.out; go_num, below_drewN BR _⟩
                case measure => simp [intOf]; omega
              · obtain ⟨kk, hkk⟩ : ∃ kk, kk = p.2 := ⟨_, rfl⟩
                have HKE : Hid (enP P (i + 1) = p.1 + k) := by show enP P (i + 1) = _; rw [enP_succ, HPD.out]; omega
                have hkn : ¬ (k : Int) < (p.2 : Int) := by omega
                clear hkk
                go_wp2
                go_roundw
                case rel => exact ⟨i + 1, by omega, by go_num, by rw [HKE.out], BR⟩
                case measure => simp [intOf]; omega
          · obtain ⟨j, hij⟩ : ∃ j, i = j + 1 := ⟨i - 1, by omega⟩
            have HIJ : Hid (i = j + 1) := hij
            have HPJ : P[j + 1]? = some p := by rw [← hij]; exact HPG.out
            obtain ⟨q, hq⟩ : ∃ q, P[j]? = some q := ⟨_, List.getElem?_eq_getElem (by rw [HK.out]; omega)⟩
            obtain ⟨hbar, hnx⟩ := HCU.out.next j q p hq HPJ
            have hen : enP P i = q.1 + q.2 := by rw [hij, enP_succ, List.getD_eq_getElem?_getD, hq]; rfl
            rw [hen]
            obtain ⟨t, ht_⟩ : ∃ t, q.1 + q.2 = t := ⟨_, rfl⟩
            rw [ht_] at hbar hnx ⊢
            have htn : t < n0 := by omega
            have HT0 : Hid (p.1 = t + 1) := hnx
            have hnz : (i : Int) > 0 := by omega
            have hnz2 : 0 < i := by omega
            clear ht_ hen hq hnx HPJ hij hi0
            obtain ⟨bl, ol, cl, hvl, hcl, Z0, Z1, Z2⟩ := tel_at (hv0.out.below BR) htn
            cases hvl
            have hbr : ((τ t).2.2.toList == [124]) = true := hbar
            generalize (τ t).2.2 = s at Z2 hbr
            clear hbar Z0 Z1
            have t0 : (0 : Int) ≤ (t : Int) := by omega
            have t1 : (t : Int) < (n0 : Int) := by omega
            have t2 : ¬ (t : Int) ≥ (n0 : Int) := by omega
            have t3 : decide ((t : Int) ≥ (n0 : Int)) = false := decide_eq_false t2
            have t5 : decide (n0 ≤ t) = false := by simp; omega
            have hbn : (s.toList != [124]) = false := by simp [bne, hbr]
            have hbe : s.toList = [124] := by simpa using hbr
            have t4 : IntKind.i64.wrap ((t : Int) + 1) = (t : Int) + 1 := by rw [IntKind.wrap_i64]; omega
            go_wp2
            clear t0 t1 t2 t3 t5 Z2
            go_loopw [4, 6] (fun va vk wr => ∃ k : Nat, k ≤ p.2 ∧ vk = .int .i64 (k : Int) ∧ va = .int .i64 ((p.1 + k : Nat) : Int) ∧ Below w1.heap.size w1 wr) (fun _ vk _ => p.2 - (intOf vk).toNat)
            case atStart => exact ⟨0, by omega, rfl, by have := HT0.out; rw [this]; go_num, BR⟩
            case round =>
              clear BR
              obtain ⟨k, hk, rfl, rfl, BR⟩ := hrel
              have hrr := owns_later hru0.out BR
              have XU : wr.cell? ⟨gP, i, none⟩ = some (.slice au p.2 cu) := owns_cell hrr HU.out
              clear hrr
              by_cases hlk : k < p.2
              · have k1 : (k : Int) < (p.2 : Int) := by omega
                have k0 : (0 : Int) ≤ (k : Int) := by omega
                obtain ⟨ba, oa, ca, hva, hca, Y0, Y1, Y2⟩ := tel_at ((HSO.out.row).below BR) hlk
                cases hva
                have hat : p.1 + k < n0 := by omega
                obtain ⟨bl, ol, cl, hvl, hcl, Z0, Z1, Z2⟩ := tel_at (hv0.out.below BR) hat
                cases hvl
                have HNB := HCU.out.plain i p HPG.out k hlk
                have Y0 : wr.cell? ⟨ba, oa + k * 3, none⟩ = some (.int .i64 (τ (p.1 + k)).1) := Y0
                have Y1 : wr.cell? ⟨ba, oa + k * 3 + 1, none⟩ = some (.int .i64 (τ (p.1 + k)).2.1) := Y1
                have Y2 : wr.cell? ⟨ba, oa + k * 3 + 2, none⟩ = some (.string (τ (p.1 + k)).2.2) := Y2
                have hnb : ((τ (p.1 + k)).2.2.toList == [124]) = false := HNB
                clear HNB
                generalize (τ (p.1 + k)).1 = tA at *
                generalize (τ (p.1 + k)).2.1 = tB at *
                generalize (τ (p.1 + k)).2.2 = s at *
                obtain ⟨t, ht_⟩ : ∃ t, p.1 + k = t := ⟨_, rfl⟩
                have HTT : Hid (p.1 + k = t) := ht_
                rw [ht_] at hat Z0 Z1 Z2
                rw [ht_]
                clear ht_
                have t0 : (0 : Int) ≤ (t : Int) := by omega
                have t1 : (t : Int) < (n0 : Int) := by omega
                have t2 : ¬ (t : Int) ≥ (n0 : Int) := by omega
                have t3 : decide ((t : Int) ≥ (n0 : Int)) = false := decide_eq_false t2
                have t4 : IntKind.i64.wrap ((t : Int) + 1) = (t : Int) + 1 := by rw [IntKind.wrap_i64]; omega
                have t5 : decide (n0 ≤ t) = false := by simp; omega
                have hss : (s.toList == s.toList) = true := by simp
                go_wp2
                go_quiet (fail)
                go_wp2
                go_roundw
                case rel => exact ⟨k + 1, by omega, by go_num, by have := HTT.out; go_num, below_drewN BR _⟩
                case measure => simp [intOf]; omega
              · obtain ⟨kk, hkk⟩ : ∃ kk, kk = p.2 := ⟨_, rfl⟩
                have HKE : Hid (enP P (i + 1) = p.1 + k) := by show enP P (i + 1) = _; rw [enP_succ, HPD.out]; omega
                have hkn : ¬ (k : Int) < (p.2 : Int) := by omega
                clear hkk
                go_wp2
                go_roundw
                case rel => exact ⟨i + 1, by omega, by go_num, by rw [HKE.out], BR⟩
                case measure => simp [intOf]; omega
        · obtain rfl : i = K := by omega
          have g1 : ¬ (i : Int) < (i : Int) := by omega
          have hEN : enP P i = n0 := by
            have h9 := HKL.out
            subst h9
            obtain ⟨p, hp⟩ : ∃ p, P[KL]? = some p := ⟨_, List.getElem?_eq_getElem (by rw [HK.out]; omega)⟩
            have h8 := HCU.out.last p hp
            rw [enP_succ, List.getD_eq_getElem?_getD, hp]
            exact h8
          rw [hEN]
          clear hEN
          go_wp2_with fail
          refine (awake9_at _ (ht1.below BR)).mono ?_
          rintro e w2 ⟨rfl, b2⟩
          have BB := (b1.trans (BR.mono b1.size)).trans (b2.mono (by have := b1.size; have := BR.size; omega))
          go_wp2
          go_ret
          exact ⟨rfl, BB⟩

theorem own : ownKnob Tryd.prog.godebug = none := by kernel_rfl
theorem laidOut : laidOutB Tryd.prog = true := by kernel_rfl

abbrev laid1 : List (String × DataW Unit) := [("math/bits.deBruijn64tab", Rows.laid_math_bits_deBruijn64tab)]
theorem gTab : Tryd.prog.globalNamed "math/bits.deBruijn64tab" = some 1 := by kernel_rfl
theorem gTabType : (Tryd.prog.globals[1]?).map (·.type) = some 113 := by kernel_rfl
theorem uTab : Tryd.prog.underlying 113 = some (.array 64 5) := by kernel_rfl
theorem uCell : Tryd.prog.underlying 5 = some (.int .u8) := by kernel_rfl
theorem cCell : Tryd.prog.cellsOf 5 = 1 := by kernel_rfl
theorem cTab : Tryd.prog.cellsOf 113 = 64 := by kernel_rfl
/-- The listed table lies in its cells. -/
theorem tab_of {W : World} (h : laidMetH Tryd.prog laid1 W) : Tab W := by
  rw [MakeChecks.laidMetH_plain _ _ _ (by kernel_rfl)] at h
  have hd : laid1 = [("math/bits.deBruijn64tab", Lib.tabData .u8 (Lib.deBruijn64tab.map fun (n : Nat) => Int.ofNat n))] := rfl
  rw [hd] at h
  have hT := Lib.tabIs_of_head gTab gTabType uTab uCell cCell cTab h
  intro i hi
  have hc := hT.cell gTab i (by rw [List.length_map]; exact hi)
  rw [hc]
  congr 2
  rw [List.getD_eq_getElem?_getD, List.getElem?_map, List.getD_eq_getElem?_getD]
  cases Lib.deBruijn64tab[i]? <;> rfl
/-- A start for the witness: the heap that the run of the program's own initialisers leaves. -/
noncomputable def startW (os : Os) : World := { World.holding Tryd.prog os ⟨#[], #[], []⟩ with heap := (varsWorld Tryd.prog 400 (varsId Tryd.prog) os (fun _ _ => 0)).heap }
theorem start_met (os : Os) (args : Array Value) : laidMetH Tryd.prog laid1 ((startW os).forCall (fun _ _ => 0) ⟨#[], args, []⟩).memory :=
  laidMetH_of_parts3 (fuel := 8) (laidMet_of_run' 8 (by kernel_rfl) (by kernel_rfl)) (by kernel_rfl) (by kernel_rfl)

set_option maxRecDepth 100000 in
theorem lifted (os : Os) (started : os.Started) (H : Type) (enc : TypeId × Value → H) :
    ReturnsInHanded {} Tryd.checked os 3 .any (fun w args => (Rows.rowsSplitsSpec.pre enc Tryd.prog Tryd.f3 [] false w args ∧ laidMetH Tryd.prog laid1 w) ∧ sizedMet enc Tryd.prog Tryd.f3 (OpenSpec.ofChange Rows.rowsSplitsSpec) false w args) (Rows.rowsSplitsSpec.post enc Tryd.prog Tryd.f3 false true false false) := by
  refine returnsInHanded_of_change_and (C := Tryd.checked) (X := fun w _ => laidMetH Tryd.prog laid1 w) (fun _ _ _ hh h => h.of_heap hh) own started (by kernel_rfl) Tryd.func3
    (ChangeSpec.witness_shaped (enc := enc) (C := Tryd.checked) (os := os) (X := fun w _ => laidMetH Tryd.prog laid1 w) false (startW os) #[.slice none 0 0] 8 rfl (World.shaped_of_RefB (by kernel_rfl) (by kernel_rfl)) (by kernel_rfl) (by kernel_rfl) (by kernel_rfl) (start_met os _)) ?_
  intro W base args ds gs before hval0 hW _ _ hL _
  have hval : ∀ (j : Nat) t v, Tryd.f3.params[j]? = some t → args[j]? = some v → Value.okWide Tryd.prog W .any base t v := hval0
  have hW' := hW
  obtain ⟨p, q, hA0, hV, rfl, hfz, hnd⟩ := hW
  have hA : DataW.TrodAll enc Tryd.prog W 0 (fun _ => true) true Tryd.f3.params.toList args.toList ds p := hA0
  rw [Tryd.params3] at hA hval
  obtain ⟨v0, vs0, d0, ds0, p0, q0, hargs, rfl, rfl, h0, r0⟩ := trodAll_cons hA
  obtain ⟨rfl, rfl, rfl⟩ := trodAll_nil r0
  obtain rfl : args = #[v0] := by cases args; simp_all
  obtain ⟨rfl, rfl⟩ := trodVars_none hV
  have k0 := h0
  have lt0 : ∀ x ∈ p0, x.block < W.heap.size := by obtain ⟨m, hm⟩ := k0; exact DataW.trod_lt m _ _ _ hm
  obtain ⟨n0, z0, w0⟩ := open_toks (hval 0 22 v0 rfl rfl) h0
  clear hA0 hval0
  refine (walk _ _ _ W w0 (tab_of hL)).mono fun e W' ⟨he, bel⟩ => ?_
  subst he
  exact ⟨_, rfl, _, _, _, [], _, [], hW', trodAll_mk1 (shut_bool Tryd.underlying4 _), (trodAll_cons_mk (Below.trod laidOut (by kernel_rfl) (of_decide_eq_true (by kernel_rfl)) k0 bel lt0) trodAll_mk0), rfl, bel.frame _, fun h => by cases h⟩

theorem over : Rows.rowsSplitsRow.holds Tryd.pinned (OpenSpec.ofChange Rows.rowsSplitsSpec) :=
  OpenClaim.holds_of_wide 3 Tryd.f3 rfl rfl rfl rfl rfl rfl rfl ⟨rfl, rfl, rfl, rfl, rfl⟩ rfl rfl rfl rfl rfl (by kernel_rfl) Tryd.func3 (by kernel_rfl)
    (of_decide_eq_true (by kernel_rfl)) (by unfold Func.isWrapper; first | (rw [if_pos (by decide +kernel)]; kernel_rfl) | (rw [if_neg (by decide +kernel)]; exact ⟨rfl, rfl⟩))
    (fun os started H enc _ => lifted os started H enc)

end Go.Proofs.YtianfjidbeineaaDoor.rowsSplits
namespace Go.Proofs.YtianfjidbeineaaDoor
/-- The statement: the row, tied to the text of the program. -/
theorem rowsSplits_holds : Rows.RowsSplitsCardSaid :=
  Claim7.holds_tied_plain_at .later [] [.data] true (true, "c8e6be53bc1b4d10cffcd3e7aa66abdadb2a50ab854b1380777183e88156017b") false
    rowsSplits.over (fun _ h => by cases h) (by kernel_rfl) (fun _ h => by cases h) rowsSplits_row_tie rfl ⟨rfl, rfl⟩ (by kernel_rfl) rfl
    (fun f fn hf hfn => by
      obtain rfl : f = 3 := Option.some.inj ((show Tryd.prog.funcNamed "dendron/dendronlaw09.RowsSplits" = some 3 by kernel_rfl).symm.trans hf) |>.symm
      obtain rfl : fn = Tryd.f3 := (Option.some.inj (Tryd.func3.symm.trans hfn)).symm
      exact ⟨by kernel_rfl, fun j t ht => by
        rw [Tryd.params3] at ht
        have hm : t ∈ [22] := by simpa using Array.mem_of_getElem? ht
        have hall : ([22].all fun u => !Tryd.prog.wantsStandIn u) = true := by kernel_rfl
        exact (show Tryd.prog.wantsStandIn t = false by simpa using List.all_eq_true.1 hall t hm)⟩)
    (by kernel_rfl)
end Go.Proofs.YtianfjidbeineaaDoor
