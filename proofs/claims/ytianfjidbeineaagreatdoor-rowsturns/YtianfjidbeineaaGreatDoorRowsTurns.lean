/-
  Proves that With answers any row of up to 70 entries with another entry, or why there is none, that Mix answers a row mixed of two, or why there is none, and that what is handed in stays, whatever comes in (the statement RowsTurns, its tied card); the table of math/bits lies as the program's text lays it; no other condition.
-/
import Derived.Test.YtianfjidbeineaaGreatDoorRows
import Derived.Test.YtianfjidbeineaaGreatDoorJ6144f0f318
import Derived.Test.YtianfjidbeineaaGreatDoorJ25e3db85e3
import Derived.Test.YtianfjidbeineaaGreatDoorJa06a988fc3
import Derived.WalkKit
import Derived.ProofKit
import Derived.OpenShut
import Derived.ShutString
import Derived.ChangeOld
import Derived.Below
import Derived.Test.YtianfjidbeineaaGreatDoorTie
import Derived.Test.YtianfjidbeineaaGreatDoorCards
import Derived.LaidByTextLater
import Derived.LaidHandle
import Derived.Lib.LaidTab
import Derived.SevenTiedAt
namespace Go.Proofs.YtianfjidbeineaaGreatDoor.rowsTurns
open Go.ChangeShapes Go.WideShapes Go.ChangeAt Go.RowKit
open Go.ChangeMaps (open_string shut_string)
set_option linter.unusedVariables false
set_option linter.unusedSimpArgs false

theorem sameC_own (d : Cl) : sameC (ownC d) d = true := by
  unfold sameC ownC
  cases h : d.miss <;> simp [h]

set_option maxRecDepth 100000 in
set_option maxHeartbeats 32000000 in
theorem walk (u : Value) (n1 : Nat) (r1 : Nat → Cl) (v : Value) (n2 : Nat) (r2 : Nat → Cl) (i : Int) (ms p : Bool) (ao : Option Addr) (n c : Nat) (bo : Option Addr) (m d : Nat) (f g : Nat → Int) (s : Int) (w : World) (h1 : CRaw w u n1 r1 3) (h2 : CRaw w v n2 r2 3) (hi : (Lit.int .i64 i).wf = true) (h3 : Raw w (.slice ao n c) n f) (h4 : Raw w (.slice bo m d) m g) (hs : (Lit.int .u64 s).wf = true) (ht : Tab w) :
    Calls Tryz.prog 7 #[u, v, .int .i64 i, .agg #[.bool ms, .bool p, .slice ao n c, .slice bo m d], .int .u64 s] w fun e w' => e = .returned (.bool true) ∧ Below w.heap.size w w' := by
  have BB : Below w.heap.size w w := Below.refl _ _
  obtain ⟨a0, c0, rfl, _, _⟩ := h1.open
  obtain ⟨b0, d0, rfl, _, _⟩ := h2.open
  obtain ⟨set, hset, hs64⟩ : ∃ k : Nat, s = (k : Int) ∧ k < 2 ^ 64 := by
    have h9 : 0 ≤ s ∧ s < 18446744073709551616 := by have := hs; simp [Lit.wf] at this; have e1 : IntKind.u64.min = 0 := by decide
                                                     have e2 : IntKind.u64.max = 18446744073709551615 := by decide
                                                     omega
    exact ⟨s.toNat, by omega, by omega⟩
  subst hset
  clear hs hi
  obtain ⟨W0, hW0, hS0, hL0, VC⟩ := V4.lay w 29 (.bool ms) (.bool p) (.slice ao n c) (.slice bo m d)
  replace ht := ht.below hL0
  replace BB := BB.trans (hL0.mono BB.size)
  have h1 := h1.below BB
  have h2 := h2.below BB
  have h3 := h3.below BB
  have h4 := h4.below BB
  have hR0 : w.heap.size < W0.heap.size := VC.lt
  clear hS0 hL0
  go_enter Tryz.func7, Tryz.ntmps7
  go_wp2_with fail
  rw [← hW0]
  clear hW0
  refine (few9_at _ n1 70 r1 _ h1 (by omega)).mono ?_
  rintro e w1 ⟨ra, rfl, CA0, b1⟩
  replace ht := ht.below b1
  replace VC := VC.below b1
  replace BB := BB.trans (b1.mono BB.size)
  have h2 := h2.below b1
  have h3 := h3.below b1
  have h4 := h4.below b1
  have hR1 : W0.heap.size ≤ w1.heap.size := b1.size
  obtain ⟨aa, ca, rfl⟩ := CA0.form
  go_wp2_with fail
  refine (few9_at _ n2 70 r2 _ h2 (by omega)).mono ?_
  rintro e w2 ⟨rb, rfl, CB0, b2⟩
  replace ht := ht.below b2
  replace VC := VC.below b2
  replace CA0 := CA0.below b2
  replace BB := BB.trans (b2.mono BB.size)
  have h3 := h3.below b2
  have h4 := h4.below b2
  obtain ⟨ab, cb, rfl⟩ := CB0.form
  obtain ⟨nA, hnA⟩ : ∃ n, min n1 70 = n := ⟨_, rfl⟩
  obtain ⟨nB, hnB⟩ : ∃ n, min n2 70 = n := ⟨_, rfl⟩
  have hA70 : nA ≤ 70 := by omega
  have hB70 : nB ≤ 70 := by omega
  rw [hnA] at CA0 ⊢
  rw [hnB] at CB0 ⊢
  clear hnA hnB b1 b2
  obtain ⟨⟨y1, y2, y3, y4, y5, y6⟩, y7, y8⟩ := id VC
  go_wp2_with fail
  clear y1 y2 y3 y4 y5 y6 y7 y8
  refine (number9_at _ _ _ _ _ _ _ _ h3 h4).mono ?_
  rintro e w3 ⟨ao3, co3, bo3, do3, rfl, hu3, uf3, hv3, vf3, b3⟩
  replace ht := ht.below b3
  replace VC := VC.below b3
  replace CA0 := CA0.below b3
  replace CB0 := CB0.below b3
  replace BB := BB.trans (b3.mono BB.size)
  clear b3
  obtain ⟨q, hq⟩ : ∃ q, q = mkRat (zof p (num f (min n 3))) (num g (min m 3)) := ⟨_, rfl⟩
  have X : RatAt w3 (.agg #[.bool p, .slice ao3 (min n 3) co3, .slice bo3 (min m 3) do3]) q 3 := by rw [hq]; exact RatAt.raw hu3 uf3 hv3 vf3 (Nat.min_le_right _ _) (Nat.min_le_right _ _)
  clear hu3 uf3 hv3 vf3 hq h3 h4
  generalize min n 3 = k3 at *
  generalize min m 3 = l3 at *
  have KK := VC.keep9 (.bool p) (.slice ao3 k3 co3) (.slice bo3 l3 do3)
  have GG := grown_sets3 w3 w.heap.size 1 2 3 (.bool p) (.slice ao3 k3 co3) (.slice bo3 l3 do3)
  have X_n := X.keepL KK
  have ht_n := ht.keepL KK
  have VC_n := VC.num9 (.bool p) (.slice ao3 k3 co3) (.slice bo3 l3 do3)
  have CA_n := (CA0.kept GG KK (by
    cases e9 : (Value.slice aa nA ca).ownBlock with
    | none => exact .inl rfl
    | some g9 => refine .inr (fun e8 => ?_); have h9 := (CA0.blocks g9 e9).1; injection e8 with e8; omega)).row
  have CB_n := (CB0.kept GG KK (by
    cases e9 : (Value.slice ab nB cb).ownBlock with
    | none => exact .inl rfl
    | some g9 => refine .inr (fun e8 => ?_); have h9 := (CB0.blocks g9 e9).1; injection e8 with e8; omega)).row
  have BB_n : Below w.heap.size w (((w3.setCell ⟨w.heap.size, 1, none⟩ (.bool p)).setCell ⟨w.heap.size, 2, none⟩ (.slice ao3 k3 co3)).setCell ⟨w.heap.size, 3, none⟩ (.slice bo3 l3 do3)) := ((BB.setCell (Nat.le_refl _) _).setCell (Nat.le_refl _) _).setCell (Nat.le_refl _) _
  clear KK GG
  obtain ⟨⟨y1, y2, y3, y4, y5, y6⟩, y7, y8⟩ := id VC
  have HSET : Hid (∃ W4, W4 = ((w3.setCell ⟨w.heap.size, 1, none⟩ (.bool p)).setCell ⟨w.heap.size, 2, none⟩ (.slice ao3 k3 co3)).setCell ⟨w.heap.size, 3, none⟩ (.slice bo3 l3 do3)) := ⟨_, rfl⟩
  have hAlc : Below (((w3.setCell ⟨w.heap.size, 1, none⟩ (.bool p)).setCell ⟨w.heap.size, 2, none⟩ (.slice ao3 k3 co3)).setCell ⟨w.heap.size, 3, none⟩ (.slice bo3 l3 do3)).heap.size (((w3.setCell ⟨w.heap.size, 1, none⟩ (.bool p)).setCell ⟨w.heap.size, 2, none⟩ (.slice ao3 k3 co3)).setCell ⟨w.heap.size, 3, none⟩ (.slice bo3 l3 do3)) ((((w3.setCell ⟨w.heap.size, 1, none⟩ (.bool p)).setCell ⟨w.heap.size, 2, none⟩ (.slice ao3 k3 co3)).setCell ⟨w.heap.size, 3, none⟩ (.slice bo3 l3 do3)).alloc (.cells #[] 29)) := (Below.refl _ _).alloc (Nat.le_refl _) _
  obtain ⟨hEc, hPc⟩ := empty9 (((w3.setCell ⟨w.heap.size, 1, none⟩ (.bool p)).setCell ⟨w.heap.size, 2, none⟩ (.slice ao3 k3 co3)).setCell ⟨w.heap.size, 3, none⟩ (.slice bo3 l3 do3)) (((w3.setCell ⟨w.heap.size, 1, none⟩ (.bool p)).setCell ⟨w.heap.size, 2, none⟩ (.slice ao3 k3 co3)).setCell ⟨w.heap.size, 3, none⟩ (.slice bo3 l3 do3)).heap.size (Nat.le_refl _)
  rw [show (((w3.setCell ⟨w.heap.size, 1, none⟩ (.bool p)).setCell ⟨w.heap.size, 2, none⟩ (.slice ao3 k3 co3)).setCell ⟨w.heap.size, 3, none⟩ (.slice bo3 l3 do3)).heap.size = w3.heap.size by simp] at hEc hPc
  have hvc := CA_n.below hAlc
  have hszc : w3.heap.size ≤ ((((w3.setCell ⟨w.heap.size, 1, none⟩ (.bool p)).setCell ⟨w.heap.size, 2, none⟩ (.slice ao3 k3 co3)).setCell ⟨w.heap.size, 3, none⟩ (.slice bo3 l3 do3)).alloc (.cells #[] 29)).heap.size := by simp
  clear HSET
  go_wp2_with (first
    | (at_builtin
       refine wpList_clone9 rfl _ _ rfl (by rfl) (by rfl) hEc hPc hvc (by omega) hszc ?_
       intro gc cc w4 CLc blc _
       have hAld : Below w3.heap.size (((w3.setCell ⟨w.heap.size, 1, none⟩ (.bool p)).setCell ⟨w.heap.size, 2, none⟩ (.slice ao3 k3 co3)).setCell ⟨w.heap.size, 3, none⟩ (.slice bo3 l3 do3)) ((((w3.setCell ⟨w.heap.size, 1, none⟩ (.bool p)).setCell ⟨w.heap.size, 2, none⟩ (.slice ao3 k3 co3)).setCell ⟨w.heap.size, 3, none⟩ (.slice bo3 l3 do3)).alloc (.cells #[] 29)) := hAlc.mono (by simp)
       have bbc : Below w3.heap.size (((w3.setCell ⟨w.heap.size, 1, none⟩ (.bool p)).setCell ⟨w.heap.size, 2, none⟩ (.slice ao3 k3 co3)).setCell ⟨w.heap.size, 3, none⟩ (.slice bo3 l3 do3)) w4 := hAld.trans blc
       have X4 := X_n.below (bbc.mono (by simp))
       have ht4 := ht_n.below (bbc.mono (by simp))
       have VC4 := VC_n.below (bbc.mono (by simp))
       have CA4 := CA_n.below (bbc.mono (by simp))
       have CB4 := CB_n.below (bbc.mono (by simp))
       have BB4 := BB_n.trans (bbc.mono (by have := BB.size; omega))
       have CL4 := CLc.row
       clear hEc hPc hvc hszc blc hAlc hAld bbc X_n ht_n VC_n CA_n CB_n BB_n X ht VC CA0 CB0 BB CLc y1 y2 y3 y4 y5 y6 y7 y8
       obtain ⟨⟨z1, z2, z3, z4, z5, z6⟩, z7, z8⟩ := id VC4))
  clear z1 z2 z3 z4 z5 z6 z7 z8
  have X := X4
  have ht := ht4
  have VC := VC4
  have CA := CA4
  have CB := CB4
  have BB := BB4
  have CL := CL4
  clear X4 ht4 VC4 CA4 CB4 BB4 CL4
  by_cases hin : 0 ≤ i ∧ i < (nA : Int)
  · obtain ⟨k, rfl⟩ : ∃ k : Nat, i = (k : Int) := ⟨i.toNat, by omega⟩
    have hk : k < nA := by omega
    have g0 : ¬ (k : Int) < 0 := by omega
    have g00 : (0 : Int) ≤ (k : Int) := by omega
    have g0b : decide ((k : Int) < 0) = false := decide_eq_false g0
    have g1 : ¬ (k : Int) ≥ (nA : Int) := by omega
    have g1b : decide (nA ≤ k) = false := by simp; omega
    have g2 : (k : Int) < (nA : Int) := by omega
    clear hin
    refine (with9_yes _ nA k r1 3 _ CA hk (by omega) ms p _ _ _ _ _ _ q X (by omega) (by omega) ht).mono ?_
    rintro e w41 ⟨gw, cw, rfl, CW0, b41⟩
    replace X := X.below b41
    replace ht := ht.below b41
    replace VC := VC.below b41
    replace CA := CA.below b41
    replace CB := CB.below b41
    replace CL := CL.below b41
    replace BB := BB.trans (b41.mono BB.size)
    clear b41
    have CW := CW0.row
    clear CW0
    go_wp2_with fail
    by_cases hnm : nA = nB
    · subst hnm
      refine (mix9_yes _ _ nA r1 r2 set 3 _ CA CB hs64 (by omega) (by omega) (by omega) ht).mono ?_
      rintro e w42 ⟨gm, cm, rfl, CM0, b42⟩
      replace X := X.below b42
      replace ht := ht.below b42
      replace VC := VC.below b42
      replace CA := CA.below b42
      replace CB := CB.below b42
      replace CL := CL.below b42
      replace CW := CW.below b42
      replace BB := BB.trans (b42.mono BB.size)
      clear b42
      have CM := CM0.row
      clear CM0
      have hAlt : Below w42.heap.size w42 (w42.alloc (.cells #[] 29)) := (Below.refl _ _).alloc (Nat.le_refl _) _
      obtain ⟨hEt, hPt⟩ := empty9 w42 w42.heap.size (Nat.le_refl _)
      have hvt := CA.below hAlt
      have hszt := hAlt.size
      have HW : Hid (True) := trivial
      have HRest : Hid (Tab w42 ∧ CRow w42 (.slice aa nA ca) nA r1 3 ∧ CRow w42 (.slice ab nA cb) nA r2 3 ∧ CRow w42 (.slice (some ⟨gm, 0, none⟩) nA cm) nA (fun j => ownC (mixC set r1 r2 j)) 3 ∧ CRow w42 (.slice (some ⟨gw, 0, none⟩) nA cw) nA (fun j => ownC (updC r1 k ⟨ms, q⟩ j)) 3 ∧ CRow w42 (.slice (some ⟨gc, 0, none⟩) nA cc) nA r1 3 ∧ Below w.heap.size w w42) := ⟨ht, CA, CB, CM, CW, CL, BB⟩
      clear HW
      go_wp2_with (first
        | (at_builtin
           refine wpList_clone9 rfl _ _ rfl (by rfl) (by rfl) hEt hPt hvt (by omega) hszt ?_
           intro gt ct w8 CLt blt _
           have bbt := hAlt.trans blt
           replace X := X.below bbt
           replace ht := ht.below bbt
           replace VC := VC.below bbt
           replace CA := CA.below bbt
           replace CB := CB.below bbt
           replace CW := CW.below bbt
           replace CM := CM.below bbt
           replace CL := CL.below bbt
           replace BB := BB.trans (bbt.mono BB.size)
           have hsz8 := bbt.size
           clear hEt hPt hvt hszt blt hAlt
           have hAc : CellAt w8 (fun j => [.bool ms, .bool p, .slice ao3 k3 co3, .slice bo3 l3 do3].getD j undef) ⟨ms, q⟩ 3 := ⟨rfl, p, ao3, k3, co3, bo3, l3, do3, rfl, rfl, rfl, X⟩
           obtain ⟨CTn, KK⟩ := CLt.put hk hAc
           have hgt := (CLt.blocks gt rfl)
           obtain ⟨u0, u1, u2, u3, f0, f1, f2, f3, e0, e1, e2, e3⟩ := CLt.cells hk
           obtain ⟨⟨z1, z2, z3, z4, z5, z6⟩, z7, z8⟩ := id VC))
      have bt8 : Below w42.heap.size w42 w8 := bbt
      have bt9 := below_store4x (R := gt) (o := k * 4) bt8 hgt.1 (.bool ms) (.bool p) (.slice ao3 k3 co3) (.slice bo3 l3 do3)
      have CT := CTn.row
      clear bbt bt8 CTn KK CLt hAc u0 u1 u2 u3 f0 f1 f2 f3 e0 e1 e2 e3 z1 z2 z3 z4 z5 z6 z7 z8 X VC ht CA CB CL CW CM BB
      generalize (((w8.setCell ⟨gt, k * 4, none⟩ (.bool ms)).setCell ⟨gt, k * 4 + 1, none⟩ (.bool p)).setCell ⟨gt, k * 4 + 2, none⟩ (.slice ao3 k3 co3)).setCell ⟨gt, k * 4 + 3, none⟩ (.slice bo3 l3 do3) = w9 at *
      obtain ⟨ht, CA, CB, CM, CW, CL, BB⟩ := HRest.out
      replace ht := ht.below bt9
      replace CA := CA.below bt9
      replace CB := CB.below bt9
      replace CM := CM.below bt9
      replace CW := CW.below bt9
      replace CL := CL.below bt9
      replace BB := BB.trans (bt9.mono BB.size)
      clear bt9 HRest
      have CT0 := CT
      clear CT0
      refine (jequal9_at _ _ nA nA _ _ 3 _ CW CT (by omega) (by omega)).mono ?_
      rintro e w43 ⟨rfl, b43⟩
      replace ht := ht.below b43
      replace CA := CA.below b43
      replace CB := CB.below b43
      replace CM := CM.below b43
      replace CW := CW.below b43
      replace CL := CL.below b43
      replace CT := CT.below b43
      replace BB := BB.trans (b43.mono BB.size)
      clear b43
      rw [eqR_yes (fun j _ => sameC_own _)]
      go_wp2_with fail
      refine (jequal9_at _ _ nA nA r1 r1 3 _ CA CL (by omega) (by omega)).mono ?_
      rintro e w44 ⟨rfl, b44⟩
      replace ht := ht.below b44
      replace CA := CA.below b44
      replace CB := CB.below b44
      replace CM := CM.below b44
      replace CW := CW.below b44
      replace CL := CL.below b44
      replace CT := CT.below b44
      replace BB := BB.trans (b44.mono BB.size)
      clear b44
      rw [eqR_yes (fun j _ => sameC_self _)]
      have CA0 : Hid (CRow w44 (.slice aa nA ca) nA r1 3) := CA
      have CB0 : Hid (CRow w44 (.slice ab nA cb) nA r2 3) := CB
      have CM0 : Hid (CRow w44 (.slice (some ⟨gm, 0, none⟩) nA cm) nA (fun j => ownC (mixC set r1 r2 j)) 3) := CM
      have ht0 : Hid (Tab w44) := ht
      have BB0 : Hid (Below w.heap.size w w44) := BB
      obtain ⟨_, _, ea, ha1, ha2⟩ := CA.open
      cases ea
      obtain ⟨_, _, eb, hb1, hb2⟩ := CB.open
      cases eb
      clear ht CA CB CM CW CL CT BB
      go_wp2
      go_loopw [17, 18, 19] (fun vw vr vk wr => ∃ k : Nat, k ≤ nA ∧ vk = .int .i64 (k : Int) ∧ vr = .int .u64 ((set / 2 ^ k : Nat) : Int) ∧ COwn w44.heap.size wr vw k (mixC set r1 r2) 3 ∧ Below w44.heap.size w44 wr) (fun _ _ vk _ => nA - (intOf vk).toNat)
      case atStart => exact ⟨0, by omega, rfl, by simp, COwn.nil _ _ _ _, Below.refl _ _⟩
      case round =>
        obtain ⟨k, hk, rfl, rfl, CO, BR⟩ := hrel
        obtain ⟨av, cv, rfl⟩ := CO.form
        by_cases hlt : k < nA
        · have g1 : (k : Int) < (nA : Int) := by omega
          have g0 : (0 : Int) ≤ (k : Int) := by omega
          have HB := has_bit (set := set) (k := k) hs64
          have HN : Hid (set / 2 ^ k / 2 = set / 2 ^ (k + 1)) := by show _ = _; rw [Nat.div_div_eq_div_mul, ← Nat.pow_succ]
          have hx64 : set / 2 ^ k < 18446744073709551616 := Nat.lt_of_le_of_lt (Nat.div_le_self _ _) hs64
          generalize set / 2 ^ k = x at *
          by_cases hodd : x % 2 = 1
          · have HH : Hid (mixC set r1 r2 k = r1 k) := by show _ = _; unfold mixC; rw [HB, decide_eq_true hodd]; rfl
            have q1 : (x : Int) % 2 = 1 := by omega
            have q2 : IntKind.u64.wrap ((x : Int).tdiv 2) = (x : Int) / 2 := wrap_tdiv _ _ (by omega) (by omega) (by omega)
            obtain ⟨b, off, c9, p1, a1, n1_, c1, b1, m1, d1, hvv, hcc, hc6, X0, X1, X2, X3, R1⟩ := (CA0.out.below BR).at hlt
            cases hvv
            obtain ⟨ms1, hms⟩ : ∃ ms, (r1 k).miss = ms := ⟨_, rfl⟩
            have HM : Hid ((r1 k).miss = ms1) := hms
            rw [hms] at X0
            clear hms HB hodd
            have hAl : Below wr.heap.size wr (wr.alloc (.cells #[.bool ms1, .bool p1, .slice a1 n1_ c1, .slice b1 m1 d1] 29)) := (Below.refl _ _).alloc (Nat.le_refl _) _
            have CO2 := CO.below hAl
            have BR2 := BR.trans (hAl.mono BR.size)
            have HCA : Hid (CellAt (wr.alloc (.cells #[.bool ms1, .bool p1, .slice a1 n1_ c1, .slice b1 m1 d1] 29)) (fun j => [.bool ms1, .bool p1, .slice a1 n1_ c1, .slice b1 m1 d1].getD j undef) (mixC set r1 r2 k) 3) := by
              rw [HH.out]
              exact ⟨by rw [HM.out]; rfl, p1, a1, n1_, c1, b1, m1, d1, rfl, rfl, rfl, R1.below hAl⟩
            obtain ⟨cs, hcl, hco, hcp, hcn⟩ := CO2.parts
            have hsz2 := BR2.size
            have hbk := CO2.blocks
            have HCN : Hid (∀ j, j < k → CellAt (wr.alloc (.cells #[.bool ms1, .bool p1, .slice a1 n1_ c1, .slice b1 m1 d1] 29)) (fun x => cs.getD (j * 4 + x) undef) (mixC set r1 r2 j) 3) := hcn
            have HCL : Hid (cs.length = k * 4) := hcl
            clear hcn hcl CO2 CO hAl R1 BR HM HH
            go_wp2_with (first
              | (at_builtin
                 refine wpList_append_pure (Q' := IsLimb) rfl _ _ _ rfl w44.heap.size 29 (.agg #[.bool false, .bool false, .slice none 0 0, .slice none 0 0]) 4 64 Tryz.underlying39 info_cell rfl (by omega) (.slice av k cv) rfl k cs hco hcp ⟨wr.heap.size, 0, none⟩ 1 rfl [.bool ms1, .bool p1, .slice a1 n1_ c1, .slice b1 m1 d1] rfl ?g14 ?g15 ?g16 ?g17 (by omega) (by omega) hsz2 ?_
                 case g14 => exact news_block (heap_alloc_new _ _)
                 case g15 => simp [Value.oneCell']
                 case g16 => simp [limb_bool, limb_slice]
                 case g17 => simp [Value.cells, limb_bool, limb_slice]
                 intro gN cN w5 ho5 hg5 _ hp5 hk5
                 have CO5 : COwn w44.heap.size w5 (.slice (some ⟨gN, 0, none⟩) (k + 1) cN) (k + 1) (mixC set r1 r2) 3 := COwn.more (v := .slice none 0 0) ho5 HCL.out (fun g hg => by cases hg; exact hp5) hk5 HCN.out HCA.out
                 have BR5 : Below w44.heap.size w44 w5 := below_grownB BR2 hg5 hsz2 (fun g hg => (hbk g hg).1)
                 clear ho5 hg5 hp5 hk5 hco hcp BR2 hbk HCN HCA HCL))
            go_roundw
            case rel => exact ⟨k + 1, by omega, by go_num, by rw [← HN.out]; go_num, CO5, BR5⟩
            case measure => simp [intOf]; omega
          · have HH : Hid (mixC set r1 r2 k = r2 k) := by show _ = _; unfold mixC; rw [HB, decide_eq_false hodd]; rfl
            have q1 : (x : Int) % 2 = 0 := by omega
            have q2 : IntKind.u64.wrap ((x : Int).tdiv 2) = (x : Int) / 2 := wrap_tdiv _ _ (by omega) (by omega) (by omega)
            obtain ⟨b, off, c9, p1, a1, n1_, c1, b1, m1, d1, hvv, hcc, hc6, X0, X1, X2, X3, R1⟩ := (CB0.out.below BR).at hlt
            cases hvv
            obtain ⟨ms1, hms⟩ : ∃ ms, (r2 k).miss = ms := ⟨_, rfl⟩
            have HM : Hid ((r2 k).miss = ms1) := hms
            rw [hms] at X0
            clear hms HB hodd
            have hAl : Below wr.heap.size wr (wr.alloc (.cells #[.bool ms1, .bool p1, .slice a1 n1_ c1, .slice b1 m1 d1] 29)) := (Below.refl _ _).alloc (Nat.le_refl _) _
            have CO2 := CO.below hAl
            have BR2 := BR.trans (hAl.mono BR.size)
            have HCA : Hid (CellAt (wr.alloc (.cells #[.bool ms1, .bool p1, .slice a1 n1_ c1, .slice b1 m1 d1] 29)) (fun j => [.bool ms1, .bool p1, .slice a1 n1_ c1, .slice b1 m1 d1].getD j undef) (mixC set r1 r2 k) 3) := by
              rw [HH.out]
              exact ⟨by rw [HM.out]; rfl, p1, a1, n1_, c1, b1, m1, d1, rfl, rfl, rfl, R1.below hAl⟩
            obtain ⟨cs, hcl, hco, hcp, hcn⟩ := CO2.parts
            have hsz2 := BR2.size
            have hbk := CO2.blocks
            have HCN : Hid (∀ j, j < k → CellAt (wr.alloc (.cells #[.bool ms1, .bool p1, .slice a1 n1_ c1, .slice b1 m1 d1] 29)) (fun x => cs.getD (j * 4 + x) undef) (mixC set r1 r2 j) 3) := hcn
            have HCL : Hid (cs.length = k * 4) := hcl
            clear hcn hcl CO2 CO hAl R1 BR HM HH
            go_wp2_with (first
              | (at_builtin
                 refine wpList_append_pure (Q' := IsLimb) rfl _ _ _ rfl w44.heap.size 29 (.agg #[.bool false, .bool false, .slice none 0 0, .slice none 0 0]) 4 64 Tryz.underlying39 info_cell rfl (by omega) (.slice av k cv) rfl k cs hco hcp ⟨wr.heap.size, 0, none⟩ 1 rfl [.bool ms1, .bool p1, .slice a1 n1_ c1, .slice b1 m1 d1] rfl ?g14 ?g15 ?g16 ?g17 (by omega) (by omega) hsz2 ?_
                 case g14 => exact news_block (heap_alloc_new _ _)
                 case g15 => simp [Value.oneCell']
                 case g16 => simp [limb_bool, limb_slice]
                 case g17 => simp [Value.cells, limb_bool, limb_slice]
                 intro gN cN w5 ho5 hg5 _ hp5 hk5
                 have CO5 : COwn w44.heap.size w5 (.slice (some ⟨gN, 0, none⟩) (k + 1) cN) (k + 1) (mixC set r1 r2) 3 := COwn.more (v := .slice none 0 0) ho5 HCL.out (fun g hg => by cases hg; exact hp5) hk5 HCN.out HCA.out
                 have BR5 : Below w44.heap.size w44 w5 := below_grownB BR2 hg5 hsz2 (fun g hg => (hbk g hg).1)
                 clear ho5 hg5 hp5 hk5 hco hcp BR2 hbk HCN HCA HCL))
            go_roundw
            case rel => exact ⟨k + 1, by omega, by go_num, by rw [← HN.out]; go_num, CO5, BR5⟩
            case measure => simp [intOf]; omega
        · obtain rfl : k = nA := by omega
          have g1 : ¬ (k : Int) < (k : Int) := by omega
          have CM := CM0.out.below BR
          have ht := ht0.out.below BR
          have BB := BB0.out.trans (BR.mono BB0.out.size)
          have CO := CO.row
          clear BR CA0 CB0 CM0 ht0 BB0
          go_wp2_with fail
          refine (jequal9_at _ _ k k _ _ 3 _ CM CO (by omega) (by omega)).mono ?_
          rintro e w91 ⟨rfl, b91⟩
          replace CM := CM.below b91
          replace CO := CO.below b91
          replace ht := ht.below b91
          replace BB := BB.trans (b91.mono BB.size)
          clear b91
          rw [eqR_yes (fun j _ => sameC_own _)]
          go_wp2_with fail
          refine (awake9_at _ ht).mono ?_
          rintro e w92 ⟨rfl, b92⟩
          replace CM := CM.below b92
          replace CO := CO.below b92
          replace ht := ht.below b92
          replace BB := BB.trans (b92.mono BB.size)
          clear b92
          go_wp2
          go_ret
          exact ⟨rfl, BB⟩
    · have hnm1 : ¬ (nA : Int) = (nB : Int) := by omega
      have hnm2 : ((nA : Int) != (nB : Int)) = true := by simpa using hnm1
      refine (mix9_no _ _ nA nB r1 r2 _ 3 _ CA CB hnm).mono ?_
      rintro e w42 ⟨rfl, b42⟩
      replace X := X.below b42
      replace ht := ht.below b42
      replace VC := VC.below b42
      replace CA := CA.below b42
      replace CB := CB.below b42
      replace CL := CL.below b42
      replace CW := CW.below b42
      replace BB := BB.trans (b42.mono BB.size)
      clear b42
      have hAlt : Below w42.heap.size w42 (w42.alloc (.cells #[] 29)) := (Below.refl _ _).alloc (Nat.le_refl _) _
      obtain ⟨hEt, hPt⟩ := empty9 w42 w42.heap.size (Nat.le_refl _)
      have hvt := CA.below hAlt
      have hszt := hAlt.size
      have HW : Hid (True) := trivial
      have HRest : Hid (Tab w42 ∧ CRow w42 (.slice aa nA ca) nA r1 3 ∧ CRow w42 (.slice (some ⟨gw, 0, none⟩) nA cw) nA (fun j => ownC (updC r1 k ⟨ms, q⟩ j)) 3 ∧ CRow w42 (.slice (some ⟨gc, 0, none⟩) nA cc) nA r1 3 ∧ Below w.heap.size w w42) := ⟨ht, CA, CW, CL, BB⟩
      clear HW
      go_wp2_with (first
        | (at_builtin
           refine wpList_clone9 rfl _ _ rfl (by rfl) (by rfl) hEt hPt hvt (by omega) hszt ?_
           intro gt ct w8 CLt blt _
           have bbt := hAlt.trans blt
           replace X := X.below bbt
           replace ht := ht.below bbt
           replace VC := VC.below bbt
           replace CA := CA.below bbt
           replace CB := CB.below bbt
           replace CW := CW.below bbt
           replace CL := CL.below bbt
           replace BB := BB.trans (bbt.mono BB.size)
           have hsz8 := bbt.size
           clear hEt hPt hvt hszt blt hAlt
           have hAc : CellAt w8 (fun j => [.bool ms, .bool p, .slice ao3 k3 co3, .slice bo3 l3 do3].getD j undef) ⟨ms, q⟩ 3 := ⟨rfl, p, ao3, k3, co3, bo3, l3, do3, rfl, rfl, rfl, X⟩
           obtain ⟨CTn, KK⟩ := CLt.put hk hAc
           have hgt := (CLt.blocks gt rfl)
           obtain ⟨u0, u1, u2, u3, f0, f1, f2, f3, e0, e1, e2, e3⟩ := CLt.cells hk
           obtain ⟨⟨z1, z2, z3, z4, z5, z6⟩, z7, z8⟩ := id VC))
      have bt8 : Below w42.heap.size w42 w8 := bbt
      have bt9 := below_store4x (R := gt) (o := k * 4) bt8 hgt.1 (.bool ms) (.bool p) (.slice ao3 k3 co3) (.slice bo3 l3 do3)
      have CT := CTn.row
      clear bbt bt8 CTn KK CLt hAc u0 u1 u2 u3 f0 f1 f2 f3 e0 e1 e2 e3 z1 z2 z3 z4 z5 z6 z7 z8 X VC ht CA CB CL CW BB
      generalize (((w8.setCell ⟨gt, k * 4, none⟩ (.bool ms)).setCell ⟨gt, k * 4 + 1, none⟩ (.bool p)).setCell ⟨gt, k * 4 + 2, none⟩ (.slice ao3 k3 co3)).setCell ⟨gt, k * 4 + 3, none⟩ (.slice bo3 l3 do3) = w9 at *
      obtain ⟨ht, CA, CW, CL, BB⟩ := HRest.out
      replace ht := ht.below bt9
      replace CA := CA.below bt9
      replace CW := CW.below bt9
      replace CL := CL.below bt9
      replace BB := BB.trans (bt9.mono BB.size)
      clear bt9 HRest
      have CT0 := CT
      clear CT0
      refine (jequal9_at _ _ nA nA _ _ 3 _ CW CT (by omega) (by omega)).mono ?_
      rintro e w43 ⟨rfl, b43⟩
      replace ht := ht.below b43
      replace CA := CA.below b43
      replace CW := CW.below b43
      replace CL := CL.below b43
      replace CT := CT.below b43
      replace BB := BB.trans (b43.mono BB.size)
      clear b43
      rw [eqR_yes (fun j _ => sameC_own _)]
      go_wp2_with fail
      refine (jequal9_at _ _ nA nA r1 r1 3 _ CA CL (by omega) (by omega)).mono ?_
      rintro e w44 ⟨rfl, b44⟩
      replace ht := ht.below b44
      replace CA := CA.below b44
      replace CW := CW.below b44
      replace CL := CL.below b44
      replace CT := CT.below b44
      replace BB := BB.trans (b44.mono BB.size)
      clear b44
      rw [eqR_yes (fun j _ => sameC_self _)]
      go_wp2_with fail
      refine (awake9_at _ ht).mono ?_
      rintro e w45 ⟨rfl, b45⟩
      replace ht := ht.below b45
      replace CA := CA.below b45
      replace CW := CW.below b45
      replace CL := CL.below b45
      replace CT := CT.below b45
      replace BB := BB.trans (b45.mono BB.size)
      clear b45
      go_wp2
      go_ret
      exact ⟨rfl, BB⟩
  · have hin2 : i < 0 ∨ (nA : Int) ≤ i := by omega
    refine (with9_no _ nA i _ r1 3 _ CA hin2 ms p _ _ _ _ _ _ rfl).mono ?_
    rintro e w41 ⟨rfl, b41⟩
    replace X := X.below b41
    replace ht := ht.below b41
    replace VC := VC.below b41
    replace CA := CA.below b41
    replace CB := CB.below b41
    replace CL := CL.below b41
    replace BB := BB.trans (b41.mono BB.size)
    clear b41
    go_wp2_with fail
    rcases hin2 with hlow | hhigh
    · have g0b : decide (i < 0) = true := decide_eq_true hlow
      clear hin
      by_cases hnm : nA = nB
      · subst hnm
        refine (mix9_yes _ _ nA r1 r2 set 3 _ CA CB hs64 (by omega) (by omega) (by omega) ht).mono ?_
        rintro e w42 ⟨gm, cm, rfl, CM0, b42⟩
        replace X := X.below b42
        replace ht := ht.below b42
        replace VC := VC.below b42
        replace CA := CA.below b42
        replace CB := CB.below b42
        replace CL := CL.below b42
        replace BB := BB.trans (b42.mono BB.size)
        clear b42
        have CM := CM0.row
        clear CM0
        go_wp2_with fail
        refine (jequal9_at _ _ nA nA r1 r1 3 _ CA CL (by omega) (by omega)).mono ?_
        rintro e w43 ⟨rfl, b43⟩
        replace X := X.below b43
        replace ht := ht.below b43
        replace VC := VC.below b43
        replace CA := CA.below b43
        replace CB := CB.below b43
        replace CL := CL.below b43
        replace CM := CM.below b43
        replace BB := BB.trans (b43.mono BB.size)
        clear b43
        rw [eqR_yes (fun j _ => sameC_self _)]
        have CA0 : Hid (CRow w43 (.slice aa nA ca) nA r1 3) := CA
        have CB0 : Hid (CRow w43 (.slice ab nA cb) nA r2 3) := CB
        have CM0 : Hid (CRow w43 (.slice (some ⟨gm, 0, none⟩) nA cm) nA (fun j => ownC (mixC set r1 r2 j)) 3) := CM
        have ht0 : Hid (Tab w43) := ht
        have BB0 : Hid (Below w.heap.size w w43) := BB
        obtain ⟨_, _, ea, ha1, ha2⟩ := CA.open
        cases ea
        obtain ⟨_, _, eb, hb1, hb2⟩ := CB.open
        cases eb
        clear X ht VC CA CB CL CM BB
        go_wp2
        go_loopw [17, 18, 19] (fun vw vr vk wr => ∃ k : Nat, k ≤ nA ∧ vk = .int .i64 (k : Int) ∧ vr = .int .u64 ((set / 2 ^ k : Nat) : Int) ∧ COwn w43.heap.size wr vw k (mixC set r1 r2) 3 ∧ Below w43.heap.size w43 wr) (fun _ _ vk _ => nA - (intOf vk).toNat)
        case atStart => exact ⟨0, by omega, rfl, by simp, COwn.nil _ _ _ _, Below.refl _ _⟩
        case round =>
          obtain ⟨k, hk, rfl, rfl, CO, BR⟩ := hrel
          obtain ⟨av, cv, rfl⟩ := CO.form
          by_cases hlt : k < nA
          · have g1 : (k : Int) < (nA : Int) := by omega
            have g0 : (0 : Int) ≤ (k : Int) := by omega
            have HB := has_bit (set := set) (k := k) hs64
            have HN : Hid (set / 2 ^ k / 2 = set / 2 ^ (k + 1)) := by show _ = _; rw [Nat.div_div_eq_div_mul, ← Nat.pow_succ]
            have hx64 : set / 2 ^ k < 18446744073709551616 := Nat.lt_of_le_of_lt (Nat.div_le_self _ _) hs64
            generalize set / 2 ^ k = x at *
            by_cases hodd : x % 2 = 1
            · have HH : Hid (mixC set r1 r2 k = r1 k) := by show _ = _; unfold mixC; rw [HB, decide_eq_true hodd]; rfl
              have q1 : (x : Int) % 2 = 1 := by omega
              have q2 : IntKind.u64.wrap ((x : Int).tdiv 2) = (x : Int) / 2 := wrap_tdiv _ _ (by omega) (by omega) (by omega)
              obtain ⟨b, off, c9, p1, a1, n1_, c1, b1, m1, d1, hvv, hcc, hc6, X0, X1, X2, X3, R1⟩ := (CA0.out.below BR).at hlt
              cases hvv
              obtain ⟨ms1, hms⟩ : ∃ ms, (r1 k).miss = ms := ⟨_, rfl⟩
              have HM : Hid ((r1 k).miss = ms1) := hms
              rw [hms] at X0
              clear hms HB hodd
              have hAl : Below wr.heap.size wr (wr.alloc (.cells #[.bool ms1, .bool p1, .slice a1 n1_ c1, .slice b1 m1 d1] 29)) := (Below.refl _ _).alloc (Nat.le_refl _) _
              have CO2 := CO.below hAl
              have BR2 := BR.trans (hAl.mono BR.size)
              have HCA : Hid (CellAt (wr.alloc (.cells #[.bool ms1, .bool p1, .slice a1 n1_ c1, .slice b1 m1 d1] 29)) (fun j => [.bool ms1, .bool p1, .slice a1 n1_ c1, .slice b1 m1 d1].getD j undef) (mixC set r1 r2 k) 3) := by
                rw [HH.out]
                exact ⟨by rw [HM.out]; rfl, p1, a1, n1_, c1, b1, m1, d1, rfl, rfl, rfl, R1.below hAl⟩
              obtain ⟨cs, hcl, hco, hcp, hcn⟩ := CO2.parts
              have hsz2 := BR2.size
              have hbk := CO2.blocks
              have HCN : Hid (∀ j, j < k → CellAt (wr.alloc (.cells #[.bool ms1, .bool p1, .slice a1 n1_ c1, .slice b1 m1 d1] 29)) (fun x => cs.getD (j * 4 + x) undef) (mixC set r1 r2 j) 3) := hcn
              have HCL : Hid (cs.length = k * 4) := hcl
              clear hcn hcl CO2 CO hAl R1 BR HM HH
              go_wp2_with (first
                | (at_builtin
                   refine wpList_append_pure (Q' := IsLimb) rfl _ _ _ rfl w43.heap.size 29 (.agg #[.bool false, .bool false, .slice none 0 0, .slice none 0 0]) 4 64 Tryz.underlying39 info_cell rfl (by omega) (.slice av k cv) rfl k cs hco hcp ⟨wr.heap.size, 0, none⟩ 1 rfl [.bool ms1, .bool p1, .slice a1 n1_ c1, .slice b1 m1 d1] rfl ?g14 ?g15 ?g16 ?g17 (by omega) (by omega) hsz2 ?_
                   case g14 => exact news_block (heap_alloc_new _ _)
                   case g15 => simp [Value.oneCell']
                   case g16 => simp [limb_bool, limb_slice]
                   case g17 => simp [Value.cells, limb_bool, limb_slice]
                   intro gN cN w5 ho5 hg5 _ hp5 hk5
                   have CO5 : COwn w43.heap.size w5 (.slice (some ⟨gN, 0, none⟩) (k + 1) cN) (k + 1) (mixC set r1 r2) 3 := COwn.more (v := .slice none 0 0) ho5 HCL.out (fun g hg => by cases hg; exact hp5) hk5 HCN.out HCA.out
                   have BR5 : Below w43.heap.size w43 w5 := below_grownB BR2 hg5 hsz2 (fun g hg => (hbk g hg).1)
                   clear ho5 hg5 hp5 hk5 hco hcp BR2 hbk HCN HCA HCL))
              go_roundw
              case rel => exact ⟨k + 1, by omega, by go_num, by rw [← HN.out]; go_num, CO5, BR5⟩
              case measure => simp [intOf]; omega
            · have HH : Hid (mixC set r1 r2 k = r2 k) := by show _ = _; unfold mixC; rw [HB, decide_eq_false hodd]; rfl
              have q1 : (x : Int) % 2 = 0 := by omega
              have q2 : IntKind.u64.wrap ((x : Int).tdiv 2) = (x : Int) / 2 := wrap_tdiv _ _ (by omega) (by omega) (by omega)
              obtain ⟨b, off, c9, p1, a1, n1_, c1, b1, m1, d1, hvv, hcc, hc6, X0, X1, X2, X3, R1⟩ := (CB0.out.below BR).at hlt
              cases hvv
              obtain ⟨ms1, hms⟩ : ∃ ms, (r2 k).miss = ms := ⟨_, rfl⟩
              have HM : Hid ((r2 k).miss = ms1) := hms
              rw [hms] at X0
              clear hms HB hodd
              have hAl : Below wr.heap.size wr (wr.alloc (.cells #[.bool ms1, .bool p1, .slice a1 n1_ c1, .slice b1 m1 d1] 29)) := (Below.refl _ _).alloc (Nat.le_refl _) _
              have CO2 := CO.below hAl
              have BR2 := BR.trans (hAl.mono BR.size)
              have HCA : Hid (CellAt (wr.alloc (.cells #[.bool ms1, .bool p1, .slice a1 n1_ c1, .slice b1 m1 d1] 29)) (fun j => [.bool ms1, .bool p1, .slice a1 n1_ c1, .slice b1 m1 d1].getD j undef) (mixC set r1 r2 k) 3) := by
                rw [HH.out]
                exact ⟨by rw [HM.out]; rfl, p1, a1, n1_, c1, b1, m1, d1, rfl, rfl, rfl, R1.below hAl⟩
              obtain ⟨cs, hcl, hco, hcp, hcn⟩ := CO2.parts
              have hsz2 := BR2.size
              have hbk := CO2.blocks
              have HCN : Hid (∀ j, j < k → CellAt (wr.alloc (.cells #[.bool ms1, .bool p1, .slice a1 n1_ c1, .slice b1 m1 d1] 29)) (fun x => cs.getD (j * 4 + x) undef) (mixC set r1 r2 j) 3) := hcn
              have HCL : Hid (cs.length = k * 4) := hcl
              clear hcn hcl CO2 CO hAl R1 BR HM HH
              go_wp2_with (first
                | (at_builtin
                   refine wpList_append_pure (Q' := IsLimb) rfl _ _ _ rfl w43.heap.size 29 (.agg #[.bool false, .bool false, .slice none 0 0, .slice none 0 0]) 4 64 Tryz.underlying39 info_cell rfl (by omega) (.slice av k cv) rfl k cs hco hcp ⟨wr.heap.size, 0, none⟩ 1 rfl [.bool ms1, .bool p1, .slice a1 n1_ c1, .slice b1 m1 d1] rfl ?g14 ?g15 ?g16 ?g17 (by omega) (by omega) hsz2 ?_
                   case g14 => exact news_block (heap_alloc_new _ _)
                   case g15 => simp [Value.oneCell']
                   case g16 => simp [limb_bool, limb_slice]
                   case g17 => simp [Value.cells, limb_bool, limb_slice]
                   intro gN cN w5 ho5 hg5 _ hp5 hk5
                   have CO5 : COwn w43.heap.size w5 (.slice (some ⟨gN, 0, none⟩) (k + 1) cN) (k + 1) (mixC set r1 r2) 3 := COwn.more (v := .slice none 0 0) ho5 HCL.out (fun g hg => by cases hg; exact hp5) hk5 HCN.out HCA.out
                   have BR5 : Below w43.heap.size w43 w5 := below_grownB BR2 hg5 hsz2 (fun g hg => (hbk g hg).1)
                   clear ho5 hg5 hp5 hk5 hco hcp BR2 hbk HCN HCA HCL))
              go_roundw
              case rel => exact ⟨k + 1, by omega, by go_num, by rw [← HN.out]; go_num, CO5, BR5⟩
              case measure => simp [intOf]; omega
          · obtain rfl : k = nA := by omega
            have g1 : ¬ (k : Int) < (k : Int) := by omega
            have CM := CM0.out.below BR
            have ht := ht0.out.below BR
            have BB := BB0.out.trans (BR.mono BB0.out.size)
            have CO := CO.row
            clear BR CA0 CB0 CM0 ht0 BB0
            go_wp2_with fail
            refine (jequal9_at _ _ k k _ _ 3 _ CM CO (by omega) (by omega)).mono ?_
            rintro e w91 ⟨rfl, b91⟩
            replace CM := CM.below b91
            replace CO := CO.below b91
            replace ht := ht.below b91
            replace BB := BB.trans (b91.mono BB.size)
            clear b91
            rw [eqR_yes (fun j _ => sameC_own _)]
            go_wp2_with fail
            refine (awake9_at _ ht).mono ?_
            rintro e w92 ⟨rfl, b92⟩
            replace CM := CM.below b92
            replace CO := CO.below b92
            replace ht := ht.below b92
            replace BB := BB.trans (b92.mono BB.size)
            clear b92
            go_wp2
            go_ret
            exact ⟨rfl, BB⟩
      · have hnm1 : ¬ (nA : Int) = (nB : Int) := by omega
        have hnm2 : ((nA : Int) != (nB : Int)) = true := by simpa using hnm1
        refine (mix9_no _ _ nA nB r1 r2 _ 3 _ CA CB hnm).mono ?_
        rintro e w42 ⟨rfl, b42⟩
        replace X := X.below b42
        replace ht := ht.below b42
        replace VC := VC.below b42
        replace CA := CA.below b42
        replace CB := CB.below b42
        replace CL := CL.below b42
        replace BB := BB.trans (b42.mono BB.size)
        clear b42
        go_wp2_with fail
        refine (jequal9_at _ _ nA nA r1 r1 3 _ CA CL (by omega) (by omega)).mono ?_
        rintro e w43 ⟨rfl, b43⟩
        replace X := X.below b43
        replace ht := ht.below b43
        replace VC := VC.below b43
        replace CA := CA.below b43
        replace CB := CB.below b43
        replace CL := CL.below b43
        replace BB := BB.trans (b43.mono BB.size)
        clear b43
        rw [eqR_yes (fun j _ => sameC_self _)]
        go_wp2_with fail
        refine (awake9_at _ ht).mono ?_
        rintro e w44 ⟨rfl, b44⟩
        replace X := X.below b44
        replace ht := ht.below b44
        replace VC := VC.below b44
        replace CA := CA.below b44
        replace CB := CB.below b44
        replace CL := CL.below b44
        replace BB := BB.trans (b44.mono BB.size)
        clear b44
        go_wp2
        go_ret
        exact ⟨rfl, BB⟩
    · have g0 : ¬ i < 0 := by omega
      have g0b : decide (i < 0) = false := decide_eq_false g0
      have g00 : 0 ≤ i := by omega
      have g3 : i ≥ (nA : Int) := hhigh
      clear hin
      by_cases hnm : nA = nB
      · subst hnm
        refine (mix9_yes _ _ nA r1 r2 set 3 _ CA CB hs64 (by omega) (by omega) (by omega) ht).mono ?_
        rintro e w42 ⟨gm, cm, rfl, CM0, b42⟩
        replace X := X.below b42
        replace ht := ht.below b42
        replace VC := VC.below b42
        replace CA := CA.below b42
        replace CB := CB.below b42
        replace CL := CL.below b42
        replace BB := BB.trans (b42.mono BB.size)
        clear b42
        have CM := CM0.row
        clear CM0
        go_wp2_with fail
        refine (jequal9_at _ _ nA nA r1 r1 3 _ CA CL (by omega) (by omega)).mono ?_
        rintro e w43 ⟨rfl, b43⟩
        replace X := X.below b43
        replace ht := ht.below b43
        replace VC := VC.below b43
        replace CA := CA.below b43
        replace CB := CB.below b43
        replace CL := CL.below b43
        replace CM := CM.below b43
        replace BB := BB.trans (b43.mono BB.size)
        clear b43
        rw [eqR_yes (fun j _ => sameC_self _)]
        have CA0 : Hid (CRow w43 (.slice aa nA ca) nA r1 3) := CA
        have CB0 : Hid (CRow w43 (.slice ab nA cb) nA r2 3) := CB
        have CM0 : Hid (CRow w43 (.slice (some ⟨gm, 0, none⟩) nA cm) nA (fun j => ownC (mixC set r1 r2 j)) 3) := CM
        have ht0 : Hid (Tab w43) := ht
        have BB0 : Hid (Below w.heap.size w w43) := BB
        obtain ⟨_, _, ea, ha1, ha2⟩ := CA.open
        cases ea
        obtain ⟨_, _, eb, hb1, hb2⟩ := CB.open
        cases eb
        clear X ht VC CA CB CL CM BB
        go_wp2
        go_loopw [17, 18, 19] (fun vw vr vk wr => ∃ k : Nat, k ≤ nA ∧ vk = .int .i64 (k : Int) ∧ vr = .int .u64 ((set / 2 ^ k : Nat) : Int) ∧ COwn w43.heap.size wr vw k (mixC set r1 r2) 3 ∧ Below w43.heap.size w43 wr) (fun _ _ vk _ => nA - (intOf vk).toNat)
        case atStart => exact ⟨0, by omega, rfl, by simp, COwn.nil _ _ _ _, Below.refl _ _⟩
        case round =>
          obtain ⟨k, hk, rfl, rfl, CO, BR⟩ := hrel
          obtain ⟨av, cv, rfl⟩ := CO.form
          by_cases hlt : k < nA
          · have g1 : (k : Int) < (nA : Int) := by omega
            have g0 : (0 : Int) ≤ (k : Int) := by omega
            have HB := has_bit (set := set) (k := k) hs64
            have HN : Hid (set / 2 ^ k / 2 = set / 2 ^ (k + 1)) := by show _ = _; rw [Nat.div_div_eq_div_mul, ← Nat.pow_succ]
            have hx64 : set / 2 ^ k < 18446744073709551616 := Nat.lt_of_le_of_lt (Nat.div_le_self _ _) hs64
            generalize set / 2 ^ k = x at *
            by_cases hodd : x % 2 = 1
            · have HH : Hid (mixC set r1 r2 k = r1 k) := by show _ = _; unfold mixC; rw [HB, decide_eq_true hodd]; rfl
              have q1 : (x : Int) % 2 = 1 := by omega
              have q2 : IntKind.u64.wrap ((x : Int).tdiv 2) = (x : Int) / 2 := wrap_tdiv _ _ (by omega) (by omega) (by omega)
              obtain ⟨b, off, c9, p1, a1, n1_, c1, b1, m1, d1, hvv, hcc, hc6, X0, X1, X2, X3, R1⟩ := (CA0.out.below BR).at hlt
              cases hvv
              obtain ⟨ms1, hms⟩ : ∃ ms, (r1 k).miss = ms := ⟨_, rfl⟩
              have HM : Hid ((r1 k).miss = ms1) := hms
              rw [hms] at X0
              clear hms HB hodd
              have hAl : Below wr.heap.size wr (wr.alloc (.cells #[.bool ms1, .bool p1, .slice a1 n1_ c1, .slice b1 m1 d1] 29)) := (Below.refl _ _).alloc (Nat.le_refl _) _
              have CO2 := CO.below hAl
              have BR2 := BR.trans (hAl.mono BR.size)
              have HCA : Hid (CellAt (wr.alloc (.cells #[.bool ms1, .bool p1, .slice a1 n1_ c1, .slice b1 m1 d1] 29)) (fun j => [.bool ms1, .bool p1, .slice a1 n1_ c1, .slice b1 m1 d1].getD j undef) (mixC set r1 r2 k) 3) := by
                rw [HH.out]
                exact ⟨by rw [HM.out]; rfl, p1, a1, n1_, c1, b1, m1, d1, rfl, rfl, rfl, R1.below hAl⟩
              obtain ⟨cs, hcl, hco, hcp, hcn⟩ := CO2.parts
              have hsz2 := BR2.size
              have hbk := CO2.blocks
              have HCN : Hid (∀ j, j < k → CellAt (wr.alloc (.cells #[.bool ms1, .bool p1, .slice a1 n1_ c1, .slice b1 m1 d1] 29)) (fun x => cs.getD (j * 4 + x) undef) (mixC set r1 r2 j) 3) := hcn
              have HCL : Hid (cs.length = k * 4) := hcl
              clear hcn hcl CO2 CO hAl R1 BR HM HH
              go_wp2_with (first
                | (at_builtin
                   refine wpList_append_pure (Q' := IsLimb) rfl _ _ _ rfl w43.heap.size 29 (.agg #[.bool false, .bool false, .slice none 0 0, .slice none 0 0]) 4 64 Tryz.underlying39 info_cell rfl (by omega) (.slice av k cv) rfl k cs hco hcp ⟨wr.heap.size, 0, none⟩ 1 rfl [.bool ms1, .bool p1, .slice a1 n1_ c1, .slice b1 m1 d1] rfl ?g14 ?g15 ?g16 ?g17 (by omega) (by omega) hsz2 ?_
                   case g14 => exact news_block (heap_alloc_new _ _)
                   case g15 => simp [Value.oneCell']
                   case g16 => simp [limb_bool, limb_slice]
                   case g17 => simp [Value.cells, limb_bool, limb_slice]
                   intro gN cN w5 ho5 hg5 _ hp5 hk5
                   have CO5 : COwn w43.heap.size w5 (.slice (some ⟨gN, 0, none⟩) (k + 1) cN) (k + 1) (mixC set r1 r2) 3 := COwn.more (v := .slice none 0 0) ho5 HCL.out (fun g hg => by cases hg; exact hp5) hk5 HCN.out HCA.out
                   have BR5 : Below w43.heap.size w43 w5 := below_grownB BR2 hg5 hsz2 (fun g hg => (hbk g hg).1)
                   clear ho5 hg5 hp5 hk5 hco hcp BR2 hbk HCN HCA HCL))
              go_roundw
              case rel => exact ⟨k + 1, by omega, by go_num, by rw [← HN.out]; go_num, CO5, BR5⟩
              case measure => simp [intOf]; omega
            · have HH : Hid (mixC set r1 r2 k = r2 k) := by show _ = _; unfold mixC; rw [HB, decide_eq_false hodd]; rfl
              have q1 : (x : Int) % 2 = 0 := by omega
              have q2 : IntKind.u64.wrap ((x : Int).tdiv 2) = (x : Int) / 2 := wrap_tdiv _ _ (by omega) (by omega) (by omega)
              obtain ⟨b, off, c9, p1, a1, n1_, c1, b1, m1, d1, hvv, hcc, hc6, X0, X1, X2, X3, R1⟩ := (CB0.out.below BR).at hlt
              cases hvv
              obtain ⟨ms1, hms⟩ : ∃ ms, (r2 k).miss = ms := ⟨_, rfl⟩
              have HM : Hid ((r2 k).miss = ms1) := hms
              rw [hms] at X0
              clear hms HB hodd
              have hAl : Below wr.heap.size wr (wr.alloc (.cells #[.bool ms1, .bool p1, .slice a1 n1_ c1, .slice b1 m1 d1] 29)) := (Below.refl _ _).alloc (Nat.le_refl _) _
              have CO2 := CO.below hAl
              have BR2 := BR.trans (hAl.mono BR.size)
              have HCA : Hid (CellAt (wr.alloc (.cells #[.bool ms1, .bool p1, .slice a1 n1_ c1, .slice b1 m1 d1] 29)) (fun j => [.bool ms1, .bool p1, .slice a1 n1_ c1, .slice b1 m1 d1].getD j undef) (mixC set r1 r2 k) 3) := by
                rw [HH.out]
                exact ⟨by rw [HM.out]; rfl, p1, a1, n1_, c1, b1, m1, d1, rfl, rfl, rfl, R1.below hAl⟩
              obtain ⟨cs, hcl, hco, hcp, hcn⟩ := CO2.parts
              have hsz2 := BR2.size
              have hbk := CO2.blocks
              have HCN : Hid (∀ j, j < k → CellAt (wr.alloc (.cells #[.bool ms1, .bool p1, .slice a1 n1_ c1, .slice b1 m1 d1] 29)) (fun x => cs.getD (j * 4 + x) undef) (mixC set r1 r2 j) 3) := hcn
              have HCL : Hid (cs.length = k * 4) := hcl
              clear hcn hcl CO2 CO hAl R1 BR HM HH
              go_wp2_with (first
                | (at_builtin
                   refine wpList_append_pure (Q' := IsLimb) rfl _ _ _ rfl w43.heap.size 29 (.agg #[.bool false, .bool false, .slice none 0 0, .slice none 0 0]) 4 64 Tryz.underlying39 info_cell rfl (by omega) (.slice av k cv) rfl k cs hco hcp ⟨wr.heap.size, 0, none⟩ 1 rfl [.bool ms1, .bool p1, .slice a1 n1_ c1, .slice b1 m1 d1] rfl ?g14 ?g15 ?g16 ?g17 (by omega) (by omega) hsz2 ?_
                   case g14 => exact news_block (heap_alloc_new _ _)
                   case g15 => simp [Value.oneCell']
                   case g16 => simp [limb_bool, limb_slice]
                   case g17 => simp [Value.cells, limb_bool, limb_slice]
                   intro gN cN w5 ho5 hg5 _ hp5 hk5
                   have CO5 : COwn w43.heap.size w5 (.slice (some ⟨gN, 0, none⟩) (k + 1) cN) (k + 1) (mixC set r1 r2) 3 := COwn.more (v := .slice none 0 0) ho5 HCL.out (fun g hg => by cases hg; exact hp5) hk5 HCN.out HCA.out
                   have BR5 : Below w43.heap.size w43 w5 := below_grownB BR2 hg5 hsz2 (fun g hg => (hbk g hg).1)
                   clear ho5 hg5 hp5 hk5 hco hcp BR2 hbk HCN HCA HCL))
              go_roundw
              case rel => exact ⟨k + 1, by omega, by go_num, by rw [← HN.out]; go_num, CO5, BR5⟩
              case measure => simp [intOf]; omega
          · obtain rfl : k = nA := by omega
            have g1 : ¬ (k : Int) < (k : Int) := by omega
            have CM := CM0.out.below BR
            have ht := ht0.out.below BR
            have BB := BB0.out.trans (BR.mono BB0.out.size)
            have CO := CO.row
            clear BR CA0 CB0 CM0 ht0 BB0
            go_wp2_with fail
            refine (jequal9_at _ _ k k _ _ 3 _ CM CO (by omega) (by omega)).mono ?_
            rintro e w91 ⟨rfl, b91⟩
            replace CM := CM.below b91
            replace CO := CO.below b91
            replace ht := ht.below b91
            replace BB := BB.trans (b91.mono BB.size)
            clear b91
            rw [eqR_yes (fun j _ => sameC_own _)]
            go_wp2_with fail
            refine (awake9_at _ ht).mono ?_
            rintro e w92 ⟨rfl, b92⟩
            replace CM := CM.below b92
            replace CO := CO.below b92
            replace ht := ht.below b92
            replace BB := BB.trans (b92.mono BB.size)
            clear b92
            go_wp2
            go_ret
            exact ⟨rfl, BB⟩
      · have hnm1 : ¬ (nA : Int) = (nB : Int) := by omega
        have hnm2 : ((nA : Int) != (nB : Int)) = true := by simpa using hnm1
        refine (mix9_no _ _ nA nB r1 r2 _ 3 _ CA CB hnm).mono ?_
        rintro e w42 ⟨rfl, b42⟩
        replace X := X.below b42
        replace ht := ht.below b42
        replace VC := VC.below b42
        replace CA := CA.below b42
        replace CB := CB.below b42
        replace CL := CL.below b42
        replace BB := BB.trans (b42.mono BB.size)
        clear b42
        go_wp2_with fail
        refine (jequal9_at _ _ nA nA r1 r1 3 _ CA CL (by omega) (by omega)).mono ?_
        rintro e w43 ⟨rfl, b43⟩
        replace X := X.below b43
        replace ht := ht.below b43
        replace VC := VC.below b43
        replace CA := CA.below b43
        replace CB := CB.below b43
        replace CL := CL.below b43
        replace BB := BB.trans (b43.mono BB.size)
        clear b43
        rw [eqR_yes (fun j _ => sameC_self _)]
        go_wp2_with fail
        refine (awake9_at _ ht).mono ?_
        rintro e w44 ⟨rfl, b44⟩
        replace X := X.below b44
        replace ht := ht.below b44
        replace VC := VC.below b44
        replace CA := CA.below b44
        replace CB := CB.below b44
        replace CL := CL.below b44
        replace BB := BB.trans (b44.mono BB.size)
        clear b44
        go_wp2
        go_ret
        exact ⟨rfl, BB⟩

theorem own : ownKnob Tryz.prog.godebug = none := by kernel_rfl
theorem laidOut : laidOutB Tryz.prog = true := by kernel_rfl

abbrev laid1 : List (String × DataW Unit) := [("math/bits.deBruijn64tab", Rows.laid_math_bits_deBruijn64tab)]
theorem gTab : Tryz.prog.globalNamed "math/bits.deBruijn64tab" = some 1 := by kernel_rfl
theorem gTabType : (Tryz.prog.globals[1]?).map (·.type) = some 179 := by kernel_rfl
theorem uTab : Tryz.prog.underlying 179 = some (.array 64 5) := by kernel_rfl
theorem uCell : Tryz.prog.underlying 5 = some (.int .u8) := by kernel_rfl
theorem cCell : Tryz.prog.cellsOf 5 = 1 := by kernel_rfl
theorem cTab : Tryz.prog.cellsOf 179 = 64 := by kernel_rfl
/-- The listed table lies in its cells. -/
theorem tab_of {W : World} (h : laidMetH Tryz.prog laid1 W) : Tab W := by
  rw [MakeChecks.laidMetH_plain _ _ _ (by kernel_rfl)] at h
  have hd : laid1 = [("math/bits.deBruijn64tab", Lib.tabData .u8 (Lib.deBruijn64tab.map fun (n : Nat) => Int.ofNat n))] := rfl
  rw [hd] at h
  have hT := Lib.tabIs_of_head gTab gTabType uTab uCell cCell cTab h
  intro i hi
  have hc := hT.cell gTab i (by rw [List.length_map]; exact hi)
  rw [hc]
  congr 2
  rw [List.getD_eq_getElem?_getD, List.getElem?_map, List.getD_eq_getElem?_getD]
  cases Lib.deBruijn64tab[i]? <;> rfl
/-- A start for the witness: the heap that the run of the program's own initialisers leaves. -/
noncomputable def startW (os : Os) : World := { World.holding Tryz.prog os ⟨#[], #[], []⟩ with heap := (varsWorld Tryz.prog 400 (varsId Tryz.prog) os (fun _ _ => 0)).heap }
theorem start_met (os : Os) (args : Array Value) : laidMetH Tryz.prog laid1 ((startW os).forCall (fun _ _ => 0) ⟨#[], args, []⟩).memory :=
  laidMetH_of_parts3 (fuel := 8) (laidMet_of_run' 8 (by kernel_rfl) (by kernel_rfl)) (by kernel_rfl) (by kernel_rfl)

set_option maxRecDepth 100000 in
theorem lifted (os : Os) (started : os.Started) (H : Type) (enc : TypeId × Value → H) :
    ReturnsInHanded {} Tryz.checked os 7 .any (fun w args => (Rows.rowsTurnsSpec.pre enc Tryz.prog Tryz.f7 [] false w args ∧ laidMetH Tryz.prog laid1 w) ∧ sizedMet enc Tryz.prog Tryz.f7 (OpenSpec.ofChange Rows.rowsTurnsSpec) false w args) (Rows.rowsTurnsSpec.post enc Tryz.prog Tryz.f7 false true false false) := by
  refine returnsInHanded_of_change_and (C := Tryz.checked) (X := fun w _ => laidMetH Tryz.prog laid1 w) (fun _ _ _ hh h => h.of_heap hh) own started (by kernel_rfl) Tryz.func7
    (ChangeSpec.witness_shaped (enc := enc) (C := Tryz.checked) (os := os) (X := fun w _ => laidMetH Tryz.prog laid1 w) false (startW os) #[.slice none 0 0, .slice none 0 0, .int .i64 0, .agg #[.bool false, .bool false, .slice none 0 0, .slice none 0 0], .int .u64 0] 8 rfl (World.shaped_of_RefB (by kernel_rfl) (by kernel_rfl)) (by kernel_rfl) (by kernel_rfl) (by kernel_rfl) (start_met os _)) ?_
  intro W base args ds gs before hval0 hW _ _ hL _
  have hval : ∀ (j : Nat) t v, Tryz.f7.params[j]? = some t → args[j]? = some v → Value.okWide Tryz.prog W .any base t v := hval0
  have hW' := hW
  obtain ⟨p, q, hA0, hV, rfl, hfz, hnd⟩ := hW
  have hA : DataW.TrodAll enc Tryz.prog W 0 (fun _ => true) true Tryz.f7.params.toList args.toList ds p := hA0
  rw [Tryz.params7] at hA hval
  obtain ⟨v0, vs0, d0, ds0, p0, q0, hargs, rfl, rfl, h0, r0⟩ := trodAll_cons hA
  obtain ⟨v1, vs1, d1, ds1, p1, q1, rfl, rfl, rfl, h1, r1⟩ := trodAll_cons r0
  obtain ⟨v2, vs2, d2, ds2, p2, q2, rfl, rfl, rfl, h2, r2⟩ := trodAll_cons r1
  obtain ⟨v3, vs3, d3, ds3, p3, q3, rfl, rfl, rfl, h3, r3⟩ := trodAll_cons r2
  obtain ⟨v4, vs4, d4, ds4, p4, q4, rfl, rfl, rfl, h4, r4⟩ := trodAll_cons r3
  obtain ⟨rfl, rfl, rfl⟩ := trodAll_nil r4
  obtain rfl : args = #[v0, v1, v2, v3, v4] := by cases args; simp_all
  obtain ⟨rfl, rfl⟩ := trodVars_none hV
  have k0 := h0
  have lt0 : ∀ x ∈ p0, x.block < W.heap.size := by obtain ⟨m, hm⟩ := k0; exact DataW.trod_lt m _ _ _ hm
  obtain ⟨n0, z0, w0⟩ := open_cells 3 (hval 0 39 v0 rfl rfl) h0
  have k1 := h1
  have lt1 : ∀ x ∈ p1, x.block < W.heap.size := by obtain ⟨m, hm⟩ := k1; exact DataW.trod_lt m _ _ _ hm
  obtain ⟨n1, z1, w1⟩ := open_cells 3 (hval 1 39 v1 rfl rfl) h1
  obtain ⟨a2, rfl, rfl, rfl, w2⟩ := open_int Tryz.underlying3 (hval 2 3 v2 rfl rfl) h2
  have k3 := h3
  have lt3 : ∀ x ∈ p3, x.block < W.heap.size := by obtain ⟨m, hm⟩ := k3; exact DataW.trod_lt m _ _ _ hm
  obtain ⟨ms3, neg3, ao3, n3, c3, bo3, m3, d3, f3, g3, rfl, w3, x3⟩ := open_cell (hval 3 29 v3 rfl rfl) h3
  obtain ⟨a4, rfl, rfl, rfl, w4⟩ := open_int Tryz.underlying58 (hval 4 58 v4 rfl rfl) h4
  clear hA0 hval0
  refine (walk _ _ _ _ _ _ a2 _ _ _ _ _ _ _ _ _ _ a4 W w0 w1 w2 w3 x3 w4 (tab_of hL)).mono fun e W' ⟨he, bel⟩ => ?_
  subst he
  exact ⟨_, rfl, _, _, _, [], _, [], hW', trodAll_mk1 (shut_bool Tryz.underlying4 _), (trodAll_cons_mk (Below.trod laidOut (by kernel_rfl) (of_decide_eq_true (by kernel_rfl)) k0 bel lt0) (trodAll_cons_mk (Below.trod laidOut (by kernel_rfl) (of_decide_eq_true (by kernel_rfl)) k1 bel lt1) (trodAll_cons_mk (shut_int Tryz.underlying3 w2) (trodAll_cons_mk (Below.trod laidOut (by kernel_rfl) (of_decide_eq_true (by kernel_rfl)) k3 bel lt3) (trodAll_cons_mk (shut_int Tryz.underlying58 w4) trodAll_mk0))))), rfl, bel.frame _, fun h => by cases h⟩

theorem over : Rows.rowsTurnsRow.holds Tryz.pinned (OpenSpec.ofChange Rows.rowsTurnsSpec) :=
  OpenClaim.holds_of_wide 7 Tryz.f7 rfl rfl rfl rfl rfl rfl rfl ⟨rfl, rfl, rfl, rfl, rfl⟩ rfl rfl rfl rfl rfl (by kernel_rfl) Tryz.func7 (by kernel_rfl)
    (of_decide_eq_true (by kernel_rfl)) (by unfold Func.isWrapper; first | (rw [if_pos (by decide +kernel)]; kernel_rfl) | (rw [if_neg (by decide +kernel)]; exact ⟨rfl, rfl⟩))
    (fun os started H enc _ => lifted os started H enc)

end Go.Proofs.YtianfjidbeineaaGreatDoor.rowsTurns
namespace Go.Proofs.YtianfjidbeineaaGreatDoor
/-- The statement: the row, tied to the text of the program. -/
theorem rowsTurns_holds : Rows.RowsTurnsCardSaid :=
  Claim7.holds_tied_plain_at .later [] [.data] true (true, "885c1355689222cccb61c3139621a6636fb64cd2ef1af163d7343c3d7e634eb2") false
    rowsTurns.over (fun _ h => by cases h) (by kernel_rfl) (fun _ h => by cases h) rowsTurns_row_tie rfl ⟨rfl, rfl⟩ (by kernel_rfl) rfl
    (fun f fn hf hfn => by
      obtain rfl : f = 7 := Option.some.inj ((show Tryz.prog.funcNamed "dendron/dendronlaw09.RowsTurns" = some 7 by kernel_rfl).symm.trans hf) |>.symm
      obtain rfl : fn = Tryz.f7 := (Option.some.inj (Tryz.func7.symm.trans hfn)).symm
      exact ⟨by kernel_rfl, fun j t ht => by
        rw [Tryz.params7] at ht
        have hm : t ∈ [39, 39, 3, 29, 58] := by simpa using Array.mem_of_getElem? ht
        have hall : ([39, 39, 3, 29, 58].all fun u => !Tryz.prog.wantsStandIn u) = true := by kernel_rfl
        exact (show Tryz.prog.wantsStandIn t = false by simpa using List.all_eq_true.1 hall t hm)⟩)
    (by kernel_rfl)
end Go.Proofs.YtianfjidbeineaaGreatDoor
