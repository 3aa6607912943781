/-
  Texts of mine.
-/
import Derived.Test.YtbbliiafkjipbaaGreatDoorJc5620859d3
import Derived.Test.YtbbliiafkjipbaaGreatDoorJd5ba4d852a
namespace Go.Proofs.YtbbliiafkjipbaaGreatDoor
open Go.RowKit
theorem minus_step (B : Nat) (h f g : Nat → Int) (i : Nat) (c t : Int) (ht : t = f i - g i - c) (hv : val B h i - c * (B : Int) ^ i = val B f i - val B g i) :
  val B (put h i (t % B)) (i + 1) - (0 - t / B) * (B : Int) ^ (i + 1) = val B f (i + 1) - val B g (i + 1) := by
 have e1 : (B : Int) ^ (i + 1) = (B : Int) ^ i * B := Int.pow_succ _ _
 simp only [val]
 rw [put_same,val_congr i (fun j hj => put_other h i j _ (by omega)),e1,Int.zero_sub,Int.neg_mul,Int.sub_neg]
 have e := carry_step (B : Int) t 0 ((B : Int) ^ i) (val B h i)
 rw [Int.sub_zero,Int.sub_zero] at e
 rw [e,ht,Int.sub_mul,Int.sub_mul]; omega
set_option maxRecDepth 20000 in
set_option maxHeartbeats 2000000 in
theorem minus_nil (u v : Value) (x y : Nat) (w : World) (hu : RepD w u x) (hv : RepD w v y) (hlx : nl 10000 x ≤ 1000000) (hle : y ≤ x) :
  Calls Tryz.prog 139 #[u,v] w fun e w' => ∃ r,e = .returned r ∧ RepD w' r (x - y) ∧ NilC r ∧ Below w.heap.size w w' := by
 obtain ⟨i0,hi,hz0,hz1,hz2⟩ := info_parts info_int
 have hnl : nl 10000 y ≤ nl 10000 x := by
  by_cases g : nl 10000 x < nl 10000 y
  ·have := lt_of_nl 10000 x y (by decide) g; omega
  ·omega
 have hv0 := hv
 obtain ⟨ao,c,rfl,hnc,hl,h4⟩ := hu
 obtain ⟨bo,d,rfl,_,kl,k4⟩ := hv0
 clear k4
 unfold RepD at hv
 have HY : Hid (∀ i,at0 (dg 10000 y) (nl 10000 y) i = dg 10000 y i) := fun i => at0_dg y i _ rfl
 have VX : Hid (val 10000 (dg 10000 x) (nl 10000 x) = (x : Int)) := val_dg_ge x _ (Nat.le_refl _)
 have VY : Hid (val 10000 (dg 10000 y) (nl 10000 x) = (y : Int)) := val_dg_ge y _ hnl
 have HDX := show Hid (∀ i,0 ≤ dg 10000 x i ∧ dg 10000 x i < ((10000 : Nat) : Int)) from fun i => dg_bounds 10000 x i (by decide)
 have HDY := show Hid (∀ i,0 ≤ dg 10000 y i ∧ dg 10000 y i < ((10000 : Nat) : Int)) from fun i => dg_bounds 10000 y i (by decide)
 generalize nl 10000 x = n at *
 generalize nl 10000 y = m at *
 have H4 := show Hid (0 < n → ∃ b off,ao = some ⟨b,off,none⟩ ∧ Cells w .i64 b off n (dg 10000 x)) from h4
 clear h4
 go_enter Tryz.func139,Tryz.ntmps139
 go_wp2
 go_loopw [5,6,7] (fun v vc vi wr => ∃ (i : Nat) (cr : Int) (h : Nat → Int),i ≤ n ∧ vc = .int .i64 cr ∧ vi = .int .i64 (i : Int) ∧ 0 ≤ cr ∧ cr ≤ 1 ∧ Dig i h ∧ wr.ownsRow w.heap.size 3 1 v i (valsOf .i64 h i) ∧
   val 10000 h i - cr * ((10000 : Nat) : Int) ^ i = val 10000 (dg 10000 x) i - val 10000 (dg 10000 y) i ∧ Below w.heap.size w wr) (fun _ _ vi _ => n - (intOf vi).toNat)
 case atStart => exact ⟨0,0,fun _ => 0,Nat.zero_le _,rfl,rfl,Int.le_refl _,by decide,fun i hi => by omega,World.ownsRow_nil _ _ _ _,by simp [val],Below.refl _ _⟩
 case round =>
  obtain ⟨i,cr,h,hin,rfl,rfl,hc0,hc1,hdig,hown,hval,hbel⟩ := hrel
  have hs := hbel.size
  have HV : Hid (val 10000 h i - cr * ((10000 : Nat) : Int) ^ i = val 10000 (dg 10000 x) i - val 10000 (dg 10000 y) i) := hval
  clear hval
  by_cases hlt : i < n
  ·obtain ⟨b,off,rfl,hc⟩ := H4.out (by omega)
   have hcell := (hc.below hbel (hc.lt (by omega))) i hlt
   have hX := HDX.out i
   have hY := HDY.out i
   have hstep := minus_step 10000 h (dg 10000 x) (dg 10000 y) i cr (dg 10000 x i - dg 10000 y i - cr) rfl HV.out
   have HST : Hid (val 10000 (put h i ((dg 10000 x i - dg 10000 y i - cr) % ((10000 : Nat) : Int))) (i + 1) - (0 - (dg 10000 x i - dg 10000 y i - cr) / ((10000 : Nat) : Int)) * ((10000 : Nat) : Int) ^ (i + 1) = val 10000 (dg 10000 x) (i + 1) - val 10000 (dg 10000 y) (i + 1)) := hstep
   clear hstep
   have hvN := hv.below hbel
   have hay := HY.out i
   have i1 : (0 : Int) ≤ (i : Int) := by omega
   have i2 : (i : Int) < (n : Int) := by omega
   generalize dg 10000 x i = p at *
   generalize dg 10000 y i = q at *
   have hown2 : wr.drew.ownsRow w.heap.size 3 1 _ i (valsOf .i64 h i) := hown
   have hbel2 : Below w.heap.size w wr.drew := hbel.drew
   go_wp2
   go_region_held3 (fun w' => w'.cell? ⟨b,off + i,none⟩ = some (.int .i64 p)) (assumption) (first
    | (go_at_call 123; refine (digit_any _ _ _ _ i (by exact hvN) (by unfold LIM; omega)).mono ?_; rintro e w2 ⟨rfl,rfl⟩; rw [hay]))
   by_cases ht : p - q - cr < 0
   ·have hti : p - q - cr < 0 := ht
    go_wp2_with (at_builtin; refine wpList_append_own _ rfl _ _ 79 rfl w.heap.size 3 i0 (.int .i64 0) 1 8 Tryz.underlying79 hi hz0 hz1 hz2 rfl (by decide) _ _ _ rfl (hown2.alloc _) ⟨wr.heap.size,0,none⟩ 1 1 [.int .i64 (p - q - cr + 10000)] rfl rfl (cell_one_new _ _ _) (by intro u hu; simp at hu; subst hu; rfl) (by unfold maxLen; omega) (by omega) (by simp; omega) ?_)
    intro v' w3 hown' hgrow _
    have hb1 : Below w.heap.size w w3 := (hbel2.alloc (by simpa using hs) _).grown hgrow (by simp; omega) (fun k e => (World.ownsRow.lt hown _ e).1)
    rw [valsOf_snoc] at hown'
    clear hgrow hown hown2
    go_wp2
    go_roundw
    case rel =>
     refine ⟨i + 1,0 - (p - q - cr) / ((10000 : Nat) : Int),put h i ((p - q - cr) % ((10000 : Nat) : Int)),by omega,by go_num,by go_num,by omega,by omega,?_,?_,HST.out,hb1⟩
     ·intro j hj
      by_cases e : j = i
      ·rw [e,put_same]; omega
      ·rw [put_other _ _ _ _ e]; exact hdig j (by omega)
     ·rw [show (p - q - cr) % ((10000 : Nat) : Int) = (p - q - cr + 10000) by omega]; exact hown'
    case measure => simp [intOf]; omega
   ·have hti : ¬ p - q - cr < 0 := ht
    go_wp2_with (at_builtin; refine wpList_append_own _ rfl _ _ 79 rfl w.heap.size 3 i0 (.int .i64 0) 1 8 Tryz.underlying79 hi hz0 hz1 hz2 rfl (by decide) _ _ _ rfl (hown2.alloc _) ⟨wr.heap.size,0,none⟩ 1 1 [.int .i64 (p - q - cr)] rfl rfl (cell_one_new _ _ _) (by intro u hu; simp at hu; subst hu; rfl) (by unfold maxLen; omega) (by omega) (by simp; omega) ?_)
    intro v' w3 hown' hgrow _
    have hb1 : Below w.heap.size w w3 := (hbel2.alloc (by simpa using hs) _).grown hgrow (by simp; omega) (fun k e => (World.ownsRow.lt hown _ e).1)
    rw [valsOf_snoc] at hown'
    clear hgrow hown hown2
    go_wp2
    go_roundw
    case rel =>
     refine ⟨i + 1,0 - (p - q - cr) / ((10000 : Nat) : Int),put h i ((p - q - cr) % ((10000 : Nat) : Int)),by omega,by go_num,by go_num,by omega,by omega,?_,?_,HST.out,hb1⟩
     ·intro j hj
      by_cases e : j = i
      ·rw [e,put_same]; omega
      ·rw [put_other _ _ _ _ e]; exact hdig j (by omega)
     ·rw [show (p - q - cr) % ((10000 : Nat) : Int) = (p - q - cr) by omega]; exact hown'
    case measure => simp [intOf]; omega
  ·have hiN : i = n := by omega
   subst hiN
   have hcr : cr = 0 := by
    have h1 := HV.out
    rw [VX.out,VY.out] at h1
    have h2 := (val_bounds 10000 h i hdig).2
    by_cases q : cr = 0
    ·exact q
    ·have e1 : cr = 1 := by omega
     rw [e1,Int.one_mul] at h1; omega
   have HVV : Hid (val 10000 h i = ((x - y : Nat) : Int)) := by
    show _ = _
    have h1 := HV.out
    rw [VX.out,VY.out,hcr,Int.zero_mul] at h1; omega
   have hN : Nums .i64 wr _ i h := owns_nums hown (by unfold LIM; omega)
   go_wp2_with (go_at_call 124; refine (trim_nil _ _ _ _ hN).mono ?_; rintro e w3 ⟨r,rfl,hr,hnil,_,rfl⟩)
   go_ret
   refine ⟨_,rfl,?_,hnil (nilC_owns hown),hbel⟩
   have es := sz_val 10000 (by decide) h i (x - y) hdig HVV.out
   rw [es] at hr
   exact hr.congr (fun p hp => val_digit 10000 h i (x - y) hdig HVV.out p (Nat.lt_of_lt_of_le hp (by rw [← es]; exact sz_le _ _)))
end Go.Proofs.YtbbliiafkjipbaaGreatDoor
