/-
  Texts of mine.
-/
import Derived.Test.YtbbliiafkjipbaaGreatDoorJc131f39ad6
import Derived.Test.YtbbliiafkjipbaaGreatDoorJ5d74469de9
import Derived.Deep.RegionHeld3
namespace Go.Proofs.YtbbliiafkjipbaaGreatDoor
open Go.RowKit
def RepD (w : World) (v : Value) (m : Nat) : Prop := Nums .i64 w v (nl 10000 m) (dg 10000 m)
def Dig (n : Nat) (f : Nat → Int) : Prop := ∀ i,i < n → 0 ≤ f i ∧ f i < ((10000 : Nat) : Int)
theorem dig_dg (m n : Nat) : Dig n (dg 10000 m) := fun i _ => dg_bounds 10000 m i (by decide)
theorem owns_nums {k : IntKind} {B : Nat} {w : World} {e : TypeId} {v : Value} {n : Nat} {f : Nat → Int} (h : w.ownsRow B e 1 v n (valsOf k f n)) (hl : n ≤ LIM) : Nums k w v n f := by
 rcases h.2 with ⟨rfl,rfl⟩ | ⟨g,cap,cur,rfl,hBg,hcur,hcap,hcm,hcs,htake⟩
 ·exact Nums.nil _ _ _
 ·refine ⟨_,_,rfl,hcap,hl,fun _ => ⟨_,_,rfl,fun i hi => ?_⟩⟩
  rw [Nat.zero_add,h.cellAt i (by omega),valsOf_at _ _ _ _ hi]
theorem sz_succ_zero' (f : Nat → Int) (k : Nat) (h : (f k == 0) = true) : sz f (k + 1) = sz f k := by
 have : f k = 0 := by simpa using h
 simp [sz,this]
theorem sz_succ_not' (f : Nat → Int) (k : Nat) (h : (f k == 0) = false) : sz f (k + 1) = k + 1 := by
 have : ¬ f k = 0 := by simpa using h
 simp [sz,this]
def NilC (v : Value) : Prop := ∀ n c,v = .slice none n c → c = 0
def SameAt (v v' : Value) : Prop := ∀ a m c,v' = .slice (some a) m c → ∃ m' c',v = .slice (some a) m' c'
theorem nilC_owns {B : Nat} {w : World} {e : TypeId} {v : Value} {n : Nat} {xs : List Value} (h : w.ownsRow B e 1 v n xs) : NilC v := by
 rcases h.2 with ⟨rfl,rfl⟩ | ⟨g,cap,cur,rfl,_⟩
 ·intro n c h; cases h; rfl
 ·intro n c h; cases h
set_option maxRecDepth 20000 in
set_option maxHeartbeats 400000 in
theorem trim_nil (v : Value) (n : Nat) (f : Nat → Int) (w : World) (h : Nums .i64 w v n f) :
  Calls Tryz.prog 124 #[v] w fun e w' => ∃ v',e = .returned v' ∧ Nums .i64 w' v' (sz f n) f ∧ (NilC v → NilC v') ∧ SameAt v v' ∧ w' = w := by
 obtain ⟨ao,c,rfl,hnc,hl,h4⟩ := h
 unfold LIM at hl
 by_cases hn : n = 0
 ·subst hn
  go_enter Tryz.func124,Tryz.ntmps124
  go_wp2
  go_rounds 1
  go_ret
  exact ⟨_,rfl,⟨_,_,rfl,Nat.zero_le _,Nat.zero_le _,fun h => absurd h (by simp [sz])⟩,fun h => h,fun _ _ _ h => ⟨_,_,h⟩,rfl⟩
 ·obtain ⟨b,off,rfl,hc⟩ := h4 (by omega)
  go_enter Tryz.func124,Tryz.ntmps124
  go_wp2
  go_loop [3] (fun v => ∃ k : Nat,k ≤ n ∧ v = .int .i64 k ∧ sz f n = sz f k) (fun v => (intOf v).toNat)
  case atStart => exact ⟨n,Nat.le_refl _,rfl,rfl⟩
  case round =>
   obtain ⟨k,hk,rfl,hs⟩ := hrel
   have HS : Hid (sz f n = sz f k) := hs
   clear hs
   cases k with
   | zero =>
    go_wp2
    go_ret
    refine ⟨_,rfl,?_,fun _ _ _ h => by (cases h),fun _ _ _ h => by (cases h; exact ⟨_,_,rfl⟩),rfl⟩
    rw [HS.out]
    exact ⟨_,_,rfl,Nat.zero_le _,Nat.zero_le _,fun h => absurd h (by simp [sz])⟩
   | succ k =>
    have hcell := hc k (by omega)
    have h1 : ((k : Int) + 1 - 1) = k := by omega
    go_wp2
    ·exact ⟨⟨k,by omega,rfl,by rw [HS.out]; exact sz_succ_zero' f k (by assumption)⟩,by simp [intOf]⟩
    ·go_ret
     refine ⟨_,rfl,?_,fun _ _ _ h => by (cases h),fun _ _ _ h => by (cases h; exact ⟨_,_,rfl⟩),rfl⟩
     rw [HS.out,sz_succ_not' f k (by assumption)]
     exact ⟨_,_,rfl,by omega,by unfold LIM; omega,fun _ => ⟨_,_,rfl,hc.mono hk⟩⟩
theorem trim_any (v : Value) (n : Nat) (f : Nat → Int) (w : World) (h : Nums .i64 w v n f) :
  Calls Tryz.prog 124 #[v] w fun e w' => ∃ v',e = .returned v' ∧ Nums .i64 w' v' (sz f n) f ∧ w' = w :=
 (trim_nil v n f w h).mono fun _ _ ⟨v',h1,h2,_,_,h4⟩ => ⟨v',h1,h2,h4⟩
set_option maxRecDepth 20000 in
set_option maxHeartbeats 400000 in
theorem digit_any (v : Value) (n : Nat) (f : Nat → Int) (w : World) (i : Nat) (h : Nums .i64 w v n f) (h1 : i ≤ LIM) :
  Calls Tryz.prog 123 #[v,.int .i64 (i : Int)] w fun e w' => e = .returned (.int .i64 (at0 f n i)) ∧ w' = w := by
 obtain ⟨ao,c,rfl,_,hl,h4⟩ := h
 unfold LIM at hl h1
 by_cases hi : i < n
 ·obtain ⟨b,off,rfl,hc⟩ := h4 (by omega)
  have hcell := hc i hi
  go_enter Tryz.func123,Tryz.ntmps123
  go_wp2
  go_ret
  exact ⟨by simp [at0,hi],rfl⟩
 ·go_enter Tryz.func123,Tryz.ntmps123
  go_wp2
  go_ret
  exact ⟨by simp [at0,hi],rfl⟩
theorem info_int : (Tryz.prog.info? 3).map (fun i => (i.zero,i.size,i.bytes)) = some (some (.int .i64 0),1,8) := by kernel_rfl
theorem small_end (x j : Nat) (h0 : x / 10000 ^ j = 0) (hj : 0 < j → x / 10000 ^ (j - 1) ≠ 0) : nl 10000 x = j := by
 have hlt : x < 10000 ^ j := by
  have := Nat.div_eq_zero_iff.1 h0
  rcases this with h | h
  ·have := Nat.pow_pos (n := j) (show 0 < 10000 by omega); omega
  ·exact h
 rw [nl_spec 10000 x j (by decide) hlt]
 refine sz_unique _ j j (Nat.le_refl _) (fun hp => ?_) (fun i h1 h2 => by omega)
 have h1 := hj hp
 unfold dg
 have hb : x / 10000 ^ (j - 1) < 10000 := by
  rw [Nat.div_lt_iff_lt_mul (Nat.pow_pos (by omega))]
  have : 10000 * 10000 ^ (j - 1) = 10000 ^ j := by rw [Nat.mul_comm,← Nat.pow_succ]; congr 1; omega
  rw [this]; exact hlt
 rw [Nat.mod_eq_of_lt hb]; omega
set_option maxRecDepth 20000 in
set_option maxHeartbeats 1000000 in
theorem small_any (x : Nat) (w : World) (hx : x < 9223372036854775808) :
  Calls Tryz.prog 92 #[.int .i64 (x : Int)] w fun e w' => ∃ v,e = .returned v ∧ RepD w' v x ∧ Below w.heap.size w w' := by
 obtain ⟨i0,hi,hz0,hz1,hz2⟩ := info_parts info_int
 go_enter Tryz.func92,Tryz.ntmps92
 go_wp2
 go_loopw [0,3] (fun vn v wr => ∃ j : Nat,j ≤ 20 ∧ vn = .int .i64 ((x / 10000 ^ j : Nat) : Int) ∧ (0 < j → x / 10000 ^ (j - 1) ≠ 0) ∧ wr.ownsRow w.heap.size 3 1 v j (valsOf .i64 (dg 10000 x) j) ∧ Below w.heap.size w wr) (fun vn _ _ => (intOf vn).toNat)
 case atStart => exact ⟨0,by omega,by simp,by omega,World.ownsRow_nil _ _ _ _,Below.refl _ _⟩
 case round =>
  obtain ⟨j,hj,rfl,hne,hown,hbel⟩ := hrel
  have HNE : Hid (0 < j → x / 10000 ^ (j - 1) ≠ 0) := hne
  clear hne
  have hs := hbel.size
  have hyx : x / 10000 ^ j ≤ x := Nat.div_le_self _ _
  by_cases hpos : 0 < x / 10000 ^ j
  ·have hj4 : j < 5 := by
    by_cases g : j < 5
    ·exact g
    ·have h5 : 10000 ^ 5 ≤ 10000 ^ j := Nat.pow_le_pow_right (by omega) (by omega)
     have : x / 10000 ^ j = 0 := Nat.div_eq_of_lt (by omega)
     omega
   have hdg : Hid (((x / 10000 ^ j : Nat) : Int) % 10000 = dg 10000 x j) := by show _ = _; unfold dg; omega
   have hnx : Hid (x / 10000 ^ (j + 1) = x / 10000 ^ j / 10000) := by show _ = _; rw [Nat.pow_succ,Nat.div_div_eq_div_mul]
   have hnz : Hid (x / 10000 ^ j ≠ 0) := by show _ ≠ _; omega
   generalize hy : x / 10000 ^ j = y at *
   have hyi : (0 : Int) < (y : Int) := by omega
   go_wp2_with (at_builtin; refine wpList_append_own _ rfl _ _ 79 rfl w.heap.size 3 i0 (.int .i64 0) 1 8 Tryz.underlying79 hi hz0 hz1 hz2 rfl (by decide) _ _ _ rfl (hown.alloc _) ⟨wr.heap.size,0,none⟩ 1 1 [.int .i64 ((y : Int) % 10000)] rfl rfl (cell_one_new _ _ _) ?c1 (by unfold maxLen; omega) (by omega) (by simp; omega) ?_)
   case c1 => intro u hu; simp at hu; subst hu; rfl
   intro v' w1 hown' hgrow _
   have hb1 : Below w.heap.size w w1 := (hbel.alloc hs _).grown hgrow (by simp; omega) (fun k e => (World.ownsRow.lt hown _ e).1)
   rw [hdg.out,valsOf_snoc,valsOf_congr .i64 (g := dg 10000 x) (fun i hi => by by_cases e : i = j; rw [e,put_same]; rw [put_other _ _ _ _ e])] at hown'
   clear hgrow hown
   go_wp2
   go_roundw
   case rel => exact ⟨j + 1,by omega,by rw [hnx.out]; simp,fun _ => by rw [Nat.add_sub_cancel,hy]; exact hnz.out,hown',hb1⟩
   case measure => simp [intOf]; omega
  ·have hz : x / 10000 ^ j = 0 := Nat.le_zero.1 (Nat.not_lt.1 hpos)
   have he := small_end x j hz HNE.out
   have HE : Hid (nl 10000 x = j) := he
   rw [hz]
   clear he hz hpos hyx
   go_wp2
   go_ret
   refine ⟨_,rfl,?_,hbel⟩
   unfold RepD
   rw [HE.out]; exact owns_nums hown (by unfold LIM; omega)
set_option maxRecDepth 20000 in
set_option maxHeartbeats 1000000 in
theorem order_any (u v : Value) (x y : Nat) (w : World) (hu : RepD w u x) (hv : RepD w v y) :
  Calls Tryz.prog 91 #[u,v] w fun e w' => e = .returned (.int .i64 (cmpI x y)) ∧ Below w.heap.size w w' := by
 obtain ⟨ao,c,rfl,_,hl,h4⟩ := hu
 obtain ⟨bo,d,rfl,_,kl,k4⟩ := hv
 unfold LIM at hl kl
 by_cases hne : nl 10000 x = nl 10000 y
 ·have hb : ((nl 10000 x : Int) != (nl 10000 y : Int)) = false := by simp [hne]
  by_cases h0 : nl 10000 x = 0
  ·have h00 : nl 10000 y = 0 := by omega
   have e : Hid (x = y) := by show x = y; rw [(nl_eq_zero 10000 x (by decide)).1 h0,(nl_eq_zero 10000 y (by decide)).1 h00]
   clear hb h4 k4
   rw [h0,h00] at *
   go_enter Tryz.func91,Tryz.ntmps91
   go_wp2
   go_rounds 1
   go_ret
   exact ⟨ret_int (cmpI_eq (by rw [e.out])).symm,Below.refl _ _⟩
  ·obtain ⟨b1,o1,rfl,hc⟩ := h4 (by omega)
   obtain ⟨b2,o2,rfl,kc⟩ := k4 (by omega)
   have HX : Hid (x < 10000 ^ nl 10000 y) := by show x < _; rw [← hne]; exact lt_pow_nl 10000 x (by decide)
   have HY : Hid (y < 10000 ^ nl 10000 y) := lt_pow_nl 10000 y (by decide)
   clear h4 k4
   rw [hne] at hc h0 hl ⊢
   clear hb hne
   generalize nl 10000 y = n at *
   have hb : ((n : Int) != (n : Int)) = false := by simp
   go_enter Tryz.func91,Tryz.ntmps91
   go_wp2
   go_loopw [5] (fun v wr => ∃ k : Nat,k ≤ n ∧ v = .int .i64 ((k : Int) - 1) ∧ x / 10000 ^ k = y / 10000 ^ k ∧ Below w.heap.size w wr) (fun v _ => (intOf v + 1).toNat)
   case atStart => exact ⟨n,Nat.le_refl _,rfl,by rw [Nat.div_eq_of_lt HX.out,Nat.div_eq_of_lt HY.out],Below.refl _ _⟩
   case round =>
    obtain ⟨k,hk,rfl,hdv,hbk⟩ := hrel
    have HD : Hid (x / 10000 ^ k = y / 10000 ^ k) := hdv
    clear hdv
    cases k with
    | zero =>
     go_wp2
     go_ret
     exact ⟨ret_int (cmpI_eq (by have := HD.out; simp at this; omega)).symm,hbk⟩
    | succ k =>
     have hcell : wr.cell? ⟨b1,o1 + k,none⟩ = some (.int .i64 (dg 10000 x k)) := (hbk.cell (hc.lt (by omega))).trans (hc k (by omega))
     have kcell : wr.cell? ⟨b2,o2 + k,none⟩ = some (.int .i64 (dg 10000 y k)) := (hbk.cell (kc.lt (by omega))).trans (kc k (by omega))
     have e1 : (((k + 1 : Nat) : Int) - 1) = (k : Int) := by omega
     rw [e1]
     have i1 : (0 : Int) ≤ (k : Int) := by omega
     have i2 : (k : Int) < (n : Int) := by omega
     by_cases hd : dg 10000 x k < dg 10000 y k
     ·go_wp2
      go_quiet (fail)
      go_wp2
      go_ret
      exact ⟨ret_int ((cmpI_lt hd).symm.trans (cmp_digit _ _ _ _ HD.out (by omega))),below_drewN hbk _⟩
     ·by_cases hg : dg 10000 y k < dg 10000 x k
      ·go_wp2
       go_quiet (fail)
       go_wp2
       go_quiet (fail)
       go_wp2
       go_ret
       exact ⟨ret_int ((cmpI_gt hg).symm.trans (cmp_digit _ _ _ _ HD.out (by omega))),by simpa using below_drewN (below_drewN hbk _) _⟩
      ·have hdd : Hid (dg 10000 x k = dg 10000 y k) := by show _ = _; omega
       go_wp2
       go_quiet (fail)
       go_wp2
       go_quiet (fail)
       go_wp2
       go_roundw
       case rel => exact ⟨k,by omega,rfl,same_digit _ _ _ _ HD.out hdd.out,by simpa using below_drewN (below_drewN hbk _) _⟩
       case measure => simp [intOf]
 ·have hb : ((nl 10000 x : Int) != (nl 10000 y : Int)) = true := by rw [bne_iff_ne]; omega
  have hcn := cmp_nl 10000 x y (by decide) hne
  have HC : Hid (cmpI (nl 10000 x) (nl 10000 y) = cmpI x y) := hcn
  clear hcn
  by_cases hlt : nl 10000 x < nl 10000 y
  ·have hlti : (nl 10000 x : Int) < (nl 10000 y : Int) := by omega
   go_enter Tryz.func91,Tryz.ntmps91
   go_wp2
   go_ret
   exact ⟨ret_int ((cmpI_lt hlti).symm.trans HC.out),Below.refl _ _⟩
  ·have hlti : ¬ (nl 10000 x : Int) < (nl 10000 y : Int) := by omega
   go_enter Tryz.func91,Tryz.ntmps91
   go_wp2
   go_ret
   exact ⟨ret_int ((cmpI_gt (by omega)).symm.trans HC.out),Below.refl _ _⟩

theorem plus_step (B : Nat) (h f g : Nat → Int) (i : Nat) (c t : Int) (ht : t = c + f i + g i) (hv : val B h i + c * (B : Int) ^ i = val B f i + val B g i) :
  val B (put h i (t % B)) (i + 1) + t / B * (B : Int) ^ (i + 1) = val B f (i + 1) + val B g (i + 1) := by
 have e1 : (B : Int) ^ (i + 1) = (B : Int) ^ i * B := Int.pow_succ _ _
 simp only [val]
 rw [put_same,val_congr i (fun j hj => put_other h i j _ (by omega)),e1]
 have e := carry_step (B : Int) t 0 ((B : Int) ^ i) (val B h i)
 rw [Int.sub_zero,Int.sub_zero] at e
 rw [e,ht,Int.add_mul,Int.add_mul]; omega
theorem plus_end (x y i : Nat) (h : Nat → Int) (hd : Dig i h) (hv : val 10000 h i = ((x + y : Nat) : Int)) (hi : i = nl 10000 x ∨ i = nl 10000 y ∨ (0 < i ∧ h (i - 1) ≠ 0)) :
  nl 10000 (x + y) = i ∧ ∀ j,j < i → h j = dg 10000 (x + y) j := by
 have h1 := sz_val 10000 (by decide) h i (x + y) hd hv
 have h2 := sz_le h i
 refine ⟨?_,val_digit 10000 h i (x + y) hd hv⟩
 rcases hi with e | e | ⟨e,g⟩
 ·by_cases q : nl 10000 (x + y) < nl 10000 x
  ·have := lt_of_nl 10000 (x + y) x (by decide) q; omega
  ·omega
 ·by_cases q : nl 10000 (x + y) < nl 10000 y
  ·have := lt_of_nl 10000 (x + y) y (by decide) q; omega
  ·omega
 ·rw [← h1]; exact sz_unique h i i (Nat.le_refl _) (fun _ => g) (fun j a b => by omega)
theorem at0_dg (m i : Nat) (n : Nat) (hn : n = nl 10000 m) : at0 (dg 10000 m) n i = dg 10000 m i := by
 unfold at0; split
 ·rfl
 ·rw [dg_high 10000 m i]
  exact Nat.lt_of_lt_of_le (lt_pow_nl 10000 m (by decide)) (Nat.pow_le_pow_right (by decide) (by omega))
theorem val_dg_ge (m i : Nat) (h : nl 10000 m ≤ i) : val 10000 (dg 10000 m) i = (m : Int) := by
 rw [val_dg,Nat.mod_eq_of_lt]
 exact Nat.lt_of_lt_of_le (lt_pow_nl 10000 m (by decide)) (Nat.pow_le_pow_right (by decide) h)
set_option maxRecDepth 20000 in
set_option maxHeartbeats 2000000 in
theorem plus_any (u v : Value) (x y : Nat) (w : World) (hu : RepD w u x) (hv : RepD w v y) (hlx : nl 10000 x ≤ 1000000) (hly : nl 10000 y ≤ 1000000) :
  Calls Tryz.prog 96 #[u,v] w fun e w' => ∃ r,e = .returned r ∧ RepD w' r (x + y) ∧ Below w.heap.size w w' := by
 obtain ⟨i0,hi,hz0,hz1,hz2⟩ := info_parts info_int
 have hu0 := hu
 have hv0 := hv
 obtain ⟨ao,c,rfl,_,hl,h4⟩ := hu0
 obtain ⟨bo,d,rfl,_,kl,k4⟩ := hv0
 clear h4 k4
 unfold RepD at hu hv
 have hAX : ∀ i,at0 (dg 10000 x) (nl 10000 x) i = dg 10000 x i := fun i => at0_dg x i _ rfl
 have hAY : ∀ i,at0 (dg 10000 y) (nl 10000 y) i = dg 10000 y i := fun i => at0_dg y i _ rfl
 have HX : Hid (∀ i,at0 (dg 10000 x) (nl 10000 x) i = dg 10000 x i) := hAX
 have HY : Hid (∀ i,at0 (dg 10000 y) (nl 10000 y) i = dg 10000 y i) := hAY
 clear hAX hAY
 have HE : Hid (∀ (i : Nat) (h : Nat → Int),Dig i h → val 10000 h i = ((x + y : Nat) : Int) → (i = nl 10000 x ∨ i = nl 10000 y ∨ (0 < i ∧ h (i - 1) ≠ 0)) → nl 10000 (x + y) = i ∧ ∀ j,j < i → h j = dg 10000 (x + y) j) := fun i h => plus_end x y i h
 have HVX : Hid (∀ i,nl 10000 x ≤ i → val 10000 (dg 10000 x) i = (x : Int)) := fun i h => val_dg_ge x i h
 have HVY : Hid (∀ i,nl 10000 y ≤ i → val 10000 (dg 10000 y) i = (y : Int)) := fun i h => val_dg_ge y i h
 have hDX : ∀ i,0 ≤ dg 10000 x i ∧ dg 10000 x i < ((10000 : Nat) : Int) := fun i => dg_bounds 10000 x i (by decide)
 have hDY : ∀ i,0 ≤ dg 10000 y i ∧ dg 10000 y i < ((10000 : Nat) : Int) := fun i => dg_bounds 10000 y i (by decide)
 have HDX := show Hid (∀ i,0 ≤ dg 10000 x i ∧ dg 10000 x i < ((10000 : Nat) : Int)) from hDX
 have HDY := show Hid (∀ i,0 ≤ dg 10000 y i ∧ dg 10000 y i < ((10000 : Nat) : Int)) from hDY
 clear hDX hDY
 generalize nl 10000 x = n at *
 generalize nl 10000 y = m at *
 go_enter Tryz.func96,Tryz.ntmps96
 go_wp2
 go_loopw [5,6,7] (fun v vc vi wr => ∃ (i : Nat) (cr : Int) (h : Nat → Int),i ≤ n + m + 1 ∧ (0 < cr → i ≤ n ∨ i ≤ m) ∧ vc = .int .i64 cr ∧ vi = .int .i64 (i : Int) ∧ 0 ≤ cr ∧ cr ≤ 1 ∧ Dig i h ∧ wr.ownsRow w.heap.size 3 1 v i (valsOf .i64 h i) ∧
   val 10000 h i + cr * ((10000 : Nat) : Int) ^ i = val 10000 (dg 10000 x) i + val 10000 (dg 10000 y) i ∧ (i ≤ n ∨ i ≤ m ∨ h (i - 1) ≠ 0) ∧ Below w.heap.size w wr) (fun _ _ vi _ => n + m + 2 - (intOf vi).toNat)
 case atStart => exact ⟨0,0,fun _ => 0,Nat.zero_le _,by omega,rfl,rfl,Int.le_refl _,by decide,fun i hi => by omega,World.ownsRow_nil _ _ _ _,by simp [val],.inl (Nat.zero_le _),Below.refl _ _⟩
 case round =>
  obtain ⟨i,cr,h,hib,hcr,rfl,rfl,hc0,hc1,hdig,hown,hval,htop,hbel⟩ := hrel
  have hs := hbel.size
  have HV : Hid (val 10000 h i + cr * ((10000 : Nat) : Int) ^ i = val 10000 (dg 10000 x) i + val 10000 (dg 10000 y) i) := hval
  have HT : Hid (i ≤ n ∨ i ≤ m ∨ h (i - 1) ≠ 0) := htop
  clear hval htop
  by_cases hend : n ≤ i ∧ m ≤ i ∧ cr ≤ 0
  ·obtain ⟨e1,e2,e3⟩ := hend
   have g1 : decide (i < n) = false := by simp; omega
   have g2 : decide (i < m) = false := by simp; omega
   have g3 : ¬ 0 < cr := by omega
   have hfin := HE.out i h hdig (by
    have := HV.out
    rw [HVX.out i e1,HVY.out i e2,show cr = 0 by omega] at this
    rw [Int.zero_mul] at this; omega) (by
    rcases HT.out with a | a | a
    ·exact .inl (by omega)
    ·exact .inr (.inl (by omega))
    ·by_cases q : i = 0
     ·exact .inl (by omega)
     ·exact .inr (.inr ⟨by omega,a⟩))
   have HF : Hid (nl 10000 (x + y) = i ∧ ∀ j,j < i → h j = dg 10000 (x + y) j) := hfin
   clear hfin
   go_wp2
   go_ret
   refine ⟨_,rfl,?_,hbel⟩
   unfold RepD
   rw [HF.out.1]
   exact (owns_nums hown (by unfold LIM; omega)).congr HF.out.2
  ·have hX := HDX.out i
   have hY := HDY.out i
   have hstep := plus_step 10000 h (dg 10000 x) (dg 10000 y) i cr (cr + dg 10000 x i + dg 10000 y i) rfl HV.out
   have HST : Hid (val 10000 (put h i ((cr + dg 10000 x i + dg 10000 y i) % ((10000 : Nat) : Int))) (i + 1) + (cr + dg 10000 x i + dg 10000 y i) / ((10000 : Nat) : Int) * ((10000 : Nat) : Int) ^ (i + 1) = val 10000 (dg 10000 x) (i + 1) + val 10000 (dg 10000 y) (i + 1)) := hstep
   have hzx : Hid (n ≤ i → dg 10000 x i = 0) := fun q => by rw [← HX.out]; unfold at0; rw [if_neg (by omega)]
   have hzy : Hid (m ≤ i → dg 10000 y i = 0) := fun q => by rw [← HY.out]; unfold at0; rw [if_neg (by omega)]
   clear hstep
   have hax := HX.out i
   have hay := HY.out i
   generalize dg 10000 x i = p at *
   generalize dg 10000 y i = q at *
   have hg : (decide (i < n) = true) ∨ (decide (i < n) = false ∧ decide (i < m) = true) ∨ (decide (i < n) = false ∧ decide (i < m) = false ∧ 0 < cr) := by
    simp only [decide_eq_true_eq,decide_eq_false_iff_not]; omega
   have HG : Hid (i < n ∨ i < m ∨ 0 < cr) := by show _ ∨ _; omega
   have hib2 : i ≤ n + m := by omega
   clear hend
   rcases hg with g1 | ⟨g1,g2⟩ | ⟨g1,g2,g3⟩
   all_goals
    go_wp2_with fail
    refine (digit_any _ _ _ _ _ (hu.below hbel) (by unfold LIM; omega)).mono ?_
    rintro e w1 ⟨rfl,rfl⟩
    rw [hax]
    go_wp2_with fail
    refine (digit_any _ _ _ _ _ (hv.below hbel) (by unfold LIM; omega)).mono ?_
    rintro e w1 ⟨rfl,rfl⟩
    rw [hay]
    go_wp2_with (at_builtin; refine wpList_append_own _ rfl _ _ 79 rfl w.heap.size 3 i0 (.int .i64 0) 1 8 Tryz.underlying79 hi hz0 hz1 hz2 rfl (by decide) _ _ _ rfl (hown.alloc _) ⟨w1.heap.size,0,none⟩ 1 1 [.int .i64 ((cr + p + q) % 10000)] rfl rfl (cell_one_new _ _ _) (by intro u hu; simp at hu; subst hu; rfl) (by unfold maxLen; omega) (by omega) (by simp; omega) ?_)
    intro v' w2 hown' hgrow _
    have hb1 : Below w.heap.size w w2 := (hbel.alloc hs _).grown hgrow (by simp; omega) (fun k e => (World.ownsRow.lt hown _ e).1)
    rw [valsOf_snoc] at hown'
    clear hgrow hown
    go_wp2
    go_roundw
    case rel =>
     refine ⟨i + 1,(cr + p + q) / ((10000 : Nat) : Int),put h i ((cr + p + q) % ((10000 : Nat) : Int)),by omega,?_,rfl,by go_num,by omega,by omega,?_,hown',HST.out,?_,hb1⟩
     ·intro hc; have := hzx.out; have := hzy.out; have := HG.out; omega
     ·intro j hj
      by_cases e : j = i
      ·rw [e,put_same]; omega
      ·rw [put_other _ _ _ _ e]; exact hdig j (by omega)
     ·by_cases e1 : i + 1 ≤ n
      ·exact .inl e1
      ·by_cases e2 : i + 1 ≤ m
       ·exact .inr (.inl e2)
       ·refine .inr (.inr ?_)
        rw [Nat.add_sub_cancel,put_same,hzx.out (by omega),hzy.out (by omega)]
        have := HG.out; omega
    case measure => simp [intOf]; omega

theorem mul_le_dig (x y : Int) (h0 : 0 ≤ x) (h1 : x < 10000) (h2 : 0 ≤ y) (h3 : y < 10000) : 0 ≤ x * y ∧ x * y ≤ 99980001 := by
 refine ⟨Int.mul_nonneg h0 h2,?_⟩
 have a := Int.mul_le_mul_of_nonneg_right (show x ≤ 9999 by omega) h2
 omega
set_option maxRecDepth 20000 in
set_option maxHeartbeats 2000000 in
theorem times_any (u v : Value) (x y : Nat) (w : World) (hu : RepD w u x) (hv : RepD w v y) (hlx : nl 10000 x ≤ 1000000) (hly : nl 10000 y ≤ 1000000) :
  Calls Tryz.prog 97 #[u,v] w fun e w' => ∃ r,e = .returned r ∧ RepD w' r (x * y) ∧ Below w.heap.size w w' := by
 obtain ⟨i0,hi,hz0,hz1,hz2⟩ := info_parts info_int
 obtain ⟨ao,c,rfl,_,hl,h4⟩ := hu
 obtain ⟨bo,d,rfl,_,kl,k4⟩ := hv
 have VX : Hid (val 10000 (dg 10000 x) (nl 10000 x) = (x : Int)) := val_nl 10000 x (by decide)
 have VY : Hid (val 10000 (dg 10000 y) (nl 10000 y) = (y : Int)) := val_nl 10000 y (by decide)
 have DX := dig_dg x (nl 10000 x)
 have DY := dig_dg y (nl 10000 y)
 generalize nl 10000 x = la at *
 generalize nl 10000 y = lb at *
 generalize hfx : dg 10000 x = fa at *
 generalize hfy : dg 10000 y = fb at *
 clear hfx hfy
 have H4 := show Hid (0 < la → ∃ b off,ao = some ⟨b,off,none⟩ ∧ Cells w .i64 b off la fa) from h4
 have K4 := show Hid (0 < lb → ∃ b off,bo = some ⟨b,off,none⟩ ∧ Cells w .i64 b off lb fb) from k4
 clear h4 k4
 go_enter Tryz.func97,Tryz.ntmps97
 go_wp2_with (at_make; refine wpList_make_full _ rfl _ _ 79 rfl _ 3 i0 (.int .i64 0) 1 Tryz.underlying79 hi hz0 hz1 _ _ _ _ (la + lb) rfl rfl (by omega) (by omega) (by rw [hz2]; omega) (by unfold maxLen; omega) (Nat.le_refl _) ?_; intro w1 hown hgrow)
 have hbl := below_grown hgrow
 obtain ⟨hc1,hs1⟩ := mine_made (k := .i64) (w := w) hown (fun _ => 0) (fun i hi => made_zero .i64 (la + lb) i hi)
 clear hown hgrow
 have hsz := hbl.size
 go_loopw [6] (fun v wr => ∃ (i : Nat) (h : Nat → Int),i ≤ la ∧ v = .int .i64 (i : Int) ∧ Cells wr .i64 w.heap.size 0 (la + lb) h ∧ Dig (la + lb) h ∧ (∀ p,i + lb ≤ p → h p = 0) ∧ val 10000 h (la + lb) = val 10000 fb lb * val 10000 fa i ∧ Soft wr w.heap.size 0 (la + lb) ∧ Below w.heap.size w wr) (fun v _ => la - (intOf v).toNat)
 case atStart => exact ⟨0,fun _ => 0,Nat.zero_le _,rfl,hc1,fun _ _ => ⟨Int.le_refl _,(by decide : (0 : Int) < ((10000 : Nat) : Int))⟩,fun _ _ => rfl,by rw [val_zero _ (fun _ _ => rfl)]; simp [val],hs1,hbl⟩
 case round =>
  obtain ⟨i,h,hi',rfl,hc,hd,hz,hv,hsf,hbel⟩ := hrel
  have hs := hbel.size
  by_cases hlt : i < la
  ·have HV : Hid (val 10000 h (la + lb) = val 10000 fb lb * val 10000 fa i) := hv
   have HZ : Hid (∀ p,i + lb ≤ p → h p = 0) := hz
   clear hv hz
   go_wp2
   go_loopw [7,8] (fun vc vj w2 => ∃ (j : Nat) (h2 : Nat → Int) (cr : Int),j ≤ lb ∧ vc = .int .i64 cr ∧ vj = .int .i64 (j : Int) ∧ 0 ≤ cr ∧ cr < 10000 ∧ Cells w2 .i64 w.heap.size 0 (la + lb) h2 ∧ Dig (la + lb) h2 ∧ (∀ p,i + j ≤ p → h2 p = h p) ∧
     val 10000 h2 (la + lb) + cr * ((10000 : Nat) : Int) ^ (i + j) = val 10000 h (la + lb) + fa i * val 10000 fb j * ((10000 : Nat) : Int) ^ i ∧ Soft w2 w.heap.size 0 (la + lb) ∧ Below w.heap.size w w2) (fun _ vj _ => lb - (intOf vj).toNat)
   case atStart => exact ⟨0,h,0,Nat.zero_le _,rfl,rfl,Int.le_refl _,by decide,hc,hd,fun _ _ => rfl,by simp [val],hsf,hbel⟩
   case round =>
    clear hc hsf hbel hs
    obtain ⟨j,h2,cr,hj,rfl,rfl,hcr0,hcr1,hc2,hd2,hs2,hv2,hsf2,hbel2⟩ := hrel
    have HV2 : Hid (val 10000 h2 (la + lb) + cr * ((10000 : Nat) : Int) ^ (i + j) = val 10000 h (la + lb) + fa i * val 10000 fb j * ((10000 : Nat) : Int) ^ i) := hv2
    have HS2 : Hid (∀ p,i + j ≤ p → h2 p = h p) := hs2
    clear hv2 hs2
    have hcg : i + j < la + lb → wr.cell? ⟨w.heap.size,i + j,none⟩ = some (.int .i64 (h2 (i + j))) := fun q => by have := hc2 (i + j) q; rw [Nat.zero_add] at this; exact this
    have hfr : i + j < la + lb → wr.frozen? ⟨w.heap.size,i + j,none⟩ = false := fun q => by have := hsf2 (i + j) q; rw [Nat.zero_add] at this; exact this
    by_cases hjl : j < lb
    ·obtain ⟨b1,o1,rfl,ha⟩ := H4.out (by omega)
     obtain ⟨b2,o2,rfl,hb⟩ := K4.out (by omega)
     have hca : wr.cell? ⟨b1,o1 + i,none⟩ = some (.int .i64 (fa i)) := (ha.below hbel2 (ha.lt (by omega))) i hlt
     have hcb : wr.cell? ⟨b2,o2 + j,none⟩ = some (.int .i64 (fb j)) := (hb.below hbel2 (hb.lt (by omega))) j hjl
     have bx := DX i hlt
     have by' := DY j hjl
     have bh := hd2 (i + j) (by omega)
     have hcg' := hcg (by omega)
     have hfr' := hfr (by omega)
     clear hcg hfr
     have hxy := mul_le_dig (fa i) (fb j) bx.1 (by omega) by'.1 (by omega)
     have i1 : (0 : Int) ≤ (i : Int) + (j : Int) := by omega
     have i2 : (i : Int) + (j : Int) < (la : Int) + (lb : Int) := by omega
     go_wp2
     go_quiet (fail)
     go_wp2
     go_roundw
     case rel =>
      have ht : cr + h2 (i + j) + fa i * fb j = cr + (fa i * fb j + h2 (i + j)) := by omega
      rw [ht]
      refine ⟨j + 1,put h2 (i + j) ((cr + (fa i * fb j + h2 (i + j))) % ((10000 : Nat) : Int)),(cr + (fa i * fb j + h2 (i + j))) / ((10000 : Nat) : Int),by omega,rfl,by go_num,by omega,by omega,?_,?_,?_,?_,?_,?_⟩
      ·have := hc2.set (i + j) (by omega) ((cr + (fa i * fb j + h2 (i + j))) % ((10000 : Nat) : Int)); rw [Nat.zero_add] at this; exact this
      ·exact put_bounds hd2 (by omega) (by omega)
      ·intro p hp; rw [put_other _ _ _ _ (by omega)]; exact HS2.out p (by omega)
      ·exact mul_step 10000 h2 h fb (la + lb) i j cr (fa i) _ (by omega) rfl HV2.out
      ·exact hsf2.set _ _
      ·exact (below_drewN hbel2 _).setCell (by simp) _
     case measure => simp [intOf]; omega
    ·have hjl' : j = lb := by omega
     subst hjl'
     have hcg' := hcg (by omega)
     have hfr' := hfr (by omega)
     clear hcg hfr
     have i1 : (0 : Int) ≤ (i : Int) + (j : Int) := by omega
     have i2 : (i : Int) + (j : Int) < (la : Int) + (j : Int) := by omega
     go_wp2
     go_roundw
     case rel =>
      refine ⟨i + 1,put h2 (i + j) cr,by omega,by go_num,?_,?_,?_,?_,?_,?_⟩
      ·have := hc2.set (i + j) (by omega) cr; rw [Nat.zero_add] at this; exact this
      ·exact put_bounds hd2 hcr0 (by omega)
      ·intro p hp; rw [put_other _ _ _ _ (by omega),HS2.out p (by omega)]; exact HZ.out p (by omega)
      ·exact mul_row_end 10000 h2 h fb fa (la + j) i j cr (by omega) (by rw [HS2.out _ (by omega)]; exact HZ.out _ (by omega)) HV2.out HV.out
      ·exact hsf2.set _ _
      ·exact hbel2.setCell (by simp) _
     case measure => simp [intOf]; omega
  ·have hia : i = la := by omega
   subst hia
   rw [VX.out,VY.out] at hv
   have HVV : Hid (val 10000 h (i + lb) = ((x * y : Nat) : Int)) := by show _ = _; rw [hv,Int.mul_comm]; simp
   clear hv hz
   have hN : Nums .i64 wr (.slice (some ⟨w.heap.size,0,none⟩) (i + lb) (i + lb)) (i + lb) h := ⟨_,_,rfl,Nat.le_refl _,by unfold LIM; omega,fun _ => ⟨_,_,rfl,hc⟩⟩
   go_wp2_with (go_at_call 124; refine (trim_any _ _ _ _ hN).mono ?_; rintro e w3 ⟨r,rfl,hr,rfl⟩)
   go_ret
   refine ⟨_,rfl,?_,hbel⟩
   rw [sz_val 10000 (by decide) h _ (x * y) hd HVV.out] at hr
   exact hr.congr (fun p hp => val_digit 10000 h _ (x * y) hd HVV.out p (Nat.lt_of_lt_of_le hp (by rw [← sz_val 10000 (by decide) h _ (x * y) hd HVV.out]; exact sz_le _ _)))

def hiNum (f : Nat → Int) (n k : Nat) : Nat := num (fun i => f (k + i)) (n - k)
theorem hiNum_all (f : Nat → Int) (n : Nat) : hiNum f n 0 = num f n := by
 unfold hiNum; simp
theorem hiNum_end (f : Nat → Int) (n : Nat) : hiNum f n n = 0 := by
 unfold hiNum num; simp [val]
theorem hiNum_step (f : Nat → Int) (n k : Nat) (h : k < n) : hiNum f n k = hiNum f n (k + 1) * 4294967296 + (f k % 4294967296).toNat := by
 have e1 := num_val (fun i => f (k + i)) (n - k)
 have e2 := num_val (fun i => f (k + 1 + i)) (n - (k + 1))
 unfold hiNum
 rw [show n - k = 1 + (n - (k + 1)) by omega,val_add] at e1
 have e3 : val W32 (fun i => lo (fun i => f (k + i)) (1 + i)) (n - (k + 1)) = val W32 (lo (fun i => f (k + 1 + i))) (n - (k + 1)) := val_congr _ (fun i _ => by simp only [lo]; rw [show k + (1 + i) = k + 1 + i by omega])
 rw [e3,e2] at e1
 simp only [val,lo] at e1
 rw [show 1 + (n - (k + 1)) = n - k by omega] at e1
 simp at e1
 omega
theorem hiNum_lt (f : Nat → Int) (n k : Nat) : hiNum f n k < W32 ^ (n - k) := num_lt _ _
theorem nl_small (x n : Nat) (h : x < W32 ^ n) : nl 10000 x ≤ 3 * n := by
 refine nl_le 10000 x (3 * n) (by decide) (Nat.lt_of_lt_of_le h ?_)
 rw [Nat.pow_mul]
 exact Nat.pow_le_pow_left (by decide) n
theorem below_of_drew {w w' : World} (h : Below w.drew.heap.size w.drew w') : Below w.heap.size w w' := ⟨h.os,h.tape,h.output,h.size,h.block⟩
set_option maxRecDepth 20000 in
set_option maxHeartbeats 2000000 in
theorem from_any (v : Value) (n : Nat) (f : Nat → Int) (w : World) (hv : Nums .u64 w v n f) (hf : U64 n f) (hn : n ≤ 1000) :
  Calls Tryz.prog 62 #[v] w fun e w' => ∃ r,e = .returned r ∧ RepD w' r (num f n) ∧ Below w.heap.size w w' := by
 obtain ⟨ao,c,rfl,hnc,hl,h4⟩ := hv
 go_enter Tryz.func62,Tryz.ntmps62
 go_wp2_with fail
 refine (small_any 4294967296 _ (by omega)).mono ?_
 rintro e w1 ⟨un,rfl,hun,hb1⟩
 have H4 := show Hid (0 < n → ∃ b off,ao = some ⟨b,off,none⟩ ∧ Cells w .u64 b off n f) from h4
 clear h4
 go_wp2
 go_loopw [3,5] (fun vo vi wr => ∃ k : Nat,k ≤ n ∧ vi = .int .i64 ((k : Int) - 1) ∧ RepD wr vo (hiNum f n k) ∧ RepD wr un 4294967296 ∧ Below w.heap.size w wr) (fun _ vi _ => (intOf vi + 1).toNat)
 case atStart => exact ⟨n,Nat.le_refl _,rfl,by rw [hiNum_end]; unfold RepD; rw [nl_zero]; exact Nums.nil _ _ _,hun,hb1⟩
 case round =>
  obtain ⟨k,hk,rfl,hvo,hun2,hbel⟩ := hrel
  cases k with
  | zero =>
   rw [hiNum_all] at hvo
   go_wp2
   go_ret
   exact ⟨_,rfl,hvo,hbel⟩
  | succ k =>
   obtain ⟨b,off,rfl,hc⟩ := H4.out (by omega)
   have hcell : wr.cell? ⟨b,off + k,none⟩ = some (.int .u64 (f k)) := (hc.below hbel (hc.lt (by omega))) k (by omega)
   have hblt : b < wr.heap.size := Nat.lt_of_lt_of_le (hc.lt (by omega)) hbel.size
   have hfk := hf k (by omega)
   have hm := and_mask (f k) hfk.1 hfk.2
   have hst : Hid (hiNum f n k = hiNum f n (k + 1) * 4294967296 + (f k % 4294967296).toNat) := hiNum_step f n k (by omega)
   have hb1 : nl 10000 (hiNum f n (k + 1)) ≤ 1000000 := Nat.le_trans (nl_small _ _ (hiNum_lt f n (k + 1))) (by omega)
   have hb2 : nl 10000 (hiNum f n (k + 1) * 4294967296) ≤ 1000000 := by
    have h1 := hiNum_lt f n (k + 1)
    have h2 : hiNum f n (k + 1) * 4294967296 < W32 ^ (n - (k + 1) + 1) := by rw [Nat.pow_succ]; exact Nat.mul_lt_mul_of_pos_right h1 (by decide)
    exact Nat.le_trans (nl_small _ _ h2) (by omega)
   have hb3 : nl 10000 4294967296 ≤ 1000000 := Nat.le_trans (nl_small 4294967296 2 (by decide)) (by omega)
   have hb4 : nl 10000 (f k % 4294967296).toNat ≤ 1000000 := Nat.le_trans (nl_small _ 1 (by unfold W32; omega)) (by omega)
   have hcast : f k % 4294967296 = ((f k % 4294967296).toNat : Int) := by omega
   have hlow : (f k % 4294967296).toNat < 4294967296 := by omega
   generalize hz : (f k % 4294967296).toNat = z at *
   rw [hcast] at hm
   clear hcast hz hfk
   generalize hiNum f n (k + 1) = X at *
   have e1 : (((k + 1 : Nat) : Int) - 1) = (k : Int) := by omega
   rw [e1]
   have hwz : Hid (IntKind.i64.wrap (z : Int) = (z : Int)) := by show _ = _; rw [IntKind.wrap_i64]; omega
   have i1 : (0 : Int) ≤ (k : Int) := by omega
   have i2 : (k : Int) < (n : Int) := by omega
   go_wp2
   go_region_held3 (fun w' => w'.cell? ⟨b,off + k,none⟩ = some (.int .u64 (f k))) (assumption) (first
    | (go_at_call 97; refine (times_any _ _ X 4294967296 _ (by exact hvo) (by exact hun2) hb1 hb3).mono ?_; rintro e w2 ⟨r2,rfl,hr2,hb2'⟩; have hc2 := (hb2'.cell (p := ⟨b,off + k,none⟩) hblt).trans hcell)
    | (go_at_call 92; rw [hwz.out]; refine (small_any z _ (by omega)).mono ?_; rintro e w3 ⟨r3,rfl,hr3,hb3'⟩; have hc3 := (hb3'.cell (p := ⟨b,off + k,none⟩) (Nat.lt_of_lt_of_le hblt hb2'.size)).trans hc2)
    | (go_at_call 96; refine (plus_any _ _ (X * 4294967296) z _ (hr2.below hb3') hr3 hb2 hb4).mono ?_; rintro e w4 ⟨r4,rfl,hr4,hb4'⟩; have hc4 := (hb4'.cell (p := ⟨b,off + k,none⟩) (Nat.lt_of_lt_of_le hblt (Nat.le_trans hb2'.size hb3'.size))).trans hc3))
   go_wp2
   go_roundw
   case rel =>
    have s2 : wr.heap.size ≤ w2.heap.size := hb2'.size
    have s3 := hb3'.size
    have hB4 : Below wr.heap.size wr w4 := Below.trans (b := w2) (below_of_drew hb2') ((hb3'.mono s2).trans (hb4'.mono (Nat.le_trans s2 s3)))
    refine ⟨k,by omega,rfl,by rw [hst.out]; exact hr4,hun2.below hB4,hbel.trans (hB4.mono hbel.size)⟩
   case measure => simp [intOf]
theorem cmpI_zero (a b : Int) : (cmpI a b == 0) = decide (a = b) := by
 rcases (show a < b ∨ a = b ∨ b < a by omega) with h | h | h
 ·rw [cmpI_lt h]; simp; omega
 ·rw [cmpI_eq h]; simp [h]
 ·rw [cmpI_gt h]; simp; omega

end Go.Proofs.YtbbliiafkjipbaaGreatDoor
