/-
  Texts of mine.
-/
import Derived.Test.YtbbliiafkjipbaaGreatDoorJ41d3a2622d
import Derived.Test.YtbbliiafkjipbaaGreatDoorJc5620859d3
import Derived.Laws.AppendOwnNone
namespace Go.Proofs.YtbbliiafkjipbaaGreatDoor
open Go.RowKit
theorem over_digit (x y i : Nat) (hy : 0 < y) : (x / 10000 ^ (i + 1) % y * 10000 + (dg 10000 x i).toNat) / y < 10000 ∧ dg 10000 (x / y) i = (((x / 10000 ^ (i + 1) % y * 10000 + (dg 10000 x i).toNat) / y : Nat) : Int) ∧
  (x / 10000 ^ (i + 1) % y * 10000 + (dg 10000 x i).toNat) % y = x / 10000 ^ i % y ∧ x / 10000 ^ (i + 1) % y * 10000 + (dg 10000 x i).toNat < y * 10000 := by
 have e0 : (dg 10000 x i).toNat = x / 10000 ^ i % 10000 := by unfold dg; rw [Int.toNat_natCast]
 have e1 : x / 10000 ^ (i + 1) = x / 10000 ^ i / 10000 := by rw [Nat.pow_succ,Nat.div_div_eq_div_mul]
 have e2 : x / y / 10000 ^ i = x / 10000 ^ i / y := by rw [Nat.div_div_eq_div_mul,Nat.div_div_eq_div_mul,Nat.mul_comm]
 unfold dg
 rw [Int.toNat_natCast,e1,e2]
 generalize x / 10000 ^ i = X
 have h1 := Nat.div_add_mod X 10000
 have h2 := Nat.div_add_mod (X / 10000) y
 have h3 := Nat.mod_lt (X / 10000) hy
 have h4 := Nat.mod_lt X (show 10000 > 0 by omega)
 generalize X % 10000 = d at *
 generalize hR : X / 10000 % y = R at *
 generalize hQ : X / 10000 / y = Q at *
 have hN : X = y * (Q * 10000) + (R * 10000 + d) := by
  rw [← Nat.mul_assoc]
  have : y * Q * 10000 + R * 10000 = (y * Q + R) * 10000 := by rw [Nat.add_mul]
  omega
 have hlt : R * 10000 + d < y * 10000 := by omega
 have hq : (R * 10000 + d) / y < 10000 := Nat.div_lt_of_lt_mul hlt
 refine ⟨hq,?_,?_,hlt⟩
 ·rw [hN,Nat.mul_add_div hy]
  generalize (R * 10000 + d) / y = q at *
  congr 1
  omega
 ·rw [hN,Nat.mul_add_mod]
theorem wpList_append_nums {ops : Array Oper} {rest : List Oper} {o : Oper} {a : Act} {Q : Exit → Act → World → Prop} {w : World} (hgd : o.guard = none) (s x : Operand)
  (ho : o.op = .call { callee := .builtin .append,args := #[s,x],argTypes := #[79,79] })
  (base : Nat) (v : Value) (n : Nat) (xs : List Value) (hs : a.eval s = v) (hown : w.ownsRow base 3 1 v n xs)
  (r : Value) (m : Nat) (f : Nat → Int) (hx : a.eval x = r) (hr : Nums .i64 w r m f) (hnil : NilC r)
  (h63 : n + m ≤ 1000000000) (hbase : base ≤ w.heap.size)
  (h : ∀ v' w',w'.ownsRow base 3 1 v' (n + m) (xs ++ valsOf .i64 f m) → w.grownBy w' v.ownBlock → wpList Tryz.prog ops Q rest (a.put o.dst v') w') : wpList Tryz.prog ops Q (o :: rest) a w := by
 obtain ⟨i0,hi,hz0,hz1,hz2⟩ := info_parts info_int
 obtain ⟨ao,c,rfl,_,_,h4⟩ := hr
 cases ao with
 | none =>
  have hm : m = 0 := by
   rcases Nat.eq_zero_or_pos m with e | e
   ·exact e
   ·obtain ⟨_,_,h,_⟩ := h4 e; cases h
  subst hm
  have hc : c = 0 := hnil _ _ rfl
  subst hc
  refine wpList_append_own_none hgd s x 79 ho base 3 i0 1 Tryz.underlying79 hi v n xs hs hown hx ?_
  refine h v w ?_ (grown_refl _ _)
  simpa [valsOf] using hown
 | some ad =>
  refine wpList_append_own w hgd s x 79 ho base 3 i0 (.int .i64 0) 1 8 Tryz.underlying79 hi hz0 hz1 hz2 rfl (by decide) v n xs hs hown ad m c (valsOf .i64 f m) hx (by rw [valsOf_length]; omega) ?_ (vals_one _ _ _) (by unfold maxLen; omega) (by omega) hbase (fun v' w' h1 h2 _ => h v' w' h1 h2)
  intro j u hj
  have hjm : j < m := by
   by_cases g : j < m
   ·exact g
   ·rw [List.getElem?_eq_none (by rw [valsOf_length]; omega)] at hj; cases hj
  rw [valsOf_at _ _ _ _ hjm] at hj
  obtain ⟨b,off,e,hc⟩ := h4 (by omega)
  cases e
  have e : (⟨b,off,none⟩ : Addr).add j = ⟨b,off + j,none⟩ := by unfold Addr.add; split <;> simp_all
  rw [e,← hj]
  exact hc j hjm
def ahead (d : Int) (f : Nat → Int) : Nat → Int := fun i => if i = 0 then d else f (i - 1)
theorem valsOf_ahead (k : IntKind) (d : Int) (f : Nat → Int) (m : Nat) : [Value.int k d] ++ valsOf k f m = valsOf k (ahead d f) (1 + m) := by
 apply List.ext_getElem?
 intro i
 by_cases hi : i < 1 + m
 ·rw [valsOf_at _ _ _ _ hi]
  cases i with
  | zero => simp [ahead]
  | succ i => rw [List.singleton_append,List.getElem?_cons_succ,valsOf_at _ _ _ _ (by omega)]; simp [ahead]
 ·rw [List.getElem?_eq_none (by simp [valsOf_length]; omega),List.getElem?_eq_none (by rw [valsOf_length]; omega)]
theorem val_ahead (B : Nat) (d : Int) (f : Nat → Int) (m : Nat) : val B (ahead d f) (1 + m) = d + val B f m * B := by
 rw [val_add]; simp [val,ahead,Int.pow_succ]
theorem nl_mul_small (N y k : Nat) (h : N < y * 10000) (hy : nl 10000 y ≤ k) : nl 10000 N ≤ k + 1 := by
 refine nl_le 10000 _ _ (by decide) (Nat.lt_of_lt_of_le h ?_)
 rw [Nat.pow_succ]
 exact Nat.mul_le_mul_right _ (Nat.le_of_lt (Nat.lt_of_lt_of_le (lt_pow_nl 10000 y (by decide)) (Nat.pow_le_pow_right (by decide) hy)))
set_option maxRecDepth 20000 in
set_option maxHeartbeats 4000000 in
theorem over_any (u v : Value) (x y : Nat) (w : World) (hu : RepD w u x) (hv : RepD w v y) (hy : 0 < y) (hlx : nl 10000 x ≤ 400000) (hly : nl 10000 y ≤ 400000) :
  Calls Tryz.prog 122 #[u,v] w fun e w' => ∃ q r,e = .returned (.tuple #[q,r]) ∧ RepD w' q (x / y) ∧ RepD w' r (x % y) ∧ Below w.heap.size w w' := by
 obtain ⟨i0,hi,hz0,hz1,hz2⟩ := info_parts info_int
 obtain ⟨ao,c,rfl,hnc,hl,h4⟩ := hu
 have HXL : Hid (x < 10000 ^ nl 10000 x) := lt_pow_nl 10000 x (by decide)
 have HNL : Hid (nl 10000 y ≤ 400000) := hly
 clear hly
 generalize nl 10000 x = n at *
 have H4 := show Hid (0 < n → ∃ b off,ao = some ⟨b,off,none⟩ ∧ Cells w .i64 b off n (dg 10000 x)) from h4
 clear h4
 go_enter Tryz.func122,Tryz.ntmps122
 go_wp2_with (at_make; refine wpList_make_full _ rfl _ _ 79 rfl _ 3 i0 (.int .i64 0) 1 Tryz.underlying79 hi hz0 hz1 _ _ _ _ n rfl rfl (by omega) (by omega) (by rw [hz2]; omega) (by unfold maxLen; omega) (Nat.le_refl _) ?_; intro w1 hown hgrow)
 have hb1 := below_grown hgrow
 obtain ⟨hc1,hs1⟩ := mine_made (k := .i64) (w := w) hown (fun _ => 0) (fun i hi => made_zero .i64 n i hi)
 clear hown hgrow
 go_loopw [7,8] (fun vr vi wr => ∃ (k : Nat) (g : Nat → Int),k ≤ n ∧ vi = .int .i64 ((k : Int) - 1) ∧ RepD wr vr (x / 10000 ^ k % y) ∧ NilC vr ∧ Cells wr .i64 w.heap.size 0 n g ∧ Soft wr w.heap.size 0 n ∧ (∀ j,k ≤ j → j < n → g j = dg 10000 (x / y) j) ∧ Below w.heap.size w wr) (fun _ vi _ => (intOf vi + 1).toNat)
 case atStart =>
  refine ⟨n,fun _ => 0,Nat.le_refl _,rfl,?_,fun _ _ h => by (cases h; rfl),hc1,hs1,fun j h1 h2 => by omega,hb1⟩
  rw [Nat.div_eq_of_lt HXL.out,Nat.zero_mod]
  unfold RepD; rw [nl_zero]; exact Nums.nil _ _ _
 case round =>
  clear hc1 hs1 hb1
  obtain ⟨k,g,hk,rfl,hr,hnil,hcg,hsg,hgd,hbel⟩ := hrel
  have hsz := hbel.size
  have HG : Hid (∀ j,k ≤ j → j < n → g j = dg 10000 (x / y) j) := hgd
  clear hgd
  cases k with
  | zero =>
   have hN : Nums .i64 wr (.slice (some ⟨w.heap.size,0,none⟩) n n) n g := ⟨_,_,rfl,Nat.le_refl _,hl,fun _ => ⟨_,_,rfl,hcg⟩⟩
   have hq : x / y < 10000 ^ n := Nat.lt_of_le_of_lt (Nat.div_le_self _ _) HXL.out
   have hnq : Hid (nl 10000 (x / y) = sz g n) := by
    show _ = _
    rw [nl_spec 10000 _ n (by decide) hq]
    exact sz_congr n (fun i hi => (HG.out i (Nat.zero_le _) hi).symm)
   rw [Nat.pow_zero,Nat.div_one] at hr
   clear hq
   go_wp2_with (go_at_call 124; refine (trim_any _ _ _ _ hN).mono ?_; rintro e w3 ⟨q,rfl,hq,hw3⟩; subst hw3)
   go_ret2
   refine ⟨_,_,rfl,?_,hr,hbel⟩
   unfold RepD
   rw [hnq.out]
   exact hq.congr (fun i hi => HG.out i (Nat.zero_le _) (Nat.lt_of_lt_of_le hi (sz_le _ _)))
  | succ i =>
   have e1 : (((i + 1 : Nat) : Int) - 1) = (i : Int) := by omega
   rw [e1]
   obtain ⟨b,off,rfl,hc⟩ := H4.out (by omega)
   have hblt := hc.lt (by omega)
   have hcell := (hc.below hbel hblt) i (by omega)
   obtain ⟨o1,o2,o3,o4⟩ := over_digit x y i hy
   have hd0 := dg_bounds 10000 x i (by decide)
   have hRy : x / 10000 ^ (i + 1) % y < y := Nat.mod_lt _ hy
   have hVR := val_dg_ge (x / 10000 ^ (i + 1) % y) _ (Nat.le_refl _)
   have hnR : nl 10000 (x / 10000 ^ (i + 1) % y) ≤ 400000 := Nat.le_trans (nl_le 10000 _ _ (by decide) (Nat.lt_trans hRy (lt_pow_nl 10000 y (by decide)))) HNL.out
   have O3 : Hid ((x / 10000 ^ (i + 1) % y * 10000 + (dg 10000 x i).toNat) % y = x / 10000 ^ i % y) := o3
   have O2 : Hid (dg 10000 (x / y) i = (((x / 10000 ^ (i + 1) % y * 10000 + (dg 10000 x i).toNat) / y : Nat) : Int)) := o2
   clear o2 o3
   generalize x / 10000 ^ (i + 1) % y = R at *
   unfold RepD at hr
   have hdig : Dig (nl 10000 R) (dg 10000 R) := dig_dg R _
   generalize nl 10000 R = m at *
   generalize dg 10000 x i = d at *
   go_wp2_with (at_builtin; refine wpList_append_own _ rfl _ _ 79 rfl wr.heap.size 3 i0 (.int .i64 0) 1 8 Tryz.underlying79 hi hz0 hz1 hz2 rfl (by decide) _ 0 [] rfl (World.ownsRow_nil _ _ _ _) ⟨wr.heap.size,0,none⟩ 1 1 [.int .i64 d] rfl rfl (cell_one_new _ _ _) ?c1 (by unfold maxLen; omega) (by omega) (by simp) ?_)
   case c1 => intro u hu; simp at hu; subst hu; rfl
   intro v1 w2 hown1 hgrow1 _
   have hb2 : Below wr.heap.size wr w2 := ((Below.refl _ wr).alloc (Nat.le_refl _) _).grown hgrow1 (by simp) (fun k e => by cases e)
   clear hgrow1
   have hs2 := hb2.size
   go_wp2_with (at_builtin; refine wpList_append_nums rfl _ _ rfl wr.heap.size _ _ _ rfl hown1 _ m (dg 10000 R) rfl (hr.below hb2) hnil (by omega) (by omega) ?_)
   intro v2 w3 hown2 hgrow2
   have hb3 : Below wr.heap.size wr w3 := hb2.grown hgrow2 (by omega) (fun k e => (World.ownsRow.lt hown1 _ e).1)
   rw [← List.singleton_append,valsOf_ahead] at hown2
   have hN2 : Nums .i64 w3 v2 (1 + m) (ahead d (dg 10000 R)) := owns_nums hown2 (by unfold LIM; omega)
   have hnil2 := nilC_owns hown2
   have hat2 : ∀ a m c,v2 = .slice (some a) m c → wr.heap.size ≤ a.block := by
    intro a m c h
    rcases hown2.2 with ⟨h',_⟩ | ⟨g,cap,cur,h',hg,_⟩
    ·rw [h'] at h; cases h
    ·rw [h'] at h; cases h; exact hg
   clear hgrow2 hown1 hown2
   have hdg2 : Dig (1 + m) (ahead d (dg 10000 R)) := by
    intro j hj
    unfold ahead
    split
    ·exact hd0
    ·exact hdig (j - 1) (by omega)
   have hval2 : val 10000 (ahead d (dg 10000 R)) (1 + m) = ((R * 10000 + d.toNat : Nat) : Int) := by
    rw [val_ahead,hVR]; omega
   have hnn := sz_val 10000 (by decide) _ _ _ hdg2 hval2
   have hdd := val_digit 10000 _ _ _ hdg2 hval2
   have hnN : nl 10000 (R * 10000 + d.toNat) ≤ 1000000 := by have := nl_mul_small _ y 400000 o4 HNL.out; omega
   have hN3 : (∀ v',Nums .i64 w3 v' (sz (ahead d (dg 10000 R)) (1 + m)) (ahead d (dg 10000 R)) → RepD w3 v' (R * 10000 + d.toNat)) := by
    intro v' h
    unfold RepD
    rw [hnn] at h
    exact h.congr (fun j hj => hdd j (Nat.lt_of_lt_of_le hj (by rw [← hnn]; exact sz_le _ _)))
   have HN3 : Hid (∀ v',Nums .i64 w3 v' (sz (ahead d (dg 10000 R)) (1 + m)) (ahead d (dg 10000 R)) → RepD w3 v' (R * 10000 + d.toNat)) := hN3
   have hs3 := hb3.size
   clear hN3 hdd hnn hval2 hdg2 hVR hdig hr
   generalize R * 10000 + d.toNat = N at *
   go_wp2_with fail
   refine (trim_nil _ _ _ _ hN2).mono ?_
   rintro e w4 ⟨rN,rfl,hrN,hnilN,hsame,hw4⟩
   subst hw4
   have hNr := HN3.out _ hrN
   have hnN2 := hnilN hnil2
   have hat : Hid (∀ b o m c,rN = .slice (some ⟨b,o,none⟩) m c → b ≠ w.heap.size) := by
    intro b o m c h
    obtain ⟨_,_,h'⟩ := hsame _ _ _ h
    have := hat2 _ _ _ h'
    have := hcg.lt (show 0 < n by omega)
    simp at *; omega
   clear hat2 hsame
   clear HN3 hrN hnilN hN2 hnil2 hnil
   have hvw : RepD w4 v y := hv.below (hbel.trans (hb3.mono hsz))
   have hlt0 := hcg.lt (show 0 < n by omega)
   have hcg4 := hcg.below hb3 hlt0
   have hsg4 := hsg.below hb3 hlt0
   have hlt4 : w.heap.size < w4.heap.size := Nat.lt_of_lt_of_le hlt0 hs3
   have bel4 : Below w.heap.size w w4 := hbel.trans (hb3.mono hsz)
   clear hcg hsg hcell hb2 hb3 hbel
   have hyN : nl 10000 y ≤ 1000000 := Nat.le_trans HNL.out (by omega)
   go_wp2
   go_loopw [10,11] (fun vl vh w5 => ∃ (l h : Nat),vl = .int .i64 (l : Int) ∧ vh = .int .i64 (h : Int) ∧ l < h ∧ h ≤ 10000 ∧ y * l ≤ N ∧ N < y * h ∧ Below w4.heap.size w4 w5) (fun vl vh _ => (intOf vh - intOf vl).toNat)
   case atStart => exact ⟨0,10000,rfl,rfl,by omega,by omega,by omega,o4,Below.refl _ _⟩
   case round =>
    obtain ⟨l,h,rfl,rfl,hlh,hh,hl1,hl2,hb5⟩ := hrel
    have HL1 : Hid (y * l ≤ N) := hl1
    have HL2 : Hid (N < y * h) := hl2
    clear hl1 hl2
    have hs5 := hb5.size
    by_cases hgt : 1 < h - l
    ·obtain ⟨M,hM⟩ : ∃ M,M = (l + h) / 2 := ⟨_,rfl⟩
     have hmi : ((l : Int) + (h : Int)) / 2 = (M : Int) := by omega
     have hMl : l < M ∧ M < h := by omega
     have hgi : (1 : Int) < (h : Int) - (l : Int) := by omega
     have hnM : nl 10000 M ≤ 1000000 := Nat.le_trans (nl_le 10000 M 2 (by decide) (by omega)) (by omega)
     clear hM
     go_wp2_with fail
     refine (small_any M _ (by omega)).mono ?_
     rintro e w6 ⟨r6,rfl,hr6,hb6⟩
     have hs6 := hb6.size
     go_wp2_with fail
     refine (times_any _ _ y M _ ((hvw.below hb5).below hb6) hr6 hyN hnM).mono ?_
     rintro e w7 ⟨r7,rfl,hr7,hb7⟩
     have hs7 := hb7.size
     go_wp2_with fail
     refine (order_any _ _ _ _ _ hr7 (((hNr.below hb5).below hb6).below hb7)).mono ?_
     rintro e w8 ⟨rfl,hb8⟩
     have B8 : Below w4.heap.size w4 w8 := hb5.trans ((hb6.mono hs5).trans ((hb7.mono (by omega)).trans (hb8.mono (by omega))))
     clear hb5 hb6 hb7 hb8 hr6 hr7
     by_cases hle : y * M ≤ N
     ·have hci : cmpI ((y * M : Nat) : Int) (N : Int) ≤ 0 := by unfold cmpI; split <;> (try split) <;> omega
      have HLE : Hid (y * M ≤ N) := hle
      clear hle
      generalize cmpI ((y * M : Nat) : Int) (N : Int) = C at *
      go_wp2
      go_roundw
      case rel => exact ⟨M,h,rfl,rfl,hMl.2,hh,HLE.out,HL2.out,B8⟩
      case measure => simp [intOf]; omega
     ·have hci : ¬ cmpI ((y * M : Nat) : Int) (N : Int) ≤ 0 := by unfold cmpI; rw [if_neg (by omega),if_pos (by omega)]; omega
      have HLE : Hid (N < y * M) := by show _ < _; omega
      clear hle
      generalize cmpI ((y * M : Nat) : Int) (N : Int) = C at *
      go_wp2
      go_roundw
      case rel => exact ⟨l,M,rfl,rfl,hMl.1,by omega,HL1.out,HLE.out,B8⟩
      case measure => simp [intOf]; omega
    ·have hh1 : h = l + 1 := by omega
     subst hh1
     have hgi : ¬ (1 : Int) < ((l + 1 : Nat) : Int) - (l : Int) := by omega
     have hlq : N / y = l := by
      have h1 := HL1.out
      have h2 := HL2.out
      refine Nat.div_eq_of_lt_le (by rw [Nat.mul_comm]; exact h1) (by rw [Nat.mul_comm]; exact h2)
     have hlm : Hid (N - y * l = N % y) := by
      show _ = _
      have := Nat.div_add_mod N y
      rw [hlq] at this; omega
     have HLQ : Hid (N / y = l) := hlq
     clear hlq
     have B5 : Below w.heap.size w wr := bel4.trans (hb5.mono bel4.size)
     have hcg5 := hcg4.below hb5 hlt4
     have hsg5 := hsg4.below hb5 hlt4
     have hce := hcg5 i (by omega)
     have hfr := hsg5 i (by omega)
     rw [Nat.zero_add] at hce hfr
     have hset := hcg5.set i (by omega) (l : Int)
     rw [Nat.zero_add] at hset
     have hne : w.heap.size ≠ w4.heap.size := by omega
     have bSet : Below w.heap.size w (wr.setCell ⟨w.heap.size,i,none⟩ (.int .i64 (l : Int))) := B5.setCell (by simp) _
     have hnl : nl 10000 l ≤ 1000000 := Nat.le_trans (nl_le 10000 l 2 (by decide) (by omega)) (by omega)
     have hNs : RepD (wr.setCell ⟨w.heap.size,i,none⟩ (.int .i64 (l : Int))) rN N := by
      refine Nums.upd (b := w.heap.size) (off := i) (m := 1) (hNr.below hb5) ?_ (fun b o c h _ => hat.out b o _ c h)
      have := Upd.set (w := wr) (b := w.heap.size) (off := i) (n := 1) 0 (by omega) (.int .i64 (l : Int))
      rw [Nat.add_zero] at this; exact this
     have hvs : RepD (wr.setCell ⟨w.heap.size,i,none⟩ (.int .i64 (l : Int))) v y := hv.below bSet
     have hsf := hsg5.set ⟨w.heap.size,i,none⟩ (.int .i64 (l : Int))
     have hls : w.heap.size < wr.heap.size := Nat.lt_of_lt_of_le hlt4 hs5
     generalize hW : wr.setCell ⟨w.heap.size,i,none⟩ (.int .i64 (l : Int)) = wS at *
     have hWS : wr.heap.size = wS.heap.size := by rw [← hW]; simp
     go_wp2_with fail
     refine (small_any l _ (by omega)).mono ?_
     rintro e w6 ⟨r6,rfl,hr6,hb6⟩
     have hs6 := hb6.size
     go_wp2_with fail
     refine (times_any _ _ y l _ (hvs.below hb6) hr6 hyN hnl).mono ?_
     rintro e w7 ⟨r7,rfl,hr7,hb7⟩
     have hs7 := hb7.size
     go_wp2_with fail
     refine (minus_nil _ _ _ _ _ ((hNs.below hb6).below hb7) hr7 hnN HL1.out).mono ?_
     rintro e w8 ⟨r8,rfl,hr8,hnil8,hb8⟩
     rw [hlm.out,O3.out] at hr8
     have B8 : Below wS.heap.size wS w8 := hb6.trans ((hb7.mono hs6).trans (hb8.mono (by omega)))
     have hcg8 := hset.below B8 (by omega)
     have hsg8 := hsf.below B8 (by omega)
     have bel8 : Below w.heap.size w w8 := bSet.trans (B8.mono bSet.size)
     clear hr6 hr7 hb6 hb7 hb8 hNs hvs hset hsf
     go_wp2
     go_roundw
     case rel =>
      refine ⟨i,put g i (l : Int),by omega,by go_num,hr8,hnil8,hcg8,hsg8,?_,bel8⟩
      intro j h1 h2
      by_cases e : j = i
      ·subst e; rw [put_same,O2.out,HLQ.out]
      ·rw [put_other _ _ _ _ e]; exact HG.out j (by omega) h2
     case measure => simp [intOf]
end Go.Proofs.YtbbliiafkjipbaaGreatDoor
