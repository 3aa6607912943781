/-
  Texts of mine, joined: what lies beneath the statement.
-/
import Derived.Test.YtpgioggbepdjpaaGreatDoorJd4d00e2b78
import Derived.Test.YtpgioggbepdjpaaGreatDoorJaaee091545
import Derived.Deep.LoopGhost
import Derived.Test.YtpgioggbepdjpaaGreatDoorJc6147c59cf
import Derived.Deep.Cut
import Derived.Test.YtpgioggbepdjpaaGreatDoorJd816751f58
import Derived.Test.YtpgioggbepdjpaaGreatDoorJ4730cda266
import Derived.Test.YtpgioggbepdjpaaGreatDoorJaa957d5392
namespace Go.Proofs.YtpgioggbepdjpaaGreatDoor
open Go.RowKit
set_option linter.unusedVariables false
set_option linter.unusedSimpArgs false
def shortN : Nat → Nat → Nat → Nat → Nat → List Nat
 | 0,_,_,_,_ => []
 | k + 1,n,d,m,e => if n % d = 0 then [n / d] else if n / d < m / e then [n / d + 1] else n / d :: shortN k e (m % e) d (n % d)
theorem short_next (n d m e : Nat) (hd : 0 < d) (he : 0 < e) (h : n * e ≤ m * d) (h0 : n % d ≠ 0) (hl : ¬ n / d < m / e) : 0 < m % e ∧ e * (n % d) ≤ d * (m % e) := by
 have h1 := Nat.div_add_mod n d
 have h2 := Nat.div_add_mod m e
 have h3 := Nat.mod_lt n hd
 have h4 := Nat.mod_lt m he
 have key : e * (n % d) ≤ d * (m % e) := by
  generalize n / d = A at *
  generalize m / e = C at *
  generalize n % d = r at *
  generalize m % e = s at *
  subst h1 h2
  obtain ⟨k,rfl⟩ : ∃ k,A = C + k := ⟨A - C,by omega⟩
  have e1 : (d * (C + k) + r) * e = d * C * e + d * k * e + r * e := by grind
  have e2 : (e * C + s) * d = d * C * e + s * d := by grind
  rw [e1,e2] at h
  have e3 : r * e = e * r := Nat.mul_comm _ _
  have e4 : s * d = d * s := Nat.mul_comm _ _
  omega
 refine ⟨?_,key⟩
 have : 0 < e * (n % d) := Nat.mul_pos he (by omega)
 rcases Nat.eq_zero_or_pos (m % e) with g | g
 ·rw [g] at key; omega
 ·exact g
theorem nl_mod (x y L : Nat) (hy : 0 < y) (h : nl W32 y ≤ L) : nl W32 (x % y) ≤ L := Nat.le_trans (nl_mono W32 _ _ (by decide) (Nat.le_of_lt (Nat.mod_lt x hy))) h
theorem nl_quo (x y L : Nat) (h : nl W32 x ≤ L) : nl W32 (x / y) ≤ L := Nat.le_trans (nl_mono W32 _ _ (by decide) (Nat.div_le_self x y)) h
theorem getD_mid (acc rest : List Nat) (x : Nat) : (acc ++ x :: rest).getD acc.length 0 = x := by simp [List.getD]
theorem nl_next (A L : Nat) (h : nl W32 A ≤ L) : nl W32 ((A : Int) + 1).natAbs ≤ L + 1 := by
 rw [show ((A : Int) + 1).natAbs = A + 1 by omega]
 exact Nat.le_trans (nl_succ A) (by omega)
theorem short_fuel : ∀ (k j n d m e : Nat),0 < d → 0 < e → n * e ≤ d * m → d + e ≤ k → d + e ≤ j → shortN k n d m e = shortN j n d m e := by
 intro k
 induction k with
 | zero => intro j n d m e hd he h h1 h2; omega
 | succ k ih =>
  intro j n d m e hd he h h1 h2
  obtain ⟨j,rfl⟩ : ∃ i,j = i + 1 := ⟨j - 1,by omega⟩
  show (if n % d = 0 then [n / d] else if n / d < m / e then [n / d + 1] else n / d :: shortN k e (m % e) d (n % d)) = (if n % d = 0 then [n / d] else if n / d < m / e then [n / d + 1] else n / d :: shortN j e (m % e) d (n % d))
  by_cases a : n % d = 0
  ·rw [if_pos a,if_pos a]
  ·rw [if_neg a,if_neg a]
   by_cases b : n / d < m / e
   ·rw [if_pos b,if_pos b]
   ·rw [if_neg b,if_neg b]
    obtain ⟨s0,sn⟩ := short_next n d m e hd he (by rw [Nat.mul_comm m d]; exact h) a b
    have q1 := Nat.mod_lt n hd
    have q2 := Nat.mod_lt m he
    rw [ih j e (m % e) d (n % d) s0 (by omega) (by rw [Nat.mul_comm (m % e) d]; exact sn) (by omega) (by omega)]
set_option maxRecDepth 20000 in
set_option maxHeartbeats 4000000 in
theorem shortest_at (u0 u1 u2 u3 : Value) (n d m e L : Nat) (w : World) (h0 : NatAt w u0 n L) (h1 : NatAt w u1 d L) (h2 : NatAt w u2 m L) (h3 : NatAt w u3 e L) (hL : L ≤ 100000) (hd : 0 < d) (he : 0 < e) (hle : n * e ≤ m * d)
  (tot : List Nat) (htot : tot = shortN (d + e) n d m e) (hlen : tot.length ≤ 100000) :
  Calls Tryz.prog 57 #[u0,u1,u2,u3] w fun e w' => ∃ r,e = .returned r ∧ IRow w' r tot.length (fun i => ((tot.getD i 0 : Nat) : Int)) (L + 1) ∧ Below w.heap.size w w' := by
 have HT : Hid (tot = [] ++ shortN (d + e) n d m e) := by show _ = _; rw [htot]; rfl
 clear htot
 go_enter Tryz.func57,Tryz.ntmps57
 go_wp2
 go_loopg [0,1,2,3,9] (d + e) (fun k a b c f o wr => ∃ (n d m e : Nat) (acc : List Nat),k = d + e ∧ NatAt wr a n L ∧ NatAt wr b d L ∧ NatAt wr c m L ∧ NatAt wr f e L ∧ 0 < d ∧ 0 < e ∧ n * e ≤ m * d ∧ Hid (tot = acc ++ shortN (d + e) n d m e) ∧ IOwn w.heap.size wr o acc.length (fun i => ((tot.getD i 0 : Nat) : Int)) (L + 1) ∧ Below w.heap.size w wr)
 case atStart => exact ⟨n,d,m,e,[],rfl,h0,h1,h2,h3,hd,he,hle,HT,IOwn.nil _ _ _ _,Below.refl _ _⟩
 case round =>
  clear h0 h1 h2 h3 HT hle hd he
  obtain ⟨n,d,m,e,acc,hk,h0,h1,h2,h3,hd,he,hle,HT,O,BB⟩ := hrel
  have HK : Hid (gk = d + e) := hk
  clear hk
  have l0 := h0.nl
  have l1 := h1.nl
  have l2 := h2.nl
  have l3 := h3.nl
  have HS : Hid (shortN (d + e) n d m e = if n % d = 0 then [n / d] else if n / d < m / e then [n / d + 1] else n / d :: shortN (d + e - 1) e (m % e) d (n % d)) := by
   show _ = _
   obtain ⟨k,hk⟩ : ∃ k,d + e = k + 1 := ⟨d + e - 1,by omega⟩
   rw [hk]; rfl
  have hml := Nat.mod_lt n hd
  have hmr := Nat.mod_lt m he
  have HN : Hid (n % d ≠ 0 → ¬ n / d < m / e → 0 < m % e ∧ e * (n % d) ≤ d * (m % e)) := fun a b => short_next n d m e hd he hle a b
  have q0 := nl_quo n d L l0
  have r0 := nl_mod n d L hd l1
  have q1 := nl_quo m e L l2
  have r1 := nl_mod m e L he l3
  clear hle
  go_wp2_with fail
  refine (ndiv_at _ _ _ _ _ L _ h0 h1 (by omega) hd).mono ?_
  rintro e w1 ⟨lv,rv,rfl,hlo,hle,b1⟩
  replace h0 := h0.below b1
  replace h1 := h1.below b1
  replace h2 := h2.below b1
  replace h3 := h3.below b1
  replace O := O.below b1
  replace BB := BB.trans (b1.mono BB.size)
  clear b1
  go_wp2_with fail
  refine (ndiv_at _ _ _ _ _ L _ h2 h3 (by omega) he).mono ?_
  rintro e w2 ⟨hv,sv,rfl,hhi,hri,b2⟩
  replace h0 := h0.below b2
  replace h1 := h1.below b2
  replace h2 := h2.below b2
  replace h3 := h3.below b2
  replace O := O.below b2
  replace hlo := hlo.below b2
  replace hle := hle.below b2
  replace BB := BB.trans (b2.mono BB.size)
  clear b2
  obtain ⟨la,ln,lc,rfl⟩ := hlo.open
  go_wp2_with fail
  generalize n / d = A at *
  generalize m / e = C at *
  generalize n % d = r at *
  generalize m % e = s at *
  refine (nat_zero_rep hle).mono ?_
  rintro e wx ⟨rfl,hwx⟩
  replace hwx := hwx.symm
  subst hwx
  by_cases hr0 : r = 0
  ·rw [decide_eq_true hr0]
   rw [HS.out,if_pos hr0] at HT
   have htl : tot.length = acc.length + 1 := by rw [HT.out]; simp
   have hzz : ((tot.getD acc.length 0 : Nat) : Int) = (A : Int) := by rw [HT.out,getD_mid]
   have X : IntAt w2 (.agg #[.bool false,.slice la ln lc]) ((tot.getD acc.length 0 : Nat) : Int) (L + 1) := by
    rw [hzz,← zof_false]; exact IntAt.mk (hlo.at _ (by omega))
   have HHT : Hid (tot.length = acc.length + 1) := htl
   clear hzz HT HS HN
   obtain ⟨us,el,o1,o2,o3,o4⟩ := O
   have hul : us.length = acc.length * 2 := o1.1
   have A9 : Below w2.heap.size w2 (w2.alloc (.cells #[.bool false,.slice la ln lc] 25)) := (Below.refl _ _).alloc (Nat.le_refl _) _
   have HO3 : Hid (∀ i,i < acc.length → ∀ j,j < 2 → us[i * 2 + j]? = some (el i j)) := o3
   have HO4 : Hid (∀ i,i < acc.length → IntAt w2 (.agg #[el i 0,el i 1]) ((tot.getD i 0 : Nat) : Int) (L + 1)) := o4
   have HPO : Hid (∀ g0,Value.ownBlock u9 = some g0 → PureB IsNum (w2.alloc (.cells #[.bool false,.slice la ln lc] 25)) g0) := fun g0 hg0 => (o2 g0 hg0).below A9 (o1.lt g0 hg0).2
   have HLT : Hid (∀ g0,Value.ownBlock u9 = some g0 → w.heap.size ≤ g0) := fun g0 hg0 => (o1.lt g0 hg0).1
   have hbz : w.heap.size ≤ w2.heap.size := BB.size
   clear o2 o3 o4
   go_wp2_with (at_builtin; refine wpList_append_pure (Q' := IsNum) rfl _ _ _ rfl w.heap.size 25 (.agg #[.bool false,.slice none 0 0]) 2 32 Tryz.underlying92 info_wint rfl (by omega) u9 rfl acc.length us (o1.alloc _) HPO.out ⟨w2.heap.size,0,none⟩ 1 rfl [.bool false,.slice la ln lc] rfl (news_block (heap_alloc_new _ _)) (by simp [Value.oneCell']) (by simp [num_slice,num_bool]) (by simp [Value.cells,num_slice,num_bool]) (by omega) (by omega) (by simp; omega) ?_)
   intro g5 cap5 w5 ho5 hg5 hat5 hp5 hk5
   have E5 : IOwn w.heap.size w5 (.slice (some ⟨g5,0,none⟩) (acc.length + 1) cap5) (acc.length + 1) (fun i => ((tot.getD i 0 : Nat) : Int)) (L + 1) := IOwn.more ho5 hp5 hul HO3.out (fun i hi => (HO4.out i hi).below A9) (X.below A9) hk5
   have B5 : Below w.heap.size w w5 := below_grownB (BB.trans (A9.mono BB.size)) hg5 (by have := (BB.trans (A9.mono BB.size)).size; omega) (fun g0 hg0 => by have := HLT.out g0 hg0; omega)
   replace h0 := (h0.below A9).keep hk5
   replace h1 := (h1.below A9).keep hk5
   replace h2 := (h2.below A9).keep hk5
   replace h3 := (h3.below A9).keep hk5
   replace hlo := (hlo.below A9).keep hk5
   replace hle := (hle.below A9).keep hk5
   replace hhi := (hhi.below A9).keep hk5
   replace hri := (hri.below A9).keep hk5
   clear o1 HPO HLT HO3 HO4 ho5 hg5 hat5 hp5 hk5 A9 BB
   have R5 := E5.row
   rw [← HHT.out] at R5
   go_wp2
   go_ret
   exact ⟨_,rfl,(by have h := HHT.out; simp only [← h]; exact R5),B5⟩
  ·rw [decide_eq_false hr0]
   go_wp2_with fail
   refine (ncmp_at _ _ _ _ L L _ (hlo.at L q0) (hhi.at L q1)).mono ?_
   rintro e w3 ⟨rfl,b3⟩
   replace h0 := h0.below b3
   replace h1 := h1.below b3
   replace h2 := h2.below b3
   replace h3 := h3.below b3
   replace O := O.below b3
   replace hlo := hlo.below b3
   replace hle := hle.below b3
   replace hhi := hhi.below b3
   replace hri := hri.below b3
   replace BB := BB.trans (b3.mono BB.size)
   clear b3
   by_cases hlt : A < C
   ·rw [show cmpI (A : Int) (C : Int) = -1 from cmpI_lt (by omega)]
    rw [HS.out,if_neg hr0,if_pos hlt] at HT
    have htl : tot.length = acc.length + 1 := by rw [HT.out]; simp
    have hzz : ((tot.getD acc.length 0 : Nat) : Int) = (A : Int) + 1 := by rw [HT.out,getD_mid]; omega
    have HHT : Hid (tot.length = acc.length + 1) := htl
    have HZZ : Hid (((tot.getD acc.length 0 : Nat) : Int) = (A : Int) + 1) := hzz
    clear hzz HT HS HN
    go_wp2_with fail
    refine (next_at _ (A : Int) L _ (by rw [← zof_false A]; exact IntAt.mk (hlo.at L q0)) (by omega)).mono ?_
    rintro e w4 ⟨nv,rfl,hnx,b4⟩
    replace h0 := h0.below b4
    replace h1 := h1.below b4
    replace h2 := h2.below b4
    replace h3 := h3.below b4
    replace O := O.below b4
    replace hlo := hlo.below b4
    replace hle := hle.below b4
    replace hhi := hhi.below b4
    replace hri := hri.below b4
    replace BB := BB.trans (b4.mono BB.size)
    clear b4
    obtain ⟨pn,an,nn,cn,rfl⟩ := hnx.open
    have X : IntAt w4 (.agg #[.bool pn,.slice an nn cn]) ((tot.getD acc.length 0 : Nat) : Int) (L + 1) := by
     rw [HZZ.out]; exact hnx.at _ (nl_next A L q0)
    obtain ⟨us,el,o1,o2,o3,o4⟩ := O
    have hul : us.length = acc.length * 2 := o1.1
    have A9 : Below w4.heap.size w4 (w4.alloc (.cells #[.bool pn,.slice an nn cn] 25)) := (Below.refl _ _).alloc (Nat.le_refl _) _
    have HO3 : Hid (∀ i,i < acc.length → ∀ j,j < 2 → us[i * 2 + j]? = some (el i j)) := o3
    have HO4 : Hid (∀ i,i < acc.length → IntAt w4 (.agg #[el i 0,el i 1]) ((tot.getD i 0 : Nat) : Int) (L + 1)) := o4
    have HPO : Hid (∀ g0,Value.ownBlock u9 = some g0 → PureB IsNum (w4.alloc (.cells #[.bool pn,.slice an nn cn] 25)) g0) := fun g0 hg0 => (o2 g0 hg0).below A9 (o1.lt g0 hg0).2
    have HLT : Hid (∀ g0,Value.ownBlock u9 = some g0 → w.heap.size ≤ g0) := fun g0 hg0 => (o1.lt g0 hg0).1
    have hbz : w.heap.size ≤ w4.heap.size := BB.size
    clear o2 o3 o4
    go_wp2_with (at_builtin; refine wpList_append_pure (Q' := IsNum) rfl _ _ _ rfl w.heap.size 25 (.agg #[.bool false,.slice none 0 0]) 2 32 Tryz.underlying92 info_wint rfl (by omega) u9 rfl acc.length us (o1.alloc _) HPO.out ⟨w4.heap.size,0,none⟩ 1 rfl [.bool pn,.slice an nn cn] rfl (news_block (heap_alloc_new _ _)) (by simp [Value.oneCell']) (by simp [num_slice,num_bool]) (by simp [Value.cells,num_slice,num_bool]) (by omega) (by omega) (by simp; omega) ?_)
    intro g5 cap5 w5 ho5 hg5 hat5 hp5 hk5
    have E5 : IOwn w.heap.size w5 (.slice (some ⟨g5,0,none⟩) (acc.length + 1) cap5) (acc.length + 1) (fun i => ((tot.getD i 0 : Nat) : Int)) (L + 1) := IOwn.more ho5 hp5 hul HO3.out (fun i hi => (HO4.out i hi).below A9) (X.below A9) hk5
    have B5 : Below w.heap.size w w5 := below_grownB (BB.trans (A9.mono BB.size)) hg5 (by have := (BB.trans (A9.mono BB.size)).size; omega) (fun g0 hg0 => by have := HLT.out g0 hg0; omega)
    replace h0 := (h0.below A9).keep hk5
    replace h1 := (h1.below A9).keep hk5
    replace h2 := (h2.below A9).keep hk5
    replace h3 := (h3.below A9).keep hk5
    replace hlo := (hlo.below A9).keep hk5
    replace hle := (hle.below A9).keep hk5
    replace hhi := (hhi.below A9).keep hk5
    replace hri := (hri.below A9).keep hk5
    replace hnx := (hnx.below A9).keep hk5
    clear o1 HPO HLT HO3 HO4 ho5 hg5 hat5 hp5 hk5 A9 BB
    have R5 := E5.row
    rw [← HHT.out] at R5
    go_wp2
    go_ret
    exact ⟨_,rfl,(by have h := HHT.out; simp only [← h]; exact R5),B5⟩
   ·obtain ⟨hs0,hnl⟩ := HN.out hr0 hlt
    have hcc : ¬ cmpI (A : Int) (C : Int) < 0 := by unfold cmpI; rw [if_neg (by omega)]; split <;> omega
    generalize cmpI (A : Int) (C : Int) = cc at *
    rw [HS.out,if_neg hr0,if_neg hlt] at HT
    have hzz : ((tot.getD acc.length 0 : Nat) : Int) = (A : Int) := by rw [HT.out,getD_mid]
    have X : IntAt w3 (.agg #[.bool false,.slice la ln lc]) ((tot.getD acc.length 0 : Nat) : Int) (L + 1) := by
     rw [hzz,← zof_false]; exact IntAt.mk (hlo.at _ (by omega))
    have HTN : Hid (tot = (acc ++ [A]) ++ shortN (d + e - 1) e s d r) := by show _ = _; rw [List.append_assoc]; exact HT.out
    have htl : acc.length + 1 ≤ tot.length := by rw [HT.out]; simp
    clear hzz HT HS HN
    obtain ⟨us,el,o1,o2,o3,o4⟩ := O
    have hul : us.length = acc.length * 2 := o1.1
    have A9 : Below w3.heap.size w3 (w3.alloc (.cells #[.bool false,.slice la ln lc] 25)) := (Below.refl _ _).alloc (Nat.le_refl _) _
    have HO3 : Hid (∀ i,i < acc.length → ∀ j,j < 2 → us[i * 2 + j]? = some (el i j)) := o3
    have HO4 : Hid (∀ i,i < acc.length → IntAt w3 (.agg #[el i 0,el i 1]) ((tot.getD i 0 : Nat) : Int) (L + 1)) := o4
    have HPO : Hid (∀ g0,Value.ownBlock u9 = some g0 → PureB IsNum (w3.alloc (.cells #[.bool false,.slice la ln lc] 25)) g0) := fun g0 hg0 => (o2 g0 hg0).below A9 (o1.lt g0 hg0).2
    have HLT : Hid (∀ g0,Value.ownBlock u9 = some g0 → w.heap.size ≤ g0) := fun g0 hg0 => (o1.lt g0 hg0).1
    have hbz : w.heap.size ≤ w3.heap.size := BB.size
    clear o2 o3 o4
    go_wp2_with (at_builtin; refine wpList_append_pure (Q' := IsNum) rfl _ _ _ rfl w.heap.size 25 (.agg #[.bool false,.slice none 0 0]) 2 32 Tryz.underlying92 info_wint rfl (by omega) u9 rfl acc.length us (o1.alloc _) HPO.out ⟨w3.heap.size,0,none⟩ 1 rfl [.bool false,.slice la ln lc] rfl (news_block (heap_alloc_new _ _)) (by simp [Value.oneCell']) (by simp [num_slice,num_bool]) (by simp [Value.cells,num_slice,num_bool]) (by omega) (by omega) (by simp; omega) ?_)
    intro g5 cap5 w5 ho5 hg5 hat5 hp5 hk5
    have E5 : IOwn w.heap.size w5 (.slice (some ⟨g5,0,none⟩) (acc.length + 1) cap5) (acc.length + 1) (fun i => ((tot.getD i 0 : Nat) : Int)) (L + 1) := IOwn.more ho5 hp5 hul HO3.out (fun i hi => (HO4.out i hi).below A9) (X.below A9) hk5
    have B5 : Below w.heap.size w w5 := below_grownB (BB.trans (A9.mono BB.size)) hg5 (by have := (BB.trans (A9.mono BB.size)).size; omega) (fun g0 hg0 => by have := HLT.out g0 hg0; omega)
    replace h0 := (h0.below A9).keep hk5
    replace h1 := (h1.below A9).keep hk5
    replace h2 := (h2.below A9).keep hk5
    replace h3 := (h3.below A9).keep hk5
    replace hlo := (hlo.below A9).keep hk5
    replace hle := (hle.below A9).keep hk5
    replace hhi := (hhi.below A9).keep hk5
    replace hri := (hri.below A9).keep hk5
    clear o1 HPO HLT HO3 HO4 ho5 hg5 hat5 hp5 hk5 A9 BB
    have HT2 : Hid (tot = (acc ++ [A]) ++ shortN (s + r) e s d r) := by
     show _ = _
     rw [short_fuel (s + r) (d + e - 1) e s d r hs0 (by omega) (by rw [Nat.mul_comm s d]; exact hnl) (Nat.le_refl _) (by omega)]; exact HTN.out
    have E6 : IOwn w.heap.size w5 (.slice (some ⟨g5,0,none⟩) (acc.length + 1) cap5) (acc ++ [A]).length (fun i => ((tot.getD i 0 : Nat) : Int)) (L + 1) := by rw [List.length_append]; exact E5
    replace hri := hri.at L r1
    replace hle := hle.at L r0
    clear E5
    go_wp2
    go_roundg (s + r)
    case measure => have := HK.out; omega
    case rel => exact ⟨e,s,d,r,acc ++ [A],rfl,h3,hri,h1,hle,hs0,by omega,hnl,HT2,E6,B5⟩

def E2 (w : World) (b o : Nat) (x y : Value) : Prop := w.cell? ⟨b,o,none⟩ = some x ∧ w.cell? ⟨b,o + 1,none⟩ = some y
theorem E2.lt {w : World} {b o : Nat} {x y : Value} (h : E2 w b o x y) : b < w.heap.size := World.block_lt_of_cell? _ _ h.1
theorem E2.below {w w' : World} {b o : Nat} {x y : Value} (h : E2 w b o x y) (hb : Below w.heap.size w w') : E2 w' b o x y := ⟨(hb.cell h.lt).trans h.1,(hb.cell h.lt).trans h.2⟩
theorem E2.other {w : World} {R b o : Nat} {x y : Value} (h : E2 w b o x y) (hne : b ≠ R) (x' y' : Value) : E2 ((w.setCell ⟨R,0,none⟩ x').setCell ⟨R,1,none⟩ y') b o x y :=
 ⟨set_cell_block (set_cell_block h.1 hne) hne,set_cell_block (set_cell_block h.2 hne) hne⟩
theorem E2.other3 {w : World} {R b o : Nat} {x y : Value} (h : E2 w b o x y) (hne : b ≠ R) (x' y' z' : Value) : E2 (((w.setCell ⟨R,0,none⟩ x').setCell ⟨R,1,none⟩ y').setCell ⟨R,2,none⟩ z') b o x y :=
 ⟨set_cell_block (set_cell_block (set_cell_block h.1 hne) hne) hne,set_cell_block (set_cell_block (set_cell_block h.2 hne) hne) hne⟩
theorem IRow.at {w : World} {v : Value} {n : Nat} {z : Nat → Int} {L : Nat} (h : IRow w v n z L) (i : Nat) (hi : i < n) :
  ∃ b off c p ao m d,v = .slice (some ⟨b,off,none⟩) n c ∧ n ≤ c ∧ E2 w b (off + i * 2) (.bool p) (.slice ao m d) ∧ IntAt w (.agg #[.bool p,.slice ao m d]) (z i) L := by
 obtain ⟨el,⟨a,c,h1,h2,h3,h4⟩,h5⟩ := h
 obtain ⟨b,off,rfl,hc⟩ := h4 (by omega)
 have hz := h5 i hi
 obtain ⟨p,ao,m,d,he⟩ := hz.open
 have he' := he
 simp only [Value.agg.injEq,Array.mk.injEq,List.cons.injEq,and_true] at he'
 have c0 := hc i hi 0 (by omega)
 have c1 := hc i hi 1 (by omega)
 rw [he'.1] at c0
 rw [he'.2] at c1
 rw [he] at hz
 exact ⟨b,off,c,p,ao,m,d,h1,h2,⟨c0,c1⟩,hz⟩
def unfN (Z : Nat → Int) (n : Nat) : Nat → Int × Int
 | 0 => (Z (n - 1),1)
 | i + 1 => (Z (n - 2 - i) * (unfN Z n i).1 + (unfN Z n i).2,(unfN Z n i).1)
theorem unf_nl (Z : Nat → Int) (n M : Nat) (hZ : ∀ j,j < n → nl W32 (Z j).natAbs ≤ M) : ∀ i,i < n → nl W32 (unfN Z n i).1.natAbs ≤ (M + 1) * (i + 1) ∧ nl W32 (unfN Z n i).2.natAbs ≤ (M + 1) * (i + 1)
 | 0,h => ⟨Nat.le_trans (hZ (n - 1) (by omega)) (by omega),Nat.le_trans nlw_one (by omega)⟩
 | i + 1,h => by
  obtain ⟨h1,h2⟩ := unf_nl Z n M hZ i (by omega)
  have h3 := hZ (n - 2 - i) (by omega)
  have e : (M + 1) * (i + 1 + 1) = (M + 1) * (i + 1) + (M + 1) := Nat.mul_succ _ _
  refine ⟨?_,by show nl W32 (unfN Z n i).1.natAbs ≤ _; omega⟩
  show nl W32 (Z (n - 2 - i) * (unfN Z n i).1 + (unfN Z n i).2).natAbs ≤ _
  exact nlz_add (nlz_mul h3 h1 (Nat.le_refl _)) h2 (by omega) (by omega)
def UnfOut (Z : Nat → Int) (n k : Nat) (w : World) (e : Ending) (w' : World) : Prop :=
 ∃ r er,e = .returned (.tuple #[r,.int .i64 er]) ∧ (k + 1 = n → er = 0 ∧ RepQ w' r (((unfN Z n k).1 : Rat) / ((unfN Z n k).2 : Rat))) ∧ (k + 1 < n → r = .agg #[.bool false,.slice none 0 0,.slice none 0 0] ∧ er = 2) ∧ Below w.heap.size w w'
set_option maxRecDepth 20000 in
set_option maxHeartbeats 8000000 in
theorem unfold_all (v : Value) (n : Nat) (Z : Nat → Int) (M : Nat) (w : World) (hv : IRow w v n Z M) (ht : Tab w) (hn : 0 < n) (hK : (M + 1) * (n + 1) ≤ 100000) (k : Nat) (hk : k + 1 ≤ n) (h0 : k + 1 < n → (unfN Z n k).1 = 0) (hnz : ∀ i,i < k → (unfN Z n i).1 ≠ 0) :
  Calls Tryz.prog 56 #[v] w fun e w' => UnfOut Z n k w e w' := by
 have HU : Hid (∀ i,i < n → nl W32 (unfN Z n i).1.natAbs ≤ (M + 1) * (i + 1) ∧ nl W32 (unfN Z n i).2.natAbs ≤ (M + 1) * (i + 1)) := unf_nl Z n M (fun j hj => by obtain ⟨el,_,h⟩ := hv; exact (h j hj).nl)
 have HNZ : Hid (∀ i,i < k → (unfN Z n i).1 ≠ 0) := hnz
 have HKZ : Hid (k + 1 < n → (unfN Z n k).1 = 0) := h0
 have HDZ : Hid ((unfN Z n k).2 ≠ 0) := by
  show _ ≠ _
  cases k with
  | zero => show (1 : Int) ≠ 0; decide
  | succ j => exact hnz j (by omega)
 clear h0
 clear hnz
 have hv0 := hv
 obtain ⟨b,off,c,p1,a1,m1,d1,rfl,hnc,_,_⟩ := hv.at (n - 1) (by omega)
 have hn1 : n ≤ 100000 := by
  have : 1 * (n + 1) ≤ (M + 1) * (n + 1) := Nat.mul_le_mul_right _ (by omega)
  omega
 have HM : Hid (∀ i,i + 1 ≤ n → (M + 1) * (i + 1) ≤ 100000) := fun i hi => Nat.le_trans (Nat.mul_le_mul_left _ (by omega)) hK
 have d1' : ((n : Int) == 0) = false := by simp; omega
 have BB : Below w.heap.size w w := Below.refl _ _
 obtain ⟨Wb0,hW0,hS0,hL0,VR⟩ := V3.lay w 27 (.bool false) (.slice none 0 0) (.slice none 0 0)
 replace hv := hv.below hL0
 replace ht := ht.below hL0
 replace BB := BB.trans (hL0.mono BB.size)
 clear hL0
 obtain ⟨b2,off2,c2,pe,ae,me,de,hve,_,hE,hI⟩ := hv.at (n - 1) (by omega)
 cases hve
 have hbl : b < w.heap.size := by
  obtain ⟨_,_,_,_,_,_,_,hve2,_,hE2,_⟩ := hv0.at (n - 1) (by omega)
  cases hve2; exact hE2.lt
 obtain ⟨I,hI1,hI2,hI3,hI4⟩ : ∃ I : Int,IntKind.i64.wrap ((n : Int) - 1) = I ∧ 0 ≤ I ∧ I < (n : Int) ∧ I.toNat = n - 1 := ⟨(n : Int) - 1,by rw [IntKind.wrap_i64]; omega,by omega,by omega,by omega⟩
 have HI : Hid (I = (n : Int) - 1) := by show _ = _; rw [← hI1,IntKind.wrap_i64]; omega
 go_enter Tryz.func56,Tryz.ntmps56
 go_wp2
 rw [← hW0]
 clear hW0 hS0
 go_cut [4,5] from 12 (fun s4 s5 wc => ∃ (R4 R5 : Nat) (p4 : Bool) (a4 : Option Addr) (n4 c4 : Nat) (p5 : Bool) (a5 : Option Addr) (n5 c5 : Nat),s4 = .pointer (some ⟨R4,0,none⟩) ∧ s5 = .pointer (some ⟨R5,0,none⟩) ∧ R4 ≠ R5 ∧ Wb0.heap.size ≤ R4 ∧ Wb0.heap.size ≤ R5 ∧ V2 wc R4 (.bool p4) (.slice a4 n4 c4) ∧ V2 wc R5 (.bool p5) (.slice a5 n5 c5) ∧ IntAt wc (.agg #[.bool p4,.slice a4 n4 c4]) (Z (n - 1)) M ∧ RepI wc (.agg #[.bool p5,.slice a5 n5 c5]) 1 ∧ Below Wb0.heap.size Wb0 wc)
 case first =>
  clear BB
  have BB : Below Wb0.heap.size Wb0 Wb0 := Below.refl _ _
  have hbw : b < Wb0.heap.size := hE.lt
  have hDr : Below Wb0.heap.size Wb0 Wb0.drew := (Below.refl _ _).drew
  replace hI := hI.below hDr
  replace hE := hE.below hDr
  replace BB := BB.trans (hDr.mono BB.size)
  clear hDr
  refine wp_region_held_drew (S := (fun w' => w'.cell? ⟨b,off + (n - 1) * 2,none⟩ = some (.bool pe) ∧ w'.cell? ⟨b,off + (n - 1) * 2 + 1,none⟩ = some (.slice ae me de))) (by kernel_rfl) ?_ (fun hHeld => ?_)
  ·exact ⟨hE.1,hE.2⟩
  generalize Wb0.drew = W6 at *
  refine xT 0 (v := ?_) (hy := Or.inl ⟨by rfl,?_⟩) (h := ?_)
  rotate_left
  ·(intro w hSw; (try dsimp only at hSw); go_simp; (try with_reducible rfl))
  (try simp only [Act.put,xL4,xL5,xL6])
  refine xT 1 (v := ?_) (hy := Or.inl ⟨by rfl,?_⟩) (h := ?_)
  rotate_left
  ·(intro w hSw; (try dsimp only at hSw); go_simp; (try with_reducible rfl))
  (try simp only [Act.put,xL4,xL5,xL6])
  refine xT 2 (v := ?_) (hy := Or.inl ⟨by rfl,?_⟩) (h := ?_)
  rotate_left
  ·(intro w hSw; (try dsimp only at hSw); go_simp; (try with_reducible rfl))
  (try simp only [Act.put,xL4,xL5,xL6])
  refine xT 3 (v := ?_) (hy := Or.inl ⟨by rfl,?_⟩) (h := ?_)
  rotate_left
  ·(intro w hSw; (try dsimp only at hSw); go_simp; (try with_reducible rfl))
  (try simp only [Act.put,xL4,xL5,xL6])
  refine xT 4 (v := ?_) (hy := Or.inl ⟨by rfl,?_⟩) (h := ?_)
  rotate_left
  ·(intro w hSw; (try dsimp only at hSw); go_simp; (try with_reducible rfl))
  (try simp only [Act.put,xL4,xL5,xL6])
  refine xT 5 (v := ?_) (hy := Or.inl ⟨by rfl,?_⟩) (h := ?_)
  rotate_left
  ·(intro w hSw; (try dsimp only at hSw); go_simp; (try with_reducible rfl))
  (try simp only [Act.put,xL4,xL5,xL6])
  refine xR [6,7,8] (h := ?_)
  refine xC (h := fun K hK => ?_) (hs := ?_)
  ·
   go_simp
   refine (wof_any 1 _ (by omega) (by omega)).mono ?_
   rintro e w1 ⟨oo,rfl,ho,b1⟩
   obtain ⟨po,ao,no,co,rfl⟩ := ho.open
   go_wp2_with fail
   replace hI := hI.below b1
   replace hE := hE.below b1
   replace BB := BB.trans (b1.mono BB.size)
   clear b1
   refine hK.out _ _ ?_ (fun hH1 => ?_)
   ·exact ⟨hE.1,hE.2⟩
   clear hK K hHeld
   (try simp only [Act.put,xL4,xL5,xL6])
   refine xR [7,8] (h := ?_)
   refine xC (h := fun K hK => ?_) (hs := ?_)
   ·
    go_simp
    have hZ7 : Wb0.heap.size ≤ w1.heap.size := BB.size
    have hN7hE : b ≠ w1.heap.size := Nat.ne_of_lt hE.lt
    obtain ⟨W7,hW7,hS7,hL7,V4⟩ := V2.lay w1 25 (.bool false) (.slice none 0 0)
    replace hI := hI.below hL7
    replace ho := ho.below hL7
    replace hE := hE.below hL7
    replace BB := BB.trans (hL7.mono BB.size)
    clear hL7
    rw [← hW7]
    generalize w1.heap.size = R7 at *
    clear hW7 hS7
    refine hK.out _ _ ?_ (fun hH2 => ?_)
    ·exact ⟨hE.1,hE.2⟩
    clear hK K hH1
    (try simp only [Act.put,xL4,xL5,xL6])
    refine xR [8] (h := ?_)
    refine xN (h := fun K hK => ?_)
    go_simp
    have hZ8 : Wb0.heap.size ≤ W7.heap.size := BB.size
    have hN8hE : b ≠ W7.heap.size := Nat.ne_of_lt hE.lt
    have hN8V4 : R7 ≠ W7.heap.size := Nat.ne_of_lt V4.lt
    obtain ⟨W8,hW8,hS8,hL8,V5⟩ := V2.lay W7 25 (.bool false) (.slice none 0 0)
    replace hI := hI.below hL8
    replace ho := ho.below hL8
    replace hE := hE.below hL8
    replace V4 := V4.below hL8
    replace BB := BB.trans (hL8.mono BB.size)
    clear hL8
    rw [← hW8]
    generalize W7.heap.size = R8 at *
    clear hW8 hS8
    refine hK.out _ _ ?_ (fun hH3 => ?_)
    ·exact ⟨hE.1,hE.2⟩
    clear hK K hH2
    (try simp only [Act.put,xL4,xL5,xL6])
    refine xR [9] (h := ?_)
    refine xN (h := fun K hK => ?_)
    have hKp := V4.keepJ (.bool pe) (.slice ae me de)
    have hE_n := hE.other (R := R7) (by omega) (.bool pe) (.slice ae me de)
    have V5_n := V5.other (R := R7) (by omega) (.bool pe) (.slice ae me de)
    have V4_n := V4.same (.bool pe) (.slice ae me de)
    have hI_n := hI.keep hKp
    have ho_n := ho.keep hKp
    have BB_n := below_store2 (R := R7) BB (by omega) (.bool pe) (.slice ae me de)
    clear hKp
    obtain ⟨V4_0,V4_1,V4_2,V4_3⟩ := id V4
    go_simp
    clear V4_0 V4_1 V4_2 V4_3
    clear BB hI ho hE V4 V5
    generalize (W8.setCell ⟨R7,0,none⟩ (.bool pe)).setCell ⟨R7,1,none⟩ (.slice ae me de) = W9 at *
    have BB := BB_n
    have hI := hI_n
    have ho := ho_n
    have hE := hE_n
    have V4 := V4_n
    have V5 := V5_n
    clear BB_n hI_n ho_n hE_n V4_n V5_n
    refine hK.out _ _ ?_ (fun hH4 => ?_)
    ·exact ⟨hE.1,hE.2⟩
    clear hK K hH3
    (try simp only [Act.put,xL4,xL5,xL6])
    refine xR [10] (h := ?_)
    refine xN (h := fun K hK => ?_)
    have hKp := V5.keepJ (.bool po) (.slice ao no co)
    have hE_n := hE.other (R := R8) (by omega) (.bool po) (.slice ao no co)
    have V4_n := V4.other (R := R8) (by omega) (.bool po) (.slice ao no co)
    have V5_n := V5.same (.bool po) (.slice ao no co)
    have hI_n := hI.keep hKp
    have ho_n := ho.keep hKp
    have BB_n := below_store2 (R := R8) BB (by omega) (.bool po) (.slice ao no co)
    clear hKp
    obtain ⟨V5_0,V5_1,V5_2,V5_3⟩ := id V5
    go_simp
    clear V5_0 V5_1 V5_2 V5_3
    clear BB hI ho hE V4 V5
    generalize (W9.setCell ⟨R8,0,none⟩ (.bool po)).setCell ⟨R8,1,none⟩ (.slice ao no co) = W10 at *
    have BB := BB_n
    have hI := hI_n
    have ho := ho_n
    have hE := hE_n
    have V4 := V4_n
    have V5 := V5_n
    clear BB_n hI_n ho_n hE_n V4_n V5_n
    refine hK.out _ _ ?_ (fun hH5 => ?_)
    ·exact ⟨hE.1,hE.2⟩
    clear hK K hH4
    (try simp only [Act.put,xL4,xL5,xL6])
    refine wpAnyH_done (by kernel_rfl) ?_ _
    clear hH5
    go_wp2_with fail
    go_meet
    exact ⟨R7,R8,pe,ae,me,de,po,ao,no,co,rfl,rfl,by omega,by omega,by omega,V4,V5,hI,ho,BB⟩
   refine xC (h := fun K hK => ?_) (hs := ?_)
   ·
    go_simp
    have hZ11 : Wb0.heap.size ≤ w1.heap.size := BB.size
    have hN11hE : b ≠ w1.heap.size := Nat.ne_of_lt hE.lt
    obtain ⟨W11,hW11,hS11,hL11,V5⟩ := V2.lay w1 25 (.bool false) (.slice none 0 0)
    replace hI := hI.below hL11
    replace ho := ho.below hL11
    replace hE := hE.below hL11
    replace BB := BB.trans (hL11.mono BB.size)
    clear hL11
    rw [← hW11]
    generalize w1.heap.size = R11 at *
    clear hW11 hS11
    refine hK.out _ _ ?_ (fun hH2 => ?_)
    ·exact ⟨hE.1,hE.2⟩
    clear hK K hH1
    (try simp only [Act.put,xL4,xL5,xL6])
    refine xR [7] (h := ?_)
    refine xN (h := fun K hK => ?_)
    go_simp
    have hZ12 : Wb0.heap.size ≤ W11.heap.size := BB.size
    have hN12hE : b ≠ W11.heap.size := Nat.ne_of_lt hE.lt
    have hN12V5 : R11 ≠ W11.heap.size := Nat.ne_of_lt V5.lt
    obtain ⟨W12,hW12,hS12,hL12,V4⟩ := V2.lay W11 25 (.bool false) (.slice none 0 0)
    replace hI := hI.below hL12
    replace ho := ho.below hL12
    replace hE := hE.below hL12
    replace V5 := V5.below hL12
    replace BB := BB.trans (hL12.mono BB.size)
    clear hL12
    rw [← hW12]
    generalize W11.heap.size = R12 at *
    clear hW12 hS12
    refine hK.out _ _ ?_ (fun hH3 => ?_)
    ·exact ⟨hE.1,hE.2⟩
    clear hK K hH2
    (try simp only [Act.put,xL4,xL5,xL6])
    refine xR [9] (h := ?_)
    refine xN (h := fun K hK => ?_)
    have hKp := V4.keepJ (.bool pe) (.slice ae me de)
    have hE_n := hE.other (R := R12) (by omega) (.bool pe) (.slice ae me de)
    have V5_n := V5.other (R := R12) (by omega) (.bool pe) (.slice ae me de)
    have V4_n := V4.same (.bool pe) (.slice ae me de)
    have hI_n := hI.keep hKp
    have ho_n := ho.keep hKp
    have BB_n := below_store2 (R := R12) BB (by omega) (.bool pe) (.slice ae me de)
    clear hKp
    obtain ⟨V4_0,V4_1,V4_2,V4_3⟩ := id V4
    go_simp
    clear V4_0 V4_1 V4_2 V4_3
    clear BB hI ho hE V5 V4
    generalize (W12.setCell ⟨R12,0,none⟩ (.bool pe)).setCell ⟨R12,1,none⟩ (.slice ae me de) = W13 at *
    have BB := BB_n
    have hI := hI_n
    have ho := ho_n
    have hE := hE_n
    have V5 := V5_n
    have V4 := V4_n
    clear BB_n hI_n ho_n hE_n V5_n V4_n
    refine hK.out _ _ ?_ (fun hH4 => ?_)
    ·exact ⟨hE.1,hE.2⟩
    clear hK K hH3
    (try simp only [Act.put,xL4,xL5,xL6])
    refine xR [10] (h := ?_)
    refine xN (h := fun K hK => ?_)
    have hKp := V5.keepJ (.bool po) (.slice ao no co)
    have hE_n := hE.other (R := R11) (by omega) (.bool po) (.slice ao no co)
    have V4_n := V4.other (R := R11) (by omega) (.bool po) (.slice ao no co)
    have V5_n := V5.same (.bool po) (.slice ao no co)
    have hI_n := hI.keep hKp
    have ho_n := ho.keep hKp
    have BB_n := below_store2 (R := R11) BB (by omega) (.bool po) (.slice ao no co)
    clear hKp
    obtain ⟨V5_0,V5_1,V5_2,V5_3⟩ := id V5
    go_simp
    clear V5_0 V5_1 V5_2 V5_3
    clear BB hI ho hE V5 V4
    generalize (W13.setCell ⟨R11,0,none⟩ (.bool po)).setCell ⟨R11,1,none⟩ (.slice ao no co) = W14 at *
    have BB := BB_n
    have hI := hI_n
    have ho := ho_n
    have hE := hE_n
    have V5 := V5_n
    have V4 := V4_n
    clear BB_n hI_n ho_n hE_n V5_n V4_n
    refine hK.out _ _ ?_ (fun hH5 => ?_)
    ·exact ⟨hE.1,hE.2⟩
    clear hK K hH4
    (try simp only [Act.put,xL4,xL5,xL6])
    refine wpAnyH_done (by kernel_rfl) ?_ _
    clear hH5
    go_wp2_with fail
    go_meet
    exact ⟨R12,R11,pe,ae,me,de,po,ao,no,co,rfl,rfl,by omega,by omega,by omega,V4,V5,hI,ho,BB⟩
   exact AllReadyH.nil
  refine xC (h := fun K hK => ?_) (hs := ?_)
  ·
   go_simp
   have hZ15 : Wb0.heap.size ≤ W6.heap.size := BB.size
   have hN15hE : b ≠ W6.heap.size := Nat.ne_of_lt hE.lt
   obtain ⟨W15,hW15,hS15,hL15,V4⟩ := V2.lay W6 25 (.bool false) (.slice none 0 0)
   replace hI := hI.below hL15
   replace hE := hE.below hL15
   replace BB := BB.trans (hL15.mono BB.size)
   clear hL15
   rw [← hW15]
   generalize W6.heap.size = R15 at *
   clear hW15 hS15
   refine hK.out _ _ ?_ (fun hH1 => ?_)
   ·exact ⟨hE.1,hE.2⟩
   clear hK K hHeld
   (try simp only [Act.put,xL4,xL5,xL6])
   refine xR [6,8] (h := ?_)
   refine xC (h := fun K hK => ?_) (hs := ?_)
   ·
    go_simp
    refine (wof_any 1 _ (by omega) (by omega)).mono ?_
    rintro e w2 ⟨oo,rfl,ho,b2⟩
    obtain ⟨po,ao,no,co,rfl⟩ := ho.open
    go_wp2_with fail
    replace hI := hI.below b2
    replace hE := hE.below b2
    replace V4 := V4.below b2
    replace BB := BB.trans (b2.mono BB.size)
    clear b2
    refine hK.out _ _ ?_ (fun hH2 => ?_)
    ·exact ⟨hE.1,hE.2⟩
    clear hK K hH1
    (try simp only [Act.put,xL4,xL5,xL6])
    refine xR [8] (h := ?_)
    refine xN (h := fun K hK => ?_)
    go_simp
    have hZ16 : Wb0.heap.size ≤ w2.heap.size := BB.size
    have hN16hE : b ≠ w2.heap.size := Nat.ne_of_lt hE.lt
    have hN16V4 : R15 ≠ w2.heap.size := Nat.ne_of_lt V4.lt
    obtain ⟨W16,hW16,hS16,hL16,V5⟩ := V2.lay w2 25 (.bool false) (.slice none 0 0)
    replace hI := hI.below hL16
    replace ho := ho.below hL16
    replace hE := hE.below hL16
    replace V4 := V4.below hL16
    replace BB := BB.trans (hL16.mono BB.size)
    clear hL16
    rw [← hW16]
    generalize w2.heap.size = R16 at *
    clear hW16 hS16
    refine hK.out _ _ ?_ (fun hH3 => ?_)
    ·exact ⟨hE.1,hE.2⟩
    clear hK K hH2
    (try simp only [Act.put,xL4,xL5,xL6])
    refine xR [9] (h := ?_)
    refine xN (h := fun K hK => ?_)
    have hKp := V4.keepJ (.bool pe) (.slice ae me de)
    have hE_n := hE.other (R := R15) (by omega) (.bool pe) (.slice ae me de)
    have V5_n := V5.other (R := R15) (by omega) (.bool pe) (.slice ae me de)
    have V4_n := V4.same (.bool pe) (.slice ae me de)
    have hI_n := hI.keep hKp
    have ho_n := ho.keep hKp
    have BB_n := below_store2 (R := R15) BB (by omega) (.bool pe) (.slice ae me de)
    clear hKp
    obtain ⟨V4_0,V4_1,V4_2,V4_3⟩ := id V4
    go_simp
    clear V4_0 V4_1 V4_2 V4_3
    clear BB hI ho hE V4 V5
    generalize (W16.setCell ⟨R15,0,none⟩ (.bool pe)).setCell ⟨R15,1,none⟩ (.slice ae me de) = W17 at *
    have BB := BB_n
    have hI := hI_n
    have ho := ho_n
    have hE := hE_n
    have V4 := V4_n
    have V5 := V5_n
    clear BB_n hI_n ho_n hE_n V4_n V5_n
    refine hK.out _ _ ?_ (fun hH4 => ?_)
    ·exact ⟨hE.1,hE.2⟩
    clear hK K hH3
    (try simp only [Act.put,xL4,xL5,xL6])
    refine xR [10] (h := ?_)
    refine xN (h := fun K hK => ?_)
    have hKp := V5.keepJ (.bool po) (.slice ao no co)
    have hE_n := hE.other (R := R16) (by omega) (.bool po) (.slice ao no co)
    have V4_n := V4.other (R := R16) (by omega) (.bool po) (.slice ao no co)
    have V5_n := V5.same (.bool po) (.slice ao no co)
    have hI_n := hI.keep hKp
    have ho_n := ho.keep hKp
    have BB_n := below_store2 (R := R16) BB (by omega) (.bool po) (.slice ao no co)
    clear hKp
    obtain ⟨V5_0,V5_1,V5_2,V5_3⟩ := id V5
    go_simp
    clear V5_0 V5_1 V5_2 V5_3
    clear BB hI ho hE V4 V5
    generalize (W17.setCell ⟨R16,0,none⟩ (.bool po)).setCell ⟨R16,1,none⟩ (.slice ao no co) = W18 at *
    have BB := BB_n
    have hI := hI_n
    have ho := ho_n
    have hE := hE_n
    have V4 := V4_n
    have V5 := V5_n
    clear BB_n hI_n ho_n hE_n V4_n V5_n
    refine hK.out _ _ ?_ (fun hH5 => ?_)
    ·exact ⟨hE.1,hE.2⟩
    clear hK K hH4
    (try simp only [Act.put,xL4,xL5,xL6])
    refine wpAnyH_done (by kernel_rfl) ?_ _
    clear hH5
    go_wp2_with fail
    go_meet
    exact ⟨R15,R16,pe,ae,me,de,po,ao,no,co,rfl,rfl,by omega,by omega,by omega,V4,V5,hI,ho,BB⟩
   refine xC (h := fun K hK => ?_) (hs := ?_)
   ·
    go_simp
    have hZ19 : Wb0.heap.size ≤ W15.heap.size := BB.size
    have hN19hE : b ≠ W15.heap.size := Nat.ne_of_lt hE.lt
    have hN19V4 : R15 ≠ W15.heap.size := Nat.ne_of_lt V4.lt
    obtain ⟨W19,hW19,hS19,hL19,V5⟩ := V2.lay W15 25 (.bool false) (.slice none 0 0)
    replace hI := hI.below hL19
    replace hE := hE.below hL19
    replace V4 := V4.below hL19
    replace BB := BB.trans (hL19.mono BB.size)
    clear hL19
    rw [← hW19]
    generalize W15.heap.size = R19 at *
    clear hW19 hS19
    refine hK.out _ _ ?_ (fun hH2 => ?_)
    ·exact ⟨hE.1,hE.2⟩
    clear hK K hH1
    (try simp only [Act.put,xL4,xL5,xL6])
    refine xR [6] (h := ?_)
    refine xN (h := fun K hK => ?_)
    go_simp
    refine (wof_any 1 _ (by omega) (by omega)).mono ?_
    rintro e w3 ⟨oo,rfl,ho,b3⟩
    obtain ⟨po,ao,no,co,rfl⟩ := ho.open
    go_wp2_with fail
    replace hI := hI.below b3
    replace hE := hE.below b3
    replace V4 := V4.below b3
    replace V5 := V5.below b3
    replace BB := BB.trans (b3.mono BB.size)
    clear b3
    refine hK.out _ _ ?_ (fun hH3 => ?_)
    ·exact ⟨hE.1,hE.2⟩
    clear hK K hH2
    (try simp only [Act.put,xL4,xL5,xL6])
    refine xR [9] (h := ?_)
    refine xN (h := fun K hK => ?_)
    have hKp := V4.keepJ (.bool pe) (.slice ae me de)
    have hE_n := hE.other (R := R15) (by omega) (.bool pe) (.slice ae me de)
    have V5_n := V5.other (R := R15) (by omega) (.bool pe) (.slice ae me de)
    have V4_n := V4.same (.bool pe) (.slice ae me de)
    have hI_n := hI.keep hKp
    have ho_n := ho.keep hKp
    have BB_n := below_store2 (R := R15) BB (by omega) (.bool pe) (.slice ae me de)
    clear hKp
    obtain ⟨V4_0,V4_1,V4_2,V4_3⟩ := id V4
    go_simp
    clear V4_0 V4_1 V4_2 V4_3
    clear BB hI ho hE V4 V5
    generalize (w3.setCell ⟨R15,0,none⟩ (.bool pe)).setCell ⟨R15,1,none⟩ (.slice ae me de) = W20 at *
    have BB := BB_n
    have hI := hI_n
    have ho := ho_n
    have hE := hE_n
    have V4 := V4_n
    have V5 := V5_n
    clear BB_n hI_n ho_n hE_n V4_n V5_n
    refine hK.out _ _ ?_ (fun hH4 => ?_)
    ·exact ⟨hE.1,hE.2⟩
    clear hK K hH3
    (try simp only [Act.put,xL4,xL5,xL6])
    refine xR [10] (h := ?_)
    refine xN (h := fun K hK => ?_)
    have hKp := V5.keepJ (.bool po) (.slice ao no co)
    have hE_n := hE.other (R := R19) (by omega) (.bool po) (.slice ao no co)
    have V4_n := V4.other (R := R19) (by omega) (.bool po) (.slice ao no co)
    have V5_n := V5.same (.bool po) (.slice ao no co)
    have hI_n := hI.keep hKp
    have ho_n := ho.keep hKp
    have BB_n := below_store2 (R := R19) BB (by omega) (.bool po) (.slice ao no co)
    clear hKp
    obtain ⟨V5_0,V5_1,V5_2,V5_3⟩ := id V5
    go_simp
    clear V5_0 V5_1 V5_2 V5_3
    clear BB hI ho hE V4 V5
    generalize (W20.setCell ⟨R19,0,none⟩ (.bool po)).setCell ⟨R19,1,none⟩ (.slice ao no co) = W21 at *
    have BB := BB_n
    have hI := hI_n
    have ho := ho_n
    have hE := hE_n
    have V4 := V4_n
    have V5 := V5_n
    clear BB_n hI_n ho_n hE_n V4_n V5_n
    refine hK.out _ _ ?_ (fun hH5 => ?_)
    ·exact ⟨hE.1,hE.2⟩
    clear hK K hH4
    (try simp only [Act.put,xL4,xL5,xL6])
    refine wpAnyH_done (by kernel_rfl) ?_ _
    clear hH5
    go_wp2_with fail
    go_meet
    exact ⟨R15,R19,pe,ae,me,de,po,ao,no,co,rfl,rfl,by omega,by omega,by omega,V4,V5,hI,ho,BB⟩
   exact AllReadyH.nil
  refine xC (h := fun K hK => ?_) (hs := ?_)
  ·
   go_simp
   have hZ22 : Wb0.heap.size ≤ W6.heap.size := BB.size
   have hN22hE : b ≠ W6.heap.size := Nat.ne_of_lt hE.lt
   obtain ⟨W22,hW22,hS22,hL22,V5⟩ := V2.lay W6 25 (.bool false) (.slice none 0 0)
   replace hI := hI.below hL22
   replace hE := hE.below hL22
   replace BB := BB.trans (hL22.mono BB.size)
   clear hL22
   rw [← hW22]
   generalize W6.heap.size = R22 at *
   clear hW22 hS22
   refine hK.out _ _ ?_ (fun hH1 => ?_)
   ·exact ⟨hE.1,hE.2⟩
   clear hK K hHeld
   (try simp only [Act.put,xL4,xL5,xL6])
   refine xR [6,7] (h := ?_)
   refine xC (h := fun K hK => ?_) (hs := ?_)
   ·
    go_simp
    refine (wof_any 1 _ (by omega) (by omega)).mono ?_
    rintro e w4 ⟨oo,rfl,ho,b4⟩
    obtain ⟨po,ao,no,co,rfl⟩ := ho.open
    go_wp2_with fail
    replace hI := hI.below b4
    replace hE := hE.below b4
    replace V5 := V5.below b4
    replace BB := BB.trans (b4.mono BB.size)
    clear b4
    refine hK.out _ _ ?_ (fun hH2 => ?_)
    ·exact ⟨hE.1,hE.2⟩
    clear hK K hH1
    (try simp only [Act.put,xL4,xL5,xL6])
    refine xR [7] (h := ?_)
    refine xN (h := fun K hK => ?_)
    go_simp
    have hZ23 : Wb0.heap.size ≤ w4.heap.size := BB.size
    have hN23hE : b ≠ w4.heap.size := Nat.ne_of_lt hE.lt
    have hN23V5 : R22 ≠ w4.heap.size := Nat.ne_of_lt V5.lt
    obtain ⟨W23,hW23,hS23,hL23,V4⟩ := V2.lay w4 25 (.bool false) (.slice none 0 0)
    replace hI := hI.below hL23
    replace ho := ho.below hL23
    replace hE := hE.below hL23
    replace V5 := V5.below hL23
    replace BB := BB.trans (hL23.mono BB.size)
    clear hL23
    rw [← hW23]
    generalize w4.heap.size = R23 at *
    clear hW23 hS23
    refine hK.out _ _ ?_ (fun hH3 => ?_)
    ·exact ⟨hE.1,hE.2⟩
    clear hK K hH2
    (try simp only [Act.put,xL4,xL5,xL6])
    refine xR [9] (h := ?_)
    refine xN (h := fun K hK => ?_)
    have hKp := V4.keepJ (.bool pe) (.slice ae me de)
    have hE_n := hE.other (R := R23) (by omega) (.bool pe) (.slice ae me de)
    have V5_n := V5.other (R := R23) (by omega) (.bool pe) (.slice ae me de)
    have V4_n := V4.same (.bool pe) (.slice ae me de)
    have hI_n := hI.keep hKp
    have ho_n := ho.keep hKp
    have BB_n := below_store2 (R := R23) BB (by omega) (.bool pe) (.slice ae me de)
    clear hKp
    obtain ⟨V4_0,V4_1,V4_2,V4_3⟩ := id V4
    go_simp
    clear V4_0 V4_1 V4_2 V4_3
    clear BB hI ho hE V5 V4
    generalize (W23.setCell ⟨R23,0,none⟩ (.bool pe)).setCell ⟨R23,1,none⟩ (.slice ae me de) = W24 at *
    have BB := BB_n
    have hI := hI_n
    have ho := ho_n
    have hE := hE_n
    have V5 := V5_n
    have V4 := V4_n
    clear BB_n hI_n ho_n hE_n V5_n V4_n
    refine hK.out _ _ ?_ (fun hH4 => ?_)
    ·exact ⟨hE.1,hE.2⟩
    clear hK K hH3
    (try simp only [Act.put,xL4,xL5,xL6])
    refine xR [10] (h := ?_)
    refine xN (h := fun K hK => ?_)
    have hKp := V5.keepJ (.bool po) (.slice ao no co)
    have hE_n := hE.other (R := R22) (by omega) (.bool po) (.slice ao no co)
    have V4_n := V4.other (R := R22) (by omega) (.bool po) (.slice ao no co)
    have V5_n := V5.same (.bool po) (.slice ao no co)
    have hI_n := hI.keep hKp
    have ho_n := ho.keep hKp
    have BB_n := below_store2 (R := R22) BB (by omega) (.bool po) (.slice ao no co)
    clear hKp
    obtain ⟨V5_0,V5_1,V5_2,V5_3⟩ := id V5
    go_simp
    clear V5_0 V5_1 V5_2 V5_3
    clear BB hI ho hE V5 V4
    generalize (W24.setCell ⟨R22,0,none⟩ (.bool po)).setCell ⟨R22,1,none⟩ (.slice ao no co) = W25 at *
    have BB := BB_n
    have hI := hI_n
    have ho := ho_n
    have hE := hE_n
    have V5 := V5_n
    have V4 := V4_n
    clear BB_n hI_n ho_n hE_n V5_n V4_n
    refine hK.out _ _ ?_ (fun hH5 => ?_)
    ·exact ⟨hE.1,hE.2⟩
    clear hK K hH4
    (try simp only [Act.put,xL4,xL5,xL6])
    refine wpAnyH_done (by kernel_rfl) ?_ _
    clear hH5
    go_wp2_with fail
    go_meet
    exact ⟨R23,R22,pe,ae,me,de,po,ao,no,co,rfl,rfl,by omega,by omega,by omega,V4,V5,hI,ho,BB⟩
   refine xC (h := fun K hK => ?_) (hs := ?_)
   ·
    go_simp
    have hZ26 : Wb0.heap.size ≤ W22.heap.size := BB.size
    have hN26hE : b ≠ W22.heap.size := Nat.ne_of_lt hE.lt
    have hN26V5 : R22 ≠ W22.heap.size := Nat.ne_of_lt V5.lt
    obtain ⟨W26,hW26,hS26,hL26,V4⟩ := V2.lay W22 25 (.bool false) (.slice none 0 0)
    replace hI := hI.below hL26
    replace hE := hE.below hL26
    replace V5 := V5.below hL26
    replace BB := BB.trans (hL26.mono BB.size)
    clear hL26
    rw [← hW26]
    generalize W22.heap.size = R26 at *
    clear hW26 hS26
    refine hK.out _ _ ?_ (fun hH2 => ?_)
    ·exact ⟨hE.1,hE.2⟩
    clear hK K hH1
    (try simp only [Act.put,xL4,xL5,xL6])
    refine xR [6] (h := ?_)
    refine xN (h := fun K hK => ?_)
    go_simp
    refine (wof_any 1 _ (by omega) (by omega)).mono ?_
    rintro e w5 ⟨oo,rfl,ho,b5⟩
    obtain ⟨po,ao,no,co,rfl⟩ := ho.open
    go_wp2_with fail
    replace hI := hI.below b5
    replace hE := hE.below b5
    replace V5 := V5.below b5
    replace V4 := V4.below b5
    replace BB := BB.trans (b5.mono BB.size)
    clear b5
    refine hK.out _ _ ?_ (fun hH3 => ?_)
    ·exact ⟨hE.1,hE.2⟩
    clear hK K hH2
    (try simp only [Act.put,xL4,xL5,xL6])
    refine xR [9] (h := ?_)
    refine xN (h := fun K hK => ?_)
    have hKp := V4.keepJ (.bool pe) (.slice ae me de)
    have hE_n := hE.other (R := R26) (by omega) (.bool pe) (.slice ae me de)
    have V5_n := V5.other (R := R26) (by omega) (.bool pe) (.slice ae me de)
    have V4_n := V4.same (.bool pe) (.slice ae me de)
    have hI_n := hI.keep hKp
    have ho_n := ho.keep hKp
    have BB_n := below_store2 (R := R26) BB (by omega) (.bool pe) (.slice ae me de)
    clear hKp
    obtain ⟨V4_0,V4_1,V4_2,V4_3⟩ := id V4
    go_simp
    clear V4_0 V4_1 V4_2 V4_3
    clear BB hI ho hE V5 V4
    generalize (w5.setCell ⟨R26,0,none⟩ (.bool pe)).setCell ⟨R26,1,none⟩ (.slice ae me de) = W27 at *
    have BB := BB_n
    have hI := hI_n
    have ho := ho_n
    have hE := hE_n
    have V5 := V5_n
    have V4 := V4_n
    clear BB_n hI_n ho_n hE_n V5_n V4_n
    refine hK.out _ _ ?_ (fun hH4 => ?_)
    ·exact ⟨hE.1,hE.2⟩
    clear hK K hH3
    (try simp only [Act.put,xL4,xL5,xL6])
    refine xR [10] (h := ?_)
    refine xN (h := fun K hK => ?_)
    have hKp := V5.keepJ (.bool po) (.slice ao no co)
    have hE_n := hE.other (R := R22) (by omega) (.bool po) (.slice ao no co)
    have V4_n := V4.other (R := R22) (by omega) (.bool po) (.slice ao no co)
    have V5_n := V5.same (.bool po) (.slice ao no co)
    have hI_n := hI.keep hKp
    have ho_n := ho.keep hKp
    have BB_n := below_store2 (R := R22) BB (by omega) (.bool po) (.slice ao no co)
    clear hKp
    obtain ⟨V5_0,V5_1,V5_2,V5_3⟩ := id V5
    go_simp
    clear V5_0 V5_1 V5_2 V5_3
    clear BB hI ho hE V5 V4
    generalize (W27.setCell ⟨R22,0,none⟩ (.bool po)).setCell ⟨R22,1,none⟩ (.slice ao no co) = W28 at *
    have BB := BB_n
    have hI := hI_n
    have ho := ho_n
    have hE := hE_n
    have V5 := V5_n
    have V4 := V4_n
    clear BB_n hI_n ho_n hE_n V5_n V4_n
    refine hK.out _ _ ?_ (fun hH5 => ?_)
    ·exact ⟨hE.1,hE.2⟩
    clear hK K hH4
    (try simp only [Act.put,xL4,xL5,xL6])
    refine wpAnyH_done (by kernel_rfl) ?_ _
    clear hH5
    go_wp2_with fail
    go_meet
    exact ⟨R26,R22,pe,ae,me,de,po,ao,no,co,rfl,rfl,by omega,by omega,by omega,V4,V5,hI,ho,BB⟩
   exact AllReadyH.nil
  exact AllReadyH.nil
 case rest =>
  obtain ⟨R4,R5,p4,a4,n4,c4,p5,a5,n5,c5,rfl,rfl,hR45,hR4,hR5,V4,V5,I4,I5,BW⟩ := hcut
  clear hE hI hI1 hI2 hI3 hI4
  replace I5 := I5.at (M + 1) (Nat.le_trans nlw_one (by omega))
  replace I4 := I4.le (show M ≤ M + 1 by omega)
  have d5 : IntKind.i64.wrap ((n : Int) - 1) = (n : Int) - 1 := by rw [IntKind.wrap_i64]; omega
  go_wp2
  go_loopw [22] (fun vi wr => ∃ (i : Nat) (p4 : Bool) (a4 : Option Addr) (n4 c4 : Nat) (p5 : Bool) (a5 : Option Addr) (n5 c5 : Nat),i ≤ k ∧ vi = .int .i64 (i : Int) ∧ V2 wr R4 (.bool p4) (.slice a4 n4 c4) ∧ V2 wr R5 (.bool p5) (.slice a5 n5 c5) ∧ IntAt wr (.agg #[.bool p4,.slice a4 n4 c4]) (unfN Z n i).1 ((M + 1) * (i + 1)) ∧ IntAt wr (.agg #[.bool p5,.slice a5 n5 c5]) (unfN Z n i).2 ((M + 1) * (i + 1)) ∧ Below Wb0.heap.size Wb0 wr) (fun vi _ => (n - intOf vi).toNat)
  case atStart => exact ⟨0,p4,a4,n4,c4,p5,a5,n5,c5,by omega,rfl,V4,V5,(show IntAt _ _ (Z (n - 1)) ((M + 1) * 1) by rw [Nat.mul_one]; exact I4),(show IntAt _ _ 1 ((M + 1) * 1) by rw [Nat.mul_one]; exact I5),BW⟩
  case round =>
   clear V4 V5 I4 I5 BW
   obtain ⟨i,p4,a4,n4,c4,p5,a5,n5,c5,hin,rfl,V4,V5,I4,I5,BW⟩ := hrel
   have hm := HM.out i (by omega)
   have hVR := VR.below BW
   have hrow := hv.below BW
   have htt := ht.below BW
   by_cases hlt : i < k
   ·have j1 : (i : Int) < (n : Int) - 1 := by omega
    have BB := BW
    clear BW
    have hwb : w.heap.size < Wb0.heap.size := VR.lt
    obtain ⟨V4_0,V4_1,V4_2,V4_3⟩ := id V4
    go_wp2_with fail
    clear V4_0 V4_1 V4_2 V4_3
    refine (sign_any _ _ _ _ I4).mono ?_
    rintro e w1 ⟨rfl,b1⟩
    replace I4 := I4.below b1
    replace I5 := I5.below b1
    replace hrow := hrow.below b1
    replace htt := htt.below b1
    replace V4 := V4.below b1
    replace V5 := V5.below b1
    replace hVR := hVR.below b1
    replace BB := BB.trans (b1.mono BB.size)
    clear b1
    have hsg : (cmpI (unfN Z n i).1 0 == 0) = false := by rw [cmpI_zero]; exact decide_eq_false (HNZ.out i hlt)
    generalize cmpI (unfN Z n i).1 0 = cc at *
    obtain ⟨b3,off3,c3,pe,ae,me,de,hve,_,hE,hI⟩ := hrow.at (n - 2 - i) (by omega)
    cases hve
    obtain ⟨J,hJ1,hJ2,hJ3,hJ4⟩ : ∃ J : Int,(n : Int) - 2 - (i : Int) = J ∧ 0 ≤ J ∧ J < (n : Int) ∧ J.toNat = n - 2 - i := ⟨_,rfl,by omega,by omega,by omega⟩
    obtain ⟨e1,e2⟩ := id hE
    have hZ1 : Wb0.heap.size ≤ w1.heap.size := BB.size
    have hN1V4 : R4 ≠ w1.heap.size := Nat.ne_of_lt V4.lt
    have hN1V5 : R5 ≠ w1.heap.size := Nat.ne_of_lt V5.lt
    have hN1hVR : w.heap.size ≠ w1.heap.size := Nat.ne_of_lt hVR.lt
    obtain ⟨W1,hW1,hS1,hL1,V7⟩ := V2.lay w1 25 (.bool pe) (.slice ae me de)
    replace I4 := I4.below hL1
    replace I5 := I5.below hL1
    replace hrow := hrow.below hL1
    replace htt := htt.below hL1
    replace hI := hI.below hL1
    replace V4 := V4.below hL1
    replace V5 := V5.below hL1
    replace hVR := hVR.below hL1
    replace BB := BB.trans (hL1.mono BB.size)
    clear hL1
    go_wp2
    rw [← hW1]
    generalize w1.heap.size = R1 at *
    clear hW1 hS1
    clear e1 e2 hE hrow hJ1 hJ2 hJ3 hJ4
    have l4 := (HU.out i (by omega)).1
    have l5 := (HU.out i (by omega)).2
    have lz := hI.nl
    have lp := nlz_mul lz l4 (Nat.le_refl _)
    have HNX : Hid (unfN Z n (i + 1) = (Z (n - 2 - i) * (unfN Z n i).1 + (unfN Z n i).2,(unfN Z n i).1)) := rfl
    have hm2 : (M + 1) * (i + 1 + 1) = (M + 1) * (i + 1) + (M + 1) := Nat.mul_succ _ _
    have hms := HM.out (i + 1) (by omega)
    have l6 := (HU.out (i + 1) (by omega)).1
    have hnn : n - 2 - i < n := by omega
    generalize hA : (unfN Z n i).1 = A at *
    generalize hC : (unfN Z n i).2 = C at *
    clear hA hC
    have hDr : Below W1.heap.size W1 W1.drew := (Below.refl _ _).drew
    replace I4 := I4.below hDr
    replace I5 := I5.below hDr
    replace htt := htt.below hDr
    replace hI := hI.below hDr
    replace V4 := V4.below hDr
    replace V5 := V5.below hDr
    replace hVR := hVR.below hDr
    replace V7 := V7.below hDr
    replace BB := BB.trans (hDr.mono BB.size)
    clear hDr
    refine wp_region_held_drew (S := (fun w' => w'.cell? ⟨R1,0,none⟩ = some (.bool pe) ∧ w'.cell? ⟨R1,1,none⟩ = some (.slice ae me de))) (by kernel_rfl) ?_ (fun hHeld => ?_)
    ·exact ⟨V7.1,V7.2.1⟩
    generalize W1.drew = W2 at *
    refine xT 0 (v := ?_) (hy := Or.inl ⟨by rfl,?_⟩) (h := ?_)
    rotate_left
    ·(intro w hSw; (try dsimp only at hSw); go_simp; (try with_reducible rfl))
    (try simp only [Act.put,xL4,xL5,xL6])
    refine xR [1,3,5] (h := ?_)
    refine xC (h := fun K hK => ?_) (hs := ?_)
    ·
     obtain ⟨V4_0,V4_1,V4_2,V4_3⟩ := id V4
     go_simp
     clear V4_0 V4_1 V4_2 V4_3
     refine hK.out _ _ ?_ (fun hH1 => ?_)
     ·exact ⟨V7.1,V7.2.1⟩
     clear hK K hHeld
     (try simp only [Act.put,xL4,xL5,xL6])
     refine xR [2,3,5] (h := ?_)
     refine xC (h := fun K hK => ?_) (hs := ?_)
     ·
      go_simp
      refine (wmul_any _ _ (Z (n - 2 - i)) A M ((M + 1) * (i + 1)) _ hI I4 (by omega)).mono ?_
      rintro e w2 ⟨pp,rfl,hp,b2⟩
      go_wp2_with fail
      replace I4 := I4.below b2
      replace I5 := I5.below b2
      replace htt := htt.below b2
      replace hI := hI.below b2
      replace V4 := V4.below b2
      replace V5 := V5.below b2
      replace hVR := hVR.below b2
      replace V7 := V7.below b2
      replace BB := BB.trans (b2.mono BB.size)
      clear b2
      refine hK.out _ _ ?_ (fun hH2 => ?_)
      ·exact ⟨V7.1,V7.2.1⟩
      clear hK K hH1
      (try simp only [Act.put,xL4,xL5,xL6])
      refine xR [3,5] (h := ?_)
      refine xC (h := fun K hK => ?_) (hs := ?_)
      ·
       obtain ⟨V5_0,V5_1,V5_2,V5_3⟩ := id V5
       go_simp
       clear V5_0 V5_1 V5_2 V5_3
       refine hK.out _ _ ?_ (fun hH3 => ?_)
       ·exact ⟨V7.1,V7.2.1⟩
       clear hK K hH2
       (try simp only [Act.put,xL4,xL5,xL6])
       refine xR [4,5] (h := ?_)
       refine xC (h := fun K hK => ?_) (hs := ?_)
       ·
        go_simp
        refine (wadd_any _ _ (Z (n - 2 - i) * A) C (M + (M + 1) * (i + 1)) ((M + 1) * (i + 1)) _ (hp.at _ lp) I5 (by omega) (by omega)).mono ?_
        rintro e w3 ⟨ss,rfl,hs,b3⟩
        obtain ⟨ps,as_,ns,cs,rfl⟩ := hs.open
        go_wp2_with fail
        replace I4 := I4.below b3
        replace I5 := I5.below b3
        replace htt := htt.below b3
        replace hI := hI.below b3
        replace hp := hp.below b3
        replace V4 := V4.below b3
        replace V5 := V5.below b3
        replace hVR := hVR.below b3
        replace V7 := V7.below b3
        replace BB := BB.trans (b3.mono BB.size)
        clear b3
        refine hK.out _ _ ?_ (fun hH4 => ?_)
        ·exact ⟨V7.1,V7.2.1⟩
        clear hK K hH3
        (try simp only [Act.put,xL4,xL5,xL6])
        refine xR [5] (h := ?_)
        refine xN (h := fun K hK => ?_)
        obtain ⟨V4_0,V4_1,V4_2,V4_3⟩ := id V4
        go_simp
        clear V4_0 V4_1 V4_2 V4_3
        refine hK.out _ _ ?_ (fun hH5 => ?_)
        ·exact ⟨V7.1,V7.2.1⟩
        clear hK K hH4
        (try simp only [Act.put,xL4,xL5,xL6])
        refine xR [6] (h := ?_)
        refine xN (h := fun K hK => ?_)
        have hKp := V4.keepJ (.bool ps) (.slice as_ ns cs)
        have V5_n := V5.other (R := R4) (by omega) (.bool ps) (.slice as_ ns cs)
        have hVR_n := hVR.other2 (R := R4) (by omega) (.bool ps) (.slice as_ ns cs)
        have V7_n := V7.other (R := R4) (by omega) (.bool ps) (.slice as_ ns cs)
        have V4_n := V4.same (.bool ps) (.slice as_ ns cs)
        have I4_n := I4.keep hKp
        have I5_n := I5.keep hKp
        have htt_n := htt.keep hKp
        have hI_n := hI.keep hKp
        have hp_n := hp.keep hKp
        have hs_n := hs.keep hKp
        have BB_n := below_store2 (R := R4) BB (by omega) (.bool ps) (.slice as_ ns cs)
        clear hKp
        obtain ⟨V4_0,V4_1,V4_2,V4_3⟩ := id V4
        go_simp
        clear V4_0 V4_1 V4_2 V4_3
        clear BB I4 I5 htt hI hp hs V4 V5 hVR V7
        generalize (w3.setCell ⟨R4,0,none⟩ (.bool ps)).setCell ⟨R4,1,none⟩ (.slice as_ ns cs) = W3 at *
        have BB := BB_n
        have I4 := I4_n
        have I5 := I5_n
        have htt := htt_n
        have hI := hI_n
        have hp := hp_n
        have hs := hs_n
        have V4 := V4_n
        have V5 := V5_n
        have hVR := hVR_n
        have V7 := V7_n
        clear BB_n I4_n I5_n htt_n hI_n hp_n hs_n V4_n V5_n hVR_n V7_n
        refine hK.out _ _ ?_ (fun hH6 => ?_)
        ·exact ⟨V7.1,V7.2.1⟩
        clear hK K hH5
        (try simp only [Act.put,xL4,xL5,xL6])
        refine xR [7] (h := ?_)
        refine xN (h := fun K hK => ?_)
        have hKp := V5.keepJ (.bool p4) (.slice a4 n4 c4)
        have V4_n := V4.other (R := R5) (by omega) (.bool p4) (.slice a4 n4 c4)
        have hVR_n := hVR.other2 (R := R5) (by omega) (.bool p4) (.slice a4 n4 c4)
        have V7_n := V7.other (R := R5) (by omega) (.bool p4) (.slice a4 n4 c4)
        have V5_n := V5.same (.bool p4) (.slice a4 n4 c4)
        have I4_n := I4.keep hKp
        have I5_n := I5.keep hKp
        have htt_n := htt.keep hKp
        have hI_n := hI.keep hKp
        have hp_n := hp.keep hKp
        have hs_n := hs.keep hKp
        have BB_n := below_store2 (R := R5) BB (by omega) (.bool p4) (.slice a4 n4 c4)
        clear hKp
        obtain ⟨V5_0,V5_1,V5_2,V5_3⟩ := id V5
        go_simp
        clear V5_0 V5_1 V5_2 V5_3
        clear BB I4 I5 htt hI hp hs V4 V5 hVR V7
        generalize (W3.setCell ⟨R5,0,none⟩ (.bool p4)).setCell ⟨R5,1,none⟩ (.slice a4 n4 c4) = W4 at *
        have BB := BB_n
        have I4 := I4_n
        have I5 := I5_n
        have htt := htt_n
        have hI := hI_n
        have hp := hp_n
        have hs := hs_n
        have V4 := V4_n
        have V5 := V5_n
        have hVR := hVR_n
        have V7 := V7_n
        clear BB_n I4_n I5_n htt_n hI_n hp_n hs_n V4_n V5_n hVR_n V7_n
        refine hK.out _ _ ?_ (fun hH7 => ?_)
        ·exact ⟨V7.1,V7.2.1⟩
        clear hK K hH6
        (try simp only [Act.put,xL4,xL5,xL6])
        refine wpAnyH_done (by kernel_rfl) ?_ _
        clear hH7
        rw [← show (unfN Z n (i + 1)).1 = Z (n - 2 - i) * A + C from by rw [HNX.out]] at hs
        replace hs := hs.at ((M + 1) * (i + 1 + 1)) l6
        replace I4 := I4.le (show (M + 1) * (i + 1) ≤ (M + 1) * (i + 1 + 1) by omega)
        rw [show A = (unfN Z n (i + 1)).2 from by rw [HNX.out]] at I4
        clear I5 hI hp
        go_wp2
        go_roundw
        case rel => exact ⟨i + 1,ps,as_,ns,cs,p4,a4,n4,c4,by omega,by go_num,V4,V5,hs,I4,BB⟩
        case measure => simp [intOf]; omega
       refine xC (h := fun K hK => ?_) (hs := ?_)
       ·
        obtain ⟨V4_0,V4_1,V4_2,V4_3⟩ := id V4
        go_simp
        clear V4_0 V4_1 V4_2 V4_3
        refine hK.out _ _ ?_ (fun hH4 => ?_)
        ·exact ⟨V7.1,V7.2.1⟩
        clear hK K hH3
        (try simp only [Act.put,xL4,xL5,xL6])
        refine xR [4] (h := ?_)
        refine xN (h := fun K hK => ?_)
        go_simp
        refine (wadd_any _ _ (Z (n - 2 - i) * A) C (M + (M + 1) * (i + 1)) ((M + 1) * (i + 1)) _ (hp.at _ lp) I5 (by omega) (by omega)).mono ?_
        rintro e w4 ⟨ss,rfl,hs,b4⟩
        obtain ⟨ps,as_,ns,cs,rfl⟩ := hs.open
        go_wp2_with fail
        replace I4 := I4.below b4
        replace I5 := I5.below b4
        replace htt := htt.below b4
        replace hI := hI.below b4
        replace hp := hp.below b4
        replace V4 := V4.below b4
        replace V5 := V5.below b4
        replace hVR := hVR.below b4
        replace V7 := V7.below b4
        replace BB := BB.trans (b4.mono BB.size)
        clear b4
        refine hK.out _ _ ?_ (fun hH5 => ?_)
        ·exact ⟨V7.1,V7.2.1⟩
        clear hK K hH4
        (try simp only [Act.put,xL4,xL5,xL6])
        refine xR [6] (h := ?_)
        refine xN (h := fun K hK => ?_)
        have hKp := V4.keepJ (.bool ps) (.slice as_ ns cs)
        have V5_n := V5.other (R := R4) (by omega) (.bool ps) (.slice as_ ns cs)
        have hVR_n := hVR.other2 (R := R4) (by omega) (.bool ps) (.slice as_ ns cs)
        have V7_n := V7.other (R := R4) (by omega) (.bool ps) (.slice as_ ns cs)
        have V4_n := V4.same (.bool ps) (.slice as_ ns cs)
        have I4_n := I4.keep hKp
        have I5_n := I5.keep hKp
        have htt_n := htt.keep hKp
        have hI_n := hI.keep hKp
        have hp_n := hp.keep hKp
        have hs_n := hs.keep hKp
        have BB_n := below_store2 (R := R4) BB (by omega) (.bool ps) (.slice as_ ns cs)
        clear hKp
        obtain ⟨V4_0,V4_1,V4_2,V4_3⟩ := id V4
        go_simp
        clear V4_0 V4_1 V4_2 V4_3
        clear BB I4 I5 htt hI hp hs V4 V5 hVR V7
        generalize (w4.setCell ⟨R4,0,none⟩ (.bool ps)).setCell ⟨R4,1,none⟩ (.slice as_ ns cs) = W5 at *
        have BB := BB_n
        have I4 := I4_n
        have I5 := I5_n
        have htt := htt_n
        have hI := hI_n
        have hp := hp_n
        have hs := hs_n
        have V4 := V4_n
        have V5 := V5_n
        have hVR := hVR_n
        have V7 := V7_n
        clear BB_n I4_n I5_n htt_n hI_n hp_n hs_n V4_n V5_n hVR_n V7_n
        refine hK.out _ _ ?_ (fun hH6 => ?_)
        ·exact ⟨V7.1,V7.2.1⟩
        clear hK K hH5
        (try simp only [Act.put,xL4,xL5,xL6])
        refine xR [7] (h := ?_)
        refine xN (h := fun K hK => ?_)
        have hKp := V5.keepJ (.bool p4) (.slice a4 n4 c4)
        have V4_n := V4.other (R := R5) (by omega) (.bool p4) (.slice a4 n4 c4)
        have hVR_n := hVR.other2 (R := R5) (by omega) (.bool p4) (.slice a4 n4 c4)
        have V7_n := V7.other (R := R5) (by omega) (.bool p4) (.slice a4 n4 c4)
        have V5_n := V5.same (.bool p4) (.slice a4 n4 c4)
        have I4_n := I4.keep hKp
        have I5_n := I5.keep hKp
        have htt_n := htt.keep hKp
        have hI_n := hI.keep hKp
        have hp_n := hp.keep hKp
        have hs_n := hs.keep hKp
        have BB_n := below_store2 (R := R5) BB (by omega) (.bool p4) (.slice a4 n4 c4)
        clear hKp
        obtain ⟨V5_0,V5_1,V5_2,V5_3⟩ := id V5
        go_simp
        clear V5_0 V5_1 V5_2 V5_3
        clear BB I4 I5 htt hI hp hs V4 V5 hVR V7
        generalize (W5.setCell ⟨R5,0,none⟩ (.bool p4)).setCell ⟨R5,1,none⟩ (.slice a4 n4 c4) = W6 at *
        have BB := BB_n
        have I4 := I4_n
        have I5 := I5_n
        have htt := htt_n
        have hI := hI_n
        have hp := hp_n
        have hs := hs_n
        have V4 := V4_n
        have V5 := V5_n
        have hVR := hVR_n
        have V7 := V7_n
        clear BB_n I4_n I5_n htt_n hI_n hp_n hs_n V4_n V5_n hVR_n V7_n
        refine hK.out _ _ ?_ (fun hH7 => ?_)
        ·exact ⟨V7.1,V7.2.1⟩
        clear hK K hH6
        (try simp only [Act.put,xL4,xL5,xL6])
        refine wpAnyH_done (by kernel_rfl) ?_ _
        clear hH7
        rw [← show (unfN Z n (i + 1)).1 = Z (n - 2 - i) * A + C from by rw [HNX.out]] at hs
        replace hs := hs.at ((M + 1) * (i + 1 + 1)) l6
        replace I4 := I4.le (show (M + 1) * (i + 1) ≤ (M + 1) * (i + 1 + 1) by omega)
        rw [show A = (unfN Z n (i + 1)).2 from by rw [HNX.out]] at I4
        clear I5 hI hp
        go_wp2
        go_roundw
        case rel => exact ⟨i + 1,ps,as_,ns,cs,p4,a4,n4,c4,by omega,by go_num,V4,V5,hs,I4,BB⟩
        case measure => simp [intOf]; omega
       exact AllReadyH.nil
      refine xC (h := fun K hK => ?_) (hs := ?_)
      ·
       obtain ⟨V4_0,V4_1,V4_2,V4_3⟩ := id V4
       go_simp
       clear V4_0 V4_1 V4_2 V4_3
       refine hK.out _ _ ?_ (fun hH3 => ?_)
       ·exact ⟨V7.1,V7.2.1⟩
       clear hK K hH2
       (try simp only [Act.put,xL4,xL5,xL6])
       refine xR [3] (h := ?_)
       refine xN (h := fun K hK => ?_)
       obtain ⟨V5_0,V5_1,V5_2,V5_3⟩ := id V5
       go_simp
       clear V5_0 V5_1 V5_2 V5_3
       refine hK.out _ _ ?_ (fun hH4 => ?_)
       ·exact ⟨V7.1,V7.2.1⟩
       clear hK K hH3
       (try simp only [Act.put,xL4,xL5,xL6])
       refine xR [4] (h := ?_)
       refine xN (h := fun K hK => ?_)
       go_simp
       refine (wadd_any _ _ (Z (n - 2 - i) * A) C (M + (M + 1) * (i + 1)) ((M + 1) * (i + 1)) _ (hp.at _ lp) I5 (by omega) (by omega)).mono ?_
       rintro e w5 ⟨ss,rfl,hs,b5⟩
       obtain ⟨ps,as_,ns,cs,rfl⟩ := hs.open
       go_wp2_with fail
       replace I4 := I4.below b5
       replace I5 := I5.below b5
       replace htt := htt.below b5
       replace hI := hI.below b5
       replace hp := hp.below b5
       replace V4 := V4.below b5
       replace V5 := V5.below b5
       replace hVR := hVR.below b5
       replace V7 := V7.below b5
       replace BB := BB.trans (b5.mono BB.size)
       clear b5
       refine hK.out _ _ ?_ (fun hH5 => ?_)
       ·exact ⟨V7.1,V7.2.1⟩
       clear hK K hH4
       (try simp only [Act.put,xL4,xL5,xL6])
       refine xR [6] (h := ?_)
       refine xN (h := fun K hK => ?_)
       have hKp := V4.keepJ (.bool ps) (.slice as_ ns cs)
       have V5_n := V5.other (R := R4) (by omega) (.bool ps) (.slice as_ ns cs)
       have hVR_n := hVR.other2 (R := R4) (by omega) (.bool ps) (.slice as_ ns cs)
       have V7_n := V7.other (R := R4) (by omega) (.bool ps) (.slice as_ ns cs)
       have V4_n := V4.same (.bool ps) (.slice as_ ns cs)
       have I4_n := I4.keep hKp
       have I5_n := I5.keep hKp
       have htt_n := htt.keep hKp
       have hI_n := hI.keep hKp
       have hp_n := hp.keep hKp
       have hs_n := hs.keep hKp
       have BB_n := below_store2 (R := R4) BB (by omega) (.bool ps) (.slice as_ ns cs)
       clear hKp
       obtain ⟨V4_0,V4_1,V4_2,V4_3⟩ := id V4
       go_simp
       clear V4_0 V4_1 V4_2 V4_3
       clear BB I4 I5 htt hI hp hs V4 V5 hVR V7
       generalize (w5.setCell ⟨R4,0,none⟩ (.bool ps)).setCell ⟨R4,1,none⟩ (.slice as_ ns cs) = W7 at *
       have BB := BB_n
       have I4 := I4_n
       have I5 := I5_n
       have htt := htt_n
       have hI := hI_n
       have hp := hp_n
       have hs := hs_n
       have V4 := V4_n
       have V5 := V5_n
       have hVR := hVR_n
       have V7 := V7_n
       clear BB_n I4_n I5_n htt_n hI_n hp_n hs_n V4_n V5_n hVR_n V7_n
       refine hK.out _ _ ?_ (fun hH6 => ?_)
       ·exact ⟨V7.1,V7.2.1⟩
       clear hK K hH5
       (try simp only [Act.put,xL4,xL5,xL6])
       refine xR [7] (h := ?_)
       refine xN (h := fun K hK => ?_)
       have hKp := V5.keepJ (.bool p4) (.slice a4 n4 c4)
       have V4_n := V4.other (R := R5) (by omega) (.bool p4) (.slice a4 n4 c4)
       have hVR_n := hVR.other2 (R := R5) (by omega) (.bool p4) (.slice a4 n4 c4)
       have V7_n := V7.other (R := R5) (by omega) (.bool p4) (.slice a4 n4 c4)
       have V5_n := V5.same (.bool p4) (.slice a4 n4 c4)
       have I4_n := I4.keep hKp
       have I5_n := I5.keep hKp
       have htt_n := htt.keep hKp
       have hI_n := hI.keep hKp
       have hp_n := hp.keep hKp
       have hs_n := hs.keep hKp
       have BB_n := below_store2 (R := R5) BB (by omega) (.bool p4) (.slice a4 n4 c4)
       clear hKp
       obtain ⟨V5_0,V5_1,V5_2,V5_3⟩ := id V5
       go_simp
       clear V5_0 V5_1 V5_2 V5_3
       clear BB I4 I5 htt hI hp hs V4 V5 hVR V7
       generalize (W7.setCell ⟨R5,0,none⟩ (.bool p4)).setCell ⟨R5,1,none⟩ (.slice a4 n4 c4) = W8 at *
       have BB := BB_n
       have I4 := I4_n
       have I5 := I5_n
       have htt := htt_n
       have hI := hI_n
       have hp := hp_n
       have hs := hs_n
       have V4 := V4_n
       have V5 := V5_n
       have hVR := hVR_n
       have V7 := V7_n
       clear BB_n I4_n I5_n htt_n hI_n hp_n hs_n V4_n V5_n hVR_n V7_n
       refine hK.out _ _ ?_ (fun hH7 => ?_)
       ·exact ⟨V7.1,V7.2.1⟩
       clear hK K hH6
       (try simp only [Act.put,xL4,xL5,xL6])
       refine wpAnyH_done (by kernel_rfl) ?_ _
       clear hH7
       rw [← show (unfN Z n (i + 1)).1 = Z (n - 2 - i) * A + C from by rw [HNX.out]] at hs
       replace hs := hs.at ((M + 1) * (i + 1 + 1)) l6
       replace I4 := I4.le (show (M + 1) * (i + 1) ≤ (M + 1) * (i + 1 + 1) by omega)
       rw [show A = (unfN Z n (i + 1)).2 from by rw [HNX.out]] at I4
       clear I5 hI hp
       go_wp2
       go_roundw
       case rel => exact ⟨i + 1,ps,as_,ns,cs,p4,a4,n4,c4,by omega,by go_num,V4,V5,hs,I4,BB⟩
       case measure => simp [intOf]; omega
      exact AllReadyH.nil
     refine xC (h := fun K hK => ?_) (hs := ?_)
     ·
      obtain ⟨V5_0,V5_1,V5_2,V5_3⟩ := id V5
      go_simp
      clear V5_0 V5_1 V5_2 V5_3
      refine hK.out _ _ ?_ (fun hH2 => ?_)
      ·exact ⟨V7.1,V7.2.1⟩
      clear hK K hH1
      (try simp only [Act.put,xL4,xL5,xL6])
      refine xR [2,5] (h := ?_)
      refine xC (h := fun K hK => ?_) (hs := ?_)
      ·
       go_simp
       refine (wmul_any _ _ (Z (n - 2 - i)) A M ((M + 1) * (i + 1)) _ hI I4 (by omega)).mono ?_
       rintro e w6 ⟨pp,rfl,hp,b6⟩
       go_wp2_with fail
       replace I4 := I4.below b6
       replace I5 := I5.below b6
       replace htt := htt.below b6
       replace hI := hI.below b6
       replace V4 := V4.below b6
       replace V5 := V5.below b6
       replace hVR := hVR.below b6
       replace V7 := V7.below b6
       replace BB := BB.trans (b6.mono BB.size)
       clear b6
       refine hK.out _ _ ?_ (fun hH3 => ?_)
       ·exact ⟨V7.1,V7.2.1⟩
       clear hK K hH2
       (try simp only [Act.put,xL4,xL5,xL6])
       refine xR [4,5] (h := ?_)
       refine xC (h := fun K hK => ?_) (hs := ?_)
       ·
        go_simp
        refine (wadd_any _ _ (Z (n - 2 - i) * A) C (M + (M + 1) * (i + 1)) ((M + 1) * (i + 1)) _ (hp.at _ lp) I5 (by omega) (by omega)).mono ?_
        rintro e w7 ⟨ss,rfl,hs,b7⟩
        obtain ⟨ps,as_,ns,cs,rfl⟩ := hs.open
        go_wp2_with fail
        replace I4 := I4.below b7
        replace I5 := I5.below b7
        replace htt := htt.below b7
        replace hI := hI.below b7
        replace hp := hp.below b7
        replace V4 := V4.below b7
        replace V5 := V5.below b7
        replace hVR := hVR.below b7
        replace V7 := V7.below b7
        replace BB := BB.trans (b7.mono BB.size)
        clear b7
        refine hK.out _ _ ?_ (fun hH4 => ?_)
        ·exact ⟨V7.1,V7.2.1⟩
        clear hK K hH3
        (try simp only [Act.put,xL4,xL5,xL6])
        refine xR [5] (h := ?_)
        refine xN (h := fun K hK => ?_)
        obtain ⟨V4_0,V4_1,V4_2,V4_3⟩ := id V4
        go_simp
        clear V4_0 V4_1 V4_2 V4_3
        refine hK.out _ _ ?_ (fun hH5 => ?_)
        ·exact ⟨V7.1,V7.2.1⟩
        clear hK K hH4
        (try simp only [Act.put,xL4,xL5,xL6])
        refine xR [6] (h := ?_)
        refine xN (h := fun K hK => ?_)
        have hKp := V4.keepJ (.bool ps) (.slice as_ ns cs)
        have V5_n := V5.other (R := R4) (by omega) (.bool ps) (.slice as_ ns cs)
        have hVR_n := hVR.other2 (R := R4) (by omega) (.bool ps) (.slice as_ ns cs)
        have V7_n := V7.other (R := R4) (by omega) (.bool ps) (.slice as_ ns cs)
        have V4_n := V4.same (.bool ps) (.slice as_ ns cs)
        have I4_n := I4.keep hKp
        have I5_n := I5.keep hKp
        have htt_n := htt.keep hKp
        have hI_n := hI.keep hKp
        have hp_n := hp.keep hKp
        have hs_n := hs.keep hKp
        have BB_n := below_store2 (R := R4) BB (by omega) (.bool ps) (.slice as_ ns cs)
        clear hKp
        obtain ⟨V4_0,V4_1,V4_2,V4_3⟩ := id V4
        go_simp
        clear V4_0 V4_1 V4_2 V4_3
        clear BB I4 I5 htt hI hp hs V4 V5 hVR V7
        generalize (w7.setCell ⟨R4,0,none⟩ (.bool ps)).setCell ⟨R4,1,none⟩ (.slice as_ ns cs) = W9 at *
        have BB := BB_n
        have I4 := I4_n
        have I5 := I5_n
        have htt := htt_n
        have hI := hI_n
        have hp := hp_n
        have hs := hs_n
        have V4 := V4_n
        have V5 := V5_n
        have hVR := hVR_n
        have V7 := V7_n
        clear BB_n I4_n I5_n htt_n hI_n hp_n hs_n V4_n V5_n hVR_n V7_n
        refine hK.out _ _ ?_ (fun hH6 => ?_)
        ·exact ⟨V7.1,V7.2.1⟩
        clear hK K hH5
        (try simp only [Act.put,xL4,xL5,xL6])
        refine xR [7] (h := ?_)
        refine xN (h := fun K hK => ?_)
        have hKp := V5.keepJ (.bool p4) (.slice a4 n4 c4)
        have V4_n := V4.other (R := R5) (by omega) (.bool p4) (.slice a4 n4 c4)
        have hVR_n := hVR.other2 (R := R5) (by omega) (.bool p4) (.slice a4 n4 c4)
        have V7_n := V7.other (R := R5) (by omega) (.bool p4) (.slice a4 n4 c4)
        have V5_n := V5.same (.bool p4) (.slice a4 n4 c4)
        have I4_n := I4.keep hKp
        have I5_n := I5.keep hKp
        have htt_n := htt.keep hKp
        have hI_n := hI.keep hKp
        have hp_n := hp.keep hKp
        have hs_n := hs.keep hKp
        have BB_n := below_store2 (R := R5) BB (by omega) (.bool p4) (.slice a4 n4 c4)
        clear hKp
        obtain ⟨V5_0,V5_1,V5_2,V5_3⟩ := id V5
        go_simp
        clear V5_0 V5_1 V5_2 V5_3
        clear BB I4 I5 htt hI hp hs V4 V5 hVR V7
        generalize (W9.setCell ⟨R5,0,none⟩ (.bool p4)).setCell ⟨R5,1,none⟩ (.slice a4 n4 c4) = W10 at *
        have BB := BB_n
        have I4 := I4_n
        have I5 := I5_n
        have htt := htt_n
        have hI := hI_n
        have hp := hp_n
        have hs := hs_n
        have V4 := V4_n
        have V5 := V5_n
        have hVR := hVR_n
        have V7 := V7_n
        clear BB_n I4_n I5_n htt_n hI_n hp_n hs_n V4_n V5_n hVR_n V7_n
        refine hK.out _ _ ?_ (fun hH7 => ?_)
        ·exact ⟨V7.1,V7.2.1⟩
        clear hK K hH6
        (try simp only [Act.put,xL4,xL5,xL6])
        refine wpAnyH_done (by kernel_rfl) ?_ _
        clear hH7
        rw [← show (unfN Z n (i + 1)).1 = Z (n - 2 - i) * A + C from by rw [HNX.out]] at hs
        replace hs := hs.at ((M + 1) * (i + 1 + 1)) l6
        replace I4 := I4.le (show (M + 1) * (i + 1) ≤ (M + 1) * (i + 1 + 1) by omega)
        rw [show A = (unfN Z n (i + 1)).2 from by rw [HNX.out]] at I4
        clear I5 hI hp
        go_wp2
        go_roundw
        case rel => exact ⟨i + 1,ps,as_,ns,cs,p4,a4,n4,c4,by omega,by go_num,V4,V5,hs,I4,BB⟩
        case measure => simp [intOf]; omega
       refine xC (h := fun K hK => ?_) (hs := ?_)
       ·
        obtain ⟨V4_0,V4_1,V4_2,V4_3⟩ := id V4
        go_simp
        clear V4_0 V4_1 V4_2 V4_3
        refine hK.out _ _ ?_ (fun hH4 => ?_)
        ·exact ⟨V7.1,V7.2.1⟩
        clear hK K hH3
        (try simp only [Act.put,xL4,xL5,xL6])
        refine xR [4] (h := ?_)
        refine xN (h := fun K hK => ?_)
        go_simp
        refine (wadd_any _ _ (Z (n - 2 - i) * A) C (M + (M + 1) * (i + 1)) ((M + 1) * (i + 1)) _ (hp.at _ lp) I5 (by omega) (by omega)).mono ?_
        rintro e w8 ⟨ss,rfl,hs,b8⟩
        obtain ⟨ps,as_,ns,cs,rfl⟩ := hs.open
        go_wp2_with fail
        replace I4 := I4.below b8
        replace I5 := I5.below b8
        replace htt := htt.below b8
        replace hI := hI.below b8
        replace hp := hp.below b8
        replace V4 := V4.below b8
        replace V5 := V5.below b8
        replace hVR := hVR.below b8
        replace V7 := V7.below b8
        replace BB := BB.trans (b8.mono BB.size)
        clear b8
        refine hK.out _ _ ?_ (fun hH5 => ?_)
        ·exact ⟨V7.1,V7.2.1⟩
        clear hK K hH4
        (try simp only [Act.put,xL4,xL5,xL6])
        refine xR [6] (h := ?_)
        refine xN (h := fun K hK => ?_)
        have hKp := V4.keepJ (.bool ps) (.slice as_ ns cs)
        have V5_n := V5.other (R := R4) (by omega) (.bool ps) (.slice as_ ns cs)
        have hVR_n := hVR.other2 (R := R4) (by omega) (.bool ps) (.slice as_ ns cs)
        have V7_n := V7.other (R := R4) (by omega) (.bool ps) (.slice as_ ns cs)
        have V4_n := V4.same (.bool ps) (.slice as_ ns cs)
        have I4_n := I4.keep hKp
        have I5_n := I5.keep hKp
        have htt_n := htt.keep hKp
        have hI_n := hI.keep hKp
        have hp_n := hp.keep hKp
        have hs_n := hs.keep hKp
        have BB_n := below_store2 (R := R4) BB (by omega) (.bool ps) (.slice as_ ns cs)
        clear hKp
        obtain ⟨V4_0,V4_1,V4_2,V4_3⟩ := id V4
        go_simp
        clear V4_0 V4_1 V4_2 V4_3
        clear BB I4 I5 htt hI hp hs V4 V5 hVR V7
        generalize (w8.setCell ⟨R4,0,none⟩ (.bool ps)).setCell ⟨R4,1,none⟩ (.slice as_ ns cs) = W11 at *
        have BB := BB_n
        have I4 := I4_n
        have I5 := I5_n
        have htt := htt_n
        have hI := hI_n
        have hp := hp_n
        have hs := hs_n
        have V4 := V4_n
        have V5 := V5_n
        have hVR := hVR_n
        have V7 := V7_n
        clear BB_n I4_n I5_n htt_n hI_n hp_n hs_n V4_n V5_n hVR_n V7_n
        refine hK.out _ _ ?_ (fun hH6 => ?_)
        ·exact ⟨V7.1,V7.2.1⟩
        clear hK K hH5
        (try simp only [Act.put,xL4,xL5,xL6])
        refine xR [7] (h := ?_)
        refine xN (h := fun K hK => ?_)
        have hKp := V5.keepJ (.bool p4) (.slice a4 n4 c4)
        have V4_n := V4.other (R := R5) (by omega) (.bool p4) (.slice a4 n4 c4)
        have hVR_n := hVR.other2 (R := R5) (by omega) (.bool p4) (.slice a4 n4 c4)
        have V7_n := V7.other (R := R5) (by omega) (.bool p4) (.slice a4 n4 c4)
        have V5_n := V5.same (.bool p4) (.slice a4 n4 c4)
        have I4_n := I4.keep hKp
        have I5_n := I5.keep hKp
        have htt_n := htt.keep hKp
        have hI_n := hI.keep hKp
        have hp_n := hp.keep hKp
        have hs_n := hs.keep hKp
        have BB_n := below_store2 (R := R5) BB (by omega) (.bool p4) (.slice a4 n4 c4)
        clear hKp
        obtain ⟨V5_0,V5_1,V5_2,V5_3⟩ := id V5
        go_simp
        clear V5_0 V5_1 V5_2 V5_3
        clear BB I4 I5 htt hI hp hs V4 V5 hVR V7
        generalize (W11.setCell ⟨R5,0,none⟩ (.bool p4)).setCell ⟨R5,1,none⟩ (.slice a4 n4 c4) = W12 at *
        have BB := BB_n
        have I4 := I4_n
        have I5 := I5_n
        have htt := htt_n
        have hI := hI_n
        have hp := hp_n
        have hs := hs_n
        have V4 := V4_n
        have V5 := V5_n
        have hVR := hVR_n
        have V7 := V7_n
        clear BB_n I4_n I5_n htt_n hI_n hp_n hs_n V4_n V5_n hVR_n V7_n
        refine hK.out _ _ ?_ (fun hH7 => ?_)
        ·exact ⟨V7.1,V7.2.1⟩
        clear hK K hH6
        (try simp only [Act.put,xL4,xL5,xL6])
        refine wpAnyH_done (by kernel_rfl) ?_ _
        clear hH7
        rw [← show (unfN Z n (i + 1)).1 = Z (n - 2 - i) * A + C from by rw [HNX.out]] at hs
        replace hs := hs.at ((M + 1) * (i + 1 + 1)) l6
        replace I4 := I4.le (show (M + 1) * (i + 1) ≤ (M + 1) * (i + 1 + 1) by omega)
        rw [show A = (unfN Z n (i + 1)).2 from by rw [HNX.out]] at I4
        clear I5 hI hp
        go_wp2
        go_roundw
        case rel => exact ⟨i + 1,ps,as_,ns,cs,p4,a4,n4,c4,by omega,by go_num,V4,V5,hs,I4,BB⟩
        case measure => simp [intOf]; omega
       exact AllReadyH.nil
      refine xC (h := fun K hK => ?_) (hs := ?_)
      ·
       obtain ⟨V4_0,V4_1,V4_2,V4_3⟩ := id V4
       go_simp
       clear V4_0 V4_1 V4_2 V4_3
       refine hK.out _ _ ?_ (fun hH3 => ?_)
       ·exact ⟨V7.1,V7.2.1⟩
       clear hK K hH2
       (try simp only [Act.put,xL4,xL5,xL6])
       refine xR [2] (h := ?_)
       refine xN (h := fun K hK => ?_)
       go_simp
       refine (wmul_any _ _ (Z (n - 2 - i)) A M ((M + 1) * (i + 1)) _ hI I4 (by omega)).mono ?_
       rintro e w9 ⟨pp,rfl,hp,b9⟩
       go_wp2_with fail
       replace I4 := I4.below b9
       replace I5 := I5.below b9
       replace htt := htt.below b9
       replace hI := hI.below b9
       replace V4 := V4.below b9
       replace V5 := V5.below b9
       replace hVR := hVR.below b9
       replace V7 := V7.below b9
       replace BB := BB.trans (b9.mono BB.size)
       clear b9
       refine hK.out _ _ ?_ (fun hH4 => ?_)
       ·exact ⟨V7.1,V7.2.1⟩
       clear hK K hH3
       (try simp only [Act.put,xL4,xL5,xL6])
       refine xR [4] (h := ?_)
       refine xN (h := fun K hK => ?_)
       go_simp
       refine (wadd_any _ _ (Z (n - 2 - i) * A) C (M + (M + 1) * (i + 1)) ((M + 1) * (i + 1)) _ (hp.at _ lp) I5 (by omega) (by omega)).mono ?_
       rintro e w10 ⟨ss,rfl,hs,b10⟩
       obtain ⟨ps,as_,ns,cs,rfl⟩ := hs.open
       go_wp2_with fail
       replace I4 := I4.below b10
       replace I5 := I5.below b10
       replace htt := htt.below b10
       replace hI := hI.below b10
       replace hp := hp.below b10
       replace V4 := V4.below b10
       replace V5 := V5.below b10
       replace hVR := hVR.below b10
       replace V7 := V7.below b10
       replace BB := BB.trans (b10.mono BB.size)
       clear b10
       refine hK.out _ _ ?_ (fun hH5 => ?_)
       ·exact ⟨V7.1,V7.2.1⟩
       clear hK K hH4
       (try simp only [Act.put,xL4,xL5,xL6])
       refine xR [6] (h := ?_)
       refine xN (h := fun K hK => ?_)
       have hKp := V4.keepJ (.bool ps) (.slice as_ ns cs)
       have V5_n := V5.other (R := R4) (by omega) (.bool ps) (.slice as_ ns cs)
       have hVR_n := hVR.other2 (R := R4) (by omega) (.bool ps) (.slice as_ ns cs)
       have V7_n := V7.other (R := R4) (by omega) (.bool ps) (.slice as_ ns cs)
       have V4_n := V4.same (.bool ps) (.slice as_ ns cs)
       have I4_n := I4.keep hKp
       have I5_n := I5.keep hKp
       have htt_n := htt.keep hKp
       have hI_n := hI.keep hKp
       have hp_n := hp.keep hKp
       have hs_n := hs.keep hKp
       have BB_n := below_store2 (R := R4) BB (by omega) (.bool ps) (.slice as_ ns cs)
       clear hKp
       obtain ⟨V4_0,V4_1,V4_2,V4_3⟩ := id V4
       go_simp
       clear V4_0 V4_1 V4_2 V4_3
       clear BB I4 I5 htt hI hp hs V4 V5 hVR V7
       generalize (w10.setCell ⟨R4,0,none⟩ (.bool ps)).setCell ⟨R4,1,none⟩ (.slice as_ ns cs) = W13 at *
       have BB := BB_n
       have I4 := I4_n
       have I5 := I5_n
       have htt := htt_n
       have hI := hI_n
       have hp := hp_n
       have hs := hs_n
       have V4 := V4_n
       have V5 := V5_n
       have hVR := hVR_n
       have V7 := V7_n
       clear BB_n I4_n I5_n htt_n hI_n hp_n hs_n V4_n V5_n hVR_n V7_n
       refine hK.out _ _ ?_ (fun hH6 => ?_)
       ·exact ⟨V7.1,V7.2.1⟩
       clear hK K hH5
       (try simp only [Act.put,xL4,xL5,xL6])
       refine xR [7] (h := ?_)
       refine xN (h := fun K hK => ?_)
       have hKp := V5.keepJ (.bool p4) (.slice a4 n4 c4)
       have V4_n := V4.other (R := R5) (by omega) (.bool p4) (.slice a4 n4 c4)
       have hVR_n := hVR.other2 (R := R5) (by omega) (.bool p4) (.slice a4 n4 c4)
       have V7_n := V7.other (R := R5) (by omega) (.bool p4) (.slice a4 n4 c4)
       have V5_n := V5.same (.bool p4) (.slice a4 n4 c4)
       have I4_n := I4.keep hKp
       have I5_n := I5.keep hKp
       have htt_n := htt.keep hKp
       have hI_n := hI.keep hKp
       have hp_n := hp.keep hKp
       have hs_n := hs.keep hKp
       have BB_n := below_store2 (R := R5) BB (by omega) (.bool p4) (.slice a4 n4 c4)
       clear hKp
       obtain ⟨V5_0,V5_1,V5_2,V5_3⟩ := id V5
       go_simp
       clear V5_0 V5_1 V5_2 V5_3
       clear BB I4 I5 htt hI hp hs V4 V5 hVR V7
       generalize (W13.setCell ⟨R5,0,none⟩ (.bool p4)).setCell ⟨R5,1,none⟩ (.slice a4 n4 c4) = W14 at *
       have BB := BB_n
       have I4 := I4_n
       have I5 := I5_n
       have htt := htt_n
       have hI := hI_n
       have hp := hp_n
       have hs := hs_n
       have V4 := V4_n
       have V5 := V5_n
       have hVR := hVR_n
       have V7 := V7_n
       clear BB_n I4_n I5_n htt_n hI_n hp_n hs_n V4_n V5_n hVR_n V7_n
       refine hK.out _ _ ?_ (fun hH7 => ?_)
       ·exact ⟨V7.1,V7.2.1⟩
       clear hK K hH6
       (try simp only [Act.put,xL4,xL5,xL6])
       refine wpAnyH_done (by kernel_rfl) ?_ _
       clear hH7
       rw [← show (unfN Z n (i + 1)).1 = Z (n - 2 - i) * A + C from by rw [HNX.out]] at hs
       replace hs := hs.at ((M + 1) * (i + 1 + 1)) l6
       replace I4 := I4.le (show (M + 1) * (i + 1) ≤ (M + 1) * (i + 1 + 1) by omega)
       rw [show A = (unfN Z n (i + 1)).2 from by rw [HNX.out]] at I4
       clear I5 hI hp
       go_wp2
       go_roundw
       case rel => exact ⟨i + 1,ps,as_,ns,cs,p4,a4,n4,c4,by omega,by go_num,V4,V5,hs,I4,BB⟩
       case measure => simp [intOf]; omega
      exact AllReadyH.nil
     refine xC (h := fun K hK => ?_) (hs := ?_)
     ·
      obtain ⟨V4_0,V4_1,V4_2,V4_3⟩ := id V4
      go_simp
      clear V4_0 V4_1 V4_2 V4_3
      refine hK.out _ _ ?_ (fun hH2 => ?_)
      ·exact ⟨V7.1,V7.2.1⟩
      clear hK K hH1
      (try simp only [Act.put,xL4,xL5,xL6])
      refine xR [2,3] (h := ?_)
      refine xC (h := fun K hK => ?_) (hs := ?_)
      ·
       go_simp
       refine (wmul_any _ _ (Z (n - 2 - i)) A M ((M + 1) * (i + 1)) _ hI I4 (by omega)).mono ?_
       rintro e w11 ⟨pp,rfl,hp,b11⟩
       go_wp2_with fail
       replace I4 := I4.below b11
       replace I5 := I5.below b11
       replace htt := htt.below b11
       replace hI := hI.below b11
       replace V4 := V4.below b11
       replace V5 := V5.below b11
       replace hVR := hVR.below b11
       replace V7 := V7.below b11
       replace BB := BB.trans (b11.mono BB.size)
       clear b11
       refine hK.out _ _ ?_ (fun hH3 => ?_)
       ·exact ⟨V7.1,V7.2.1⟩
       clear hK K hH2
       (try simp only [Act.put,xL4,xL5,xL6])
       refine xR [3] (h := ?_)
       refine xN (h := fun K hK => ?_)
       obtain ⟨V5_0,V5_1,V5_2,V5_3⟩ := id V5
       go_simp
       clear V5_0 V5_1 V5_2 V5_3
       refine hK.out _ _ ?_ (fun hH4 => ?_)
       ·exact ⟨V7.1,V7.2.1⟩
       clear hK K hH3
       (try simp only [Act.put,xL4,xL5,xL6])
       refine xR [4] (h := ?_)
       refine xN (h := fun K hK => ?_)
       go_simp
       refine (wadd_any _ _ (Z (n - 2 - i) * A) C (M + (M + 1) * (i + 1)) ((M + 1) * (i + 1)) _ (hp.at _ lp) I5 (by omega) (by omega)).mono ?_
       rintro e w12 ⟨ss,rfl,hs,b12⟩
       obtain ⟨ps,as_,ns,cs,rfl⟩ := hs.open
       go_wp2_with fail
       replace I4 := I4.below b12
       replace I5 := I5.below b12
       replace htt := htt.below b12
       replace hI := hI.below b12
       replace hp := hp.below b12
       replace V4 := V4.below b12
       replace V5 := V5.below b12
       replace hVR := hVR.below b12
       replace V7 := V7.below b12
       replace BB := BB.trans (b12.mono BB.size)
       clear b12
       refine hK.out _ _ ?_ (fun hH5 => ?_)
       ·exact ⟨V7.1,V7.2.1⟩
       clear hK K hH4
       (try simp only [Act.put,xL4,xL5,xL6])
       refine xR [6] (h := ?_)
       refine xN (h := fun K hK => ?_)
       have hKp := V4.keepJ (.bool ps) (.slice as_ ns cs)
       have V5_n := V5.other (R := R4) (by omega) (.bool ps) (.slice as_ ns cs)
       have hVR_n := hVR.other2 (R := R4) (by omega) (.bool ps) (.slice as_ ns cs)
       have V7_n := V7.other (R := R4) (by omega) (.bool ps) (.slice as_ ns cs)
       have V4_n := V4.same (.bool ps) (.slice as_ ns cs)
       have I4_n := I4.keep hKp
       have I5_n := I5.keep hKp
       have htt_n := htt.keep hKp
       have hI_n := hI.keep hKp
       have hp_n := hp.keep hKp
       have hs_n := hs.keep hKp
       have BB_n := below_store2 (R := R4) BB (by omega) (.bool ps) (.slice as_ ns cs)
       clear hKp
       obtain ⟨V4_0,V4_1,V4_2,V4_3⟩ := id V4
       go_simp
       clear V4_0 V4_1 V4_2 V4_3
       clear BB I4 I5 htt hI hp hs V4 V5 hVR V7
       generalize (w12.setCell ⟨R4,0,none⟩ (.bool ps)).setCell ⟨R4,1,none⟩ (.slice as_ ns cs) = W15 at *
       have BB := BB_n
       have I4 := I4_n
       have I5 := I5_n
       have htt := htt_n
       have hI := hI_n
       have hp := hp_n
       have hs := hs_n
       have V4 := V4_n
       have V5 := V5_n
       have hVR := hVR_n
       have V7 := V7_n
       clear BB_n I4_n I5_n htt_n hI_n hp_n hs_n V4_n V5_n hVR_n V7_n
       refine hK.out _ _ ?_ (fun hH6 => ?_)
       ·exact ⟨V7.1,V7.2.1⟩
       clear hK K hH5
       (try simp only [Act.put,xL4,xL5,xL6])
       refine xR [7] (h := ?_)
       refine xN (h := fun K hK => ?_)
       have hKp := V5.keepJ (.bool p4) (.slice a4 n4 c4)
       have V4_n := V4.other (R := R5) (by omega) (.bool p4) (.slice a4 n4 c4)
       have hVR_n := hVR.other2 (R := R5) (by omega) (.bool p4) (.slice a4 n4 c4)
       have V7_n := V7.other (R := R5) (by omega) (.bool p4) (.slice a4 n4 c4)
       have V5_n := V5.same (.bool p4) (.slice a4 n4 c4)
       have I4_n := I4.keep hKp
       have I5_n := I5.keep hKp
       have htt_n := htt.keep hKp
       have hI_n := hI.keep hKp
       have hp_n := hp.keep hKp
       have hs_n := hs.keep hKp
       have BB_n := below_store2 (R := R5) BB (by omega) (.bool p4) (.slice a4 n4 c4)
       clear hKp
       obtain ⟨V5_0,V5_1,V5_2,V5_3⟩ := id V5
       go_simp
       clear V5_0 V5_1 V5_2 V5_3
       clear BB I4 I5 htt hI hp hs V4 V5 hVR V7
       generalize (W15.setCell ⟨R5,0,none⟩ (.bool p4)).setCell ⟨R5,1,none⟩ (.slice a4 n4 c4) = W16 at *
       have BB := BB_n
       have I4 := I4_n
       have I5 := I5_n
       have htt := htt_n
       have hI := hI_n
       have hp := hp_n
       have hs := hs_n
       have V4 := V4_n
       have V5 := V5_n
       have hVR := hVR_n
       have V7 := V7_n
       clear BB_n I4_n I5_n htt_n hI_n hp_n hs_n V4_n V5_n hVR_n V7_n
       refine hK.out _ _ ?_ (fun hH7 => ?_)
       ·exact ⟨V7.1,V7.2.1⟩
       clear hK K hH6
       (try simp only [Act.put,xL4,xL5,xL6])
       refine wpAnyH_done (by kernel_rfl) ?_ _
       clear hH7
       rw [← show (unfN Z n (i + 1)).1 = Z (n - 2 - i) * A + C from by rw [HNX.out]] at hs
       replace hs := hs.at ((M + 1) * (i + 1 + 1)) l6
       replace I4 := I4.le (show (M + 1) * (i + 1) ≤ (M + 1) * (i + 1 + 1) by omega)
       rw [show A = (unfN Z n (i + 1)).2 from by rw [HNX.out]] at I4
       clear I5 hI hp
       go_wp2
       go_roundw
       case rel => exact ⟨i + 1,ps,as_,ns,cs,p4,a4,n4,c4,by omega,by go_num,V4,V5,hs,I4,BB⟩
       case measure => simp [intOf]; omega
      refine xC (h := fun K hK => ?_) (hs := ?_)
      ·
       obtain ⟨V5_0,V5_1,V5_2,V5_3⟩ := id V5
       go_simp
       clear V5_0 V5_1 V5_2 V5_3
       refine hK.out _ _ ?_ (fun hH3 => ?_)
       ·exact ⟨V7.1,V7.2.1⟩
       clear hK K hH2
       (try simp only [Act.put,xL4,xL5,xL6])
       refine xR [2] (h := ?_)
       refine xN (h := fun K hK => ?_)
       go_simp
       refine (wmul_any _ _ (Z (n - 2 - i)) A M ((M + 1) * (i + 1)) _ hI I4 (by omega)).mono ?_
       rintro e w13 ⟨pp,rfl,hp,b13⟩
       go_wp2_with fail
       replace I4 := I4.below b13
       replace I5 := I5.below b13
       replace htt := htt.below b13
       replace hI := hI.below b13
       replace V4 := V4.below b13
       replace V5 := V5.below b13
       replace hVR := hVR.below b13
       replace V7 := V7.below b13
       replace BB := BB.trans (b13.mono BB.size)
       clear b13
       refine hK.out _ _ ?_ (fun hH4 => ?_)
       ·exact ⟨V7.1,V7.2.1⟩
       clear hK K hH3
       (try simp only [Act.put,xL4,xL5,xL6])
       refine xR [4] (h := ?_)
       refine xN (h := fun K hK => ?_)
       go_simp
       refine (wadd_any _ _ (Z (n - 2 - i) * A) C (M + (M + 1) * (i + 1)) ((M + 1) * (i + 1)) _ (hp.at _ lp) I5 (by omega) (by omega)).mono ?_
       rintro e w14 ⟨ss,rfl,hs,b14⟩
       obtain ⟨ps,as_,ns,cs,rfl⟩ := hs.open
       go_wp2_with fail
       replace I4 := I4.below b14
       replace I5 := I5.below b14
       replace htt := htt.below b14
       replace hI := hI.below b14
       replace hp := hp.below b14
       replace V4 := V4.below b14
       replace V5 := V5.below b14
       replace hVR := hVR.below b14
       replace V7 := V7.below b14
       replace BB := BB.trans (b14.mono BB.size)
       clear b14
       refine hK.out _ _ ?_ (fun hH5 => ?_)
       ·exact ⟨V7.1,V7.2.1⟩
       clear hK K hH4
       (try simp only [Act.put,xL4,xL5,xL6])
       refine xR [6] (h := ?_)
       refine xN (h := fun K hK => ?_)
       have hKp := V4.keepJ (.bool ps) (.slice as_ ns cs)
       have V5_n := V5.other (R := R4) (by omega) (.bool ps) (.slice as_ ns cs)
       have hVR_n := hVR.other2 (R := R4) (by omega) (.bool ps) (.slice as_ ns cs)
       have V7_n := V7.other (R := R4) (by omega) (.bool ps) (.slice as_ ns cs)
       have V4_n := V4.same (.bool ps) (.slice as_ ns cs)
       have I4_n := I4.keep hKp
       have I5_n := I5.keep hKp
       have htt_n := htt.keep hKp
       have hI_n := hI.keep hKp
       have hp_n := hp.keep hKp
       have hs_n := hs.keep hKp
       have BB_n := below_store2 (R := R4) BB (by omega) (.bool ps) (.slice as_ ns cs)
       clear hKp
       obtain ⟨V4_0,V4_1,V4_2,V4_3⟩ := id V4
       go_simp
       clear V4_0 V4_1 V4_2 V4_3
       clear BB I4 I5 htt hI hp hs V4 V5 hVR V7
       generalize (w14.setCell ⟨R4,0,none⟩ (.bool ps)).setCell ⟨R4,1,none⟩ (.slice as_ ns cs) = W17 at *
       have BB := BB_n
       have I4 := I4_n
       have I5 := I5_n
       have htt := htt_n
       have hI := hI_n
       have hp := hp_n
       have hs := hs_n
       have V4 := V4_n
       have V5 := V5_n
       have hVR := hVR_n
       have V7 := V7_n
       clear BB_n I4_n I5_n htt_n hI_n hp_n hs_n V4_n V5_n hVR_n V7_n
       refine hK.out _ _ ?_ (fun hH6 => ?_)
       ·exact ⟨V7.1,V7.2.1⟩
       clear hK K hH5
       (try simp only [Act.put,xL4,xL5,xL6])
       refine xR [7] (h := ?_)
       refine xN (h := fun K hK => ?_)
       have hKp := V5.keepJ (.bool p4) (.slice a4 n4 c4)
       have V4_n := V4.other (R := R5) (by omega) (.bool p4) (.slice a4 n4 c4)
       have hVR_n := hVR.other2 (R := R5) (by omega) (.bool p4) (.slice a4 n4 c4)
       have V7_n := V7.other (R := R5) (by omega) (.bool p4) (.slice a4 n4 c4)
       have V5_n := V5.same (.bool p4) (.slice a4 n4 c4)
       have I4_n := I4.keep hKp
       have I5_n := I5.keep hKp
       have htt_n := htt.keep hKp
       have hI_n := hI.keep hKp
       have hp_n := hp.keep hKp
       have hs_n := hs.keep hKp
       have BB_n := below_store2 (R := R5) BB (by omega) (.bool p4) (.slice a4 n4 c4)
       clear hKp
       obtain ⟨V5_0,V5_1,V5_2,V5_3⟩ := id V5
       go_simp
       clear V5_0 V5_1 V5_2 V5_3
       clear BB I4 I5 htt hI hp hs V4 V5 hVR V7
       generalize (W17.setCell ⟨R5,0,none⟩ (.bool p4)).setCell ⟨R5,1,none⟩ (.slice a4 n4 c4) = W18 at *
       have BB := BB_n
       have I4 := I4_n
       have I5 := I5_n
       have htt := htt_n
       have hI := hI_n
       have hp := hp_n
       have hs := hs_n
       have V4 := V4_n
       have V5 := V5_n
       have hVR := hVR_n
       have V7 := V7_n
       clear BB_n I4_n I5_n htt_n hI_n hp_n hs_n V4_n V5_n hVR_n V7_n
       refine hK.out _ _ ?_ (fun hH7 => ?_)
       ·exact ⟨V7.1,V7.2.1⟩
       clear hK K hH6
       (try simp only [Act.put,xL4,xL5,xL6])
       refine wpAnyH_done (by kernel_rfl) ?_ _
       clear hH7
       rw [← show (unfN Z n (i + 1)).1 = Z (n - 2 - i) * A + C from by rw [HNX.out]] at hs
       replace hs := hs.at ((M + 1) * (i + 1 + 1)) l6
       replace I4 := I4.le (show (M + 1) * (i + 1) ≤ (M + 1) * (i + 1 + 1) by omega)
       rw [show A = (unfN Z n (i + 1)).2 from by rw [HNX.out]] at I4
       clear I5 hI hp
       go_wp2
       go_roundw
       case rel => exact ⟨i + 1,ps,as_,ns,cs,p4,a4,n4,c4,by omega,by go_num,V4,V5,hs,I4,BB⟩
       case measure => simp [intOf]; omega
      exact AllReadyH.nil
     exact AllReadyH.nil
    refine xC (h := fun K hK => ?_) (hs := ?_)
    ·
     obtain ⟨V5_0,V5_1,V5_2,V5_3⟩ := id V5
     go_simp
     clear V5_0 V5_1 V5_2 V5_3
     refine hK.out _ _ ?_ (fun hH1 => ?_)
     ·exact ⟨V7.1,V7.2.1⟩
     clear hK K hHeld
     (try simp only [Act.put,xL4,xL5,xL6])
     refine xR [1,5] (h := ?_)
     refine xC (h := fun K hK => ?_) (hs := ?_)
     ·
      obtain ⟨V4_0,V4_1,V4_2,V4_3⟩ := id V4
      go_simp
      clear V4_0 V4_1 V4_2 V4_3
      refine hK.out _ _ ?_ (fun hH2 => ?_)
      ·exact ⟨V7.1,V7.2.1⟩
      clear hK K hH1
      (try simp only [Act.put,xL4,xL5,xL6])
      refine xR [2,5] (h := ?_)
      refine xC (h := fun K hK => ?_) (hs := ?_)
      ·
       go_simp
       refine (wmul_any _ _ (Z (n - 2 - i)) A M ((M + 1) * (i + 1)) _ hI I4 (by omega)).mono ?_
       rintro e w15 ⟨pp,rfl,hp,b15⟩
       go_wp2_with fail
       replace I4 := I4.below b15
       replace I5 := I5.below b15
       replace htt := htt.below b15
       replace hI := hI.below b15
       replace V4 := V4.below b15
       replace V5 := V5.below b15
       replace hVR := hVR.below b15
       replace V7 := V7.below b15
       replace BB := BB.trans (b15.mono BB.size)
       clear b15
       refine hK.out _ _ ?_ (fun hH3 => ?_)
       ·exact ⟨V7.1,V7.2.1⟩
       clear hK K hH2
       (try simp only [Act.put,xL4,xL5,xL6])
       refine xR [4,5] (h := ?_)
       refine xC (h := fun K hK => ?_) (hs := ?_)
       ·
        go_simp
        refine (wadd_any _ _ (Z (n - 2 - i) * A) C (M + (M + 1) * (i + 1)) ((M + 1) * (i + 1)) _ (hp.at _ lp) I5 (by omega) (by omega)).mono ?_
        rintro e w16 ⟨ss,rfl,hs,b16⟩
        obtain ⟨ps,as_,ns,cs,rfl⟩ := hs.open
        go_wp2_with fail
        replace I4 := I4.below b16
        replace I5 := I5.below b16
        replace htt := htt.below b16
        replace hI := hI.below b16
        replace hp := hp.below b16
        replace V4 := V4.below b16
        replace V5 := V5.below b16
        replace hVR := hVR.below b16
        replace V7 := V7.below b16
        replace BB := BB.trans (b16.mono BB.size)
        clear b16
        refine hK.out _ _ ?_ (fun hH4 => ?_)
        ·exact ⟨V7.1,V7.2.1⟩
        clear hK K hH3
        (try simp only [Act.put,xL4,xL5,xL6])
        refine xR [5] (h := ?_)
        refine xN (h := fun K hK => ?_)
        obtain ⟨V4_0,V4_1,V4_2,V4_3⟩ := id V4
        go_simp
        clear V4_0 V4_1 V4_2 V4_3
        refine hK.out _ _ ?_ (fun hH5 => ?_)
        ·exact ⟨V7.1,V7.2.1⟩
        clear hK K hH4
        (try simp only [Act.put,xL4,xL5,xL6])
        refine xR [6] (h := ?_)
        refine xN (h := fun K hK => ?_)
        have hKp := V4.keepJ (.bool ps) (.slice as_ ns cs)
        have V5_n := V5.other (R := R4) (by omega) (.bool ps) (.slice as_ ns cs)
        have hVR_n := hVR.other2 (R := R4) (by omega) (.bool ps) (.slice as_ ns cs)
        have V7_n := V7.other (R := R4) (by omega) (.bool ps) (.slice as_ ns cs)
        have V4_n := V4.same (.bool ps) (.slice as_ ns cs)
        have I4_n := I4.keep hKp
        have I5_n := I5.keep hKp
        have htt_n := htt.keep hKp
        have hI_n := hI.keep hKp
        have hp_n := hp.keep hKp
        have hs_n := hs.keep hKp
        have BB_n := below_store2 (R := R4) BB (by omega) (.bool ps) (.slice as_ ns cs)
        clear hKp
        obtain ⟨V4_0,V4_1,V4_2,V4_3⟩ := id V4
        go_simp
        clear V4_0 V4_1 V4_2 V4_3
        clear BB I4 I5 htt hI hp hs V4 V5 hVR V7
        generalize (w16.setCell ⟨R4,0,none⟩ (.bool ps)).setCell ⟨R4,1,none⟩ (.slice as_ ns cs) = W19 at *
        have BB := BB_n
        have I4 := I4_n
        have I5 := I5_n
        have htt := htt_n
        have hI := hI_n
        have hp := hp_n
        have hs := hs_n
        have V4 := V4_n
        have V5 := V5_n
        have hVR := hVR_n
        have V7 := V7_n
        clear BB_n I4_n I5_n htt_n hI_n hp_n hs_n V4_n V5_n hVR_n V7_n
        refine hK.out _ _ ?_ (fun hH6 => ?_)
        ·exact ⟨V7.1,V7.2.1⟩
        clear hK K hH5
        (try simp only [Act.put,xL4,xL5,xL6])
        refine xR [7] (h := ?_)
        refine xN (h := fun K hK => ?_)
        have hKp := V5.keepJ (.bool p4) (.slice a4 n4 c4)
        have V4_n := V4.other (R := R5) (by omega) (.bool p4) (.slice a4 n4 c4)
        have hVR_n := hVR.other2 (R := R5) (by omega) (.bool p4) (.slice a4 n4 c4)
        have V7_n := V7.other (R := R5) (by omega) (.bool p4) (.slice a4 n4 c4)
        have V5_n := V5.same (.bool p4) (.slice a4 n4 c4)
        have I4_n := I4.keep hKp
        have I5_n := I5.keep hKp
        have htt_n := htt.keep hKp
        have hI_n := hI.keep hKp
        have hp_n := hp.keep hKp
        have hs_n := hs.keep hKp
        have BB_n := below_store2 (R := R5) BB (by omega) (.bool p4) (.slice a4 n4 c4)
        clear hKp
        obtain ⟨V5_0,V5_1,V5_2,V5_3⟩ := id V5
        go_simp
        clear V5_0 V5_1 V5_2 V5_3
        clear BB I4 I5 htt hI hp hs V4 V5 hVR V7
        generalize (W19.setCell ⟨R5,0,none⟩ (.bool p4)).setCell ⟨R5,1,none⟩ (.slice a4 n4 c4) = W20 at *
        have BB := BB_n
        have I4 := I4_n
        have I5 := I5_n
        have htt := htt_n
        have hI := hI_n
        have hp := hp_n
        have hs := hs_n
        have V4 := V4_n
        have V5 := V5_n
        have hVR := hVR_n
        have V7 := V7_n
        clear BB_n I4_n I5_n htt_n hI_n hp_n hs_n V4_n V5_n hVR_n V7_n
        refine hK.out _ _ ?_ (fun hH7 => ?_)
        ·exact ⟨V7.1,V7.2.1⟩
        clear hK K hH6
        (try simp only [Act.put,xL4,xL5,xL6])
        refine wpAnyH_done (by kernel_rfl) ?_ _
        clear hH7
        rw [← show (unfN Z n (i + 1)).1 = Z (n - 2 - i) * A + C from by rw [HNX.out]] at hs
        replace hs := hs.at ((M + 1) * (i + 1 + 1)) l6
        replace I4 := I4.le (show (M + 1) * (i + 1) ≤ (M + 1) * (i + 1 + 1) by omega)
        rw [show A = (unfN Z n (i + 1)).2 from by rw [HNX.out]] at I4
        clear I5 hI hp
        go_wp2
        go_roundw
        case rel => exact ⟨i + 1,ps,as_,ns,cs,p4,a4,n4,c4,by omega,by go_num,V4,V5,hs,I4,BB⟩
        case measure => simp [intOf]; omega
       refine xC (h := fun K hK => ?_) (hs := ?_)
       ·
        obtain ⟨V4_0,V4_1,V4_2,V4_3⟩ := id V4
        go_simp
        clear V4_0 V4_1 V4_2 V4_3
        refine hK.out _ _ ?_ (fun hH4 => ?_)
        ·exact ⟨V7.1,V7.2.1⟩
        clear hK K hH3
        (try simp only [Act.put,xL4,xL5,xL6])
        refine xR [4] (h := ?_)
        refine xN (h := fun K hK => ?_)
        go_simp
        refine (wadd_any _ _ (Z (n - 2 - i) * A) C (M + (M + 1) * (i + 1)) ((M + 1) * (i + 1)) _ (hp.at _ lp) I5 (by omega) (by omega)).mono ?_
        rintro e w17 ⟨ss,rfl,hs,b17⟩
        obtain ⟨ps,as_,ns,cs,rfl⟩ := hs.open
        go_wp2_with fail
        replace I4 := I4.below b17
        replace I5 := I5.below b17
        replace htt := htt.below b17
        replace hI := hI.below b17
        replace hp := hp.below b17
        replace V4 := V4.below b17
        replace V5 := V5.below b17
        replace hVR := hVR.below b17
        replace V7 := V7.below b17
        replace BB := BB.trans (b17.mono BB.size)
        clear b17
        refine hK.out _ _ ?_ (fun hH5 => ?_)
        ·exact ⟨V7.1,V7.2.1⟩
        clear hK K hH4
        (try simp only [Act.put,xL4,xL5,xL6])
        refine xR [6] (h := ?_)
        refine xN (h := fun K hK => ?_)
        have hKp := V4.keepJ (.bool ps) (.slice as_ ns cs)
        have V5_n := V5.other (R := R4) (by omega) (.bool ps) (.slice as_ ns cs)
        have hVR_n := hVR.other2 (R := R4) (by omega) (.bool ps) (.slice as_ ns cs)
        have V7_n := V7.other (R := R4) (by omega) (.bool ps) (.slice as_ ns cs)
        have V4_n := V4.same (.bool ps) (.slice as_ ns cs)
        have I4_n := I4.keep hKp
        have I5_n := I5.keep hKp
        have htt_n := htt.keep hKp
        have hI_n := hI.keep hKp
        have hp_n := hp.keep hKp
        have hs_n := hs.keep hKp
        have BB_n := below_store2 (R := R4) BB (by omega) (.bool ps) (.slice as_ ns cs)
        clear hKp
        obtain ⟨V4_0,V4_1,V4_2,V4_3⟩ := id V4
        go_simp
        clear V4_0 V4_1 V4_2 V4_3
        clear BB I4 I5 htt hI hp hs V4 V5 hVR V7
        generalize (w17.setCell ⟨R4,0,none⟩ (.bool ps)).setCell ⟨R4,1,none⟩ (.slice as_ ns cs) = W21 at *
        have BB := BB_n
        have I4 := I4_n
        have I5 := I5_n
        have htt := htt_n
        have hI := hI_n
        have hp := hp_n
        have hs := hs_n
        have V4 := V4_n
        have V5 := V5_n
        have hVR := hVR_n
        have V7 := V7_n
        clear BB_n I4_n I5_n htt_n hI_n hp_n hs_n V4_n V5_n hVR_n V7_n
        refine hK.out _ _ ?_ (fun hH6 => ?_)
        ·exact ⟨V7.1,V7.2.1⟩
        clear hK K hH5
        (try simp only [Act.put,xL4,xL5,xL6])
        refine xR [7] (h := ?_)
        refine xN (h := fun K hK => ?_)
        have hKp := V5.keepJ (.bool p4) (.slice a4 n4 c4)
        have V4_n := V4.other (R := R5) (by omega) (.bool p4) (.slice a4 n4 c4)
        have hVR_n := hVR.other2 (R := R5) (by omega) (.bool p4) (.slice a4 n4 c4)
        have V7_n := V7.other (R := R5) (by omega) (.bool p4) (.slice a4 n4 c4)
        have V5_n := V5.same (.bool p4) (.slice a4 n4 c4)
        have I4_n := I4.keep hKp
        have I5_n := I5.keep hKp
        have htt_n := htt.keep hKp
        have hI_n := hI.keep hKp
        have hp_n := hp.keep hKp
        have hs_n := hs.keep hKp
        have BB_n := below_store2 (R := R5) BB (by omega) (.bool p4) (.slice a4 n4 c4)
        clear hKp
        obtain ⟨V5_0,V5_1,V5_2,V5_3⟩ := id V5
        go_simp
        clear V5_0 V5_1 V5_2 V5_3
        clear BB I4 I5 htt hI hp hs V4 V5 hVR V7
        generalize (W21.setCell ⟨R5,0,none⟩ (.bool p4)).setCell ⟨R5,1,none⟩ (.slice a4 n4 c4) = W22 at *
        have BB := BB_n
        have I4 := I4_n
        have I5 := I5_n
        have htt := htt_n
        have hI := hI_n
        have hp := hp_n
        have hs := hs_n
        have V4 := V4_n
        have V5 := V5_n
        have hVR := hVR_n
        have V7 := V7_n
        clear BB_n I4_n I5_n htt_n hI_n hp_n hs_n V4_n V5_n hVR_n V7_n
        refine hK.out _ _ ?_ (fun hH7 => ?_)
        ·exact ⟨V7.1,V7.2.1⟩
        clear hK K hH6
        (try simp only [Act.put,xL4,xL5,xL6])
        refine wpAnyH_done (by kernel_rfl) ?_ _
        clear hH7
        rw [← show (unfN Z n (i + 1)).1 = Z (n - 2 - i) * A + C from by rw [HNX.out]] at hs
        replace hs := hs.at ((M + 1) * (i + 1 + 1)) l6
        replace I4 := I4.le (show (M + 1) * (i + 1) ≤ (M + 1) * (i + 1 + 1) by omega)
        rw [show A = (unfN Z n (i + 1)).2 from by rw [HNX.out]] at I4
        clear I5 hI hp
        go_wp2
        go_roundw
        case rel => exact ⟨i + 1,ps,as_,ns,cs,p4,a4,n4,c4,by omega,by go_num,V4,V5,hs,I4,BB⟩
        case measure => simp [intOf]; omega
       exact AllReadyH.nil
      refine xC (h := fun K hK => ?_) (hs := ?_)
      ·
       obtain ⟨V4_0,V4_1,V4_2,V4_3⟩ := id V4
       go_simp
       clear V4_0 V4_1 V4_2 V4_3
       refine hK.out _ _ ?_ (fun hH3 => ?_)
       ·exact ⟨V7.1,V7.2.1⟩
       clear hK K hH2
       (try simp only [Act.put,xL4,xL5,xL6])
       refine xR [2] (h := ?_)
       refine xN (h := fun K hK => ?_)
       go_simp
       refine (wmul_any _ _ (Z (n - 2 - i)) A M ((M + 1) * (i + 1)) _ hI I4 (by omega)).mono ?_
       rintro e w18 ⟨pp,rfl,hp,b18⟩
       go_wp2_with fail
       replace I4 := I4.below b18
       replace I5 := I5.below b18
       replace htt := htt.below b18
       replace hI := hI.below b18
       replace V4 := V4.below b18
       replace V5 := V5.below b18
       replace hVR := hVR.below b18
       replace V7 := V7.below b18
       replace BB := BB.trans (b18.mono BB.size)
       clear b18
       refine hK.out _ _ ?_ (fun hH4 => ?_)
       ·exact ⟨V7.1,V7.2.1⟩
       clear hK K hH3
       (try simp only [Act.put,xL4,xL5,xL6])
       refine xR [4] (h := ?_)
       refine xN (h := fun K hK => ?_)
       go_simp
       refine (wadd_any _ _ (Z (n - 2 - i) * A) C (M + (M + 1) * (i + 1)) ((M + 1) * (i + 1)) _ (hp.at _ lp) I5 (by omega) (by omega)).mono ?_
       rintro e w19 ⟨ss,rfl,hs,b19⟩
       obtain ⟨ps,as_,ns,cs,rfl⟩ := hs.open
       go_wp2_with fail
       replace I4 := I4.below b19
       replace I5 := I5.below b19
       replace htt := htt.below b19
       replace hI := hI.below b19
       replace hp := hp.below b19
       replace V4 := V4.below b19
       replace V5 := V5.below b19
       replace hVR := hVR.below b19
       replace V7 := V7.below b19
       replace BB := BB.trans (b19.mono BB.size)
       clear b19
       refine hK.out _ _ ?_ (fun hH5 => ?_)
       ·exact ⟨V7.1,V7.2.1⟩
       clear hK K hH4
       (try simp only [Act.put,xL4,xL5,xL6])
       refine xR [6] (h := ?_)
       refine xN (h := fun K hK => ?_)
       have hKp := V4.keepJ (.bool ps) (.slice as_ ns cs)
       have V5_n := V5.other (R := R4) (by omega) (.bool ps) (.slice as_ ns cs)
       have hVR_n := hVR.other2 (R := R4) (by omega) (.bool ps) (.slice as_ ns cs)
       have V7_n := V7.other (R := R4) (by omega) (.bool ps) (.slice as_ ns cs)
       have V4_n := V4.same (.bool ps) (.slice as_ ns cs)
       have I4_n := I4.keep hKp
       have I5_n := I5.keep hKp
       have htt_n := htt.keep hKp
       have hI_n := hI.keep hKp
       have hp_n := hp.keep hKp
       have hs_n := hs.keep hKp
       have BB_n := below_store2 (R := R4) BB (by omega) (.bool ps) (.slice as_ ns cs)
       clear hKp
       obtain ⟨V4_0,V4_1,V4_2,V4_3⟩ := id V4
       go_simp
       clear V4_0 V4_1 V4_2 V4_3
       clear BB I4 I5 htt hI hp hs V4 V5 hVR V7
       generalize (w19.setCell ⟨R4,0,none⟩ (.bool ps)).setCell ⟨R4,1,none⟩ (.slice as_ ns cs) = W23 at *
       have BB := BB_n
       have I4 := I4_n
       have I5 := I5_n
       have htt := htt_n
       have hI := hI_n
       have hp := hp_n
       have hs := hs_n
       have V4 := V4_n
       have V5 := V5_n
       have hVR := hVR_n
       have V7 := V7_n
       clear BB_n I4_n I5_n htt_n hI_n hp_n hs_n V4_n V5_n hVR_n V7_n
       refine hK.out _ _ ?_ (fun hH6 => ?_)
       ·exact ⟨V7.1,V7.2.1⟩
       clear hK K hH5
       (try simp only [Act.put,xL4,xL5,xL6])
       refine xR [7] (h := ?_)
       refine xN (h := fun K hK => ?_)
       have hKp := V5.keepJ (.bool p4) (.slice a4 n4 c4)
       have V4_n := V4.other (R := R5) (by omega) (.bool p4) (.slice a4 n4 c4)
       have hVR_n := hVR.other2 (R := R5) (by omega) (.bool p4) (.slice a4 n4 c4)
       have V7_n := V7.other (R := R5) (by omega) (.bool p4) (.slice a4 n4 c4)
       have V5_n := V5.same (.bool p4) (.slice a4 n4 c4)
       have I4_n := I4.keep hKp
       have I5_n := I5.keep hKp
       have htt_n := htt.keep hKp
       have hI_n := hI.keep hKp
       have hp_n := hp.keep hKp
       have hs_n := hs.keep hKp
       have BB_n := below_store2 (R := R5) BB (by omega) (.bool p4) (.slice a4 n4 c4)
       clear hKp
       obtain ⟨V5_0,V5_1,V5_2,V5_3⟩ := id V5
       go_simp
       clear V5_0 V5_1 V5_2 V5_3
       clear BB I4 I5 htt hI hp hs V4 V5 hVR V7
       generalize (W23.setCell ⟨R5,0,none⟩ (.bool p4)).setCell ⟨R5,1,none⟩ (.slice a4 n4 c4) = W24 at *
       have BB := BB_n
       have I4 := I4_n
       have I5 := I5_n
       have htt := htt_n
       have hI := hI_n
       have hp := hp_n
       have hs := hs_n
       have V4 := V4_n
       have V5 := V5_n
       have hVR := hVR_n
       have V7 := V7_n
       clear BB_n I4_n I5_n htt_n hI_n hp_n hs_n V4_n V5_n hVR_n V7_n
       refine hK.out _ _ ?_ (fun hH7 => ?_)
       ·exact ⟨V7.1,V7.2.1⟩
       clear hK K hH6
       (try simp only [Act.put,xL4,xL5,xL6])
       refine wpAnyH_done (by kernel_rfl) ?_ _
       clear hH7
       rw [← show (unfN Z n (i + 1)).1 = Z (n - 2 - i) * A + C from by rw [HNX.out]] at hs
       replace hs := hs.at ((M + 1) * (i + 1 + 1)) l6
       replace I4 := I4.le (show (M + 1) * (i + 1) ≤ (M + 1) * (i + 1 + 1) by omega)
       rw [show A = (unfN Z n (i + 1)).2 from by rw [HNX.out]] at I4
       clear I5 hI hp
       go_wp2
       go_roundw
       case rel => exact ⟨i + 1,ps,as_,ns,cs,p4,a4,n4,c4,by omega,by go_num,V4,V5,hs,I4,BB⟩
       case measure => simp [intOf]; omega
      exact AllReadyH.nil
     refine xC (h := fun K hK => ?_) (hs := ?_)
     ·
      obtain ⟨V4_0,V4_1,V4_2,V4_3⟩ := id V4
      go_simp
      clear V4_0 V4_1 V4_2 V4_3
      refine hK.out _ _ ?_ (fun hH2 => ?_)
      ·exact ⟨V7.1,V7.2.1⟩
      clear hK K hH1
      (try simp only [Act.put,xL4,xL5,xL6])
      refine xR [1] (h := ?_)
      refine xN (h := fun K hK => ?_)
      obtain ⟨V4_0,V4_1,V4_2,V4_3⟩ := id V4
      go_simp
      clear V4_0 V4_1 V4_2 V4_3
      refine hK.out _ _ ?_ (fun hH3 => ?_)
      ·exact ⟨V7.1,V7.2.1⟩
      clear hK K hH2
      (try simp only [Act.put,xL4,xL5,xL6])
      refine xR [2] (h := ?_)
      refine xN (h := fun K hK => ?_)
      go_simp
      refine (wmul_any _ _ (Z (n - 2 - i)) A M ((M + 1) * (i + 1)) _ hI I4 (by omega)).mono ?_
      rintro e w20 ⟨pp,rfl,hp,b20⟩
      go_wp2_with fail
      replace I4 := I4.below b20
      replace I5 := I5.below b20
      replace htt := htt.below b20
      replace hI := hI.below b20
      replace V4 := V4.below b20
      replace V5 := V5.below b20
      replace hVR := hVR.below b20
      replace V7 := V7.below b20
      replace BB := BB.trans (b20.mono BB.size)
      clear b20
      refine hK.out _ _ ?_ (fun hH4 => ?_)
      ·exact ⟨V7.1,V7.2.1⟩
      clear hK K hH3
      (try simp only [Act.put,xL4,xL5,xL6])
      refine xR [4] (h := ?_)
      refine xN (h := fun K hK => ?_)
      go_simp
      refine (wadd_any _ _ (Z (n - 2 - i) * A) C (M + (M + 1) * (i + 1)) ((M + 1) * (i + 1)) _ (hp.at _ lp) I5 (by omega) (by omega)).mono ?_
      rintro e w21 ⟨ss,rfl,hs,b21⟩
      obtain ⟨ps,as_,ns,cs,rfl⟩ := hs.open
      go_wp2_with fail
      replace I4 := I4.below b21
      replace I5 := I5.below b21
      replace htt := htt.below b21
      replace hI := hI.below b21
      replace hp := hp.below b21
      replace V4 := V4.below b21
      replace V5 := V5.below b21
      replace hVR := hVR.below b21
      replace V7 := V7.below b21
      replace BB := BB.trans (b21.mono BB.size)
      clear b21
      refine hK.out _ _ ?_ (fun hH5 => ?_)
      ·exact ⟨V7.1,V7.2.1⟩
      clear hK K hH4
      (try simp only [Act.put,xL4,xL5,xL6])
      refine xR [6] (h := ?_)
      refine xN (h := fun K hK => ?_)
      have hKp := V4.keepJ (.bool ps) (.slice as_ ns cs)
      have V5_n := V5.other (R := R4) (by omega) (.bool ps) (.slice as_ ns cs)
      have hVR_n := hVR.other2 (R := R4) (by omega) (.bool ps) (.slice as_ ns cs)
      have V7_n := V7.other (R := R4) (by omega) (.bool ps) (.slice as_ ns cs)
      have V4_n := V4.same (.bool ps) (.slice as_ ns cs)
      have I4_n := I4.keep hKp
      have I5_n := I5.keep hKp
      have htt_n := htt.keep hKp
      have hI_n := hI.keep hKp
      have hp_n := hp.keep hKp
      have hs_n := hs.keep hKp
      have BB_n := below_store2 (R := R4) BB (by omega) (.bool ps) (.slice as_ ns cs)
      clear hKp
      obtain ⟨V4_0,V4_1,V4_2,V4_3⟩ := id V4
      go_simp
      clear V4_0 V4_1 V4_2 V4_3
      clear BB I4 I5 htt hI hp hs V4 V5 hVR V7
      generalize (w21.setCell ⟨R4,0,none⟩ (.bool ps)).setCell ⟨R4,1,none⟩ (.slice as_ ns cs) = W25 at *
      have BB := BB_n
      have I4 := I4_n
      have I5 := I5_n
      have htt := htt_n
      have hI := hI_n
      have hp := hp_n
      have hs := hs_n
      have V4 := V4_n
      have V5 := V5_n
      have hVR := hVR_n
      have V7 := V7_n
      clear BB_n I4_n I5_n htt_n hI_n hp_n hs_n V4_n V5_n hVR_n V7_n
      refine hK.out _ _ ?_ (fun hH6 => ?_)
      ·exact ⟨V7.1,V7.2.1⟩
      clear hK K hH5
      (try simp only [Act.put,xL4,xL5,xL6])
      refine xR [7] (h := ?_)
      refine xN (h := fun K hK => ?_)
      have hKp := V5.keepJ (.bool p4) (.slice a4 n4 c4)
      have V4_n := V4.other (R := R5) (by omega) (.bool p4) (.slice a4 n4 c4)
      have hVR_n := hVR.other2 (R := R5) (by omega) (.bool p4) (.slice a4 n4 c4)
      have V7_n := V7.other (R := R5) (by omega) (.bool p4) (.slice a4 n4 c4)
      have V5_n := V5.same (.bool p4) (.slice a4 n4 c4)
      have I4_n := I4.keep hKp
      have I5_n := I5.keep hKp
      have htt_n := htt.keep hKp
      have hI_n := hI.keep hKp
      have hp_n := hp.keep hKp
      have hs_n := hs.keep hKp
      have BB_n := below_store2 (R := R5) BB (by omega) (.bool p4) (.slice a4 n4 c4)
      clear hKp
      obtain ⟨V5_0,V5_1,V5_2,V5_3⟩ := id V5
      go_simp
      clear V5_0 V5_1 V5_2 V5_3
      clear BB I4 I5 htt hI hp hs V4 V5 hVR V7
      generalize (W25.setCell ⟨R5,0,none⟩ (.bool p4)).setCell ⟨R5,1,none⟩ (.slice a4 n4 c4) = W26 at *
      have BB := BB_n
      have I4 := I4_n
      have I5 := I5_n
      have htt := htt_n
      have hI := hI_n
      have hp := hp_n
      have hs := hs_n
      have V4 := V4_n
      have V5 := V5_n
      have hVR := hVR_n
      have V7 := V7_n
      clear BB_n I4_n I5_n htt_n hI_n hp_n hs_n V4_n V5_n hVR_n V7_n
      refine hK.out _ _ ?_ (fun hH7 => ?_)
      ·exact ⟨V7.1,V7.2.1⟩
      clear hK K hH6
      (try simp only [Act.put,xL4,xL5,xL6])
      refine wpAnyH_done (by kernel_rfl) ?_ _
      clear hH7
      rw [← show (unfN Z n (i + 1)).1 = Z (n - 2 - i) * A + C from by rw [HNX.out]] at hs
      replace hs := hs.at ((M + 1) * (i + 1 + 1)) l6
      replace I4 := I4.le (show (M + 1) * (i + 1) ≤ (M + 1) * (i + 1 + 1) by omega)
      rw [show A = (unfN Z n (i + 1)).2 from by rw [HNX.out]] at I4
      clear I5 hI hp
      go_wp2
      go_roundw
      case rel => exact ⟨i + 1,ps,as_,ns,cs,p4,a4,n4,c4,by omega,by go_num,V4,V5,hs,I4,BB⟩
      case measure => simp [intOf]; omega
     exact AllReadyH.nil
    refine xC (h := fun K hK => ?_) (hs := ?_)
    ·
     obtain ⟨V4_0,V4_1,V4_2,V4_3⟩ := id V4
     go_simp
     clear V4_0 V4_1 V4_2 V4_3
     refine hK.out _ _ ?_ (fun hH1 => ?_)
     ·exact ⟨V7.1,V7.2.1⟩
     clear hK K hHeld
     (try simp only [Act.put,xL4,xL5,xL6])
     refine xR [1,3] (h := ?_)
     refine xC (h := fun K hK => ?_) (hs := ?_)
     ·
      obtain ⟨V4_0,V4_1,V4_2,V4_3⟩ := id V4
      go_simp
      clear V4_0 V4_1 V4_2 V4_3
      refine hK.out _ _ ?_ (fun hH2 => ?_)
      ·exact ⟨V7.1,V7.2.1⟩
      clear hK K hH1
      (try simp only [Act.put,xL4,xL5,xL6])
      refine xR [2,3] (h := ?_)
      refine xC (h := fun K hK => ?_) (hs := ?_)
      ·
       go_simp
       refine (wmul_any _ _ (Z (n - 2 - i)) A M ((M + 1) * (i + 1)) _ hI I4 (by omega)).mono ?_
       rintro e w22 ⟨pp,rfl,hp,b22⟩
       go_wp2_with fail
       replace I4 := I4.below b22
       replace I5 := I5.below b22
       replace htt := htt.below b22
       replace hI := hI.below b22
       replace V4 := V4.below b22
       replace V5 := V5.below b22
       replace hVR := hVR.below b22
       replace V7 := V7.below b22
       replace BB := BB.trans (b22.mono BB.size)
       clear b22
       refine hK.out _ _ ?_ (fun hH3 => ?_)
       ·exact ⟨V7.1,V7.2.1⟩
       clear hK K hH2
       (try simp only [Act.put,xL4,xL5,xL6])
       refine xR [3] (h := ?_)
       refine xN (h := fun K hK => ?_)
       obtain ⟨V5_0,V5_1,V5_2,V5_3⟩ := id V5
       go_simp
       clear V5_0 V5_1 V5_2 V5_3
       refine hK.out _ _ ?_ (fun hH4 => ?_)
       ·exact ⟨V7.1,V7.2.1⟩
       clear hK K hH3
       (try simp only [Act.put,xL4,xL5,xL6])
       refine xR [4] (h := ?_)
       refine xN (h := fun K hK => ?_)
       go_simp
       refine (wadd_any _ _ (Z (n - 2 - i) * A) C (M + (M + 1) * (i + 1)) ((M + 1) * (i + 1)) _ (hp.at _ lp) I5 (by omega) (by omega)).mono ?_
       rintro e w23 ⟨ss,rfl,hs,b23⟩
       obtain ⟨ps,as_,ns,cs,rfl⟩ := hs.open
       go_wp2_with fail
       replace I4 := I4.below b23
       replace I5 := I5.below b23
       replace htt := htt.below b23
       replace hI := hI.below b23
       replace hp := hp.below b23
       replace V4 := V4.below b23
       replace V5 := V5.below b23
       replace hVR := hVR.below b23
       replace V7 := V7.below b23
       replace BB := BB.trans (b23.mono BB.size)
       clear b23
       refine hK.out _ _ ?_ (fun hH5 => ?_)
       ·exact ⟨V7.1,V7.2.1⟩
       clear hK K hH4
       (try simp only [Act.put,xL4,xL5,xL6])
       refine xR [6] (h := ?_)
       refine xN (h := fun K hK => ?_)
       have hKp := V4.keepJ (.bool ps) (.slice as_ ns cs)
       have V5_n := V5.other (R := R4) (by omega) (.bool ps) (.slice as_ ns cs)
       have hVR_n := hVR.other2 (R := R4) (by omega) (.bool ps) (.slice as_ ns cs)
       have V7_n := V7.other (R := R4) (by omega) (.bool ps) (.slice as_ ns cs)
       have V4_n := V4.same (.bool ps) (.slice as_ ns cs)
       have I4_n := I4.keep hKp
       have I5_n := I5.keep hKp
       have htt_n := htt.keep hKp
       have hI_n := hI.keep hKp
       have hp_n := hp.keep hKp
       have hs_n := hs.keep hKp
       have BB_n := below_store2 (R := R4) BB (by omega) (.bool ps) (.slice as_ ns cs)
       clear hKp
       obtain ⟨V4_0,V4_1,V4_2,V4_3⟩ := id V4
       go_simp
       clear V4_0 V4_1 V4_2 V4_3
       clear BB I4 I5 htt hI hp hs V4 V5 hVR V7
       generalize (w23.setCell ⟨R4,0,none⟩ (.bool ps)).setCell ⟨R4,1,none⟩ (.slice as_ ns cs) = W27 at *
       have BB := BB_n
       have I4 := I4_n
       have I5 := I5_n
       have htt := htt_n
       have hI := hI_n
       have hp := hp_n
       have hs := hs_n
       have V4 := V4_n
       have V5 := V5_n
       have hVR := hVR_n
       have V7 := V7_n
       clear BB_n I4_n I5_n htt_n hI_n hp_n hs_n V4_n V5_n hVR_n V7_n
       refine hK.out _ _ ?_ (fun hH6 => ?_)
       ·exact ⟨V7.1,V7.2.1⟩
       clear hK K hH5
       (try simp only [Act.put,xL4,xL5,xL6])
       refine xR [7] (h := ?_)
       refine xN (h := fun K hK => ?_)
       have hKp := V5.keepJ (.bool p4) (.slice a4 n4 c4)
       have V4_n := V4.other (R := R5) (by omega) (.bool p4) (.slice a4 n4 c4)
       have hVR_n := hVR.other2 (R := R5) (by omega) (.bool p4) (.slice a4 n4 c4)
       have V7_n := V7.other (R := R5) (by omega) (.bool p4) (.slice a4 n4 c4)
       have V5_n := V5.same (.bool p4) (.slice a4 n4 c4)
       have I4_n := I4.keep hKp
       have I5_n := I5.keep hKp
       have htt_n := htt.keep hKp
       have hI_n := hI.keep hKp
       have hp_n := hp.keep hKp
       have hs_n := hs.keep hKp
       have BB_n := below_store2 (R := R5) BB (by omega) (.bool p4) (.slice a4 n4 c4)
       clear hKp
       obtain ⟨V5_0,V5_1,V5_2,V5_3⟩ := id V5
       go_simp
       clear V5_0 V5_1 V5_2 V5_3
       clear BB I4 I5 htt hI hp hs V4 V5 hVR V7
       generalize (W27.setCell ⟨R5,0,none⟩ (.bool p4)).setCell ⟨R5,1,none⟩ (.slice a4 n4 c4) = W28 at *
       have BB := BB_n
       have I4 := I4_n
       have I5 := I5_n
       have htt := htt_n
       have hI := hI_n
       have hp := hp_n
       have hs := hs_n
       have V4 := V4_n
       have V5 := V5_n
       have hVR := hVR_n
       have V7 := V7_n
       clear BB_n I4_n I5_n htt_n hI_n hp_n hs_n V4_n V5_n hVR_n V7_n
       refine hK.out _ _ ?_ (fun hH7 => ?_)
       ·exact ⟨V7.1,V7.2.1⟩
       clear hK K hH6
       (try simp only [Act.put,xL4,xL5,xL6])
       refine wpAnyH_done (by kernel_rfl) ?_ _
       clear hH7
       rw [← show (unfN Z n (i + 1)).1 = Z (n - 2 - i) * A + C from by rw [HNX.out]] at hs
       replace hs := hs.at ((M + 1) * (i + 1 + 1)) l6
       replace I4 := I4.le (show (M + 1) * (i + 1) ≤ (M + 1) * (i + 1 + 1) by omega)
       rw [show A = (unfN Z n (i + 1)).2 from by rw [HNX.out]] at I4
       clear I5 hI hp
       go_wp2
       go_roundw
       case rel => exact ⟨i + 1,ps,as_,ns,cs,p4,a4,n4,c4,by omega,by go_num,V4,V5,hs,I4,BB⟩
       case measure => simp [intOf]; omega
      refine xC (h := fun K hK => ?_) (hs := ?_)
      ·
       obtain ⟨V5_0,V5_1,V5_2,V5_3⟩ := id V5
       go_simp
       clear V5_0 V5_1 V5_2 V5_3
       refine hK.out _ _ ?_ (fun hH3 => ?_)
       ·exact ⟨V7.1,V7.2.1⟩
       clear hK K hH2
       (try simp only [Act.put,xL4,xL5,xL6])
       refine xR [2] (h := ?_)
       refine xN (h := fun K hK => ?_)
       go_simp
       refine (wmul_any _ _ (Z (n - 2 - i)) A M ((M + 1) * (i + 1)) _ hI I4 (by omega)).mono ?_
       rintro e w24 ⟨pp,rfl,hp,b24⟩
       go_wp2_with fail
       replace I4 := I4.below b24
       replace I5 := I5.below b24
       replace htt := htt.below b24
       replace hI := hI.below b24
       replace V4 := V4.below b24
       replace V5 := V5.below b24
       replace hVR := hVR.below b24
       replace V7 := V7.below b24
       replace BB := BB.trans (b24.mono BB.size)
       clear b24
       refine hK.out _ _ ?_ (fun hH4 => ?_)
       ·exact ⟨V7.1,V7.2.1⟩
       clear hK K hH3
       (try simp only [Act.put,xL4,xL5,xL6])
       refine xR [4] (h := ?_)
       refine xN (h := fun K hK => ?_)
       go_simp
       refine (wadd_any _ _ (Z (n - 2 - i) * A) C (M + (M + 1) * (i + 1)) ((M + 1) * (i + 1)) _ (hp.at _ lp) I5 (by omega) (by omega)).mono ?_
       rintro e w25 ⟨ss,rfl,hs,b25⟩
       obtain ⟨ps,as_,ns,cs,rfl⟩ := hs.open
       go_wp2_with fail
       replace I4 := I4.below b25
       replace I5 := I5.below b25
       replace htt := htt.below b25
       replace hI := hI.below b25
       replace hp := hp.below b25
       replace V4 := V4.below b25
       replace V5 := V5.below b25
       replace hVR := hVR.below b25
       replace V7 := V7.below b25
       replace BB := BB.trans (b25.mono BB.size)
       clear b25
       refine hK.out _ _ ?_ (fun hH5 => ?_)
       ·exact ⟨V7.1,V7.2.1⟩
       clear hK K hH4
       (try simp only [Act.put,xL4,xL5,xL6])
       refine xR [6] (h := ?_)
       refine xN (h := fun K hK => ?_)
       have hKp := V4.keepJ (.bool ps) (.slice as_ ns cs)
       have V5_n := V5.other (R := R4) (by omega) (.bool ps) (.slice as_ ns cs)
       have hVR_n := hVR.other2 (R := R4) (by omega) (.bool ps) (.slice as_ ns cs)
       have V7_n := V7.other (R := R4) (by omega) (.bool ps) (.slice as_ ns cs)
       have V4_n := V4.same (.bool ps) (.slice as_ ns cs)
       have I4_n := I4.keep hKp
       have I5_n := I5.keep hKp
       have htt_n := htt.keep hKp
       have hI_n := hI.keep hKp
       have hp_n := hp.keep hKp
       have hs_n := hs.keep hKp
       have BB_n := below_store2 (R := R4) BB (by omega) (.bool ps) (.slice as_ ns cs)
       clear hKp
       obtain ⟨V4_0,V4_1,V4_2,V4_3⟩ := id V4
       go_simp
       clear V4_0 V4_1 V4_2 V4_3
       clear BB I4 I5 htt hI hp hs V4 V5 hVR V7
       generalize (w25.setCell ⟨R4,0,none⟩ (.bool ps)).setCell ⟨R4,1,none⟩ (.slice as_ ns cs) = W29 at *
       have BB := BB_n
       have I4 := I4_n
       have I5 := I5_n
       have htt := htt_n
       have hI := hI_n
       have hp := hp_n
       have hs := hs_n
       have V4 := V4_n
       have V5 := V5_n
       have hVR := hVR_n
       have V7 := V7_n
       clear BB_n I4_n I5_n htt_n hI_n hp_n hs_n V4_n V5_n hVR_n V7_n
       refine hK.out _ _ ?_ (fun hH6 => ?_)
       ·exact ⟨V7.1,V7.2.1⟩
       clear hK K hH5
       (try simp only [Act.put,xL4,xL5,xL6])
       refine xR [7] (h := ?_)
       refine xN (h := fun K hK => ?_)
       have hKp := V5.keepJ (.bool p4) (.slice a4 n4 c4)
       have V4_n := V4.other (R := R5) (by omega) (.bool p4) (.slice a4 n4 c4)
       have hVR_n := hVR.other2 (R := R5) (by omega) (.bool p4) (.slice a4 n4 c4)
       have V7_n := V7.other (R := R5) (by omega) (.bool p4) (.slice a4 n4 c4)
       have V5_n := V5.same (.bool p4) (.slice a4 n4 c4)
       have I4_n := I4.keep hKp
       have I5_n := I5.keep hKp
       have htt_n := htt.keep hKp
       have hI_n := hI.keep hKp
       have hp_n := hp.keep hKp
       have hs_n := hs.keep hKp
       have BB_n := below_store2 (R := R5) BB (by omega) (.bool p4) (.slice a4 n4 c4)
       clear hKp
       obtain ⟨V5_0,V5_1,V5_2,V5_3⟩ := id V5
       go_simp
       clear V5_0 V5_1 V5_2 V5_3
       clear BB I4 I5 htt hI hp hs V4 V5 hVR V7
       generalize (W29.setCell ⟨R5,0,none⟩ (.bool p4)).setCell ⟨R5,1,none⟩ (.slice a4 n4 c4) = W30 at *
       have BB := BB_n
       have I4 := I4_n
       have I5 := I5_n
       have htt := htt_n
       have hI := hI_n
       have hp := hp_n
       have hs := hs_n
       have V4 := V4_n
       have V5 := V5_n
       have hVR := hVR_n
       have V7 := V7_n
       clear BB_n I4_n I5_n htt_n hI_n hp_n hs_n V4_n V5_n hVR_n V7_n
       refine hK.out _ _ ?_ (fun hH7 => ?_)
       ·exact ⟨V7.1,V7.2.1⟩
       clear hK K hH6
       (try simp only [Act.put,xL4,xL5,xL6])
       refine wpAnyH_done (by kernel_rfl) ?_ _
       clear hH7
       rw [← show (unfN Z n (i + 1)).1 = Z (n - 2 - i) * A + C from by rw [HNX.out]] at hs
       replace hs := hs.at ((M + 1) * (i + 1 + 1)) l6
       replace I4 := I4.le (show (M + 1) * (i + 1) ≤ (M + 1) * (i + 1 + 1) by omega)
       rw [show A = (unfN Z n (i + 1)).2 from by rw [HNX.out]] at I4
       clear I5 hI hp
       go_wp2
       go_roundw
       case rel => exact ⟨i + 1,ps,as_,ns,cs,p4,a4,n4,c4,by omega,by go_num,V4,V5,hs,I4,BB⟩
       case measure => simp [intOf]; omega
      exact AllReadyH.nil
     refine xC (h := fun K hK => ?_) (hs := ?_)
     ·
      obtain ⟨V5_0,V5_1,V5_2,V5_3⟩ := id V5
      go_simp
      clear V5_0 V5_1 V5_2 V5_3
      refine hK.out _ _ ?_ (fun hH2 => ?_)
      ·exact ⟨V7.1,V7.2.1⟩
      clear hK K hH1
      (try simp only [Act.put,xL4,xL5,xL6])
      refine xR [1] (h := ?_)
      refine xN (h := fun K hK => ?_)
      obtain ⟨V4_0,V4_1,V4_2,V4_3⟩ := id V4
      go_simp
      clear V4_0 V4_1 V4_2 V4_3
      refine hK.out _ _ ?_ (fun hH3 => ?_)
      ·exact ⟨V7.1,V7.2.1⟩
      clear hK K hH2
      (try simp only [Act.put,xL4,xL5,xL6])
      refine xR [2] (h := ?_)
      refine xN (h := fun K hK => ?_)
      go_simp
      refine (wmul_any _ _ (Z (n - 2 - i)) A M ((M + 1) * (i + 1)) _ hI I4 (by omega)).mono ?_
      rintro e w26 ⟨pp,rfl,hp,b26⟩
      go_wp2_with fail
      replace I4 := I4.below b26
      replace I5 := I5.below b26
      replace htt := htt.below b26
      replace hI := hI.below b26
      replace V4 := V4.below b26
      replace V5 := V5.below b26
      replace hVR := hVR.below b26
      replace V7 := V7.below b26
      replace BB := BB.trans (b26.mono BB.size)
      clear b26
      refine hK.out _ _ ?_ (fun hH4 => ?_)
      ·exact ⟨V7.1,V7.2.1⟩
      clear hK K hH3
      (try simp only [Act.put,xL4,xL5,xL6])
      refine xR [4] (h := ?_)
      refine xN (h := fun K hK => ?_)
      go_simp
      refine (wadd_any _ _ (Z (n - 2 - i) * A) C (M + (M + 1) * (i + 1)) ((M + 1) * (i + 1)) _ (hp.at _ lp) I5 (by omega) (by omega)).mono ?_
      rintro e w27 ⟨ss,rfl,hs,b27⟩
      obtain ⟨ps,as_,ns,cs,rfl⟩ := hs.open
      go_wp2_with fail
      replace I4 := I4.below b27
      replace I5 := I5.below b27
      replace htt := htt.below b27
      replace hI := hI.below b27
      replace hp := hp.below b27
      replace V4 := V4.below b27
      replace V5 := V5.below b27
      replace hVR := hVR.below b27
      replace V7 := V7.below b27
      replace BB := BB.trans (b27.mono BB.size)
      clear b27
      refine hK.out _ _ ?_ (fun hH5 => ?_)
      ·exact ⟨V7.1,V7.2.1⟩
      clear hK K hH4
      (try simp only [Act.put,xL4,xL5,xL6])
      refine xR [6] (h := ?_)
      refine xN (h := fun K hK => ?_)
      have hKp := V4.keepJ (.bool ps) (.slice as_ ns cs)
      have V5_n := V5.other (R := R4) (by omega) (.bool ps) (.slice as_ ns cs)
      have hVR_n := hVR.other2 (R := R4) (by omega) (.bool ps) (.slice as_ ns cs)
      have V7_n := V7.other (R := R4) (by omega) (.bool ps) (.slice as_ ns cs)
      have V4_n := V4.same (.bool ps) (.slice as_ ns cs)
      have I4_n := I4.keep hKp
      have I5_n := I5.keep hKp
      have htt_n := htt.keep hKp
      have hI_n := hI.keep hKp
      have hp_n := hp.keep hKp
      have hs_n := hs.keep hKp
      have BB_n := below_store2 (R := R4) BB (by omega) (.bool ps) (.slice as_ ns cs)
      clear hKp
      obtain ⟨V4_0,V4_1,V4_2,V4_3⟩ := id V4
      go_simp
      clear V4_0 V4_1 V4_2 V4_3
      clear BB I4 I5 htt hI hp hs V4 V5 hVR V7
      generalize (w27.setCell ⟨R4,0,none⟩ (.bool ps)).setCell ⟨R4,1,none⟩ (.slice as_ ns cs) = W31 at *
      have BB := BB_n
      have I4 := I4_n
      have I5 := I5_n
      have htt := htt_n
      have hI := hI_n
      have hp := hp_n
      have hs := hs_n
      have V4 := V4_n
      have V5 := V5_n
      have hVR := hVR_n
      have V7 := V7_n
      clear BB_n I4_n I5_n htt_n hI_n hp_n hs_n V4_n V5_n hVR_n V7_n
      refine hK.out _ _ ?_ (fun hH6 => ?_)
      ·exact ⟨V7.1,V7.2.1⟩
      clear hK K hH5
      (try simp only [Act.put,xL4,xL5,xL6])
      refine xR [7] (h := ?_)
      refine xN (h := fun K hK => ?_)
      have hKp := V5.keepJ (.bool p4) (.slice a4 n4 c4)
      have V4_n := V4.other (R := R5) (by omega) (.bool p4) (.slice a4 n4 c4)
      have hVR_n := hVR.other2 (R := R5) (by omega) (.bool p4) (.slice a4 n4 c4)
      have V7_n := V7.other (R := R5) (by omega) (.bool p4) (.slice a4 n4 c4)
      have V5_n := V5.same (.bool p4) (.slice a4 n4 c4)
      have I4_n := I4.keep hKp
      have I5_n := I5.keep hKp
      have htt_n := htt.keep hKp
      have hI_n := hI.keep hKp
      have hp_n := hp.keep hKp
      have hs_n := hs.keep hKp
      have BB_n := below_store2 (R := R5) BB (by omega) (.bool p4) (.slice a4 n4 c4)
      clear hKp
      obtain ⟨V5_0,V5_1,V5_2,V5_3⟩ := id V5
      go_simp
      clear V5_0 V5_1 V5_2 V5_3
      clear BB I4 I5 htt hI hp hs V4 V5 hVR V7
      generalize (W31.setCell ⟨R5,0,none⟩ (.bool p4)).setCell ⟨R5,1,none⟩ (.slice a4 n4 c4) = W32 at *
      have BB := BB_n
      have I4 := I4_n
      have I5 := I5_n
      have htt := htt_n
      have hI := hI_n
      have hp := hp_n
      have hs := hs_n
      have V4 := V4_n
      have V5 := V5_n
      have hVR := hVR_n
      have V7 := V7_n
      clear BB_n I4_n I5_n htt_n hI_n hp_n hs_n V4_n V5_n hVR_n V7_n
      refine hK.out _ _ ?_ (fun hH7 => ?_)
      ·exact ⟨V7.1,V7.2.1⟩
      clear hK K hH6
      (try simp only [Act.put,xL4,xL5,xL6])
      refine wpAnyH_done (by kernel_rfl) ?_ _
      clear hH7
      rw [← show (unfN Z n (i + 1)).1 = Z (n - 2 - i) * A + C from by rw [HNX.out]] at hs
      replace hs := hs.at ((M + 1) * (i + 1 + 1)) l6
      replace I4 := I4.le (show (M + 1) * (i + 1) ≤ (M + 1) * (i + 1 + 1) by omega)
      rw [show A = (unfN Z n (i + 1)).2 from by rw [HNX.out]] at I4
      clear I5 hI hp
      go_wp2
      go_roundw
      case rel => exact ⟨i + 1,ps,as_,ns,cs,p4,a4,n4,c4,by omega,by go_num,V4,V5,hs,I4,BB⟩
      case measure => simp [intOf]; omega
     exact AllReadyH.nil
    exact AllReadyH.nil
   ·obtain rfl : i = k := by omega
    replace BB := BB.trans (BW.mono BB.size)
    clear BW HM HU
    by_cases hkn : i + 1 < n
    ·have j1 : (i : Int) < (n : Int) - 1 := by omega
     obtain ⟨V4_0,V4_1,V4_2,V4_3⟩ := id V4
     go_wp2_with fail
     clear V4_0 V4_1 V4_2 V4_3
     refine (sign_any _ _ _ _ I4).mono ?_
     rintro e w1 ⟨rfl,b1⟩
     replace I4 := I4.below b1
     replace I5 := I5.below b1
     replace htt := htt.below b1
     replace V4 := V4.below b1
     replace V5 := V5.below b1
     replace hVR := hVR.below b1
     replace BB := BB.trans (b1.mono BB.size)
     clear b1
     have hsg : (cmpI (unfN Z n i).1 0 == 0) = true := by rw [cmpI_zero]; exact decide_eq_true (HKZ.out hkn)
     generalize cmpI (unfN Z n i).1 0 = cc at *
     have hKp := hVR.keepJ (.bool false) (.slice none 0 0) (.slice none 0 0)
     have I4_n := I4.keep hKp
     have I5_n := I5.keep hKp
     have htt_n := htt.keep hKp
     have BB_n := below_store3 (R := w.heap.size) BB (by omega) (.bool false) (.slice none 0 0) (.slice none 0 0)
     clear hKp
     obtain ⟨q1,q2,q3,q4,q5,q6⟩ := id hVR
     go_wp2
     (try simp only [Exit.inBlock,Exit.then])
     refine bodyPost_ret (v := .tuple #[.agg #[.bool false,.slice none 0 0,.slice none 0 0],.int .i64 2]) (by simp [results,go_sem,q1,q2,q3]) rfl ?_
     exact ⟨_,_,rfl,fun h => by omega,fun _ => ⟨rfl,rfl⟩,BB_n⟩
    ·have j1 : ¬ (i : Int) < (n : Int) - 1 := by omega
     have HDZ2 := HDZ.out
     obtain ⟨V4_0,V4_1,V4_2,V4_3⟩ := id V4
     obtain ⟨V5_0,V5_1,V5_2,V5_3⟩ := id V5
     go_wp2_with fail
     clear V4_0 V4_1 V4_2 V4_3 V5_0 V5_1 V5_2 V5_3
     refine (make_at _ _ _ _ _ _ _ I4 I5 (by omega) (by omega) HDZ2 htt).mono ?_
     rintro e w1 ⟨rr,rfl,hr,b1⟩
     replace I4 := I4.below b1
     replace I5 := I5.below b1
     replace htt := htt.below b1
     replace V4 := V4.below b1
     replace V5 := V5.below b1
     replace hVR := hVR.below b1
     replace BB := BB.trans (b1.mono BB.size)
     clear b1
     obtain ⟨pr,ar,nr,cr,br,mr,dr,rfl⟩ := hr.open
     have hKp := hVR.keepJ (.bool pr) (.slice ar nr cr) (.slice br mr dr)
     have I4_n := I4.keep hKp
     have I5_n := I5.keep hKp
     have htt_n := htt.keep hKp
     have hr_n := hr.keep hKp
     have BB_n := below_store3 (R := w.heap.size) BB (by omega) (.bool pr) (.slice ar nr cr) (.slice br mr dr)
     clear hKp
     obtain ⟨q1,q2,q3,q4,q5,q6⟩ := id hVR
     go_wp2
     (try simp only [Exit.inBlock,Exit.then])
     refine bodyPost_ret (v := .tuple #[.agg #[.bool pr,.slice ar nr cr,.slice br mr dr],.int .i64 0]) (by simp [results,go_sem,q1,q2,q3]) rfl ?_
     exact ⟨_,_,rfl,fun _ => ⟨rfl,hr_n⟩,fun h => absurd h hkn,BB_n⟩
theorem unfold_at (v : Value) (n : Nat) (Z : Nat → Int) (M : Nat) (w : World) (hv : IRow w v n Z M) (ht : Tab w) (hn : 0 < n) (hK : (M + 1) * (n + 1) ≤ 100000) (hnz : ∀ i,i + 1 < n → (unfN Z n i).1 ≠ 0) :
  Calls Tryz.prog 56 #[v] w fun e w' => ∃ r,e = .returned (.tuple #[r,.int .i64 0]) ∧ RepQ w' r (((unfN Z n (n - 1)).1 : Rat) / ((unfN Z n (n - 1)).2 : Rat)) ∧ Below w.heap.size w w' := by
 refine (unfold_all v n Z M w hv ht hn hK (n - 1) (by omega) (fun h => by omega) (fun i hi => hnz i (by omega))).mono ?_
 rintro e w1 ⟨r,er,rfl,h1,_,hb⟩
 obtain ⟨rfl,h2⟩ := h1 (by omega)
 exact ⟨r,rfl,h2,hb⟩

theorem cmpQ_gt_zero {a : Rat} (h : 0 < a) : cmpQ a 0 = 1 := by
 unfold cmpQ; rw [if_neg (Rat.not_lt.2 (Rat.le_of_lt h)),if_pos h]
theorem cmpQ_not_gt {a b : Rat} (h : a ≤ b) : ¬ cmpQ a b > 0 := by
 unfold cmpQ; split
 ·omega
 ·rw [if_neg (Rat.not_lt.2 h)]; omega
set_option maxRecDepth 20000 in
set_option maxHeartbeats 2000000 in
theorem simplest_pos (u v : Value) (a b : Rat) (L : Nat) (w : World) (hu : RepQ w u a) (hv : RepQ w v b) (ht : Tab w) (hL : 1 ≤ L) (hM : L ≤ 10000) (h1 : qsz a ≤ L) (h2 : qsz b ≤ L) (ha : 0 < a) (hab : a ≤ b) (tot : List Nat) (htot : tot = shortN (a.den + b.den) a.num.natAbs a.den b.num.natAbs b.den) (hlen : tot.length ≤ 100000) (h0 : 0 < tot.length) (hK : (L + 1 + 1) * (tot.length + 1) ≤ 100000) (hnz : ∀ i,i + 1 < tot.length → (unfN (fun i => ((tot.getD i 0 : Nat) : Int)) tot.length i).1 ≠ 0) :
  Calls Tryz.prog 30 #[u,v] w fun e w' => ∃ r,e = .returned (.tuple #[r,.int .i64 0]) ∧ RepQ w' r (((unfN (fun i => ((tot.getD i 0 : Nat) : Int)) tot.length (tot.length - 1)).1 : Rat) / ((unfN (fun i => ((tot.getD i 0 : Nat) : Int)) tot.length (tot.length - 1)).2 : Rat)) ∧ Below w.heap.size w w' := by
 obtain ⟨p,ao,n,c,bo,m,d,rfl⟩ := hu.open
 obtain ⟨p2,ao2,n2,c2,bo2,m2,d2,rfl⟩ := hv.open
 obtain ⟨hz1,hx1⟩ := hu.parts
 obtain ⟨hz2,hx2⟩ := hv.parts
 have hla : RatAt w _ a L := hu.at L h1
 have hlb : RatAt w _ b L := hv.at L h2
 have s1 := Nat.le_trans (qsz_num a) h1
 have s2 := Nat.le_trans (qsz_den a) h1
 have s3 := Nat.le_trans (qsz_num b) h2
 have s4 := Nat.le_trans (qsz_den b) h2
 have hb0 : 0 < b := Rat.not_le.1 (fun h => absurd ha (Rat.not_lt.2 (Rat.le_trans hab h)))
 have HPA : Hid (a.num * (b.den : Int) ≤ b.num * (a.den : Int)) := (Rat.le_iff a b).1 hab
 have hna : 0 < a.num := by have := (Rat.lt_iff 0 a).1 ha; simpa using this
 have hnb : 0 < b.num := by have := (Rat.lt_iff 0 b).1 hb0; simpa using this
 clear hu hv
 have BB : Below w.heap.size w w := Below.refl _ _
 obtain ⟨Wb0,hW0,hS0,hL0,VA⟩ := V3.lay w 27 (.bool p) (.slice ao n c) (.slice bo m d)
 replace hla := hla.below hL0
 replace hlb := hlb.below hL0
 replace hz1 := hz1.below hL0
 replace hx1 := hx1.below hL0
 replace hz2 := hz2.below hL0
 replace hx2 := hx2.below hL0
 replace ht := ht.below hL0
 replace BB := BB.trans (hL0.mono BB.size)
 clear hL0
 obtain ⟨Wb1,hW1,hS1,hL1,VB⟩ := V3.lay Wb0 27 (.bool p2) (.slice ao2 n2 c2) (.slice bo2 m2 d2)
 rw [hS0] at VB hS1
 replace hla := hla.below hL1
 replace hlb := hlb.below hL1
 replace hz1 := hz1.below hL1
 replace hx1 := hx1.below hL1
 replace hz2 := hz2.below hL1
 replace hx2 := hx2.below hL1
 replace ht := ht.below hL1
 replace VA := VA.below hL1
 replace BB := BB.trans (hL1.mono BB.size)
 clear hL1
 obtain ⟨Wb2,hW2,hS2,hL2,VR⟩ := V3.lay Wb1 27 (.bool false) (.slice none 0 0) (.slice none 0 0)
 rw [hS1] at VR hS2
 replace hla := hla.below hL2
 replace hlb := hlb.below hL2
 replace hz1 := hz1.below hL2
 replace hx1 := hx1.below hL2
 replace hz2 := hz2.below hL2
 replace hx2 := hx2.below hL2
 replace ht := ht.below hL2
 replace VA := VA.below hL2
 replace VB := VB.below hL2
 replace BB := BB.trans (hL2.mono BB.size)
 clear hL2
 go_enter Tryz.func30,Tryz.ntmps30
 go_wp2_with fail
 rw [← hW0]
 rw [← hW1]
 rw [← hW2]
 clear hW0 hW1 hW2 hS0 hS1 hS2
 refine (qcmp_at _ _ a b L _ hla hlb hL (by omega)).mono ?_
 rintro e w1 ⟨rfl,b1⟩
 replace hla := hla.below b1
 replace hlb := hlb.below b1
 replace hz1 := hz1.below b1
 replace hx1 := hx1.below b1
 replace hz2 := hz2.below b1
 replace hx2 := hx2.below b1
 replace ht := ht.below b1
 replace VA := VA.below b1
 replace VB := VB.below b1
 replace VR := VR.below b1
 replace BB := BB.trans (b1.mono BB.size)
 clear b1
 have hc1 := cmpQ_not_gt hab
 generalize cmpQ a b = cc at *
 obtain ⟨VA_0,VA_1,VA_2,VA_3,VA_4,VA_5⟩ := id VA
 go_wp2_with fail
 clear VA_0 VA_1 VA_2 VA_3 VA_4 VA_5
 refine (qsign_at _ a L _ hla hL (by omega)).mono ?_
 rintro e w2 ⟨rfl,b2⟩
 replace hla := hla.below b2
 replace hlb := hlb.below b2
 replace hz1 := hz1.below b2
 replace hx1 := hx1.below b2
 replace hz2 := hz2.below b2
 replace hx2 := hx2.below b2
 replace ht := ht.below b2
 replace VA := VA.below b2
 replace VB := VB.below b2
 replace VR := VR.below b2
 replace BB := BB.trans (b2.mono BB.size)
 clear b2
 rw [cmpQ_gt_zero ha]
 obtain ⟨VA_0,VA_1,VA_2,VA_3,VA_4,VA_5⟩ := id VA
 obtain ⟨VB_0,VB_1,VB_2,VB_3,VB_4,VB_5⟩ := id VB
 go_wp2_with fail
 clear VA_0 VA_1 VA_2 VA_3 VA_4 VA_5 VB_0 VB_1 VB_2 VB_3 VB_4 VB_5
 have hle : a.num.natAbs * b.den ≤ b.num.natAbs * a.den := by
  have := HPA.out
  have e1 : ((a.num.natAbs * b.den : Nat) : Int) = a.num * (b.den : Int) := by rw [Int.natCast_mul,Int.natAbs_of_nonneg (by omega)]
  have e2 : ((b.num.natAbs * a.den : Nat) : Int) = b.num * (a.den : Int) := by rw [Int.natCast_mul,Int.natAbs_of_nonneg (by omega)]
  omega
 refine (shortest_at _ _ _ _ a.num.natAbs a.den b.num.natAbs b.den L _ (hz1.abs.at L s1) (hx1.at L s2) (hz2.abs.at L s3) (hx2.at L s4) (by omega) (Nat.pos_of_ne_zero a.den_nz) (Nat.pos_of_ne_zero b.den_nz) hle tot htot hlen).mono ?_
 rintro e w3 ⟨lv,rfl,hlv,b3⟩
 replace hla := hla.below b3
 replace hlb := hlb.below b3
 replace hz1 := hz1.below b3
 replace hx1 := hx1.below b3
 replace hz2 := hz2.below b3
 replace hx2 := hx2.below b3
 replace ht := ht.below b3
 replace VA := VA.below b3
 replace VB := VB.below b3
 replace VR := VR.below b3
 replace BB := BB.trans (b3.mono BB.size)
 clear b3
 go_wp2_with fail
 refine (unfold_at _ tot.length (fun i => ((tot.getD i 0 : Nat) : Int)) (L + 1) _ hlv ht h0 hK hnz).mono ?_
 rintro e w4 ⟨rr,rfl,hr,b4⟩
 replace hla := hla.below b4
 replace hlb := hlb.below b4
 replace hz1 := hz1.below b4
 replace hx1 := hx1.below b4
 replace hz2 := hz2.below b4
 replace hx2 := hx2.below b4
 replace ht := ht.below b4
 replace hlv := hlv.below b4
 replace VA := VA.below b4
 replace VB := VB.below b4
 replace VR := VR.below b4
 replace BB := BB.trans (b4.mono BB.size)
 clear b4
 obtain ⟨pr,ar,nr,cr,br,mr,dr,rfl⟩ := hr.open
 clear hlv
 have hKp := VR.keepJ (.bool pr) (.slice ar nr cr) (.slice br mr dr)
 have hla_n := hla.keep hKp
 have hlb_n := hlb.keep hKp
 have hz1_n := hz1.keep hKp
 have hx1_n := hx1.keep hKp
 have hz2_n := hz2.keep hKp
 have hx2_n := hx2.keep hKp
 have ht_n := ht.keep hKp
 have hr_n := hr.keep hKp
 have BB_n := below_store3 (R := w.heap.size + 1 + 1) BB (by omega) (.bool pr) (.slice ar nr cr) (.slice br mr dr)
 clear hKp
 obtain ⟨q1,q2,q3,q4,q5,q6⟩ := id VR
 go_wp2
 (try simp only [Exit.inBlock,Exit.then])
 refine bodyPost_ret (v := .tuple #[.agg #[.bool pr,.slice ar nr cr,.slice br mr dr],.int .i64 0]) (by simp [results,go_sem,q1,q2,q3]) rfl ?_
 exact ⟨_,rfl,hr_n,BB_n⟩

def aw0 : ByteArray := { data := #[45,49,46,53,48] }
theorem aw_pneg : pneg aw0 = true := by decide +kernel
theorem aw_pdig : pdig aw0 = { data := #[49,46,53,48] } := by decide +kernel
theorem aw_digits (s : ByteArray) (h0 : 0 < s.size) (h : s.data.toList.all (fun b => decide (48 ≤ b.toNat ∧ b.toNat ≤ 57)) = true) : digitsB s = true := by
 simp only [digitsB,decide_eq_true_eq]
 refine ⟨h0,fun i hi => ?_⟩
 have hl : i < s.data.toList.length := by simpa using hi
 have := List.all_eq_true.1 h (s.data.toList[i]) (List.getElem_mem hl)
 have e : s.data.toList.getD i 0 = s.data.toList[i] := by simp [List.getD,List.getElem?_eq_getElem hl]
 unfold isDig
 rw [e]
 simpa using this
theorem aw_nval1 : digitsB { data := #[49] } = true := aw_digits _ (by decide) (by decide)
theorem aw_nval50 : digitsB { data := #[53,48] } = true := aw_digits _ (by decide) (by decide)
theorem aw_f47 : firstAt { data := #[49,46,53,48] } 47 = -1 := by decide +kernel
theorem aw_f46 : firstAt { data := #[49,46,53,48] } 46 = 1 := by decide +kernel
theorem aw_e1 : (({ data := #[49,46,53,48] } : ByteArray).extract 0 1) = { data := #[49] } := by decide +kernel
theorem aw_e2 : (({ data := #[49,46,53,48] } : ByteArray).extract 2 4) = { data := #[53,48] } := by decide +kernel
theorem aw_pp : ppOf (pdig aw0) = (0,150,100) := by
 rw [aw_pdig]
 unfold ppOf
 rw [aw_f47,aw_f46,if_neg (by decide),if_pos (by decide)]
 show (twoErr (({ data := #[49,46,53,48] } : ByteArray).extract 0 1) (({ data := #[49,46,53,48] } : ByteArray).extract 2 4),nval (({ data := #[49,46,53,48] } : ByteArray).extract 0 1) * 10 ^ (({ data := #[49,46,53,48] } : ByteArray).extract 2 4).size + nval (({ data := #[49,46,53,48] } : ByteArray).extract 2 4),10 ^ (({ data := #[49,46,53,48] } : ByteArray).extract 2 4).size) = _
 rw [aw_e1,aw_e2]
 unfold twoErr errN nval
 rw [aw_nval1,aw_nval50]
 decide +kernel
theorem aw_qval : qval aw0 = -3 / 2 := by
 unfold qval
 rw [aw_pp,aw_pneg]
 decide +kernel
theorem aw_t1 (q : Rat) (h : q = -3 / 2) : qtxt q = { data := #[45,51,47,50] } := by
 have hn : q.num = -3 := by rw [h]; decide +kernel
 have hd : q.den = 2 := by rw [h]; decide +kernel
 have e3 : ndec 3 = 1 := by unfold ndec; rw [nl_spec 10 _ 1 (by decide) (by decide)]; decide +kernel
 have e2 : ndec 2 = 1 := by unfold ndec; rw [nl_spec 10 _ 1 (by decide) (by decide)]; decide +kernel
 unfold qtxt; rw [hn,hd,if_neg (by decide)]
 unfold ztxt; rw [if_pos (by decide)]
 show { data := #[45] } ++ txt 3 ++ { data := #[47] } ++ txt 2 = _
 unfold txt; rw [e3,e2]; decide +kernel
theorem aw_t2 (q : Rat) (h : q = 1 / 2) : qtxt q = { data := #[49,47,50] } := by
 have hn : q.num = 1 := by rw [h]; decide +kernel
 have hd : q.den = 2 := by rw [h]; decide +kernel
 have e3 : ndec 1 = 1 := by unfold ndec; rw [nl_spec 10 _ 1 (by decide) (by decide)]; decide +kernel
 have e2 : ndec 2 = 1 := by unfold ndec; rw [nl_spec 10 _ 1 (by decide) (by decide)]; decide +kernel
 unfold qtxt; rw [hn,hd,if_neg (by decide)]
 unfold ztxt; rw [if_neg (by decide)]
 show txt 1 ++ { data := #[47] } ++ txt 2 = _
 unfold txt; rw [e3,e2]; decide +kernel
theorem aw_t3 (q : Rat) (h : q = 3) : qtxt q = { data := #[51] } := by
 have hn : q.num = 3 := by rw [h]; decide +kernel
 have hd : q.den = 1 := by rw [h]; decide +kernel
 have e3 : ndec 3 = 1 := by unfold ndec; rw [nl_spec 10 _ 1 (by decide) (by decide)]; decide +kernel
 unfold qtxt; rw [hn,hd,if_pos rfl]
 unfold ztxt; rw [if_neg (by decide)]
 show txt 3 = _
 unfold txt; rw [e3]; decide +kernel
def awa : Rat := (3 : Int) / (10 : Int)
def awb : Rat := (1 : Int) / (2 : Int)
theorem aw_short : shortN (awa.den + awb.den) awa.num.natAbs awa.den awb.num.natAbs awb.den = [0,2] := by decide +kernel
theorem aw_nz : ∀ i,i + 1 < ([0,2] : List Nat).length → (unfN (fun i => ((([0,2] : List Nat).getD i 0 : Nat) : Int)) ([0,2] : List Nat).length i).1 ≠ 0 := by
 intro i hi
 have hi' : i + 1 < 2 := hi
 obtain rfl : i = 0 := by omega
 decide +kernel
theorem aw_unf : (((unfN (fun i => ((([0,2] : List Nat).getD i 0 : Nat) : Int)) ([0,2] : List Nat).length (([0,2] : List Nat).length - 1)).1 : Rat) / ((unfN (fun i => ((([0,2] : List Nat).getD i 0 : Nat) : Int)) ([0,2] : List Nat).length (([0,2] : List Nat).length - 1)).2 : Rat)) = (1 / 2 : Rat) := by decide +kernel
theorem aw_near : ((((22 : Int) : Rat) / ((7 : Int) : Rat)).floor : Rat) + (((0 : Nat) : Int) : Rat) / (((1 : Nat) : Int) : Rat) = (3 : Rat) := by decide +kernel
theorem qsz_small (q : Rat) (h1 : q.num.natAbs < 4294967296) (h2 : q.den < 4294967296) : qsz q ≤ 1 := by
 unfold qsz; have := nl_small7 _ h1; have := nl_small7 _ h2; omega
set_option maxRecDepth 20000 in
set_option maxHeartbeats 2000000 in
theorem qawake_at (w : World) (ht : Tab w) :
  Calls Tryz.prog 6 #[] w fun e w' => e = .returned (.bool true) ∧ Below w.heap.size w w' := by
 have BB : Below w.heap.size w w := Below.refl _ _
 go_enter Tryz.func6,Tryz.ntmps6
 go_wp2_with fail
 refine (qparse_yes aw0 _ (by decide) ht (by rw [aw_pp]) (by rw [aw_pp]; decide)).mono ?_
 rintro e w1 ⟨v1,rfl,h1,b1⟩
 replace ht := ht.below b1
 replace BB := BB.trans (b1.mono BB.size)
 clear b1
 rw [aw_qval] at h1
 obtain ⟨p1,a1,n1,c1,b1,m1,d1,rfl⟩ := h1.open
 have hZ1 : w.heap.size ≤ w1.heap.size := BB.size
 obtain ⟨W1,hW1,hS1,hL1,V1⟩ := V3.lay w1 27 (.bool p1) (.slice a1 n1 c1) (.slice b1 m1 d1)
 replace ht := ht.below hL1
 replace h1 := h1.below hL1
 replace BB := BB.trans (hL1.mono BB.size)
 clear hL1
 go_wp2_with fail
 rw [← hW1]
 generalize w1.heap.size = R1 at *
 clear hW1 hS1
 refine (qfrac_at 3 10 _ (by omega) (by omega) (by omega) (by omega) ht).mono ?_
 rintro e w2 ⟨va,rfl,ha,b2⟩
 replace ht := ht.below b2
 replace h1 := h1.below b2
 replace V1 := V1.below b2
 replace BB := BB.trans (b2.mono BB.size)
 clear b2
 replace ha : RepQ _ va awa := ha
 go_wp2_with fail
 refine (qfrac_at 1 2 _ (by omega) (by omega) (by omega) (by omega) ht).mono ?_
 rintro e w3 ⟨vb,rfl,hb,b3⟩
 replace ht := ht.below b3
 replace h1 := h1.below b3
 replace ha := ha.below b3
 replace V1 := V1.below b3
 replace BB := BB.trans (b3.mono BB.size)
 clear b3
 replace hb : RepQ _ vb awb := hb
 go_wp2_with fail
 refine (simplest_pos _ _ awa awb 1 _ ha hb ht (by omega) (by omega) (qsz_small _ (by decide +kernel) (by decide +kernel)) (qsz_small _ (by decide +kernel) (by decide +kernel)) (by decide +kernel) (by decide +kernel) [0,2] aw_short.symm (by decide) (by decide) (by decide) aw_nz).mono ?_
 rintro e w4 ⟨v2,rfl,h2,b4⟩
 replace ht := ht.below b4
 replace h1 := h1.below b4
 replace ha := ha.below b4
 replace hb := hb.below b4
 replace V1 := V1.below b4
 replace BB := BB.trans (b4.mono BB.size)
 clear b4
 rw [aw_unf] at h2
 obtain ⟨p2,a2,n2,c2,b2,m2,d2,rfl⟩ := h2.open
 clear ha hb
 have hZ2 : w.heap.size ≤ w4.heap.size := BB.size
 have hN2V1 : R1 ≠ w4.heap.size := Nat.ne_of_lt V1.lt
 obtain ⟨W2,hW2,hS2,hL2,V2_⟩ := V3.lay w4 27 (.bool p2) (.slice a2 n2 c2) (.slice b2 m2 d2)
 replace ht := ht.below hL2
 replace h1 := h1.below hL2
 replace h2 := h2.below hL2
 replace V1 := V1.below hL2
 replace BB := BB.trans (hL2.mono BB.size)
 clear hL2
 go_wp2_with fail
 rw [← hW2]
 generalize w4.heap.size = R2 at *
 clear hW2 hS2
 refine (qfrac_at 22 7 _ (by omega) (by omega) (by omega) (by omega) ht).mono ?_
 rintro e w5 ⟨vc,rfl,hc,b5⟩
 replace ht := ht.below b5
 replace h1 := h1.below b5
 replace h2 := h2.below b5
 replace V1 := V1.below b5
 replace V2_ := V2_.below b5
 replace BB := BB.trans (b5.mono BB.size)
 clear b5
 have hqc : qsz (((22 : Int) : Rat) / ((7 : Int) : Rat)) ≤ 2 := qsz_frac 22 7 (by decide) (by decide)
 go_wp2_with fail
 refine (near_low _ (((22 : Int) : Rat) / ((7 : Int) : Rat)) 2 3 _ (hc.at 2 hqc) ht (by omega) (by omega) (by omega) (by omega) 0 1 1 3 (by omega) (by omega) (by omega) (by omega) (by decide +kernel) (by decide +kernel)).mono ?_
 rintro e w6 ⟨v3,rfl,h3,b6⟩
 replace ht := ht.below b6
 replace h1 := h1.below b6
 replace h2 := h2.below b6
 replace hc := hc.below b6
 replace V1 := V1.below b6
 replace V2_ := V2_.below b6
 replace BB := BB.trans (b6.mono BB.size)
 clear b6
 rw [aw_near] at h3
 obtain ⟨p3,a3,n3,c3,b3,m3,d3,rfl⟩ := h3.open
 clear hc
 have hZ3 : w.heap.size ≤ w6.heap.size := BB.size
 have hN3V1 : R1 ≠ w6.heap.size := Nat.ne_of_lt V1.lt
 have hN3V2_ : R2 ≠ w6.heap.size := Nat.ne_of_lt V2_.lt
 obtain ⟨W3,hW3,hS3,hL3,V3_⟩ := V3.lay w6 27 (.bool p3) (.slice a3 n3 c3) (.slice b3 m3 d3)
 replace ht := ht.below hL3
 replace h1 := h1.below hL3
 replace h2 := h2.below hL3
 replace h3 := h3.below hL3
 replace V1 := V1.below hL3
 replace V2_ := V2_.below hL3
 replace BB := BB.trans (hL3.mono BB.size)
 clear hL3
 go_wp2_with fail
 rw [← hW3]
 generalize w6.heap.size = R3 at *
 clear hW3 hS3
 refine (qfrac_at 1 8 _ (by omega) (by omega) (by omega) (by omega) ht).mono ?_
 rintro e w7 ⟨vd,rfl,hd,b7⟩
 replace ht := ht.below b7
 replace h1 := h1.below b7
 replace h2 := h2.below b7
 replace h3 := h3.below b7
 replace V1 := V1.below b7
 replace V2_ := V2_.below b7
 replace V3_ := V3_.below b7
 replace BB := BB.trans (b7.mono BB.size)
 clear b7
 have hqd : qsz (((1 : Int) : Rat) / ((8 : Int) : Rat)) ≤ 2 := qsz_frac 1 8 (by decide) (by decide)
 go_wp2_with fail
 refine (dec_eighth _ _ 2 _ (hd.at 2 hqd) (by omega) (by omega) (by decide +kernel)).mono ?_
 rintro e w8 ⟨rfl,b8⟩
 replace ht := ht.below b8
 replace h1 := h1.below b8
 replace h2 := h2.below b8
 replace h3 := h3.below b8
 replace hd := hd.below b8
 replace V1 := V1.below b8
 replace V2_ := V2_.below b8
 replace V3_ := V3_.below b8
 replace BB := BB.trans (b8.mono BB.size)
 clear b8
 clear hd
 obtain ⟨V1_0,V1_1,V1_2,V1_3,V1_4,V1_5⟩ := id V1
 go_wp2_with fail
 clear V1_0 V1_1 V1_2 V1_3 V1_4 V1_5
 refine (qprint_at _ _ 2 _ (h1.at 2 (Nat.le_trans (qsz_small _ (by decide +kernel) (by decide +kernel)) (by omega))) (by omega) (by omega) ht).mono ?_
 rintro e w9 ⟨rfl,b9⟩
 replace ht := ht.below b9
 replace h1 := h1.below b9
 replace h2 := h2.below b9
 replace h3 := h3.below b9
 replace V1 := V1.below b9
 replace V2_ := V2_.below b9
 replace V3_ := V3_.below b9
 replace BB := BB.trans (b9.mono BB.size)
 clear b9
 rw [aw_t1 _ rfl]
 obtain ⟨V2__0,V2__1,V2__2,V2__3,V2__4,V2__5⟩ := id V2_
 go_wp2_with fail
 clear V2__0 V2__1 V2__2 V2__3 V2__4 V2__5
 refine (qprint_at _ _ 2 _ (h2.at 2 (Nat.le_trans (qsz_small _ (by decide +kernel) (by decide +kernel)) (by omega))) (by omega) (by omega) ht).mono ?_
 rintro e w10 ⟨rfl,b10⟩
 replace ht := ht.below b10
 replace h1 := h1.below b10
 replace h2 := h2.below b10
 replace h3 := h3.below b10
 replace V1 := V1.below b10
 replace V2_ := V2_.below b10
 replace V3_ := V3_.below b10
 replace BB := BB.trans (b10.mono BB.size)
 clear b10
 rw [aw_t2 _ rfl]
 obtain ⟨V3__0,V3__1,V3__2,V3__3,V3__4,V3__5⟩ := id V3_
 go_wp2_with fail
 clear V3__0 V3__1 V3__2 V3__3 V3__4 V3__5
 refine (qprint_at _ _ 2 _ (h3.at 2 (Nat.le_trans (qsz_small _ (by decide +kernel) (by decide +kernel)) (by omega))) (by omega) (by omega) ht).mono ?_
 rintro e w11 ⟨rfl,b11⟩
 replace ht := ht.below b11
 replace h1 := h1.below b11
 replace h2 := h2.below b11
 replace h3 := h3.below b11
 replace V1 := V1.below b11
 replace V2_ := V2_.below b11
 replace V3_ := V3_.below b11
 replace BB := BB.trans (b11.mono BB.size)
 clear b11
 rw [aw_t3 _ rfl]
 go_wp2
 go_ret
 exact ⟨rfl,BB⟩
end Go.Proofs.YtpgioggbepdjpaaGreatDoor

namespace Go.Proofs.YtpgioggbepdjpaaGreatDoor
open Go.ChangeShapes Go.WideShapes Go.ChangeAt Go.RowKit
set_option linter.unusedVariables false
theorem cells_wrat : Tryz.prog.cellsOf 27 = 3 := by kernel_rfl
theorem agg3 {cs : Array Value} (h : cs.size = 3) : ∃ a b c,cs = #[a,b,c] := by
 obtain ⟨l⟩ := cs
 match l,h with
 | [a,b,c],_ => exact ⟨a,b,c,rfl⟩
set_option maxRecDepth 100000 in
theorem open_wrat {H : Type} {enc : TypeId × Value → H} {W : World} {base b0 : Nat} {r : Reach} {v : Value} {d : DataW H} {ps : List MemPlace}
  (hval : Value.okWide Tryz.prog W r b0 27 v) (h : DataW.Trod enc Tryz.prog W base (fun _ => true) true 27 v d ps) :
  ∃ neg ao n c bo m e f g,v = .agg #[.bool neg,.slice ao n c,.slice bo m e] ∧ Raw W (.slice ao n c) n f ∧ Raw W (.slice bo m e) m g := by
 obtain ⟨cs,rfl,hsz⟩ := okWide_struct Tryz.underlying27 hval
 rw [cells_wrat] at hsz
 obtain ⟨c0,c1,c2,rfl⟩ := agg3 hsz
 obtain ⟨fuel,hf⟩ := h
 obtain ⟨y0,y1,m,hx,_,hy0,hy1⟩ := trod_struct2 Tryz.underlying27 hf
 obtain ⟨z0,z1,m2,hx2,_,hz0,hz1⟩ := trod_struct2 Tryz.underlying25 hy0
 obtain ⟨b,e0,_⟩ := DataW.trod_bool Tryz.underlying4 hz0
 obtain ⟨ao,n,c,f,e1,hraw⟩ := open_nat hz1
 obtain ⟨bo,m3,d3,g,e2,hraw2⟩ := open_nat hy1
 simp [Value.cells,cells_bool,cells_nat,cells_wint] at e0 e1 e2
 subst e0 e1 e2
 exact ⟨b,ao,n,c,bo,m3,d3,f,g,rfl,hraw,hraw2⟩
theorem DocQ.len {w : World} {p : Bool} {ao : Option Addr} {n c : Nat} {bo : Option Addr} {m d : Nat} {q : Rat} {L : Nat} (h : DocQ w (.agg #[.bool p,.slice ao n c,.slice bo m d]) q L) : n = 0 ↔ q = 0 := by
 obtain ⟨z,x,h1,rfl⟩ := h
 obtain ⟨hj,_,hx,_⟩ := h1.parts
 rw [mkRat_zero_iff z x hx]
 obtain ⟨ao',c',e,_⟩ := hj
 simp only [Value.agg.injEq,Array.mk.injEq,List.cons.injEq,Value.slice.injEq,and_true] at e
 rw [e.2.2.1,nl_eq_zero 10000 _ (by decide)]
 omega
end Go.Proofs.YtpgioggbepdjpaaGreatDoor

namespace Go.Proofs.YtpgioggbepdjpaaGreatDoor
set_option linter.unusedVariables false
set_option linter.unusedSimpArgs false
end Go.Proofs.YtpgioggbepdjpaaGreatDoor

namespace Go.Proofs.YtpgioggbepdjpaaGreatDoor
open Go.RowKit
set_option linter.unusedVariables false
set_option linter.unusedSimpArgs false
def MinIn (a b r : Rat) : Prop := a ≤ r ∧ r ≤ b ∧ 0 < r ∧ ∀ (p t : Nat),0 < t → a ≤ mkRat p t → mkRat p t ≤ b → r.den ≤ t ∧ r.num ≤ (p : Int)

set_option maxRecDepth 20000 in
set_option maxHeartbeats 4000000 in
theorem jfloor_at (u : Value) (q : Rat) (L : Nat) (w : World) (hu : DocQ w u q L) (hL : L ≤ 900) :
  Calls Tryz.prog 11 #[u] w fun e w' => ∃ x,e = .returned x ∧ RepJ w' x q.floor ∧ Below w.heap.size w w' := by
 obtain ⟨z,x,hP,rfl⟩ := hu
 obtain ⟨p,ao,n,c,bo,m,d,rfl⟩ := hP.open
 obtain ⟨hz,hx,hx0,l1,l2⟩ := hP.parts
 rw [floor_mkRat z x hx0]
 have l3 : nl W32 z.natAbs ≤ 1000 := by omega
 have l4 : nl W32 ((x : Int)).natAbs ≤ 1000 := natc_nl (by omega)
 clear hP
 have BB : Below w.heap.size w w := Below.refl _ _
 obtain ⟨Wb0,hW0,hS0,hL0,VA⟩ := V3.lay w 35 (.bool p) (.slice ao n c) (.slice bo m d)
 replace hz := hz.below hL0
 replace hx := hx.below hL0
 replace BB := BB.trans (hL0.mono BB.size)
 clear hL0
 obtain ⟨Wb1,hW1,hS1,hL1,VR⟩ := V2.lay Wb0 33 (.bool false) (.slice none 0 0)
 rw [hS0] at VR hS1
 replace hz := hz.below hL1
 replace hx := hx.below hL1
 replace VA := VA.below hL1
 replace BB := BB.trans (hL1.mono BB.size)
 clear hL1
 go_enter Tryz.func11,Tryz.ntmps11
 go_wp2
 rw [← hW0]
 rw [← hW1]
 clear hW0 hW1 hS0 hS1
 have hDr : Below Wb1.heap.size Wb1 Wb1.drew := (Below.refl _ _).drew
 replace hz := hz.below hDr
 replace hx := hx.below hDr
 replace VA := VA.below hDr
 replace VR := VR.below hDr
 replace BB := BB.trans (hDr.mono BB.size)
 clear hDr
 refine wp_region_held_drew (S := (fun w' => w'.cell? ⟨w.heap.size,0,none⟩ = some (.bool p) ∧ w'.cell? ⟨w.heap.size,1,none⟩ = some (.slice ao n c) ∧ w'.cell? ⟨w.heap.size,2,none⟩ = some (.slice bo m d))) (by kernel_rfl) ?_ (fun hHeld => ?_)
 ·exact ⟨VA.1,VA.2.1,VA.2.2.1⟩
 generalize Wb1.drew = W1 at *
 refine xT 0 (v := ?_) (hy := Or.inl ⟨by rfl,?_⟩) (h := ?_)
 rotate_left
 ·(intro w hSw; (try dsimp only at hSw); go_simp; (try with_reducible rfl))
 (try simp only [Act.put,xL4,xL5,xL6])
 refine xT 1 (v := ?_) (hy := Or.inl ⟨by rfl,?_⟩) (h := ?_)
 rotate_left
 ·(intro w hSw; (try dsimp only at hSw); go_simp; (try with_reducible rfl))
 (try simp only [Act.put,xL4,xL5,xL6])
 refine xT 2 (v := ?_) (hy := Or.inl ⟨by rfl,?_⟩) (h := ?_)
 rotate_left
 ·(intro w hSw; (try dsimp only at hSw); go_simp; (try with_reducible rfl))
 (try simp only [Act.put,xL4,xL5,xL6])
 refine xR [3,8,9] (h := ?_)
 refine xC (h := fun K hK => ?_) (hs := ?_)
 ·
  go_simp
  refine (den_at p ao n c bo m d x _ hx).mono ?_
  rintro e w1 ⟨e1,rfl,h1,b1⟩
  go_wp2_with fail
  replace hz := hz.below b1
  replace hx := hx.below b1
  replace VA := VA.below b1
  replace VR := VR.below b1
  replace BB := BB.trans (b1.mono BB.size)
  clear b1
  refine hK.out _ _ ?_ (fun hH1 => ?_)
  ·exact ⟨VA.1,VA.2.1,VA.2.2.1⟩
  clear hK K hHeld
  (try simp only [Act.put,xL4,xL5,xL6])
  refine xR [4,8,9] (h := ?_)
  refine xC (h := fun K hK => ?_) (hs := ?_)
  ·
   go_simp
   refine (rover_any _ _ z (x : Int) _ hz h1 (by omega) l3 l4).mono ?_
   rintro e w2 ⟨e2,e3,rfl,hq,hr,b2⟩
   obtain ⟨pq,aq,nq,cq,rfl⟩ := hq.open
   obtain ⟨pr,ar,nr,cr,rfl⟩ := hr.open
   go_wp2_with fail
   replace hz := hz.below b2
   replace hx := hx.below b2
   replace h1 := h1.below b2
   replace VA := VA.below b2
   replace VR := VR.below b2
   replace BB := BB.trans (b2.mono BB.size)
   clear b2
   refine hK.out _ _ ?_ (fun hH2 => ?_)
   ·exact ⟨VA.1,VA.2.1,VA.2.2.1⟩
   clear hK K hH1
   (try simp only [Act.put,xL4,xL5,xL6])
   refine xT 5 (v := ?_) (hy := Or.inl ⟨by rfl,?_⟩) (h := ?_)
   rotate_left
   ·(intro w hSw; (try dsimp only at hSw); go_simp; (try with_reducible rfl))
   (try simp only [Act.put,xL4,xL5,xL6])
   refine xT 6 (v := ?_) (hy := Or.inl ⟨by rfl,?_⟩) (h := ?_)
   rotate_left
   ·(intro w hSw; (try dsimp only at hSw); go_simp; (try with_reducible rfl))
   (try simp only [Act.put,xL4,xL5,xL6])
   refine xT 7 (v := ?_) (hy := Or.inl ⟨by rfl,?_⟩) (h := ?_)
   rotate_left
   ·(intro w hSw; (try dsimp only at hSw); go_simp; (try with_reducible rfl))
   (try simp only [Act.put,xL4,xL5,xL6])
   refine xR [8,9] (h := ?_)
   refine xC (h := fun K hK => ?_) (hs := ?_)
   ·
    go_simp
    have hZ2 : w.heap.size ≤ w2.heap.size := BB.size
    have hN2VA : w.heap.size ≠ w2.heap.size := Nat.ne_of_lt VA.lt
    have hN2VR : w.heap.size + 1 ≠ w2.heap.size := Nat.ne_of_lt VR.lt
    obtain ⟨W2,hW2,hS2,hL2,VQ⟩ := V2.lay w2 33 (.bool false) (.slice none 0 0)
    replace hz := hz.below hL2
    replace hx := hx.below hL2
    replace h1 := h1.below hL2
    replace hq := hq.below hL2
    replace hr := hr.below hL2
    replace VA := VA.below hL2
    replace VR := VR.below hL2
    replace BB := BB.trans (hL2.mono BB.size)
    clear hL2
    rw [← hW2]
    generalize w2.heap.size = R2 at *
    clear hW2 hS2
    refine hK.out _ _ ?_ (fun hH3 => ?_)
    ·exact ⟨VA.1,VA.2.1,VA.2.2.1⟩
    clear hK K hH2
    (try simp only [Act.put,xL4,xL5,xL6])
    refine xR [9] (h := ?_)
    refine xN (h := fun K hK => ?_)
    go_simp
    have hZ3 : w.heap.size ≤ W2.heap.size := BB.size
    have hN3VA : w.heap.size ≠ W2.heap.size := Nat.ne_of_lt VA.lt
    have hN3VR : w.heap.size + 1 ≠ W2.heap.size := Nat.ne_of_lt VR.lt
    have hN3VQ : R2 ≠ W2.heap.size := Nat.ne_of_lt VQ.lt
    obtain ⟨W3,hW3,hS3,hL3,VM⟩ := V2.lay W2 33 (.bool false) (.slice none 0 0)
    replace hz := hz.below hL3
    replace hx := hx.below hL3
    replace h1 := h1.below hL3
    replace hq := hq.below hL3
    replace hr := hr.below hL3
    replace VA := VA.below hL3
    replace VR := VR.below hL3
    replace VQ := VQ.below hL3
    replace BB := BB.trans (hL3.mono BB.size)
    clear hL3
    rw [← hW3]
    generalize W2.heap.size = R3 at *
    clear hW3 hS3
    refine hK.out _ _ ?_ (fun hH4 => ?_)
    ·exact ⟨VA.1,VA.2.1,VA.2.2.1⟩
    clear hK K hH3
    (try simp only [Act.put,xL4,xL5,xL6])
    refine xR [10] (h := ?_)
    refine xN (h := fun K hK => ?_)
    have hKp := VQ.keepJ (.bool pq) (.slice aq nq cq)
    have VA_n := VA.other2 (R := R2) (by omega) (.bool pq) (.slice aq nq cq)
    have VR_n := VR.other (R := R2) (by omega) (.bool pq) (.slice aq nq cq)
    have VM_n := VM.other (R := R2) (by omega) (.bool pq) (.slice aq nq cq)
    have VQ_n := VQ.same (.bool pq) (.slice aq nq cq)
    have hz_n := hz.keep hKp
    have hx_n := hx.keep hKp
    have h1_n := h1.keep hKp
    have hq_n := hq.keep hKp
    have hr_n := hr.keep hKp
    have BB_n := below_store2 (R := R2) BB (by omega) (.bool pq) (.slice aq nq cq)
    clear hKp
    obtain ⟨VQ_0,VQ_1,VQ_2,VQ_3⟩ := id VQ
    go_simp
    clear VQ_0 VQ_1 VQ_2 VQ_3
    clear BB hz hx h1 hq hr VA VR VQ VM
    generalize (W3.setCell ⟨R2,0,none⟩ (.bool pq)).setCell ⟨R2,1,none⟩ (.slice aq nq cq) = W4 at *
    have BB := BB_n
    have hz := hz_n
    have hx := hx_n
    have h1 := h1_n
    have hq := hq_n
    have hr := hr_n
    have VA := VA_n
    have VR := VR_n
    have VQ := VQ_n
    have VM := VM_n
    clear BB_n hz_n hx_n h1_n hq_n hr_n VA_n VR_n VQ_n VM_n
    refine hK.out _ _ ?_ (fun hH5 => ?_)
    ·exact ⟨VA.1,VA.2.1,VA.2.2.1⟩
    clear hK K hH4
    (try simp only [Act.put,xL4,xL5,xL6])
    refine xR [11] (h := ?_)
    refine xN (h := fun K hK => ?_)
    have hKp := VM.keepJ (.bool pr) (.slice ar nr cr)
    have VA_n := VA.other2 (R := R3) (by omega) (.bool pr) (.slice ar nr cr)
    have VR_n := VR.other (R := R3) (by omega) (.bool pr) (.slice ar nr cr)
    have VQ_n := VQ.other (R := R3) (by omega) (.bool pr) (.slice ar nr cr)
    have VM_n := VM.same (.bool pr) (.slice ar nr cr)
    have hz_n := hz.keep hKp
    have hx_n := hx.keep hKp
    have h1_n := h1.keep hKp
    have hq_n := hq.keep hKp
    have hr_n := hr.keep hKp
    have BB_n := below_store2 (R := R3) BB (by omega) (.bool pr) (.slice ar nr cr)
    clear hKp
    obtain ⟨VM_0,VM_1,VM_2,VM_3⟩ := id VM
    go_simp
    clear VM_0 VM_1 VM_2 VM_3
    clear BB hz hx h1 hq hr VA VR VQ VM
    generalize (W4.setCell ⟨R3,0,none⟩ (.bool pr)).setCell ⟨R3,1,none⟩ (.slice ar nr cr) = W5 at *
    have BB := BB_n
    have hz := hz_n
    have hx := hx_n
    have h1 := h1_n
    have hq := hq_n
    have hr := hr_n
    have VA := VA_n
    have VR := VR_n
    have VQ := VQ_n
    have VM := VM_n
    clear BB_n hz_n hx_n h1_n hq_n hr_n VA_n VR_n VQ_n VM_n
    refine hK.out _ _ ?_ (fun hH6 => ?_)
    ·exact ⟨VA.1,VA.2.1,VA.2.2.1⟩
    clear hK K hH5
    (try simp only [Act.put,xL4,xL5,xL6])
    refine wpAnyH_done (by kernel_rfl) ?_ _
    clear hH6
    have hKp := VR.keepJ (.bool pq) (.slice aq nq cq)
    have hz_n := hz.keep hKp
    have hx_n := hx.keep hKp
    have h1_n := h1.keep hKp
    have hq_n := hq.keep hKp
    have hr_n := hr.keep hKp
    have BB_n := below_store2 (R := w.heap.size + 1) BB (by omega) (.bool pq) (.slice aq nq cq)
    clear hKp
    obtain ⟨VQ_0,VQ_1,VQ_2,VQ_3⟩ := id VQ
    obtain ⟨q1,q2,q3,q4⟩ := id VR
    go_wp2
    (try simp only [Exit.inBlock,Exit.then])
    refine bodyPost_ret (v := .agg #[.bool pq,.slice aq nq cq]) (by simp [results,go_sem,q1,q2]) rfl ?_
    exact ⟨_,rfl,hq_n,BB_n⟩
   refine xC (h := fun K hK => ?_) (hs := ?_)
   ·
    go_simp
    have hZ6 : w.heap.size ≤ w2.heap.size := BB.size
    have hN6VA : w.heap.size ≠ w2.heap.size := Nat.ne_of_lt VA.lt
    have hN6VR : w.heap.size + 1 ≠ w2.heap.size := Nat.ne_of_lt VR.lt
    obtain ⟨W6,hW6,hS6,hL6,VM⟩ := V2.lay w2 33 (.bool false) (.slice none 0 0)
    replace hz := hz.below hL6
    replace hx := hx.below hL6
    replace h1 := h1.below hL6
    replace hq := hq.below hL6
    replace hr := hr.below hL6
    replace VA := VA.below hL6
    replace VR := VR.below hL6
    replace BB := BB.trans (hL6.mono BB.size)
    clear hL6
    rw [← hW6]
    generalize w2.heap.size = R6 at *
    clear hW6 hS6
    refine hK.out _ _ ?_ (fun hH3 => ?_)
    ·exact ⟨VA.1,VA.2.1,VA.2.2.1⟩
    clear hK K hH2
    (try simp only [Act.put,xL4,xL5,xL6])
    refine xR [8] (h := ?_)
    refine xN (h := fun K hK => ?_)
    go_simp
    have hZ7 : w.heap.size ≤ W6.heap.size := BB.size
    have hN7VA : w.heap.size ≠ W6.heap.size := Nat.ne_of_lt VA.lt
    have hN7VR : w.heap.size + 1 ≠ W6.heap.size := Nat.ne_of_lt VR.lt
    have hN7VM : R6 ≠ W6.heap.size := Nat.ne_of_lt VM.lt
    obtain ⟨W7,hW7,hS7,hL7,VQ⟩ := V2.lay W6 33 (.bool false) (.slice none 0 0)
    replace hz := hz.below hL7
    replace hx := hx.below hL7
    replace h1 := h1.below hL7
    replace hq := hq.below hL7
    replace hr := hr.below hL7
    replace VA := VA.below hL7
    replace VR := VR.below hL7
    replace VM := VM.below hL7
    replace BB := BB.trans (hL7.mono BB.size)
    clear hL7
    rw [← hW7]
    generalize W6.heap.size = R7 at *
    clear hW7 hS7
    refine hK.out _ _ ?_ (fun hH4 => ?_)
    ·exact ⟨VA.1,VA.2.1,VA.2.2.1⟩
    clear hK K hH3
    (try simp only [Act.put,xL4,xL5,xL6])
    refine xR [10] (h := ?_)
    refine xN (h := fun K hK => ?_)
    have hKp := VQ.keepJ (.bool pq) (.slice aq nq cq)
    have VA_n := VA.other2 (R := R7) (by omega) (.bool pq) (.slice aq nq cq)
    have VR_n := VR.other (R := R7) (by omega) (.bool pq) (.slice aq nq cq)
    have VM_n := VM.other (R := R7) (by omega) (.bool pq) (.slice aq nq cq)
    have VQ_n := VQ.same (.bool pq) (.slice aq nq cq)
    have hz_n := hz.keep hKp
    have hx_n := hx.keep hKp
    have h1_n := h1.keep hKp
    have hq_n := hq.keep hKp
    have hr_n := hr.keep hKp
    have BB_n := below_store2 (R := R7) BB (by omega) (.bool pq) (.slice aq nq cq)
    clear hKp
    obtain ⟨VQ_0,VQ_1,VQ_2,VQ_3⟩ := id VQ
    go_simp
    clear VQ_0 VQ_1 VQ_2 VQ_3
    clear BB hz hx h1 hq hr VA VR VM VQ
    generalize (W7.setCell ⟨R7,0,none⟩ (.bool pq)).setCell ⟨R7,1,none⟩ (.slice aq nq cq) = W8 at *
    have BB := BB_n
    have hz := hz_n
    have hx := hx_n
    have h1 := h1_n
    have hq := hq_n
    have hr := hr_n
    have VA := VA_n
    have VR := VR_n
    have VM := VM_n
    have VQ := VQ_n
    clear BB_n hz_n hx_n h1_n hq_n hr_n VA_n VR_n VM_n VQ_n
    refine hK.out _ _ ?_ (fun hH5 => ?_)
    ·exact ⟨VA.1,VA.2.1,VA.2.2.1⟩
    clear hK K hH4
    (try simp only [Act.put,xL4,xL5,xL6])
    refine xR [11] (h := ?_)
    refine xN (h := fun K hK => ?_)
    have hKp := VM.keepJ (.bool pr) (.slice ar nr cr)
    have VA_n := VA.other2 (R := R6) (by omega) (.bool pr) (.slice ar nr cr)
    have VR_n := VR.other (R := R6) (by omega) (.bool pr) (.slice ar nr cr)
    have VQ_n := VQ.other (R := R6) (by omega) (.bool pr) (.slice ar nr cr)
    have VM_n := VM.same (.bool pr) (.slice ar nr cr)
    have hz_n := hz.keep hKp
    have hx_n := hx.keep hKp
    have h1_n := h1.keep hKp
    have hq_n := hq.keep hKp
    have hr_n := hr.keep hKp
    have BB_n := below_store2 (R := R6) BB (by omega) (.bool pr) (.slice ar nr cr)
    clear hKp
    obtain ⟨VM_0,VM_1,VM_2,VM_3⟩ := id VM
    go_simp
    clear VM_0 VM_1 VM_2 VM_3
    clear BB hz hx h1 hq hr VA VR VM VQ
    generalize (W8.setCell ⟨R6,0,none⟩ (.bool pr)).setCell ⟨R6,1,none⟩ (.slice ar nr cr) = W9 at *
    have BB := BB_n
    have hz := hz_n
    have hx := hx_n
    have h1 := h1_n
    have hq := hq_n
    have hr := hr_n
    have VA := VA_n
    have VR := VR_n
    have VM := VM_n
    have VQ := VQ_n
    clear BB_n hz_n hx_n h1_n hq_n hr_n VA_n VR_n VM_n VQ_n
    refine hK.out _ _ ?_ (fun hH6 => ?_)
    ·exact ⟨VA.1,VA.2.1,VA.2.2.1⟩
    clear hK K hH5
    (try simp only [Act.put,xL4,xL5,xL6])
    refine wpAnyH_done (by kernel_rfl) ?_ _
    clear hH6
    have hKp := VR.keepJ (.bool pq) (.slice aq nq cq)
    have hz_n := hz.keep hKp
    have hx_n := hx.keep hKp
    have h1_n := h1.keep hKp
    have hq_n := hq.keep hKp
    have hr_n := hr.keep hKp
    have BB_n := below_store2 (R := w.heap.size + 1) BB (by omega) (.bool pq) (.slice aq nq cq)
    clear hKp
    obtain ⟨VQ_0,VQ_1,VQ_2,VQ_3⟩ := id VQ
    obtain ⟨q1,q2,q3,q4⟩ := id VR
    go_wp2
    (try simp only [Exit.inBlock,Exit.then])
    refine bodyPost_ret (v := .agg #[.bool pq,.slice aq nq cq]) (by simp [results,go_sem,q1,q2]) rfl ?_
    exact ⟨_,rfl,hq_n,BB_n⟩
   exact AllReadyH.nil
  refine xC (h := fun K hK => ?_) (hs := ?_)
  ·
   go_simp
   have hZ10 : w.heap.size ≤ w1.heap.size := BB.size
   have hN10VA : w.heap.size ≠ w1.heap.size := Nat.ne_of_lt VA.lt
   have hN10VR : w.heap.size + 1 ≠ w1.heap.size := Nat.ne_of_lt VR.lt
   obtain ⟨W10,hW10,hS10,hL10,VQ⟩ := V2.lay w1 33 (.bool false) (.slice none 0 0)
   replace hz := hz.below hL10
   replace hx := hx.below hL10
   replace h1 := h1.below hL10
   replace VA := VA.below hL10
   replace VR := VR.below hL10
   replace BB := BB.trans (hL10.mono BB.size)
   clear hL10
   rw [← hW10]
   generalize w1.heap.size = R10 at *
   clear hW10 hS10
   refine hK.out _ _ ?_ (fun hH2 => ?_)
   ·exact ⟨VA.1,VA.2.1,VA.2.2.1⟩
   clear hK K hH1
   (try simp only [Act.put,xL4,xL5,xL6])
   refine xR [4,9] (h := ?_)
   refine xC (h := fun K hK => ?_) (hs := ?_)
   ·
    go_simp
    refine (rover_any _ _ z (x : Int) _ hz h1 (by omega) l3 l4).mono ?_
    rintro e w3 ⟨e2,e3,rfl,hq,hr,b3⟩
    obtain ⟨pq,aq,nq,cq,rfl⟩ := hq.open
    obtain ⟨pr,ar,nr,cr,rfl⟩ := hr.open
    go_wp2_with fail
    replace hz := hz.below b3
    replace hx := hx.below b3
    replace h1 := h1.below b3
    replace VA := VA.below b3
    replace VR := VR.below b3
    replace VQ := VQ.below b3
    replace BB := BB.trans (b3.mono BB.size)
    clear b3
    refine hK.out _ _ ?_ (fun hH3 => ?_)
    ·exact ⟨VA.1,VA.2.1,VA.2.2.1⟩
    clear hK K hH2
    (try simp only [Act.put,xL4,xL5,xL6])
    refine xT 5 (v := ?_) (hy := Or.inl ⟨by rfl,?_⟩) (h := ?_)
    rotate_left
    ·(intro w hSw; (try dsimp only at hSw); go_simp; (try with_reducible rfl))
    (try simp only [Act.put,xL4,xL5,xL6])
    refine xT 6 (v := ?_) (hy := Or.inl ⟨by rfl,?_⟩) (h := ?_)
    rotate_left
    ·(intro w hSw; (try dsimp only at hSw); go_simp; (try with_reducible rfl))
    (try simp only [Act.put,xL4,xL5,xL6])
    refine xT 7 (v := ?_) (hy := Or.inl ⟨by rfl,?_⟩) (h := ?_)
    rotate_left
    ·(intro w hSw; (try dsimp only at hSw); go_simp; (try with_reducible rfl))
    (try simp only [Act.put,xL4,xL5,xL6])
    refine xR [9] (h := ?_)
    refine xN (h := fun K hK => ?_)
    go_simp
    have hZ11 : w.heap.size ≤ w3.heap.size := BB.size
    have hN11VA : w.heap.size ≠ w3.heap.size := Nat.ne_of_lt VA.lt
    have hN11VR : w.heap.size + 1 ≠ w3.heap.size := Nat.ne_of_lt VR.lt
    have hN11VQ : R10 ≠ w3.heap.size := Nat.ne_of_lt VQ.lt
    obtain ⟨W11,hW11,hS11,hL11,VM⟩ := V2.lay w3 33 (.bool false) (.slice none 0 0)
    replace hz := hz.below hL11
    replace hx := hx.below hL11
    replace h1 := h1.below hL11
    replace hq := hq.below hL11
    replace hr := hr.below hL11
    replace VA := VA.below hL11
    replace VR := VR.below hL11
    replace VQ := VQ.below hL11
    replace BB := BB.trans (hL11.mono BB.size)
    clear hL11
    rw [← hW11]
    generalize w3.heap.size = R11 at *
    clear hW11 hS11
    refine hK.out _ _ ?_ (fun hH4 => ?_)
    ·exact ⟨VA.1,VA.2.1,VA.2.2.1⟩
    clear hK K hH3
    (try simp only [Act.put,xL4,xL5,xL6])
    refine xR [10] (h := ?_)
    refine xN (h := fun K hK => ?_)
    have hKp := VQ.keepJ (.bool pq) (.slice aq nq cq)
    have VA_n := VA.other2 (R := R10) (by omega) (.bool pq) (.slice aq nq cq)
    have VR_n := VR.other (R := R10) (by omega) (.bool pq) (.slice aq nq cq)
    have VM_n := VM.other (R := R10) (by omega) (.bool pq) (.slice aq nq cq)
    have VQ_n := VQ.same (.bool pq) (.slice aq nq cq)
    have hz_n := hz.keep hKp
    have hx_n := hx.keep hKp
    have h1_n := h1.keep hKp
    have hq_n := hq.keep hKp
    have hr_n := hr.keep hKp
    have BB_n := below_store2 (R := R10) BB (by omega) (.bool pq) (.slice aq nq cq)
    clear hKp
    obtain ⟨VQ_0,VQ_1,VQ_2,VQ_3⟩ := id VQ
    go_simp
    clear VQ_0 VQ_1 VQ_2 VQ_3
    clear BB hz hx h1 hq hr VA VR VQ VM
    generalize (W11.setCell ⟨R10,0,none⟩ (.bool pq)).setCell ⟨R10,1,none⟩ (.slice aq nq cq) = W12 at *
    have BB := BB_n
    have hz := hz_n
    have hx := hx_n
    have h1 := h1_n
    have hq := hq_n
    have hr := hr_n
    have VA := VA_n
    have VR := VR_n
    have VQ := VQ_n
    have VM := VM_n
    clear BB_n hz_n hx_n h1_n hq_n hr_n VA_n VR_n VQ_n VM_n
    refine hK.out _ _ ?_ (fun hH5 => ?_)
    ·exact ⟨VA.1,VA.2.1,VA.2.2.1⟩
    clear hK K hH4
    (try simp only [Act.put,xL4,xL5,xL6])
    refine xR [11] (h := ?_)
    refine xN (h := fun K hK => ?_)
    have hKp := VM.keepJ (.bool pr) (.slice ar nr cr)
    have VA_n := VA.other2 (R := R11) (by omega) (.bool pr) (.slice ar nr cr)
    have VR_n := VR.other (R := R11) (by omega) (.bool pr) (.slice ar nr cr)
    have VQ_n := VQ.other (R := R11) (by omega) (.bool pr) (.slice ar nr cr)
    have VM_n := VM.same (.bool pr) (.slice ar nr cr)
    have hz_n := hz.keep hKp
    have hx_n := hx.keep hKp
    have h1_n := h1.keep hKp
    have hq_n := hq.keep hKp
    have hr_n := hr.keep hKp
    have BB_n := below_store2 (R := R11) BB (by omega) (.bool pr) (.slice ar nr cr)
    clear hKp
    obtain ⟨VM_0,VM_1,VM_2,VM_3⟩ := id VM
    go_simp
    clear VM_0 VM_1 VM_2 VM_3
    clear BB hz hx h1 hq hr VA VR VQ VM
    generalize (W12.setCell ⟨R11,0,none⟩ (.bool pr)).setCell ⟨R11,1,none⟩ (.slice ar nr cr) = W13 at *
    have BB := BB_n
    have hz := hz_n
    have hx := hx_n
    have h1 := h1_n
    have hq := hq_n
    have hr := hr_n
    have VA := VA_n
    have VR := VR_n
    have VQ := VQ_n
    have VM := VM_n
    clear BB_n hz_n hx_n h1_n hq_n hr_n VA_n VR_n VQ_n VM_n
    refine hK.out _ _ ?_ (fun hH6 => ?_)
    ·exact ⟨VA.1,VA.2.1,VA.2.2.1⟩
    clear hK K hH5
    (try simp only [Act.put,xL4,xL5,xL6])
    refine wpAnyH_done (by kernel_rfl) ?_ _
    clear hH6
    have hKp := VR.keepJ (.bool pq) (.slice aq nq cq)
    have hz_n := hz.keep hKp
    have hx_n := hx.keep hKp
    have h1_n := h1.keep hKp
    have hq_n := hq.keep hKp
    have hr_n := hr.keep hKp
    have BB_n := below_store2 (R := w.heap.size + 1) BB (by omega) (.bool pq) (.slice aq nq cq)
    clear hKp
    obtain ⟨VQ_0,VQ_1,VQ_2,VQ_3⟩ := id VQ
    obtain ⟨q1,q2,q3,q4⟩ := id VR
    go_wp2
    (try simp only [Exit.inBlock,Exit.then])
    refine bodyPost_ret (v := .agg #[.bool pq,.slice aq nq cq]) (by simp [results,go_sem,q1,q2]) rfl ?_
    exact ⟨_,rfl,hq_n,BB_n⟩
   refine xC (h := fun K hK => ?_) (hs := ?_)
   ·
    go_simp
    have hZ14 : w.heap.size ≤ W10.heap.size := BB.size
    have hN14VA : w.heap.size ≠ W10.heap.size := Nat.ne_of_lt VA.lt
    have hN14VR : w.heap.size + 1 ≠ W10.heap.size := Nat.ne_of_lt VR.lt
    have hN14VQ : R10 ≠ W10.heap.size := Nat.ne_of_lt VQ.lt
    obtain ⟨W14,hW14,hS14,hL14,VM⟩ := V2.lay W10 33 (.bool false) (.slice none 0 0)
    replace hz := hz.below hL14
    replace hx := hx.below hL14
    replace h1 := h1.below hL14
    replace VA := VA.below hL14
    replace VR := VR.below hL14
    replace VQ := VQ.below hL14
    replace BB := BB.trans (hL14.mono BB.size)
    clear hL14
    rw [← hW14]
    generalize W10.heap.size = R14 at *
    clear hW14 hS14
    refine hK.out _ _ ?_ (fun hH3 => ?_)
    ·exact ⟨VA.1,VA.2.1,VA.2.2.1⟩
    clear hK K hH2
    (try simp only [Act.put,xL4,xL5,xL6])
    refine xR [4] (h := ?_)
    refine xN (h := fun K hK => ?_)
    go_simp
    refine (rover_any _ _ z (x : Int) _ hz h1 (by omega) l3 l4).mono ?_
    rintro e w4 ⟨e2,e3,rfl,hq,hr,b4⟩
    obtain ⟨pq,aq,nq,cq,rfl⟩ := hq.open
    obtain ⟨pr,ar,nr,cr,rfl⟩ := hr.open
    go_wp2_with fail
    replace hz := hz.below b4
    replace hx := hx.below b4
    replace h1 := h1.below b4
    replace VA := VA.below b4
    replace VR := VR.below b4
    replace VQ := VQ.below b4
    replace VM := VM.below b4
    replace BB := BB.trans (b4.mono BB.size)
    clear b4
    refine hK.out _ _ ?_ (fun hH4 => ?_)
    ·exact ⟨VA.1,VA.2.1,VA.2.2.1⟩
    clear hK K hH3
    (try simp only [Act.put,xL4,xL5,xL6])
    refine xT 5 (v := ?_) (hy := Or.inl ⟨by rfl,?_⟩) (h := ?_)
    rotate_left
    ·(intro w hSw; (try dsimp only at hSw); go_simp; (try with_reducible rfl))
    (try simp only [Act.put,xL4,xL5,xL6])
    refine xT 6 (v := ?_) (hy := Or.inl ⟨by rfl,?_⟩) (h := ?_)
    rotate_left
    ·(intro w hSw; (try dsimp only at hSw); go_simp; (try with_reducible rfl))
    (try simp only [Act.put,xL4,xL5,xL6])
    refine xT 7 (v := ?_) (hy := Or.inl ⟨by rfl,?_⟩) (h := ?_)
    rotate_left
    ·(intro w hSw; (try dsimp only at hSw); go_simp; (try with_reducible rfl))
    (try simp only [Act.put,xL4,xL5,xL6])
    refine xR [10] (h := ?_)
    refine xN (h := fun K hK => ?_)
    have hKp := VQ.keepJ (.bool pq) (.slice aq nq cq)
    have VA_n := VA.other2 (R := R10) (by omega) (.bool pq) (.slice aq nq cq)
    have VR_n := VR.other (R := R10) (by omega) (.bool pq) (.slice aq nq cq)
    have VM_n := VM.other (R := R10) (by omega) (.bool pq) (.slice aq nq cq)
    have VQ_n := VQ.same (.bool pq) (.slice aq nq cq)
    have hz_n := hz.keep hKp
    have hx_n := hx.keep hKp
    have h1_n := h1.keep hKp
    have hq_n := hq.keep hKp
    have hr_n := hr.keep hKp
    have BB_n := below_store2 (R := R10) BB (by omega) (.bool pq) (.slice aq nq cq)
    clear hKp
    obtain ⟨VQ_0,VQ_1,VQ_2,VQ_3⟩ := id VQ
    go_simp
    clear VQ_0 VQ_1 VQ_2 VQ_3
    clear BB hz hx h1 hq hr VA VR VQ VM
    generalize (w4.setCell ⟨R10,0,none⟩ (.bool pq)).setCell ⟨R10,1,none⟩ (.slice aq nq cq) = W15 at *
    have BB := BB_n
    have hz := hz_n
    have hx := hx_n
    have h1 := h1_n
    have hq := hq_n
    have hr := hr_n
    have VA := VA_n
    have VR := VR_n
    have VQ := VQ_n
    have VM := VM_n
    clear BB_n hz_n hx_n h1_n hq_n hr_n VA_n VR_n VQ_n VM_n
    refine hK.out _ _ ?_ (fun hH5 => ?_)
    ·exact ⟨VA.1,VA.2.1,VA.2.2.1⟩
    clear hK K hH4
    (try simp only [Act.put,xL4,xL5,xL6])
    refine xR [11] (h := ?_)
    refine xN (h := fun K hK => ?_)
    have hKp := VM.keepJ (.bool pr) (.slice ar nr cr)
    have VA_n := VA.other2 (R := R14) (by omega) (.bool pr) (.slice ar nr cr)
    have VR_n := VR.other (R := R14) (by omega) (.bool pr) (.slice ar nr cr)
    have VQ_n := VQ.other (R := R14) (by omega) (.bool pr) (.slice ar nr cr)
    have VM_n := VM.same (.bool pr) (.slice ar nr cr)
    have hz_n := hz.keep hKp
    have hx_n := hx.keep hKp
    have h1_n := h1.keep hKp
    have hq_n := hq.keep hKp
    have hr_n := hr.keep hKp
    have BB_n := below_store2 (R := R14) BB (by omega) (.bool pr) (.slice ar nr cr)
    clear hKp
    obtain ⟨VM_0,VM_1,VM_2,VM_3⟩ := id VM
    go_simp
    clear VM_0 VM_1 VM_2 VM_3
    clear BB hz hx h1 hq hr VA VR VQ VM
    generalize (W15.setCell ⟨R14,0,none⟩ (.bool pr)).setCell ⟨R14,1,none⟩ (.slice ar nr cr) = W16 at *
    have BB := BB_n
    have hz := hz_n
    have hx := hx_n
    have h1 := h1_n
    have hq := hq_n
    have hr := hr_n
    have VA := VA_n
    have VR := VR_n
    have VQ := VQ_n
    have VM := VM_n
    clear BB_n hz_n hx_n h1_n hq_n hr_n VA_n VR_n VQ_n VM_n
    refine hK.out _ _ ?_ (fun hH6 => ?_)
    ·exact ⟨VA.1,VA.2.1,VA.2.2.1⟩
    clear hK K hH5
    (try simp only [Act.put,xL4,xL5,xL6])
    refine wpAnyH_done (by kernel_rfl) ?_ _
    clear hH6
    have hKp := VR.keepJ (.bool pq) (.slice aq nq cq)
    have hz_n := hz.keep hKp
    have hx_n := hx.keep hKp
    have h1_n := h1.keep hKp
    have hq_n := hq.keep hKp
    have hr_n := hr.keep hKp
    have BB_n := below_store2 (R := w.heap.size + 1) BB (by omega) (.bool pq) (.slice aq nq cq)
    clear hKp
    obtain ⟨VQ_0,VQ_1,VQ_2,VQ_3⟩ := id VQ
    obtain ⟨q1,q2,q3,q4⟩ := id VR
    go_wp2
    (try simp only [Exit.inBlock,Exit.then])
    refine bodyPost_ret (v := .agg #[.bool pq,.slice aq nq cq]) (by simp [results,go_sem,q1,q2]) rfl ?_
    exact ⟨_,rfl,hq_n,BB_n⟩
   exact AllReadyH.nil
  refine xC (h := fun K hK => ?_) (hs := ?_)
  ·
   go_simp
   have hZ17 : w.heap.size ≤ w1.heap.size := BB.size
   have hN17VA : w.heap.size ≠ w1.heap.size := Nat.ne_of_lt VA.lt
   have hN17VR : w.heap.size + 1 ≠ w1.heap.size := Nat.ne_of_lt VR.lt
   obtain ⟨W17,hW17,hS17,hL17,VM⟩ := V2.lay w1 33 (.bool false) (.slice none 0 0)
   replace hz := hz.below hL17
   replace hx := hx.below hL17
   replace h1 := h1.below hL17
   replace VA := VA.below hL17
   replace VR := VR.below hL17
   replace BB := BB.trans (hL17.mono BB.size)
   clear hL17
   rw [← hW17]
   generalize w1.heap.size = R17 at *
   clear hW17 hS17
   refine hK.out _ _ ?_ (fun hH2 => ?_)
   ·exact ⟨VA.1,VA.2.1,VA.2.2.1⟩
   clear hK K hH1
   (try simp only [Act.put,xL4,xL5,xL6])
   refine xR [4,8] (h := ?_)
   refine xC (h := fun K hK => ?_) (hs := ?_)
   ·
    go_simp
    refine (rover_any _ _ z (x : Int) _ hz h1 (by omega) l3 l4).mono ?_
    rintro e w5 ⟨e2,e3,rfl,hq,hr,b5⟩
    obtain ⟨pq,aq,nq,cq,rfl⟩ := hq.open
    obtain ⟨pr,ar,nr,cr,rfl⟩ := hr.open
    go_wp2_with fail
    replace hz := hz.below b5
    replace hx := hx.below b5
    replace h1 := h1.below b5
    replace VA := VA.below b5
    replace VR := VR.below b5
    replace VM := VM.below b5
    replace BB := BB.trans (b5.mono BB.size)
    clear b5
    refine hK.out _ _ ?_ (fun hH3 => ?_)
    ·exact ⟨VA.1,VA.2.1,VA.2.2.1⟩
    clear hK K hH2
    (try simp only [Act.put,xL4,xL5,xL6])
    refine xT 5 (v := ?_) (hy := Or.inl ⟨by rfl,?_⟩) (h := ?_)
    rotate_left
    ·(intro w hSw; (try dsimp only at hSw); go_simp; (try with_reducible rfl))
    (try simp only [Act.put,xL4,xL5,xL6])
    refine xT 6 (v := ?_) (hy := Or.inl ⟨by rfl,?_⟩) (h := ?_)
    rotate_left
    ·(intro w hSw; (try dsimp only at hSw); go_simp; (try with_reducible rfl))
    (try simp only [Act.put,xL4,xL5,xL6])
    refine xT 7 (v := ?_) (hy := Or.inl ⟨by rfl,?_⟩) (h := ?_)
    rotate_left
    ·(intro w hSw; (try dsimp only at hSw); go_simp; (try with_reducible rfl))
    (try simp only [Act.put,xL4,xL5,xL6])
    refine xR [8] (h := ?_)
    refine xN (h := fun K hK => ?_)
    go_simp
    have hZ18 : w.heap.size ≤ w5.heap.size := BB.size
    have hN18VA : w.heap.size ≠ w5.heap.size := Nat.ne_of_lt VA.lt
    have hN18VR : w.heap.size + 1 ≠ w5.heap.size := Nat.ne_of_lt VR.lt
    have hN18VM : R17 ≠ w5.heap.size := Nat.ne_of_lt VM.lt
    obtain ⟨W18,hW18,hS18,hL18,VQ⟩ := V2.lay w5 33 (.bool false) (.slice none 0 0)
    replace hz := hz.below hL18
    replace hx := hx.below hL18
    replace h1 := h1.below hL18
    replace hq := hq.below hL18
    replace hr := hr.below hL18
    replace VA := VA.below hL18
    replace VR := VR.below hL18
    replace VM := VM.below hL18
    replace BB := BB.trans (hL18.mono BB.size)
    clear hL18
    rw [← hW18]
    generalize w5.heap.size = R18 at *
    clear hW18 hS18
    refine hK.out _ _ ?_ (fun hH4 => ?_)
    ·exact ⟨VA.1,VA.2.1,VA.2.2.1⟩
    clear hK K hH3
    (try simp only [Act.put,xL4,xL5,xL6])
    refine xR [10] (h := ?_)
    refine xN (h := fun K hK => ?_)
    have hKp := VQ.keepJ (.bool pq) (.slice aq nq cq)
    have VA_n := VA.other2 (R := R18) (by omega) (.bool pq) (.slice aq nq cq)
    have VR_n := VR.other (R := R18) (by omega) (.bool pq) (.slice aq nq cq)
    have VM_n := VM.other (R := R18) (by omega) (.bool pq) (.slice aq nq cq)
    have VQ_n := VQ.same (.bool pq) (.slice aq nq cq)
    have hz_n := hz.keep hKp
    have hx_n := hx.keep hKp
    have h1_n := h1.keep hKp
    have hq_n := hq.keep hKp
    have hr_n := hr.keep hKp
    have BB_n := below_store2 (R := R18) BB (by omega) (.bool pq) (.slice aq nq cq)
    clear hKp
    obtain ⟨VQ_0,VQ_1,VQ_2,VQ_3⟩ := id VQ
    go_simp
    clear VQ_0 VQ_1 VQ_2 VQ_3
    clear BB hz hx h1 hq hr VA VR VM VQ
    generalize (W18.setCell ⟨R18,0,none⟩ (.bool pq)).setCell ⟨R18,1,none⟩ (.slice aq nq cq) = W19 at *
    have BB := BB_n
    have hz := hz_n
    have hx := hx_n
    have h1 := h1_n
    have hq := hq_n
    have hr := hr_n
    have VA := VA_n
    have VR := VR_n
    have VM := VM_n
    have VQ := VQ_n
    clear BB_n hz_n hx_n h1_n hq_n hr_n VA_n VR_n VM_n VQ_n
    refine hK.out _ _ ?_ (fun hH5 => ?_)
    ·exact ⟨VA.1,VA.2.1,VA.2.2.1⟩
    clear hK K hH4
    (try simp only [Act.put,xL4,xL5,xL6])
    refine xR [11] (h := ?_)
    refine xN (h := fun K hK => ?_)
    have hKp := VM.keepJ (.bool pr) (.slice ar nr cr)
    have VA_n := VA.other2 (R := R17) (by omega) (.bool pr) (.slice ar nr cr)
    have VR_n := VR.other (R := R17) (by omega) (.bool pr) (.slice ar nr cr)
    have VQ_n := VQ.other (R := R17) (by omega) (.bool pr) (.slice ar nr cr)
    have VM_n := VM.same (.bool pr) (.slice ar nr cr)
    have hz_n := hz.keep hKp
    have hx_n := hx.keep hKp
    have h1_n := h1.keep hKp
    have hq_n := hq.keep hKp
    have hr_n := hr.keep hKp
    have BB_n := below_store2 (R := R17) BB (by omega) (.bool pr) (.slice ar nr cr)
    clear hKp
    obtain ⟨VM_0,VM_1,VM_2,VM_3⟩ := id VM
    go_simp
    clear VM_0 VM_1 VM_2 VM_3
    clear BB hz hx h1 hq hr VA VR VM VQ
    generalize (W19.setCell ⟨R17,0,none⟩ (.bool pr)).setCell ⟨R17,1,none⟩ (.slice ar nr cr) = W20 at *
    have BB := BB_n
    have hz := hz_n
    have hx := hx_n
    have h1 := h1_n
    have hq := hq_n
    have hr := hr_n
    have VA := VA_n
    have VR := VR_n
    have VM := VM_n
    have VQ := VQ_n
    clear BB_n hz_n hx_n h1_n hq_n hr_n VA_n VR_n VM_n VQ_n
    refine hK.out _ _ ?_ (fun hH6 => ?_)
    ·exact ⟨VA.1,VA.2.1,VA.2.2.1⟩
    clear hK K hH5
    (try simp only [Act.put,xL4,xL5,xL6])
    refine wpAnyH_done (by kernel_rfl) ?_ _
    clear hH6
    have hKp := VR.keepJ (.bool pq) (.slice aq nq cq)
    have hz_n := hz.keep hKp
    have hx_n := hx.keep hKp
    have h1_n := h1.keep hKp
    have hq_n := hq.keep hKp
    have hr_n := hr.keep hKp
    have BB_n := below_store2 (R := w.heap.size + 1) BB (by omega) (.bool pq) (.slice aq nq cq)
    clear hKp
    obtain ⟨VQ_0,VQ_1,VQ_2,VQ_3⟩ := id VQ
    obtain ⟨q1,q2,q3,q4⟩ := id VR
    go_wp2
    (try simp only [Exit.inBlock,Exit.then])
    refine bodyPost_ret (v := .agg #[.bool pq,.slice aq nq cq]) (by simp [results,go_sem,q1,q2]) rfl ?_
    exact ⟨_,rfl,hq_n,BB_n⟩
   refine xC (h := fun K hK => ?_) (hs := ?_)
   ·
    go_simp
    have hZ21 : w.heap.size ≤ W17.heap.size := BB.size
    have hN21VA : w.heap.size ≠ W17.heap.size := Nat.ne_of_lt VA.lt
    have hN21VR : w.heap.size + 1 ≠ W17.heap.size := Nat.ne_of_lt VR.lt
    have hN21VM : R17 ≠ W17.heap.size := Nat.ne_of_lt VM.lt
    obtain ⟨W21,hW21,hS21,hL21,VQ⟩ := V2.lay W17 33 (.bool false) (.slice none 0 0)
    replace hz := hz.below hL21
    replace hx := hx.below hL21
    replace h1 := h1.below hL21
    replace VA := VA.below hL21
    replace VR := VR.below hL21
    replace VM := VM.below hL21
    replace BB := BB.trans (hL21.mono BB.size)
    clear hL21
    rw [← hW21]
    generalize W17.heap.size = R21 at *
    clear hW21 hS21
    refine hK.out _ _ ?_ (fun hH3 => ?_)
    ·exact ⟨VA.1,VA.2.1,VA.2.2.1⟩
    clear hK K hH2
    (try simp only [Act.put,xL4,xL5,xL6])
    refine xR [4] (h := ?_)
    refine xN (h := fun K hK => ?_)
    go_simp
    refine (rover_any _ _ z (x : Int) _ hz h1 (by omega) l3 l4).mono ?_
    rintro e w6 ⟨e2,e3,rfl,hq,hr,b6⟩
    obtain ⟨pq,aq,nq,cq,rfl⟩ := hq.open
    obtain ⟨pr,ar,nr,cr,rfl⟩ := hr.open
    go_wp2_with fail
    replace hz := hz.below b6
    replace hx := hx.below b6
    replace h1 := h1.below b6
    replace VA := VA.below b6
    replace VR := VR.below b6
    replace VM := VM.below b6
    replace VQ := VQ.below b6
    replace BB := BB.trans (b6.mono BB.size)
    clear b6
    refine hK.out _ _ ?_ (fun hH4 => ?_)
    ·exact ⟨VA.1,VA.2.1,VA.2.2.1⟩
    clear hK K hH3
    (try simp only [Act.put,xL4,xL5,xL6])
    refine xT 5 (v := ?_) (hy := Or.inl ⟨by rfl,?_⟩) (h := ?_)
    rotate_left
    ·(intro w hSw; (try dsimp only at hSw); go_simp; (try with_reducible rfl))
    (try simp only [Act.put,xL4,xL5,xL6])
    refine xT 6 (v := ?_) (hy := Or.inl ⟨by rfl,?_⟩) (h := ?_)
    rotate_left
    ·(intro w hSw; (try dsimp only at hSw); go_simp; (try with_reducible rfl))
    (try simp only [Act.put,xL4,xL5,xL6])
    refine xT 7 (v := ?_) (hy := Or.inl ⟨by rfl,?_⟩) (h := ?_)
    rotate_left
    ·(intro w hSw; (try dsimp only at hSw); go_simp; (try with_reducible rfl))
    (try simp only [Act.put,xL4,xL5,xL6])
    refine xR [10] (h := ?_)
    refine xN (h := fun K hK => ?_)
    have hKp := VQ.keepJ (.bool pq) (.slice aq nq cq)
    have VA_n := VA.other2 (R := R21) (by omega) (.bool pq) (.slice aq nq cq)
    have VR_n := VR.other (R := R21) (by omega) (.bool pq) (.slice aq nq cq)
    have VM_n := VM.other (R := R21) (by omega) (.bool pq) (.slice aq nq cq)
    have VQ_n := VQ.same (.bool pq) (.slice aq nq cq)
    have hz_n := hz.keep hKp
    have hx_n := hx.keep hKp
    have h1_n := h1.keep hKp
    have hq_n := hq.keep hKp
    have hr_n := hr.keep hKp
    have BB_n := below_store2 (R := R21) BB (by omega) (.bool pq) (.slice aq nq cq)
    clear hKp
    obtain ⟨VQ_0,VQ_1,VQ_2,VQ_3⟩ := id VQ
    go_simp
    clear VQ_0 VQ_1 VQ_2 VQ_3
    clear BB hz hx h1 hq hr VA VR VM VQ
    generalize (w6.setCell ⟨R21,0,none⟩ (.bool pq)).setCell ⟨R21,1,none⟩ (.slice aq nq cq) = W22 at *
    have BB := BB_n
    have hz := hz_n
    have hx := hx_n
    have h1 := h1_n
    have hq := hq_n
    have hr := hr_n
    have VA := VA_n
    have VR := VR_n
    have VM := VM_n
    have VQ := VQ_n
    clear BB_n hz_n hx_n h1_n hq_n hr_n VA_n VR_n VM_n VQ_n
    refine hK.out _ _ ?_ (fun hH5 => ?_)
    ·exact ⟨VA.1,VA.2.1,VA.2.2.1⟩
    clear hK K hH4
    (try simp only [Act.put,xL4,xL5,xL6])
    refine xR [11] (h := ?_)
    refine xN (h := fun K hK => ?_)
    have hKp := VM.keepJ (.bool pr) (.slice ar nr cr)
    have VA_n := VA.other2 (R := R17) (by omega) (.bool pr) (.slice ar nr cr)
    have VR_n := VR.other (R := R17) (by omega) (.bool pr) (.slice ar nr cr)
    have VQ_n := VQ.other (R := R17) (by omega) (.bool pr) (.slice ar nr cr)
    have VM_n := VM.same (.bool pr) (.slice ar nr cr)
    have hz_n := hz.keep hKp
    have hx_n := hx.keep hKp
    have h1_n := h1.keep hKp
    have hq_n := hq.keep hKp
    have hr_n := hr.keep hKp
    have BB_n := below_store2 (R := R17) BB (by omega) (.bool pr) (.slice ar nr cr)
    clear hKp
    obtain ⟨VM_0,VM_1,VM_2,VM_3⟩ := id VM
    go_simp
    clear VM_0 VM_1 VM_2 VM_3
    clear BB hz hx h1 hq hr VA VR VM VQ
    generalize (W22.setCell ⟨R17,0,none⟩ (.bool pr)).setCell ⟨R17,1,none⟩ (.slice ar nr cr) = W23 at *
    have BB := BB_n
    have hz := hz_n
    have hx := hx_n
    have h1 := h1_n
    have hq := hq_n
    have hr := hr_n
    have VA := VA_n
    have VR := VR_n
    have VM := VM_n
    have VQ := VQ_n
    clear BB_n hz_n hx_n h1_n hq_n hr_n VA_n VR_n VM_n VQ_n
    refine hK.out _ _ ?_ (fun hH6 => ?_)
    ·exact ⟨VA.1,VA.2.1,VA.2.2.1⟩
    clear hK K hH5
    (try simp only [Act.put,xL4,xL5,xL6])
    refine wpAnyH_done (by kernel_rfl) ?_ _
    clear hH6
    have hKp := VR.keepJ (.bool pq) (.slice aq nq cq)
    have hz_n := hz.keep hKp
    have hx_n := hx.keep hKp
    have h1_n := h1.keep hKp
    have hq_n := hq.keep hKp
    have hr_n := hr.keep hKp
    have BB_n := below_store2 (R := w.heap.size + 1) BB (by omega) (.bool pq) (.slice aq nq cq)
    clear hKp
    obtain ⟨VQ_0,VQ_1,VQ_2,VQ_3⟩ := id VQ
    obtain ⟨q1,q2,q3,q4⟩ := id VR
    go_wp2
    (try simp only [Exit.inBlock,Exit.then])
    refine bodyPost_ret (v := .agg #[.bool pq,.slice aq nq cq]) (by simp [results,go_sem,q1,q2]) rfl ?_
    exact ⟨_,rfl,hq_n,BB_n⟩
   exact AllReadyH.nil
  exact AllReadyH.nil
 refine xC (h := fun K hK => ?_) (hs := ?_)
 ·
  go_simp
  have hZ24 : w.heap.size ≤ W1.heap.size := BB.size
  have hN24VA : w.heap.size ≠ W1.heap.size := Nat.ne_of_lt VA.lt
  have hN24VR : w.heap.size + 1 ≠ W1.heap.size := Nat.ne_of_lt VR.lt
  obtain ⟨W24,hW24,hS24,hL24,VQ⟩ := V2.lay W1 33 (.bool false) (.slice none 0 0)
  replace hz := hz.below hL24
  replace hx := hx.below hL24
  replace VA := VA.below hL24
  replace VR := VR.below hL24
  replace BB := BB.trans (hL24.mono BB.size)
  clear hL24
  rw [← hW24]
  generalize W1.heap.size = R24 at *
  clear hW24 hS24
  refine hK.out _ _ ?_ (fun hH1 => ?_)
  ·exact ⟨VA.1,VA.2.1,VA.2.2.1⟩
  clear hK K hHeld
  (try simp only [Act.put,xL4,xL5,xL6])
  refine xR [3,9] (h := ?_)
  refine xC (h := fun K hK => ?_) (hs := ?_)
  ·
   go_simp
   refine (den_at p ao n c bo m d x _ hx).mono ?_
   rintro e w7 ⟨e1,rfl,h1,b7⟩
   go_wp2_with fail
   replace hz := hz.below b7
   replace hx := hx.below b7
   replace VA := VA.below b7
   replace VR := VR.below b7
   replace VQ := VQ.below b7
   replace BB := BB.trans (b7.mono BB.size)
   clear b7
   refine hK.out _ _ ?_ (fun hH2 => ?_)
   ·exact ⟨VA.1,VA.2.1,VA.2.2.1⟩
   clear hK K hH1
   (try simp only [Act.put,xL4,xL5,xL6])
   refine xR [4,9] (h := ?_)
   refine xC (h := fun K hK => ?_) (hs := ?_)
   ·
    go_simp
    refine (rover_any _ _ z (x : Int) _ hz h1 (by omega) l3 l4).mono ?_
    rintro e w8 ⟨e2,e3,rfl,hq,hr,b8⟩
    obtain ⟨pq,aq,nq,cq,rfl⟩ := hq.open
    obtain ⟨pr,ar,nr,cr,rfl⟩ := hr.open
    go_wp2_with fail
    replace hz := hz.below b8
    replace hx := hx.below b8
    replace h1 := h1.below b8
    replace VA := VA.below b8
    replace VR := VR.below b8
    replace VQ := VQ.below b8
    replace BB := BB.trans (b8.mono BB.size)
    clear b8
    refine hK.out _ _ ?_ (fun hH3 => ?_)
    ·exact ⟨VA.1,VA.2.1,VA.2.2.1⟩
    clear hK K hH2
    (try simp only [Act.put,xL4,xL5,xL6])
    refine xT 5 (v := ?_) (hy := Or.inl ⟨by rfl,?_⟩) (h := ?_)
    rotate_left
    ·(intro w hSw; (try dsimp only at hSw); go_simp; (try with_reducible rfl))
    (try simp only [Act.put,xL4,xL5,xL6])
    refine xT 6 (v := ?_) (hy := Or.inl ⟨by rfl,?_⟩) (h := ?_)
    rotate_left
    ·(intro w hSw; (try dsimp only at hSw); go_simp; (try with_reducible rfl))
    (try simp only [Act.put,xL4,xL5,xL6])
    refine xT 7 (v := ?_) (hy := Or.inl ⟨by rfl,?_⟩) (h := ?_)
    rotate_left
    ·(intro w hSw; (try dsimp only at hSw); go_simp; (try with_reducible rfl))
    (try simp only [Act.put,xL4,xL5,xL6])
    refine xR [9] (h := ?_)
    refine xN (h := fun K hK => ?_)
    go_simp
    have hZ25 : w.heap.size ≤ w8.heap.size := BB.size
    have hN25VA : w.heap.size ≠ w8.heap.size := Nat.ne_of_lt VA.lt
    have hN25VR : w.heap.size + 1 ≠ w8.heap.size := Nat.ne_of_lt VR.lt
    have hN25VQ : R24 ≠ w8.heap.size := Nat.ne_of_lt VQ.lt
    obtain ⟨W25,hW25,hS25,hL25,VM⟩ := V2.lay w8 33 (.bool false) (.slice none 0 0)
    replace hz := hz.below hL25
    replace hx := hx.below hL25
    replace h1 := h1.below hL25
    replace hq := hq.below hL25
    replace hr := hr.below hL25
    replace VA := VA.below hL25
    replace VR := VR.below hL25
    replace VQ := VQ.below hL25
    replace BB := BB.trans (hL25.mono BB.size)
    clear hL25
    rw [← hW25]
    generalize w8.heap.size = R25 at *
    clear hW25 hS25
    refine hK.out _ _ ?_ (fun hH4 => ?_)
    ·exact ⟨VA.1,VA.2.1,VA.2.2.1⟩
    clear hK K hH3
    (try simp only [Act.put,xL4,xL5,xL6])
    refine xR [10] (h := ?_)
    refine xN (h := fun K hK => ?_)
    have hKp := VQ.keepJ (.bool pq) (.slice aq nq cq)
    have VA_n := VA.other2 (R := R24) (by omega) (.bool pq) (.slice aq nq cq)
    have VR_n := VR.other (R := R24) (by omega) (.bool pq) (.slice aq nq cq)
    have VM_n := VM.other (R := R24) (by omega) (.bool pq) (.slice aq nq cq)
    have VQ_n := VQ.same (.bool pq) (.slice aq nq cq)
    have hz_n := hz.keep hKp
    have hx_n := hx.keep hKp
    have h1_n := h1.keep hKp
    have hq_n := hq.keep hKp
    have hr_n := hr.keep hKp
    have BB_n := below_store2 (R := R24) BB (by omega) (.bool pq) (.slice aq nq cq)
    clear hKp
    obtain ⟨VQ_0,VQ_1,VQ_2,VQ_3⟩ := id VQ
    go_simp
    clear VQ_0 VQ_1 VQ_2 VQ_3
    clear BB hz hx h1 hq hr VA VR VQ VM
    generalize (W25.setCell ⟨R24,0,none⟩ (.bool pq)).setCell ⟨R24,1,none⟩ (.slice aq nq cq) = W26 at *
    have BB := BB_n
    have hz := hz_n
    have hx := hx_n
    have h1 := h1_n
    have hq := hq_n
    have hr := hr_n
    have VA := VA_n
    have VR := VR_n
    have VQ := VQ_n
    have VM := VM_n
    clear BB_n hz_n hx_n h1_n hq_n hr_n VA_n VR_n VQ_n VM_n
    refine hK.out _ _ ?_ (fun hH5 => ?_)
    ·exact ⟨VA.1,VA.2.1,VA.2.2.1⟩
    clear hK K hH4
    (try simp only [Act.put,xL4,xL5,xL6])
    refine xR [11] (h := ?_)
    refine xN (h := fun K hK => ?_)
    have hKp := VM.keepJ (.bool pr) (.slice ar nr cr)
    have VA_n := VA.other2 (R := R25) (by omega) (.bool pr) (.slice ar nr cr)
    have VR_n := VR.other (R := R25) (by omega) (.bool pr) (.slice ar nr cr)
    have VQ_n := VQ.other (R := R25) (by omega) (.bool pr) (.slice ar nr cr)
    have VM_n := VM.same (.bool pr) (.slice ar nr cr)
    have hz_n := hz.keep hKp
    have hx_n := hx.keep hKp
    have h1_n := h1.keep hKp
    have hq_n := hq.keep hKp
    have hr_n := hr.keep hKp
    have BB_n := below_store2 (R := R25) BB (by omega) (.bool pr) (.slice ar nr cr)
    clear hKp
    obtain ⟨VM_0,VM_1,VM_2,VM_3⟩ := id VM
    go_simp
    clear VM_0 VM_1 VM_2 VM_3
    clear BB hz hx h1 hq hr VA VR VQ VM
    generalize (W26.setCell ⟨R25,0,none⟩ (.bool pr)).setCell ⟨R25,1,none⟩ (.slice ar nr cr) = W27 at *
    have BB := BB_n
    have hz := hz_n
    have hx := hx_n
    have h1 := h1_n
    have hq := hq_n
    have hr := hr_n
    have VA := VA_n
    have VR := VR_n
    have VQ := VQ_n
    have VM := VM_n
    clear BB_n hz_n hx_n h1_n hq_n hr_n VA_n VR_n VQ_n VM_n
    refine hK.out _ _ ?_ (fun hH6 => ?_)
    ·exact ⟨VA.1,VA.2.1,VA.2.2.1⟩
    clear hK K hH5
    (try simp only [Act.put,xL4,xL5,xL6])
    refine wpAnyH_done (by kernel_rfl) ?_ _
    clear hH6
    have hKp := VR.keepJ (.bool pq) (.slice aq nq cq)
    have hz_n := hz.keep hKp
    have hx_n := hx.keep hKp
    have h1_n := h1.keep hKp
    have hq_n := hq.keep hKp
    have hr_n := hr.keep hKp
    have BB_n := below_store2 (R := w.heap.size + 1) BB (by omega) (.bool pq) (.slice aq nq cq)
    clear hKp
    obtain ⟨VQ_0,VQ_1,VQ_2,VQ_3⟩ := id VQ
    obtain ⟨q1,q2,q3,q4⟩ := id VR
    go_wp2
    (try simp only [Exit.inBlock,Exit.then])
    refine bodyPost_ret (v := .agg #[.bool pq,.slice aq nq cq]) (by simp [results,go_sem,q1,q2]) rfl ?_
    exact ⟨_,rfl,hq_n,BB_n⟩
   refine xC (h := fun K hK => ?_) (hs := ?_)
   ·
    go_simp
    have hZ28 : w.heap.size ≤ w7.heap.size := BB.size
    have hN28VA : w.heap.size ≠ w7.heap.size := Nat.ne_of_lt VA.lt
    have hN28VR : w.heap.size + 1 ≠ w7.heap.size := Nat.ne_of_lt VR.lt
    have hN28VQ : R24 ≠ w7.heap.size := Nat.ne_of_lt VQ.lt
    obtain ⟨W28,hW28,hS28,hL28,VM⟩ := V2.lay w7 33 (.bool false) (.slice none 0 0)
    replace hz := hz.below hL28
    replace hx := hx.below hL28
    replace h1 := h1.below hL28
    replace VA := VA.below hL28
    replace VR := VR.below hL28
    replace VQ := VQ.below hL28
    replace BB := BB.trans (hL28.mono BB.size)
    clear hL28
    rw [← hW28]
    generalize w7.heap.size = R28 at *
    clear hW28 hS28
    refine hK.out _ _ ?_ (fun hH3 => ?_)
    ·exact ⟨VA.1,VA.2.1,VA.2.2.1⟩
    clear hK K hH2
    (try simp only [Act.put,xL4,xL5,xL6])
    refine xR [4] (h := ?_)
    refine xN (h := fun K hK => ?_)
    go_simp
    refine (rover_any _ _ z (x : Int) _ hz h1 (by omega) l3 l4).mono ?_
    rintro e w9 ⟨e2,e3,rfl,hq,hr,b9⟩
    obtain ⟨pq,aq,nq,cq,rfl⟩ := hq.open
    obtain ⟨pr,ar,nr,cr,rfl⟩ := hr.open
    go_wp2_with fail
    replace hz := hz.below b9
    replace hx := hx.below b9
    replace h1 := h1.below b9
    replace VA := VA.below b9
    replace VR := VR.below b9
    replace VQ := VQ.below b9
    replace VM := VM.below b9
    replace BB := BB.trans (b9.mono BB.size)
    clear b9
    refine hK.out _ _ ?_ (fun hH4 => ?_)
    ·exact ⟨VA.1,VA.2.1,VA.2.2.1⟩
    clear hK K hH3
    (try simp only [Act.put,xL4,xL5,xL6])
    refine xT 5 (v := ?_) (hy := Or.inl ⟨by rfl,?_⟩) (h := ?_)
    rotate_left
    ·(intro w hSw; (try dsimp only at hSw); go_simp; (try with_reducible rfl))
    (try simp only [Act.put,xL4,xL5,xL6])
    refine xT 6 (v := ?_) (hy := Or.inl ⟨by rfl,?_⟩) (h := ?_)
    rotate_left
    ·(intro w hSw; (try dsimp only at hSw); go_simp; (try with_reducible rfl))
    (try simp only [Act.put,xL4,xL5,xL6])
    refine xT 7 (v := ?_) (hy := Or.inl ⟨by rfl,?_⟩) (h := ?_)
    rotate_left
    ·(intro w hSw; (try dsimp only at hSw); go_simp; (try with_reducible rfl))
    (try simp only [Act.put,xL4,xL5,xL6])
    refine xR [10] (h := ?_)
    refine xN (h := fun K hK => ?_)
    have hKp := VQ.keepJ (.bool pq) (.slice aq nq cq)
    have VA_n := VA.other2 (R := R24) (by omega) (.bool pq) (.slice aq nq cq)
    have VR_n := VR.other (R := R24) (by omega) (.bool pq) (.slice aq nq cq)
    have VM_n := VM.other (R := R24) (by omega) (.bool pq) (.slice aq nq cq)
    have VQ_n := VQ.same (.bool pq) (.slice aq nq cq)
    have hz_n := hz.keep hKp
    have hx_n := hx.keep hKp
    have h1_n := h1.keep hKp
    have hq_n := hq.keep hKp
    have hr_n := hr.keep hKp
    have BB_n := below_store2 (R := R24) BB (by omega) (.bool pq) (.slice aq nq cq)
    clear hKp
    obtain ⟨VQ_0,VQ_1,VQ_2,VQ_3⟩ := id VQ
    go_simp
    clear VQ_0 VQ_1 VQ_2 VQ_3
    clear BB hz hx h1 hq hr VA VR VQ VM
    generalize (w9.setCell ⟨R24,0,none⟩ (.bool pq)).setCell ⟨R24,1,none⟩ (.slice aq nq cq) = W29 at *
    have BB := BB_n
    have hz := hz_n
    have hx := hx_n
    have h1 := h1_n
    have hq := hq_n
    have hr := hr_n
    have VA := VA_n
    have VR := VR_n
    have VQ := VQ_n
    have VM := VM_n
    clear BB_n hz_n hx_n h1_n hq_n hr_n VA_n VR_n VQ_n VM_n
    refine hK.out _ _ ?_ (fun hH5 => ?_)
    ·exact ⟨VA.1,VA.2.1,VA.2.2.1⟩
    clear hK K hH4
    (try simp only [Act.put,xL4,xL5,xL6])
    refine xR [11] (h := ?_)
    refine xN (h := fun K hK => ?_)
    have hKp := VM.keepJ (.bool pr) (.slice ar nr cr)
    have VA_n := VA.other2 (R := R28) (by omega) (.bool pr) (.slice ar nr cr)
    have VR_n := VR.other (R := R28) (by omega) (.bool pr) (.slice ar nr cr)
    have VQ_n := VQ.other (R := R28) (by omega) (.bool pr) (.slice ar nr cr)
    have VM_n := VM.same (.bool pr) (.slice ar nr cr)
    have hz_n := hz.keep hKp
    have hx_n := hx.keep hKp
    have h1_n := h1.keep hKp
    have hq_n := hq.keep hKp
    have hr_n := hr.keep hKp
    have BB_n := below_store2 (R := R28) BB (by omega) (.bool pr) (.slice ar nr cr)
    clear hKp
    obtain ⟨VM_0,VM_1,VM_2,VM_3⟩ := id VM
    go_simp
    clear VM_0 VM_1 VM_2 VM_3
    clear BB hz hx h1 hq hr VA VR VQ VM
    generalize (W29.setCell ⟨R28,0,none⟩ (.bool pr)).setCell ⟨R28,1,none⟩ (.slice ar nr cr) = W30 at *
    have BB := BB_n
    have hz := hz_n
    have hx := hx_n
    have h1 := h1_n
    have hq := hq_n
    have hr := hr_n
    have VA := VA_n
    have VR := VR_n
    have VQ := VQ_n
    have VM := VM_n
    clear BB_n hz_n hx_n h1_n hq_n hr_n VA_n VR_n VQ_n VM_n
    refine hK.out _ _ ?_ (fun hH6 => ?_)
    ·exact ⟨VA.1,VA.2.1,VA.2.2.1⟩
    clear hK K hH5
    (try simp only [Act.put,xL4,xL5,xL6])
    refine wpAnyH_done (by kernel_rfl) ?_ _
    clear hH6
    have hKp := VR.keepJ (.bool pq) (.slice aq nq cq)
    have hz_n := hz.keep hKp
    have hx_n := hx.keep hKp
    have h1_n := h1.keep hKp
    have hq_n := hq.keep hKp
    have hr_n := hr.keep hKp
    have BB_n := below_store2 (R := w.heap.size + 1) BB (by omega) (.bool pq) (.slice aq nq cq)
    clear hKp
    obtain ⟨VQ_0,VQ_1,VQ_2,VQ_3⟩ := id VQ
    obtain ⟨q1,q2,q3,q4⟩ := id VR
    go_wp2
    (try simp only [Exit.inBlock,Exit.then])
    refine bodyPost_ret (v := .agg #[.bool pq,.slice aq nq cq]) (by simp [results,go_sem,q1,q2]) rfl ?_
    exact ⟨_,rfl,hq_n,BB_n⟩
   exact AllReadyH.nil
  refine xC (h := fun K hK => ?_) (hs := ?_)
  ·
   go_simp
   have hZ31 : w.heap.size ≤ W24.heap.size := BB.size
   have hN31VA : w.heap.size ≠ W24.heap.size := Nat.ne_of_lt VA.lt
   have hN31VR : w.heap.size + 1 ≠ W24.heap.size := Nat.ne_of_lt VR.lt
   have hN31VQ : R24 ≠ W24.heap.size := Nat.ne_of_lt VQ.lt
   obtain ⟨W31,hW31,hS31,hL31,VM⟩ := V2.lay W24 33 (.bool false) (.slice none 0 0)
   replace hz := hz.below hL31
   replace hx := hx.below hL31
   replace VA := VA.below hL31
   replace VR := VR.below hL31
   replace VQ := VQ.below hL31
   replace BB := BB.trans (hL31.mono BB.size)
   clear hL31
   rw [← hW31]
   generalize W24.heap.size = R31 at *
   clear hW31 hS31
   refine hK.out _ _ ?_ (fun hH2 => ?_)
   ·exact ⟨VA.1,VA.2.1,VA.2.2.1⟩
   clear hK K hH1
   (try simp only [Act.put,xL4,xL5,xL6])
   refine xR [3] (h := ?_)
   refine xN (h := fun K hK => ?_)
   go_simp
   refine (den_at p ao n c bo m d x _ hx).mono ?_
   rintro e w10 ⟨e1,rfl,h1,b10⟩
   go_wp2_with fail
   replace hz := hz.below b10
   replace hx := hx.below b10
   replace VA := VA.below b10
   replace VR := VR.below b10
   replace VQ := VQ.below b10
   replace VM := VM.below b10
   replace BB := BB.trans (b10.mono BB.size)
   clear b10
   refine hK.out _ _ ?_ (fun hH3 => ?_)
   ·exact ⟨VA.1,VA.2.1,VA.2.2.1⟩
   clear hK K hH2
   (try simp only [Act.put,xL4,xL5,xL6])
   refine xR [4] (h := ?_)
   refine xN (h := fun K hK => ?_)
   go_simp
   refine (rover_any _ _ z (x : Int) _ hz h1 (by omega) l3 l4).mono ?_
   rintro e w11 ⟨e2,e3,rfl,hq,hr,b11⟩
   obtain ⟨pq,aq,nq,cq,rfl⟩ := hq.open
   obtain ⟨pr,ar,nr,cr,rfl⟩ := hr.open
   go_wp2_with fail
   replace hz := hz.below b11
   replace hx := hx.below b11
   replace h1 := h1.below b11
   replace VA := VA.below b11
   replace VR := VR.below b11
   replace VQ := VQ.below b11
   replace VM := VM.below b11
   replace BB := BB.trans (b11.mono BB.size)
   clear b11
   refine hK.out _ _ ?_ (fun hH4 => ?_)
   ·exact ⟨VA.1,VA.2.1,VA.2.2.1⟩
   clear hK K hH3
   (try simp only [Act.put,xL4,xL5,xL6])
   refine xT 5 (v := ?_) (hy := Or.inl ⟨by rfl,?_⟩) (h := ?_)
   rotate_left
   ·(intro w hSw; (try dsimp only at hSw); go_simp; (try with_reducible rfl))
   (try simp only [Act.put,xL4,xL5,xL6])
   refine xT 6 (v := ?_) (hy := Or.inl ⟨by rfl,?_⟩) (h := ?_)
   rotate_left
   ·(intro w hSw; (try dsimp only at hSw); go_simp; (try with_reducible rfl))
   (try simp only [Act.put,xL4,xL5,xL6])
   refine xT 7 (v := ?_) (hy := Or.inl ⟨by rfl,?_⟩) (h := ?_)
   rotate_left
   ·(intro w hSw; (try dsimp only at hSw); go_simp; (try with_reducible rfl))
   (try simp only [Act.put,xL4,xL5,xL6])
   refine xR [10] (h := ?_)
   refine xN (h := fun K hK => ?_)
   have hKp := VQ.keepJ (.bool pq) (.slice aq nq cq)
   have VA_n := VA.other2 (R := R24) (by omega) (.bool pq) (.slice aq nq cq)
   have VR_n := VR.other (R := R24) (by omega) (.bool pq) (.slice aq nq cq)
   have VM_n := VM.other (R := R24) (by omega) (.bool pq) (.slice aq nq cq)
   have VQ_n := VQ.same (.bool pq) (.slice aq nq cq)
   have hz_n := hz.keep hKp
   have hx_n := hx.keep hKp
   have h1_n := h1.keep hKp
   have hq_n := hq.keep hKp
   have hr_n := hr.keep hKp
   have BB_n := below_store2 (R := R24) BB (by omega) (.bool pq) (.slice aq nq cq)
   clear hKp
   obtain ⟨VQ_0,VQ_1,VQ_2,VQ_3⟩ := id VQ
   go_simp
   clear VQ_0 VQ_1 VQ_2 VQ_3
   clear BB hz hx h1 hq hr VA VR VQ VM
   generalize (w11.setCell ⟨R24,0,none⟩ (.bool pq)).setCell ⟨R24,1,none⟩ (.slice aq nq cq) = W32 at *
   have BB := BB_n
   have hz := hz_n
   have hx := hx_n
   have h1 := h1_n
   have hq := hq_n
   have hr := hr_n
   have VA := VA_n
   have VR := VR_n
   have VQ := VQ_n
   have VM := VM_n
   clear BB_n hz_n hx_n h1_n hq_n hr_n VA_n VR_n VQ_n VM_n
   refine hK.out _ _ ?_ (fun hH5 => ?_)
   ·exact ⟨VA.1,VA.2.1,VA.2.2.1⟩
   clear hK K hH4
   (try simp only [Act.put,xL4,xL5,xL6])
   refine xR [11] (h := ?_)
   refine xN (h := fun K hK => ?_)
   have hKp := VM.keepJ (.bool pr) (.slice ar nr cr)
   have VA_n := VA.other2 (R := R31) (by omega) (.bool pr) (.slice ar nr cr)
   have VR_n := VR.other (R := R31) (by omega) (.bool pr) (.slice ar nr cr)
   have VQ_n := VQ.other (R := R31) (by omega) (.bool pr) (.slice ar nr cr)
   have VM_n := VM.same (.bool pr) (.slice ar nr cr)
   have hz_n := hz.keep hKp
   have hx_n := hx.keep hKp
   have h1_n := h1.keep hKp
   have hq_n := hq.keep hKp
   have hr_n := hr.keep hKp
   have BB_n := below_store2 (R := R31) BB (by omega) (.bool pr) (.slice ar nr cr)
   clear hKp
   obtain ⟨VM_0,VM_1,VM_2,VM_3⟩ := id VM
   go_simp
   clear VM_0 VM_1 VM_2 VM_3
   clear BB hz hx h1 hq hr VA VR VQ VM
   generalize (W32.setCell ⟨R31,0,none⟩ (.bool pr)).setCell ⟨R31,1,none⟩ (.slice ar nr cr) = W33 at *
   have BB := BB_n
   have hz := hz_n
   have hx := hx_n
   have h1 := h1_n
   have hq := hq_n
   have hr := hr_n
   have VA := VA_n
   have VR := VR_n
   have VQ := VQ_n
   have VM := VM_n
   clear BB_n hz_n hx_n h1_n hq_n hr_n VA_n VR_n VQ_n VM_n
   refine hK.out _ _ ?_ (fun hH6 => ?_)
   ·exact ⟨VA.1,VA.2.1,VA.2.2.1⟩
   clear hK K hH5
   (try simp only [Act.put,xL4,xL5,xL6])
   refine wpAnyH_done (by kernel_rfl) ?_ _
   clear hH6
   have hKp := VR.keepJ (.bool pq) (.slice aq nq cq)
   have hz_n := hz.keep hKp
   have hx_n := hx.keep hKp
   have h1_n := h1.keep hKp
   have hq_n := hq.keep hKp
   have hr_n := hr.keep hKp
   have BB_n := below_store2 (R := w.heap.size + 1) BB (by omega) (.bool pq) (.slice aq nq cq)
   clear hKp
   obtain ⟨VQ_0,VQ_1,VQ_2,VQ_3⟩ := id VQ
   obtain ⟨q1,q2,q3,q4⟩ := id VR
   go_wp2
   (try simp only [Exit.inBlock,Exit.then])
   refine bodyPost_ret (v := .agg #[.bool pq,.slice aq nq cq]) (by simp [results,go_sem,q1,q2]) rfl ?_
   exact ⟨_,rfl,hq_n,BB_n⟩
  exact AllReadyH.nil
 refine xC (h := fun K hK => ?_) (hs := ?_)
 ·
  go_simp
  have hZ34 : w.heap.size ≤ W1.heap.size := BB.size
  have hN34VA : w.heap.size ≠ W1.heap.size := Nat.ne_of_lt VA.lt
  have hN34VR : w.heap.size + 1 ≠ W1.heap.size := Nat.ne_of_lt VR.lt
  obtain ⟨W34,hW34,hS34,hL34,VM⟩ := V2.lay W1 33 (.bool false) (.slice none 0 0)
  replace hz := hz.below hL34
  replace hx := hx.below hL34
  replace VA := VA.below hL34
  replace VR := VR.below hL34
  replace BB := BB.trans (hL34.mono BB.size)
  clear hL34
  rw [← hW34]
  generalize W1.heap.size = R34 at *
  clear hW34 hS34
  refine hK.out _ _ ?_ (fun hH1 => ?_)
  ·exact ⟨VA.1,VA.2.1,VA.2.2.1⟩
  clear hK K hHeld
  (try simp only [Act.put,xL4,xL5,xL6])
  refine xR [3,8] (h := ?_)
  refine xC (h := fun K hK => ?_) (hs := ?_)
  ·
   go_simp
   refine (den_at p ao n c bo m d x _ hx).mono ?_
   rintro e w12 ⟨e1,rfl,h1,b12⟩
   go_wp2_with fail
   replace hz := hz.below b12
   replace hx := hx.below b12
   replace VA := VA.below b12
   replace VR := VR.below b12
   replace VM := VM.below b12
   replace BB := BB.trans (b12.mono BB.size)
   clear b12
   refine hK.out _ _ ?_ (fun hH2 => ?_)
   ·exact ⟨VA.1,VA.2.1,VA.2.2.1⟩
   clear hK K hH1
   (try simp only [Act.put,xL4,xL5,xL6])
   refine xR [4,8] (h := ?_)
   refine xC (h := fun K hK => ?_) (hs := ?_)
   ·
    go_simp
    refine (rover_any _ _ z (x : Int) _ hz h1 (by omega) l3 l4).mono ?_
    rintro e w13 ⟨e2,e3,rfl,hq,hr,b13⟩
    obtain ⟨pq,aq,nq,cq,rfl⟩ := hq.open
    obtain ⟨pr,ar,nr,cr,rfl⟩ := hr.open
    go_wp2_with fail
    replace hz := hz.below b13
    replace hx := hx.below b13
    replace h1 := h1.below b13
    replace VA := VA.below b13
    replace VR := VR.below b13
    replace VM := VM.below b13
    replace BB := BB.trans (b13.mono BB.size)
    clear b13
    refine hK.out _ _ ?_ (fun hH3 => ?_)
    ·exact ⟨VA.1,VA.2.1,VA.2.2.1⟩
    clear hK K hH2
    (try simp only [Act.put,xL4,xL5,xL6])
    refine xT 5 (v := ?_) (hy := Or.inl ⟨by rfl,?_⟩) (h := ?_)
    rotate_left
    ·(intro w hSw; (try dsimp only at hSw); go_simp; (try with_reducible rfl))
    (try simp only [Act.put,xL4,xL5,xL6])
    refine xT 6 (v := ?_) (hy := Or.inl ⟨by rfl,?_⟩) (h := ?_)
    rotate_left
    ·(intro w hSw; (try dsimp only at hSw); go_simp; (try with_reducible rfl))
    (try simp only [Act.put,xL4,xL5,xL6])
    refine xT 7 (v := ?_) (hy := Or.inl ⟨by rfl,?_⟩) (h := ?_)
    rotate_left
    ·(intro w hSw; (try dsimp only at hSw); go_simp; (try with_reducible rfl))
    (try simp only [Act.put,xL4,xL5,xL6])
    refine xR [8] (h := ?_)
    refine xN (h := fun K hK => ?_)
    go_simp
    have hZ35 : w.heap.size ≤ w13.heap.size := BB.size
    have hN35VA : w.heap.size ≠ w13.heap.size := Nat.ne_of_lt VA.lt
    have hN35VR : w.heap.size + 1 ≠ w13.heap.size := Nat.ne_of_lt VR.lt
    have hN35VM : R34 ≠ w13.heap.size := Nat.ne_of_lt VM.lt
    obtain ⟨W35,hW35,hS35,hL35,VQ⟩ := V2.lay w13 33 (.bool false) (.slice none 0 0)
    replace hz := hz.below hL35
    replace hx := hx.below hL35
    replace h1 := h1.below hL35
    replace hq := hq.below hL35
    replace hr := hr.below hL35
    replace VA := VA.below hL35
    replace VR := VR.below hL35
    replace VM := VM.below hL35
    replace BB := BB.trans (hL35.mono BB.size)
    clear hL35
    rw [← hW35]
    generalize w13.heap.size = R35 at *
    clear hW35 hS35
    refine hK.out _ _ ?_ (fun hH4 => ?_)
    ·exact ⟨VA.1,VA.2.1,VA.2.2.1⟩
    clear hK K hH3
    (try simp only [Act.put,xL4,xL5,xL6])
    refine xR [10] (h := ?_)
    refine xN (h := fun K hK => ?_)
    have hKp := VQ.keepJ (.bool pq) (.slice aq nq cq)
    have VA_n := VA.other2 (R := R35) (by omega) (.bool pq) (.slice aq nq cq)
    have VR_n := VR.other (R := R35) (by omega) (.bool pq) (.slice aq nq cq)
    have VM_n := VM.other (R := R35) (by omega) (.bool pq) (.slice aq nq cq)
    have VQ_n := VQ.same (.bool pq) (.slice aq nq cq)
    have hz_n := hz.keep hKp
    have hx_n := hx.keep hKp
    have h1_n := h1.keep hKp
    have hq_n := hq.keep hKp
    have hr_n := hr.keep hKp
    have BB_n := below_store2 (R := R35) BB (by omega) (.bool pq) (.slice aq nq cq)
    clear hKp
    obtain ⟨VQ_0,VQ_1,VQ_2,VQ_3⟩ := id VQ
    go_simp
    clear VQ_0 VQ_1 VQ_2 VQ_3
    clear BB hz hx h1 hq hr VA VR VM VQ
    generalize (W35.setCell ⟨R35,0,none⟩ (.bool pq)).setCell ⟨R35,1,none⟩ (.slice aq nq cq) = W36 at *
    have BB := BB_n
    have hz := hz_n
    have hx := hx_n
    have h1 := h1_n
    have hq := hq_n
    have hr := hr_n
    have VA := VA_n
    have VR := VR_n
    have VM := VM_n
    have VQ := VQ_n
    clear BB_n hz_n hx_n h1_n hq_n hr_n VA_n VR_n VM_n VQ_n
    refine hK.out _ _ ?_ (fun hH5 => ?_)
    ·exact ⟨VA.1,VA.2.1,VA.2.2.1⟩
    clear hK K hH4
    (try simp only [Act.put,xL4,xL5,xL6])
    refine xR [11] (h := ?_)
    refine xN (h := fun K hK => ?_)
    have hKp := VM.keepJ (.bool pr) (.slice ar nr cr)
    have VA_n := VA.other2 (R := R34) (by omega) (.bool pr) (.slice ar nr cr)
    have VR_n := VR.other (R := R34) (by omega) (.bool pr) (.slice ar nr cr)
    have VQ_n := VQ.other (R := R34) (by omega) (.bool pr) (.slice ar nr cr)
    have VM_n := VM.same (.bool pr) (.slice ar nr cr)
    have hz_n := hz.keep hKp
    have hx_n := hx.keep hKp
    have h1_n := h1.keep hKp
    have hq_n := hq.keep hKp
    have hr_n := hr.keep hKp
    have BB_n := below_store2 (R := R34) BB (by omega) (.bool pr) (.slice ar nr cr)
    clear hKp
    obtain ⟨VM_0,VM_1,VM_2,VM_3⟩ := id VM
    go_simp
    clear VM_0 VM_1 VM_2 VM_3
    clear BB hz hx h1 hq hr VA VR VM VQ
    generalize (W36.setCell ⟨R34,0,none⟩ (.bool pr)).setCell ⟨R34,1,none⟩ (.slice ar nr cr) = W37 at *
    have BB := BB_n
    have hz := hz_n
    have hx := hx_n
    have h1 := h1_n
    have hq := hq_n
    have hr := hr_n
    have VA := VA_n
    have VR := VR_n
    have VM := VM_n
    have VQ := VQ_n
    clear BB_n hz_n hx_n h1_n hq_n hr_n VA_n VR_n VM_n VQ_n
    refine hK.out _ _ ?_ (fun hH6 => ?_)
    ·exact ⟨VA.1,VA.2.1,VA.2.2.1⟩
    clear hK K hH5
    (try simp only [Act.put,xL4,xL5,xL6])
    refine wpAnyH_done (by kernel_rfl) ?_ _
    clear hH6
    have hKp := VR.keepJ (.bool pq) (.slice aq nq cq)
    have hz_n := hz.keep hKp
    have hx_n := hx.keep hKp
    have h1_n := h1.keep hKp
    have hq_n := hq.keep hKp
    have hr_n := hr.keep hKp
    have BB_n := below_store2 (R := w.heap.size + 1) BB (by omega) (.bool pq) (.slice aq nq cq)
    clear hKp
    obtain ⟨VQ_0,VQ_1,VQ_2,VQ_3⟩ := id VQ
    obtain ⟨q1,q2,q3,q4⟩ := id VR
    go_wp2
    (try simp only [Exit.inBlock,Exit.then])
    refine bodyPost_ret (v := .agg #[.bool pq,.slice aq nq cq]) (by simp [results,go_sem,q1,q2]) rfl ?_
    exact ⟨_,rfl,hq_n,BB_n⟩
   refine xC (h := fun K hK => ?_) (hs := ?_)
   ·
    go_simp
    have hZ38 : w.heap.size ≤ w12.heap.size := BB.size
    have hN38VA : w.heap.size ≠ w12.heap.size := Nat.ne_of_lt VA.lt
    have hN38VR : w.heap.size + 1 ≠ w12.heap.size := Nat.ne_of_lt VR.lt
    have hN38VM : R34 ≠ w12.heap.size := Nat.ne_of_lt VM.lt
    obtain ⟨W38,hW38,hS38,hL38,VQ⟩ := V2.lay w12 33 (.bool false) (.slice none 0 0)
    replace hz := hz.below hL38
    replace hx := hx.below hL38
    replace h1 := h1.below hL38
    replace VA := VA.below hL38
    replace VR := VR.below hL38
    replace VM := VM.below hL38
    replace BB := BB.trans (hL38.mono BB.size)
    clear hL38
    rw [← hW38]
    generalize w12.heap.size = R38 at *
    clear hW38 hS38
    refine hK.out _ _ ?_ (fun hH3 => ?_)
    ·exact ⟨VA.1,VA.2.1,VA.2.2.1⟩
    clear hK K hH2
    (try simp only [Act.put,xL4,xL5,xL6])
    refine xR [4] (h := ?_)
    refine xN (h := fun K hK => ?_)
    go_simp
    refine (rover_any _ _ z (x : Int) _ hz h1 (by omega) l3 l4).mono ?_
    rintro e w14 ⟨e2,e3,rfl,hq,hr,b14⟩
    obtain ⟨pq,aq,nq,cq,rfl⟩ := hq.open
    obtain ⟨pr,ar,nr,cr,rfl⟩ := hr.open
    go_wp2_with fail
    replace hz := hz.below b14
    replace hx := hx.below b14
    replace h1 := h1.below b14
    replace VA := VA.below b14
    replace VR := VR.below b14
    replace VM := VM.below b14
    replace VQ := VQ.below b14
    replace BB := BB.trans (b14.mono BB.size)
    clear b14
    refine hK.out _ _ ?_ (fun hH4 => ?_)
    ·exact ⟨VA.1,VA.2.1,VA.2.2.1⟩
    clear hK K hH3
    (try simp only [Act.put,xL4,xL5,xL6])
    refine xT 5 (v := ?_) (hy := Or.inl ⟨by rfl,?_⟩) (h := ?_)
    rotate_left
    ·(intro w hSw; (try dsimp only at hSw); go_simp; (try with_reducible rfl))
    (try simp only [Act.put,xL4,xL5,xL6])
    refine xT 6 (v := ?_) (hy := Or.inl ⟨by rfl,?_⟩) (h := ?_)
    rotate_left
    ·(intro w hSw; (try dsimp only at hSw); go_simp; (try with_reducible rfl))
    (try simp only [Act.put,xL4,xL5,xL6])
    refine xT 7 (v := ?_) (hy := Or.inl ⟨by rfl,?_⟩) (h := ?_)
    rotate_left
    ·(intro w hSw; (try dsimp only at hSw); go_simp; (try with_reducible rfl))
    (try simp only [Act.put,xL4,xL5,xL6])
    refine xR [10] (h := ?_)
    refine xN (h := fun K hK => ?_)
    have hKp := VQ.keepJ (.bool pq) (.slice aq nq cq)
    have VA_n := VA.other2 (R := R38) (by omega) (.bool pq) (.slice aq nq cq)
    have VR_n := VR.other (R := R38) (by omega) (.bool pq) (.slice aq nq cq)
    have VM_n := VM.other (R := R38) (by omega) (.bool pq) (.slice aq nq cq)
    have VQ_n := VQ.same (.bool pq) (.slice aq nq cq)
    have hz_n := hz.keep hKp
    have hx_n := hx.keep hKp
    have h1_n := h1.keep hKp
    have hq_n := hq.keep hKp
    have hr_n := hr.keep hKp
    have BB_n := below_store2 (R := R38) BB (by omega) (.bool pq) (.slice aq nq cq)
    clear hKp
    obtain ⟨VQ_0,VQ_1,VQ_2,VQ_3⟩ := id VQ
    go_simp
    clear VQ_0 VQ_1 VQ_2 VQ_3
    clear BB hz hx h1 hq hr VA VR VM VQ
    generalize (w14.setCell ⟨R38,0,none⟩ (.bool pq)).setCell ⟨R38,1,none⟩ (.slice aq nq cq) = W39 at *
    have BB := BB_n
    have hz := hz_n
    have hx := hx_n
    have h1 := h1_n
    have hq := hq_n
    have hr := hr_n
    have VA := VA_n
    have VR := VR_n
    have VM := VM_n
    have VQ := VQ_n
    clear BB_n hz_n hx_n h1_n hq_n hr_n VA_n VR_n VM_n VQ_n
    refine hK.out _ _ ?_ (fun hH5 => ?_)
    ·exact ⟨VA.1,VA.2.1,VA.2.2.1⟩
    clear hK K hH4
    (try simp only [Act.put,xL4,xL5,xL6])
    refine xR [11] (h := ?_)
    refine xN (h := fun K hK => ?_)
    have hKp := VM.keepJ (.bool pr) (.slice ar nr cr)
    have VA_n := VA.other2 (R := R34) (by omega) (.bool pr) (.slice ar nr cr)
    have VR_n := VR.other (R := R34) (by omega) (.bool pr) (.slice ar nr cr)
    have VQ_n := VQ.other (R := R34) (by omega) (.bool pr) (.slice ar nr cr)
    have VM_n := VM.same (.bool pr) (.slice ar nr cr)
    have hz_n := hz.keep hKp
    have hx_n := hx.keep hKp
    have h1_n := h1.keep hKp
    have hq_n := hq.keep hKp
    have hr_n := hr.keep hKp
    have BB_n := below_store2 (R := R34) BB (by omega) (.bool pr) (.slice ar nr cr)
    clear hKp
    obtain ⟨VM_0,VM_1,VM_2,VM_3⟩ := id VM
    go_simp
    clear VM_0 VM_1 VM_2 VM_3
    clear BB hz hx h1 hq hr VA VR VM VQ
    generalize (W39.setCell ⟨R34,0,none⟩ (.bool pr)).setCell ⟨R34,1,none⟩ (.slice ar nr cr) = W40 at *
    have BB := BB_n
    have hz := hz_n
    have hx := hx_n
    have h1 := h1_n
    have hq := hq_n
    have hr := hr_n
    have VA := VA_n
    have VR := VR_n
    have VM := VM_n
    have VQ := VQ_n
    clear BB_n hz_n hx_n h1_n hq_n hr_n VA_n VR_n VM_n VQ_n
    refine hK.out _ _ ?_ (fun hH6 => ?_)
    ·exact ⟨VA.1,VA.2.1,VA.2.2.1⟩
    clear hK K hH5
    (try simp only [Act.put,xL4,xL5,xL6])
    refine wpAnyH_done (by kernel_rfl) ?_ _
    clear hH6
    have hKp := VR.keepJ (.bool pq) (.slice aq nq cq)
    have hz_n := hz.keep hKp
    have hx_n := hx.keep hKp
    have h1_n := h1.keep hKp
    have hq_n := hq.keep hKp
    have hr_n := hr.keep hKp
    have BB_n := below_store2 (R := w.heap.size + 1) BB (by omega) (.bool pq) (.slice aq nq cq)
    clear hKp
    obtain ⟨VQ_0,VQ_1,VQ_2,VQ_3⟩ := id VQ
    obtain ⟨q1,q2,q3,q4⟩ := id VR
    go_wp2
    (try simp only [Exit.inBlock,Exit.then])
    refine bodyPost_ret (v := .agg #[.bool pq,.slice aq nq cq]) (by simp [results,go_sem,q1,q2]) rfl ?_
    exact ⟨_,rfl,hq_n,BB_n⟩
   exact AllReadyH.nil
  refine xC (h := fun K hK => ?_) (hs := ?_)
  ·
   go_simp
   have hZ41 : w.heap.size ≤ W34.heap.size := BB.size
   have hN41VA : w.heap.size ≠ W34.heap.size := Nat.ne_of_lt VA.lt
   have hN41VR : w.heap.size + 1 ≠ W34.heap.size := Nat.ne_of_lt VR.lt
   have hN41VM : R34 ≠ W34.heap.size := Nat.ne_of_lt VM.lt
   obtain ⟨W41,hW41,hS41,hL41,VQ⟩ := V2.lay W34 33 (.bool false) (.slice none 0 0)
   replace hz := hz.below hL41
   replace hx := hx.below hL41
   replace VA := VA.below hL41
   replace VR := VR.below hL41
   replace VM := VM.below hL41
   replace BB := BB.trans (hL41.mono BB.size)
   clear hL41
   rw [← hW41]
   generalize W34.heap.size = R41 at *
   clear hW41 hS41
   refine hK.out _ _ ?_ (fun hH2 => ?_)
   ·exact ⟨VA.1,VA.2.1,VA.2.2.1⟩
   clear hK K hH1
   (try simp only [Act.put,xL4,xL5,xL6])
   refine xR [3] (h := ?_)
   refine xN (h := fun K hK => ?_)
   go_simp
   refine (den_at p ao n c bo m d x _ hx).mono ?_
   rintro e w15 ⟨e1,rfl,h1,b15⟩
   go_wp2_with fail
   replace hz := hz.below b15
   replace hx := hx.below b15
   replace VA := VA.below b15
   replace VR := VR.below b15
   replace VM := VM.below b15
   replace VQ := VQ.below b15
   replace BB := BB.trans (b15.mono BB.size)
   clear b15
   refine hK.out _ _ ?_ (fun hH3 => ?_)
   ·exact ⟨VA.1,VA.2.1,VA.2.2.1⟩
   clear hK K hH2
   (try simp only [Act.put,xL4,xL5,xL6])
   refine xR [4] (h := ?_)
   refine xN (h := fun K hK => ?_)
   go_simp
   refine (rover_any _ _ z (x : Int) _ hz h1 (by omega) l3 l4).mono ?_
   rintro e w16 ⟨e2,e3,rfl,hq,hr,b16⟩
   obtain ⟨pq,aq,nq,cq,rfl⟩ := hq.open
   obtain ⟨pr,ar,nr,cr,rfl⟩ := hr.open
   go_wp2_with fail
   replace hz := hz.below b16
   replace hx := hx.below b16
   replace h1 := h1.below b16
   replace VA := VA.below b16
   replace VR := VR.below b16
   replace VM := VM.below b16
   replace VQ := VQ.below b16
   replace BB := BB.trans (b16.mono BB.size)
   clear b16
   refine hK.out _ _ ?_ (fun hH4 => ?_)
   ·exact ⟨VA.1,VA.2.1,VA.2.2.1⟩
   clear hK K hH3
   (try simp only [Act.put,xL4,xL5,xL6])
   refine xT 5 (v := ?_) (hy := Or.inl ⟨by rfl,?_⟩) (h := ?_)
   rotate_left
   ·(intro w hSw; (try dsimp only at hSw); go_simp; (try with_reducible rfl))
   (try simp only [Act.put,xL4,xL5,xL6])
   refine xT 6 (v := ?_) (hy := Or.inl ⟨by rfl,?_⟩) (h := ?_)
   rotate_left
   ·(intro w hSw; (try dsimp only at hSw); go_simp; (try with_reducible rfl))
   (try simp only [Act.put,xL4,xL5,xL6])
   refine xT 7 (v := ?_) (hy := Or.inl ⟨by rfl,?_⟩) (h := ?_)
   rotate_left
   ·(intro w hSw; (try dsimp only at hSw); go_simp; (try with_reducible rfl))
   (try simp only [Act.put,xL4,xL5,xL6])
   refine xR [10] (h := ?_)
   refine xN (h := fun K hK => ?_)
   have hKp := VQ.keepJ (.bool pq) (.slice aq nq cq)
   have VA_n := VA.other2 (R := R41) (by omega) (.bool pq) (.slice aq nq cq)
   have VR_n := VR.other (R := R41) (by omega) (.bool pq) (.slice aq nq cq)
   have VM_n := VM.other (R := R41) (by omega) (.bool pq) (.slice aq nq cq)
   have VQ_n := VQ.same (.bool pq) (.slice aq nq cq)
   have hz_n := hz.keep hKp
   have hx_n := hx.keep hKp
   have h1_n := h1.keep hKp
   have hq_n := hq.keep hKp
   have hr_n := hr.keep hKp
   have BB_n := below_store2 (R := R41) BB (by omega) (.bool pq) (.slice aq nq cq)
   clear hKp
   obtain ⟨VQ_0,VQ_1,VQ_2,VQ_3⟩ := id VQ
   go_simp
   clear VQ_0 VQ_1 VQ_2 VQ_3
   clear BB hz hx h1 hq hr VA VR VM VQ
   generalize (w16.setCell ⟨R41,0,none⟩ (.bool pq)).setCell ⟨R41,1,none⟩ (.slice aq nq cq) = W42 at *
   have BB := BB_n
   have hz := hz_n
   have hx := hx_n
   have h1 := h1_n
   have hq := hq_n
   have hr := hr_n
   have VA := VA_n
   have VR := VR_n
   have VM := VM_n
   have VQ := VQ_n
   clear BB_n hz_n hx_n h1_n hq_n hr_n VA_n VR_n VM_n VQ_n
   refine hK.out _ _ ?_ (fun hH5 => ?_)
   ·exact ⟨VA.1,VA.2.1,VA.2.2.1⟩
   clear hK K hH4
   (try simp only [Act.put,xL4,xL5,xL6])
   refine xR [11] (h := ?_)
   refine xN (h := fun K hK => ?_)
   have hKp := VM.keepJ (.bool pr) (.slice ar nr cr)
   have VA_n := VA.other2 (R := R34) (by omega) (.bool pr) (.slice ar nr cr)
   have VR_n := VR.other (R := R34) (by omega) (.bool pr) (.slice ar nr cr)
   have VQ_n := VQ.other (R := R34) (by omega) (.bool pr) (.slice ar nr cr)
   have VM_n := VM.same (.bool pr) (.slice ar nr cr)
   have hz_n := hz.keep hKp
   have hx_n := hx.keep hKp
   have h1_n := h1.keep hKp
   have hq_n := hq.keep hKp
   have hr_n := hr.keep hKp
   have BB_n := below_store2 (R := R34) BB (by omega) (.bool pr) (.slice ar nr cr)
   clear hKp
   obtain ⟨VM_0,VM_1,VM_2,VM_3⟩ := id VM
   go_simp
   clear VM_0 VM_1 VM_2 VM_3
   clear BB hz hx h1 hq hr VA VR VM VQ
   generalize (W42.setCell ⟨R34,0,none⟩ (.bool pr)).setCell ⟨R34,1,none⟩ (.slice ar nr cr) = W43 at *
   have BB := BB_n
   have hz := hz_n
   have hx := hx_n
   have h1 := h1_n
   have hq := hq_n
   have hr := hr_n
   have VA := VA_n
   have VR := VR_n
   have VM := VM_n
   have VQ := VQ_n
   clear BB_n hz_n hx_n h1_n hq_n hr_n VA_n VR_n VM_n VQ_n
   refine hK.out _ _ ?_ (fun hH6 => ?_)
   ·exact ⟨VA.1,VA.2.1,VA.2.2.1⟩
   clear hK K hH5
   (try simp only [Act.put,xL4,xL5,xL6])
   refine wpAnyH_done (by kernel_rfl) ?_ _
   clear hH6
   have hKp := VR.keepJ (.bool pq) (.slice aq nq cq)
   have hz_n := hz.keep hKp
   have hx_n := hx.keep hKp
   have h1_n := h1.keep hKp
   have hq_n := hq.keep hKp
   have hr_n := hr.keep hKp
   have BB_n := below_store2 (R := w.heap.size + 1) BB (by omega) (.bool pq) (.slice aq nq cq)
   clear hKp
   obtain ⟨VQ_0,VQ_1,VQ_2,VQ_3⟩ := id VQ
   obtain ⟨q1,q2,q3,q4⟩ := id VR
   go_wp2
   (try simp only [Exit.inBlock,Exit.then])
   refine bodyPost_ret (v := .agg #[.bool pq,.slice aq nq cq]) (by simp [results,go_sem,q1,q2]) rfl ?_
   exact ⟨_,rfl,hq_n,BB_n⟩
  exact AllReadyH.nil
 exact AllReadyH.nil



theorem neg_mkRat (z : Int) (x : Nat) (hx : 0 < x) : z < 0 ↔ mkRat z x < 0 := by
 have h := cmpI_sign z x hx
 unfold cmpI cmpQ at h
 constructor
 ·intro g
  rw [if_pos g] at h
  by_cases k : mkRat z x < 0
  ·exact k
  ·rw [if_neg k] at h; split at h <;> omega
 ·intro g
  rw [if_pos g] at h
  by_cases k : z < 0
  ·exact k
  ·rw [if_neg k] at h; split at h <;> omega
end Go.Proofs.YtpgioggbepdjpaaGreatDoor
