/-
  Texts of mine, joined: what lies beneath the statement.
-/
import Derived.Test.YtnbocjbfieklhaaGreatDoorJb016ad185a
import Derived.Test.YtnbocjbfieklhaaGreatDoorJ3354e995d6
import Derived.Test.YtnbocjbfieklhaaGreatDoorJ0b95db5050
namespace Go.Proofs.YtnbocjbfieklhaaGreatDoor
open Go.RowKit
set_option linter.unusedVariables false
set_option linter.unusedSimpArgs false
def Dist (x : Nat → Rat) (n : Nat) : Prop := ∀ b,b < n → ∀ c,c < b → x b ≠ x c
def slz : Nat → Nat
 | 0 => 2
 | b + 1 => 2 * slz b + 6
theorem slz_le (b : Nat) (h : b ≤ 6) : slz b ≤ 506 := by
 rcases (by omega : b = 0 ∨ b = 1 ∨ b = 2 ∨ b = 3 ∨ b = 4 ∨ b = 5 ∨ b = 6) with rfl | rfl | rfl | rfl | rfl | rfl | rfl <;> decide
theorem slz_mono : ∀ b,slz b ≤ slz (b + 1) := fun b => by show slz b ≤ 2 * slz b + 6; omega
theorem slz_mono2 (a : Nat) : ∀ b,slz a ≤ slz (a + b)
 | 0 => Nat.le_refl _
 | b + 1 => Nat.le_trans (slz_mono2 a b) (slz_mono (a + b))
theorem slz_two : ∀ b,2 ≤ slz b
 | 0 => Nat.le_refl _
 | b + 1 => by show 2 ≤ 2 * slz b + 6; omega
def stN (x y : Nat → Rat) (b t j : Nat) : Rat := if t ≤ j ∧ b < j then slopeN x y (b + 1) j else slopeN x y (min j b) j
theorem stN_end (x y : Nat → Rat) (b j : Nat) : stN x y b (b + 1) j = slopeN x y (min j (b + 1)) j := by
 unfold stN
 by_cases h : b < j
 ·rw [if_pos ⟨by omega,h⟩,show min j (b + 1) = b + 1 by omega]
 ·rw [if_neg (by omega),show min j (b + 1) = j by omega,show min j b = j by omega]
theorem stN_start (x y : Nat → Rat) (b n j : Nat) (hj : j < n) : stN x y b n j = slopeN x y (min j b) j := by
 unfold stN; rw [if_neg (by omega)]
theorem stN_here (x y : Nat → Rat) (b i : Nat) (hi : b < i) : stN x y b (i + 1) i = slopeN x y b i := by
 unfold stN; rw [if_neg (by omega),show min i b = b by omega]
theorem stN_ahead (x y : Nat → Rat) (b i : Nat) (hi : b < i) : stN x y b (i + 1) (i - 1) = slopeN x y b (i - 1) := by
 unfold stN; rw [if_neg (by omega),show min (i - 1) b = b by omega]
theorem stN_next (x y : Nat → Rat) (b i : Nat) (hi : b < i) : stN x y b i i = (slopeN x y b i - slopeN x y b (i - 1)) / (x i - x (i - (b + 1))) := by
 unfold stN; rw [if_pos ⟨Nat.le_refl _,hi⟩]; rfl
theorem stN_other (x y : Nat → Rat) (b i j : Nat) (h : j ≠ i) : stN x y b i j = stN x y b (i + 1) j := by
 unfold stN
 by_cases g : i ≤ j ∧ b < j
 ·rw [if_pos g,if_pos ⟨by omega,g.2⟩]
 ·rw [if_neg g,if_neg (by omega)]
def SRaw (w : World) (el : Nat → Nat → Value) (n : Nat) (q : Nat → Rat) : Prop := ∀ i,i < n → RatAt w (elv el i) (q i) (slz i)
theorem SRaw.below {w w' : World} {el : Nat → Nat → Value} {n : Nat} {q : Nat → Rat} (h : SRaw w el n q) (hb : Below w.heap.size w w') : SRaw w' el n q := fun i h1 => (h i h1).below hb
theorem SRaw.keep {w w' : World} {el : Nat → Nat → Value} {n : Nat} {q : Nat → Rat} (h : SRaw w el n q) (hk : KeepQ IsNum w w') : SRaw w' el n q := fun i h1 => (h i h1).keep hk
theorem SRaw.upd {w : World} {el : Nat → Nat → Value} {j n : Nat} {q q' : Nat → Rat} {x y z : Value} (h : SRaw w el n q) (hr : RatAt w (.agg #[x,y,z]) (q' j) (slz j)) (hq : ∀ i,i ≠ j → q' i = q i) : SRaw w (upd3 el j x y z) n q' := by
 intro i hi
 by_cases e : i = j
 ·subst e; simpa [elv,upd3] using hr
 ·rw [hq i e]
  have := h i hi
  simp only [elv,upd3_other el j i x y z e] at *
  exact this
theorem slz_up (a b : Nat) (h : a ≤ b) : slz a ≤ slz b := by
 have := slz_mono2 a (b - a)
 rwa [show a + (b - a) = b by omega] at this
def NewtOut (x y : Nat → Rat) (n : Nat) (w : World) (e : Ending) (w' : World) : Prop :=
 (Dist x n ∧ ∃ v,e = .returned (.tuple #[v,.int .i64 0]) ∧ ∃ ao c,v = .slice ao n c ∧ n ≤ c ∧ c ≤ 9223372036854775807 ∧ (∃ el,RowAt 3 w' v n el ∧ ∀ i,i < n → RatAt w' (elv el i) (slopeN x y i i) (slz i)) ∧ Below w.heap.size w w') ∨
 (¬ Dist x n ∧ e = .returned (.tuple #[.slice none 0 0,.int .i64 2]) ∧ Below w.heap.size w w')
theorem slope_sz (x y : Nat → Rat) (n : Nat) (hx : ∀ i,i < n → qsz (x i) ≤ 2) (hy : ∀ i,i < n → qsz (y i) ≤ 2) : ∀ b i,i < n → qsz (slopeN x y b i) ≤ slz b
 | 0,i,hi => hy i hi
 | b + 1,i,hi => by
  have h1 := slope_sz x y n hx hy b i hi
  have h2 := slope_sz x y n hx hy b (i - 1) (by omega)
  have h3 := qsz_sub _ _ h1 h2
  have h4 := qsz_sub _ _ (hx i hi) (hx (i - (b + 1)) (by omega))
  exact Nat.le_trans (qsz_div _ _ h3 h4) (by show _ ≤ 2 * slz b + 6; omega)
theorem TupQ.keep {w w' : World} {v : Value} {q : Rat} (h : TupQ w v q) (hk : KeepQ IsNum w w') : TupQ w' v q := let ⟨x,h1,h2⟩ := h; ⟨x,h1,h2.keep hk⟩
set_option maxRecDepth 100000 in
set_option maxHeartbeats 16000000 in
theorem newton_at (u v : Value) (n : Nat) (x y : Nat → Rat) (w : World) (hx : QRow w u n x 2) (hy : QRow w v n y 2) (ht : Tab w) (hn : n ≤ 6) :
  Calls Tryz.prog 77 #[u,v] w fun e w' => NewtOut x y n w e w' := by
 have sX : ∀ i,i < n → qsz (x i) ≤ 2 := fun i hi => hx.sz (by omega) i hi
 have sY : ∀ i,i < n → qsz (y i) ≤ 2 := fun i hi => hy.sz (by omega) i hi
 obtain ⟨xa,xc,rfl,hxc1,hxc2,hxs⟩ := hx.open
 have hx0 := hx
 have ht0 := ht
 clear hx ht
 have BB : Below w.heap.size w w := Below.refl _ _
 go_enter Tryz.func77,Tryz.ntmps77
 go_wp2_with fail
 refine (rclone_at _ n y 2 _ hy (by omega)).mono ?_
 rintro e w1 ⟨xo,rfl,RA,b1⟩
 replace hy := hy.below b1
 replace BB := BB.trans (b1.mono BB.size)
 clear b1
 clear hy
 obtain ⟨ao,c,rfl,hc1,hc2,hA⟩ := RA
 by_cases h0 : n = 0
 ·subst h0
  go_wp2
  go_loopw [7] (fun va wr => va = .int .i64 1 ∧ wr = w1) (fun _ _ => 0)
  case atStart => exact ⟨rfl,rfl⟩
  case round =>
   obtain ⟨rfl,hwr⟩ := hrel
   subst hwr
   go_wp2
   go_ret2
   exact Or.inl ⟨fun b hb => by omega,_,rfl,ao,c,rfl,hc1,hc2,⟨fun _ _ => .bool false,⟨ao,c,rfl,hc1,hc2,fun h => by omega⟩,fun i hi => by omega⟩,BB⟩
 ·obtain ⟨g,el0,rfl,gB,Ar,HR⟩ := hA (by omega)
  have HR : SRaw w1 el0 n (fun j => slopeN x y (min j 0) j) := fun i hi => by show RatAt _ _ (slopeN x y (min i 0) i) _; rw [show min i 0 = 0 by omega]; exact (HR i hi).le (slz_two i)
  go_wp2
  go_loopw [7] (fun va wr => ∃ (b b1 : Nat) (el : Nat → Nat → Value),Hid (b1 = b + 1) ∧ b1 ≤ n ∧ va = .int .i64 (b1 : Int) ∧ Hid (∀ i,i < n → ∀ d,0 < d → d < b + 1 → d ≤ i → x i ≠ x (i - d)) ∧ Arr3 wr g n el ∧ SRaw wr el n (fun j => slopeN x y (min j b) j) ∧ Below w.heap.size w wr) (fun va _ => n - (intOf va).toNat)
  case atStart => exact ⟨0,1,el0,rfl,by omega,rfl,fun i _ d h1 h2 => by omega,Ar,HR,BB⟩
  case round =>
   clear Ar HR BB
   obtain ⟨b,b1,el,HB1,hbn,rfl,HD,Ar,HR,BB⟩ := hrel
   have hb1 := HB1.out
   by_cases hlt : b1 < n
   ·have hli : (b1 : Int) < (n : Int) := by omega
    have hz := slz_le b (by omega)
    have hz2 := slz_two b
    have HR : SRaw wr el n (stN x y b n) := fun i hi => by rw [stN_start x y b n i hi]; exact HR i hi
    have SSZ : Hid (∀ i,i < n → qsz (slopeN x y b i) ≤ slz b) := slope_sz x y n sX sY b
    obtain ⟨n1,hn1⟩ : ∃ n1,n1 + 1 = n := ⟨n - 1,by omega⟩
    have i1 : (n : Int) - 1 = (n1 : Int) := by omega
    have i2 : IntKind.i64.wrap (n1 : Int) = (n1 : Int) := by rw [IntKind.wrap_i64]; omega
    have HN1 : Hid (n1 + 1 = n) := hn1
    clear hb1 hn1
    go_wp2
    go_loopw [8] (fun vi wr => ∃ (t : Nat) (el : Nat → Nat → Value),b1 ≤ t ∧ t ≤ n ∧ vi = .int .i64 ((t : Int) - 1) ∧ Hid (∀ i,i < n → t ≤ i → x i ≠ x (i - b1)) ∧ Arr3 wr g n el ∧ SRaw wr el n (stN x y b t) ∧ Below w.heap.size w wr) (fun vi _ => (intOf vi + 1).toNat)
    case atStart => exact ⟨n,el,by omega,Nat.le_refl _,by rw [i1],fun i h1 h2 => by omega,Ar,HR,BB⟩
    case round =>
     clear Ar HR BB
     obtain ⟨t,el,ht1,ht2,rfl,HP,Ar,HR,BB⟩ := hrel
     by_cases hlt2 : b1 < t
     ·have hb1 := HB1.out
      have hn1 := HN1.out
      obtain ⟨i,rfl⟩ : ∃ i,t = i + 1 := ⟨t - 1,by omega⟩
      have j0 : ((i + 1 : Nat) : Int) - 1 = (i : Int) := by omega
      rw [j0]
      have hge : (i : Int) ≥ (b1 : Int) := by omega
      have hin : i < n := by omega
      have hbi : b < i := by omega
      obtain ⟨ip,hip⟩ : ∃ ip,ip = i - 1 := ⟨_,rfl⟩
      have j1 : (i : Int) - 1 = (ip : Int) := by omega
      have j2 : IntKind.i64.wrap (ip : Int) = (ip : Int) := by rw [IntKind.wrap_i64]; omega
      have j3 : (0 : Int) ≤ (ip : Int) := by omega
      have j4 : (ip : Int) < (n : Int) := by omega
      obtain ⟨ia,hia⟩ : ∃ ia,ia = i - b1 := ⟨_,rfl⟩
      have j5 : (i : Int) - (b1 : Int) = (ia : Int) := by omega
      have j6 : IntKind.i64.wrap (ia : Int) = (ia : Int) := by rw [IntKind.wrap_i64]; omega
      have j7 : (0 : Int) ≤ (ia : Int) := by omega
      have j8 : (ia : Int) < (n : Int) := by omega
      have j9 : (0 : Int) ≤ (i : Int) := by omega
      have j10 : (i : Int) < (n : Int) := by omega
      have hipn : ip < n := by omega
      have hian : ia < n := by omega
      have E1 := stN_here x y b i hbi
      have E2 := stN_ahead x y b i hbi
      have E3_ := stN_next x y b i hbi
      rw [← hip] at E2 E3_
      rw [show i - (b + 1) = ia by omega] at E3_
      have R1 := HR i hin
      have R2 := HR ip hipn
      rw [E1] at R1
      rw [E2] at R2
      obtain ⟨p4,a4,n4,c4,b4,m4,d4,XI,Ri⟩ := Ar.e3r i hin R1
      obtain ⟨p5,a5,n5,c5,b5,m5,d5,XP,Rp⟩ := Ar.e3r ip hipn R2
      obtain ⟨b6,off,cc6,p6,a6,n6,c6,bo6,m6,d6,hvv,hcc,XA0,Ha0⟩ := hx0.at i hin
      cases hvv
      obtain ⟨b7,off7,cc7,p7,a7,n7,c7,bo7,m7,d7,hvv,hcc7,XB0,Hb0⟩ := hx0.at ia hian
      cases hvv
      have HSI := SSZ.out i hin
      have HSP := SSZ.out ip hipn
      have HE3 : Hid (stN x y b i i = (slopeN x y b i - slopeN x y b ip) / (x i - x ia)) := E3_
      have HIA : Hid (ia = i - b1 ∧ ip = i - 1 ∧ b1 = b + 1) := ⟨hia,hip,hb1⟩
      have hzi := slz_le i (by omega)
      have hzp := slz_le ip (by omega)
      have hup := slz_up (b + 1) i (by omega)
      have HUP : Hid (slz (b + 1) = 2 * slz b + 6) := rfl
      have hxi := sX i hin
      have hxa := sX ia hian
      clear E1 E2 E3_ R1 R2 hia hip hb1 hn1
      generalize slopeN x y b i = si at *
      generalize slopeN x y b ip = sp at *
      have XA := XA0.below BB
      have XB := XB0.below BB
      have Ha := Ha0.below BB
      have Hb := Hb0.below BB
      have ht := ht0.below BB
      clear XA0 XB0 Ha0 Hb0
      have SD1 := qsz_sub _ _ HSI HSP
      have SD2 := qsz_sub _ _ hxi hxa
      by_cases hxx : x i - x ia = 0
      ·go_wp2
       (try simp only [hge,decide_true])
       refine wp_region_float 26 24 #[true,true,true,true,true,true,true,true,true,true,true,true,true,true,true,true,true,true,true,true,true,true,true,true,true,true,false,false] #[true,true,true,true,true,true,true,true,true,true,true,true,true,true,true,true,true,true,true,true,true,true,true,true,false,true,false,false] (fun aF lsd a' w' => ∃ vu0 vu1 vu2 vu3 vu4 vu5 vu6 vu7 vu8 vu9 vu10 vu11 vu12 vu13 vu14 vu15 vu16 vu17 vu18 vu19 vu20 vu21 vu22 vu23 vu24 vu25 : Value,a' = (((((((((((((((((((((((((aF.put (some 28) vu0).put (some 29) vu1).put (some 30) vu2).put (some 31) vu3).put (some 32) vu4).put (some 33) vu5).put (some 34) vu6).put (some 35) vu7).put (some 36) vu8).put (some 37) vu9).put (some 38) vu10).put (some 39) vu11).put (some 40) vu12).put (some 41) vu13).put (some 42) vu14).put (some 43) vu15).put (some 44) vu16).put (some 45) vu17).put (some 46) vu18).put (some 47) vu19).put (some 48) vu20).put (some 49) vu21).put (some 27) vu22).put (some 50) vu23).put (some 51) vu24).put (some 9) vu25 ∧ Below wr.heap.size wr w' ∧ (lsd.getD 0 false = true → vu0 = .slice (some ⟨g,0,none⟩) n c) ∧ (lsd.getD 1 false = true → vu1 = .int .i64 (i : Int)) ∧ (lsd.getD 2 false = true → vu2 = .pointer (some ⟨g,i * 3,none⟩)) ∧ (lsd.getD 3 false = true → vu3 = .agg #[.bool p4,.slice a4 n4 c4,.slice b4 m4 d4]) ∧ (lsd.getD 4 false = true → vu4 = .slice (some ⟨g,0,none⟩) n c) ∧ (lsd.getD 5 false = true → vu5 = .int .i64 (i : Int)) ∧ (lsd.getD 6 false = true → vu6 = .int .i64 (ip : Int)) ∧ (lsd.getD 7 false = true → vu7 = .pointer (some ⟨g,ip * 3,none⟩)) ∧ (lsd.getD 8 false = true → vu8 = .agg #[.bool p5,.slice a5 n5 c5,.slice b5 m5 d5]) ∧ (lsd.getD 9 false = true → RepQ w' vu9 (si - sp)) ∧ (lsd.getD 10 false = true → vu10 = .slice (some ⟨b6,off,none⟩) n xc) ∧ (lsd.getD 11 false = true → vu11 = .int .i64 (i : Int)) ∧ (lsd.getD 12 false = true → vu12 = .pointer (some ⟨b6,off + i * 3,none⟩)) ∧ (lsd.getD 13 false = true → vu13 = .agg #[.bool p6,.slice a6 n6 c6,.slice bo6 m6 d6]) ∧ (lsd.getD 14 false = true → vu14 = .slice (some ⟨b6,off,none⟩) n xc) ∧ (lsd.getD 15 false = true → vu15 = .int .i64 (i : Int)) ∧ (lsd.getD 16 false = true → vu16 = .int .i64 (b1 : Int)) ∧ (lsd.getD 17 false = true → vu17 = .int .i64 (ia : Int)) ∧ (lsd.getD 18 false = true → vu18 = .pointer (some ⟨b6,off + ia * 3,none⟩)) ∧ (lsd.getD 19 false = true → vu19 = .agg #[.bool p7,.slice a7 n7 c7,.slice bo7 m7 d7]) ∧ (lsd.getD 20 false = true → RepQ w' vu20 (x i - x ia)) ∧ (lsd.getD 21 false = true → vu21 = .tuple #[.agg #[.bool false,.slice none 0 0,.slice none 0 0],.int .i64 2]) ∧ (lsd.getD 22 false = true → vu22 = .tuple #[.agg #[.bool false,.slice none 0 0,.slice none 0 0],.int .i64 2]) ∧ (lsd.getD 23 false = true → vu23 = .agg #[.bool false,.slice none 0 0,.slice none 0 0]) ∧ (lsd.getD 24 false = true → vu24 = .int .i64 2) ∧ (lsd.getD 25 false = true → New3 wr.heap.size w' vu25 (.bool false) (.slice none 0 0) (.slice none 0 0))) (by kernel_rfl) (by decide) (by kernel_rfl) (by rfl) (by kernel_rfl) (by rfl) (by kernel_rfl) (by decide) ?_ ?_ ?_ ?_
       ·exact ⟨_,_,_,_,_,_,_,_,_,_,_,_,_,_,_,_,_,_,_,_,_,_,_,_,_,_,by simp only [Act.put,xL4,xL5,xL6]; rfl,(Below.refl _ _).drew,fun h => absurd h (fun h => mark_none h),fun h => absurd h (fun h => mark_none h),fun h => absurd h (fun h => mark_none h),fun h => absurd h (fun h => mark_none h),fun h => absurd h (fun h => mark_none h),fun h => absurd h (fun h => mark_none h),fun h => absurd h (fun h => mark_none h),fun h => absurd h (fun h => mark_none h),fun h => absurd h (fun h => mark_none h),fun h => absurd h (fun h => mark_none h),fun h => absurd h (fun h => mark_none h),fun h => absurd h (fun h => mark_none h),fun h => absurd h (fun h => mark_none h),fun h => absurd h (fun h => mark_none h),fun h => absurd h (fun h => mark_none h),fun h => absurd h (fun h => mark_none h),fun h => absurd h (fun h => mark_none h),fun h => absurd h (fun h => mark_none h),fun h => absurd h (fun h => mark_none h),fun h => absurd h (fun h => mark_none h),fun h => absurd h (fun h => mark_none h),fun h => absurd h (fun h => mark_none h),fun h => absurd h (fun h => mark_none h),fun h => absurd h (fun h => mark_none h),fun h => absurd h (fun h => mark_none h),fun h => absurd h (fun h => mark_none h)⟩
       ·rintro lsd au wn iu hszu ⟨vu0,vu1,vu2,vu3,vu4,vu5,vu6,vu7,vu8,vu9,vu10,vu11,vu12,vu13,vu14,vu15,vu16,vu17,vu18,vu19,vu20,vu21,vu22,vu23,vu24,vu25,rfl,hbu,fu0,fu1,fu2,fu3,fu4,fu5,fu6,fu7,fu8,fu9,fu10,fu11,fu12,fu13,fu14,fu15,fu16,fu17,fu18,fu19,fu20,fu21,fu22,fu23,fu24,fu25⟩ himu hru
        rcases (show iu = 0 ∨ iu = 1 ∨ iu = 2 ∨ iu = 3 ∨ iu = 4 ∨ iu = 5 ∨ iu = 6 ∨ iu = 7 ∨ iu = 8 ∨ iu = 9 ∨ iu = 10 ∨ iu = 11 ∨ iu = 12 ∨ iu = 13 ∨ iu = 14 ∨ iu = 15 ∨ iu = 16 ∨ iu = 17 ∨ iu = 18 ∨ iu = 19 ∨ iu = 20 ∨ iu = 21 ∨ iu = 22 ∨ iu = 23 ∨ iu = 24 ∨ iu = 25 by omega) with rfl | rfl | rfl | rfl | rfl | rfl | rfl | rfl | rfl | rfl | rfl | rfl | rfl | rfl | rfl | rfl | rfl | rfl | rfl | rfl | rfl | rfl | rfl | rfl | rfl | rfl
        ·refine wpOp_shut (by rfl) (fun K hK => ?_)
         simp only [Act.put,xL4,xL5,xL6]
         go_simp
         exact hK.out _ _ ⟨(.slice (some ⟨g,0,none⟩) n c),vu1,vu2,vu3,vu4,vu5,vu6,vu7,vu8,vu9,vu10,vu11,vu12,vu13,vu14,vu15,vu16,vu17,vu18,vu19,vu20,vu21,vu22,vu23,vu24,vu25,by simp only [Act.put,xL4,xL5,xL6],hbu,fun _ => rfl,fun h => fu1 (mark_of (by decide) h),fun h => fu2 (mark_of (by decide) h),fun h => fu3 (mark_of (by decide) h),fun h => fu4 (mark_of (by decide) h),fun h => fu5 (mark_of (by decide) h),fun h => fu6 (mark_of (by decide) h),fun h => fu7 (mark_of (by decide) h),fun h => fu8 (mark_of (by decide) h),fun h => fu9 (mark_of (by decide) h),fun h => fu10 (mark_of (by decide) h),fun h => fu11 (mark_of (by decide) h),fun h => fu12 (mark_of (by decide) h),fun h => fu13 (mark_of (by decide) h),fun h => fu14 (mark_of (by decide) h),fun h => fu15 (mark_of (by decide) h),fun h => fu16 (mark_of (by decide) h),fun h => fu17 (mark_of (by decide) h),fun h => fu18 (mark_of (by decide) h),fun h => fu19 (mark_of (by decide) h),fun h => fu20 (mark_of (by decide) h),fun h => fu21 (mark_of (by decide) h),fun h => fu22 (mark_of (by decide) h),fun h => fu23 (mark_of (by decide) h),fun h => fu24 (mark_of (by decide) h),fun h => fu25 (mark_of (by decide) h)⟩
        ·refine wpOp_shut (by rfl) (fun K hK => ?_)
         simp only [Act.put,xL4,xL5,xL6]
         go_simp
         exact hK.out _ _ ⟨vu0,(.int .i64 (i : Int)),vu2,vu3,vu4,vu5,vu6,vu7,vu8,vu9,vu10,vu11,vu12,vu13,vu14,vu15,vu16,vu17,vu18,vu19,vu20,vu21,vu22,vu23,vu24,vu25,by simp only [Act.put,xL4,xL5,xL6],hbu,fun h => fu0 (mark_of (by decide) h),fun _ => rfl,fun h => fu2 (mark_of (by decide) h),fun h => fu3 (mark_of (by decide) h),fun h => fu4 (mark_of (by decide) h),fun h => fu5 (mark_of (by decide) h),fun h => fu6 (mark_of (by decide) h),fun h => fu7 (mark_of (by decide) h),fun h => fu8 (mark_of (by decide) h),fun h => fu9 (mark_of (by decide) h),fun h => fu10 (mark_of (by decide) h),fun h => fu11 (mark_of (by decide) h),fun h => fu12 (mark_of (by decide) h),fun h => fu13 (mark_of (by decide) h),fun h => fu14 (mark_of (by decide) h),fun h => fu15 (mark_of (by decide) h),fun h => fu16 (mark_of (by decide) h),fun h => fu17 (mark_of (by decide) h),fun h => fu18 (mark_of (by decide) h),fun h => fu19 (mark_of (by decide) h),fun h => fu20 (mark_of (by decide) h),fun h => fu21 (mark_of (by decide) h),fun h => fu22 (mark_of (by decide) h),fun h => fu23 (mark_of (by decide) h),fun h => fu24 (mark_of (by decide) h),fun h => fu25 (mark_of (by decide) h)⟩
        ·have eu0 := fu0 (dep_of 0 hru rfl (by kernel_rfl))
         have eu1 := fu1 (dep_of 1 hru rfl (by kernel_rfl))
         replace eu0 := eu0.symm
         subst eu0
         replace eu1 := eu1.symm
         subst eu1
         refine wpOp_shut (by rfl) (fun K hK => ?_)
         simp only [Act.put,xL4,xL5,xL6]
         go_simp
         exact hK.out _ _ ⟨(.slice (some ⟨g,0,none⟩) n c),(.int .i64 (i : Int)),(.pointer (some ⟨g,i * 3,none⟩)),vu3,vu4,vu5,vu6,vu7,vu8,vu9,vu10,vu11,vu12,vu13,vu14,vu15,vu16,vu17,vu18,vu19,vu20,vu21,vu22,vu23,vu24,vu25,by simp only [Act.put,xL4,xL5,xL6],hbu,fun _ => rfl,fun _ => rfl,fun _ => rfl,fun h => fu3 (mark_of (by decide) h),fun h => fu4 (mark_of (by decide) h),fun h => fu5 (mark_of (by decide) h),fun h => fu6 (mark_of (by decide) h),fun h => fu7 (mark_of (by decide) h),fun h => fu8 (mark_of (by decide) h),fun h => fu9 (mark_of (by decide) h),fun h => fu10 (mark_of (by decide) h),fun h => fu11 (mark_of (by decide) h),fun h => fu12 (mark_of (by decide) h),fun h => fu13 (mark_of (by decide) h),fun h => fu14 (mark_of (by decide) h),fun h => fu15 (mark_of (by decide) h),fun h => fu16 (mark_of (by decide) h),fun h => fu17 (mark_of (by decide) h),fun h => fu18 (mark_of (by decide) h),fun h => fu19 (mark_of (by decide) h),fun h => fu20 (mark_of (by decide) h),fun h => fu21 (mark_of (by decide) h),fun h => fu22 (mark_of (by decide) h),fun h => fu23 (mark_of (by decide) h),fun h => fu24 (mark_of (by decide) h),fun h => fu25 (mark_of (by decide) h)⟩
        ·have eu2 := fu2 (dep_of 2 hru rfl (by kernel_rfl))
         replace eu2 := eu2.symm
         subst eu2
         refine wpOp_shut (by rfl) (fun K hK => ?_)
         simp only [Act.put,xL4,xL5,xL6]
         obtain ⟨XI_0,XI_1,XI_2⟩ := XI.below hbu
         go_simp
         exact hK.out _ _ ⟨vu0,vu1,(.pointer (some ⟨g,i * 3,none⟩)),(.agg #[.bool p4,.slice a4 n4 c4,.slice b4 m4 d4]),vu4,vu5,vu6,vu7,vu8,vu9,vu10,vu11,vu12,vu13,vu14,vu15,vu16,vu17,vu18,vu19,vu20,vu21,vu22,vu23,vu24,vu25,by simp only [Act.put,xL4,xL5,xL6],hbu,fun h => fu0 (mark_of (by decide) h),fun h => fu1 (mark_of (by decide) h),fun _ => rfl,fun _ => rfl,fun h => fu4 (mark_of (by decide) h),fun h => fu5 (mark_of (by decide) h),fun h => fu6 (mark_of (by decide) h),fun h => fu7 (mark_of (by decide) h),fun h => fu8 (mark_of (by decide) h),fun h => fu9 (mark_of (by decide) h),fun h => fu10 (mark_of (by decide) h),fun h => fu11 (mark_of (by decide) h),fun h => fu12 (mark_of (by decide) h),fun h => fu13 (mark_of (by decide) h),fun h => fu14 (mark_of (by decide) h),fun h => fu15 (mark_of (by decide) h),fun h => fu16 (mark_of (by decide) h),fun h => fu17 (mark_of (by decide) h),fun h => fu18 (mark_of (by decide) h),fun h => fu19 (mark_of (by decide) h),fun h => fu20 (mark_of (by decide) h),fun h => fu21 (mark_of (by decide) h),fun h => fu22 (mark_of (by decide) h),fun h => fu23 (mark_of (by decide) h),fun h => fu24 (mark_of (by decide) h),fun h => fu25 (mark_of (by decide) h)⟩
        ·refine wpOp_shut (by rfl) (fun K hK => ?_)
         simp only [Act.put,xL4,xL5,xL6]
         go_simp
         exact hK.out _ _ ⟨vu0,vu1,vu2,vu3,(.slice (some ⟨g,0,none⟩) n c),vu5,vu6,vu7,vu8,vu9,vu10,vu11,vu12,vu13,vu14,vu15,vu16,vu17,vu18,vu19,vu20,vu21,vu22,vu23,vu24,vu25,by simp only [Act.put,xL4,xL5,xL6],hbu,fun h => fu0 (mark_of (by decide) h),fun h => fu1 (mark_of (by decide) h),fun h => fu2 (mark_of (by decide) h),fun h => fu3 (mark_of (by decide) h),fun _ => rfl,fun h => fu5 (mark_of (by decide) h),fun h => fu6 (mark_of (by decide) h),fun h => fu7 (mark_of (by decide) h),fun h => fu8 (mark_of (by decide) h),fun h => fu9 (mark_of (by decide) h),fun h => fu10 (mark_of (by decide) h),fun h => fu11 (mark_of (by decide) h),fun h => fu12 (mark_of (by decide) h),fun h => fu13 (mark_of (by decide) h),fun h => fu14 (mark_of (by decide) h),fun h => fu15 (mark_of (by decide) h),fun h => fu16 (mark_of (by decide) h),fun h => fu17 (mark_of (by decide) h),fun h => fu18 (mark_of (by decide) h),fun h => fu19 (mark_of (by decide) h),fun h => fu20 (mark_of (by decide) h),fun h => fu21 (mark_of (by decide) h),fun h => fu22 (mark_of (by decide) h),fun h => fu23 (mark_of (by decide) h),fun h => fu24 (mark_of (by decide) h),fun h => fu25 (mark_of (by decide) h)⟩
        ·refine wpOp_shut (by rfl) (fun K hK => ?_)
         simp only [Act.put,xL4,xL5,xL6]
         go_simp
         exact hK.out _ _ ⟨vu0,vu1,vu2,vu3,vu4,(.int .i64 (i : Int)),vu6,vu7,vu8,vu9,vu10,vu11,vu12,vu13,vu14,vu15,vu16,vu17,vu18,vu19,vu20,vu21,vu22,vu23,vu24,vu25,by simp only [Act.put,xL4,xL5,xL6],hbu,fun h => fu0 (mark_of (by decide) h),fun h => fu1 (mark_of (by decide) h),fun h => fu2 (mark_of (by decide) h),fun h => fu3 (mark_of (by decide) h),fun h => fu4 (mark_of (by decide) h),fun _ => rfl,fun h => fu6 (mark_of (by decide) h),fun h => fu7 (mark_of (by decide) h),fun h => fu8 (mark_of (by decide) h),fun h => fu9 (mark_of (by decide) h),fun h => fu10 (mark_of (by decide) h),fun h => fu11 (mark_of (by decide) h),fun h => fu12 (mark_of (by decide) h),fun h => fu13 (mark_of (by decide) h),fun h => fu14 (mark_of (by decide) h),fun h => fu15 (mark_of (by decide) h),fun h => fu16 (mark_of (by decide) h),fun h => fu17 (mark_of (by decide) h),fun h => fu18 (mark_of (by decide) h),fun h => fu19 (mark_of (by decide) h),fun h => fu20 (mark_of (by decide) h),fun h => fu21 (mark_of (by decide) h),fun h => fu22 (mark_of (by decide) h),fun h => fu23 (mark_of (by decide) h),fun h => fu24 (mark_of (by decide) h),fun h => fu25 (mark_of (by decide) h)⟩
        ·have eu5 := fu5 (dep_of 5 hru rfl (by kernel_rfl))
         replace eu5 := eu5.symm
         subst eu5
         refine wpOp_shut (by rfl) (fun K hK => ?_)
         simp only [Act.put,xL4,xL5,xL6]
         go_simp
         exact hK.out _ _ ⟨vu0,vu1,vu2,vu3,vu4,(.int .i64 (i : Int)),(.int .i64 (ip : Int)),vu7,vu8,vu9,vu10,vu11,vu12,vu13,vu14,vu15,vu16,vu17,vu18,vu19,vu20,vu21,vu22,vu23,vu24,vu25,by simp only [Act.put,xL4,xL5,xL6],hbu,fun h => fu0 (mark_of (by decide) h),fun h => fu1 (mark_of (by decide) h),fun h => fu2 (mark_of (by decide) h),fun h => fu3 (mark_of (by decide) h),fun h => fu4 (mark_of (by decide) h),fun _ => rfl,fun _ => rfl,fun h => fu7 (mark_of (by decide) h),fun h => fu8 (mark_of (by decide) h),fun h => fu9 (mark_of (by decide) h),fun h => fu10 (mark_of (by decide) h),fun h => fu11 (mark_of (by decide) h),fun h => fu12 (mark_of (by decide) h),fun h => fu13 (mark_of (by decide) h),fun h => fu14 (mark_of (by decide) h),fun h => fu15 (mark_of (by decide) h),fun h => fu16 (mark_of (by decide) h),fun h => fu17 (mark_of (by decide) h),fun h => fu18 (mark_of (by decide) h),fun h => fu19 (mark_of (by decide) h),fun h => fu20 (mark_of (by decide) h),fun h => fu21 (mark_of (by decide) h),fun h => fu22 (mark_of (by decide) h),fun h => fu23 (mark_of (by decide) h),fun h => fu24 (mark_of (by decide) h),fun h => fu25 (mark_of (by decide) h)⟩
        ·have eu4 := fu4 (dep_of 4 hru rfl (by kernel_rfl))
         have eu6 := fu6 (dep_of 6 hru rfl (by kernel_rfl))
         replace eu4 := eu4.symm
         subst eu4
         replace eu6 := eu6.symm
         subst eu6
         refine wpOp_shut (by rfl) (fun K hK => ?_)
         simp only [Act.put,xL4,xL5,xL6]
         go_simp
         exact hK.out _ _ ⟨vu0,vu1,vu2,vu3,(.slice (some ⟨g,0,none⟩) n c),vu5,(.int .i64 (ip : Int)),(.pointer (some ⟨g,ip * 3,none⟩)),vu8,vu9,vu10,vu11,vu12,vu13,vu14,vu15,vu16,vu17,vu18,vu19,vu20,vu21,vu22,vu23,vu24,vu25,by simp only [Act.put,xL4,xL5,xL6],hbu,fun h => fu0 (mark_of (by decide) h),fun h => fu1 (mark_of (by decide) h),fun h => fu2 (mark_of (by decide) h),fun h => fu3 (mark_of (by decide) h),fun _ => rfl,fun h => fu5 (mark_of (by decide) h),fun _ => rfl,fun _ => rfl,fun h => fu8 (mark_of (by decide) h),fun h => fu9 (mark_of (by decide) h),fun h => fu10 (mark_of (by decide) h),fun h => fu11 (mark_of (by decide) h),fun h => fu12 (mark_of (by decide) h),fun h => fu13 (mark_of (by decide) h),fun h => fu14 (mark_of (by decide) h),fun h => fu15 (mark_of (by decide) h),fun h => fu16 (mark_of (by decide) h),fun h => fu17 (mark_of (by decide) h),fun h => fu18 (mark_of (by decide) h),fun h => fu19 (mark_of (by decide) h),fun h => fu20 (mark_of (by decide) h),fun h => fu21 (mark_of (by decide) h),fun h => fu22 (mark_of (by decide) h),fun h => fu23 (mark_of (by decide) h),fun h => fu24 (mark_of (by decide) h),fun h => fu25 (mark_of (by decide) h)⟩
        ·have eu7 := fu7 (dep_of 7 hru rfl (by kernel_rfl))
         replace eu7 := eu7.symm
         subst eu7
         refine wpOp_shut (by rfl) (fun K hK => ?_)
         simp only [Act.put,xL4,xL5,xL6]
         obtain ⟨XP_0,XP_1,XP_2⟩ := XP.below hbu
         go_simp
         exact hK.out _ _ ⟨vu0,vu1,vu2,vu3,vu4,vu5,vu6,(.pointer (some ⟨g,ip * 3,none⟩)),(.agg #[.bool p5,.slice a5 n5 c5,.slice b5 m5 d5]),vu9,vu10,vu11,vu12,vu13,vu14,vu15,vu16,vu17,vu18,vu19,vu20,vu21,vu22,vu23,vu24,vu25,by simp only [Act.put,xL4,xL5,xL6],hbu,fun h => fu0 (mark_of (by decide) h),fun h => fu1 (mark_of (by decide) h),fun h => fu2 (mark_of (by decide) h),fun h => fu3 (mark_of (by decide) h),fun h => fu4 (mark_of (by decide) h),fun h => fu5 (mark_of (by decide) h),fun h => fu6 (mark_of (by decide) h),fun _ => rfl,fun _ => rfl,fun h => fu9 (mark_of (by decide) h),fun h => fu10 (mark_of (by decide) h),fun h => fu11 (mark_of (by decide) h),fun h => fu12 (mark_of (by decide) h),fun h => fu13 (mark_of (by decide) h),fun h => fu14 (mark_of (by decide) h),fun h => fu15 (mark_of (by decide) h),fun h => fu16 (mark_of (by decide) h),fun h => fu17 (mark_of (by decide) h),fun h => fu18 (mark_of (by decide) h),fun h => fu19 (mark_of (by decide) h),fun h => fu20 (mark_of (by decide) h),fun h => fu21 (mark_of (by decide) h),fun h => fu22 (mark_of (by decide) h),fun h => fu23 (mark_of (by decide) h),fun h => fu24 (mark_of (by decide) h),fun h => fu25 (mark_of (by decide) h)⟩
        ·have eu3 := fu3 (dep_of 3 hru rfl (by kernel_rfl))
         have eu8 := fu8 (dep_of 8 hru rfl (by kernel_rfl))
         replace eu3 := eu3.symm
         subst eu3
         replace eu8 := eu8.symm
         subst eu8
         refine wpOp_shut (by rfl) (fun K hK => ?_)
         simp only [Act.put,xL4,xL5,xL6]
         have ht := ht.below hbu
         have Ri := Ri.below hbu
         have Rp := Rp.below hbu
         go_simp
         refine (qsub_at _ _ si sp 600 _ (Ri.le (by omega)) (Rp.le (by omega)) (by omega) (by omega) ht).mono ?_
         rintro eu wx ⟨x9,rfl,h9,bu⟩
         go_wp2_with fail
         have hbu2 := hbu.trans (bu.mono hbu.size)
         exact hK.out _ _ ⟨vu0,vu1,vu2,(.agg #[.bool p4,.slice a4 n4 c4,.slice b4 m4 d4]),vu4,vu5,vu6,vu7,(.agg #[.bool p5,.slice a5 n5 c5,.slice b5 m5 d5]),_,vu10,vu11,vu12,vu13,vu14,vu15,vu16,vu17,vu18,vu19,vu20,vu21,vu22,vu23,vu24,vu25,by simp only [Act.put,xL4,xL5,xL6],hbu2,fun h => fu0 (mark_of (by decide) h),fun h => fu1 (mark_of (by decide) h),fun h => fu2 (mark_of (by decide) h),fun _ => rfl,fun h => fu4 (mark_of (by decide) h),fun h => fu5 (mark_of (by decide) h),fun h => fu6 (mark_of (by decide) h),fun h => fu7 (mark_of (by decide) h),fun _ => rfl,fun _ => h9,fun h => fu10 (mark_of (by decide) h),fun h => fu11 (mark_of (by decide) h),fun h => fu12 (mark_of (by decide) h),fun h => fu13 (mark_of (by decide) h),fun h => fu14 (mark_of (by decide) h),fun h => fu15 (mark_of (by decide) h),fun h => fu16 (mark_of (by decide) h),fun h => fu17 (mark_of (by decide) h),fun h => fu18 (mark_of (by decide) h),fun h => fu19 (mark_of (by decide) h),fun h => (fu20 (mark_of (by decide) h)).below bu,fun h => fu21 (mark_of (by decide) h),fun h => fu22 (mark_of (by decide) h),fun h => fu23 (mark_of (by decide) h),fun h => fu24 (mark_of (by decide) h),fun h => (fu25 (mark_of (by decide) h)).below bu⟩
        ·refine wpOp_shut (by rfl) (fun K hK => ?_)
         simp only [Act.put,xL4,xL5,xL6]
         go_simp
         exact hK.out _ _ ⟨vu0,vu1,vu2,vu3,vu4,vu5,vu6,vu7,vu8,vu9,(.slice (some ⟨b6,off,none⟩) n xc),vu11,vu12,vu13,vu14,vu15,vu16,vu17,vu18,vu19,vu20,vu21,vu22,vu23,vu24,vu25,by simp only [Act.put,xL4,xL5,xL6],hbu,fun h => fu0 (mark_of (by decide) h),fun h => fu1 (mark_of (by decide) h),fun h => fu2 (mark_of (by decide) h),fun h => fu3 (mark_of (by decide) h),fun h => fu4 (mark_of (by decide) h),fun h => fu5 (mark_of (by decide) h),fun h => fu6 (mark_of (by decide) h),fun h => fu7 (mark_of (by decide) h),fun h => fu8 (mark_of (by decide) h),fun h => fu9 (mark_of (by decide) h),fun _ => rfl,fun h => fu11 (mark_of (by decide) h),fun h => fu12 (mark_of (by decide) h),fun h => fu13 (mark_of (by decide) h),fun h => fu14 (mark_of (by decide) h),fun h => fu15 (mark_of (by decide) h),fun h => fu16 (mark_of (by decide) h),fun h => fu17 (mark_of (by decide) h),fun h => fu18 (mark_of (by decide) h),fun h => fu19 (mark_of (by decide) h),fun h => fu20 (mark_of (by decide) h),fun h => fu21 (mark_of (by decide) h),fun h => fu22 (mark_of (by decide) h),fun h => fu23 (mark_of (by decide) h),fun h => fu24 (mark_of (by decide) h),fun h => fu25 (mark_of (by decide) h)⟩
        ·refine wpOp_shut (by rfl) (fun K hK => ?_)
         simp only [Act.put,xL4,xL5,xL6]
         go_simp
         exact hK.out _ _ ⟨vu0,vu1,vu2,vu3,vu4,vu5,vu6,vu7,vu8,vu9,vu10,(.int .i64 (i : Int)),vu12,vu13,vu14,vu15,vu16,vu17,vu18,vu19,vu20,vu21,vu22,vu23,vu24,vu25,by simp only [Act.put,xL4,xL5,xL6],hbu,fun h => fu0 (mark_of (by decide) h),fun h => fu1 (mark_of (by decide) h),fun h => fu2 (mark_of (by decide) h),fun h => fu3 (mark_of (by decide) h),fun h => fu4 (mark_of (by decide) h),fun h => fu5 (mark_of (by decide) h),fun h => fu6 (mark_of (by decide) h),fun h => fu7 (mark_of (by decide) h),fun h => fu8 (mark_of (by decide) h),fun h => fu9 (mark_of (by decide) h),fun h => fu10 (mark_of (by decide) h),fun _ => rfl,fun h => fu12 (mark_of (by decide) h),fun h => fu13 (mark_of (by decide) h),fun h => fu14 (mark_of (by decide) h),fun h => fu15 (mark_of (by decide) h),fun h => fu16 (mark_of (by decide) h),fun h => fu17 (mark_of (by decide) h),fun h => fu18 (mark_of (by decide) h),fun h => fu19 (mark_of (by decide) h),fun h => fu20 (mark_of (by decide) h),fun h => fu21 (mark_of (by decide) h),fun h => fu22 (mark_of (by decide) h),fun h => fu23 (mark_of (by decide) h),fun h => fu24 (mark_of (by decide) h),fun h => fu25 (mark_of (by decide) h)⟩
        ·have eu10 := fu10 (dep_of 10 hru rfl (by kernel_rfl))
         have eu11 := fu11 (dep_of 11 hru rfl (by kernel_rfl))
         replace eu10 := eu10.symm
         subst eu10
         replace eu11 := eu11.symm
         subst eu11
         refine wpOp_shut (by rfl) (fun K hK => ?_)
         simp only [Act.put,xL4,xL5,xL6]
         go_simp
         exact hK.out _ _ ⟨vu0,vu1,vu2,vu3,vu4,vu5,vu6,vu7,vu8,vu9,(.slice (some ⟨b6,off,none⟩) n xc),(.int .i64 (i : Int)),(.pointer (some ⟨b6,off + i * 3,none⟩)),vu13,vu14,vu15,vu16,vu17,vu18,vu19,vu20,vu21,vu22,vu23,vu24,vu25,by simp only [Act.put,xL4,xL5,xL6],hbu,fun h => fu0 (mark_of (by decide) h),fun h => fu1 (mark_of (by decide) h),fun h => fu2 (mark_of (by decide) h),fun h => fu3 (mark_of (by decide) h),fun h => fu4 (mark_of (by decide) h),fun h => fu5 (mark_of (by decide) h),fun h => fu6 (mark_of (by decide) h),fun h => fu7 (mark_of (by decide) h),fun h => fu8 (mark_of (by decide) h),fun h => fu9 (mark_of (by decide) h),fun _ => rfl,fun _ => rfl,fun _ => rfl,fun h => fu13 (mark_of (by decide) h),fun h => fu14 (mark_of (by decide) h),fun h => fu15 (mark_of (by decide) h),fun h => fu16 (mark_of (by decide) h),fun h => fu17 (mark_of (by decide) h),fun h => fu18 (mark_of (by decide) h),fun h => fu19 (mark_of (by decide) h),fun h => fu20 (mark_of (by decide) h),fun h => fu21 (mark_of (by decide) h),fun h => fu22 (mark_of (by decide) h),fun h => fu23 (mark_of (by decide) h),fun h => fu24 (mark_of (by decide) h),fun h => fu25 (mark_of (by decide) h)⟩
        ·have eu12 := fu12 (dep_of 12 hru rfl (by kernel_rfl))
         replace eu12 := eu12.symm
         subst eu12
         refine wpOp_shut (by rfl) (fun K hK => ?_)
         simp only [Act.put,xL4,xL5,xL6]
         obtain ⟨XA_0,XA_1,XA_2⟩ := XA.below hbu
         go_simp
         exact hK.out _ _ ⟨vu0,vu1,vu2,vu3,vu4,vu5,vu6,vu7,vu8,vu9,vu10,vu11,(.pointer (some ⟨b6,off + i * 3,none⟩)),(.agg #[.bool p6,.slice a6 n6 c6,.slice bo6 m6 d6]),vu14,vu15,vu16,vu17,vu18,vu19,vu20,vu21,vu22,vu23,vu24,vu25,by simp only [Act.put,xL4,xL5,xL6],hbu,fun h => fu0 (mark_of (by decide) h),fun h => fu1 (mark_of (by decide) h),fun h => fu2 (mark_of (by decide) h),fun h => fu3 (mark_of (by decide) h),fun h => fu4 (mark_of (by decide) h),fun h => fu5 (mark_of (by decide) h),fun h => fu6 (mark_of (by decide) h),fun h => fu7 (mark_of (by decide) h),fun h => fu8 (mark_of (by decide) h),fun h => fu9 (mark_of (by decide) h),fun h => fu10 (mark_of (by decide) h),fun h => fu11 (mark_of (by decide) h),fun _ => rfl,fun _ => rfl,fun h => fu14 (mark_of (by decide) h),fun h => fu15 (mark_of (by decide) h),fun h => fu16 (mark_of (by decide) h),fun h => fu17 (mark_of (by decide) h),fun h => fu18 (mark_of (by decide) h),fun h => fu19 (mark_of (by decide) h),fun h => fu20 (mark_of (by decide) h),fun h => fu21 (mark_of (by decide) h),fun h => fu22 (mark_of (by decide) h),fun h => fu23 (mark_of (by decide) h),fun h => fu24 (mark_of (by decide) h),fun h => fu25 (mark_of (by decide) h)⟩
        ·refine wpOp_shut (by rfl) (fun K hK => ?_)
         simp only [Act.put,xL4,xL5,xL6]
         go_simp
         exact hK.out _ _ ⟨vu0,vu1,vu2,vu3,vu4,vu5,vu6,vu7,vu8,vu9,vu10,vu11,vu12,vu13,(.slice (some ⟨b6,off,none⟩) n xc),vu15,vu16,vu17,vu18,vu19,vu20,vu21,vu22,vu23,vu24,vu25,by simp only [Act.put,xL4,xL5,xL6],hbu,fun h => fu0 (mark_of (by decide) h),fun h => fu1 (mark_of (by decide) h),fun h => fu2 (mark_of (by decide) h),fun h => fu3 (mark_of (by decide) h),fun h => fu4 (mark_of (by decide) h),fun h => fu5 (mark_of (by decide) h),fun h => fu6 (mark_of (by decide) h),fun h => fu7 (mark_of (by decide) h),fun h => fu8 (mark_of (by decide) h),fun h => fu9 (mark_of (by decide) h),fun h => fu10 (mark_of (by decide) h),fun h => fu11 (mark_of (by decide) h),fun h => fu12 (mark_of (by decide) h),fun h => fu13 (mark_of (by decide) h),fun _ => rfl,fun h => fu15 (mark_of (by decide) h),fun h => fu16 (mark_of (by decide) h),fun h => fu17 (mark_of (by decide) h),fun h => fu18 (mark_of (by decide) h),fun h => fu19 (mark_of (by decide) h),fun h => fu20 (mark_of (by decide) h),fun h => fu21 (mark_of (by decide) h),fun h => fu22 (mark_of (by decide) h),fun h => fu23 (mark_of (by decide) h),fun h => fu24 (mark_of (by decide) h),fun h => fu25 (mark_of (by decide) h)⟩
        ·refine wpOp_shut (by rfl) (fun K hK => ?_)
         simp only [Act.put,xL4,xL5,xL6]
         go_simp
         exact hK.out _ _ ⟨vu0,vu1,vu2,vu3,vu4,vu5,vu6,vu7,vu8,vu9,vu10,vu11,vu12,vu13,vu14,(.int .i64 (i : Int)),vu16,vu17,vu18,vu19,vu20,vu21,vu22,vu23,vu24,vu25,by simp only [Act.put,xL4,xL5,xL6],hbu,fun h => fu0 (mark_of (by decide) h),fun h => fu1 (mark_of (by decide) h),fun h => fu2 (mark_of (by decide) h),fun h => fu3 (mark_of (by decide) h),fun h => fu4 (mark_of (by decide) h),fun h => fu5 (mark_of (by decide) h),fun h => fu6 (mark_of (by decide) h),fun h => fu7 (mark_of (by decide) h),fun h => fu8 (mark_of (by decide) h),fun h => fu9 (mark_of (by decide) h),fun h => fu10 (mark_of (by decide) h),fun h => fu11 (mark_of (by decide) h),fun h => fu12 (mark_of (by decide) h),fun h => fu13 (mark_of (by decide) h),fun h => fu14 (mark_of (by decide) h),fun _ => rfl,fun h => fu16 (mark_of (by decide) h),fun h => fu17 (mark_of (by decide) h),fun h => fu18 (mark_of (by decide) h),fun h => fu19 (mark_of (by decide) h),fun h => fu20 (mark_of (by decide) h),fun h => fu21 (mark_of (by decide) h),fun h => fu22 (mark_of (by decide) h),fun h => fu23 (mark_of (by decide) h),fun h => fu24 (mark_of (by decide) h),fun h => fu25 (mark_of (by decide) h)⟩
        ·refine wpOp_shut (by rfl) (fun K hK => ?_)
         simp only [Act.put,xL4,xL5,xL6]
         go_simp
         exact hK.out _ _ ⟨vu0,vu1,vu2,vu3,vu4,vu5,vu6,vu7,vu8,vu9,vu10,vu11,vu12,vu13,vu14,vu15,(.int .i64 (b1 : Int)),vu17,vu18,vu19,vu20,vu21,vu22,vu23,vu24,vu25,by simp only [Act.put,xL4,xL5,xL6],hbu,fun h => fu0 (mark_of (by decide) h),fun h => fu1 (mark_of (by decide) h),fun h => fu2 (mark_of (by decide) h),fun h => fu3 (mark_of (by decide) h),fun h => fu4 (mark_of (by decide) h),fun h => fu5 (mark_of (by decide) h),fun h => fu6 (mark_of (by decide) h),fun h => fu7 (mark_of (by decide) h),fun h => fu8 (mark_of (by decide) h),fun h => fu9 (mark_of (by decide) h),fun h => fu10 (mark_of (by decide) h),fun h => fu11 (mark_of (by decide) h),fun h => fu12 (mark_of (by decide) h),fun h => fu13 (mark_of (by decide) h),fun h => fu14 (mark_of (by decide) h),fun h => fu15 (mark_of (by decide) h),fun _ => rfl,fun h => fu17 (mark_of (by decide) h),fun h => fu18 (mark_of (by decide) h),fun h => fu19 (mark_of (by decide) h),fun h => fu20 (mark_of (by decide) h),fun h => fu21 (mark_of (by decide) h),fun h => fu22 (mark_of (by decide) h),fun h => fu23 (mark_of (by decide) h),fun h => fu24 (mark_of (by decide) h),fun h => fu25 (mark_of (by decide) h)⟩
        ·have eu15 := fu15 (dep_of 15 hru rfl (by kernel_rfl))
         have eu16 := fu16 (dep_of 16 hru rfl (by kernel_rfl))
         replace eu15 := eu15.symm
         subst eu15
         replace eu16 := eu16.symm
         subst eu16
         refine wpOp_shut (by rfl) (fun K hK => ?_)
         simp only [Act.put,xL4,xL5,xL6]
         go_simp
         exact hK.out _ _ ⟨vu0,vu1,vu2,vu3,vu4,vu5,vu6,vu7,vu8,vu9,vu10,vu11,vu12,vu13,vu14,(.int .i64 (i : Int)),(.int .i64 (b1 : Int)),(.int .i64 (ia : Int)),vu18,vu19,vu20,vu21,vu22,vu23,vu24,vu25,by simp only [Act.put,xL4,xL5,xL6],hbu,fun h => fu0 (mark_of (by decide) h),fun h => fu1 (mark_of (by decide) h),fun h => fu2 (mark_of (by decide) h),fun h => fu3 (mark_of (by decide) h),fun h => fu4 (mark_of (by decide) h),fun h => fu5 (mark_of (by decide) h),fun h => fu6 (mark_of (by decide) h),fun h => fu7 (mark_of (by decide) h),fun h => fu8 (mark_of (by decide) h),fun h => fu9 (mark_of (by decide) h),fun h => fu10 (mark_of (by decide) h),fun h => fu11 (mark_of (by decide) h),fun h => fu12 (mark_of (by decide) h),fun h => fu13 (mark_of (by decide) h),fun h => fu14 (mark_of (by decide) h),fun _ => rfl,fun _ => rfl,fun _ => rfl,fun h => fu18 (mark_of (by decide) h),fun h => fu19 (mark_of (by decide) h),fun h => fu20 (mark_of (by decide) h),fun h => fu21 (mark_of (by decide) h),fun h => fu22 (mark_of (by decide) h),fun h => fu23 (mark_of (by decide) h),fun h => fu24 (mark_of (by decide) h),fun h => fu25 (mark_of (by decide) h)⟩
        ·have eu14 := fu14 (dep_of 14 hru rfl (by kernel_rfl))
         have eu17 := fu17 (dep_of 17 hru rfl (by kernel_rfl))
         replace eu14 := eu14.symm
         subst eu14
         replace eu17 := eu17.symm
         subst eu17
         refine wpOp_shut (by rfl) (fun K hK => ?_)
         simp only [Act.put,xL4,xL5,xL6]
         go_simp
         exact hK.out _ _ ⟨vu0,vu1,vu2,vu3,vu4,vu5,vu6,vu7,vu8,vu9,vu10,vu11,vu12,vu13,(.slice (some ⟨b6,off,none⟩) n xc),vu15,vu16,(.int .i64 (ia : Int)),(.pointer (some ⟨b6,off + ia * 3,none⟩)),vu19,vu20,vu21,vu22,vu23,vu24,vu25,by simp only [Act.put,xL4,xL5,xL6],hbu,fun h => fu0 (mark_of (by decide) h),fun h => fu1 (mark_of (by decide) h),fun h => fu2 (mark_of (by decide) h),fun h => fu3 (mark_of (by decide) h),fun h => fu4 (mark_of (by decide) h),fun h => fu5 (mark_of (by decide) h),fun h => fu6 (mark_of (by decide) h),fun h => fu7 (mark_of (by decide) h),fun h => fu8 (mark_of (by decide) h),fun h => fu9 (mark_of (by decide) h),fun h => fu10 (mark_of (by decide) h),fun h => fu11 (mark_of (by decide) h),fun h => fu12 (mark_of (by decide) h),fun h => fu13 (mark_of (by decide) h),fun _ => rfl,fun h => fu15 (mark_of (by decide) h),fun h => fu16 (mark_of (by decide) h),fun _ => rfl,fun _ => rfl,fun h => fu19 (mark_of (by decide) h),fun h => fu20 (mark_of (by decide) h),fun h => fu21 (mark_of (by decide) h),fun h => fu22 (mark_of (by decide) h),fun h => fu23 (mark_of (by decide) h),fun h => fu24 (mark_of (by decide) h),fun h => fu25 (mark_of (by decide) h)⟩
        ·have eu18 := fu18 (dep_of 18 hru rfl (by kernel_rfl))
         replace eu18 := eu18.symm
         subst eu18
         refine wpOp_shut (by rfl) (fun K hK => ?_)
         simp only [Act.put,xL4,xL5,xL6]
         obtain ⟨XB_0,XB_1,XB_2⟩ := XB.below hbu
         go_simp
         exact hK.out _ _ ⟨vu0,vu1,vu2,vu3,vu4,vu5,vu6,vu7,vu8,vu9,vu10,vu11,vu12,vu13,vu14,vu15,vu16,vu17,(.pointer (some ⟨b6,off + ia * 3,none⟩)),(.agg #[.bool p7,.slice a7 n7 c7,.slice bo7 m7 d7]),vu20,vu21,vu22,vu23,vu24,vu25,by simp only [Act.put,xL4,xL5,xL6],hbu,fun h => fu0 (mark_of (by decide) h),fun h => fu1 (mark_of (by decide) h),fun h => fu2 (mark_of (by decide) h),fun h => fu3 (mark_of (by decide) h),fun h => fu4 (mark_of (by decide) h),fun h => fu5 (mark_of (by decide) h),fun h => fu6 (mark_of (by decide) h),fun h => fu7 (mark_of (by decide) h),fun h => fu8 (mark_of (by decide) h),fun h => fu9 (mark_of (by decide) h),fun h => fu10 (mark_of (by decide) h),fun h => fu11 (mark_of (by decide) h),fun h => fu12 (mark_of (by decide) h),fun h => fu13 (mark_of (by decide) h),fun h => fu14 (mark_of (by decide) h),fun h => fu15 (mark_of (by decide) h),fun h => fu16 (mark_of (by decide) h),fun h => fu17 (mark_of (by decide) h),fun _ => rfl,fun _ => rfl,fun h => fu20 (mark_of (by decide) h),fun h => fu21 (mark_of (by decide) h),fun h => fu22 (mark_of (by decide) h),fun h => fu23 (mark_of (by decide) h),fun h => fu24 (mark_of (by decide) h),fun h => fu25 (mark_of (by decide) h)⟩
        ·have eu13 := fu13 (dep_of 13 hru rfl (by kernel_rfl))
         have eu19 := fu19 (dep_of 19 hru rfl (by kernel_rfl))
         replace eu13 := eu13.symm
         subst eu13
         replace eu19 := eu19.symm
         subst eu19
         have h9 := fu9 (dep_of 9 hru rfl (by kernel_rfl))
         refine wpOp_shut (by rfl) (fun K hK => ?_)
         simp only [Act.put,xL4,xL5,xL6]
         have ht := ht.below hbu
         have Ha := Ha.below hbu
         have Hb := Hb.below hbu
         go_simp
         refine (qsub_at _ _ (x i) (x ia) 2 _ Ha Hb (by omega) (by omega) ht).mono ?_
         rintro eu wx ⟨x20,rfl,h20,bu⟩
         go_wp2_with fail
         have hbu2 := hbu.trans (bu.mono hbu.size)
         exact hK.out _ _ ⟨vu0,vu1,vu2,vu3,vu4,vu5,vu6,vu7,vu8,vu9,vu10,vu11,vu12,(.agg #[.bool p6,.slice a6 n6 c6,.slice bo6 m6 d6]),vu14,vu15,vu16,vu17,vu18,(.agg #[.bool p7,.slice a7 n7 c7,.slice bo7 m7 d7]),_,vu21,vu22,vu23,vu24,vu25,by simp only [Act.put,xL4,xL5,xL6],hbu2,fun h => fu0 (mark_of (by decide) h),fun h => fu1 (mark_of (by decide) h),fun h => fu2 (mark_of (by decide) h),fun h => fu3 (mark_of (by decide) h),fun h => fu4 (mark_of (by decide) h),fun h => fu5 (mark_of (by decide) h),fun h => fu6 (mark_of (by decide) h),fun h => fu7 (mark_of (by decide) h),fun h => fu8 (mark_of (by decide) h),fun h => (fu9 (mark_of (by decide) h)).below bu,fun h => fu10 (mark_of (by decide) h),fun h => fu11 (mark_of (by decide) h),fun h => fu12 (mark_of (by decide) h),fun _ => rfl,fun h => fu14 (mark_of (by decide) h),fun h => fu15 (mark_of (by decide) h),fun h => fu16 (mark_of (by decide) h),fun h => fu17 (mark_of (by decide) h),fun h => fu18 (mark_of (by decide) h),fun _ => rfl,fun _ => h20,fun h => fu21 (mark_of (by decide) h),fun h => fu22 (mark_of (by decide) h),fun h => fu23 (mark_of (by decide) h),fun h => fu24 (mark_of (by decide) h),fun h => (fu25 (mark_of (by decide) h)).below bu⟩
        ·have h9 := fu9 (dep_of 9 hru rfl (by kernel_rfl))
         have h20 := fu20 (dep_of 20 hru rfl (by kernel_rfl))
         refine wpOp_shut (by rfl) (fun K hK => ?_)
         simp only [Act.put,xL4,xL5,xL6]
         have ht := ht.below hbu
         go_simp
         refine (qdiv_zero _ _ (si - sp) (x i - x ia) 2000 _ (h9.at _ (Nat.le_trans SD1 (by omega))) (h20.at _ (Nat.le_trans SD2 (by omega))) (by omega) (by omega) ht hxx).mono ?_
         rintro eu wx ⟨rfl,bu⟩
         go_wp2_with fail
         have hbu2 := hbu.trans (bu.mono hbu.size)
         exact hK.out _ _ ⟨vu0,vu1,vu2,vu3,vu4,vu5,vu6,vu7,vu8,vu9,vu10,vu11,vu12,vu13,vu14,vu15,vu16,vu17,vu18,vu19,vu20,(.tuple #[.agg #[.bool false,.slice none 0 0,.slice none 0 0],.int .i64 2]),vu22,vu23,vu24,vu25,by simp only [Act.put,xL4,xL5,xL6],hbu2,fun h => fu0 (mark_of (by decide) h),fun h => fu1 (mark_of (by decide) h),fun h => fu2 (mark_of (by decide) h),fun h => fu3 (mark_of (by decide) h),fun h => fu4 (mark_of (by decide) h),fun h => fu5 (mark_of (by decide) h),fun h => fu6 (mark_of (by decide) h),fun h => fu7 (mark_of (by decide) h),fun h => fu8 (mark_of (by decide) h),fun h => (fu9 (mark_of (by decide) h)).below bu,fun h => fu10 (mark_of (by decide) h),fun h => fu11 (mark_of (by decide) h),fun h => fu12 (mark_of (by decide) h),fun h => fu13 (mark_of (by decide) h),fun h => fu14 (mark_of (by decide) h),fun h => fu15 (mark_of (by decide) h),fun h => fu16 (mark_of (by decide) h),fun h => fu17 (mark_of (by decide) h),fun h => fu18 (mark_of (by decide) h),fun h => fu19 (mark_of (by decide) h),fun h => (fu20 (mark_of (by decide) h)).below bu,fun _ => rfl,fun h => fu22 (mark_of (by decide) h),fun h => fu23 (mark_of (by decide) h),fun h => fu24 (mark_of (by decide) h),fun h => (fu25 (mark_of (by decide) h)).below bu⟩
        ·have eu21 := fu21 (dep_of 21 hru rfl (by kernel_rfl))
         replace eu21 := eu21.symm
         subst eu21
         refine wpOp_shut (by rfl) (fun K hK => ?_)
         simp only [Act.put,xL4,xL5,xL6]
         go_simp
         exact hK.out _ _ ⟨vu0,vu1,vu2,vu3,vu4,vu5,vu6,vu7,vu8,vu9,vu10,vu11,vu12,vu13,vu14,vu15,vu16,vu17,vu18,vu19,vu20,(.tuple #[.agg #[.bool false,.slice none 0 0,.slice none 0 0],.int .i64 2]),(.tuple #[.agg #[.bool false,.slice none 0 0,.slice none 0 0],.int .i64 2]),vu23,vu24,vu25,by simp only [Act.put,xL4,xL5,xL6],hbu,fun h => fu0 (mark_of (by decide) h),fun h => fu1 (mark_of (by decide) h),fun h => fu2 (mark_of (by decide) h),fun h => fu3 (mark_of (by decide) h),fun h => fu4 (mark_of (by decide) h),fun h => fu5 (mark_of (by decide) h),fun h => fu6 (mark_of (by decide) h),fun h => fu7 (mark_of (by decide) h),fun h => fu8 (mark_of (by decide) h),fun h => fu9 (mark_of (by decide) h),fun h => fu10 (mark_of (by decide) h),fun h => fu11 (mark_of (by decide) h),fun h => fu12 (mark_of (by decide) h),fun h => fu13 (mark_of (by decide) h),fun h => fu14 (mark_of (by decide) h),fun h => fu15 (mark_of (by decide) h),fun h => fu16 (mark_of (by decide) h),fun h => fu17 (mark_of (by decide) h),fun h => fu18 (mark_of (by decide) h),fun h => fu19 (mark_of (by decide) h),fun h => fu20 (mark_of (by decide) h),fun _ => rfl,fun _ => rfl,fun h => fu23 (mark_of (by decide) h),fun h => fu24 (mark_of (by decide) h),fun h => fu25 (mark_of (by decide) h)⟩
        ·have eu22 := fu22 (dep_of 22 hru rfl (by kernel_rfl))
         replace eu22 := eu22.symm
         subst eu22
         refine wpOp_shut (by rfl) (fun K hK => ?_)
         simp only [Act.put,xL4,xL5,xL6]
         go_simp
         exact hK.out _ _ ⟨vu0,vu1,vu2,vu3,vu4,vu5,vu6,vu7,vu8,vu9,vu10,vu11,vu12,vu13,vu14,vu15,vu16,vu17,vu18,vu19,vu20,vu21,(.tuple #[.agg #[.bool false,.slice none 0 0,.slice none 0 0],.int .i64 2]),(.agg #[.bool false,.slice none 0 0,.slice none 0 0]),vu24,vu25,by simp only [Act.put,xL4,xL5,xL6],hbu,fun h => fu0 (mark_of (by decide) h),fun h => fu1 (mark_of (by decide) h),fun h => fu2 (mark_of (by decide) h),fun h => fu3 (mark_of (by decide) h),fun h => fu4 (mark_of (by decide) h),fun h => fu5 (mark_of (by decide) h),fun h => fu6 (mark_of (by decide) h),fun h => fu7 (mark_of (by decide) h),fun h => fu8 (mark_of (by decide) h),fun h => fu9 (mark_of (by decide) h),fun h => fu10 (mark_of (by decide) h),fun h => fu11 (mark_of (by decide) h),fun h => fu12 (mark_of (by decide) h),fun h => fu13 (mark_of (by decide) h),fun h => fu14 (mark_of (by decide) h),fun h => fu15 (mark_of (by decide) h),fun h => fu16 (mark_of (by decide) h),fun h => fu17 (mark_of (by decide) h),fun h => fu18 (mark_of (by decide) h),fun h => fu19 (mark_of (by decide) h),fun h => fu20 (mark_of (by decide) h),fun h => fu21 (mark_of (by decide) h),fun _ => rfl,fun _ => rfl,fun h => fu24 (mark_of (by decide) h),fun h => fu25 (mark_of (by decide) h)⟩
        ·have eu22 := fu22 (dep_of 22 hru rfl (by kernel_rfl))
         replace eu22 := eu22.symm
         subst eu22
         refine wpOp_shut (by rfl) (fun K hK => ?_)
         simp only [Act.put,xL4,xL5,xL6]
         go_simp
         exact hK.out _ _ ⟨vu0,vu1,vu2,vu3,vu4,vu5,vu6,vu7,vu8,vu9,vu10,vu11,vu12,vu13,vu14,vu15,vu16,vu17,vu18,vu19,vu20,vu21,(.tuple #[.agg #[.bool false,.slice none 0 0,.slice none 0 0],.int .i64 2]),vu23,(.int .i64 2),vu25,by simp only [Act.put,xL4,xL5,xL6],hbu,fun h => fu0 (mark_of (by decide) h),fun h => fu1 (mark_of (by decide) h),fun h => fu2 (mark_of (by decide) h),fun h => fu3 (mark_of (by decide) h),fun h => fu4 (mark_of (by decide) h),fun h => fu5 (mark_of (by decide) h),fun h => fu6 (mark_of (by decide) h),fun h => fu7 (mark_of (by decide) h),fun h => fu8 (mark_of (by decide) h),fun h => fu9 (mark_of (by decide) h),fun h => fu10 (mark_of (by decide) h),fun h => fu11 (mark_of (by decide) h),fun h => fu12 (mark_of (by decide) h),fun h => fu13 (mark_of (by decide) h),fun h => fu14 (mark_of (by decide) h),fun h => fu15 (mark_of (by decide) h),fun h => fu16 (mark_of (by decide) h),fun h => fu17 (mark_of (by decide) h),fun h => fu18 (mark_of (by decide) h),fun h => fu19 (mark_of (by decide) h),fun h => fu20 (mark_of (by decide) h),fun h => fu21 (mark_of (by decide) h),fun _ => rfl,fun h => fu23 (mark_of (by decide) h),fun _ => rfl,fun h => fu25 (mark_of (by decide) h)⟩
        ·refine wpOp_shut (by rfl) (fun K hK => ?_)
         simp only [Act.put,xL4,xL5,xL6]
         go_simp
         obtain ⟨wx,hWx,hSx,bu,VXu⟩ := V3.lay wn 35 (.bool false) (.slice none 0 0) (.slice none 0 0)
         rw [← hWx]
         have hbu2 := hbu.trans (bu.mono hbu.size)
         exact hK.out _ _ ⟨vu0,vu1,vu2,vu3,vu4,vu5,vu6,vu7,vu8,vu9,vu10,vu11,vu12,vu13,vu14,vu15,vu16,vu17,vu18,vu19,vu20,vu21,vu22,vu23,vu24,_,by simp only [Act.put,xL4,xL5,xL6],hbu2,fun h => fu0 (mark_of (by decide) h),fun h => fu1 (mark_of (by decide) h),fun h => fu2 (mark_of (by decide) h),fun h => fu3 (mark_of (by decide) h),fun h => fu4 (mark_of (by decide) h),fun h => fu5 (mark_of (by decide) h),fun h => fu6 (mark_of (by decide) h),fun h => fu7 (mark_of (by decide) h),fun h => fu8 (mark_of (by decide) h),fun h => (fu9 (mark_of (by decide) h)).below bu,fun h => fu10 (mark_of (by decide) h),fun h => fu11 (mark_of (by decide) h),fun h => fu12 (mark_of (by decide) h),fun h => fu13 (mark_of (by decide) h),fun h => fu14 (mark_of (by decide) h),fun h => fu15 (mark_of (by decide) h),fun h => fu16 (mark_of (by decide) h),fun h => fu17 (mark_of (by decide) h),fun h => fu18 (mark_of (by decide) h),fun h => fu19 (mark_of (by decide) h),fun h => (fu20 (mark_of (by decide) h)).below bu,fun h => fu21 (mark_of (by decide) h),fun h => fu22 (mark_of (by decide) h),fun h => fu23 (mark_of (by decide) h),fun h => fu24 (mark_of (by decide) h),fun _ => ⟨_,rfl,hbu.size,VXu⟩⟩
       ·rintro au wn ⟨vu0,vu1,vu2,vu3,vu4,vu5,vu6,vu7,vu8,vu9,vu10,vu11,vu12,vu13,vu14,vu15,vu16,vu17,vu18,vu19,vu20,vu21,vu22,vu23,vu24,vu25,rfl,hbu,fu0,fu1,fu2,fu3,fu4,fu5,fu6,fu7,fu8,fu9,fu10,fu11,fu12,fu13,fu14,fu15,fu16,fu17,fu18,fu19,fu20,fu21,fu22,fu23,fu24,fu25⟩ hfin
        simp only [Act.put,xL4,xL5,xL6]
        refine wpAnyH_take (i := 24) (v := .int .i64 2) (by simp only [xL1,xL2,xL3]; rfl) (by kernel_rfl) (by kernel_rfl) (by kernel_rfl) (by exact fun _ _ _ h => h) (Or.inl ⟨by rfl,?_⟩) trivial ?_
        ·(intro w hSw; go_simp; (try with_reducible rfl))
        simp only [Act.put,xL4,xL5,xL6]
        exact hfin _ _ ⟨vu0,vu1,vu2,vu3,vu4,vu5,vu6,vu7,vu8,vu9,vu10,vu11,vu12,vu13,vu14,vu15,vu16,vu17,vu18,vu19,vu20,vu21,vu22,vu23,(.int .i64 2),vu25,by simp only [Act.put,xL4,xL5,xL6],hbu,fun _ => fu0 rfl,fun _ => fu1 rfl,fun _ => fu2 rfl,fun _ => fu3 rfl,fun _ => fu4 rfl,fun _ => fu5 rfl,fun _ => fu6 rfl,fun _ => fu7 rfl,fun _ => fu8 rfl,fun _ => fu9 rfl,fun _ => fu10 rfl,fun _ => fu11 rfl,fun _ => fu12 rfl,fun _ => fu13 rfl,fun _ => fu14 rfl,fun _ => fu15 rfl,fun _ => fu16 rfl,fun _ => fu17 rfl,fun _ => fu18 rfl,fun _ => fu19 rfl,fun _ => fu20 rfl,fun _ => fu21 rfl,fun _ => fu22 rfl,fun _ => fu23 rfl,fun _ => rfl,fun _ => fu25 rfl⟩
       rintro au Wu1 ⟨vu0,vu1,vu2,vu3,vu4,vu5,vu6,vu7,vu8,vu9,vu10,vu11,vu12,vu13,vu14,vu15,vu16,vu17,vu18,vu19,vu20,vu21,vu22,vu23,vu24,vu25,rfl,hbu,fu0,fu1,fu2,fu3,fu4,fu5,fu6,fu7,fu8,fu9,fu10,fu11,fu12,fu13,fu14,fu15,fu16,fu17,fu18,fu19,fu20,fu21,fu22,fu23,fu24,fu25⟩
       have eu0 := (fu0 rfl).symm
       subst eu0
       have eu1 := (fu1 rfl).symm
       subst eu1
       have eu2 := (fu2 rfl).symm
       subst eu2
       have eu3 := (fu3 rfl).symm
       subst eu3
       have eu4 := (fu4 rfl).symm
       subst eu4
       have eu5 := (fu5 rfl).symm
       subst eu5
       have eu6 := (fu6 rfl).symm
       subst eu6
       have eu7 := (fu7 rfl).symm
       subst eu7
       have eu8 := (fu8 rfl).symm
       subst eu8
       have h9 := fu9 rfl
       have eu10 := (fu10 rfl).symm
       subst eu10
       have eu11 := (fu11 rfl).symm
       subst eu11
       have eu12 := (fu12 rfl).symm
       subst eu12
       have eu13 := (fu13 rfl).symm
       subst eu13
       have eu14 := (fu14 rfl).symm
       subst eu14
       have eu15 := (fu15 rfl).symm
       subst eu15
       have eu16 := (fu16 rfl).symm
       subst eu16
       have eu17 := (fu17 rfl).symm
       subst eu17
       have eu18 := (fu18 rfl).symm
       subst eu18
       have eu19 := (fu19 rfl).symm
       subst eu19
       have h20 := fu20 rfl
       have eu21 := (fu21 rfl).symm
       subst eu21
       have eu22 := (fu22 rfl).symm
       subst eu22
       have eu23 := (fu23 rfl).symm
       subst eu23
       have eu24 := (fu24 rfl).symm
       subst eu24
       obtain ⟨RVE,rfl,hRVE,VE⟩ := fu25 rfl
       clear fu0 fu1 fu2 fu3 fu4 fu5 fu6 fu7 fu8 fu9 fu10 fu11 fu12 fu13 fu14 fu15 fu16 fu17 fu18 fu19 fu20 fu21 fu22 fu23 fu24 fu25
       have hlXI : g < wr.heap.size := XI.lt
       have hlXP : g < wr.heap.size := XP.lt
       have hlXA : b6 < wr.heap.size := XA.lt
       have hlXB : b6 < wr.heap.size := XB.lt
       simp only [Act.put,xL4,xL5,xL6]
       refine xR [26] (h := ?_)
       refine AllReadyH.cons (by rfl) (fun K hK => ?_) AllReadyH.nil
       have hKp := VE.keepJ (.bool false) (.slice none 0 0) (.slice none 0 0)
       have VE_n := VE.same (.bool false) (.slice none 0 0) (.slice none 0 0)
       have h9_n := h9.keep hKp
       have h20_n := h20.keep hKp
       have hbu_n := below_store3 (R := RVE) hbu (by omega) (.bool false) (.slice none 0 0) (.slice none 0 0)
       clear hKp
       obtain ⟨VE_0,VE_1,VE_2,VE_3,VE_4,VE_5⟩ := id VE
       go_simp
       clear VE_0 VE_1 VE_2 VE_3 VE_4 VE_5
       clear hbu h9 h20 VE
       generalize ((Wu1.setCell ⟨RVE,0,none⟩ (.bool false)).setCell ⟨RVE,1,none⟩ (.slice none 0 0)).setCell ⟨RVE,2,none⟩ (.slice none 0 0) = W2 at *
       have hbu := hbu_n
       have h9 := h9_n
       have h20 := h20_n
       have VE := VE_n
       clear hbu_n h9_n h20_n VE_n
       refine hK.out _ _ trivial (fun _ => ?_)
       clear hK K
       simp only [Act.put,xL4,xL5,xL6]
       refine xR [27] (h := ?_)
       refine AllReadyH.cons (by rfl) (fun K hK => ?_) AllReadyH.nil
       go_simp
       refine hK.out _ _ trivial (fun _ => ?_)
       clear hK K
       simp only [Act.put,xL4,xL5,xL6]
       replace Ar := Ar.below hbu
       replace HR := HR.below hbu
       replace ht := ht.below hbu
       replace Ri := Ri.below hbu
       replace Rp := Rp.below hbu
       replace Ha := Ha.below hbu
       replace Hb := Hb.below hbu
       replace XI := XI.below hbu
       replace XP := XP.below hbu
       replace XA := XA.below hbu
       replace XB := XB.below hbu
       replace BB := BB.trans (hbu.mono BB.size)
       clear hbu
       refine wpAnyH_done (by kernel_rfl) ?_ _
       have HF : Hid (NewtOut x y n w (.returned (.tuple #[.slice none 0 0,.int .i64 2])) W2) := Or.inr ⟨fun h => h i hin ia (by have := HIA.out; omega) (by have := hxx; grind),rfl,BB⟩
       clear XI XP XA XB Ri Rp Ha Hb ht Ar HR VE
       go_wp2
       go_ret2
       exact HF.out
      ·go_wp2
       (try simp only [hge,decide_true])
       refine wp_region_float 26 24 #[true,true,true,true,true,true,true,true,true,true,true,true,true,true,true,true,true,true,true,true,true,true,true,true,true,true,false,false] #[true,true,true,true,true,true,true,true,true,true,true,true,true,true,true,true,true,true,true,true,true,true,true,true,false,true,false,false] (fun aF lsd a' w' => ∃ vu0 vu1 vu2 vu3 vu4 vu5 vu6 vu7 vu8 vu9 vu10 vu11 vu12 vu13 vu14 vu15 vu16 vu17 vu18 vu19 vu20 vu21 vu22 vu23 vu24 vu25 : Value,a' = (((((((((((((((((((((((((aF.put (some 28) vu0).put (some 29) vu1).put (some 30) vu2).put (some 31) vu3).put (some 32) vu4).put (some 33) vu5).put (some 34) vu6).put (some 35) vu7).put (some 36) vu8).put (some 37) vu9).put (some 38) vu10).put (some 39) vu11).put (some 40) vu12).put (some 41) vu13).put (some 42) vu14).put (some 43) vu15).put (some 44) vu16).put (some 45) vu17).put (some 46) vu18).put (some 47) vu19).put (some 48) vu20).put (some 49) vu21).put (some 27) vu22).put (some 50) vu23).put (some 51) vu24).put (some 9) vu25 ∧ Below wr.heap.size wr w' ∧ (lsd.getD 0 false = true → vu0 = .slice (some ⟨g,0,none⟩) n c) ∧ (lsd.getD 1 false = true → vu1 = .int .i64 (i : Int)) ∧ (lsd.getD 2 false = true → vu2 = .pointer (some ⟨g,i * 3,none⟩)) ∧ (lsd.getD 3 false = true → vu3 = .agg #[.bool p4,.slice a4 n4 c4,.slice b4 m4 d4]) ∧ (lsd.getD 4 false = true → vu4 = .slice (some ⟨g,0,none⟩) n c) ∧ (lsd.getD 5 false = true → vu5 = .int .i64 (i : Int)) ∧ (lsd.getD 6 false = true → vu6 = .int .i64 (ip : Int)) ∧ (lsd.getD 7 false = true → vu7 = .pointer (some ⟨g,ip * 3,none⟩)) ∧ (lsd.getD 8 false = true → vu8 = .agg #[.bool p5,.slice a5 n5 c5,.slice b5 m5 d5]) ∧ (lsd.getD 9 false = true → RepQ w' vu9 (si - sp)) ∧ (lsd.getD 10 false = true → vu10 = .slice (some ⟨b6,off,none⟩) n xc) ∧ (lsd.getD 11 false = true → vu11 = .int .i64 (i : Int)) ∧ (lsd.getD 12 false = true → vu12 = .pointer (some ⟨b6,off + i * 3,none⟩)) ∧ (lsd.getD 13 false = true → vu13 = .agg #[.bool p6,.slice a6 n6 c6,.slice bo6 m6 d6]) ∧ (lsd.getD 14 false = true → vu14 = .slice (some ⟨b6,off,none⟩) n xc) ∧ (lsd.getD 15 false = true → vu15 = .int .i64 (i : Int)) ∧ (lsd.getD 16 false = true → vu16 = .int .i64 (b1 : Int)) ∧ (lsd.getD 17 false = true → vu17 = .int .i64 (ia : Int)) ∧ (lsd.getD 18 false = true → vu18 = .pointer (some ⟨b6,off + ia * 3,none⟩)) ∧ (lsd.getD 19 false = true → vu19 = .agg #[.bool p7,.slice a7 n7 c7,.slice bo7 m7 d7]) ∧ (lsd.getD 20 false = true → RepQ w' vu20 (x i - x ia)) ∧ (lsd.getD 21 false = true → TupQ w' vu21 ((si - sp) / (x i - x ia))) ∧ (lsd.getD 22 false = true → TupQ w' vu22 ((si - sp) / (x i - x ia))) ∧ (lsd.getD 23 false = true → RepQ w' vu23 ((si - sp) / (x i - x ia))) ∧ (lsd.getD 24 false = true → vu24 = .int .i64 0) ∧ (lsd.getD 25 false = true → New3 wr.heap.size w' vu25 (.bool false) (.slice none 0 0) (.slice none 0 0))) (by kernel_rfl) (by decide) (by kernel_rfl) (by rfl) (by kernel_rfl) (by rfl) (by kernel_rfl) (by decide) ?_ ?_ ?_ ?_
       ·exact ⟨_,_,_,_,_,_,_,_,_,_,_,_,_,_,_,_,_,_,_,_,_,_,_,_,_,_,by simp only [Act.put,xL4,xL5,xL6]; rfl,(Below.refl _ _).drew,fun h => absurd h (fun h => mark_none h),fun h => absurd h (fun h => mark_none h),fun h => absurd h (fun h => mark_none h),fun h => absurd h (fun h => mark_none h),fun h => absurd h (fun h => mark_none h),fun h => absurd h (fun h => mark_none h),fun h => absurd h (fun h => mark_none h),fun h => absurd h (fun h => mark_none h),fun h => absurd h (fun h => mark_none h),fun h => absurd h (fun h => mark_none h),fun h => absurd h (fun h => mark_none h),fun h => absurd h (fun h => mark_none h),fun h => absurd h (fun h => mark_none h),fun h => absurd h (fun h => mark_none h),fun h => absurd h (fun h => mark_none h),fun h => absurd h (fun h => mark_none h),fun h => absurd h (fun h => mark_none h),fun h => absurd h (fun h => mark_none h),fun h => absurd h (fun h => mark_none h),fun h => absurd h (fun h => mark_none h),fun h => absurd h (fun h => mark_none h),fun h => absurd h (fun h => mark_none h),fun h => absurd h (fun h => mark_none h),fun h => absurd h (fun h => mark_none h),fun h => absurd h (fun h => mark_none h),fun h => absurd h (fun h => mark_none h)⟩
       ·rintro lsd au wn iu hszu ⟨vu0,vu1,vu2,vu3,vu4,vu5,vu6,vu7,vu8,vu9,vu10,vu11,vu12,vu13,vu14,vu15,vu16,vu17,vu18,vu19,vu20,vu21,vu22,vu23,vu24,vu25,rfl,hbu,fu0,fu1,fu2,fu3,fu4,fu5,fu6,fu7,fu8,fu9,fu10,fu11,fu12,fu13,fu14,fu15,fu16,fu17,fu18,fu19,fu20,fu21,fu22,fu23,fu24,fu25⟩ himu hru
        rcases (show iu = 0 ∨ iu = 1 ∨ iu = 2 ∨ iu = 3 ∨ iu = 4 ∨ iu = 5 ∨ iu = 6 ∨ iu = 7 ∨ iu = 8 ∨ iu = 9 ∨ iu = 10 ∨ iu = 11 ∨ iu = 12 ∨ iu = 13 ∨ iu = 14 ∨ iu = 15 ∨ iu = 16 ∨ iu = 17 ∨ iu = 18 ∨ iu = 19 ∨ iu = 20 ∨ iu = 21 ∨ iu = 22 ∨ iu = 23 ∨ iu = 24 ∨ iu = 25 by omega) with rfl | rfl | rfl | rfl | rfl | rfl | rfl | rfl | rfl | rfl | rfl | rfl | rfl | rfl | rfl | rfl | rfl | rfl | rfl | rfl | rfl | rfl | rfl | rfl | rfl | rfl
        ·refine wpOp_shut (by rfl) (fun K hK => ?_)
         simp only [Act.put,xL4,xL5,xL6]
         go_simp
         exact hK.out _ _ ⟨(.slice (some ⟨g,0,none⟩) n c),vu1,vu2,vu3,vu4,vu5,vu6,vu7,vu8,vu9,vu10,vu11,vu12,vu13,vu14,vu15,vu16,vu17,vu18,vu19,vu20,vu21,vu22,vu23,vu24,vu25,by simp only [Act.put,xL4,xL5,xL6],hbu,fun _ => rfl,fun h => fu1 (mark_of (by decide) h),fun h => fu2 (mark_of (by decide) h),fun h => fu3 (mark_of (by decide) h),fun h => fu4 (mark_of (by decide) h),fun h => fu5 (mark_of (by decide) h),fun h => fu6 (mark_of (by decide) h),fun h => fu7 (mark_of (by decide) h),fun h => fu8 (mark_of (by decide) h),fun h => fu9 (mark_of (by decide) h),fun h => fu10 (mark_of (by decide) h),fun h => fu11 (mark_of (by decide) h),fun h => fu12 (mark_of (by decide) h),fun h => fu13 (mark_of (by decide) h),fun h => fu14 (mark_of (by decide) h),fun h => fu15 (mark_of (by decide) h),fun h => fu16 (mark_of (by decide) h),fun h => fu17 (mark_of (by decide) h),fun h => fu18 (mark_of (by decide) h),fun h => fu19 (mark_of (by decide) h),fun h => fu20 (mark_of (by decide) h),fun h => fu21 (mark_of (by decide) h),fun h => fu22 (mark_of (by decide) h),fun h => fu23 (mark_of (by decide) h),fun h => fu24 (mark_of (by decide) h),fun h => fu25 (mark_of (by decide) h)⟩
        ·refine wpOp_shut (by rfl) (fun K hK => ?_)
         simp only [Act.put,xL4,xL5,xL6]
         go_simp
         exact hK.out _ _ ⟨vu0,(.int .i64 (i : Int)),vu2,vu3,vu4,vu5,vu6,vu7,vu8,vu9,vu10,vu11,vu12,vu13,vu14,vu15,vu16,vu17,vu18,vu19,vu20,vu21,vu22,vu23,vu24,vu25,by simp only [Act.put,xL4,xL5,xL6],hbu,fun h => fu0 (mark_of (by decide) h),fun _ => rfl,fun h => fu2 (mark_of (by decide) h),fun h => fu3 (mark_of (by decide) h),fun h => fu4 (mark_of (by decide) h),fun h => fu5 (mark_of (by decide) h),fun h => fu6 (mark_of (by decide) h),fun h => fu7 (mark_of (by decide) h),fun h => fu8 (mark_of (by decide) h),fun h => fu9 (mark_of (by decide) h),fun h => fu10 (mark_of (by decide) h),fun h => fu11 (mark_of (by decide) h),fun h => fu12 (mark_of (by decide) h),fun h => fu13 (mark_of (by decide) h),fun h => fu14 (mark_of (by decide) h),fun h => fu15 (mark_of (by decide) h),fun h => fu16 (mark_of (by decide) h),fun h => fu17 (mark_of (by decide) h),fun h => fu18 (mark_of (by decide) h),fun h => fu19 (mark_of (by decide) h),fun h => fu20 (mark_of (by decide) h),fun h => fu21 (mark_of (by decide) h),fun h => fu22 (mark_of (by decide) h),fun h => fu23 (mark_of (by decide) h),fun h => fu24 (mark_of (by decide) h),fun h => fu25 (mark_of (by decide) h)⟩
        ·have eu0 := fu0 (dep_of 0 hru rfl (by kernel_rfl))
         have eu1 := fu1 (dep_of 1 hru rfl (by kernel_rfl))
         replace eu0 := eu0.symm
         subst eu0
         replace eu1 := eu1.symm
         subst eu1
         refine wpOp_shut (by rfl) (fun K hK => ?_)
         simp only [Act.put,xL4,xL5,xL6]
         go_simp
         exact hK.out _ _ ⟨(.slice (some ⟨g,0,none⟩) n c),(.int .i64 (i : Int)),(.pointer (some ⟨g,i * 3,none⟩)),vu3,vu4,vu5,vu6,vu7,vu8,vu9,vu10,vu11,vu12,vu13,vu14,vu15,vu16,vu17,vu18,vu19,vu20,vu21,vu22,vu23,vu24,vu25,by simp only [Act.put,xL4,xL5,xL6],hbu,fun _ => rfl,fun _ => rfl,fun _ => rfl,fun h => fu3 (mark_of (by decide) h),fun h => fu4 (mark_of (by decide) h),fun h => fu5 (mark_of (by decide) h),fun h => fu6 (mark_of (by decide) h),fun h => fu7 (mark_of (by decide) h),fun h => fu8 (mark_of (by decide) h),fun h => fu9 (mark_of (by decide) h),fun h => fu10 (mark_of (by decide) h),fun h => fu11 (mark_of (by decide) h),fun h => fu12 (mark_of (by decide) h),fun h => fu13 (mark_of (by decide) h),fun h => fu14 (mark_of (by decide) h),fun h => fu15 (mark_of (by decide) h),fun h => fu16 (mark_of (by decide) h),fun h => fu17 (mark_of (by decide) h),fun h => fu18 (mark_of (by decide) h),fun h => fu19 (mark_of (by decide) h),fun h => fu20 (mark_of (by decide) h),fun h => fu21 (mark_of (by decide) h),fun h => fu22 (mark_of (by decide) h),fun h => fu23 (mark_of (by decide) h),fun h => fu24 (mark_of (by decide) h),fun h => fu25 (mark_of (by decide) h)⟩
        ·have eu2 := fu2 (dep_of 2 hru rfl (by kernel_rfl))
         replace eu2 := eu2.symm
         subst eu2
         refine wpOp_shut (by rfl) (fun K hK => ?_)
         simp only [Act.put,xL4,xL5,xL6]
         obtain ⟨XI_0,XI_1,XI_2⟩ := XI.below hbu
         go_simp
         exact hK.out _ _ ⟨vu0,vu1,(.pointer (some ⟨g,i * 3,none⟩)),(.agg #[.bool p4,.slice a4 n4 c4,.slice b4 m4 d4]),vu4,vu5,vu6,vu7,vu8,vu9,vu10,vu11,vu12,vu13,vu14,vu15,vu16,vu17,vu18,vu19,vu20,vu21,vu22,vu23,vu24,vu25,by simp only [Act.put,xL4,xL5,xL6],hbu,fun h => fu0 (mark_of (by decide) h),fun h => fu1 (mark_of (by decide) h),fun _ => rfl,fun _ => rfl,fun h => fu4 (mark_of (by decide) h),fun h => fu5 (mark_of (by decide) h),fun h => fu6 (mark_of (by decide) h),fun h => fu7 (mark_of (by decide) h),fun h => fu8 (mark_of (by decide) h),fun h => fu9 (mark_of (by decide) h),fun h => fu10 (mark_of (by decide) h),fun h => fu11 (mark_of (by decide) h),fun h => fu12 (mark_of (by decide) h),fun h => fu13 (mark_of (by decide) h),fun h => fu14 (mark_of (by decide) h),fun h => fu15 (mark_of (by decide) h),fun h => fu16 (mark_of (by decide) h),fun h => fu17 (mark_of (by decide) h),fun h => fu18 (mark_of (by decide) h),fun h => fu19 (mark_of (by decide) h),fun h => fu20 (mark_of (by decide) h),fun h => fu21 (mark_of (by decide) h),fun h => fu22 (mark_of (by decide) h),fun h => fu23 (mark_of (by decide) h),fun h => fu24 (mark_of (by decide) h),fun h => fu25 (mark_of (by decide) h)⟩
        ·refine wpOp_shut (by rfl) (fun K hK => ?_)
         simp only [Act.put,xL4,xL5,xL6]
         go_simp
         exact hK.out _ _ ⟨vu0,vu1,vu2,vu3,(.slice (some ⟨g,0,none⟩) n c),vu5,vu6,vu7,vu8,vu9,vu10,vu11,vu12,vu13,vu14,vu15,vu16,vu17,vu18,vu19,vu20,vu21,vu22,vu23,vu24,vu25,by simp only [Act.put,xL4,xL5,xL6],hbu,fun h => fu0 (mark_of (by decide) h),fun h => fu1 (mark_of (by decide) h),fun h => fu2 (mark_of (by decide) h),fun h => fu3 (mark_of (by decide) h),fun _ => rfl,fun h => fu5 (mark_of (by decide) h),fun h => fu6 (mark_of (by decide) h),fun h => fu7 (mark_of (by decide) h),fun h => fu8 (mark_of (by decide) h),fun h => fu9 (mark_of (by decide) h),fun h => fu10 (mark_of (by decide) h),fun h => fu11 (mark_of (by decide) h),fun h => fu12 (mark_of (by decide) h),fun h => fu13 (mark_of (by decide) h),fun h => fu14 (mark_of (by decide) h),fun h => fu15 (mark_of (by decide) h),fun h => fu16 (mark_of (by decide) h),fun h => fu17 (mark_of (by decide) h),fun h => fu18 (mark_of (by decide) h),fun h => fu19 (mark_of (by decide) h),fun h => fu20 (mark_of (by decide) h),fun h => fu21 (mark_of (by decide) h),fun h => fu22 (mark_of (by decide) h),fun h => fu23 (mark_of (by decide) h),fun h => fu24 (mark_of (by decide) h),fun h => fu25 (mark_of (by decide) h)⟩
        ·refine wpOp_shut (by rfl) (fun K hK => ?_)
         simp only [Act.put,xL4,xL5,xL6]
         go_simp
         exact hK.out _ _ ⟨vu0,vu1,vu2,vu3,vu4,(.int .i64 (i : Int)),vu6,vu7,vu8,vu9,vu10,vu11,vu12,vu13,vu14,vu15,vu16,vu17,vu18,vu19,vu20,vu21,vu22,vu23,vu24,vu25,by simp only [Act.put,xL4,xL5,xL6],hbu,fun h => fu0 (mark_of (by decide) h),fun h => fu1 (mark_of (by decide) h),fun h => fu2 (mark_of (by decide) h),fun h => fu3 (mark_of (by decide) h),fun h => fu4 (mark_of (by decide) h),fun _ => rfl,fun h => fu6 (mark_of (by decide) h),fun h => fu7 (mark_of (by decide) h),fun h => fu8 (mark_of (by decide) h),fun h => fu9 (mark_of (by decide) h),fun h => fu10 (mark_of (by decide) h),fun h => fu11 (mark_of (by decide) h),fun h => fu12 (mark_of (by decide) h),fun h => fu13 (mark_of (by decide) h),fun h => fu14 (mark_of (by decide) h),fun h => fu15 (mark_of (by decide) h),fun h => fu16 (mark_of (by decide) h),fun h => fu17 (mark_of (by decide) h),fun h => fu18 (mark_of (by decide) h),fun h => fu19 (mark_of (by decide) h),fun h => fu20 (mark_of (by decide) h),fun h => fu21 (mark_of (by decide) h),fun h => fu22 (mark_of (by decide) h),fun h => fu23 (mark_of (by decide) h),fun h => fu24 (mark_of (by decide) h),fun h => fu25 (mark_of (by decide) h)⟩
        ·have eu5 := fu5 (dep_of 5 hru rfl (by kernel_rfl))
         replace eu5 := eu5.symm
         subst eu5
         refine wpOp_shut (by rfl) (fun K hK => ?_)
         simp only [Act.put,xL4,xL5,xL6]
         go_simp
         exact hK.out _ _ ⟨vu0,vu1,vu2,vu3,vu4,(.int .i64 (i : Int)),(.int .i64 (ip : Int)),vu7,vu8,vu9,vu10,vu11,vu12,vu13,vu14,vu15,vu16,vu17,vu18,vu19,vu20,vu21,vu22,vu23,vu24,vu25,by simp only [Act.put,xL4,xL5,xL6],hbu,fun h => fu0 (mark_of (by decide) h),fun h => fu1 (mark_of (by decide) h),fun h => fu2 (mark_of (by decide) h),fun h => fu3 (mark_of (by decide) h),fun h => fu4 (mark_of (by decide) h),fun _ => rfl,fun _ => rfl,fun h => fu7 (mark_of (by decide) h),fun h => fu8 (mark_of (by decide) h),fun h => fu9 (mark_of (by decide) h),fun h => fu10 (mark_of (by decide) h),fun h => fu11 (mark_of (by decide) h),fun h => fu12 (mark_of (by decide) h),fun h => fu13 (mark_of (by decide) h),fun h => fu14 (mark_of (by decide) h),fun h => fu15 (mark_of (by decide) h),fun h => fu16 (mark_of (by decide) h),fun h => fu17 (mark_of (by decide) h),fun h => fu18 (mark_of (by decide) h),fun h => fu19 (mark_of (by decide) h),fun h => fu20 (mark_of (by decide) h),fun h => fu21 (mark_of (by decide) h),fun h => fu22 (mark_of (by decide) h),fun h => fu23 (mark_of (by decide) h),fun h => fu24 (mark_of (by decide) h),fun h => fu25 (mark_of (by decide) h)⟩
        ·have eu4 := fu4 (dep_of 4 hru rfl (by kernel_rfl))
         have eu6 := fu6 (dep_of 6 hru rfl (by kernel_rfl))
         replace eu4 := eu4.symm
         subst eu4
         replace eu6 := eu6.symm
         subst eu6
         refine wpOp_shut (by rfl) (fun K hK => ?_)
         simp only [Act.put,xL4,xL5,xL6]
         go_simp
         exact hK.out _ _ ⟨vu0,vu1,vu2,vu3,(.slice (some ⟨g,0,none⟩) n c),vu5,(.int .i64 (ip : Int)),(.pointer (some ⟨g,ip * 3,none⟩)),vu8,vu9,vu10,vu11,vu12,vu13,vu14,vu15,vu16,vu17,vu18,vu19,vu20,vu21,vu22,vu23,vu24,vu25,by simp only [Act.put,xL4,xL5,xL6],hbu,fun h => fu0 (mark_of (by decide) h),fun h => fu1 (mark_of (by decide) h),fun h => fu2 (mark_of (by decide) h),fun h => fu3 (mark_of (by decide) h),fun _ => rfl,fun h => fu5 (mark_of (by decide) h),fun _ => rfl,fun _ => rfl,fun h => fu8 (mark_of (by decide) h),fun h => fu9 (mark_of (by decide) h),fun h => fu10 (mark_of (by decide) h),fun h => fu11 (mark_of (by decide) h),fun h => fu12 (mark_of (by decide) h),fun h => fu13 (mark_of (by decide) h),fun h => fu14 (mark_of (by decide) h),fun h => fu15 (mark_of (by decide) h),fun h => fu16 (mark_of (by decide) h),fun h => fu17 (mark_of (by decide) h),fun h => fu18 (mark_of (by decide) h),fun h => fu19 (mark_of (by decide) h),fun h => fu20 (mark_of (by decide) h),fun h => fu21 (mark_of (by decide) h),fun h => fu22 (mark_of (by decide) h),fun h => fu23 (mark_of (by decide) h),fun h => fu24 (mark_of (by decide) h),fun h => fu25 (mark_of (by decide) h)⟩
        ·have eu7 := fu7 (dep_of 7 hru rfl (by kernel_rfl))
         replace eu7 := eu7.symm
         subst eu7
         refine wpOp_shut (by rfl) (fun K hK => ?_)
         simp only [Act.put,xL4,xL5,xL6]
         obtain ⟨XP_0,XP_1,XP_2⟩ := XP.below hbu
         go_simp
         exact hK.out _ _ ⟨vu0,vu1,vu2,vu3,vu4,vu5,vu6,(.pointer (some ⟨g,ip * 3,none⟩)),(.agg #[.bool p5,.slice a5 n5 c5,.slice b5 m5 d5]),vu9,vu10,vu11,vu12,vu13,vu14,vu15,vu16,vu17,vu18,vu19,vu20,vu21,vu22,vu23,vu24,vu25,by simp only [Act.put,xL4,xL5,xL6],hbu,fun h => fu0 (mark_of (by decide) h),fun h => fu1 (mark_of (by decide) h),fun h => fu2 (mark_of (by decide) h),fun h => fu3 (mark_of (by decide) h),fun h => fu4 (mark_of (by decide) h),fun h => fu5 (mark_of (by decide) h),fun h => fu6 (mark_of (by decide) h),fun _ => rfl,fun _ => rfl,fun h => fu9 (mark_of (by decide) h),fun h => fu10 (mark_of (by decide) h),fun h => fu11 (mark_of (by decide) h),fun h => fu12 (mark_of (by decide) h),fun h => fu13 (mark_of (by decide) h),fun h => fu14 (mark_of (by decide) h),fun h => fu15 (mark_of (by decide) h),fun h => fu16 (mark_of (by decide) h),fun h => fu17 (mark_of (by decide) h),fun h => fu18 (mark_of (by decide) h),fun h => fu19 (mark_of (by decide) h),fun h => fu20 (mark_of (by decide) h),fun h => fu21 (mark_of (by decide) h),fun h => fu22 (mark_of (by decide) h),fun h => fu23 (mark_of (by decide) h),fun h => fu24 (mark_of (by decide) h),fun h => fu25 (mark_of (by decide) h)⟩
        ·have eu3 := fu3 (dep_of 3 hru rfl (by kernel_rfl))
         have eu8 := fu8 (dep_of 8 hru rfl (by kernel_rfl))
         replace eu3 := eu3.symm
         subst eu3
         replace eu8 := eu8.symm
         subst eu8
         refine wpOp_shut (by rfl) (fun K hK => ?_)
         simp only [Act.put,xL4,xL5,xL6]
         have ht := ht.below hbu
         have Ri := Ri.below hbu
         have Rp := Rp.below hbu
         go_simp
         refine (qsub_at _ _ si sp 600 _ (Ri.le (by omega)) (Rp.le (by omega)) (by omega) (by omega) ht).mono ?_
         rintro eu wx ⟨x9,rfl,h9,bu⟩
         go_wp2_with fail
         have hbu2 := hbu.trans (bu.mono hbu.size)
         exact hK.out _ _ ⟨vu0,vu1,vu2,(.agg #[.bool p4,.slice a4 n4 c4,.slice b4 m4 d4]),vu4,vu5,vu6,vu7,(.agg #[.bool p5,.slice a5 n5 c5,.slice b5 m5 d5]),_,vu10,vu11,vu12,vu13,vu14,vu15,vu16,vu17,vu18,vu19,vu20,vu21,vu22,vu23,vu24,vu25,by simp only [Act.put,xL4,xL5,xL6],hbu2,fun h => fu0 (mark_of (by decide) h),fun h => fu1 (mark_of (by decide) h),fun h => fu2 (mark_of (by decide) h),fun _ => rfl,fun h => fu4 (mark_of (by decide) h),fun h => fu5 (mark_of (by decide) h),fun h => fu6 (mark_of (by decide) h),fun h => fu7 (mark_of (by decide) h),fun _ => rfl,fun _ => h9,fun h => fu10 (mark_of (by decide) h),fun h => fu11 (mark_of (by decide) h),fun h => fu12 (mark_of (by decide) h),fun h => fu13 (mark_of (by decide) h),fun h => fu14 (mark_of (by decide) h),fun h => fu15 (mark_of (by decide) h),fun h => fu16 (mark_of (by decide) h),fun h => fu17 (mark_of (by decide) h),fun h => fu18 (mark_of (by decide) h),fun h => fu19 (mark_of (by decide) h),fun h => (fu20 (mark_of (by decide) h)).below bu,fun h => (fu21 (mark_of (by decide) h)).below bu,fun h => (fu22 (mark_of (by decide) h)).below bu,fun h => (fu23 (mark_of (by decide) h)).below bu,fun h => fu24 (mark_of (by decide) h),fun h => (fu25 (mark_of (by decide) h)).below bu⟩
        ·refine wpOp_shut (by rfl) (fun K hK => ?_)
         simp only [Act.put,xL4,xL5,xL6]
         go_simp
         exact hK.out _ _ ⟨vu0,vu1,vu2,vu3,vu4,vu5,vu6,vu7,vu8,vu9,(.slice (some ⟨b6,off,none⟩) n xc),vu11,vu12,vu13,vu14,vu15,vu16,vu17,vu18,vu19,vu20,vu21,vu22,vu23,vu24,vu25,by simp only [Act.put,xL4,xL5,xL6],hbu,fun h => fu0 (mark_of (by decide) h),fun h => fu1 (mark_of (by decide) h),fun h => fu2 (mark_of (by decide) h),fun h => fu3 (mark_of (by decide) h),fun h => fu4 (mark_of (by decide) h),fun h => fu5 (mark_of (by decide) h),fun h => fu6 (mark_of (by decide) h),fun h => fu7 (mark_of (by decide) h),fun h => fu8 (mark_of (by decide) h),fun h => fu9 (mark_of (by decide) h),fun _ => rfl,fun h => fu11 (mark_of (by decide) h),fun h => fu12 (mark_of (by decide) h),fun h => fu13 (mark_of (by decide) h),fun h => fu14 (mark_of (by decide) h),fun h => fu15 (mark_of (by decide) h),fun h => fu16 (mark_of (by decide) h),fun h => fu17 (mark_of (by decide) h),fun h => fu18 (mark_of (by decide) h),fun h => fu19 (mark_of (by decide) h),fun h => fu20 (mark_of (by decide) h),fun h => fu21 (mark_of (by decide) h),fun h => fu22 (mark_of (by decide) h),fun h => fu23 (mark_of (by decide) h),fun h => fu24 (mark_of (by decide) h),fun h => fu25 (mark_of (by decide) h)⟩
        ·refine wpOp_shut (by rfl) (fun K hK => ?_)
         simp only [Act.put,xL4,xL5,xL6]
         go_simp
         exact hK.out _ _ ⟨vu0,vu1,vu2,vu3,vu4,vu5,vu6,vu7,vu8,vu9,vu10,(.int .i64 (i : Int)),vu12,vu13,vu14,vu15,vu16,vu17,vu18,vu19,vu20,vu21,vu22,vu23,vu24,vu25,by simp only [Act.put,xL4,xL5,xL6],hbu,fun h => fu0 (mark_of (by decide) h),fun h => fu1 (mark_of (by decide) h),fun h => fu2 (mark_of (by decide) h),fun h => fu3 (mark_of (by decide) h),fun h => fu4 (mark_of (by decide) h),fun h => fu5 (mark_of (by decide) h),fun h => fu6 (mark_of (by decide) h),fun h => fu7 (mark_of (by decide) h),fun h => fu8 (mark_of (by decide) h),fun h => fu9 (mark_of (by decide) h),fun h => fu10 (mark_of (by decide) h),fun _ => rfl,fun h => fu12 (mark_of (by decide) h),fun h => fu13 (mark_of (by decide) h),fun h => fu14 (mark_of (by decide) h),fun h => fu15 (mark_of (by decide) h),fun h => fu16 (mark_of (by decide) h),fun h => fu17 (mark_of (by decide) h),fun h => fu18 (mark_of (by decide) h),fun h => fu19 (mark_of (by decide) h),fun h => fu20 (mark_of (by decide) h),fun h => fu21 (mark_of (by decide) h),fun h => fu22 (mark_of (by decide) h),fun h => fu23 (mark_of (by decide) h),fun h => fu24 (mark_of (by decide) h),fun h => fu25 (mark_of (by decide) h)⟩
        ·have eu10 := fu10 (dep_of 10 hru rfl (by kernel_rfl))
         have eu11 := fu11 (dep_of 11 hru rfl (by kernel_rfl))
         replace eu10 := eu10.symm
         subst eu10
         replace eu11 := eu11.symm
         subst eu11
         refine wpOp_shut (by rfl) (fun K hK => ?_)
         simp only [Act.put,xL4,xL5,xL6]
         go_simp
         exact hK.out _ _ ⟨vu0,vu1,vu2,vu3,vu4,vu5,vu6,vu7,vu8,vu9,(.slice (some ⟨b6,off,none⟩) n xc),(.int .i64 (i : Int)),(.pointer (some ⟨b6,off + i * 3,none⟩)),vu13,vu14,vu15,vu16,vu17,vu18,vu19,vu20,vu21,vu22,vu23,vu24,vu25,by simp only [Act.put,xL4,xL5,xL6],hbu,fun h => fu0 (mark_of (by decide) h),fun h => fu1 (mark_of (by decide) h),fun h => fu2 (mark_of (by decide) h),fun h => fu3 (mark_of (by decide) h),fun h => fu4 (mark_of (by decide) h),fun h => fu5 (mark_of (by decide) h),fun h => fu6 (mark_of (by decide) h),fun h => fu7 (mark_of (by decide) h),fun h => fu8 (mark_of (by decide) h),fun h => fu9 (mark_of (by decide) h),fun _ => rfl,fun _ => rfl,fun _ => rfl,fun h => fu13 (mark_of (by decide) h),fun h => fu14 (mark_of (by decide) h),fun h => fu15 (mark_of (by decide) h),fun h => fu16 (mark_of (by decide) h),fun h => fu17 (mark_of (by decide) h),fun h => fu18 (mark_of (by decide) h),fun h => fu19 (mark_of (by decide) h),fun h => fu20 (mark_of (by decide) h),fun h => fu21 (mark_of (by decide) h),fun h => fu22 (mark_of (by decide) h),fun h => fu23 (mark_of (by decide) h),fun h => fu24 (mark_of (by decide) h),fun h => fu25 (mark_of (by decide) h)⟩
        ·have eu12 := fu12 (dep_of 12 hru rfl (by kernel_rfl))
         replace eu12 := eu12.symm
         subst eu12
         refine wpOp_shut (by rfl) (fun K hK => ?_)
         simp only [Act.put,xL4,xL5,xL6]
         obtain ⟨XA_0,XA_1,XA_2⟩ := XA.below hbu
         go_simp
         exact hK.out _ _ ⟨vu0,vu1,vu2,vu3,vu4,vu5,vu6,vu7,vu8,vu9,vu10,vu11,(.pointer (some ⟨b6,off + i * 3,none⟩)),(.agg #[.bool p6,.slice a6 n6 c6,.slice bo6 m6 d6]),vu14,vu15,vu16,vu17,vu18,vu19,vu20,vu21,vu22,vu23,vu24,vu25,by simp only [Act.put,xL4,xL5,xL6],hbu,fun h => fu0 (mark_of (by decide) h),fun h => fu1 (mark_of (by decide) h),fun h => fu2 (mark_of (by decide) h),fun h => fu3 (mark_of (by decide) h),fun h => fu4 (mark_of (by decide) h),fun h => fu5 (mark_of (by decide) h),fun h => fu6 (mark_of (by decide) h),fun h => fu7 (mark_of (by decide) h),fun h => fu8 (mark_of (by decide) h),fun h => fu9 (mark_of (by decide) h),fun h => fu10 (mark_of (by decide) h),fun h => fu11 (mark_of (by decide) h),fun _ => rfl,fun _ => rfl,fun h => fu14 (mark_of (by decide) h),fun h => fu15 (mark_of (by decide) h),fun h => fu16 (mark_of (by decide) h),fun h => fu17 (mark_of (by decide) h),fun h => fu18 (mark_of (by decide) h),fun h => fu19 (mark_of (by decide) h),fun h => fu20 (mark_of (by decide) h),fun h => fu21 (mark_of (by decide) h),fun h => fu22 (mark_of (by decide) h),fun h => fu23 (mark_of (by decide) h),fun h => fu24 (mark_of (by decide) h),fun h => fu25 (mark_of (by decide) h)⟩
        ·refine wpOp_shut (by rfl) (fun K hK => ?_)
         simp only [Act.put,xL4,xL5,xL6]
         go_simp
         exact hK.out _ _ ⟨vu0,vu1,vu2,vu3,vu4,vu5,vu6,vu7,vu8,vu9,vu10,vu11,vu12,vu13,(.slice (some ⟨b6,off,none⟩) n xc),vu15,vu16,vu17,vu18,vu19,vu20,vu21,vu22,vu23,vu24,vu25,by simp only [Act.put,xL4,xL5,xL6],hbu,fun h => fu0 (mark_of (by decide) h),fun h => fu1 (mark_of (by decide) h),fun h => fu2 (mark_of (by decide) h),fun h => fu3 (mark_of (by decide) h),fun h => fu4 (mark_of (by decide) h),fun h => fu5 (mark_of (by decide) h),fun h => fu6 (mark_of (by decide) h),fun h => fu7 (mark_of (by decide) h),fun h => fu8 (mark_of (by decide) h),fun h => fu9 (mark_of (by decide) h),fun h => fu10 (mark_of (by decide) h),fun h => fu11 (mark_of (by decide) h),fun h => fu12 (mark_of (by decide) h),fun h => fu13 (mark_of (by decide) h),fun _ => rfl,fun h => fu15 (mark_of (by decide) h),fun h => fu16 (mark_of (by decide) h),fun h => fu17 (mark_of (by decide) h),fun h => fu18 (mark_of (by decide) h),fun h => fu19 (mark_of (by decide) h),fun h => fu20 (mark_of (by decide) h),fun h => fu21 (mark_of (by decide) h),fun h => fu22 (mark_of (by decide) h),fun h => fu23 (mark_of (by decide) h),fun h => fu24 (mark_of (by decide) h),fun h => fu25 (mark_of (by decide) h)⟩
        ·refine wpOp_shut (by rfl) (fun K hK => ?_)
         simp only [Act.put,xL4,xL5,xL6]
         go_simp
         exact hK.out _ _ ⟨vu0,vu1,vu2,vu3,vu4,vu5,vu6,vu7,vu8,vu9,vu10,vu11,vu12,vu13,vu14,(.int .i64 (i : Int)),vu16,vu17,vu18,vu19,vu20,vu21,vu22,vu23,vu24,vu25,by simp only [Act.put,xL4,xL5,xL6],hbu,fun h => fu0 (mark_of (by decide) h),fun h => fu1 (mark_of (by decide) h),fun h => fu2 (mark_of (by decide) h),fun h => fu3 (mark_of (by decide) h),fun h => fu4 (mark_of (by decide) h),fun h => fu5 (mark_of (by decide) h),fun h => fu6 (mark_of (by decide) h),fun h => fu7 (mark_of (by decide) h),fun h => fu8 (mark_of (by decide) h),fun h => fu9 (mark_of (by decide) h),fun h => fu10 (mark_of (by decide) h),fun h => fu11 (mark_of (by decide) h),fun h => fu12 (mark_of (by decide) h),fun h => fu13 (mark_of (by decide) h),fun h => fu14 (mark_of (by decide) h),fun _ => rfl,fun h => fu16 (mark_of (by decide) h),fun h => fu17 (mark_of (by decide) h),fun h => fu18 (mark_of (by decide) h),fun h => fu19 (mark_of (by decide) h),fun h => fu20 (mark_of (by decide) h),fun h => fu21 (mark_of (by decide) h),fun h => fu22 (mark_of (by decide) h),fun h => fu23 (mark_of (by decide) h),fun h => fu24 (mark_of (by decide) h),fun h => fu25 (mark_of (by decide) h)⟩
        ·refine wpOp_shut (by rfl) (fun K hK => ?_)
         simp only [Act.put,xL4,xL5,xL6]
         go_simp
         exact hK.out _ _ ⟨vu0,vu1,vu2,vu3,vu4,vu5,vu6,vu7,vu8,vu9,vu10,vu11,vu12,vu13,vu14,vu15,(.int .i64 (b1 : Int)),vu17,vu18,vu19,vu20,vu21,vu22,vu23,vu24,vu25,by simp only [Act.put,xL4,xL5,xL6],hbu,fun h => fu0 (mark_of (by decide) h),fun h => fu1 (mark_of (by decide) h),fun h => fu2 (mark_of (by decide) h),fun h => fu3 (mark_of (by decide) h),fun h => fu4 (mark_of (by decide) h),fun h => fu5 (mark_of (by decide) h),fun h => fu6 (mark_of (by decide) h),fun h => fu7 (mark_of (by decide) h),fun h => fu8 (mark_of (by decide) h),fun h => fu9 (mark_of (by decide) h),fun h => fu10 (mark_of (by decide) h),fun h => fu11 (mark_of (by decide) h),fun h => fu12 (mark_of (by decide) h),fun h => fu13 (mark_of (by decide) h),fun h => fu14 (mark_of (by decide) h),fun h => fu15 (mark_of (by decide) h),fun _ => rfl,fun h => fu17 (mark_of (by decide) h),fun h => fu18 (mark_of (by decide) h),fun h => fu19 (mark_of (by decide) h),fun h => fu20 (mark_of (by decide) h),fun h => fu21 (mark_of (by decide) h),fun h => fu22 (mark_of (by decide) h),fun h => fu23 (mark_of (by decide) h),fun h => fu24 (mark_of (by decide) h),fun h => fu25 (mark_of (by decide) h)⟩
        ·have eu15 := fu15 (dep_of 15 hru rfl (by kernel_rfl))
         have eu16 := fu16 (dep_of 16 hru rfl (by kernel_rfl))
         replace eu15 := eu15.symm
         subst eu15
         replace eu16 := eu16.symm
         subst eu16
         refine wpOp_shut (by rfl) (fun K hK => ?_)
         simp only [Act.put,xL4,xL5,xL6]
         go_simp
         exact hK.out _ _ ⟨vu0,vu1,vu2,vu3,vu4,vu5,vu6,vu7,vu8,vu9,vu10,vu11,vu12,vu13,vu14,(.int .i64 (i : Int)),(.int .i64 (b1 : Int)),(.int .i64 (ia : Int)),vu18,vu19,vu20,vu21,vu22,vu23,vu24,vu25,by simp only [Act.put,xL4,xL5,xL6],hbu,fun h => fu0 (mark_of (by decide) h),fun h => fu1 (mark_of (by decide) h),fun h => fu2 (mark_of (by decide) h),fun h => fu3 (mark_of (by decide) h),fun h => fu4 (mark_of (by decide) h),fun h => fu5 (mark_of (by decide) h),fun h => fu6 (mark_of (by decide) h),fun h => fu7 (mark_of (by decide) h),fun h => fu8 (mark_of (by decide) h),fun h => fu9 (mark_of (by decide) h),fun h => fu10 (mark_of (by decide) h),fun h => fu11 (mark_of (by decide) h),fun h => fu12 (mark_of (by decide) h),fun h => fu13 (mark_of (by decide) h),fun h => fu14 (mark_of (by decide) h),fun _ => rfl,fun _ => rfl,fun _ => rfl,fun h => fu18 (mark_of (by decide) h),fun h => fu19 (mark_of (by decide) h),fun h => fu20 (mark_of (by decide) h),fun h => fu21 (mark_of (by decide) h),fun h => fu22 (mark_of (by decide) h),fun h => fu23 (mark_of (by decide) h),fun h => fu24 (mark_of (by decide) h),fun h => fu25 (mark_of (by decide) h)⟩
        ·have eu14 := fu14 (dep_of 14 hru rfl (by kernel_rfl))
         have eu17 := fu17 (dep_of 17 hru rfl (by kernel_rfl))
         replace eu14 := eu14.symm
         subst eu14
         replace eu17 := eu17.symm
         subst eu17
         refine wpOp_shut (by rfl) (fun K hK => ?_)
         simp only [Act.put,xL4,xL5,xL6]
         go_simp
         exact hK.out _ _ ⟨vu0,vu1,vu2,vu3,vu4,vu5,vu6,vu7,vu8,vu9,vu10,vu11,vu12,vu13,(.slice (some ⟨b6,off,none⟩) n xc),vu15,vu16,(.int .i64 (ia : Int)),(.pointer (some ⟨b6,off + ia * 3,none⟩)),vu19,vu20,vu21,vu22,vu23,vu24,vu25,by simp only [Act.put,xL4,xL5,xL6],hbu,fun h => fu0 (mark_of (by decide) h),fun h => fu1 (mark_of (by decide) h),fun h => fu2 (mark_of (by decide) h),fun h => fu3 (mark_of (by decide) h),fun h => fu4 (mark_of (by decide) h),fun h => fu5 (mark_of (by decide) h),fun h => fu6 (mark_of (by decide) h),fun h => fu7 (mark_of (by decide) h),fun h => fu8 (mark_of (by decide) h),fun h => fu9 (mark_of (by decide) h),fun h => fu10 (mark_of (by decide) h),fun h => fu11 (mark_of (by decide) h),fun h => fu12 (mark_of (by decide) h),fun h => fu13 (mark_of (by decide) h),fun _ => rfl,fun h => fu15 (mark_of (by decide) h),fun h => fu16 (mark_of (by decide) h),fun _ => rfl,fun _ => rfl,fun h => fu19 (mark_of (by decide) h),fun h => fu20 (mark_of (by decide) h),fun h => fu21 (mark_of (by decide) h),fun h => fu22 (mark_of (by decide) h),fun h => fu23 (mark_of (by decide) h),fun h => fu24 (mark_of (by decide) h),fun h => fu25 (mark_of (by decide) h)⟩
        ·have eu18 := fu18 (dep_of 18 hru rfl (by kernel_rfl))
         replace eu18 := eu18.symm
         subst eu18
         refine wpOp_shut (by rfl) (fun K hK => ?_)
         simp only [Act.put,xL4,xL5,xL6]
         obtain ⟨XB_0,XB_1,XB_2⟩ := XB.below hbu
         go_simp
         exact hK.out _ _ ⟨vu0,vu1,vu2,vu3,vu4,vu5,vu6,vu7,vu8,vu9,vu10,vu11,vu12,vu13,vu14,vu15,vu16,vu17,(.pointer (some ⟨b6,off + ia * 3,none⟩)),(.agg #[.bool p7,.slice a7 n7 c7,.slice bo7 m7 d7]),vu20,vu21,vu22,vu23,vu24,vu25,by simp only [Act.put,xL4,xL5,xL6],hbu,fun h => fu0 (mark_of (by decide) h),fun h => fu1 (mark_of (by decide) h),fun h => fu2 (mark_of (by decide) h),fun h => fu3 (mark_of (by decide) h),fun h => fu4 (mark_of (by decide) h),fun h => fu5 (mark_of (by decide) h),fun h => fu6 (mark_of (by decide) h),fun h => fu7 (mark_of (by decide) h),fun h => fu8 (mark_of (by decide) h),fun h => fu9 (mark_of (by decide) h),fun h => fu10 (mark_of (by decide) h),fun h => fu11 (mark_of (by decide) h),fun h => fu12 (mark_of (by decide) h),fun h => fu13 (mark_of (by decide) h),fun h => fu14 (mark_of (by decide) h),fun h => fu15 (mark_of (by decide) h),fun h => fu16 (mark_of (by decide) h),fun h => fu17 (mark_of (by decide) h),fun _ => rfl,fun _ => rfl,fun h => fu20 (mark_of (by decide) h),fun h => fu21 (mark_of (by decide) h),fun h => fu22 (mark_of (by decide) h),fun h => fu23 (mark_of (by decide) h),fun h => fu24 (mark_of (by decide) h),fun h => fu25 (mark_of (by decide) h)⟩
        ·have eu13 := fu13 (dep_of 13 hru rfl (by kernel_rfl))
         have eu19 := fu19 (dep_of 19 hru rfl (by kernel_rfl))
         replace eu13 := eu13.symm
         subst eu13
         replace eu19 := eu19.symm
         subst eu19
         have h9 := fu9 (dep_of 9 hru rfl (by kernel_rfl))
         refine wpOp_shut (by rfl) (fun K hK => ?_)
         simp only [Act.put,xL4,xL5,xL6]
         have ht := ht.below hbu
         have Ha := Ha.below hbu
         have Hb := Hb.below hbu
         go_simp
         refine (qsub_at _ _ (x i) (x ia) 2 _ Ha Hb (by omega) (by omega) ht).mono ?_
         rintro eu wx ⟨x20,rfl,h20,bu⟩
         go_wp2_with fail
         have hbu2 := hbu.trans (bu.mono hbu.size)
         exact hK.out _ _ ⟨vu0,vu1,vu2,vu3,vu4,vu5,vu6,vu7,vu8,vu9,vu10,vu11,vu12,(.agg #[.bool p6,.slice a6 n6 c6,.slice bo6 m6 d6]),vu14,vu15,vu16,vu17,vu18,(.agg #[.bool p7,.slice a7 n7 c7,.slice bo7 m7 d7]),_,vu21,vu22,vu23,vu24,vu25,by simp only [Act.put,xL4,xL5,xL6],hbu2,fun h => fu0 (mark_of (by decide) h),fun h => fu1 (mark_of (by decide) h),fun h => fu2 (mark_of (by decide) h),fun h => fu3 (mark_of (by decide) h),fun h => fu4 (mark_of (by decide) h),fun h => fu5 (mark_of (by decide) h),fun h => fu6 (mark_of (by decide) h),fun h => fu7 (mark_of (by decide) h),fun h => fu8 (mark_of (by decide) h),fun h => (fu9 (mark_of (by decide) h)).below bu,fun h => fu10 (mark_of (by decide) h),fun h => fu11 (mark_of (by decide) h),fun h => fu12 (mark_of (by decide) h),fun _ => rfl,fun h => fu14 (mark_of (by decide) h),fun h => fu15 (mark_of (by decide) h),fun h => fu16 (mark_of (by decide) h),fun h => fu17 (mark_of (by decide) h),fun h => fu18 (mark_of (by decide) h),fun _ => rfl,fun _ => h20,fun h => (fu21 (mark_of (by decide) h)).below bu,fun h => (fu22 (mark_of (by decide) h)).below bu,fun h => (fu23 (mark_of (by decide) h)).below bu,fun h => fu24 (mark_of (by decide) h),fun h => (fu25 (mark_of (by decide) h)).below bu⟩
        ·have h9 := fu9 (dep_of 9 hru rfl (by kernel_rfl))
         have h20 := fu20 (dep_of 20 hru rfl (by kernel_rfl))
         refine wpOp_shut (by rfl) (fun K hK => ?_)
         simp only [Act.put,xL4,xL5,xL6]
         have ht := ht.below hbu
         go_simp
         refine (qdiv_at _ _ (si - sp) (x i - x ia) 2000 _ (h9.at _ (Nat.le_trans SD1 (by omega))) (h20.at _ (Nat.le_trans SD2 (by omega))) (by omega) (by omega) ht hxx).mono ?_
         rintro eu wx ⟨x12,rfl,hx12,bu⟩
         have T21 : TupQ wx _ _ := ⟨x12,rfl,hx12⟩
         go_wp2_with fail
         have hbu2 := hbu.trans (bu.mono hbu.size)
         exact hK.out _ _ ⟨vu0,vu1,vu2,vu3,vu4,vu5,vu6,vu7,vu8,vu9,vu10,vu11,vu12,vu13,vu14,vu15,vu16,vu17,vu18,vu19,vu20,_,vu22,vu23,vu24,vu25,by simp only [Act.put,xL4,xL5,xL6],hbu2,fun h => fu0 (mark_of (by decide) h),fun h => fu1 (mark_of (by decide) h),fun h => fu2 (mark_of (by decide) h),fun h => fu3 (mark_of (by decide) h),fun h => fu4 (mark_of (by decide) h),fun h => fu5 (mark_of (by decide) h),fun h => fu6 (mark_of (by decide) h),fun h => fu7 (mark_of (by decide) h),fun h => fu8 (mark_of (by decide) h),fun h => (fu9 (mark_of (by decide) h)).below bu,fun h => fu10 (mark_of (by decide) h),fun h => fu11 (mark_of (by decide) h),fun h => fu12 (mark_of (by decide) h),fun h => fu13 (mark_of (by decide) h),fun h => fu14 (mark_of (by decide) h),fun h => fu15 (mark_of (by decide) h),fun h => fu16 (mark_of (by decide) h),fun h => fu17 (mark_of (by decide) h),fun h => fu18 (mark_of (by decide) h),fun h => fu19 (mark_of (by decide) h),fun h => (fu20 (mark_of (by decide) h)).below bu,fun _ => T21,fun h => (fu22 (mark_of (by decide) h)).below bu,fun h => (fu23 (mark_of (by decide) h)).below bu,fun h => fu24 (mark_of (by decide) h),fun h => (fu25 (mark_of (by decide) h)).below bu⟩
        ·have T21 := fu21 (dep_of 21 hru rfl (by kernel_rfl))
         obtain ⟨xT,rfl,hxT⟩ := T21
         refine wpOp_shut (by rfl) (fun K hK => ?_)
         simp only [Act.put,xL4,xL5,xL6]
         go_simp
         exact hK.out _ _ ⟨vu0,vu1,vu2,vu3,vu4,vu5,vu6,vu7,vu8,vu9,vu10,vu11,vu12,vu13,vu14,vu15,vu16,vu17,vu18,vu19,vu20,(.tuple #[xT,.int .i64 0]),(.tuple #[xT,.int .i64 0]),vu23,vu24,vu25,by simp only [Act.put,xL4,xL5,xL6],hbu,fun h => fu0 (mark_of (by decide) h),fun h => fu1 (mark_of (by decide) h),fun h => fu2 (mark_of (by decide) h),fun h => fu3 (mark_of (by decide) h),fun h => fu4 (mark_of (by decide) h),fun h => fu5 (mark_of (by decide) h),fun h => fu6 (mark_of (by decide) h),fun h => fu7 (mark_of (by decide) h),fun h => fu8 (mark_of (by decide) h),fun h => fu9 (mark_of (by decide) h),fun h => fu10 (mark_of (by decide) h),fun h => fu11 (mark_of (by decide) h),fun h => fu12 (mark_of (by decide) h),fun h => fu13 (mark_of (by decide) h),fun h => fu14 (mark_of (by decide) h),fun h => fu15 (mark_of (by decide) h),fun h => fu16 (mark_of (by decide) h),fun h => fu17 (mark_of (by decide) h),fun h => fu18 (mark_of (by decide) h),fun h => fu19 (mark_of (by decide) h),fun h => fu20 (mark_of (by decide) h),fun h => fu21 (mark_of (by decide) h),fun _ => ⟨xT,rfl,hxT⟩,fun h => fu23 (mark_of (by decide) h),fun h => fu24 (mark_of (by decide) h),fun h => fu25 (mark_of (by decide) h)⟩
        ·have T22 := fu22 (dep_of 22 hru rfl (by kernel_rfl))
         obtain ⟨xT,rfl,hxT⟩ := T22
         refine wpOp_shut (by rfl) (fun K hK => ?_)
         simp only [Act.put,xL4,xL5,xL6]
         go_simp
         exact hK.out _ _ ⟨vu0,vu1,vu2,vu3,vu4,vu5,vu6,vu7,vu8,vu9,vu10,vu11,vu12,vu13,vu14,vu15,vu16,vu17,vu18,vu19,vu20,vu21,(.tuple #[xT,.int .i64 0]),xT,vu24,vu25,by simp only [Act.put,xL4,xL5,xL6],hbu,fun h => fu0 (mark_of (by decide) h),fun h => fu1 (mark_of (by decide) h),fun h => fu2 (mark_of (by decide) h),fun h => fu3 (mark_of (by decide) h),fun h => fu4 (mark_of (by decide) h),fun h => fu5 (mark_of (by decide) h),fun h => fu6 (mark_of (by decide) h),fun h => fu7 (mark_of (by decide) h),fun h => fu8 (mark_of (by decide) h),fun h => fu9 (mark_of (by decide) h),fun h => fu10 (mark_of (by decide) h),fun h => fu11 (mark_of (by decide) h),fun h => fu12 (mark_of (by decide) h),fun h => fu13 (mark_of (by decide) h),fun h => fu14 (mark_of (by decide) h),fun h => fu15 (mark_of (by decide) h),fun h => fu16 (mark_of (by decide) h),fun h => fu17 (mark_of (by decide) h),fun h => fu18 (mark_of (by decide) h),fun h => fu19 (mark_of (by decide) h),fun h => fu20 (mark_of (by decide) h),fun h => fu21 (mark_of (by decide) h),fun h => fu22 (mark_of (by decide) h),fun _ => hxT,fun h => fu24 (mark_of (by decide) h),fun h => fu25 (mark_of (by decide) h)⟩
        ·have T22 := fu22 (dep_of 22 hru rfl (by kernel_rfl))
         obtain ⟨xT,rfl,hxT⟩ := T22
         refine wpOp_shut (by rfl) (fun K hK => ?_)
         simp only [Act.put,xL4,xL5,xL6]
         go_simp
         exact hK.out _ _ ⟨vu0,vu1,vu2,vu3,vu4,vu5,vu6,vu7,vu8,vu9,vu10,vu11,vu12,vu13,vu14,vu15,vu16,vu17,vu18,vu19,vu20,vu21,(.tuple #[xT,.int .i64 0]),vu23,(.int .i64 0),vu25,by simp only [Act.put,xL4,xL5,xL6],hbu,fun h => fu0 (mark_of (by decide) h),fun h => fu1 (mark_of (by decide) h),fun h => fu2 (mark_of (by decide) h),fun h => fu3 (mark_of (by decide) h),fun h => fu4 (mark_of (by decide) h),fun h => fu5 (mark_of (by decide) h),fun h => fu6 (mark_of (by decide) h),fun h => fu7 (mark_of (by decide) h),fun h => fu8 (mark_of (by decide) h),fun h => fu9 (mark_of (by decide) h),fun h => fu10 (mark_of (by decide) h),fun h => fu11 (mark_of (by decide) h),fun h => fu12 (mark_of (by decide) h),fun h => fu13 (mark_of (by decide) h),fun h => fu14 (mark_of (by decide) h),fun h => fu15 (mark_of (by decide) h),fun h => fu16 (mark_of (by decide) h),fun h => fu17 (mark_of (by decide) h),fun h => fu18 (mark_of (by decide) h),fun h => fu19 (mark_of (by decide) h),fun h => fu20 (mark_of (by decide) h),fun h => fu21 (mark_of (by decide) h),fun h => fu22 (mark_of (by decide) h),fun h => fu23 (mark_of (by decide) h),fun _ => rfl,fun h => fu25 (mark_of (by decide) h)⟩
        ·refine wpOp_shut (by rfl) (fun K hK => ?_)
         simp only [Act.put,xL4,xL5,xL6]
         go_simp
         obtain ⟨wx,hWx,hSx,bu,VXu⟩ := V3.lay wn 35 (.bool false) (.slice none 0 0) (.slice none 0 0)
         rw [← hWx]
         have hbu2 := hbu.trans (bu.mono hbu.size)
         exact hK.out _ _ ⟨vu0,vu1,vu2,vu3,vu4,vu5,vu6,vu7,vu8,vu9,vu10,vu11,vu12,vu13,vu14,vu15,vu16,vu17,vu18,vu19,vu20,vu21,vu22,vu23,vu24,_,by simp only [Act.put,xL4,xL5,xL6],hbu2,fun h => fu0 (mark_of (by decide) h),fun h => fu1 (mark_of (by decide) h),fun h => fu2 (mark_of (by decide) h),fun h => fu3 (mark_of (by decide) h),fun h => fu4 (mark_of (by decide) h),fun h => fu5 (mark_of (by decide) h),fun h => fu6 (mark_of (by decide) h),fun h => fu7 (mark_of (by decide) h),fun h => fu8 (mark_of (by decide) h),fun h => (fu9 (mark_of (by decide) h)).below bu,fun h => fu10 (mark_of (by decide) h),fun h => fu11 (mark_of (by decide) h),fun h => fu12 (mark_of (by decide) h),fun h => fu13 (mark_of (by decide) h),fun h => fu14 (mark_of (by decide) h),fun h => fu15 (mark_of (by decide) h),fun h => fu16 (mark_of (by decide) h),fun h => fu17 (mark_of (by decide) h),fun h => fu18 (mark_of (by decide) h),fun h => fu19 (mark_of (by decide) h),fun h => (fu20 (mark_of (by decide) h)).below bu,fun h => (fu21 (mark_of (by decide) h)).below bu,fun h => (fu22 (mark_of (by decide) h)).below bu,fun h => (fu23 (mark_of (by decide) h)).below bu,fun h => fu24 (mark_of (by decide) h),fun _ => ⟨_,rfl,hbu.size,VXu⟩⟩
       ·rintro au wn ⟨vu0,vu1,vu2,vu3,vu4,vu5,vu6,vu7,vu8,vu9,vu10,vu11,vu12,vu13,vu14,vu15,vu16,vu17,vu18,vu19,vu20,vu21,vu22,vu23,vu24,vu25,rfl,hbu,fu0,fu1,fu2,fu3,fu4,fu5,fu6,fu7,fu8,fu9,fu10,fu11,fu12,fu13,fu14,fu15,fu16,fu17,fu18,fu19,fu20,fu21,fu22,fu23,fu24,fu25⟩ hfin
        have T22 := fu22 rfl
        obtain ⟨xT,rfl,hxT⟩ := T22
        simp only [Act.put,xL4,xL5,xL6]
        refine wpAnyH_take (i := 24) (v := .int .i64 0) (by simp only [xL1,xL2,xL3]; rfl) (by kernel_rfl) (by kernel_rfl) (by kernel_rfl) (by exact fun _ _ _ h => h) (Or.inl ⟨by rfl,?_⟩) trivial ?_
        ·(intro w hSw; go_simp; (try with_reducible rfl))
        simp only [Act.put,xL4,xL5,xL6]
        exact hfin _ _ ⟨vu0,vu1,vu2,vu3,vu4,vu5,vu6,vu7,vu8,vu9,vu10,vu11,vu12,vu13,vu14,vu15,vu16,vu17,vu18,vu19,vu20,vu21,(.tuple #[xT,.int .i64 0]),vu23,(.int .i64 0),vu25,by simp only [Act.put,xL4,xL5,xL6],hbu,fun _ => fu0 rfl,fun _ => fu1 rfl,fun _ => fu2 rfl,fun _ => fu3 rfl,fun _ => fu4 rfl,fun _ => fu5 rfl,fun _ => fu6 rfl,fun _ => fu7 rfl,fun _ => fu8 rfl,fun _ => fu9 rfl,fun _ => fu10 rfl,fun _ => fu11 rfl,fun _ => fu12 rfl,fun _ => fu13 rfl,fun _ => fu14 rfl,fun _ => fu15 rfl,fun _ => fu16 rfl,fun _ => fu17 rfl,fun _ => fu18 rfl,fun _ => fu19 rfl,fun _ => fu20 rfl,fun _ => fu21 rfl,fun _ => fu22 rfl,fun _ => fu23 rfl,fun _ => rfl,fun _ => fu25 rfl⟩
       rintro au Wu1 ⟨vu0,vu1,vu2,vu3,vu4,vu5,vu6,vu7,vu8,vu9,vu10,vu11,vu12,vu13,vu14,vu15,vu16,vu17,vu18,vu19,vu20,vu21,vu22,vu23,vu24,vu25,rfl,hbu,fu0,fu1,fu2,fu3,fu4,fu5,fu6,fu7,fu8,fu9,fu10,fu11,fu12,fu13,fu14,fu15,fu16,fu17,fu18,fu19,fu20,fu21,fu22,fu23,fu24,fu25⟩
       have eu0 := (fu0 rfl).symm
       subst eu0
       have eu1 := (fu1 rfl).symm
       subst eu1
       have eu2 := (fu2 rfl).symm
       subst eu2
       have eu3 := (fu3 rfl).symm
       subst eu3
       have eu4 := (fu4 rfl).symm
       subst eu4
       have eu5 := (fu5 rfl).symm
       subst eu5
       have eu6 := (fu6 rfl).symm
       subst eu6
       have eu7 := (fu7 rfl).symm
       subst eu7
       have eu8 := (fu8 rfl).symm
       subst eu8
       have h9 := fu9 rfl
       have eu10 := (fu10 rfl).symm
       subst eu10
       have eu11 := (fu11 rfl).symm
       subst eu11
       have eu12 := (fu12 rfl).symm
       subst eu12
       have eu13 := (fu13 rfl).symm
       subst eu13
       have eu14 := (fu14 rfl).symm
       subst eu14
       have eu15 := (fu15 rfl).symm
       subst eu15
       have eu16 := (fu16 rfl).symm
       subst eu16
       have eu17 := (fu17 rfl).symm
       subst eu17
       have eu18 := (fu18 rfl).symm
       subst eu18
       have eu19 := (fu19 rfl).symm
       subst eu19
       have h20 := fu20 rfl
       have T21 := fu21 rfl
       have T22 := fu22 rfl
       have hr := fu23 rfl
       have eu24 := (fu24 rfl).symm
       subst eu24
       obtain ⟨RVE,rfl,hRVE,VE⟩ := fu25 rfl
       clear fu0 fu1 fu2 fu3 fu4 fu5 fu6 fu7 fu8 fu9 fu10 fu11 fu12 fu13 fu14 fu15 fu16 fu17 fu18 fu19 fu20 fu21 fu22 fu23 fu24 fu25
       have hlXI : g < wr.heap.size := XI.lt
       have hlXP : g < wr.heap.size := XP.lt
       have hlXA : b6 < wr.heap.size := XA.lt
       have hlXB : b6 < wr.heap.size := XB.lt
       obtain ⟨p3,a3,n3,c3,bo3,m3,d3,rfl⟩ := hr.open
       simp only [Act.put,xL4,xL5,xL6]
       refine xR [26] (h := ?_)
       refine AllReadyH.cons (by rfl) (fun K hK => ?_) AllReadyH.nil
       have hKp := VE.keepJ (.bool p3) (.slice a3 n3 c3) (.slice bo3 m3 d3)
       have VE_n := VE.same (.bool p3) (.slice a3 n3 c3) (.slice bo3 m3 d3)
       have h9_n := h9.keep hKp
       have h20_n := h20.keep hKp
       have T21_n := T21.keep hKp
       have T22_n := T22.keep hKp
       have hr_n := hr.keep hKp
       have hbu_n := below_store3 (R := RVE) hbu (by omega) (.bool p3) (.slice a3 n3 c3) (.slice bo3 m3 d3)
       clear hKp
       obtain ⟨VE_0,VE_1,VE_2,VE_3,VE_4,VE_5⟩ := id VE
       go_simp
       clear VE_0 VE_1 VE_2 VE_3 VE_4 VE_5
       clear hbu h9 h20 T21 T22 hr VE
       generalize ((Wu1.setCell ⟨RVE,0,none⟩ (.bool p3)).setCell ⟨RVE,1,none⟩ (.slice a3 n3 c3)).setCell ⟨RVE,2,none⟩ (.slice bo3 m3 d3) = W2 at *
       have hbu := hbu_n
       have h9 := h9_n
       have h20 := h20_n
       have T21 := T21_n
       have T22 := T22_n
       have hr := hr_n
       have VE := VE_n
       clear hbu_n h9_n h20_n T21_n T22_n hr_n VE_n
       refine hK.out _ _ trivial (fun _ => ?_)
       clear hK K
       simp only [Act.put,xL4,xL5,xL6]
       refine xR [27] (h := ?_)
       refine AllReadyH.cons (by rfl) (fun K hK => ?_) AllReadyH.nil
       go_simp
       refine hK.out _ _ trivial (fun _ => ?_)
       clear hK K
       simp only [Act.put,xL4,xL5,xL6]
       replace Ar := Ar.below hbu
       replace HR := HR.below hbu
       replace ht := ht.below hbu
       replace Ri := Ri.below hbu
       replace Rp := Rp.below hbu
       replace Ha := Ha.below hbu
       replace Hb := Hb.below hbu
       replace XI := XI.below hbu
       replace XP := XP.below hbu
       replace XA := XA.below hbu
       replace XB := XB.below hbu
       replace BB := BB.trans (hbu.mono BB.size)
       clear hbu
       refine wpAnyH_done (by kernel_rfl) ?_ _
       have hVE := VE.lt
       obtain ⟨VE_0,VE_1,VE_2,VE_3,VE_4,VE_5⟩ := id VE
       obtain ⟨A2,K2⟩ := Ar.set i hin (.bool p3) (.slice a3 n3 c3) (.slice bo3 m3 d3) (num_bool _) (num_slice _ _ _) (num_slice _ _ _)
       have x0 := Ar.1 i hin 0 (by omega)
       have x1 := Ar.1 i hin 1 (by omega)
       have x2 := Ar.1 i hin 2 (by omega)
       have y0 := Ar.2.1 i hin 0 (by omega)
       have y1 := Ar.2.1 i hin 1 (by omega)
       have y2 := Ar.2.1 i hin 2 (by omega)
       simp only [Nat.add_zero] at x0 y0
       have HR_n := HR.keep K2
       have hr_n := hr.keep K2
       have BB_n : Below w.heap.size w (((W2.setCell ⟨g,i * 3,none⟩ (.bool p3)).setCell ⟨g,i * 3 + 1,none⟩ (.slice a3 n3 c3)).setCell ⟨g,i * 3 + 2,none⟩ (.slice bo3 m3 d3)) := ((BB.setCell gB _).setCell gB _).setCell gB _
       clear XI XP XA XB Ri Rp Ha Hb ht
       go_wp2
       clear x0 x1 x2 y0 y1 y2 K2 BB Ar HR hr VE VE_0 VE_1 VE_2 VE_3 VE_4 VE_5
       generalize ((W2.setCell ⟨g,i * 3,none⟩ (.bool p3)).setCell ⟨g,i * 3 + 1,none⟩ (.slice a3 n3 c3)).setCell ⟨g,i * 3 + 2,none⟩ (.slice bo3 m3 d3) = W3 at *
       have sD : qsz ((si - sp) / (x i - x ia)) ≤ slz i := Nat.le_trans (qsz_div _ _ SD1 SD2) (by have := HUP.out; omega)
       have hrr : RatAt W3 (.agg #[.bool p3,.slice a3 n3 c3,.slice bo3 m3 d3]) (stN x y b i i) (slz i) := by rw [HE3.out]; exact hr_n.at _ sD
       have HR2 := HR_n.upd hrr (fun j hj => stN_other x y b i j hj)
       have HP2 : Hid (∀ j,j < n → i ≤ j → x j ≠ x (j - b1)) := fun j h1 h2 => by
        by_cases e : j = i
        ·subst e; rw [← HIA.out.1]; exact fun h => hxx (by rw [h]; grind)
        ·exact HP.out j h1 (by omega)
       go_roundw
       case rel => exact ⟨i,_,by omega,by omega,by go_num,HP2,A2,HR2,BB_n⟩
       case measure => simp [intOf]; omega
     ·have hb1 := HB1.out
      obtain rfl : t = b1 := by omega
      have hge : ¬ (t : Int) - 1 ≥ (t : Int) := by omega
      have HR2 : SRaw wr el n (fun j => slopeN x y (min j (b + 1)) j) := fun i hi => by have h := HR i hi; rw [hb1,stN_end] at h; exact h
      have HD2 : Hid (∀ i,i < n → ∀ d,0 < d → d < b + 1 + 1 → d ≤ i → x i ≠ x (i - d)) := fun i hi d h1 h2 h3 => by
       by_cases hd : d = t
       ·rw [hd]; exact HP.out i hi (by omega)
       ·exact HD.out i hi d h1 (by omega) h3
      clear HR HP HD hb1
      go_wp2
      go_roundw
      case rel => exact ⟨b + 1,t + 1,el,by rw [Hid,HB1.out],by omega,by go_num,HD2,Ar,HR2,BB⟩
      case measure => simp [intOf]; omega
   ·have hli : ¬ (b1 : Int) < (n : Int) := by omega
    have HF : Hid (NewtOut x y n w (.returned (.tuple #[.slice (some ⟨g,0,none⟩) n c,.int .i64 0])) wr) := by
     refine Or.inl ⟨fun p hp q hq => ?_,_,rfl,_,_,rfl,hc1,hc2,⟨el,Ar.row n c (Nat.le_refl _) hc1 hc2,fun i hi => ?_⟩,BB⟩
     ·have := HD.out p hp (p - q) (by omega) (by omega) (by omega)
      rw [show p - (p - q) = q by omega] at this
      exact this
     ·have h := HR i hi
      simp only [show min i b = i by omega] at h
      exact h
    clear Ar HR BB HD hb1
    go_wp2
    go_ret2
    exact HF.out
end Go.Proofs.YtnbocjbfieklhaaGreatDoor
