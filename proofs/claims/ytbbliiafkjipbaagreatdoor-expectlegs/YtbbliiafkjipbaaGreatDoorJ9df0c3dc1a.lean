/-
  Texts of mine.
-/
import Derived.Test.YtbbliiafkjipbaaGreatDoorJd9abae9e33
import Derived.Test.YtbbliiafkjipbaaGreatDoorJ6e34d51332
import Derived.Laws.OwnMore
import Derived.Test.YtbbliiafkjipbaaGreatDoorJe1b848227b
import Derived.Test.YtbbliiafkjipbaaGreatDoorJc12909aee1
namespace Go.Proofs.YtbbliiafkjipbaaGreatDoor
open Go.RowKit
set_option linter.unusedVariables false
set_option linter.unusedSimpArgs false
def noTok : Tok := (0,0,ByteArray.empty)
def TkAt (w : World) (v : Value) (l : List Tok) : Prop := RowAt 3 w v l.length (fun i j => (cellsT (l.getD i noTok)).getD j undef)
theorem TkAt.below {w w' : World} {v : Value} {l : List Tok} (h : TkAt w v l) (hb : Below w.heap.size w w') : TkAt w' v l := RowAt.below h hb
theorem TkAt.open {w : World} {v : Value} {l : List Tok} (h : TkAt w v l) : ∃ a c,v = .slice a l.length c ∧ l.length ≤ c ∧ c ≤ 9223372036854775807 := by
 obtain ⟨a,c,h1,h2,h3,_⟩ := h
 exact ⟨a,c,h1,h2,h3⟩
theorem TkAt.at {w : World} {v : Value} {l : List Tok} (h : TkAt w v l) {i : Nat} {t : Tok} (ht : l[i]? = some t) : ∃ b off c,v = .slice (some ⟨b,off,none⟩) l.length c ∧ w.cell? ⟨b,off + i * 3,none⟩ = some (.int .i64 (t.1 : Int)) ∧ w.cell? ⟨b,off + i * 3 + 1,none⟩ = some (.int .i64 (t.2.1 : Int)) ∧ w.cell? ⟨b,off + i * 3 + 2,none⟩ = some (.string t.2.2) := by
 obtain ⟨a,c,h1,h2,h3,h4⟩ := h
 have hi : i < l.length := (List.getElem?_eq_some_iff.1 ht).1
 obtain ⟨b,off,rfl,hc⟩ := h4 (by omega)
 have hg : l.getD i noTok = t := by rw [List.getD_eq_getElem?_getD,ht]; rfl
 have hc : ∀ j,j < 3 → w.cell? ⟨b,off + i * 3 + j,none⟩ = some ((cellsT (l.getD i noTok)).getD j undef) := hc i hi
 rw [hg] at hc
 exact ⟨b,off,c,h1,hc 0 (by omega),hc 1 (by omega),hc 2 (by omega)⟩
def updC (r : Nat → Cl) (i : Nat) (d : Cl) : Nat → Cl := fun k => if k = i then d else r k
theorem updC_same (r : Nat → Cl) (i : Nat) (d : Cl) : updC r i d i = d := if_pos rfl
theorem updC_other (r : Nat → Cl) {i k : Nat} (d : Cl) (h : k ≠ i) : updC r i d k = r k := if_neg h
theorem COwn.below {B : Nat} {w w' : World} {v : Value} {n : Nat} {t : Nat → Cl} {L : Nat} (h : COwn B w v n t L) (hb : Below w.heap.size w w') : COwn B w' v n t L := h.later hb
theorem COwn.congr {B : Nat} {w : World} {v : Value} {n : Nat} {t t' : Nat → Cl} {L : Nat} (h : COwn B w v n t L) (e : ∀ i,i < n → t i = t' i) : COwn B w v n t' L := by
 obtain ⟨cs,h1,h2,h3⟩ := h
 exact ⟨cs,h1,h2,fun i hi => e i hi ▸ h3 i hi⟩
theorem COwn.mono {B : Nat} {w : World} {v : Value} {n : Nat} {t : Nat → Cl} {L L' : Nat} (h : COwn B w v n t L) (hL : L ≤ L') : COwn B w v n t L' := by
 obtain ⟨cs,h1,h2,h3⟩ := h
 exact ⟨cs,h1,h2,fun i hi => (h3 i hi).mono hL⟩
theorem zero_cell (w : World) (L : Nat) : CellAt w (fun j => [.bool false,.bool false,.slice none 0 0,.slice none 0 0].getD j undef) ⟨false,0⟩ L := ⟨rfl,false,none,0,0,none,0,0,rfl,rfl,rfl,RatAt.nil w L⟩
theorem made4 (n i j : Nat) (hi : i < n) (hj : j < 4) : (madeCells (Value.agg #[.bool false,.bool false,.slice none 0 0,.slice none 0 0]).cells (n * 4)).toList.getD (i * 4 + j) undef = [Value.bool false,.bool false,.slice none 0 0,.slice none 0 0].getD j undef := by
 have hlt : i * 4 + j < n * 4 := by omega
 simp only [madeCells,Value.cells,List.getD_eq_getElem?_getD]
 rw [Array.getElem?_toList,Array.getElem?_map,Array.getElem?_range,if_pos hlt]
 simp only [Option.map_some,Option.getD_some]
 rw [show (i * 4 + j) % (#[Value.bool false,.bool false,.slice none 0 0,.slice none 0 0] : Array Value).size = j by simp; omega]
 rcases (by omega : j = 0 ∨ j = 1 ∨ j = 2 ∨ j = 3) with rfl | rfl | rfl | rfl <;> rfl
theorem COwn.made {B : Nat} {w : World} {g n : Nat} (L : Nat) (h : w.ownsRow B 65 4 (.slice (some ⟨g,0,none⟩) n n) n (madeCells (Value.agg #[.bool false,.bool false,.slice none 0 0,.slice none 0 0]).cells (n * 4)).toList) : COwn B w (.slice (some ⟨g,0,none⟩) n n) n (fun _ => ⟨false,0⟩) L := by
 have hc : ∀ i,i < n → ∀ j,j < 4 → w.cell? ⟨g,i * 4 + j,none⟩ = some ([Value.bool false,.bool false,.slice none 0 0,.slice none 0 0].getD j undef) := fun i hi j hj => by
  have hlt : i * 4 + j < (madeCells (Value.agg #[.bool false,.bool false,.slice none 0 0,.slice none 0 0]).cells (n * 4)).toList.length := by rw [h.1]; omega
  have := owns_cell h (j := i * 4 + j) (u := (madeCells (Value.agg #[.bool false,.bool false,.slice none 0 0,.slice none 0 0]).cells (n * 4)).toList.getD (i * 4 + j) undef) (by rw [List.getD_eq_getElem?_getD,List.getElem?_eq_getElem hlt]; rfl)
  rw [made4 n i j hi hj] at this
  exact this
 refine ⟨_,h,fun g' hg' => ?_,fun i hi => (zero_cell w L).congr (fun j hj => (made4 n i j hi hj).symm)⟩
 have hgg : g = g' := by simpa [Value.ownBlock] using hg'
 subst hgg
 intro o u hu
 rcases h.2 with ⟨e,_⟩ | ⟨g2,c2,cur,e,_,hgh,_,_,hcs,_⟩
 ·cases e
 ·cases e
  have hlt : o < n * 4 := by
   rw [cell_of_row _ _ _ _ _ _ hgh] at hu
   have := (Array.getElem?_eq_some_iff.1 hu).1
   omega
  have := hc (o / 4) (by omega) (o % 4) (by omega)
  rw [show o / 4 * 4 + o % 4 = o by omega] at this
  rw [this] at hu
  cases hu
  rcases (by omega : o % 4 = 0 ∨ o % 4 = 1 ∨ o % 4 = 2 ∨ o % 4 = 3) with e | e | e | e <;> rw [e]
  ·exact limb_bool _
  ·exact limb_bool _
  ·exact limb_slice _ _ _
  ·exact limb_slice _ _ _
theorem getD_set {l : List Value} {i j : Nat} {x : Value} : (l.set i x).getD j undef = if i = j ∧ j < l.length then x else l.getD j undef := by
 simp only [List.getD_eq_getElem?_getD,List.getElem?_set]
 by_cases h : i = j
 ·subst h
  by_cases h2 : i < l.length
  ·simp [h2]
  ·simp [h2]
 ·simp [h]
theorem COwn.put {B : Nat} {w : World} {g n c : Nat} {r : Nat → Cl} {L : Nat} (h : COwn B w (.slice (some ⟨g,0,none⟩) n c) n r L) {i : Nat} (hi : i < n) {x0 x1 x2 x3 : Value} {d : Cl} (hx : CellAt w (fun j => [x0,x1,x2,x3].getD j undef) d L) :
  COwn B ((((w.setCell ⟨g,i * 4,none⟩ x0).setCell ⟨g,i * 4 + 1,none⟩ x1).setCell ⟨g,i * 4 + 2,none⟩ x2).setCell ⟨g,i * 4 + 3,none⟩ x3) (.slice (some ⟨g,0,none⟩) n c) n (updC r i d) L ∧ KeepQ IsLimb w ((((w.setCell ⟨g,i * 4,none⟩ x0).setCell ⟨g,i * 4 + 1,none⟩ x1).setCell ⟨g,i * 4 + 2,none⟩ x2).setCell ⟨g,i * 4 + 3,none⟩ x3) := by
 obtain ⟨cs,h1,h2,h3⟩ := h
 have hl : cs.length = n * 4 := h1.1
 have s1 := (h1.stored (i * 4) x0).1
 have s2 := (s1.stored (i * 4 + 1) x1).1
 have s3 := (s2.stored (i * 4 + 2) x2).1
 have s4 := (s3.stored (i * 4 + 3) x3).1
 have get : ∀ j,j < 4 → ∃ u,w.cell? ⟨g,i * 4 + j,none⟩ = some u := fun j hj => ⟨_,owns_cell h1 (List.getElem?_eq_getElem (show i * 4 + j < cs.length by omega))⟩
 have nl : ∀ o u,w.cell? ⟨g,o,none⟩ = some u → ¬ IsLimb u := h2 g rfl
 obtain ⟨u0,c0⟩ := get 0 (by omega)
 obtain ⟨u1,c1⟩ := get 1 (by omega)
 obtain ⟨u2,c2⟩ := get 2 (by omega)
 obtain ⟨u3,c3⟩ := get 3 (by omega)
 have K : KeepQ IsLimb w ((((w.setCell ⟨g,i * 4,none⟩ x0).setCell ⟨g,i * 4 + 1,none⟩ x1).setCell ⟨g,i * 4 + 2,none⟩ x2).setCell ⟨g,i * 4 + 3,none⟩ x3) :=
  (((keepL_set c0 (nl _ _ c0) x0).trans (keepL_set (cell_set_by c1 (by omega)) (nl _ _ c1) x1)).trans (keepL_set (cell_set_by (cell_set_by c2 (by omega)) (by omega)) (nl _ _ c2) x2)).trans (keepL_set (cell_set_by (cell_set_by (cell_set_by c3 (by omega)) (by omega)) (by omega)) (nl _ _ c3) x3)
 have q0 : ¬ IsLimb x0 := by obtain ⟨e0,_⟩ := hx; have e0 : x0 = _ := e0; rw [e0]; exact limb_bool _
 obtain ⟨_,p,ao,m,c',bo,k,d',e1,e2,e3,_⟩ := id hx
 have e1 : x1 = _ := e1
 have e2 : x2 = _ := e2
 have e3 : x3 = _ := e3
 have q1 : ¬ IsLimb x1 := by rw [e1]; exact limb_bool _
 have q2 : ¬ IsLimb x2 := by rw [e2]; exact limb_slice _ _ _
 have q3 : ¬ IsLimb x3 := by rw [e3]; exact limb_slice _ _ _
 refine ⟨⟨_,s4,fun g' hg' => ?_,fun k hk => ?_⟩,K⟩
 ·have hgg : g = g' := by simpa [Value.ownBlock] using hg'
  subst hgg
  intro o u hu
  have step : ∀ (W : World) (a : Nat) (y u9 : Value),W.cell? ⟨g,a,none⟩ = some u9 → ¬ IsLimb y → (∀ o u,W.cell? ⟨g,o,none⟩ = some u → ¬ IsLimb u) → ∀ o u,(W.setCell ⟨g,a,none⟩ y).cell? ⟨g,o,none⟩ = some u → ¬ IsLimb u := fun W a y u9 e9 hy hW o u hu => by
   by_cases e : a = o
   ·subst e
    rw [World.cell?_setCell_same _ _ _ e9] at hu; cases hu; exact hy
   ·rw [World.cell?_setCell_other _ _ _ _ (fun e2 => e (by injection e2))] at hu
    exact hW o u hu
  exact step _ _ _ _ (cell_set_by (cell_set_by (cell_set_by c3 (by omega)) (by omega)) (by omega)) q3 (step _ _ _ _ (cell_set_by (cell_set_by c2 (by omega)) (by omega)) q2 (step _ _ _ _ (cell_set_by c1 (by omega)) q1 (step _ _ _ _ c0 q0 nl))) o u hu
 ·by_cases e : k = i
  ·subst e
   rw [updC_same]
   refine (hx.keepL K).congr (fun j hj => ?_)
   simp only [getD_set,List.length_set]
   rcases (by omega : j = 0 ∨ j = 1 ∨ j = 2 ∨ j = 3) with rfl | rfl | rfl | rfl
   ·rw [if_neg (by omega),if_neg (by omega),if_neg (by omega),if_pos (by omega)]; rfl
   ·rw [if_neg (by omega),if_neg (by omega),if_pos (by omega)]; rfl
   ·rw [if_neg (by omega),if_pos (by omega)]; rfl
   ·rw [if_pos (by omega)]; rfl
  ·rw [updC_other _ _ e]
   refine ((h3 k hk).keepL K).congr (fun j hj => ?_)
   simp only [getD_set,List.length_set]
   rw [if_neg (by omega),if_neg (by omega),if_neg (by omega),if_neg (by omega)]
theorem COwn.cells {B : Nat} {w : World} {g n c : Nat} {r : Nat → Cl} {L : Nat} (h : COwn B w (.slice (some ⟨g,0,none⟩) n c) n r L) {i : Nat} (hi : i < n) : ∃ u0 u1 u2 u3,w.cell? ⟨g,i * 4,none⟩ = some u0 ∧ w.cell? ⟨g,i * 4 + 1,none⟩ = some u1 ∧ w.cell? ⟨g,i * 4 + 2,none⟩ = some u2 ∧ w.cell? ⟨g,i * 4 + 3,none⟩ = some u3 ∧ w.frozen? ⟨g,i * 4,none⟩ = false ∧ w.frozen? ⟨g,i * 4 + 1,none⟩ = false ∧ w.frozen? ⟨g,i * 4 + 2,none⟩ = false ∧ w.frozen? ⟨g,i * 4 + 3,none⟩ = false := by
 obtain ⟨cs,h1,h2,h3⟩ := h
 have hl : cs.length = n * 4 := h1.1
 have get : ∀ j,j < 4 → ∃ u,w.cell? ⟨g,i * 4 + j,none⟩ = some u := fun j hj => ⟨_,owns_cell h1 (List.getElem?_eq_getElem (show i * 4 + j < cs.length by omega))⟩
 obtain ⟨u0,c0⟩ := get 0 (by omega)
 obtain ⟨u1,c1⟩ := get 1 (by omega)
 obtain ⟨u2,c2⟩ := get 2 (by omega)
 obtain ⟨u3,c3⟩ := get 3 (by omega)
 exact ⟨u0,u1,u2,u3,c0,c1,c2,c3,h1.frozenAt _,h1.frozenAt _,h1.frozenAt _,h1.frozenAt _⟩

set_option maxRecDepth 100000 in
set_option maxHeartbeats 4000000 in
theorem few9_at (v : Value) (n K : Nat) (r : Nat → Cl) (w : World) (hv : CRaw w v n r 3) (hK : K ≤ 1000) :
    Calls Tryz.prog 5 #[v,.int .i64 (K : Int)] w fun e w' => ∃ u,e = .returned u ∧ COwn w.heap.size w' u (min n K) r 3 ∧ Below w.heap.size w w' := by
  obtain ⟨ao,c,rfl,hnc,hc63⟩ := hv.open
  have hv0 : Hid (CRaw w (.slice ao n c) n r 3) := hv
  clear hv
  go_enter Tryz.func5,Tryz.ntmps5
  go_wp2
  go_loopw [5,6] (fun vo vi wr => ∃ i : Nat,i ≤ min n K ∧ vi = .int .i64 (i : Int) ∧ COwn w.heap.size wr vo i r 3 ∧ Below w.heap.size w wr) (fun _ vi _ => min n K - (intOf vi).toNat)
  case atStart => exact ⟨0,by omega,rfl,COwn.nil _ _ _ _,Below.refl _ _⟩
  case round =>
    obtain ⟨i,hi,rfl,CO,BB⟩ := hrel
    obtain ⟨av,cv,rfl⟩ := CO.form
    by_cases hlt : i < min n K
    · have hin : i < n := by omega
      have g1 : (i : Int) < (n : Int) := by omega
      have g2 : (i : Int) < (K : Int) := by omega
      have g0 : (0 : Int) ≤ (i : Int) := by omega
      have hi15 : i ≤ 1000 := by omega
      obtain ⟨b,off,c9,p1,a1,n1,c1,b1,m1,d1,f1,g1_,hvv,hcc,hc6,X0,X1,X2,X3,u1,v1,E1⟩ := (hv0.out.below BB).at hin
      cases hvv
      have HE : Hid ((r i).val = mkRat (zof p1 (num f1 (min n1 3))) (num g1_ (min m1 3))) := E1
      obtain ⟨ms,hms⟩ : ∃ ms,(r i).miss = ms := ⟨_,rfl⟩
      have HM : Hid ((r i).miss = ms) := hms
      rw [hms] at X0
      clear hms E1
      have hRT : ∀ g,(Value.slice av i cv).ownBlock = some g → g ≠ wr.heap.size := fun g hg => Nat.ne_of_lt (CO.blocks g hg).2
      have HRT : Hid (∀ g,(Value.slice av i cv).ownBlock = some g → g ≠ wr.heap.size) := hRT
      have hRb : w.heap.size ≤ wr.heap.size := BB.size
      obtain ⟨Wa,hWa,hSa,hLa,VC⟩ := V4.lay wr 65 (.bool ms) (.bool p1) (.slice a1 n1 c1) (.slice b1 m1 d1)
      replace CO := CO.below hLa
      replace BB := BB.xm hLa
      obtain ⟨⟨y1,y2,y3,y4,y5,y6⟩,y7,y8⟩ := id VC
      rw [hWa] at y1 y2 y3 y4 y5 y6 y7 y8
      go_wp2_with fail
      clear y1 y2 y3 y4 y5 y6 y7 y8 X0 X1 X2 X3
      rw [← hWa]
      have u2 := u1.below hLa
      have v2 := v1.below hLa
      generalize wr.heap.size = R at *
      clear hWa hSa u1 v1 hLa
      refine (number9_at _ _ _ _ _ _ _ _ u2 v2).mono ?_
      rintro e wn ⟨ao1,co1,bo1,do1,rfl,hu1,uf1,hv1,vf1,bn⟩
      have X1 : RatAt wn (.agg #[.bool p1,.slice ao1 (min n1 3) co1,.slice bo1 (min m1 3) do1]) (r i).val 3 := by rw [HE.out]; exact RatAt.raw hu1 uf1 hv1 vf1 (Nat.min_le_right _ _) (Nat.min_le_right _ _)
      clear hu1 uf1 hv1 vf1 HE
      replace VC := VC.below bn
      replace CO := CO.below bn
      replace BB := BB.xm bn
      clear bn u2 v2
      generalize min n1 3 = k1 at *
      generalize min m1 3 = l1 at *
      have KK : KeepQ IsLimb wn (((wn.setCell ⟨R,1,none⟩ (.bool p1)).setCell ⟨R,2,none⟩ (.slice ao1 k1 co1)).setCell ⟨R,3,none⟩ (.slice bo1 l1 do1)) :=
        ((keepL_set VC.1.2.1 (limb_bool _) _).trans (keepL_set (cell_set_by VC.1.2.2.1 (by omega)) (limb_slice _ _ _) _)).trans (keepL_set (cell_set_by (cell_set_by VC.2.1 (by omega)) (by omega)) (limb_slice _ _ _) _)
      have X2 := X1.keepL KK
      have CO2 : COwn w.heap.size (((wn.setCell ⟨R,1,none⟩ (.bool p1)).setCell ⟨R,2,none⟩ (.slice ao1 k1 co1)).setCell ⟨R,3,none⟩ (.slice bo1 l1 do1)) (.slice av i cv) i r 3 :=
        ((CO.apart (a := ⟨R,1,none⟩) HRT.out _ (keepL_set VC.1.2.1 (limb_bool _) _)).apart (a := ⟨R,2,none⟩) HRT.out _ (keepL_set (cell_set_by VC.1.2.2.1 (by omega)) (limb_slice _ _ _) _)).apart (a := ⟨R,3,none⟩) HRT.out _ (keepL_set (cell_set_by (cell_set_by VC.2.1 (by omega)) (by omega)) (limb_slice _ _ _) _)
      have BB2 : Below w.heap.size w (((wn.setCell ⟨R,1,none⟩ (.bool p1)).setCell ⟨R,2,none⟩ (.slice ao1 k1 co1)).setCell ⟨R,3,none⟩ (.slice bo1 l1 do1)) := ((BB.setCell hRb _).setCell hRb _).setCell hRb _
      obtain ⟨⟨y1,y2,y3,y4,y5,y6⟩,y7,y8⟩ := id VC
      have hA : Below (((wn.setCell ⟨R,1,none⟩ (.bool p1)).setCell ⟨R,2,none⟩ (.slice ao1 k1 co1)).setCell ⟨R,3,none⟩ (.slice bo1 l1 do1)).heap.size (((wn.setCell ⟨R,1,none⟩ (.bool p1)).setCell ⟨R,2,none⟩ (.slice ao1 k1 co1)).setCell ⟨R,3,none⟩ (.slice bo1 l1 do1)) ((((wn.setCell ⟨R,1,none⟩ (.bool p1)).setCell ⟨R,2,none⟩ (.slice ao1 k1 co1)).setCell ⟨R,3,none⟩ (.slice bo1 l1 do1)).alloc (.cells #[.bool ms,.bool p1,.slice ao1 k1 co1,.slice bo1 l1 do1] 65)) := (Below.refl _ _).alloc (Nat.le_refl _) _
      replace X2 := X2.below hA
      replace CO2 := CO2.below hA
      replace BB2 := BB2.trans (hA.mono BB2.size)
      have HCA : Hid (CellAt ((((wn.setCell ⟨R,1,none⟩ (.bool p1)).setCell ⟨R,2,none⟩ (.slice ao1 k1 co1)).setCell ⟨R,3,none⟩ (.slice bo1 l1 do1)).alloc (.cells #[.bool ms,.bool p1,.slice ao1 k1 co1,.slice bo1 l1 do1] 65)) (fun j => [.bool ms,.bool p1,.slice ao1 k1 co1,.slice bo1 l1 do1].getD j undef) (r i) 3) := ⟨by rw [HM.out]; rfl,p1,ao1,k1,co1,bo1,l1,do1,rfl,rfl,rfl,X2⟩
      obtain ⟨cs,hcl,hco,hcp,hcn⟩ := CO2.parts
      have hsz2 := BB2.size
      have hbk := CO2.blocks
      have HCN : Hid (∀ j,j < i → CellAt ((((wn.setCell ⟨R,1,none⟩ (.bool p1)).setCell ⟨R,2,none⟩ (.slice ao1 k1 co1)).setCell ⟨R,3,none⟩ (.slice bo1 l1 do1)).alloc (.cells #[.bool ms,.bool p1,.slice ao1 k1 co1,.slice bo1 l1 do1] 65)) (fun x => cs.getD (j * 4 + x) undef) (r j) 3) := hcn
      have HCL : Hid (cs.length = i * 4) := hcl
      have hnb := news_block (heap_alloc_new (((wn.setCell ⟨R,1,none⟩ (.bool p1)).setCell ⟨R,2,none⟩ (.slice ao1 k1 co1)).setCell ⟨R,3,none⟩ (.slice bo1 l1 do1)) (.cells #[.bool ms,.bool p1,.slice ao1 k1 co1,.slice bo1 l1 do1] 65))
      rw [show (((wn.setCell ⟨R,1,none⟩ (.bool p1)).setCell ⟨R,2,none⟩ (.slice ao1 k1 co1)).setCell ⟨R,3,none⟩ (.slice bo1 l1 do1)).heap.size = wn.heap.size by simp] at hnb
      clear hcn hcl CO2 CO KK X1 X2 VC BB hA HRT hRT HM
      go_wp2_with (first
        | (at_builtin
           refine wpList_append_pure (Q' := IsLimb) rfl _ _ _ rfl w.heap.size 65 (.agg #[.bool false,.bool false,.slice none 0 0,.slice none 0 0]) 4 64 Tryz.underlying23 info_cell rfl (by omega) (.slice av i cv) rfl i cs hco hcp ⟨wn.heap.size,0,none⟩ 1 rfl [.bool ms,.bool p1,.slice ao1 k1 co1,.slice bo1 l1 do1] rfl ?g14 ?g15 ?g16 ?g17 (by omega) (by omega) hsz2 ?_
           case g14 => exact hnb
           case g15 => simp [Value.oneCell']
           case g16 => simp [limb_bool,limb_slice]
           case g17 => simp [Value.cells,limb_bool,limb_slice]
           intro gN cN w5 ho5 hg5 _ hp5 hk5
           have CO5 : COwn w.heap.size w5 (.slice (some ⟨gN,0,none⟩) (i + 1) cN) (i + 1) r 3 := COwn.more (v := .slice none 0 0) ho5 HCL.out (fun g hg => by cases hg; exact hp5) hk5 HCN.out HCA.out
           have BI5 : Below w.heap.size w w5 := below_grownB BB2 hg5 hsz2 (fun g hg => (hbk g hg).1)
           clear ho5 hg5 hp5 hk5 hco hcp BB2 hbk HCN HCA HCL hnb))
      go_roundw
      case rel => exact ⟨i + 1,by omega,by go_num,CO5,BI5⟩
      case measure => simp [intOf]; omega
    · have hie : i = min n K := by omega
      have HI : Hid (i = min n K) := hie
      by_cases hnk : i < n
      · have c1 : (i : Int) < (n : Int) := by omega
        have c2 : ¬ (i : Int) < (K : Int) := by omega
        clear hie hi hlt
        go_wp2
        go_ret
        exact ⟨_,rfl,by rw [← HI.out]; exact CO,BB⟩
      · have c1 : ¬ (i : Int) < (n : Int) := by omega
        have c1b : decide ((i : Int) < (n : Int)) = false := decide_eq_false c1
        clear hie hi hlt
        go_wp2
        go_ret
        exact ⟨_,rfl,by rw [← HI.out]; exact CO,BB⟩
end Go.Proofs.YtbbliiafkjipbaaGreatDoor
