/-
  Texts of mine, joined: what lies beneath the statement.
-/
import Derived.Test.YtjmagcgobhaenaaGreatDoorJ9f76112506
import Derived.Lib.SliceRun
namespace Go.Proofs.YtjmagcgobhaenaaGreatDoor
open Go.RowKit
set_option linter.unusedVariables false
set_option linter.unusedSimpArgs false
def MArr (B : Nat) (w : World) (v : Value) (n : Nat) (q : Nat → Rat) (ok : Nat → Prop) : Prop :=
 ∃ ao c,v = .slice ao n c ∧ n ≤ c ∧ c ≤ 9223372036854775807 ∧ (0 < n → ∃ g el,ao = some ⟨g,0,none⟩ ∧ B ≤ g ∧ Arr3 w g n el ∧ ∀ i,i < n → ok i → RepQ w (elv el i) (q i))
theorem MArr.below {B : Nat} {w w' : World} {v : Value} {n : Nat} {q : Nat → Rat} {ok : Nat → Prop} (h : MArr B w v n q ok) (hb : Below w.heap.size w w') : MArr B w' v n q ok := by
 obtain ⟨ao,c,h1,h2,h3,h4⟩ := h
 exact ⟨ao,c,h1,h2,h3,fun hn => let ⟨g,el,e,hB,hA,hR⟩ := h4 hn; ⟨g,el,e,hB,hA.below hb,fun i hi ho => (hR i hi ho).below hb⟩⟩
theorem MArr.le {B B' : Nat} {w : World} {v : Value} {n : Nat} {q : Nat → Rat} {ok : Nat → Prop} (h : MArr B w v n q ok) (hb : B' ≤ B) : MArr B' w v n q ok := by
 obtain ⟨ao,c,h1,h2,h3,h4⟩ := h
 exact ⟨ao,c,h1,h2,h3,fun hn => let ⟨g,el,e,hB,hA,hR⟩ := h4 hn; ⟨g,el,e,Nat.le_trans hb hB,hA,hR⟩⟩
theorem MArr.open {B : Nat} {w : World} {v : Value} {n : Nat} {q : Nat → Rat} {ok : Nat → Prop} (h : MArr B w v n q ok) : ∃ a c,v = .slice a n c ∧ n ≤ c ∧ c ≤ 9223372036854775807 := let ⟨ao,c,h1,h2,h3,_⟩ := h; ⟨ao,c,h1,h2,h3⟩
theorem MArr.pre {B : Nat} {w : World} {a : Option Addr} {n c : Nat} {q : Nat → Rat} {ok : Nat → Prop} (h : MArr B w (.slice a n c) n q ok) (m d : Nat) (hm : m ≤ n) (hd : m ≤ d) (hd2 : d ≤ 9223372036854775807) (ho : ∀ i,i < m → ok i) : FNew B w (.slice a m d) m q := by
 obtain ⟨ao,c',h1,h2,h3,h4⟩ := h
 cases h1
 by_cases h0 : 0 < n
 ·obtain ⟨g,el,rfl,hB,hA,hR⟩ := h4 h0
  exact ⟨⟨el,hA.row m d hm hd hd2,fun i hi => hR i (by omega) (ho i hi)⟩,fun b off c e hn => by cases e; exact hB⟩
 ·obtain rfl : m = 0 := by omega
  exact ⟨⟨fun _ _ => .bool false,⟨a,d,rfl,hd,hd2,fun h => by omega⟩,fun i hi => by omega⟩,fun b off c e hn => by omega⟩

theorem Arr3.other {w : World} {g n : Nat} {el : Nat → Nat → Value} (h : Arr3 w g n el) {g' k : Nat} (hne : g ≠ g') (x y z : Value) : Arr3 (((w.setCell ⟨g',k,none⟩ x).setCell ⟨g',k + 1,none⟩ y).setCell ⟨g',k + 2,none⟩ z) g n el :=
 ⟨fun i hi j hj => set_cell_block (set_cell_block (set_cell_block (h.1 i hi j hj) hne) hne) hne,fun i hi j hj => by simp [h.2.1 i hi j hj],h.2.2⟩
theorem FNew.cut {B : Nat} {w : World} {a : Option Addr} {n c : Nat} {q : Nat → Rat} (h : FNew B w (.slice a n c) n q) (m : Nat) (hm : m ≤ n) (hc : n ≤ c) (hc2 : c ≤ 9223372036854775807) : FNew B w (.slice a m c) m q := by
 obtain ⟨⟨el,⟨a',c',h1,h2,h3,h4⟩,h5⟩,h6⟩ := h
 cases h1
 exact ⟨⟨el,⟨a,c,rfl,by omega,hc2,fun h0 => let ⟨b,off,e,hcc⟩ := h4 (by omega); ⟨b,off,e,fun i hi => hcc i (by omega)⟩⟩,fun i hi => h5 i (by omega)⟩,fun b off c' e hn => by cases e; exact h6 b off _ rfl (by omega)⟩
theorem Arr3.e3 {w : World} {g n : Nat} {el : Nat → Nat → Value} (h : Arr3 w g n el) (i : Nat) (hi : i < n) {q : Rat} (hr : RepQ w (elv el i) q) : ∃ p ao m d bo k e,E3 w g (i * 3) (.bool p) (.slice ao m d) (.slice bo k e) ∧ RepQ w (.agg #[.bool p,.slice ao m d,.slice bo k e]) q := by
 obtain ⟨p,ao,m,d,bo,k,e,he⟩ := hr.open
 rw [he] at hr
 simp only [elv,Value.agg.injEq,Array.mk.injEq,List.cons.injEq,and_true] at he
 refine ⟨p,ao,m,d,bo,k,e,⟨?_,?_,?_⟩,hr⟩
 ·have := h.1 i hi 0 (by omega); rw [he.1] at this; exact this
 ·have := h.1 i hi 1 (by omega); rw [he.2.1] at this; exact this
 ·have := h.1 i hi 2 (by omega); rw [he.2.2] at this; exact this
def Reps (w : World) (el : Nat → Nat → Value) (lo hi : Nat) (q : Nat → Rat) : Prop := ∀ i,lo ≤ i → i < hi → RepQ w (elv el i) (q i)
theorem Reps.below {w w' : World} {el : Nat → Nat → Value} {lo hi : Nat} {q : Nat → Rat} (h : Reps w el lo hi q) (hb : Below w.heap.size w w') : Reps w' el lo hi q := fun i h1 h2 => (h i h1 h2).below hb
theorem Reps.keep {w w' : World} {el : Nat → Nat → Value} {lo hi : Nat} {q : Nat → Rat} (h : Reps w el lo hi q) (hk : KeepQ IsNum w w') : Reps w' el lo hi q := fun i h1 h2 => (h i h1 h2).keep hk
theorem Reps.put {w : World} {el : Nat → Nat → Value} {k hi : Nat} {q : Nat → Rat} {x y z : Value} (h : Reps w el (k + 1) hi q) (hr : RepQ w (.agg #[x,y,z]) (q k)) : Reps w (upd3 el k x y z) k hi q := by
 intro i h1 h2
 by_cases e : i = k
 ·subst e; simp only [elv,upd3,if_pos]; exact hr
 ·simp only [elv]; rw [upd3_other _ _ _ _ _ _ e]; exact h i (by omega) h2
theorem Reps.upd {w : World} {el : Nat → Nat → Value} {j n : Nat} {q q' : Nat → Rat} {x y z : Value} (h : Reps w el 0 n q) (hr : RepQ w (.agg #[x,y,z]) (q' j)) (hq : ∀ i,i ≠ j → q' i = q i) : Reps w (upd3 el j x y z) 0 n q' := by
 intro i h1 h2
 by_cases e : i = j
 ·subst e; simp only [elv,upd3,if_pos]; exact hr
 ·simp only [elv]; rw [upd3_other _ _ _ _ _ _ e,hq i e]; exact h i h1 h2
def TupQ (w : World) (v : Value) (q : Rat) : Prop := ∃ x,v = .tuple #[x,.int .i64 0] ∧ RepQ w x q
theorem TupQ.below {w w' : World} {v : Value} {q : Rat} (h : TupQ w v q) (hb : Below w.heap.size w w') : TupQ w' v q := let ⟨x,e,hx⟩ := h; ⟨x,e,hx.below hb⟩
end Go.Proofs.YtjmagcgobhaenaaGreatDoor
