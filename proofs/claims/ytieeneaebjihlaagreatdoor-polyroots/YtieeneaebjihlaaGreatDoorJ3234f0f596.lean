/-
  Texts of mine, joined: what lies beneath the statement.
-/
import Derived.Test.YtieeneaebjihlaaGreatDoorJc0b533a066
import Derived.Lib.SliceRun
import Derived.Test.YtieeneaebjihlaaGreatDoorJ0bdc9dde62
namespace Go.Proofs.YtieeneaebjihlaaGreatDoor
open Go.RowKit
set_option linter.unusedVariables false
set_option linter.unusedSimpArgs false

/-- An array of the call's own (from B on): those of which ok is said are numbers in their form. -/
def MArr (B : Nat) (w : World) (v : Value) (n : Nat) (q : Nat → Rat) (ok : Nat → Prop) : Prop :=
 ∃ ao c,v = .slice ao n c ∧ n ≤ c ∧ c ≤ 9223372036854775807 ∧ (0 < n → ∃ g el,ao = some ⟨g,0,none⟩ ∧ B ≤ g ∧ Arr3 w g n el ∧ ∀ i,i < n → ok i → RepQ w (elv el i) (q i))
theorem MArr.below {B : Nat} {w w' : World} {v : Value} {n : Nat} {q : Nat → Rat} {ok : Nat → Prop} (h : MArr B w v n q ok) (hb : Below w.heap.size w w') : MArr B w' v n q ok := by
 obtain ⟨ao,c,h1,h2,h3,h4⟩ := h
 exact ⟨ao,c,h1,h2,h3,fun hn => let ⟨g,el,e,hB,hA,hR⟩ := h4 hn; ⟨g,el,e,hB,hA.below hb,fun i hi ho => (hR i hi ho).below hb⟩⟩
theorem MArr.le {B B' : Nat} {w : World} {v : Value} {n : Nat} {q : Nat → Rat} {ok : Nat → Prop} (h : MArr B w v n q ok) (hb : B' ≤ B) : MArr B' w v n q ok := by
 obtain ⟨ao,c,h1,h2,h3,h4⟩ := h
 exact ⟨ao,c,h1,h2,h3,fun hn => let ⟨g,el,e,hB,hA,hR⟩ := h4 hn; ⟨g,el,e,Nat.le_trans hb hB,hA,hR⟩⟩
theorem MArr.open {B : Nat} {w : World} {v : Value} {n : Nat} {q : Nat → Rat} {ok : Nat → Prop} (h : MArr B w v n q ok) : ∃ a c,v = .slice a n c ∧ n ≤ c ∧ c ≤ 9223372036854775807 := let ⟨ao,c,h1,h2,h3,_⟩ := h; ⟨ao,c,h1,h2,h3⟩
/-- The first ones. -/
theorem MArr.pre {B : Nat} {w : World} {a : Option Addr} {n c : Nat} {q : Nat → Rat} {ok : Nat → Prop} (h : MArr B w (.slice a n c) n q ok) (m d : Nat) (hm : m ≤ n) (hd : m ≤ d) (hd2 : d ≤ 9223372036854775807) (ho : ∀ i,i < m → ok i) : FNew B w (.slice a m d) m q := by
 obtain ⟨ao,c',h1,h2,h3,h4⟩ := h
 cases h1
 by_cases h0 : 0 < n
 ·obtain ⟨g,el,rfl,hB,hA,hR⟩ := h4 h0
  exact ⟨⟨el,hA.row m d hm hd hd2,fun i hi => hR i (by omega) (ho i hi)⟩,fun b off c e hn => by cases e; exact hB⟩
 ·obtain rfl : m = 0 := by omega
  exact ⟨⟨fun _ _ => .bool false,⟨a,d,rfl,hd,hd2,fun h => by omega⟩,fun i hi => by omega⟩,fun b off c e hn => by omega⟩
/-- Behind 'make': nothing is said of any. -/
theorem marr_made {w w' : World} {n : Nat} {e : TypeId} (q : Nat → Rat) (hn : n ≤ 1000000) (h : w'.ownsRow w.heap.size e 3 (.slice (some ⟨w.heap.size,0,none⟩) n n) n (madeCells (Value.agg #[.bool false,.slice none 0 0,.slice none 0 0]).cells (n * 3)).toList) : MArr w.heap.size w' (.slice (some ⟨w.heap.size,0,none⟩) n n) n q (fun _ => False) :=
 ⟨_,_,rfl,Nat.le_refl _,by omega,fun _ => ⟨_,_,rfl,Nat.le_refl _,arr3_made h,fun _ _ h => absurd h id⟩⟩
/-- The cells of a row, one behind the other. -/
def flat3 (el : Nat → Nat → Value) (n : Nat) : List Value := (List.range (n * 3)).map fun k => el (k / 3) (k % 3)
theorem flat3_len (el : Nat → Nat → Value) (n : Nat) : (flat3 el n).length = n * 3 := by simp [flat3]
theorem flat3_at (el : Nat → Nat → Value) (n i j : Nat) (hi : i < n) (hj : j < 3) : (flat3 el n)[i * 3 + j]? = some (el i j) := by
 have hlt : i * 3 + j < n * 3 := by omega
 simp only [flat3,List.getElem?_map,List.getElem?_range hlt,Option.map_some]
 rw [show (i * 3 + j) / 3 = i by omega,show (i * 3 + j) % 3 = j by omega]
theorem flat3_mem {el : Nat → Nat → Value} {n : Nat} {u : Value} (h : u ∈ flat3 el n) : ∃ i j,i < n ∧ j < 3 ∧ u = el i j := by
 simp only [flat3,List.mem_map,List.mem_range] at h
 obtain ⟨k,hk,rfl⟩ := h
 exact ⟨k / 3,k % 3,by omega,by omega,rfl⟩
theorem rep_cells {w : World} {el : Nat → Nat → Value} {i : Nat} {q : Rat} (h : RepQ w (elv el i) q) : ∀ j,j < 3 → (el i j).oneCell' = true ∧ ¬ IsNum (el i j) := by
 obtain ⟨p,ao,n,c,bo,m,d,he⟩ := h.open
 simp only [elv,Value.agg.injEq,Array.mk.injEq,List.cons.injEq,and_true] at he
 intro j hj
 rcases (show j = 0 ∨ j = 1 ∨ j = 2 by omega) with rfl | rfl | rfl
 ·rw [he.1]; exact ⟨rfl,num_bool _⟩
 ·rw [he.2.1]; exact ⟨rfl,num_slice _ _ _⟩
 ·rw [he.2.2]; exact ⟨rfl,num_slice _ _ _⟩
theorem marr_owns {w : World} {B n : Nat} {e : TypeId} {v : Value} {q : Nat → Rat} {el : Nat → Nat → Value} (h : w.ownsRow B e 3 v n (flat3 el n)) (hr : ∀ i,i < n → RepQ w (elv el i) (q i)) : MArr B w v n q (fun _ => True) := by
 rcases h.2 with ⟨rfl,rfl⟩ | ⟨g,cap,cur,rfl,hb,hg,hnc,hcm,rest⟩
 ·exact ⟨none,0,rfl,Nat.le_refl _,by omega,fun h => by omega⟩
 ·refine ⟨_,_,rfl,hnc,by unfold maxLen at hcm; omega,fun _ => ⟨g,el,rfl,hb,⟨fun i hi j hj => owns_cell h (flat3_at el n i j hi hj),fun i hi j hj => h.frozenAt _,fun i hi j hj => (rep_cells (hr i hi) j hj).2⟩,fun i hi _ => hr i hi⟩⟩


theorem owns_empty (w : World) (B : Nat) (e : TypeId) (size : Nat) (hB : B ≤ w.heap.size) : (w.alloc (.cells #[] e)).ownsRow B e size (.slice (some ⟨w.heap.size,0,none⟩) 0 0) 0 [] :=
 ⟨by simp,Or.inr ⟨w.heap.size,0,#[],rfl,hB,heap_alloc_new w _,Nat.le_refl _,by unfold maxLen; omega,by simp,by simp⟩⟩


set_option maxRecDepth 20000 in
set_option maxHeartbeats 2000000 in
theorem pclone_at (v : Value) (n : Nat) (q : Nat → Rat) (w : World) (hv : FRow w v n q) (hn : n ≤ 1000000) :
  Calls Tryz.prog 53 #[v] w fun e w' => ∃ x,e = .returned x ∧ MArr w.heap.size w' x n q (fun _ => True) ∧ Below w.heap.size w w' := by
 have q22 : ∀ (w : World) (a : Option Addr) (n c n' c' : Nat),Sem.run Tryz.prog (binOp .eql 22 (.slice a n c) (.slice none n' c')) w = .ok (.bool a.isNone) w := fun w a n c n' c' => Lib.run_eql_slice_nil w _ _ a n c n' c' Tryz.underlying22
 obtain ⟨el,⟨a,c,rfl,hnc,hc63,hcell⟩,hR⟩ := hv
 have BB : Below w.heap.size w w := Below.refl _ _
 cases a with
 | none =>
  have h0 : n = 0 := by
   rcases Nat.eq_zero_or_pos n with h | h
   ·exact h
   ·obtain ⟨b,off,e,_⟩ := hcell h; cases e
  subst h0
  go_enter Tryz.func53,Tryz.ntmps53
  go_wp2
  go_ret
  exact ⟨_,rfl,⟨none,0,rfl,Nat.le_refl _,by omega,fun h => by omega⟩,BB⟩
 | some ad =>
  obtain ⟨i0,hi,hz0,hz1,hz2⟩ := info_parts info_wrat
  have hnews : Hid (∀ (W : World),Below w.heap.size w W → ∀ j u,(flat3 el n)[j]? = some u → W.cell? (ad.add j) = some u) := by
   intro W hb j u hu
   have hlt : j < n * 3 := by have := (List.getElem?_eq_some_iff.1 hu).1; rw [flat3_len] at this; exact this
   obtain ⟨b,off,e,hc⟩ := hcell (by omega)
   cases e
   have h1 := hc (j / 3) (by omega) (j % 3) (by omega)
   have h2 := flat3_at el n (j / 3) (j % 3) (by omega) (by omega)
   rw [show j / 3 * 3 + j % 3 = j by omega] at h2
   rw [h2] at hu
   cases hu
   rw [show off + j / 3 * 3 + j % 3 = off + j by omega] at h1
   rw [add_off]
   exact (hb.cell (World.block_lt_of_cell? _ _ h1)).trans h1
  have h1c : Hid (∀ u ∈ flat3 el n,u.oneCell' = true) := fun u hu => by
   obtain ⟨i,j,hi,hj,rfl⟩ := flat3_mem hu
   exact (rep_cells (hR i hi) j hj).1
  have HR : Hid (∀ i,i < n → RepQ w (elv el i) (q i)) := hR
  clear hR hcell
  go_enter Tryz.func53,Tryz.ntmps53
  go_wp2_with (at_builtin; refine wpList_append_own _ rfl _ _ 22 rfl w.heap.size 28 i0 (.agg #[.bool false,.slice none 0 0,.slice none 0 0]) 3 56 Tryz.underlying22 hi hz0 hz1 hz2 rfl (by omega) _ 0 [] rfl (owns_empty _ _ _ _ (Nat.le_refl _)) ad n c (flat3 el n) rfl (flat3_len _ _) (hnews.out _ ((Below.refl _ _).alloc (Nat.le_refl _) _)) h1c.out (by unfold maxLen; omega) (by omega) (by simp) ?_)
  intro v' w' ho hg _
  have b1 : Below w.heap.size w (w.alloc (.cells #[] 28)) := (Below.refl _ _).alloc (Nat.le_refl _) _
  have b2 : Below w.heap.size w w' := b1.grown hg (by simp) (fun k e => by cases e; exact Nat.le_refl _)
  have M := marr_owns (q := q) ho (fun i hi => (HR.out i hi).below b2)
  clear ho hg hnews h1c HR
  go_wp2
  go_ret
  exact ⟨_,rfl,M,b2⟩

/-- One step of dividing. -/
def stepR (b : Nat → Rat) (below k : Nat) (R : Nat → Rat) : Nat → Rat := fun j => if k ≤ j ∧ j < k + below then R j - R (k + below) / b below * b (j - k) else R j
/-- The rest, and the quotient, of so many steps. -/
def divR (b : Nat → Rat) (below : Nat) : Nat → (Nat → Rat) → Nat → Rat
 | 0,R => R
 | k + 1,R => divR b below k (stepR b below k R)
def divQ (b : Nat → Rat) (below : Nat) : Nat → (Nat → Rat) → Nat → Rat
 | 0,_ => fun _ => 0
 | k + 1,R => fun j => if j = k then R (k + below) / b below else divQ b below k (stepR b below k R) j
/-- So far in a step. -/
def partR (b : Nat → Rat) (k : Nat) (c : Rat) (R : Nat → Rat) (i : Nat) : Nat → Rat := fun j => if k ≤ j ∧ j < k + i then R j - c * b (j - k) else R j
theorem partR_zero (b : Nat → Rat) (k : Nat) (c : Rat) (R : Nat → Rat) : partR b k c R 0 = R := by
 funext j; unfold partR; rw [if_neg (by omega)]
theorem partR_here (b : Nat → Rat) (k : Nat) (c : Rat) (R : Nat → Rat) (i : Nat) : partR b k c R i (k + i) = R (k + i) := by unfold partR; rw [if_neg (by omega)]
theorem partR_next (b : Nat → Rat) (k : Nat) (c : Rat) (R : Nat → Rat) (i j : Nat) : partR b k c R (i + 1) j = if j = k + i then R (k + i) - c * b i else partR b k c R i j := by
 unfold partR
 by_cases e : j = k + i
 ·rw [if_pos e,if_pos (by omega),e,Nat.add_sub_cancel_left]
 ·rw [if_neg e]
  by_cases h : k ≤ j ∧ j < k + i
  ·rw [if_pos h,if_pos (by omega)]
  ·rw [if_neg h,if_neg (by omega)]
/-- How long the numbers grow. -/
def szS (L : Nat) : Nat → Nat
 | 0 => L
 | t + 1 => 2 * szS L t + 2 * L + 1
theorem szS_mono (L : Nat) : ∀ t m,t ≤ m → szS L t ≤ szS L m := by
 intro t m h
 induction h with
 | refl => exact Nat.le_refl _
 | step h ih => exact Nat.le_trans ih (by show _ ≤ 2 * szS L _ + 2 * L + 1; omega)
theorem szS_ge (L : Nat) (t : Nat) : L ≤ szS L t := szS_mono L 0 t (Nat.zero_le _)

/-- 'make' as a step of a region that draws. -/
theorem step_make {P : Program} (w : World) {ops : Array Oper} {o : Oper} {a : Act} {K : Act → World → Prop} {Q : Exit → Act → World → Prop} {E : Prop} {T : Array Value} (hg : o.guard = none) (l c : Operand) (t : TypeId) (hop : o.op = Op.makeSlice t l c)
  (base : Nat) (e : TypeId) (i : TypeInfo) (z : Value) (size : Nat) (h1 : P.underlying t = some (.slice e)) (h2 : P.info? e = some i) (h3 : i.zero = some z) (h4 : i.size = size)
  (kl kc : IntKind) (L C : Int) (n : Nat) (hl : a.eval l = .int kl L) (hc : a.eval c = .int kc C) (hL : L = (n : Int)) (hC : C = (n : Int)) (b2 : i.bytes * n ≤ 281474976710656) (b3 : n ≤ maxLen) (b4 : base ≤ w.heap.size)
  (hK : ∀ w',w'.ownsRow base e size (.slice (some ⟨w.heap.size,0,none⟩) n n) n (madeCells z.cells (n * size)).toList → w.grownBy w' none → K (a.put o.dst (.slice (some ⟨w.heap.size,0,none⟩) n n)) w') :
  if Region.wanted o (yielded ops T) = true then Oper.wp P o a w K Q else E := by
 have hw : Region.wanted o (yielded ops T) = true := by simp [Region.wanted,hg]
 rw [if_pos hw]
 obtain ⟨w',hrun,r1,r2⟩ := run_make_full (P := P) w base t e i z size h1 h2 h3 h4 kl kc n b2 b3 b4
 subst hL
 subst hC
 unfold Oper.wp
 simp [execOp,hop,hl,hc,hrun,Result.andThen]
 exact hK w' r1 r2
/-- Two arrays lie apart. -/
def Apart (v v' : Value) : Prop := ∀ g g',v.ownBlock = some g → v'.ownBlock = some g' → g ≠ g'
theorem MArr.blk {B : Nat} {w : World} {v : Value} {n : Nat} {q : Nat → Rat} {ok : Nat → Prop} (h : MArr B w v n q ok) (hn : 0 < n) : ∀ g,v.ownBlock = some g → B ≤ g ∧ g < w.heap.size := by
 obtain ⟨ao,c,rfl,_,_,h4⟩ := h
 obtain ⟨g',el,rfl,hB,hA,_⟩ := h4 hn
 intro g hg
 simp only [Value.ownBlock,Option.some.injEq] at hg
 subst hg
 exact ⟨hB,hA.lt hn⟩
theorem apart_new {B : Nat} {w : World} {v : Value} {n m c : Nat} {q : Nat → Rat} {ok : Nat → Prop} (h : MArr B w v n q ok) (hn : 0 < n) : Apart (.slice (some ⟨w.heap.size,0,none⟩) m c) v := by
 intro g g' h1 h2
 simp only [Value.ownBlock,Option.some.injEq] at h1
 have := (h.blk hn g' h2).2
 omega
theorem apart_old {B : Nat} {w w' : World} {v v' : Value} {n m : Nat} {q q' : Nat → Rat} {ok ok' : Nat → Prop} (h : MArr B w v n q ok) (h' : MArr w.heap.size w' v' m q' ok') (hn : 0 < n) (hm : 0 < m) : Apart v v' := by
 intro g g' h1 h2
 have := (h.blk hn g h1).2
 have := (h'.blk hm g' h2).1
 omega
theorem Arr3.other {w : World} {g n : Nat} {el : Nat → Nat → Value} (h : Arr3 w g n el) {g' k : Nat} (hne : g ≠ g') (x y z : Value) : Arr3 (((w.setCell ⟨g',k,none⟩ x).setCell ⟨g',k + 1,none⟩ y).setCell ⟨g',k + 2,none⟩ z) g n el :=
 ⟨fun i hi j hj => set_cell_block (set_cell_block (set_cell_block (h.1 i hi j hj) hne) hne) hne,fun i hi j hj => by simp [h.2.1 i hi j hj],h.2.2⟩
theorem FNew.cut {B : Nat} {w : World} {a : Option Addr} {n c : Nat} {q : Nat → Rat} (h : FNew B w (.slice a n c) n q) (m : Nat) (hm : m ≤ n) (hc : n ≤ c) (hc2 : c ≤ 9223372036854775807) : FNew B w (.slice a m c) m q := by
 obtain ⟨⟨el,⟨a',c',h1,h2,h3,h4⟩,h5⟩,h6⟩ := h
 cases h1
 exact ⟨⟨el,⟨a,c,rfl,by omega,hc2,fun h0 => let ⟨b,off,e,hcc⟩ := h4 (by omega); ⟨b,off,e,fun i hi => hcc i (by omega)⟩⟩,fun i hi => h5 i (by omega)⟩,fun b off c' e hn => by cases e; exact h6 b off _ rfl (by omega)⟩
theorem FNew.trim {B : Nat} {w : World} {a : Option Addr} {n c : Nat} {q : Nat → Rat} (h : FNew B w (.slice a n c) n q) : FNew B w (.slice a (trimN q n) (trimN q n)) (trimN q n) q := by
 have hle := trimN_le q n
 obtain ⟨⟨el,⟨a',c',h1,h2,h3,h4⟩,h5⟩,h6⟩ := h
 cases h1
 exact ⟨⟨el,⟨a,_,rfl,Nat.le_refl _,by omega,fun h0 => let ⟨b,off,e,hcc⟩ := h4 (by omega); ⟨b,off,e,fun i hi => hcc i (by omega)⟩⟩,fun i hi => h5 i (by omega)⟩,fun b off c' e hn => by cases e; exact h6 b off _ rfl (by omega)⟩
theorem MQ_none {B : Nat} {w : World} {a : Option Addr} {n c : Nat} {q q' : Nat → Rat} {ok : Nat → Prop} (h : MArr B w (.slice a n c) n q ok) (h0 : n = 0) : FNew B w (.slice a n c) n q' := by
 subst h0
 obtain ⟨ao,c',h1,h2,h3,_⟩ := h
 cases h1
 exact ⟨⟨fun _ _ => .bool false,⟨a,c,rfl,h2,h3,fun h => by omega⟩,fun i hi => by omega⟩,fun b off c e hn => by omega⟩
theorem Arr3.e3 {w : World} {g n : Nat} {el : Nat → Nat → Value} (h : Arr3 w g n el) (i : Nat) (hi : i < n) {q : Rat} (hr : RepQ w (elv el i) q) : ∃ p ao m d bo k e,E3 w g (i * 3) (.bool p) (.slice ao m d) (.slice bo k e) ∧ RepQ w (.agg #[.bool p,.slice ao m d,.slice bo k e]) q := by
 obtain ⟨p,ao,m,d,bo,k,e,he⟩ := hr.open
 rw [he] at hr
 simp only [elv,Value.agg.injEq,Array.mk.injEq,List.cons.injEq,and_true] at he
 refine ⟨p,ao,m,d,bo,k,e,⟨?_,?_,?_⟩,hr⟩
 ·have := h.1 i hi 0 (by omega); rw [he.1] at this; exact this
 ·have := h.1 i hi 1 (by omega); rw [he.2.1] at this; exact this
 ·have := h.1 i hi 2 (by omega); rw [he.2.2] at this; exact this

/-- Those from lo on, below hi, are numbers in their form. -/
def Reps (w : World) (el : Nat → Nat → Value) (lo hi : Nat) (q : Nat → Rat) : Prop := ∀ i,lo ≤ i → i < hi → RepQ w (elv el i) (q i)
theorem Reps.below {w w' : World} {el : Nat → Nat → Value} {lo hi : Nat} {q : Nat → Rat} (h : Reps w el lo hi q) (hb : Below w.heap.size w w') : Reps w' el lo hi q := fun i h1 h2 => (h i h1 h2).below hb
theorem Reps.keep {w w' : World} {el : Nat → Nat → Value} {lo hi : Nat} {q : Nat → Rat} (h : Reps w el lo hi q) (hk : KeepQ IsNum w w') : Reps w' el lo hi q := fun i h1 h2 => (h i h1 h2).keep hk
theorem Reps.put {w : World} {el : Nat → Nat → Value} {k hi : Nat} {q : Nat → Rat} {x y z : Value} (h : Reps w el (k + 1) hi q) (hr : RepQ w (.agg #[x,y,z]) (q k)) : Reps w (upd3 el k x y z) k hi q := by
 intro i h1 h2
 by_cases e : i = k
 ·subst e; simp only [elv,upd3,if_pos]; exact hr
 ·simp only [elv]; rw [upd3_other _ _ _ _ _ _ e]; exact h i (by omega) h2
theorem Reps.upd {w : World} {el : Nat → Nat → Value} {j n : Nat} {q q' : Nat → Rat} {x y z : Value} (h : Reps w el 0 n q) (hr : RepQ w (.agg #[x,y,z]) (q' j)) (hq : ∀ i,i ≠ j → q' i = q i) : Reps w (upd3 el j x y z) 0 n q' := by
 intro i h1 h2
 by_cases e : i = j
 ·subst e; simp only [elv,upd3,if_pos]; exact hr
 ·simp only [elv]; rw [upd3_other _ _ _ _ _ _ e,hq i e]; exact h i h1 h2
/-- What Div answers. -/
def TupQ (w : World) (v : Value) (q : Rat) : Prop := ∃ x,v = .tuple #[x,.int .i64 0] ∧ RepQ w x q
theorem TupQ.below {w w' : World} {v : Value} {q : Rat} (h : TupQ w v q) (hb : Below w.heap.size w w') : TupQ w' v q := let ⟨x,e,hx⟩ := h; ⟨x,e,hx.below hb⟩
theorem stepR_sz {b R : Nat → Rat} {below k n L S lb : Nat} (hR : ∀ i,i < n → qsz (R i) ≤ S) (hb : ∀ i,i < lb → qsz (b i) ≤ L) (hkb : k + below < n) (hl : below < lb) : ∀ i,i < n → qsz (stepR b below k R i) ≤ 2 * S + 2 * L + 1 := by
 intro i hi
 unfold stepR; split
 ·rename_i h
  have h1 := qsz_div _ _ (hR (k + below) hkb) (hb below hl)
  have h2 := qsz_mul _ _ h1 (hb (i - k) (by omega))
  exact Nat.le_trans (qsz_sub _ _ (hR i hi) h2) (by omega)
 ·exact Nat.le_trans (hR i hi) (by omega)


set_option maxRecDepth 20000 in
set_option maxHeartbeats 8000000 in
theorem pdivide_at (u v : Value) (la lb : Nat) (qa qb : Nat → Rat) (L : Nat) (w : World) (ha : FRow w u la qa) (hb : FRow w v lb qb) (sa : ∀ i,i < la → qsz (qa i) ≤ L) (sb : ∀ i,i < lb → qsz (qb i) ≤ L) (ht : Tab w) (hla : la ≤ 1000) (hlb : lb ≤ 1000) (hlb0 : 0 < lb) (hq : qb (lb - 1) ≠ 0) (hL : 1 ≤ L) (hS : szS L (la - (lb - 1)) ≤ 40000) :
  Calls Tryz.prog 33 #[u,v] w fun e w' => ∃ x y,e = .returned (.tuple #[x,y]) ∧ FNew w.heap.size w' x (trimN (divQ qb (lb - 1) (la - (lb - 1)) qa) (la - (lb - 1))) (divQ qb (lb - 1) (la - (lb - 1)) qa) ∧ FNew w.heap.size w' y (trimN (divR qb (lb - 1) (la - (lb - 1)) qa) (min la (lb - 1))) (divR qb (lb - 1) (la - (lb - 1)) qa) ∧ Below w.heap.size w w' := by
 obtain ⟨i0,hi,hz0,hz1,hz2⟩ := info_parts info_wrat
 obtain ⟨ao,c,rfl⟩ := ha.open
 obtain ⟨ao2,c2,rfl⟩ := hb.open
 have hqb := hb.q L sb
 have BB : Below w.heap.size w w := Below.refl _ _
 obtain ⟨below,hbl⟩ : ∃ below,below = lb - 1 := ⟨_,rfl⟩
 rw [← hbl] at hq hS ⊢
 have d1_ : (lb : Int) - 1 = (below : Int) := by omega
 have hbl2 : below < lb := by omega
 clear hbl
 obtain ⟨lq,hlq⟩ : ∃ lq,lq = la - below := ⟨_,rfl⟩
 rw [← hlq] at hS ⊢
 have HLQ : Hid (lq = la - below) := hlq
 have d2_ : max (0 : Int) ((la : Int) - (below : Int)) = (lq : Int) := by omega
 have hlql : lq ≤ la := by omega
 have hdis : lq = 0 ∧ la ≤ below ∨ 0 < lq ∧ la = lq + below := by omega
 have HDIS : Hid (lq = 0 ∧ la ≤ below ∨ 0 < lq ∧ la = lq + below) := hdis
 clear hlq hdis
 by_cases h0 : lq = 0
 ·have H0 : Hid (lq = 0) := h0
  clear h0
  have dw : IntKind.i64.wrap ((la : Int) - (below : Int)) = (la : Int) - (below : Int) := by rw [IntKind.wrap_i64]; omega
  go_enter Tryz.func33,Tryz.ntmps33
  go_wp2
  refine wp_region_until 8 #[true,true,true,true,true,true,true,true,false,false] (fun aF lsd a' w' => ∃ vu0 vu1 vu2 vu3 vu4 vu5 vu6 vu7 : Value,a' = (((((((aF.put (some 14) vu0).put (some 15) vu1).put (some 16) vu2).put (some 17) vu3).put (some 18) vu4).put (some 19) vu5).put (some 20) vu6).put (some 21) vu7 ∧ Below w.heap.size w w' ∧ (lsd.getD 0 false = true → vu0 = .slice ao la c) ∧ (lsd.getD 1 false = true → vu1 = .int .i64 (la : Int)) ∧ (lsd.getD 2 false = true → vu2 = .int .i64 (below : Int)) ∧ (lsd.getD 3 false = true → vu3 = .int .i64 ((la : Int) - (below : Int))) ∧ (lsd.getD 4 false = true → vu4 = .int .i64 (lq : Int)) ∧ (lsd.getD 5 false = true → MArr w.heap.size w' vu5 (lq) (fun _ => 0) (fun _ => False)) ∧ (lsd.getD 6 false = true → vu6 = .slice ao la c) ∧ (lsd.getD 7 false = true → MArr w.heap.size w' vu7 la qa (fun _ => True))) (by kernel_rfl) (by decide) (by kernel_rfl) (by rfl) (by kernel_rfl) ?_ ?_ ?_
  ·exact ⟨_,_,_,_,_,_,_,_,by simp only [Act.put,xL4,xL5,xL6]; rfl,(Below.refl _ _).drew,fun h => absurd h (fun h => mark_none h),fun h => absurd h (fun h => mark_none h),fun h => absurd h (fun h => mark_none h),fun h => absurd h (fun h => mark_none h),fun h => absurd h (fun h => mark_none h),fun h => absurd h (fun h => mark_none h),fun h => absurd h (fun h => mark_none h),fun h => absurd h (fun h => mark_none h)⟩
  ·rintro lsd au wn iu hszu ⟨vu0,vu1,vu2,vu3,vu4,vu5,vu6,vu7,rfl,hbu,fu0,fu1,fu2,fu3,fu4,fu5,fu6,fu7⟩ himu hru
   rcases (show iu = 0 ∨ iu = 1 ∨ iu = 2 ∨ iu = 3 ∨ iu = 4 ∨ iu = 5 ∨ iu = 6 ∨ iu = 7 by omega) with rfl | rfl | rfl | rfl | rfl | rfl | rfl | rfl
   ·refine wpOp_shut (by rfl) (fun K hK => ?_)
    simp only [Act.put,xL4,xL5,xL6]
    go_simp
    exact hK.out _ _ ⟨(.slice ao la c),vu1,vu2,vu3,vu4,vu5,vu6,vu7,by simp only [Act.put,xL4,xL5,xL6],hbu,fun _ => rfl,fun h => fu1 (mark_of (by decide) h),fun h => fu2 (mark_of (by decide) h),fun h => fu3 (mark_of (by decide) h),fun h => fu4 (mark_of (by decide) h),fun h => fu5 (mark_of (by decide) h),fun h => fu6 (mark_of (by decide) h),fun h => fu7 (mark_of (by decide) h)⟩
   ·have eu0 := fu0 (dep_of 0 hru rfl (by kernel_rfl))
    replace eu0 := eu0.symm
    subst eu0
    refine wpOp_shut (by rfl) (fun K hK => ?_)
    simp only [Act.put,xL4,xL5,xL6]
    go_simp
    exact hK.out _ _ ⟨(.slice ao la c),(.int .i64 (la : Int)),vu2,vu3,vu4,vu5,vu6,vu7,by simp only [Act.put,xL4,xL5,xL6],hbu,fun _ => rfl,fun _ => rfl,fun h => fu2 (mark_of (by decide) h),fun h => fu3 (mark_of (by decide) h),fun h => fu4 (mark_of (by decide) h),fun h => fu5 (mark_of (by decide) h),fun h => fu6 (mark_of (by decide) h),fun h => fu7 (mark_of (by decide) h)⟩
   ·refine wpOp_shut (by rfl) (fun K hK => ?_)
    simp only [Act.put,xL4,xL5,xL6]
    go_simp
    exact hK.out _ _ ⟨vu0,vu1,(.int .i64 (below : Int)),vu3,vu4,vu5,vu6,vu7,by simp only [Act.put,xL4,xL5,xL6],hbu,fun h => fu0 (mark_of (by decide) h),fun h => fu1 (mark_of (by decide) h),fun _ => rfl,fun h => fu3 (mark_of (by decide) h),fun h => fu4 (mark_of (by decide) h),fun h => fu5 (mark_of (by decide) h),fun h => fu6 (mark_of (by decide) h),fun h => fu7 (mark_of (by decide) h)⟩
   ·have eu1 := fu1 (dep_of 1 hru rfl (by kernel_rfl))
    have eu2 := fu2 (dep_of 2 hru rfl (by kernel_rfl))
    replace eu1 := eu1.symm
    subst eu1
    replace eu2 := eu2.symm
    subst eu2
    refine wpOp_shut (by rfl) (fun K hK => ?_)
    simp only [Act.put,xL4,xL5,xL6]
    go_simp
    exact hK.out _ _ ⟨vu0,(.int .i64 (la : Int)),(.int .i64 (below : Int)),(.int .i64 ((la : Int) - (below : Int))),vu4,vu5,vu6,vu7,by simp only [Act.put,xL4,xL5,xL6],hbu,fun h => fu0 (mark_of (by decide) h),fun _ => rfl,fun _ => rfl,fun _ => rfl,fun h => fu4 (mark_of (by decide) h),fun h => fu5 (mark_of (by decide) h),fun h => fu6 (mark_of (by decide) h),fun h => fu7 (mark_of (by decide) h)⟩
   ·have eu3 := fu3 (dep_of 3 hru rfl (by kernel_rfl))
    replace eu3 := eu3.symm
    subst eu3
    refine wpOp_shut (by rfl) (fun K hK => ?_)
    simp only [Act.put,xL4,xL5,xL6]
    go_simp
    exact hK.out _ _ ⟨vu0,vu1,vu2,(.int .i64 ((la : Int) - (below : Int))),(.int .i64 (lq : Int)),vu5,vu6,vu7,by simp only [Act.put,xL4,xL5,xL6],hbu,fun h => fu0 (mark_of (by decide) h),fun h => fu1 (mark_of (by decide) h),fun h => fu2 (mark_of (by decide) h),fun _ => rfl,fun _ => rfl,fun h => fu5 (mark_of (by decide) h),fun h => fu6 (mark_of (by decide) h),fun h => fu7 (mark_of (by decide) h)⟩
   ·have eu4 := fu4 (dep_of 4 hru rfl (by kernel_rfl))
    replace eu4 := eu4.symm
    subst eu4
    refine wpOp_shut (by simp only [xL1,xL2,xL3]; rfl) (fun K hK => ?_)
    simp only [Act.put,xL4,xL5,xL6]
    refine step_make wn (by rfl) _ _ 22 (by rfl) wn.heap.size 28 i0 (.agg #[.bool false,.slice none 0 0,.slice none 0 0]) 3 Tryz.underlying22 hi hz0 hz1 .i64 .i64 ((lq : Nat) : Int) ((lq : Nat) : Int) (lq) (by rfl) (by rfl) rfl rfl (by rw [hz2]; omega) (by unfold maxLen; omega) (Nat.le_refl _) ?_
    intro wx hown hgrow
    have bu : Below wn.heap.size wn wx := (Below.refl _ _).grown hgrow (Nat.le_refl _) (fun k e => by cases e)
    have MXu := marr_made (fun _ => 0) (by omega) hown
    clear hown hgrow
    have hbu2 := hbu.trans (bu.mono hbu.size)
    exact hK.out _ _ ⟨vu0,vu1,vu2,vu3,(.int .i64 (lq : Int)),_,vu6,vu7,by simp only [Act.put,xL4,xL5,xL6],hbu2,fun h => fu0 (mark_of (by decide) h),fun h => fu1 (mark_of (by decide) h),fun h => fu2 (mark_of (by decide) h),fun h => fu3 (mark_of (by decide) h),fun _ => rfl,fun _ => MXu.le hbu.size,fun h => fu6 (mark_of (by decide) h),fun h => (fu7 (mark_of (by decide) h)).below bu⟩
   ·refine wpOp_shut (by rfl) (fun K hK => ?_)
    simp only [Act.put,xL4,xL5,xL6]
    go_simp
    exact hK.out _ _ ⟨vu0,vu1,vu2,vu3,vu4,vu5,(.slice ao la c),vu7,by simp only [Act.put,xL4,xL5,xL6],hbu,fun h => fu0 (mark_of (by decide) h),fun h => fu1 (mark_of (by decide) h),fun h => fu2 (mark_of (by decide) h),fun h => fu3 (mark_of (by decide) h),fun h => fu4 (mark_of (by decide) h),fun h => fu5 (mark_of (by decide) h),fun _ => rfl,fun h => fu7 (mark_of (by decide) h)⟩
   ·have eu6 := fu6 (dep_of 6 hru rfl (by kernel_rfl))
    replace eu6 := eu6.symm
    subst eu6
    refine wpOp_shut (by rfl) (fun K hK => ?_)
    simp only [Act.put,xL4,xL5,xL6]
    go_simp
    refine (pclone_at _ la qa _ ((ha.below BB).below hbu) (by omega)).mono ?_
    rintro eu wx ⟨x,rfl,MR,bu⟩
    have MRb := MR
    replace MR := MR.le hbu.size
    go_wp2_with fail
    have hbu2 := hbu.trans (bu.mono hbu.size)
    exact hK.out _ _ ⟨vu0,vu1,vu2,vu3,vu4,vu5,(.slice ao la c),_,by simp only [Act.put,xL4,xL5,xL6],hbu2,fun h => fu0 (mark_of (by decide) h),fun h => fu1 (mark_of (by decide) h),fun h => fu2 (mark_of (by decide) h),fun h => fu3 (mark_of (by decide) h),fun h => fu4 (mark_of (by decide) h),fun h => (fu5 (mark_of (by decide) h)).below bu,fun _ => rfl,fun _ => MR⟩
  rintro au Wu1 ⟨vu0,vu1,vu2,vu3,vu4,vu5,vu6,vu7,rfl,hbu,fu0,fu1,fu2,fu3,fu4,fu5,fu6,fu7⟩
  have eu0 := (fu0 rfl).symm
  subst eu0
  have eu1 := (fu1 rfl).symm
  subst eu1
  have eu2 := (fu2 rfl).symm
  subst eu2
  have eu3 := (fu3 rfl).symm
  subst eu3
  have eu4 := (fu4 rfl).symm
  subst eu4
  have MQ := fu5 rfl
  have eu6 := (fu6 rfl).symm
  subst eu6
  have MR := fu7 rfl
  clear fu0 fu1 fu2 fu3 fu4 fu5 fu6 fu7
  replace BB := BB.trans (hbu.mono BB.size)
  clear hbu
  simp only [Act.put,xL4,xL5,xL6]
  refine xR [8] (h := ?_)
  refine AllReadyH.cons (by rfl) (fun K hK => ?_) AllReadyH.nil
  go_simp
  refine hK.out _ _ trivial (fun _ => ?_)
  clear hK K
  simp only [Act.put,xL4,xL5,xL6]
  refine xR [9] (h := ?_)
  refine AllReadyH.cons (by rfl) (fun K hK => ?_) AllReadyH.nil
  go_simp
  refine hK.out _ _ trivial (fun _ => ?_)
  clear hK K
  simp only [Act.put,xL4,xL5,xL6]
  refine wpAnyH_done (by kernel_rfl) ?_ _
  obtain ⟨aq,cq,rfl,hcq1,hcq2⟩ := MQ.open
  obtain ⟨ar,cr,rfl,hcr1,hcr2⟩ := MR.open
  have H0s := H0.out
  have d3_ : (lq : Int) - 1 = -1 := by omega
  replace ht := ht.below BB
  obtain ⟨QF,hQF⟩ : ∃ QF,divQ qb below lq qa = QF := ⟨_,rfl⟩
  have HQF : Hid (divQ qb below lq qa = QF) := hQF
  obtain ⟨RF,hRF⟩ : ∃ RF,divR qb below lq qa = RF := ⟨_,rfl⟩
  have HRF : Hid (divR qb below lq qa = RF) := hRF
  have hRq : RF = qa := by rw [← hRF,H0s]; rfl
  have FQ : FNew w.heap.size Wu1 (.slice aq lq cq) lq QF := MQ_none MQ H0s
  have FS : FNew w.heap.size Wu1 (.slice ar la cr) la RF := by rw [hRq]; exact MR.pre la cr (Nat.le_refl _) hcr1 hcr2 (fun _ _ => trivial)
  have sQ : ∀ i,i < lq → qsz (QF i) ≤ 90000 := fun i hi => by omega
  have sR : ∀ i,i < la → qsz (RF i) ≤ 90000 := fun i hi => by rw [hRq]; exact Nat.le_trans (sa i hi) (by have := szS_ge L lq; omega)
  clear MQ MR hQF hRF hRq H0s
  go_wp2
  go_loopw [9] (fun vk wr => vk = .int .i64 (-1) ∧ wr = Wu1) (fun _ _ => 0)
  case atStart => exact ⟨by first | rfl | go_num,rfl⟩
  case round =>
   obtain ⟨rfl,hwr⟩ := hrel
   subst hwr
   have hmn : min (la : Int) (below : Int) = ((min la below : Nat) : Int) := by omega
   have hml : min la below ≤ la := by omega
   obtain ⟨mn,hmn2⟩ : ∃ mn,mn = min la below := ⟨_,rfl⟩
   rw [← hmn2] at hmn hml
   have HMN : Hid (mn = min la below) := hmn2
   have e1_ : (0 : Int) ≤ (mn : Int) := by omega
   have e2_ : (mn : Int) ≤ (cr : Int) := by omega
   have e3_ : mn ≤ cr := by omega
   clear hmn2
   have FT : FNew w.heap.size wr (.slice ar mn cr) mn RF := FS.cut mn hml hcr1 hcr2
   go_wp2
   have hDr : Below wr.heap.size wr wr.drew := (Below.refl _ _).drew
   replace FQ := FQ.below hDr
   replace FT := FT.below hDr
   replace ht := ht.below hDr
   replace BB := BB.trans (hDr.mono BB.size)
   clear hDr
   refine wp_region_held_drew (S := (fun w' => True)) (by kernel_rfl) ?_ (fun hHeld => ?_)
   ·trivial
   generalize wr.drew = W2 at *
   refine xT 0 (v := ?_) (hy := Or.inl ⟨by rfl,?_⟩) (h := ?_)
   rotate_left
   ·(intro w hSw; (try dsimp only at hSw); go_simp; (try with_reducible rfl))
   (try simp only [Act.put,xL4,xL5,xL6])
   refine xT 2 (v := ?_) (hy := Or.inl ⟨by rfl,?_⟩) (h := ?_)
   rotate_left
   ·(intro w hSw; (try dsimp only at hSw); go_simp; (try with_reducible rfl))
   (try simp only [Act.put,xL4,xL5,xL6])
   refine xT 3 (v := ?_) (hy := Or.inl ⟨by rfl,?_⟩) (h := ?_)
   rotate_left
   ·(intro w hSw; (try dsimp only at hSw); go_simp; (try with_reducible rfl))
   (try simp only [Act.put,xL4,xL5,xL6])
   refine xT 4 (v := ?_) (hy := Or.inl ⟨by rfl,?_⟩) (h := ?_)
   rotate_left
   ·(intro w hSw; (try dsimp only at hSw); go_simp; (try with_reducible rfl))
   (try simp only [Act.put,xL4,xL5,xL6])
   refine xT 5 (v := ?_) (hy := Or.inl ⟨by rfl,?_⟩) (h := ?_)
   rotate_left
   ·(intro w hSw; (try dsimp only at hSw); go_simp; (try with_reducible rfl))
   (try simp only [Act.put,xL4,xL5,xL6])
   refine xT 6 (v := ?_) (hy := Or.inl ⟨by rfl,?_⟩) (h := ?_)
   rotate_left
   ·(intro w hSw; (try dsimp only at hSw); go_simp; (try with_reducible rfl))
   (try simp only [Act.put,xL4,xL5,xL6])
   refine xT 7 (v := ?_) (hy := Or.inl ⟨by rfl,?_⟩) (h := ?_)
   rotate_left
   ·(intro w hSw; (try dsimp only at hSw); go_simp; (try with_reducible rfl))
   (try simp only [Act.put,xL4,xL5,xL6])
   refine xR [1] (h := ?_)
   refine xN (h := fun K hK => ?_)
   go_simp
   refine (ptrim_at _ lq QF 90000 _ (FQ.1.q _ sQ) (by omega) (by omega)).mono ?_
   rintro e w1 ⟨aq2,cq2,hvv,rfl,b1⟩
   cases hvv
   go_wp2_with fail
   replace FQ := FQ.below b1
   replace FT := FT.below b1
   replace ht := ht.below b1
   replace BB := BB.trans (b1.mono BB.size)
   clear b1
   refine hK.out _ _ ?_ (fun hH1 => ?_)
   ·trivial
   clear hK K hHeld
   (try simp only [Act.put,xL4,xL5,xL6])
   refine xR [8] (h := ?_)
   refine xN (h := fun K hK => ?_)
   go_simp
   refine (ptrim_at _ mn RF 90000 _ (FT.1.q _ (fun i hi => sR i (by omega))) (by omega) (by omega)).mono ?_
   rintro e w2 ⟨ar2,cr2,hvv,rfl,b2⟩
   cases hvv
   go_wp2_with fail
   replace FQ := FQ.below b2
   replace FT := FT.below b2
   replace ht := ht.below b2
   replace BB := BB.trans (b2.mono BB.size)
   clear b2
   refine hK.out _ _ ?_ (fun hH2 => ?_)
   ·trivial
   clear hK K hH1
   (try simp only [Act.put,xL4,xL5,xL6])
   refine xT 9 (v := ?_) (hy := Or.inl ⟨by rfl,?_⟩) (h := ?_)
   rotate_left
   ·(intro w hSw; (try dsimp only at hSw); go_simp; (try with_reducible rfl))
   (try simp only [Act.put,xL4,xL5,xL6])
   refine xT 10 (v := ?_) (hy := Or.inl ⟨by rfl,?_⟩) (h := ?_)
   rotate_left
   ·(intro w hSw; (try dsimp only at hSw); go_simp; (try with_reducible rfl))
   (try simp only [Act.put,xL4,xL5,xL6])
   refine wpAnyH_done (by kernel_rfl) ?_ _
   clear hH2
   have F1 := FQ.trim
   have F2 := FT.trim
   clear FQ FT
   go_wp2
   go_ret2
   exact ⟨_,_,rfl,by rw [HQF.out]; exact F1,by rw [HRF.out,← HMN.out]; exact F2,BB⟩
 ·have hla0 : 0 < la := by omega
  have hlq0 : 0 < lq := by omega
  have dw : IntKind.i64.wrap ((la : Int) - (below : Int)) = (la : Int) - (below : Int) := by rw [IntKind.wrap_i64]; omega
  go_enter Tryz.func33,Tryz.ntmps33
  go_wp2
  refine wp_region_until 8 #[true,true,true,true,true,true,true,true,false,false] (fun aF lsd a' w' => ∃ vu0 vu1 vu2 vu3 vu4 vu5 vu6 vu7 : Value,a' = (((((((aF.put (some 14) vu0).put (some 15) vu1).put (some 16) vu2).put (some 17) vu3).put (some 18) vu4).put (some 19) vu5).put (some 20) vu6).put (some 21) vu7 ∧ Below w.heap.size w w' ∧ (lsd.getD 0 false = true → vu0 = .slice ao la c) ∧ (lsd.getD 1 false = true → vu1 = .int .i64 (la : Int)) ∧ (lsd.getD 2 false = true → vu2 = .int .i64 (below : Int)) ∧ (lsd.getD 3 false = true → vu3 = .int .i64 ((la : Int) - (below : Int))) ∧ (lsd.getD 4 false = true → vu4 = .int .i64 (lq : Int)) ∧ (lsd.getD 5 false = true → MArr w.heap.size w' vu5 (lq) (fun _ => 0) (fun _ => False)) ∧ (lsd.getD 6 false = true → vu6 = .slice ao la c) ∧ (lsd.getD 7 false = true → MArr w.heap.size w' vu7 la qa (fun _ => True)) ∧ (lsd.getD 5 false = true → lsd.getD 7 false = true → Apart vu5 vu7)) (by kernel_rfl) (by decide) (by kernel_rfl) (by rfl) (by kernel_rfl) ?_ ?_ ?_
  ·exact ⟨_,_,_,_,_,_,_,_,by simp only [Act.put,xL4,xL5,xL6]; rfl,(Below.refl _ _).drew,fun h => absurd h (fun h => mark_none h),fun h => absurd h (fun h => mark_none h),fun h => absurd h (fun h => mark_none h),fun h => absurd h (fun h => mark_none h),fun h => absurd h (fun h => mark_none h),fun h => absurd h (fun h => mark_none h),fun h => absurd h (fun h => mark_none h),fun h => absurd h (fun h => mark_none h),fun h => absurd h (fun h => mark_none h)⟩
  ·rintro lsd au wn iu hszu ⟨vu0,vu1,vu2,vu3,vu4,vu5,vu6,vu7,rfl,hbu,fu0,fu1,fu2,fu3,fu4,fu5,fu6,fu7,ku5_7⟩ himu hru
   rcases (show iu = 0 ∨ iu = 1 ∨ iu = 2 ∨ iu = 3 ∨ iu = 4 ∨ iu = 5 ∨ iu = 6 ∨ iu = 7 by omega) with rfl | rfl | rfl | rfl | rfl | rfl | rfl | rfl
   ·refine wpOp_shut (by rfl) (fun K hK => ?_)
    simp only [Act.put,xL4,xL5,xL6]
    go_simp
    exact hK.out _ _ ⟨(.slice ao la c),vu1,vu2,vu3,vu4,vu5,vu6,vu7,by simp only [Act.put,xL4,xL5,xL6],hbu,fun _ => rfl,fun h => fu1 (mark_of (by decide) h),fun h => fu2 (mark_of (by decide) h),fun h => fu3 (mark_of (by decide) h),fun h => fu4 (mark_of (by decide) h),fun h => fu5 (mark_of (by decide) h),fun h => fu6 (mark_of (by decide) h),fun h => fu7 (mark_of (by decide) h),fun h1 h2 => ku5_7 (mark_of (by decide) h1) (mark_of (by decide) h2)⟩
   ·have eu0 := fu0 (dep_of 0 hru rfl (by kernel_rfl))
    replace eu0 := eu0.symm
    subst eu0
    refine wpOp_shut (by rfl) (fun K hK => ?_)
    simp only [Act.put,xL4,xL5,xL6]
    go_simp
    exact hK.out _ _ ⟨(.slice ao la c),(.int .i64 (la : Int)),vu2,vu3,vu4,vu5,vu6,vu7,by simp only [Act.put,xL4,xL5,xL6],hbu,fun _ => rfl,fun _ => rfl,fun h => fu2 (mark_of (by decide) h),fun h => fu3 (mark_of (by decide) h),fun h => fu4 (mark_of (by decide) h),fun h => fu5 (mark_of (by decide) h),fun h => fu6 (mark_of (by decide) h),fun h => fu7 (mark_of (by decide) h),fun h1 h2 => ku5_7 (mark_of (by decide) h1) (mark_of (by decide) h2)⟩
   ·refine wpOp_shut (by rfl) (fun K hK => ?_)
    simp only [Act.put,xL4,xL5,xL6]
    go_simp
    exact hK.out _ _ ⟨vu0,vu1,(.int .i64 (below : Int)),vu3,vu4,vu5,vu6,vu7,by simp only [Act.put,xL4,xL5,xL6],hbu,fun h => fu0 (mark_of (by decide) h),fun h => fu1 (mark_of (by decide) h),fun _ => rfl,fun h => fu3 (mark_of (by decide) h),fun h => fu4 (mark_of (by decide) h),fun h => fu5 (mark_of (by decide) h),fun h => fu6 (mark_of (by decide) h),fun h => fu7 (mark_of (by decide) h),fun h1 h2 => ku5_7 (mark_of (by decide) h1) (mark_of (by decide) h2)⟩
   ·have eu1 := fu1 (dep_of 1 hru rfl (by kernel_rfl))
    have eu2 := fu2 (dep_of 2 hru rfl (by kernel_rfl))
    replace eu1 := eu1.symm
    subst eu1
    replace eu2 := eu2.symm
    subst eu2
    refine wpOp_shut (by rfl) (fun K hK => ?_)
    simp only [Act.put,xL4,xL5,xL6]
    go_simp
    exact hK.out _ _ ⟨vu0,(.int .i64 (la : Int)),(.int .i64 (below : Int)),(.int .i64 ((la : Int) - (below : Int))),vu4,vu5,vu6,vu7,by simp only [Act.put,xL4,xL5,xL6],hbu,fun h => fu0 (mark_of (by decide) h),fun _ => rfl,fun _ => rfl,fun _ => rfl,fun h => fu4 (mark_of (by decide) h),fun h => fu5 (mark_of (by decide) h),fun h => fu6 (mark_of (by decide) h),fun h => fu7 (mark_of (by decide) h),fun h1 h2 => ku5_7 (mark_of (by decide) h1) (mark_of (by decide) h2)⟩
   ·have eu3 := fu3 (dep_of 3 hru rfl (by kernel_rfl))
    replace eu3 := eu3.symm
    subst eu3
    refine wpOp_shut (by rfl) (fun K hK => ?_)
    simp only [Act.put,xL4,xL5,xL6]
    go_simp
    exact hK.out _ _ ⟨vu0,vu1,vu2,(.int .i64 ((la : Int) - (below : Int))),(.int .i64 (lq : Int)),vu5,vu6,vu7,by simp only [Act.put,xL4,xL5,xL6],hbu,fun h => fu0 (mark_of (by decide) h),fun h => fu1 (mark_of (by decide) h),fun h => fu2 (mark_of (by decide) h),fun _ => rfl,fun _ => rfl,fun h => fu5 (mark_of (by decide) h),fun h => fu6 (mark_of (by decide) h),fun h => fu7 (mark_of (by decide) h),fun h1 h2 => ku5_7 (mark_of (by decide) h1) (mark_of (by decide) h2)⟩
   ·have eu4 := fu4 (dep_of 4 hru rfl (by kernel_rfl))
    replace eu4 := eu4.symm
    subst eu4
    refine wpOp_shut (by simp only [xL1,xL2,xL3]; rfl) (fun K hK => ?_)
    simp only [Act.put,xL4,xL5,xL6]
    refine step_make wn (by rfl) _ _ 22 (by rfl) wn.heap.size 28 i0 (.agg #[.bool false,.slice none 0 0,.slice none 0 0]) 3 Tryz.underlying22 hi hz0 hz1 .i64 .i64 ((lq : Nat) : Int) ((lq : Nat) : Int) (lq) (by rfl) (by rfl) rfl rfl (by rw [hz2]; omega) (by unfold maxLen; omega) (Nat.le_refl _) ?_
    intro wx hown hgrow
    have bu : Below wn.heap.size wn wx := (Below.refl _ _).grown hgrow (Nat.le_refl _) (fun k e => by cases e)
    have MXu := marr_made (fun _ => 0) (by omega) hown
    clear hown hgrow
    have hbu2 := hbu.trans (bu.mono hbu.size)
    exact hK.out _ _ ⟨vu0,vu1,vu2,vu3,(.int .i64 (lq : Int)),_,vu6,vu7,by simp only [Act.put,xL4,xL5,xL6],hbu2,fun h => fu0 (mark_of (by decide) h),fun h => fu1 (mark_of (by decide) h),fun h => fu2 (mark_of (by decide) h),fun h => fu3 (mark_of (by decide) h),fun _ => rfl,fun _ => MXu.le hbu.size,fun h => fu6 (mark_of (by decide) h),fun h => (fu7 (mark_of (by decide) h)).below bu,fun _ h => apart_new (fu7 (mark_of (by decide) h)) (by omega)⟩
   ·refine wpOp_shut (by rfl) (fun K hK => ?_)
    simp only [Act.put,xL4,xL5,xL6]
    go_simp
    exact hK.out _ _ ⟨vu0,vu1,vu2,vu3,vu4,vu5,(.slice ao la c),vu7,by simp only [Act.put,xL4,xL5,xL6],hbu,fun h => fu0 (mark_of (by decide) h),fun h => fu1 (mark_of (by decide) h),fun h => fu2 (mark_of (by decide) h),fun h => fu3 (mark_of (by decide) h),fun h => fu4 (mark_of (by decide) h),fun h => fu5 (mark_of (by decide) h),fun _ => rfl,fun h => fu7 (mark_of (by decide) h),fun h1 h2 => ku5_7 (mark_of (by decide) h1) (mark_of (by decide) h2)⟩
   ·have eu6 := fu6 (dep_of 6 hru rfl (by kernel_rfl))
    replace eu6 := eu6.symm
    subst eu6
    refine wpOp_shut (by rfl) (fun K hK => ?_)
    simp only [Act.put,xL4,xL5,xL6]
    go_simp
    refine (pclone_at _ la qa _ ((ha.below BB).below hbu) (by omega)).mono ?_
    rintro eu wx ⟨x,rfl,MR,bu⟩
    have MRb := MR
    replace MR := MR.le hbu.size
    go_wp2_with fail
    have hbu2 := hbu.trans (bu.mono hbu.size)
    exact hK.out _ _ ⟨vu0,vu1,vu2,vu3,vu4,vu5,(.slice ao la c),_,by simp only [Act.put,xL4,xL5,xL6],hbu2,fun h => fu0 (mark_of (by decide) h),fun h => fu1 (mark_of (by decide) h),fun h => fu2 (mark_of (by decide) h),fun h => fu3 (mark_of (by decide) h),fun h => fu4 (mark_of (by decide) h),fun h => (fu5 (mark_of (by decide) h)).below bu,fun _ => rfl,fun _ => MR,fun h _ => apart_old (fu5 (mark_of (by decide) h)) MRb (by omega) (by omega)⟩
  rintro au Wu21 ⟨vu0,vu1,vu2,vu3,vu4,vu5,vu6,vu7,rfl,hbu,fu0,fu1,fu2,fu3,fu4,fu5,fu6,fu7,ku5_7⟩
  have eu0 := (fu0 rfl).symm
  subst eu0
  have eu1 := (fu1 rfl).symm
  subst eu1
  have eu2 := (fu2 rfl).symm
  subst eu2
  have eu3 := (fu3 rfl).symm
  subst eu3
  have eu4 := (fu4 rfl).symm
  subst eu4
  have MQ := fu5 rfl
  have eu6 := (fu6 rfl).symm
  subst eu6
  have MR := fu7 rfl
  have ku5_7 := ku5_7 rfl rfl
  clear fu0 fu1 fu2 fu3 fu4 fu5 fu6 fu7
  replace BB := BB.trans (hbu.mono BB.size)
  clear hbu
  simp only [Act.put,xL4,xL5,xL6]
  refine xR [8] (h := ?_)
  refine AllReadyH.cons (by rfl) (fun K hK => ?_) AllReadyH.nil
  go_simp
  refine hK.out _ _ trivial (fun _ => ?_)
  clear hK K
  simp only [Act.put,xL4,xL5,xL6]
  refine xR [9] (h := ?_)
  refine AllReadyH.cons (by rfl) (fun K hK => ?_) AllReadyH.nil
  go_simp
  refine hK.out _ _ trivial (fun _ => ?_)
  clear hK K
  simp only [Act.put,xL4,xL5,xL6]
  refine wpAnyH_done (by kernel_rfl) ?_ _
  obtain ⟨aqo,cq,rfl,hcq1,hcq2,hq3⟩ := MQ
  obtain ⟨gq,elq0,rfl,gqB,Aq,_⟩ := hq3 hlq0
  obtain ⟨aro,cr,rfl,hcr1,hcr2,hr3⟩ := MR
  obtain ⟨gr,elr0,rfl,grB,Ar,hRr⟩ := hr3 hla0
  have hne : gq ≠ gr := ku5_7 gq gr rfl rfl
  have hne2 : gr ≠ gq := fun e => hne e.symm
  clear ku5_7 hq3 hr3
  replace ht := ht.below BB
  have HLB : Hid (la = lq + below) := by show _ = _; have := HDIS.out; omega
  obtain ⟨QF,hQF⟩ : ∃ QF,divQ qb below lq qa = QF := ⟨_,rfl⟩
  have HQF : Hid (divQ qb below lq qa = QF) := hQF
  obtain ⟨RF,hRF⟩ : ∃ RF,divR qb below lq qa = RF := ⟨_,rfl⟩
  have HRF : Hid (divR qb below lq qa = RF) := hRF
  have HQ : Reps Wu21 elq0 lq lq QF := fun i h1 h2 => absurd h1 (by omega)
  have HR : Reps Wu21 elr0 0 la qa := fun i _ h2 => hRr i h2 trivial
  have HI0 : Hid (∀ i,i < lq → divQ qb below lq qa i = QF i) := fun i _ => by rw [hQF]
  have HS0 : Hid (∀ i,i < la → qsz (qa i) ≤ szS L (lq - lq)) := fun i hi => by rw [Nat.sub_self]; exact sa i hi
  have HT0 : Hid (∀ i,lq ≤ i → i < lq → qsz (QF i) ≤ 90000) := fun i h1 h2 => absurd h1 (by omega)
  clear hQF hRF hRr
  go_wp2
  go_loopw [9] (fun vk wr => ∃ (kk : Nat) (Rk : Nat → Rat) (elq elr : Nat → Nat → Value),kk ≤ lq ∧ vk = .int .i64 ((kk : Int) - 1) ∧ Hid (divR qb below kk Rk = RF) ∧ Hid (∀ i,i < kk → divQ qb below kk Rk i = QF i) ∧ Hid (∀ i,i < la → qsz (Rk i) ≤ szS L (lq - kk)) ∧ Hid (∀ i,kk ≤ i → i < lq → qsz (QF i) ≤ 90000) ∧ Arr3 wr gq lq elq ∧ Reps wr elq kk lq QF ∧ Arr3 wr gr la elr ∧ Reps wr elr 0 la Rk ∧ Tab wr ∧ Below w.heap.size w wr) (fun vk _ => (intOf vk + 1).toNat)
  case atStart => exact ⟨lq,qa,elq0,elr0,Nat.le_refl _,rfl,HRF,HI0,HS0,HT0,Aq,HQ,Ar,HR,ht,BB⟩
  case round =>
   clear Aq HQ Ar HR ht BB HI0 HS0 HT0
   obtain ⟨kk,Rk,elq,elr,hkl,rfl,HD,HI,HS,HT,Aq,HQ,Ar,HR,ht,BB⟩ := hrel
   cases kk with
   | zero =>
    have dz : ¬ ((0 : Nat) : Int) - 1 ≥ 0 := by omega
    have hRk : Rk = RF := HD.out
    subst hRk
    obtain ⟨aq,haq⟩ : ∃ aq,aq = (some ⟨gq,0,none⟩ : Option Addr) := ⟨_,rfl⟩
    obtain ⟨ar,har⟩ : ∃ ar,ar = (some ⟨gr,0,none⟩ : Option Addr) := ⟨_,rfl⟩
    have FQ : FNew w.heap.size wr (.slice (some ⟨gq,0,none⟩) lq cq) lq QF := ⟨⟨elq,Aq.row lq cq (Nat.le_refl _) hcq1 hcq2,fun i hi => HQ i (Nat.zero_le _) hi⟩,fun b off c e hn => by cases e; exact gqB⟩
    have FS : FNew w.heap.size wr (.slice (some ⟨gr,0,none⟩) la cr) la Rk := ⟨⟨elr,Ar.row la cr (Nat.le_refl _) hcr1 hcr2,fun i hi => HR i (Nat.zero_le _) hi⟩,fun b off c e hn => by cases e; exact grB⟩
    have sQ : ∀ i,i < lq → qsz (QF i) ≤ 90000 := fun i hi => HT.out i (Nat.zero_le _) hi
    have sR : ∀ i,i < la → qsz (Rk i) ≤ 90000 := fun i hi => Nat.le_trans (HS.out i hi) (by rw [Nat.sub_zero]; omega)
    clear Aq HQ Ar HR HD HI HS HT
    rw [← haq] at FQ ⊢
    rw [← har] at FS ⊢
    clear haq har
    have hmn : min (la : Int) (below : Int) = ((min la below : Nat) : Int) := by omega
    have hml : min la below ≤ la := by omega
    obtain ⟨mn,hmn2⟩ : ∃ mn,mn = min la below := ⟨_,rfl⟩
    rw [← hmn2] at hmn hml
    have HMN : Hid (mn = min la below) := hmn2
    have e1_ : (0 : Int) ≤ (mn : Int) := by omega
    have e2_ : (mn : Int) ≤ (cr : Int) := by omega
    have e3_ : mn ≤ cr := by omega
    clear hmn2
    have FT : FNew w.heap.size wr (.slice ar mn cr) mn Rk := FS.cut mn hml hcr1 hcr2
    go_wp2
    have hDr : Below wr.heap.size wr wr.drew := (Below.refl _ _).drew
    replace FQ := FQ.below hDr
    replace FT := FT.below hDr
    replace ht := ht.below hDr
    replace BB := BB.trans (hDr.mono BB.size)
    clear hDr
    refine wp_region_held_drew (S := (fun w' => True)) (by kernel_rfl) ?_ (fun hHeld => ?_)
    ·trivial
    generalize wr.drew = W22 at *
    refine xT 0 (v := ?_) (hy := Or.inl ⟨by rfl,?_⟩) (h := ?_)
    rotate_left
    ·(intro w hSw; (try dsimp only at hSw); go_simp; (try with_reducible rfl))
    (try simp only [Act.put,xL4,xL5,xL6])
    refine xT 2 (v := ?_) (hy := Or.inl ⟨by rfl,?_⟩) (h := ?_)
    rotate_left
    ·(intro w hSw; (try dsimp only at hSw); go_simp; (try with_reducible rfl))
    (try simp only [Act.put,xL4,xL5,xL6])
    refine xT 3 (v := ?_) (hy := Or.inl ⟨by rfl,?_⟩) (h := ?_)
    rotate_left
    ·(intro w hSw; (try dsimp only at hSw); go_simp; (try with_reducible rfl))
    (try simp only [Act.put,xL4,xL5,xL6])
    refine xT 4 (v := ?_) (hy := Or.inl ⟨by rfl,?_⟩) (h := ?_)
    rotate_left
    ·(intro w hSw; (try dsimp only at hSw); go_simp; (try with_reducible rfl))
    (try simp only [Act.put,xL4,xL5,xL6])
    refine xT 5 (v := ?_) (hy := Or.inl ⟨by rfl,?_⟩) (h := ?_)
    rotate_left
    ·(intro w hSw; (try dsimp only at hSw); go_simp; (try with_reducible rfl))
    (try simp only [Act.put,xL4,xL5,xL6])
    refine xT 6 (v := ?_) (hy := Or.inl ⟨by rfl,?_⟩) (h := ?_)
    rotate_left
    ·(intro w hSw; (try dsimp only at hSw); go_simp; (try with_reducible rfl))
    (try simp only [Act.put,xL4,xL5,xL6])
    refine xT 7 (v := ?_) (hy := Or.inl ⟨by rfl,?_⟩) (h := ?_)
    rotate_left
    ·(intro w hSw; (try dsimp only at hSw); go_simp; (try with_reducible rfl))
    (try simp only [Act.put,xL4,xL5,xL6])
    refine xR [1] (h := ?_)
    refine xN (h := fun K hK => ?_)
    go_simp
    refine (ptrim_at _ lq QF 90000 _ (FQ.1.q _ sQ) (by omega) (by omega)).mono ?_
    rintro e w21 ⟨aq2,cq2,hvv,rfl,b21⟩
    cases hvv
    go_wp2_with fail
    replace FQ := FQ.below b21
    replace FT := FT.below b21
    replace ht := ht.below b21
    replace BB := BB.trans (b21.mono BB.size)
    clear b21
    refine hK.out _ _ ?_ (fun hH1 => ?_)
    ·trivial
    clear hK K hHeld
    (try simp only [Act.put,xL4,xL5,xL6])
    refine xR [8] (h := ?_)
    refine xN (h := fun K hK => ?_)
    go_simp
    refine (ptrim_at _ mn Rk 90000 _ (FT.1.q _ (fun i hi => sR i (by omega))) (by omega) (by omega)).mono ?_
    rintro e w22 ⟨ar2,cr2,hvv,rfl,b22⟩
    cases hvv
    go_wp2_with fail
    replace FQ := FQ.below b22
    replace FT := FT.below b22
    replace ht := ht.below b22
    replace BB := BB.trans (b22.mono BB.size)
    clear b22
    refine hK.out _ _ ?_ (fun hH2 => ?_)
    ·trivial
    clear hK K hH1
    (try simp only [Act.put,xL4,xL5,xL6])
    refine xT 9 (v := ?_) (hy := Or.inl ⟨by rfl,?_⟩) (h := ?_)
    rotate_left
    ·(intro w hSw; (try dsimp only at hSw); go_simp; (try with_reducible rfl))
    (try simp only [Act.put,xL4,xL5,xL6])
    refine xT 10 (v := ?_) (hy := Or.inl ⟨by rfl,?_⟩) (h := ?_)
    rotate_left
    ·(intro w hSw; (try dsimp only at hSw); go_simp; (try with_reducible rfl))
    (try simp only [Act.put,xL4,xL5,xL6])
    refine wpAnyH_done (by kernel_rfl) ?_ _
    clear hH2
    have F1 := FQ.trim
    have F2 := FT.trim
    clear FQ FT
    go_wp2
    go_ret2
    exact ⟨_,_,rfl,by rw [HQF.out]; exact F1,by rw [HRF.out,← HMN.out]; exact F2,BB⟩
   | succ n =>
    obtain ⟨k,hk⟩ : ∃ k,k = n := ⟨_,rfl⟩
    subst hk
    have hk : k < lq := by omega
    obtain ⟨kb,hkb⟩ : ∃ kb,kb = k + below := ⟨_,rfl⟩
    have HKB : Hid (kb = k + below) := hkb
    have hkla : kb < la := by have := HLB.out; omega
    have q0 : ((k + 1 : Nat) : Int) - 1 = (k : Int) := by omega
    rw [q0]
    have q1 : (k : Int) ≥ 0 := by omega
    have q2 : (k : Int) + (below : Int) = (kb : Int) := by omega
    have q3 : IntKind.i64.wrap (kb : Int) = (kb : Int) := by rw [IntKind.wrap_i64]; omega
    have q4 : (0 : Int) ≤ (kb : Int) := by omega
    have q5 : (kb : Int) < (la : Int) := by omega
    have q6 : (0 : Int) ≤ (below : Int) := by omega
    have q7 : (below : Int) < (lb : Int) := by omega
    have q8 : (k : Int) < (lq : Int) := by omega
    clear hkb
    obtain ⟨t,ht_⟩ : ∃ t,lq - (k + 1) = t := ⟨_,rfl⟩
    rw [ht_] at HS
    have HSN : Hid (szS L (lq - k) = 2 * szS L t + 2 * L + 1) := by show _ = _; rw [show lq - k = t + 1 by omega]; rfl
    have hSt : 2 * szS L t + 2 * L + 1 ≤ 40000 := by rw [← HSN.out]; exact Nat.le_trans (szS_mono L _ _ (by omega)) hS
    have hLt := szS_ge L t
    clear ht_
    generalize szS L t = St at *
    have HCQ : Hid (Rk kb / qb below = QF k) := by show _ = _; rw [HKB.out,← HI.out k (by omega)]; show _ = (if k = k then _ else _); rw [if_pos rfl]
    have sC : qsz (QF k) ≤ St + L := by rw [← HCQ.out]; exact qsz_div _ _ (HS.out kb hkla) (sb below (by omega))
    obtain ⟨pr,aor,mr,dr,bor,kr,er,XR,Hr⟩ := Ar.e3 kb hkla (HR kb (Nat.zero_le _) hkla)
    obtain ⟨b,off,cc,p1,ao1,m1,d1,bo1,k1,e1,hvv,hcc,XC,Hi⟩ := (hqb).at below (by omega)
    cases hvv
    have XB := XC.below BB
    have Hb := Hi.below BB
    clear XC Hi
    go_wp2
    (try simp only [q1,decide_true])
    refine wp_region_float 16 15 #[true,true,true,true,true,true,true,true,true,true,true,true,true,true,true,true,false,false] #[true,true,true,true,true,true,true,true,true,true,true,true,true,true,true,false,false,false] (fun aF lsd a' w' => ∃ vu0 vu1 vu2 vu3 vu4 vu5 vu6 vu7 vu8 vu9 vu10 vu11 vu12 vu13 vu14 vu15 : Value,a' = (((((((((((((((aF.put (some 30) vu0).put (some 31) vu1).put (some 32) vu2).put (some 33) vu3).put (some 34) vu4).put (some 35) vu5).put (some 36) vu6).put (some 37) vu7).put (some 38) vu8).put (some 39) vu9).put (some 40) vu10).put (some 41) vu11).put (some 42) vu12).put (some 29) vu13).put (some 43) vu14).put (some 44) vu15 ∧ Below wr.heap.size wr w' ∧ (lsd.getD 0 false = true → vu0 = .slice (some ⟨gq,0,none⟩) lq cq) ∧ (lsd.getD 1 false = true → vu1 = .int .i64 (k : Int)) ∧ (lsd.getD 2 false = true → vu2 = .slice (some ⟨gr,0,none⟩) la cr) ∧ (lsd.getD 3 false = true → vu3 = .int .i64 (k : Int)) ∧ (lsd.getD 4 false = true → vu4 = .int .i64 (below : Int)) ∧ (lsd.getD 5 false = true → vu5 = .int .i64 (kb : Int)) ∧ (lsd.getD 6 false = true → vu6 = .pointer (some ⟨gr,kb * 3,none⟩)) ∧ (lsd.getD 7 false = true → vu7 = .agg #[.bool pr,.slice aor mr dr,.slice bor kr er]) ∧ (lsd.getD 8 false = true → vu8 = .slice (some ⟨b,off,none⟩) lb c2) ∧ (lsd.getD 9 false = true → vu9 = .int .i64 (below : Int)) ∧ (lsd.getD 10 false = true → vu10 = .pointer (some ⟨b,off + below * 3,none⟩)) ∧ (lsd.getD 11 false = true → vu11 = .agg #[.bool p1,.slice ao1 m1 d1,.slice bo1 k1 e1]) ∧ (lsd.getD 12 false = true → TupQ w' vu12 (QF k)) ∧ (lsd.getD 13 false = true → TupQ w' vu13 (QF k)) ∧ (lsd.getD 14 false = true → RepQ w' vu14 (QF k)) ∧ (lsd.getD 15 false = true → vu15 = .int .i64 0)) (by kernel_rfl) (by decide) (by kernel_rfl) (by rfl) (by kernel_rfl) (by rfl) (by kernel_rfl) (by decide) ?_ ?_ ?_ ?_
    ·exact ⟨_,_,_,_,_,_,_,_,_,_,_,_,_,_,_,_,by simp only [Act.put,xL4,xL5,xL6]; rfl,(Below.refl _ _).drew,fun h => absurd h (fun h => mark_none h),fun h => absurd h (fun h => mark_none h),fun h => absurd h (fun h => mark_none h),fun h => absurd h (fun h => mark_none h),fun h => absurd h (fun h => mark_none h),fun h => absurd h (fun h => mark_none h),fun h => absurd h (fun h => mark_none h),fun h => absurd h (fun h => mark_none h),fun h => absurd h (fun h => mark_none h),fun h => absurd h (fun h => mark_none h),fun h => absurd h (fun h => mark_none h),fun h => absurd h (fun h => mark_none h),fun h => absurd h (fun h => mark_none h),fun h => absurd h (fun h => mark_none h),fun h => absurd h (fun h => mark_none h),fun h => absurd h (fun h => mark_none h)⟩
    ·rintro lsd au wn iu hszu ⟨vu0,vu1,vu2,vu3,vu4,vu5,vu6,vu7,vu8,vu9,vu10,vu11,vu12,vu13,vu14,vu15,rfl,hbu,fu0,fu1,fu2,fu3,fu4,fu5,fu6,fu7,fu8,fu9,fu10,fu11,fu12,fu13,fu14,fu15⟩ himu hru
     rcases (show iu = 0 ∨ iu = 1 ∨ iu = 2 ∨ iu = 3 ∨ iu = 4 ∨ iu = 5 ∨ iu = 6 ∨ iu = 7 ∨ iu = 8 ∨ iu = 9 ∨ iu = 10 ∨ iu = 11 ∨ iu = 12 ∨ iu = 13 ∨ iu = 14 ∨ iu = 15 by omega) with rfl | rfl | rfl | rfl | rfl | rfl | rfl | rfl | rfl | rfl | rfl | rfl | rfl | rfl | rfl | rfl
     ·refine wpOp_shut (by rfl) (fun K hK => ?_)
      simp only [Act.put,xL4,xL5,xL6]
      go_simp
      exact hK.out _ _ ⟨(.slice (some ⟨gq,0,none⟩) lq cq),vu1,vu2,vu3,vu4,vu5,vu6,vu7,vu8,vu9,vu10,vu11,vu12,vu13,vu14,vu15,by simp only [Act.put,xL4,xL5,xL6],hbu,fun _ => rfl,fun h => fu1 (mark_of (by decide) h),fun h => fu2 (mark_of (by decide) h),fun h => fu3 (mark_of (by decide) h),fun h => fu4 (mark_of (by decide) h),fun h => fu5 (mark_of (by decide) h),fun h => fu6 (mark_of (by decide) h),fun h => fu7 (mark_of (by decide) h),fun h => fu8 (mark_of (by decide) h),fun h => fu9 (mark_of (by decide) h),fun h => fu10 (mark_of (by decide) h),fun h => fu11 (mark_of (by decide) h),fun h => fu12 (mark_of (by decide) h),fun h => fu13 (mark_of (by decide) h),fun h => fu14 (mark_of (by decide) h),fun h => fu15 (mark_of (by decide) h)⟩
     ·refine wpOp_shut (by rfl) (fun K hK => ?_)
      simp only [Act.put,xL4,xL5,xL6]
      go_simp
      exact hK.out _ _ ⟨vu0,(.int .i64 (k : Int)),vu2,vu3,vu4,vu5,vu6,vu7,vu8,vu9,vu10,vu11,vu12,vu13,vu14,vu15,by simp only [Act.put,xL4,xL5,xL6],hbu,fun h => fu0 (mark_of (by decide) h),fun _ => rfl,fun h => fu2 (mark_of (by decide) h),fun h => fu3 (mark_of (by decide) h),fun h => fu4 (mark_of (by decide) h),fun h => fu5 (mark_of (by decide) h),fun h => fu6 (mark_of (by decide) h),fun h => fu7 (mark_of (by decide) h),fun h => fu8 (mark_of (by decide) h),fun h => fu9 (mark_of (by decide) h),fun h => fu10 (mark_of (by decide) h),fun h => fu11 (mark_of (by decide) h),fun h => fu12 (mark_of (by decide) h),fun h => fu13 (mark_of (by decide) h),fun h => fu14 (mark_of (by decide) h),fun h => fu15 (mark_of (by decide) h)⟩
     ·refine wpOp_shut (by rfl) (fun K hK => ?_)
      simp only [Act.put,xL4,xL5,xL6]
      go_simp
      exact hK.out _ _ ⟨vu0,vu1,(.slice (some ⟨gr,0,none⟩) la cr),vu3,vu4,vu5,vu6,vu7,vu8,vu9,vu10,vu11,vu12,vu13,vu14,vu15,by simp only [Act.put,xL4,xL5,xL6],hbu,fun h => fu0 (mark_of (by decide) h),fun h => fu1 (mark_of (by decide) h),fun _ => rfl,fun h => fu3 (mark_of (by decide) h),fun h => fu4 (mark_of (by decide) h),fun h => fu5 (mark_of (by decide) h),fun h => fu6 (mark_of (by decide) h),fun h => fu7 (mark_of (by decide) h),fun h => fu8 (mark_of (by decide) h),fun h => fu9 (mark_of (by decide) h),fun h => fu10 (mark_of (by decide) h),fun h => fu11 (mark_of (by decide) h),fun h => fu12 (mark_of (by decide) h),fun h => fu13 (mark_of (by decide) h),fun h => fu14 (mark_of (by decide) h),fun h => fu15 (mark_of (by decide) h)⟩
     ·refine wpOp_shut (by rfl) (fun K hK => ?_)
      simp only [Act.put,xL4,xL5,xL6]
      go_simp
      exact hK.out _ _ ⟨vu0,vu1,vu2,(.int .i64 (k : Int)),vu4,vu5,vu6,vu7,vu8,vu9,vu10,vu11,vu12,vu13,vu14,vu15,by simp only [Act.put,xL4,xL5,xL6],hbu,fun h => fu0 (mark_of (by decide) h),fun h => fu1 (mark_of (by decide) h),fun h => fu2 (mark_of (by decide) h),fun _ => rfl,fun h => fu4 (mark_of (by decide) h),fun h => fu5 (mark_of (by decide) h),fun h => fu6 (mark_of (by decide) h),fun h => fu7 (mark_of (by decide) h),fun h => fu8 (mark_of (by decide) h),fun h => fu9 (mark_of (by decide) h),fun h => fu10 (mark_of (by decide) h),fun h => fu11 (mark_of (by decide) h),fun h => fu12 (mark_of (by decide) h),fun h => fu13 (mark_of (by decide) h),fun h => fu14 (mark_of (by decide) h),fun h => fu15 (mark_of (by decide) h)⟩
     ·refine wpOp_shut (by rfl) (fun K hK => ?_)
      simp only [Act.put,xL4,xL5,xL6]
      go_simp
      exact hK.out _ _ ⟨vu0,vu1,vu2,vu3,(.int .i64 (below : Int)),vu5,vu6,vu7,vu8,vu9,vu10,vu11,vu12,vu13,vu14,vu15,by simp only [Act.put,xL4,xL5,xL6],hbu,fun h => fu0 (mark_of (by decide) h),fun h => fu1 (mark_of (by decide) h),fun h => fu2 (mark_of (by decide) h),fun h => fu3 (mark_of (by decide) h),fun _ => rfl,fun h => fu5 (mark_of (by decide) h),fun h => fu6 (mark_of (by decide) h),fun h => fu7 (mark_of (by decide) h),fun h => fu8 (mark_of (by decide) h),fun h => fu9 (mark_of (by decide) h),fun h => fu10 (mark_of (by decide) h),fun h => fu11 (mark_of (by decide) h),fun h => fu12 (mark_of (by decide) h),fun h => fu13 (mark_of (by decide) h),fun h => fu14 (mark_of (by decide) h),fun h => fu15 (mark_of (by decide) h)⟩
     ·have eu3 := fu3 (dep_of 3 hru rfl (by kernel_rfl))
      have eu4 := fu4 (dep_of 4 hru rfl (by kernel_rfl))
      replace eu3 := eu3.symm
      subst eu3
      replace eu4 := eu4.symm
      subst eu4
      refine wpOp_shut (by rfl) (fun K hK => ?_)
      simp only [Act.put,xL4,xL5,xL6]
      go_simp
      exact hK.out _ _ ⟨vu0,vu1,vu2,(.int .i64 (k : Int)),(.int .i64 (below : Int)),(.int .i64 (kb : Int)),vu6,vu7,vu8,vu9,vu10,vu11,vu12,vu13,vu14,vu15,by simp only [Act.put,xL4,xL5,xL6],hbu,fun h => fu0 (mark_of (by decide) h),fun h => fu1 (mark_of (by decide) h),fun h => fu2 (mark_of (by decide) h),fun _ => rfl,fun _ => rfl,fun _ => rfl,fun h => fu6 (mark_of (by decide) h),fun h => fu7 (mark_of (by decide) h),fun h => fu8 (mark_of (by decide) h),fun h => fu9 (mark_of (by decide) h),fun h => fu10 (mark_of (by decide) h),fun h => fu11 (mark_of (by decide) h),fun h => fu12 (mark_of (by decide) h),fun h => fu13 (mark_of (by decide) h),fun h => fu14 (mark_of (by decide) h),fun h => fu15 (mark_of (by decide) h)⟩
     ·have eu2 := fu2 (dep_of 2 hru rfl (by kernel_rfl))
      have eu5 := fu5 (dep_of 5 hru rfl (by kernel_rfl))
      replace eu2 := eu2.symm
      subst eu2
      replace eu5 := eu5.symm
      subst eu5
      refine wpOp_shut (by rfl) (fun K hK => ?_)
      simp only [Act.put,xL4,xL5,xL6]
      go_simp
      exact hK.out _ _ ⟨vu0,vu1,(.slice (some ⟨gr,0,none⟩) la cr),vu3,vu4,(.int .i64 (kb : Int)),(.pointer (some ⟨gr,kb * 3,none⟩)),vu7,vu8,vu9,vu10,vu11,vu12,vu13,vu14,vu15,by simp only [Act.put,xL4,xL5,xL6],hbu,fun h => fu0 (mark_of (by decide) h),fun h => fu1 (mark_of (by decide) h),fun _ => rfl,fun h => fu3 (mark_of (by decide) h),fun h => fu4 (mark_of (by decide) h),fun _ => rfl,fun _ => rfl,fun h => fu7 (mark_of (by decide) h),fun h => fu8 (mark_of (by decide) h),fun h => fu9 (mark_of (by decide) h),fun h => fu10 (mark_of (by decide) h),fun h => fu11 (mark_of (by decide) h),fun h => fu12 (mark_of (by decide) h),fun h => fu13 (mark_of (by decide) h),fun h => fu14 (mark_of (by decide) h),fun h => fu15 (mark_of (by decide) h)⟩
     ·have eu6 := fu6 (dep_of 6 hru rfl (by kernel_rfl))
      replace eu6 := eu6.symm
      subst eu6
      refine wpOp_shut (by rfl) (fun K hK => ?_)
      simp only [Act.put,xL4,xL5,xL6]
      obtain ⟨XR_0,XR_1,XR_2⟩ := XR.below hbu
      go_simp
      exact hK.out _ _ ⟨vu0,vu1,vu2,vu3,vu4,vu5,(.pointer (some ⟨gr,kb * 3,none⟩)),(.agg #[.bool pr,.slice aor mr dr,.slice bor kr er]),vu8,vu9,vu10,vu11,vu12,vu13,vu14,vu15,by simp only [Act.put,xL4,xL5,xL6],hbu,fun h => fu0 (mark_of (by decide) h),fun h => fu1 (mark_of (by decide) h),fun h => fu2 (mark_of (by decide) h),fun h => fu3 (mark_of (by decide) h),fun h => fu4 (mark_of (by decide) h),fun h => fu5 (mark_of (by decide) h),fun _ => rfl,fun _ => rfl,fun h => fu8 (mark_of (by decide) h),fun h => fu9 (mark_of (by decide) h),fun h => fu10 (mark_of (by decide) h),fun h => fu11 (mark_of (by decide) h),fun h => fu12 (mark_of (by decide) h),fun h => fu13 (mark_of (by decide) h),fun h => fu14 (mark_of (by decide) h),fun h => fu15 (mark_of (by decide) h)⟩
     ·refine wpOp_shut (by rfl) (fun K hK => ?_)
      simp only [Act.put,xL4,xL5,xL6]
      go_simp
      exact hK.out _ _ ⟨vu0,vu1,vu2,vu3,vu4,vu5,vu6,vu7,(.slice (some ⟨b,off,none⟩) lb c2),vu9,vu10,vu11,vu12,vu13,vu14,vu15,by simp only [Act.put,xL4,xL5,xL6],hbu,fun h => fu0 (mark_of (by decide) h),fun h => fu1 (mark_of (by decide) h),fun h => fu2 (mark_of (by decide) h),fun h => fu3 (mark_of (by decide) h),fun h => fu4 (mark_of (by decide) h),fun h => fu5 (mark_of (by decide) h),fun h => fu6 (mark_of (by decide) h),fun h => fu7 (mark_of (by decide) h),fun _ => rfl,fun h => fu9 (mark_of (by decide) h),fun h => fu10 (mark_of (by decide) h),fun h => fu11 (mark_of (by decide) h),fun h => fu12 (mark_of (by decide) h),fun h => fu13 (mark_of (by decide) h),fun h => fu14 (mark_of (by decide) h),fun h => fu15 (mark_of (by decide) h)⟩
     ·refine wpOp_shut (by rfl) (fun K hK => ?_)
      simp only [Act.put,xL4,xL5,xL6]
      go_simp
      exact hK.out _ _ ⟨vu0,vu1,vu2,vu3,vu4,vu5,vu6,vu7,vu8,(.int .i64 (below : Int)),vu10,vu11,vu12,vu13,vu14,vu15,by simp only [Act.put,xL4,xL5,xL6],hbu,fun h => fu0 (mark_of (by decide) h),fun h => fu1 (mark_of (by decide) h),fun h => fu2 (mark_of (by decide) h),fun h => fu3 (mark_of (by decide) h),fun h => fu4 (mark_of (by decide) h),fun h => fu5 (mark_of (by decide) h),fun h => fu6 (mark_of (by decide) h),fun h => fu7 (mark_of (by decide) h),fun h => fu8 (mark_of (by decide) h),fun _ => rfl,fun h => fu10 (mark_of (by decide) h),fun h => fu11 (mark_of (by decide) h),fun h => fu12 (mark_of (by decide) h),fun h => fu13 (mark_of (by decide) h),fun h => fu14 (mark_of (by decide) h),fun h => fu15 (mark_of (by decide) h)⟩
     ·have eu8 := fu8 (dep_of 8 hru rfl (by kernel_rfl))
      have eu9 := fu9 (dep_of 9 hru rfl (by kernel_rfl))
      replace eu8 := eu8.symm
      subst eu8
      replace eu9 := eu9.symm
      subst eu9
      refine wpOp_shut (by rfl) (fun K hK => ?_)
      simp only [Act.put,xL4,xL5,xL6]
      go_simp
      exact hK.out _ _ ⟨vu0,vu1,vu2,vu3,vu4,vu5,vu6,vu7,(.slice (some ⟨b,off,none⟩) lb c2),(.int .i64 (below : Int)),(.pointer (some ⟨b,off + below * 3,none⟩)),vu11,vu12,vu13,vu14,vu15,by simp only [Act.put,xL4,xL5,xL6],hbu,fun h => fu0 (mark_of (by decide) h),fun h => fu1 (mark_of (by decide) h),fun h => fu2 (mark_of (by decide) h),fun h => fu3 (mark_of (by decide) h),fun h => fu4 (mark_of (by decide) h),fun h => fu5 (mark_of (by decide) h),fun h => fu6 (mark_of (by decide) h),fun h => fu7 (mark_of (by decide) h),fun _ => rfl,fun _ => rfl,fun _ => rfl,fun h => fu11 (mark_of (by decide) h),fun h => fu12 (mark_of (by decide) h),fun h => fu13 (mark_of (by decide) h),fun h => fu14 (mark_of (by decide) h),fun h => fu15 (mark_of (by decide) h)⟩
     ·have eu10 := fu10 (dep_of 10 hru rfl (by kernel_rfl))
      replace eu10 := eu10.symm
      subst eu10
      refine wpOp_shut (by rfl) (fun K hK => ?_)
      simp only [Act.put,xL4,xL5,xL6]
      obtain ⟨XB_0,XB_1,XB_2⟩ := XB.below hbu
      go_simp
      exact hK.out _ _ ⟨vu0,vu1,vu2,vu3,vu4,vu5,vu6,vu7,vu8,vu9,(.pointer (some ⟨b,off + below * 3,none⟩)),(.agg #[.bool p1,.slice ao1 m1 d1,.slice bo1 k1 e1]),vu12,vu13,vu14,vu15,by simp only [Act.put,xL4,xL5,xL6],hbu,fun h => fu0 (mark_of (by decide) h),fun h => fu1 (mark_of (by decide) h),fun h => fu2 (mark_of (by decide) h),fun h => fu3 (mark_of (by decide) h),fun h => fu4 (mark_of (by decide) h),fun h => fu5 (mark_of (by decide) h),fun h => fu6 (mark_of (by decide) h),fun h => fu7 (mark_of (by decide) h),fun h => fu8 (mark_of (by decide) h),fun h => fu9 (mark_of (by decide) h),fun _ => rfl,fun _ => rfl,fun h => fu12 (mark_of (by decide) h),fun h => fu13 (mark_of (by decide) h),fun h => fu14 (mark_of (by decide) h),fun h => fu15 (mark_of (by decide) h)⟩
     ·have eu7 := fu7 (dep_of 7 hru rfl (by kernel_rfl))
      have eu11 := fu11 (dep_of 11 hru rfl (by kernel_rfl))
      replace eu7 := eu7.symm
      subst eu7
      replace eu11 := eu11.symm
      subst eu11
      refine wpOp_shut (by rfl) (fun K hK => ?_)
      simp only [Act.put,xL4,xL5,xL6]
      have ht := ht.below hbu
      have Hr := Hr.below hbu
      have Hb := Hb.below hbu
      go_simp
      refine (qdiv_at _ _ (Rk kb) (qb below) St _ (Hr.at _ (HS.out kb hkla)) (Hb.le (by omega)) (by omega) (by omega) ht hq).mono ?_
      rintro eu wx ⟨x12,rfl,hx12,bu⟩
      rw [HCQ.out] at hx12
      have T12 : TupQ wx _ _ := ⟨x12,rfl,hx12⟩
      go_wp2_with fail
      have hbu2 := hbu.trans (bu.mono hbu.size)
      exact hK.out _ _ ⟨vu0,vu1,vu2,vu3,vu4,vu5,vu6,(.agg #[.bool pr,.slice aor mr dr,.slice bor kr er]),vu8,vu9,vu10,(.agg #[.bool p1,.slice ao1 m1 d1,.slice bo1 k1 e1]),_,vu13,vu14,vu15,by simp only [Act.put,xL4,xL5,xL6],hbu2,fun h => fu0 (mark_of (by decide) h),fun h => fu1 (mark_of (by decide) h),fun h => fu2 (mark_of (by decide) h),fun h => fu3 (mark_of (by decide) h),fun h => fu4 (mark_of (by decide) h),fun h => fu5 (mark_of (by decide) h),fun h => fu6 (mark_of (by decide) h),fun _ => rfl,fun h => fu8 (mark_of (by decide) h),fun h => fu9 (mark_of (by decide) h),fun h => fu10 (mark_of (by decide) h),fun _ => rfl,fun _ => T12,fun h => (fu13 (mark_of (by decide) h)).below bu,fun h => (fu14 (mark_of (by decide) h)).below bu,fun h => fu15 (mark_of (by decide) h)⟩
     ·have T12 := fu12 (dep_of 12 hru rfl (by kernel_rfl))
      obtain ⟨xT,rfl,hxT⟩ := T12
      refine wpOp_shut (by rfl) (fun K hK => ?_)
      simp only [Act.put,xL4,xL5,xL6]
      go_simp
      exact hK.out _ _ ⟨vu0,vu1,vu2,vu3,vu4,vu5,vu6,vu7,vu8,vu9,vu10,vu11,(.tuple #[xT,.int .i64 0]),(.tuple #[xT,.int .i64 0]),vu14,vu15,by simp only [Act.put,xL4,xL5,xL6],hbu,fun h => fu0 (mark_of (by decide) h),fun h => fu1 (mark_of (by decide) h),fun h => fu2 (mark_of (by decide) h),fun h => fu3 (mark_of (by decide) h),fun h => fu4 (mark_of (by decide) h),fun h => fu5 (mark_of (by decide) h),fun h => fu6 (mark_of (by decide) h),fun h => fu7 (mark_of (by decide) h),fun h => fu8 (mark_of (by decide) h),fun h => fu9 (mark_of (by decide) h),fun h => fu10 (mark_of (by decide) h),fun h => fu11 (mark_of (by decide) h),fun h => fu12 (mark_of (by decide) h),fun _ => ⟨xT,rfl,hxT⟩,fun h => fu14 (mark_of (by decide) h),fun h => fu15 (mark_of (by decide) h)⟩
     ·have T13 := fu13 (dep_of 13 hru rfl (by kernel_rfl))
      obtain ⟨xT,rfl,hxT⟩ := T13
      refine wpOp_shut (by rfl) (fun K hK => ?_)
      simp only [Act.put,xL4,xL5,xL6]
      go_simp
      exact hK.out _ _ ⟨vu0,vu1,vu2,vu3,vu4,vu5,vu6,vu7,vu8,vu9,vu10,vu11,vu12,(.tuple #[xT,.int .i64 0]),xT,vu15,by simp only [Act.put,xL4,xL5,xL6],hbu,fun h => fu0 (mark_of (by decide) h),fun h => fu1 (mark_of (by decide) h),fun h => fu2 (mark_of (by decide) h),fun h => fu3 (mark_of (by decide) h),fun h => fu4 (mark_of (by decide) h),fun h => fu5 (mark_of (by decide) h),fun h => fu6 (mark_of (by decide) h),fun h => fu7 (mark_of (by decide) h),fun h => fu8 (mark_of (by decide) h),fun h => fu9 (mark_of (by decide) h),fun h => fu10 (mark_of (by decide) h),fun h => fu11 (mark_of (by decide) h),fun h => fu12 (mark_of (by decide) h),fun h => fu13 (mark_of (by decide) h),fun _ => hxT,fun h => fu15 (mark_of (by decide) h)⟩
     ·have T13 := fu13 (dep_of 13 hru rfl (by kernel_rfl))
      obtain ⟨xT,rfl,hxT⟩ := T13
      refine wpOp_shut (by rfl) (fun K hK => ?_)
      simp only [Act.put,xL4,xL5,xL6]
      go_simp
      exact hK.out _ _ ⟨vu0,vu1,vu2,vu3,vu4,vu5,vu6,vu7,vu8,vu9,vu10,vu11,vu12,(.tuple #[xT,.int .i64 0]),vu14,(.int .i64 0),by simp only [Act.put,xL4,xL5,xL6],hbu,fun h => fu0 (mark_of (by decide) h),fun h => fu1 (mark_of (by decide) h),fun h => fu2 (mark_of (by decide) h),fun h => fu3 (mark_of (by decide) h),fun h => fu4 (mark_of (by decide) h),fun h => fu5 (mark_of (by decide) h),fun h => fu6 (mark_of (by decide) h),fun h => fu7 (mark_of (by decide) h),fun h => fu8 (mark_of (by decide) h),fun h => fu9 (mark_of (by decide) h),fun h => fu10 (mark_of (by decide) h),fun h => fu11 (mark_of (by decide) h),fun h => fu12 (mark_of (by decide) h),fun h => fu13 (mark_of (by decide) h),fun h => fu14 (mark_of (by decide) h),fun _ => rfl⟩
    ·rintro au wn ⟨vu0,vu1,vu2,vu3,vu4,vu5,vu6,vu7,vu8,vu9,vu10,vu11,vu12,vu13,vu14,vu15,rfl,hbu,fu0,fu1,fu2,fu3,fu4,fu5,fu6,fu7,fu8,fu9,fu10,fu11,fu12,fu13,fu14,fu15⟩ hfin
     have T13 := fu13 rfl
     obtain ⟨xT,rfl,hxT⟩ := T13
     simp only [Act.put,xL4,xL5,xL6]
     refine wpAnyH_take (i := 15) (v := .int .i64 0) (by simp only [xL1,xL2,xL3]; rfl) (by kernel_rfl) (by kernel_rfl) (by kernel_rfl) (by exact fun _ _ _ h => h) (Or.inl ⟨by rfl,?_⟩) trivial ?_
     ·(intro w hSw; go_simp; (try with_reducible rfl))
     simp only [Act.put,xL4,xL5,xL6]
     exact hfin _ _ ⟨vu0,vu1,vu2,vu3,vu4,vu5,vu6,vu7,vu8,vu9,vu10,vu11,vu12,(.tuple #[xT,.int .i64 0]),vu14,(.int .i64 0),by simp only [Act.put,xL4,xL5,xL6],hbu,fun _ => fu0 rfl,fun _ => fu1 rfl,fun _ => fu2 rfl,fun _ => fu3 rfl,fun _ => fu4 rfl,fun _ => fu5 rfl,fun _ => fu6 rfl,fun _ => fu7 rfl,fun _ => fu8 rfl,fun _ => fu9 rfl,fun _ => fu10 rfl,fun _ => fu11 rfl,fun _ => fu12 rfl,fun _ => fu13 rfl,fun _ => fu14 rfl,fun _ => rfl⟩
    rintro au Wu62 ⟨vu0,vu1,vu2,vu3,vu4,vu5,vu6,vu7,vu8,vu9,vu10,vu11,vu12,vu13,vu14,vu15,rfl,hbu,fu0,fu1,fu2,fu3,fu4,fu5,fu6,fu7,fu8,fu9,fu10,fu11,fu12,fu13,fu14,fu15⟩
    have eu0 := (fu0 rfl).symm
    subst eu0
    have eu1 := (fu1 rfl).symm
    subst eu1
    have eu2 := (fu2 rfl).symm
    subst eu2
    have eu3 := (fu3 rfl).symm
    subst eu3
    have eu4 := (fu4 rfl).symm
    subst eu4
    have eu5 := (fu5 rfl).symm
    subst eu5
    have eu6 := (fu6 rfl).symm
    subst eu6
    have eu7 := (fu7 rfl).symm
    subst eu7
    have eu8 := (fu8 rfl).symm
    subst eu8
    have eu9 := (fu9 rfl).symm
    subst eu9
    have eu10 := (fu10 rfl).symm
    subst eu10
    have eu11 := (fu11 rfl).symm
    subst eu11
    have T12 := fu12 rfl
    have T13 := fu13 rfl
    have hr := fu14 rfl
    have eu15 := (fu15 rfl).symm
    subst eu15
    clear fu0 fu1 fu2 fu3 fu4 fu5 fu6 fu7 fu8 fu9 fu10 fu11 fu12 fu13 fu14 fu15
    have hlXR : gr < wr.heap.size := XR.lt
    have hlXB : b < wr.heap.size := XB.lt
    replace Aq := Aq.below hbu
    replace HQ := HQ.below hbu
    replace Ar := Ar.below hbu
    replace HR := HR.below hbu
    replace ht := ht.below hbu
    replace Hr := Hr.below hbu
    replace Hb := Hb.below hbu
    replace XR := XR.below hbu
    replace XB := XB.below hbu
    replace BB := BB.trans (hbu.mono BB.size)
    clear hbu
    simp only [Act.put,xL4,xL5,xL6]
    refine xR [16] (h := ?_)
    refine AllReadyH.cons (by rfl) (fun K hK => ?_) AllReadyH.nil
    go_simp
    refine hK.out _ _ trivial (fun _ => ?_)
    clear hK K
    simp only [Act.put,xL4,xL5,xL6]
    refine xR [17] (h := ?_)
    refine AllReadyH.cons (by rfl) (fun K hK => ?_) AllReadyH.nil
    obtain ⟨p3,a3,n3,c3,bo3,m3,d3,rfl⟩ := hr.open
    obtain ⟨A2,K2⟩ := Aq.set k hk (.bool p3) (.slice a3 n3 c3) (.slice bo3 m3 d3) (num_bool _) (num_slice _ _ _) (num_slice _ _ _)
    have x0 := Aq.1 k hk 0 (by omega)
    have x1 := Aq.1 k hk 1 (by omega)
    have x2 := Aq.1 k hk 2 (by omega)
    have y0 := Aq.2.1 k hk 0 (by omega)
    have y1 := Aq.2.1 k hk 1 (by omega)
    have y2 := Aq.2.1 k hk 2 (by omega)
    simp only [Nat.add_zero] at x0 y0
    have Ar_n := Ar.other (g' := gq) (k := k * 3) hne2 (.bool p3) (.slice a3 n3 c3) (.slice bo3 m3 d3)
    have HQ_n := HQ.keep K2
    have HR_n := HR.keep K2
    have ht_n := ht.keep K2
    have hr_n := hr.keep K2
    have BB_n : Below w.heap.size w (((Wu62.setCell ⟨gq,k * 3,none⟩ (.bool p3)).setCell ⟨gq,k * 3 + 1,none⟩ (.slice a3 n3 c3)).setCell ⟨gq,k * 3 + 2,none⟩ (.slice bo3 m3 d3)) := ((BB.setCell gqB _).setCell gqB _).setCell gqB _
    go_simp
    clear x0 x1 x2 y0 y1 y2 K2 BB ht Aq hr Ar HQ HR
    generalize ((Wu62.setCell ⟨gq,k * 3,none⟩ (.bool p3)).setCell ⟨gq,k * 3 + 1,none⟩ (.slice a3 n3 c3)).setCell ⟨gq,k * 3 + 2,none⟩ (.slice bo3 m3 d3) = W63 at *
    have BB := BB_n
    have ht := ht_n
    have hr := hr_n
    have Aq := A2
    have Ar := Ar_n
    have HQ := HQ_n
    have HR := HR_n
    clear BB_n ht_n hr_n A2 Ar_n HQ_n HR_n
    refine hK.out _ _ trivial (fun _ => ?_)
    clear hK K
    simp only [Act.put,xL4,xL5,xL6]
    refine wpAnyH_done (by kernel_rfl) ?_ _
    replace HQ := HQ.put hr
    generalize upd3 elq k (.bool p3) (.slice a3 n3 c3) (.slice bo3 m3 d3) = elq2 at *
    clear hr
    have HP0 : Hid (partR qb k (QF k) Rk 0 = Rk) := partR_zero _ _ _ _
    go_wp2
    go_loopw [10,47] (fun _ vi wr => ∃ (i : Nat) (elr : Nat → Nat → Value),i ≤ below ∧ vi = .int .i64 (i : Int) ∧ Arr3 wr gr la elr ∧ Reps wr elr 0 la (partR qb k (QF k) Rk i) ∧ Arr3 wr gq lq elq2 ∧ Reps wr elq2 k lq QF ∧ Tab wr ∧ Below w.heap.size w wr) (fun _ vi _ => below - (intOf vi).toNat)
    case atStart => exact ⟨0,elr,by omega,rfl,Ar,by rw [HP0.out]; exact HR,Aq,HQ,ht,BB⟩
    case round =>
     clear Ar HR Aq HQ ht BB
     obtain ⟨i,elr,hib,rfl,Ar,HR,Aq,HQ,ht,BB⟩ := hrel
     by_cases hlt : i < below
     ·obtain ⟨ki,hki_⟩ : ∃ ki,ki = k + i := ⟨_,rfl⟩
      have HKI : Hid (ki = k + i) := hki_
      have hki : ki < la := by have := HKB.out; omega
      have r1 : (k : Int) + (i : Int) = (ki : Int) := by omega
      have r2 : IntKind.i64.wrap (ki : Int) = (ki : Int) := by rw [IntKind.wrap_i64]; omega
      have r3 : (0 : Int) ≤ (ki : Int) := by omega
      have r4 : (ki : Int) < (la : Int) := by omega
      have r5 : (0 : Int) ≤ (i : Int) := by omega
      have r6 : (i : Int) < (lb : Int) := by omega
      have r7 : (i : Int) < (below : Int) := by omega
      have r8 : (0 : Int) ≤ (k : Int) := by omega
      have HPH : Hid (partR qb k (QF k) Rk i ki = Rk ki) := by show _ = _; rw [hki_]; exact partR_here _ _ _ _ _
      have HPN : Hid (partR qb k (QF k) Rk (i + 1) ki = Rk ki - QF k * qb i) := by show _ = _; rw [partR_next,if_pos hki_,hki_]
      have HPO : Hid (∀ j,j ≠ ki → partR qb k (QF k) Rk (i + 1) j = partR qb k (QF k) Rk i j) := fun j hj => by rw [partR_next,if_neg (by rw [← hki_]; exact hj)]
      clear hki_
      obtain ⟨ps,aos,ms,ds,bos,ks,es,XS,Hs⟩ := Ar.e3 ki hki (HR ki (Nat.zero_le _) hki)
      rw [HPH.out] at Hs
      obtain ⟨pq,aoq,mq,dq,boq,kq,eq_,XQ,Hq⟩ := Aq.e3 k hk (HQ k (Nat.le_refl _) hk)
      obtain ⟨bv,offv,ccv,p1v,ao1v,m1v,d1v,bo1v,k1v,e1v,hvvv,hccv,XCv,Hiv⟩ := (hqb).at i (by omega)
      cases hvvv
      have XB2 := XCv.below BB
      have Hb2 := Hiv.below BB
      clear XCv Hiv
      go_wp2
      (try simp only [r7,decide_true])
      refine wp_region_until 20 #[true,true,true,true,true,true,true,true,true,true,true,true,true,true,true,true,true,true,true,true,false,false] (fun aF lsd a' w' => ∃ vu0 vu1 vu2 vu3 vu4 vu5 vu6 vu7 vu8 vu9 vu10 vu11 vu12 vu13 vu14 vu15 vu16 vu17 vu18 vu19 : Value,a' = (((((((((((((((((((aF.put (some 50) vu0).put (some 51) vu1).put (some 52) vu2).put (some 53) vu3).put (some 54) vu4).put (some 55) vu5).put (some 56) vu6).put (some 57) vu7).put (some 58) vu8).put (some 59) vu9).put (some 60) vu10).put (some 61) vu11).put (some 62) vu12).put (some 63) vu13).put (some 64) vu14).put (some 65) vu15).put (some 66) vu16).put (some 67) vu17).put (some 68) vu18).put (some 69) vu19 ∧ Below wr.heap.size wr w' ∧ (lsd.getD 0 false = true → vu0 = .slice (some ⟨gr,0,none⟩) la cr) ∧ (lsd.getD 1 false = true → vu1 = .int .i64 (k : Int)) ∧ (lsd.getD 2 false = true → vu2 = .int .i64 (i : Int)) ∧ (lsd.getD 3 false = true → vu3 = .int .i64 (ki : Int)) ∧ (lsd.getD 4 false = true → vu4 = .slice (some ⟨gr,0,none⟩) la cr) ∧ (lsd.getD 5 false = true → vu5 = .int .i64 (k : Int)) ∧ (lsd.getD 6 false = true → vu6 = .int .i64 (i : Int)) ∧ (lsd.getD 7 false = true → vu7 = .int .i64 (ki : Int)) ∧ (lsd.getD 8 false = true → vu8 = .pointer (some ⟨gr,ki * 3,none⟩)) ∧ (lsd.getD 9 false = true → vu9 = .agg #[.bool ps,.slice aos ms ds,.slice bos ks es]) ∧ (lsd.getD 10 false = true → vu10 = .slice (some ⟨gq,0,none⟩) lq cq) ∧ (lsd.getD 11 false = true → vu11 = .int .i64 (k : Int)) ∧ (lsd.getD 12 false = true → vu12 = .pointer (some ⟨gq,k * 3,none⟩)) ∧ (lsd.getD 13 false = true → vu13 = .agg #[.bool pq,.slice aoq mq dq,.slice boq kq eq_]) ∧ (lsd.getD 14 false = true → vu14 = .slice (some ⟨b,off,none⟩) lb c2) ∧ (lsd.getD 15 false = true → vu15 = .int .i64 (i : Int)) ∧ (lsd.getD 16 false = true → vu16 = .pointer (some ⟨b,off + i * 3,none⟩)) ∧ (lsd.getD 17 false = true → vu17 = .agg #[.bool p1v,.slice ao1v m1v d1v,.slice bo1v k1v e1v]) ∧ (lsd.getD 18 false = true → RepQ w' vu18 (QF k * qb i)) ∧ (lsd.getD 19 false = true → RepQ w' vu19 (Rk ki - QF k * qb i))) (by kernel_rfl) (by decide) (by kernel_rfl) (by rfl) (by kernel_rfl) ?_ ?_ ?_
      ·exact ⟨_,_,_,_,_,_,_,_,_,_,_,_,_,_,_,_,_,_,_,_,by simp only [Act.put,xL4,xL5,xL6]; rfl,(Below.refl _ _).drew,fun h => absurd h (fun h => mark_none h),fun h => absurd h (fun h => mark_none h),fun h => absurd h (fun h => mark_none h),fun h => absurd h (fun h => mark_none h),fun h => absurd h (fun h => mark_none h),fun h => absurd h (fun h => mark_none h),fun h => absurd h (fun h => mark_none h),fun h => absurd h (fun h => mark_none h),fun h => absurd h (fun h => mark_none h),fun h => absurd h (fun h => mark_none h),fun h => absurd h (fun h => mark_none h),fun h => absurd h (fun h => mark_none h),fun h => absurd h (fun h => mark_none h),fun h => absurd h (fun h => mark_none h),fun h => absurd h (fun h => mark_none h),fun h => absurd h (fun h => mark_none h),fun h => absurd h (fun h => mark_none h),fun h => absurd h (fun h => mark_none h),fun h => absurd h (fun h => mark_none h),fun h => absurd h (fun h => mark_none h)⟩
      ·rintro lsd au wn iu hszu ⟨vu0,vu1,vu2,vu3,vu4,vu5,vu6,vu7,vu8,vu9,vu10,vu11,vu12,vu13,vu14,vu15,vu16,vu17,vu18,vu19,rfl,hbu,fu0,fu1,fu2,fu3,fu4,fu5,fu6,fu7,fu8,fu9,fu10,fu11,fu12,fu13,fu14,fu15,fu16,fu17,fu18,fu19⟩ himu hru
       rcases (show iu = 0 ∨ iu = 1 ∨ iu = 2 ∨ iu = 3 ∨ iu = 4 ∨ iu = 5 ∨ iu = 6 ∨ iu = 7 ∨ iu = 8 ∨ iu = 9 ∨ iu = 10 ∨ iu = 11 ∨ iu = 12 ∨ iu = 13 ∨ iu = 14 ∨ iu = 15 ∨ iu = 16 ∨ iu = 17 ∨ iu = 18 ∨ iu = 19 by omega) with rfl | rfl | rfl | rfl | rfl | rfl | rfl | rfl | rfl | rfl | rfl | rfl | rfl | rfl | rfl | rfl | rfl | rfl | rfl | rfl
       ·refine wpOp_shut (by rfl) (fun K hK => ?_)
        simp only [Act.put,xL4,xL5,xL6]
        go_simp
        exact hK.out _ _ ⟨(.slice (some ⟨gr,0,none⟩) la cr),vu1,vu2,vu3,vu4,vu5,vu6,vu7,vu8,vu9,vu10,vu11,vu12,vu13,vu14,vu15,vu16,vu17,vu18,vu19,by simp only [Act.put,xL4,xL5,xL6],hbu,fun _ => rfl,fun h => fu1 (mark_of (by decide) h),fun h => fu2 (mark_of (by decide) h),fun h => fu3 (mark_of (by decide) h),fun h => fu4 (mark_of (by decide) h),fun h => fu5 (mark_of (by decide) h),fun h => fu6 (mark_of (by decide) h),fun h => fu7 (mark_of (by decide) h),fun h => fu8 (mark_of (by decide) h),fun h => fu9 (mark_of (by decide) h),fun h => fu10 (mark_of (by decide) h),fun h => fu11 (mark_of (by decide) h),fun h => fu12 (mark_of (by decide) h),fun h => fu13 (mark_of (by decide) h),fun h => fu14 (mark_of (by decide) h),fun h => fu15 (mark_of (by decide) h),fun h => fu16 (mark_of (by decide) h),fun h => fu17 (mark_of (by decide) h),fun h => fu18 (mark_of (by decide) h),fun h => fu19 (mark_of (by decide) h)⟩
       ·refine wpOp_shut (by rfl) (fun K hK => ?_)
        simp only [Act.put,xL4,xL5,xL6]
        go_simp
        exact hK.out _ _ ⟨vu0,(.int .i64 (k : Int)),vu2,vu3,vu4,vu5,vu6,vu7,vu8,vu9,vu10,vu11,vu12,vu13,vu14,vu15,vu16,vu17,vu18,vu19,by simp only [Act.put,xL4,xL5,xL6],hbu,fun h => fu0 (mark_of (by decide) h),fun _ => rfl,fun h => fu2 (mark_of (by decide) h),fun h => fu3 (mark_of (by decide) h),fun h => fu4 (mark_of (by decide) h),fun h => fu5 (mark_of (by decide) h),fun h => fu6 (mark_of (by decide) h),fun h => fu7 (mark_of (by decide) h),fun h => fu8 (mark_of (by decide) h),fun h => fu9 (mark_of (by decide) h),fun h => fu10 (mark_of (by decide) h),fun h => fu11 (mark_of (by decide) h),fun h => fu12 (mark_of (by decide) h),fun h => fu13 (mark_of (by decide) h),fun h => fu14 (mark_of (by decide) h),fun h => fu15 (mark_of (by decide) h),fun h => fu16 (mark_of (by decide) h),fun h => fu17 (mark_of (by decide) h),fun h => fu18 (mark_of (by decide) h),fun h => fu19 (mark_of (by decide) h)⟩
       ·refine wpOp_shut (by rfl) (fun K hK => ?_)
        simp only [Act.put,xL4,xL5,xL6]
        go_simp
        exact hK.out _ _ ⟨vu0,vu1,(.int .i64 (i : Int)),vu3,vu4,vu5,vu6,vu7,vu8,vu9,vu10,vu11,vu12,vu13,vu14,vu15,vu16,vu17,vu18,vu19,by simp only [Act.put,xL4,xL5,xL6],hbu,fun h => fu0 (mark_of (by decide) h),fun h => fu1 (mark_of (by decide) h),fun _ => rfl,fun h => fu3 (mark_of (by decide) h),fun h => fu4 (mark_of (by decide) h),fun h => fu5 (mark_of (by decide) h),fun h => fu6 (mark_of (by decide) h),fun h => fu7 (mark_of (by decide) h),fun h => fu8 (mark_of (by decide) h),fun h => fu9 (mark_of (by decide) h),fun h => fu10 (mark_of (by decide) h),fun h => fu11 (mark_of (by decide) h),fun h => fu12 (mark_of (by decide) h),fun h => fu13 (mark_of (by decide) h),fun h => fu14 (mark_of (by decide) h),fun h => fu15 (mark_of (by decide) h),fun h => fu16 (mark_of (by decide) h),fun h => fu17 (mark_of (by decide) h),fun h => fu18 (mark_of (by decide) h),fun h => fu19 (mark_of (by decide) h)⟩
       ·have eu1 := fu1 (dep_of 1 hru rfl (by kernel_rfl))
        have eu2 := fu2 (dep_of 2 hru rfl (by kernel_rfl))
        replace eu1 := eu1.symm
        subst eu1
        replace eu2 := eu2.symm
        subst eu2
        refine wpOp_shut (by rfl) (fun K hK => ?_)
        simp only [Act.put,xL4,xL5,xL6]
        go_simp
        exact hK.out _ _ ⟨vu0,(.int .i64 (k : Int)),(.int .i64 (i : Int)),(.int .i64 (ki : Int)),vu4,vu5,vu6,vu7,vu8,vu9,vu10,vu11,vu12,vu13,vu14,vu15,vu16,vu17,vu18,vu19,by simp only [Act.put,xL4,xL5,xL6],hbu,fun h => fu0 (mark_of (by decide) h),fun _ => rfl,fun _ => rfl,fun _ => rfl,fun h => fu4 (mark_of (by decide) h),fun h => fu5 (mark_of (by decide) h),fun h => fu6 (mark_of (by decide) h),fun h => fu7 (mark_of (by decide) h),fun h => fu8 (mark_of (by decide) h),fun h => fu9 (mark_of (by decide) h),fun h => fu10 (mark_of (by decide) h),fun h => fu11 (mark_of (by decide) h),fun h => fu12 (mark_of (by decide) h),fun h => fu13 (mark_of (by decide) h),fun h => fu14 (mark_of (by decide) h),fun h => fu15 (mark_of (by decide) h),fun h => fu16 (mark_of (by decide) h),fun h => fu17 (mark_of (by decide) h),fun h => fu18 (mark_of (by decide) h),fun h => fu19 (mark_of (by decide) h)⟩
       ·refine wpOp_shut (by rfl) (fun K hK => ?_)
        simp only [Act.put,xL4,xL5,xL6]
        go_simp
        exact hK.out _ _ ⟨vu0,vu1,vu2,vu3,(.slice (some ⟨gr,0,none⟩) la cr),vu5,vu6,vu7,vu8,vu9,vu10,vu11,vu12,vu13,vu14,vu15,vu16,vu17,vu18,vu19,by simp only [Act.put,xL4,xL5,xL6],hbu,fun h => fu0 (mark_of (by decide) h),fun h => fu1 (mark_of (by decide) h),fun h => fu2 (mark_of (by decide) h),fun h => fu3 (mark_of (by decide) h),fun _ => rfl,fun h => fu5 (mark_of (by decide) h),fun h => fu6 (mark_of (by decide) h),fun h => fu7 (mark_of (by decide) h),fun h => fu8 (mark_of (by decide) h),fun h => fu9 (mark_of (by decide) h),fun h => fu10 (mark_of (by decide) h),fun h => fu11 (mark_of (by decide) h),fun h => fu12 (mark_of (by decide) h),fun h => fu13 (mark_of (by decide) h),fun h => fu14 (mark_of (by decide) h),fun h => fu15 (mark_of (by decide) h),fun h => fu16 (mark_of (by decide) h),fun h => fu17 (mark_of (by decide) h),fun h => fu18 (mark_of (by decide) h),fun h => fu19 (mark_of (by decide) h)⟩
       ·refine wpOp_shut (by rfl) (fun K hK => ?_)
        simp only [Act.put,xL4,xL5,xL6]
        go_simp
        exact hK.out _ _ ⟨vu0,vu1,vu2,vu3,vu4,(.int .i64 (k : Int)),vu6,vu7,vu8,vu9,vu10,vu11,vu12,vu13,vu14,vu15,vu16,vu17,vu18,vu19,by simp only [Act.put,xL4,xL5,xL6],hbu,fun h => fu0 (mark_of (by decide) h),fun h => fu1 (mark_of (by decide) h),fun h => fu2 (mark_of (by decide) h),fun h => fu3 (mark_of (by decide) h),fun h => fu4 (mark_of (by decide) h),fun _ => rfl,fun h => fu6 (mark_of (by decide) h),fun h => fu7 (mark_of (by decide) h),fun h => fu8 (mark_of (by decide) h),fun h => fu9 (mark_of (by decide) h),fun h => fu10 (mark_of (by decide) h),fun h => fu11 (mark_of (by decide) h),fun h => fu12 (mark_of (by decide) h),fun h => fu13 (mark_of (by decide) h),fun h => fu14 (mark_of (by decide) h),fun h => fu15 (mark_of (by decide) h),fun h => fu16 (mark_of (by decide) h),fun h => fu17 (mark_of (by decide) h),fun h => fu18 (mark_of (by decide) h),fun h => fu19 (mark_of (by decide) h)⟩
       ·refine wpOp_shut (by rfl) (fun K hK => ?_)
        simp only [Act.put,xL4,xL5,xL6]
        go_simp
        exact hK.out _ _ ⟨vu0,vu1,vu2,vu3,vu4,vu5,(.int .i64 (i : Int)),vu7,vu8,vu9,vu10,vu11,vu12,vu13,vu14,vu15,vu16,vu17,vu18,vu19,by simp only [Act.put,xL4,xL5,xL6],hbu,fun h => fu0 (mark_of (by decide) h),fun h => fu1 (mark_of (by decide) h),fun h => fu2 (mark_of (by decide) h),fun h => fu3 (mark_of (by decide) h),fun h => fu4 (mark_of (by decide) h),fun h => fu5 (mark_of (by decide) h),fun _ => rfl,fun h => fu7 (mark_of (by decide) h),fun h => fu8 (mark_of (by decide) h),fun h => fu9 (mark_of (by decide) h),fun h => fu10 (mark_of (by decide) h),fun h => fu11 (mark_of (by decide) h),fun h => fu12 (mark_of (by decide) h),fun h => fu13 (mark_of (by decide) h),fun h => fu14 (mark_of (by decide) h),fun h => fu15 (mark_of (by decide) h),fun h => fu16 (mark_of (by decide) h),fun h => fu17 (mark_of (by decide) h),fun h => fu18 (mark_of (by decide) h),fun h => fu19 (mark_of (by decide) h)⟩
       ·have eu5 := fu5 (dep_of 5 hru rfl (by kernel_rfl))
        have eu6 := fu6 (dep_of 6 hru rfl (by kernel_rfl))
        replace eu5 := eu5.symm
        subst eu5
        replace eu6 := eu6.symm
        subst eu6
        refine wpOp_shut (by rfl) (fun K hK => ?_)
        simp only [Act.put,xL4,xL5,xL6]
        go_simp
        exact hK.out _ _ ⟨vu0,vu1,vu2,vu3,vu4,(.int .i64 (k : Int)),(.int .i64 (i : Int)),(.int .i64 (ki : Int)),vu8,vu9,vu10,vu11,vu12,vu13,vu14,vu15,vu16,vu17,vu18,vu19,by simp only [Act.put,xL4,xL5,xL6],hbu,fun h => fu0 (mark_of (by decide) h),fun h => fu1 (mark_of (by decide) h),fun h => fu2 (mark_of (by decide) h),fun h => fu3 (mark_of (by decide) h),fun h => fu4 (mark_of (by decide) h),fun _ => rfl,fun _ => rfl,fun _ => rfl,fun h => fu8 (mark_of (by decide) h),fun h => fu9 (mark_of (by decide) h),fun h => fu10 (mark_of (by decide) h),fun h => fu11 (mark_of (by decide) h),fun h => fu12 (mark_of (by decide) h),fun h => fu13 (mark_of (by decide) h),fun h => fu14 (mark_of (by decide) h),fun h => fu15 (mark_of (by decide) h),fun h => fu16 (mark_of (by decide) h),fun h => fu17 (mark_of (by decide) h),fun h => fu18 (mark_of (by decide) h),fun h => fu19 (mark_of (by decide) h)⟩
       ·have eu4 := fu4 (dep_of 4 hru rfl (by kernel_rfl))
        have eu7 := fu7 (dep_of 7 hru rfl (by kernel_rfl))
        replace eu4 := eu4.symm
        subst eu4
        replace eu7 := eu7.symm
        subst eu7
        refine wpOp_shut (by rfl) (fun K hK => ?_)
        simp only [Act.put,xL4,xL5,xL6]
        go_simp
        exact hK.out _ _ ⟨vu0,vu1,vu2,vu3,(.slice (some ⟨gr,0,none⟩) la cr),vu5,vu6,(.int .i64 (ki : Int)),(.pointer (some ⟨gr,ki * 3,none⟩)),vu9,vu10,vu11,vu12,vu13,vu14,vu15,vu16,vu17,vu18,vu19,by simp only [Act.put,xL4,xL5,xL6],hbu,fun h => fu0 (mark_of (by decide) h),fun h => fu1 (mark_of (by decide) h),fun h => fu2 (mark_of (by decide) h),fun h => fu3 (mark_of (by decide) h),fun _ => rfl,fun h => fu5 (mark_of (by decide) h),fun h => fu6 (mark_of (by decide) h),fun _ => rfl,fun _ => rfl,fun h => fu9 (mark_of (by decide) h),fun h => fu10 (mark_of (by decide) h),fun h => fu11 (mark_of (by decide) h),fun h => fu12 (mark_of (by decide) h),fun h => fu13 (mark_of (by decide) h),fun h => fu14 (mark_of (by decide) h),fun h => fu15 (mark_of (by decide) h),fun h => fu16 (mark_of (by decide) h),fun h => fu17 (mark_of (by decide) h),fun h => fu18 (mark_of (by decide) h),fun h => fu19 (mark_of (by decide) h)⟩
       ·have eu8 := fu8 (dep_of 8 hru rfl (by kernel_rfl))
        replace eu8 := eu8.symm
        subst eu8
        refine wpOp_shut (by rfl) (fun K hK => ?_)
        simp only [Act.put,xL4,xL5,xL6]
        obtain ⟨XS_0,XS_1,XS_2⟩ := XS.below hbu
        go_simp
        exact hK.out _ _ ⟨vu0,vu1,vu2,vu3,vu4,vu5,vu6,vu7,(.pointer (some ⟨gr,ki * 3,none⟩)),(.agg #[.bool ps,.slice aos ms ds,.slice bos ks es]),vu10,vu11,vu12,vu13,vu14,vu15,vu16,vu17,vu18,vu19,by simp only [Act.put,xL4,xL5,xL6],hbu,fun h => fu0 (mark_of (by decide) h),fun h => fu1 (mark_of (by decide) h),fun h => fu2 (mark_of (by decide) h),fun h => fu3 (mark_of (by decide) h),fun h => fu4 (mark_of (by decide) h),fun h => fu5 (mark_of (by decide) h),fun h => fu6 (mark_of (by decide) h),fun h => fu7 (mark_of (by decide) h),fun _ => rfl,fun _ => rfl,fun h => fu10 (mark_of (by decide) h),fun h => fu11 (mark_of (by decide) h),fun h => fu12 (mark_of (by decide) h),fun h => fu13 (mark_of (by decide) h),fun h => fu14 (mark_of (by decide) h),fun h => fu15 (mark_of (by decide) h),fun h => fu16 (mark_of (by decide) h),fun h => fu17 (mark_of (by decide) h),fun h => fu18 (mark_of (by decide) h),fun h => fu19 (mark_of (by decide) h)⟩
       ·refine wpOp_shut (by rfl) (fun K hK => ?_)
        simp only [Act.put,xL4,xL5,xL6]
        go_simp
        exact hK.out _ _ ⟨vu0,vu1,vu2,vu3,vu4,vu5,vu6,vu7,vu8,vu9,(.slice (some ⟨gq,0,none⟩) lq cq),vu11,vu12,vu13,vu14,vu15,vu16,vu17,vu18,vu19,by simp only [Act.put,xL4,xL5,xL6],hbu,fun h => fu0 (mark_of (by decide) h),fun h => fu1 (mark_of (by decide) h),fun h => fu2 (mark_of (by decide) h),fun h => fu3 (mark_of (by decide) h),fun h => fu4 (mark_of (by decide) h),fun h => fu5 (mark_of (by decide) h),fun h => fu6 (mark_of (by decide) h),fun h => fu7 (mark_of (by decide) h),fun h => fu8 (mark_of (by decide) h),fun h => fu9 (mark_of (by decide) h),fun _ => rfl,fun h => fu11 (mark_of (by decide) h),fun h => fu12 (mark_of (by decide) h),fun h => fu13 (mark_of (by decide) h),fun h => fu14 (mark_of (by decide) h),fun h => fu15 (mark_of (by decide) h),fun h => fu16 (mark_of (by decide) h),fun h => fu17 (mark_of (by decide) h),fun h => fu18 (mark_of (by decide) h),fun h => fu19 (mark_of (by decide) h)⟩
       ·refine wpOp_shut (by rfl) (fun K hK => ?_)
        simp only [Act.put,xL4,xL5,xL6]
        go_simp
        exact hK.out _ _ ⟨vu0,vu1,vu2,vu3,vu4,vu5,vu6,vu7,vu8,vu9,vu10,(.int .i64 (k : Int)),vu12,vu13,vu14,vu15,vu16,vu17,vu18,vu19,by simp only [Act.put,xL4,xL5,xL6],hbu,fun h => fu0 (mark_of (by decide) h),fun h => fu1 (mark_of (by decide) h),fun h => fu2 (mark_of (by decide) h),fun h => fu3 (mark_of (by decide) h),fun h => fu4 (mark_of (by decide) h),fun h => fu5 (mark_of (by decide) h),fun h => fu6 (mark_of (by decide) h),fun h => fu7 (mark_of (by decide) h),fun h => fu8 (mark_of (by decide) h),fun h => fu9 (mark_of (by decide) h),fun h => fu10 (mark_of (by decide) h),fun _ => rfl,fun h => fu12 (mark_of (by decide) h),fun h => fu13 (mark_of (by decide) h),fun h => fu14 (mark_of (by decide) h),fun h => fu15 (mark_of (by decide) h),fun h => fu16 (mark_of (by decide) h),fun h => fu17 (mark_of (by decide) h),fun h => fu18 (mark_of (by decide) h),fun h => fu19 (mark_of (by decide) h)⟩
       ·have eu10 := fu10 (dep_of 10 hru rfl (by kernel_rfl))
        have eu11 := fu11 (dep_of 11 hru rfl (by kernel_rfl))
        replace eu10 := eu10.symm
        subst eu10
        replace eu11 := eu11.symm
        subst eu11
        refine wpOp_shut (by rfl) (fun K hK => ?_)
        simp only [Act.put,xL4,xL5,xL6]
        go_simp
        exact hK.out _ _ ⟨vu0,vu1,vu2,vu3,vu4,vu5,vu6,vu7,vu8,vu9,(.slice (some ⟨gq,0,none⟩) lq cq),(.int .i64 (k : Int)),(.pointer (some ⟨gq,k * 3,none⟩)),vu13,vu14,vu15,vu16,vu17,vu18,vu19,by simp only [Act.put,xL4,xL5,xL6],hbu,fun h => fu0 (mark_of (by decide) h),fun h => fu1 (mark_of (by decide) h),fun h => fu2 (mark_of (by decide) h),fun h => fu3 (mark_of (by decide) h),fun h => fu4 (mark_of (by decide) h),fun h => fu5 (mark_of (by decide) h),fun h => fu6 (mark_of (by decide) h),fun h => fu7 (mark_of (by decide) h),fun h => fu8 (mark_of (by decide) h),fun h => fu9 (mark_of (by decide) h),fun _ => rfl,fun _ => rfl,fun _ => rfl,fun h => fu13 (mark_of (by decide) h),fun h => fu14 (mark_of (by decide) h),fun h => fu15 (mark_of (by decide) h),fun h => fu16 (mark_of (by decide) h),fun h => fu17 (mark_of (by decide) h),fun h => fu18 (mark_of (by decide) h),fun h => fu19 (mark_of (by decide) h)⟩
       ·have eu12 := fu12 (dep_of 12 hru rfl (by kernel_rfl))
        replace eu12 := eu12.symm
        subst eu12
        refine wpOp_shut (by rfl) (fun K hK => ?_)
        simp only [Act.put,xL4,xL5,xL6]
        obtain ⟨XQ_0,XQ_1,XQ_2⟩ := XQ.below hbu
        go_simp
        exact hK.out _ _ ⟨vu0,vu1,vu2,vu3,vu4,vu5,vu6,vu7,vu8,vu9,vu10,vu11,(.pointer (some ⟨gq,k * 3,none⟩)),(.agg #[.bool pq,.slice aoq mq dq,.slice boq kq eq_]),vu14,vu15,vu16,vu17,vu18,vu19,by simp only [Act.put,xL4,xL5,xL6],hbu,fun h => fu0 (mark_of (by decide) h),fun h => fu1 (mark_of (by decide) h),fun h => fu2 (mark_of (by decide) h),fun h => fu3 (mark_of (by decide) h),fun h => fu4 (mark_of (by decide) h),fun h => fu5 (mark_of (by decide) h),fun h => fu6 (mark_of (by decide) h),fun h => fu7 (mark_of (by decide) h),fun h => fu8 (mark_of (by decide) h),fun h => fu9 (mark_of (by decide) h),fun h => fu10 (mark_of (by decide) h),fun h => fu11 (mark_of (by decide) h),fun _ => rfl,fun _ => rfl,fun h => fu14 (mark_of (by decide) h),fun h => fu15 (mark_of (by decide) h),fun h => fu16 (mark_of (by decide) h),fun h => fu17 (mark_of (by decide) h),fun h => fu18 (mark_of (by decide) h),fun h => fu19 (mark_of (by decide) h)⟩
       ·refine wpOp_shut (by rfl) (fun K hK => ?_)
        simp only [Act.put,xL4,xL5,xL6]
        go_simp
        exact hK.out _ _ ⟨vu0,vu1,vu2,vu3,vu4,vu5,vu6,vu7,vu8,vu9,vu10,vu11,vu12,vu13,(.slice (some ⟨b,off,none⟩) lb c2),vu15,vu16,vu17,vu18,vu19,by simp only [Act.put,xL4,xL5,xL6],hbu,fun h => fu0 (mark_of (by decide) h),fun h => fu1 (mark_of (by decide) h),fun h => fu2 (mark_of (by decide) h),fun h => fu3 (mark_of (by decide) h),fun h => fu4 (mark_of (by decide) h),fun h => fu5 (mark_of (by decide) h),fun h => fu6 (mark_of (by decide) h),fun h => fu7 (mark_of (by decide) h),fun h => fu8 (mark_of (by decide) h),fun h => fu9 (mark_of (by decide) h),fun h => fu10 (mark_of (by decide) h),fun h => fu11 (mark_of (by decide) h),fun h => fu12 (mark_of (by decide) h),fun h => fu13 (mark_of (by decide) h),fun _ => rfl,fun h => fu15 (mark_of (by decide) h),fun h => fu16 (mark_of (by decide) h),fun h => fu17 (mark_of (by decide) h),fun h => fu18 (mark_of (by decide) h),fun h => fu19 (mark_of (by decide) h)⟩
       ·refine wpOp_shut (by rfl) (fun K hK => ?_)
        simp only [Act.put,xL4,xL5,xL6]
        go_simp
        exact hK.out _ _ ⟨vu0,vu1,vu2,vu3,vu4,vu5,vu6,vu7,vu8,vu9,vu10,vu11,vu12,vu13,vu14,(.int .i64 (i : Int)),vu16,vu17,vu18,vu19,by simp only [Act.put,xL4,xL5,xL6],hbu,fun h => fu0 (mark_of (by decide) h),fun h => fu1 (mark_of (by decide) h),fun h => fu2 (mark_of (by decide) h),fun h => fu3 (mark_of (by decide) h),fun h => fu4 (mark_of (by decide) h),fun h => fu5 (mark_of (by decide) h),fun h => fu6 (mark_of (by decide) h),fun h => fu7 (mark_of (by decide) h),fun h => fu8 (mark_of (by decide) h),fun h => fu9 (mark_of (by decide) h),fun h => fu10 (mark_of (by decide) h),fun h => fu11 (mark_of (by decide) h),fun h => fu12 (mark_of (by decide) h),fun h => fu13 (mark_of (by decide) h),fun h => fu14 (mark_of (by decide) h),fun _ => rfl,fun h => fu16 (mark_of (by decide) h),fun h => fu17 (mark_of (by decide) h),fun h => fu18 (mark_of (by decide) h),fun h => fu19 (mark_of (by decide) h)⟩
       ·have eu14 := fu14 (dep_of 14 hru rfl (by kernel_rfl))
        have eu15 := fu15 (dep_of 15 hru rfl (by kernel_rfl))
        replace eu14 := eu14.symm
        subst eu14
        replace eu15 := eu15.symm
        subst eu15
        refine wpOp_shut (by rfl) (fun K hK => ?_)
        simp only [Act.put,xL4,xL5,xL6]
        go_simp
        exact hK.out _ _ ⟨vu0,vu1,vu2,vu3,vu4,vu5,vu6,vu7,vu8,vu9,vu10,vu11,vu12,vu13,(.slice (some ⟨b,off,none⟩) lb c2),(.int .i64 (i : Int)),(.pointer (some ⟨b,off + i * 3,none⟩)),vu17,vu18,vu19,by simp only [Act.put,xL4,xL5,xL6],hbu,fun h => fu0 (mark_of (by decide) h),fun h => fu1 (mark_of (by decide) h),fun h => fu2 (mark_of (by decide) h),fun h => fu3 (mark_of (by decide) h),fun h => fu4 (mark_of (by decide) h),fun h => fu5 (mark_of (by decide) h),fun h => fu6 (mark_of (by decide) h),fun h => fu7 (mark_of (by decide) h),fun h => fu8 (mark_of (by decide) h),fun h => fu9 (mark_of (by decide) h),fun h => fu10 (mark_of (by decide) h),fun h => fu11 (mark_of (by decide) h),fun h => fu12 (mark_of (by decide) h),fun h => fu13 (mark_of (by decide) h),fun _ => rfl,fun _ => rfl,fun _ => rfl,fun h => fu17 (mark_of (by decide) h),fun h => fu18 (mark_of (by decide) h),fun h => fu19 (mark_of (by decide) h)⟩
       ·have eu16 := fu16 (dep_of 16 hru rfl (by kernel_rfl))
        replace eu16 := eu16.symm
        subst eu16
        refine wpOp_shut (by rfl) (fun K hK => ?_)
        simp only [Act.put,xL4,xL5,xL6]
        obtain ⟨XB2_0,XB2_1,XB2_2⟩ := XB2.below hbu
        go_simp
        exact hK.out _ _ ⟨vu0,vu1,vu2,vu3,vu4,vu5,vu6,vu7,vu8,vu9,vu10,vu11,vu12,vu13,vu14,vu15,(.pointer (some ⟨b,off + i * 3,none⟩)),(.agg #[.bool p1v,.slice ao1v m1v d1v,.slice bo1v k1v e1v]),vu18,vu19,by simp only [Act.put,xL4,xL5,xL6],hbu,fun h => fu0 (mark_of (by decide) h),fun h => fu1 (mark_of (by decide) h),fun h => fu2 (mark_of (by decide) h),fun h => fu3 (mark_of (by decide) h),fun h => fu4 (mark_of (by decide) h),fun h => fu5 (mark_of (by decide) h),fun h => fu6 (mark_of (by decide) h),fun h => fu7 (mark_of (by decide) h),fun h => fu8 (mark_of (by decide) h),fun h => fu9 (mark_of (by decide) h),fun h => fu10 (mark_of (by decide) h),fun h => fu11 (mark_of (by decide) h),fun h => fu12 (mark_of (by decide) h),fun h => fu13 (mark_of (by decide) h),fun h => fu14 (mark_of (by decide) h),fun h => fu15 (mark_of (by decide) h),fun _ => rfl,fun _ => rfl,fun h => fu18 (mark_of (by decide) h),fun h => fu19 (mark_of (by decide) h)⟩
       ·have eu13 := fu13 (dep_of 13 hru rfl (by kernel_rfl))
        have eu17 := fu17 (dep_of 17 hru rfl (by kernel_rfl))
        replace eu13 := eu13.symm
        subst eu13
        replace eu17 := eu17.symm
        subst eu17
        refine wpOp_shut (by rfl) (fun K hK => ?_)
        simp only [Act.put,xL4,xL5,xL6]
        have ht := ht.below hbu
        have Hq := Hq.below hbu
        have Hb2 := Hb2.below hbu
        go_simp
        refine (qmul_at _ _ (QF k) (qb i) (St + L) _ (Hq.at _ sC) (Hb2.le (by omega)) (by omega) (by omega) ht).mono ?_
        rintro eu wx ⟨x18,rfl,h18,bu⟩
        go_wp2_with fail
        have hbu2 := hbu.trans (bu.mono hbu.size)
        exact hK.out _ _ ⟨vu0,vu1,vu2,vu3,vu4,vu5,vu6,vu7,vu8,vu9,vu10,vu11,vu12,(.agg #[.bool pq,.slice aoq mq dq,.slice boq kq eq_]),vu14,vu15,vu16,(.agg #[.bool p1v,.slice ao1v m1v d1v,.slice bo1v k1v e1v]),_,vu19,by simp only [Act.put,xL4,xL5,xL6],hbu2,fun h => fu0 (mark_of (by decide) h),fun h => fu1 (mark_of (by decide) h),fun h => fu2 (mark_of (by decide) h),fun h => fu3 (mark_of (by decide) h),fun h => fu4 (mark_of (by decide) h),fun h => fu5 (mark_of (by decide) h),fun h => fu6 (mark_of (by decide) h),fun h => fu7 (mark_of (by decide) h),fun h => fu8 (mark_of (by decide) h),fun h => fu9 (mark_of (by decide) h),fun h => fu10 (mark_of (by decide) h),fun h => fu11 (mark_of (by decide) h),fun h => fu12 (mark_of (by decide) h),fun _ => rfl,fun h => fu14 (mark_of (by decide) h),fun h => fu15 (mark_of (by decide) h),fun h => fu16 (mark_of (by decide) h),fun _ => rfl,fun _ => h18,fun h => (fu19 (mark_of (by decide) h)).below bu⟩
       ·have eu9 := fu9 (dep_of 9 hru rfl (by kernel_rfl))
        replace eu9 := eu9.symm
        subst eu9
        have h18 := fu18 (dep_of 18 hru rfl (by kernel_rfl))
        refine wpOp_shut (by rfl) (fun K hK => ?_)
        simp only [Act.put,xL4,xL5,xL6]
        have ht := ht.below hbu
        have Hs := Hs.below hbu
        go_simp
        refine (qsub_at _ _ (Rk ki) (QF k * qb i) (St + L + L) _ (Hs.at _ (Nat.le_trans (HS.out ki hki) (by omega))) (h18.at _ (qsz_mul _ _ sC (sb i (by omega)))) (by omega) (by omega) ht).mono ?_
        rintro eu wx ⟨x19,rfl,hr,bu⟩
        go_wp2_with fail
        have hbu2 := hbu.trans (bu.mono hbu.size)
        exact hK.out _ _ ⟨vu0,vu1,vu2,vu3,vu4,vu5,vu6,vu7,vu8,(.agg #[.bool ps,.slice aos ms ds,.slice bos ks es]),vu10,vu11,vu12,vu13,vu14,vu15,vu16,vu17,vu18,_,by simp only [Act.put,xL4,xL5,xL6],hbu2,fun h => fu0 (mark_of (by decide) h),fun h => fu1 (mark_of (by decide) h),fun h => fu2 (mark_of (by decide) h),fun h => fu3 (mark_of (by decide) h),fun h => fu4 (mark_of (by decide) h),fun h => fu5 (mark_of (by decide) h),fun h => fu6 (mark_of (by decide) h),fun h => fu7 (mark_of (by decide) h),fun h => fu8 (mark_of (by decide) h),fun _ => rfl,fun h => fu10 (mark_of (by decide) h),fun h => fu11 (mark_of (by decide) h),fun h => fu12 (mark_of (by decide) h),fun h => fu13 (mark_of (by decide) h),fun h => fu14 (mark_of (by decide) h),fun h => fu15 (mark_of (by decide) h),fun h => fu16 (mark_of (by decide) h),fun h => fu17 (mark_of (by decide) h),fun h => (fu18 (mark_of (by decide) h)).below bu,fun _ => hr⟩
      rintro au Wu84 ⟨vu0,vu1,vu2,vu3,vu4,vu5,vu6,vu7,vu8,vu9,vu10,vu11,vu12,vu13,vu14,vu15,vu16,vu17,vu18,vu19,rfl,hbu,fu0,fu1,fu2,fu3,fu4,fu5,fu6,fu7,fu8,fu9,fu10,fu11,fu12,fu13,fu14,fu15,fu16,fu17,fu18,fu19⟩
      have eu0 := (fu0 rfl).symm
      subst eu0
      have eu1 := (fu1 rfl).symm
      subst eu1
      have eu2 := (fu2 rfl).symm
      subst eu2
      have eu3 := (fu3 rfl).symm
      subst eu3
      have eu4 := (fu4 rfl).symm
      subst eu4
      have eu5 := (fu5 rfl).symm
      subst eu5
      have eu6 := (fu6 rfl).symm
      subst eu6
      have eu7 := (fu7 rfl).symm
      subst eu7
      have eu8 := (fu8 rfl).symm
      subst eu8
      have eu9 := (fu9 rfl).symm
      subst eu9
      have eu10 := (fu10 rfl).symm
      subst eu10
      have eu11 := (fu11 rfl).symm
      subst eu11
      have eu12 := (fu12 rfl).symm
      subst eu12
      have eu13 := (fu13 rfl).symm
      subst eu13
      have eu14 := (fu14 rfl).symm
      subst eu14
      have eu15 := (fu15 rfl).symm
      subst eu15
      have eu16 := (fu16 rfl).symm
      subst eu16
      have eu17 := (fu17 rfl).symm
      subst eu17
      have h18 := fu18 rfl
      have hr := fu19 rfl
      clear fu0 fu1 fu2 fu3 fu4 fu5 fu6 fu7 fu8 fu9 fu10 fu11 fu12 fu13 fu14 fu15 fu16 fu17 fu18 fu19
      have hlXS : gr < wr.heap.size := XS.lt
      have hlXQ : gq < wr.heap.size := XQ.lt
      have hlXB2 : b < wr.heap.size := XB2.lt
      replace Aq := Aq.below hbu
      replace HQ := HQ.below hbu
      replace Ar := Ar.below hbu
      replace HR := HR.below hbu
      replace ht := ht.below hbu
      replace Hs := Hs.below hbu
      replace Hq := Hq.below hbu
      replace Hb2 := Hb2.below hbu
      replace XS := XS.below hbu
      replace XQ := XQ.below hbu
      replace XB2 := XB2.below hbu
      replace BB := BB.trans (hbu.mono BB.size)
      clear hbu
      simp only [Act.put,xL4,xL5,xL6]
      refine xR [20] (h := ?_)
      refine AllReadyH.cons (by rfl) (fun K hK => ?_) AllReadyH.nil
      go_simp
      refine hK.out _ _ trivial (fun _ => ?_)
      clear hK K
      simp only [Act.put,xL4,xL5,xL6]
      refine xR [21] (h := ?_)
      refine AllReadyH.cons (by rfl) (fun K hK => ?_) AllReadyH.nil
      obtain ⟨p3,a3,n3,c3,bo3,m3,d3,rfl⟩ := hr.open
      obtain ⟨A2,K2⟩ := Ar.set ki hki (.bool p3) (.slice a3 n3 c3) (.slice bo3 m3 d3) (num_bool _) (num_slice _ _ _) (num_slice _ _ _)
      have x0 := Ar.1 ki hki 0 (by omega)
      have x1 := Ar.1 ki hki 1 (by omega)
      have x2 := Ar.1 ki hki 2 (by omega)
      have y0 := Ar.2.1 ki hki 0 (by omega)
      have y1 := Ar.2.1 ki hki 1 (by omega)
      have y2 := Ar.2.1 ki hki 2 (by omega)
      simp only [Nat.add_zero] at x0 y0
      have Aq_n := Aq.other (g' := gr) (k := ki * 3) hne (.bool p3) (.slice a3 n3 c3) (.slice bo3 m3 d3)
      have HQ_n := HQ.keep K2
      have HR_n := HR.keep K2
      have ht_n := ht.keep K2
      have hr_n := hr.keep K2
      have BB_n : Below w.heap.size w (((Wu84.setCell ⟨gr,ki * 3,none⟩ (.bool p3)).setCell ⟨gr,ki * 3 + 1,none⟩ (.slice a3 n3 c3)).setCell ⟨gr,ki * 3 + 2,none⟩ (.slice bo3 m3 d3)) := ((BB.setCell grB _).setCell grB _).setCell grB _
      go_simp
      clear x0 x1 x2 y0 y1 y2 K2 BB ht Ar hr Aq HQ HR
      generalize ((Wu84.setCell ⟨gr,ki * 3,none⟩ (.bool p3)).setCell ⟨gr,ki * 3 + 1,none⟩ (.slice a3 n3 c3)).setCell ⟨gr,ki * 3 + 2,none⟩ (.slice bo3 m3 d3) = W85 at *
      have BB := BB_n
      have ht := ht_n
      have hr := hr_n
      have Ar := A2
      have Aq := Aq_n
      have HQ := HQ_n
      have HR := HR_n
      clear BB_n ht_n hr_n A2 Aq_n HQ_n HR_n
      refine hK.out _ _ trivial (fun _ => ?_)
      clear hK K
      simp only [Act.put,xL4,xL5,xL6]
      refine wpAnyH_done (by kernel_rfl) ?_ _
      rw [← HPN.out] at hr
      replace HR := HR.upd hr HPO.out
      go_wp2
      go_roundw
      case rel => exact ⟨i + 1,_,by omega,by go_num,Ar,HR,Aq,HQ,ht,BB⟩
      case measure => simp [intOf]; omega
     ·obtain rfl : i = below := by omega
      have r7 : ¬ (i : Int) < (i : Int) := by omega
      have HST : Hid (partR qb k (QF k) Rk i = stepR qb i k Rk) := by show _ = _; rw [← HCQ.out,HKB.out] <;> rfl
      rw [HST.out] at HR
      have HI2 : Hid (∀ j,j < k → divQ qb i k (stepR qb i k Rk) j = QF j) := fun j hj => by
       have h1 : (if j = k then Rk (k + i) / qb i else divQ qb i k (stepR qb i k Rk) j) = QF j := HI.out j (by omega)
       rw [if_neg (by omega)] at h1
       exact h1
      have HS2 : Hid (∀ j,j < la → qsz (stepR qb i k Rk j) ≤ szS L (lq - k)) := fun j hj => by
       rw [HSN.out]
       exact stepR_sz HS.out sb (by rw [← HKB.out]; exact hkla) hbl2 j hj
      have HT2 : Hid (∀ j,k ≤ j → j < lq → qsz (QF j) ≤ 90000) := fun j h1 h2 => by
       by_cases e : j = k
       ·subst e; exact Nat.le_trans sC (by omega)
       ·exact HT.out j (by omega) h2
      have HD2 : Hid (divR qb i k (stepR qb i k Rk) = RF) := HD
      clear HI HS HT HD HST HP0
      go_wp2
      go_roundw
      case rel => exact ⟨k,stepR qb i k Rk,elq2,elr,by omega,by first | rfl | go_num,HD2,HI2,HS2,HT2,Aq,HQ,Ar,HR,ht,BB⟩
      case measure => simp [intOf] <;> omega

end Go.Proofs.YtieeneaebjihlaaGreatDoor

namespace Go.Proofs.YtieeneaebjihlaaGreatDoor
set_option linter.unusedVariables false

/-- The value of the first n coefficients at x. -/
def evN (q : Nat → Rat) (x : Rat) : Nat → Rat
 | 0 => 0
 | n + 1 => evN q x n + q n * x ^ n
/-- Neighbours put together. -/
def halfQ (q : Nat → Rat) (n : Nat) (x : Rat) (i : Nat) : Rat := if 2 * i + 1 < n then q (2 * i) + q (2 * i + 1) * x else q (2 * i)
theorem pow_two_mul (x : Rat) : ∀ k,(x * x) ^ k = x ^ (2 * k)
 | 0 => by rw [Nat.mul_zero,Rat.pow_zero,Rat.pow_zero]
 | k + 1 => by rw [Rat.pow_succ,pow_two_mul x k,show 2 * (k + 1) = 2 * k + 1 + 1 by omega,Rat.pow_succ,Rat.pow_succ,Rat.mul_assoc]
theorem evN_pairs (q : Nat → Rat) (n : Nat) (x : Rat) : ∀ k,2 * k ≤ n → evN (halfQ q n x) (x * x) k = evN q x (2 * k)
 | 0,_ => rfl
 | k + 1,h => by
  show evN (halfQ q n x) (x * x) k + halfQ q n x k * (x * x) ^ k = _
  rw [evN_pairs q n x k (by omega),pow_two_mul,show 2 * (k + 1) = 2 * k + 1 + 1 by omega]
  show _ = evN q x (2 * k) + q (2 * k) * x ^ (2 * k) + q (2 * k + 1) * x ^ (2 * k + 1)
  unfold halfQ
  rw [if_pos (by omega),Rat.pow_succ,Rat.add_mul,Rat.add_assoc,Rat.mul_assoc,Rat.mul_comm x]
/-- Halving keeps the value. -/
theorem evN_half (q : Nat → Rat) (n : Nat) (x : Rat) : evN (halfQ q n x) (x * x) ((n + 1) / 2) = evN q x n := by
 obtain ⟨k,hk⟩ : ∃ k,k = n / 2 := ⟨_,rfl⟩
 rcases (show n = 2 * k ∨ n = 2 * k + 1 by omega) with e | e
 ·rw [show (n + 1) / 2 = k by omega,evN_pairs q n x k (by omega),← e]
 ·rw [show (n + 1) / 2 = k + 1 by omega]
  show evN (halfQ q n x) (x * x) k + halfQ q n x k * (x * x) ^ k = _
  rw [evN_pairs q n x k (by omega),pow_two_mul]
  unfold halfQ
  rw [if_neg (by omega)]
  rw [show evN q x n = evN q x (2 * k + 1) by rw [← e]]
  rfl
theorem evN_one (q : Nat → Rat) (x : Rat) : evN q x 1 = q 0 := by
 show (0 : Rat) + q 0 * x ^ 0 = _
 rw [Rat.pow_zero,Rat.mul_one,Rat.zero_add]
/-- How great the numbers may become in j rounds. -/
def vsz : Nat → Nat → Nat → Nat
 | 0,L,X => L + X
 | j + 1,L,X => vsz j (2 * L + X + 2) (2 * X + 1)
theorem vsz_le : ∀ j L X,L + X ≤ vsz j L X
 | 0,_,_ => Nat.le_refl _
 | j + 1,L,X => Nat.le_trans (by omega) (vsz_le j (2 * L + X + 2) (2 * X + 1))
theorem halfQ_sz {q : Nat → Rat} {n L X : Nat} {x : Rat} (hq : ∀ i,i < n → qsz (q i) ≤ L) (hx : qsz x ≤ X) : ∀ i,i < (n + 1) / 2 → qsz (halfQ q n x i) ≤ 2 * L + X + 2 := by
 intro i hi
 unfold halfQ
 split
 ·have h1 := qsz_mul _ _ (hq (2 * i + 1) (by omega)) hx
  exact Nat.le_trans (qsz_add _ _ (hq (2 * i) (by omega)) h1) (by omega)
 ·exact Nat.le_trans (hq (2 * i) (by omega)) (by omega)

end Go.Proofs.YtieeneaebjihlaaGreatDoor

namespace Go.Proofs.YtieeneaebjihlaaGreatDoor
open Go.RowKit
set_option linter.unusedVariables false
set_option linter.unusedSimpArgs false

/-- No number that the division works out is longer than S. -/
def allS (la : Nat) (b : Nat → Rat) (below S : Nat) : Nat → (Nat → Rat) → Prop
 | 0,R => ∀ i,i < la → qsz (R i) ≤ S
 | k + 1,R => (∀ i,i < la → qsz (R i) ≤ S) ∧ allS la b below S k (stepR b below k R)
theorem allS_here {la : Nat} {b : Nat → Rat} {below S : Nat} : ∀ {k : Nat} {R : Nat → Rat},allS la b below S k R → ∀ i,i < la → qsz (R i) ≤ S
 | 0,_,h => h
 | _ + 1,_,h => h.1
set_option maxRecDepth 20000 in
set_option maxHeartbeats 8000000 in
theorem pdivide_S (u v : Value) (la lb : Nat) (qa qb : Nat → Rat) (L S : Nat) (w : World) (ha : FRow w u la qa) (hb : FRow w v lb qb) (sb : ∀ i,i < lb → qsz (qb i) ≤ L) (ht : Tab w) (hla : la ≤ 1000) (hlb : lb ≤ 1000) (hlb0 : 0 < lb) (hq : qb (lb - 1) ≠ 0) (hL : 1 ≤ L) (hLS : L ≤ S) (hS2 : S + L + L + 1 ≤ 90000) (hS : allS la qb (lb - 1) S (la - (lb - 1)) qa) :
  Calls Tryz.prog 33 #[u,v] w fun e w' => ∃ x y,e = .returned (.tuple #[x,y]) ∧ FNew w.heap.size w' x (trimN (divQ qb (lb - 1) (la - (lb - 1)) qa) (la - (lb - 1))) (divQ qb (lb - 1) (la - (lb - 1)) qa) ∧ FNew w.heap.size w' y (trimN (divR qb (lb - 1) (la - (lb - 1)) qa) (min la (lb - 1))) (divR qb (lb - 1) (la - (lb - 1)) qa) ∧ Below w.heap.size w w' := by
 obtain ⟨i0,hi,hz0,hz1,hz2⟩ := info_parts info_wrat
 obtain ⟨ao,c,rfl⟩ := ha.open
 obtain ⟨ao2,c2,rfl⟩ := hb.open
 have hqb := hb.q L sb
 have BB : Below w.heap.size w w := Below.refl _ _
 obtain ⟨below,hbl⟩ : ∃ below,below = lb - 1 := ⟨_,rfl⟩
 rw [← hbl] at hq hS ⊢
 have d1_ : (lb : Int) - 1 = (below : Int) := by omega
 have hbl2 : below < lb := by omega
 clear hbl
 obtain ⟨lq,hlq⟩ : ∃ lq,lq = la - below := ⟨_,rfl⟩
 rw [← hlq] at hS ⊢
 have HSH : Hid (allS la qb below S lq qa) := hS
 clear hS
 have HLQ : Hid (lq = la - below) := hlq
 have d2_ : max (0 : Int) ((la : Int) - (below : Int)) = (lq : Int) := by omega
 have hlql : lq ≤ la := by omega
 have hdis : lq = 0 ∧ la ≤ below ∨ 0 < lq ∧ la = lq + below := by omega
 have HDIS : Hid (lq = 0 ∧ la ≤ below ∨ 0 < lq ∧ la = lq + below) := hdis
 clear hlq hdis
 by_cases h0 : lq = 0
 ·have H0 : Hid (lq = 0) := h0
  clear h0
  have dw : IntKind.i64.wrap ((la : Int) - (below : Int)) = (la : Int) - (below : Int) := by rw [IntKind.wrap_i64]; omega
  go_enter Tryz.func33,Tryz.ntmps33
  go_wp2
  refine wp_region_until 8 #[true,true,true,true,true,true,true,true,false,false] (fun aF lsd a' w' => ∃ vu0 vu1 vu2 vu3 vu4 vu5 vu6 vu7 : Value,a' = (((((((aF.put (some 14) vu0).put (some 15) vu1).put (some 16) vu2).put (some 17) vu3).put (some 18) vu4).put (some 19) vu5).put (some 20) vu6).put (some 21) vu7 ∧ Below w.heap.size w w' ∧ (lsd.getD 0 false = true → vu0 = .slice ao la c) ∧ (lsd.getD 1 false = true → vu1 = .int .i64 (la : Int)) ∧ (lsd.getD 2 false = true → vu2 = .int .i64 (below : Int)) ∧ (lsd.getD 3 false = true → vu3 = .int .i64 ((la : Int) - (below : Int))) ∧ (lsd.getD 4 false = true → vu4 = .int .i64 (lq : Int)) ∧ (lsd.getD 5 false = true → MArr w.heap.size w' vu5 (lq) (fun _ => 0) (fun _ => False)) ∧ (lsd.getD 6 false = true → vu6 = .slice ao la c) ∧ (lsd.getD 7 false = true → MArr w.heap.size w' vu7 la qa (fun _ => True))) (by kernel_rfl) (by decide) (by kernel_rfl) (by rfl) (by kernel_rfl) ?_ ?_ ?_
  ·exact ⟨_,_,_,_,_,_,_,_,by simp only [Act.put,xL4,xL5,xL6]; rfl,(Below.refl _ _).drew,fun h => absurd h (fun h => mark_none h),fun h => absurd h (fun h => mark_none h),fun h => absurd h (fun h => mark_none h),fun h => absurd h (fun h => mark_none h),fun h => absurd h (fun h => mark_none h),fun h => absurd h (fun h => mark_none h),fun h => absurd h (fun h => mark_none h),fun h => absurd h (fun h => mark_none h)⟩
  ·rintro lsd au wn iu hszu ⟨vu0,vu1,vu2,vu3,vu4,vu5,vu6,vu7,rfl,hbu,fu0,fu1,fu2,fu3,fu4,fu5,fu6,fu7⟩ himu hru
   rcases (show iu = 0 ∨ iu = 1 ∨ iu = 2 ∨ iu = 3 ∨ iu = 4 ∨ iu = 5 ∨ iu = 6 ∨ iu = 7 by omega) with rfl | rfl | rfl | rfl | rfl | rfl | rfl | rfl
   ·refine wpOp_shut (by rfl) (fun K hK => ?_)
    simp only [Act.put,xL4,xL5,xL6]
    go_simp
    exact hK.out _ _ ⟨(.slice ao la c),vu1,vu2,vu3,vu4,vu5,vu6,vu7,by simp only [Act.put,xL4,xL5,xL6],hbu,fun _ => rfl,fun h => fu1 (mark_of (by decide) h),fun h => fu2 (mark_of (by decide) h),fun h => fu3 (mark_of (by decide) h),fun h => fu4 (mark_of (by decide) h),fun h => fu5 (mark_of (by decide) h),fun h => fu6 (mark_of (by decide) h),fun h => fu7 (mark_of (by decide) h)⟩
   ·have eu0 := fu0 (dep_of 0 hru rfl (by kernel_rfl))
    replace eu0 := eu0.symm
    subst eu0
    refine wpOp_shut (by rfl) (fun K hK => ?_)
    simp only [Act.put,xL4,xL5,xL6]
    go_simp
    exact hK.out _ _ ⟨(.slice ao la c),(.int .i64 (la : Int)),vu2,vu3,vu4,vu5,vu6,vu7,by simp only [Act.put,xL4,xL5,xL6],hbu,fun _ => rfl,fun _ => rfl,fun h => fu2 (mark_of (by decide) h),fun h => fu3 (mark_of (by decide) h),fun h => fu4 (mark_of (by decide) h),fun h => fu5 (mark_of (by decide) h),fun h => fu6 (mark_of (by decide) h),fun h => fu7 (mark_of (by decide) h)⟩
   ·refine wpOp_shut (by rfl) (fun K hK => ?_)
    simp only [Act.put,xL4,xL5,xL6]
    go_simp
    exact hK.out _ _ ⟨vu0,vu1,(.int .i64 (below : Int)),vu3,vu4,vu5,vu6,vu7,by simp only [Act.put,xL4,xL5,xL6],hbu,fun h => fu0 (mark_of (by decide) h),fun h => fu1 (mark_of (by decide) h),fun _ => rfl,fun h => fu3 (mark_of (by decide) h),fun h => fu4 (mark_of (by decide) h),fun h => fu5 (mark_of (by decide) h),fun h => fu6 (mark_of (by decide) h),fun h => fu7 (mark_of (by decide) h)⟩
   ·have eu1 := fu1 (dep_of 1 hru rfl (by kernel_rfl))
    have eu2 := fu2 (dep_of 2 hru rfl (by kernel_rfl))
    replace eu1 := eu1.symm
    subst eu1
    replace eu2 := eu2.symm
    subst eu2
    refine wpOp_shut (by rfl) (fun K hK => ?_)
    simp only [Act.put,xL4,xL5,xL6]
    go_simp
    exact hK.out _ _ ⟨vu0,(.int .i64 (la : Int)),(.int .i64 (below : Int)),(.int .i64 ((la : Int) - (below : Int))),vu4,vu5,vu6,vu7,by simp only [Act.put,xL4,xL5,xL6],hbu,fun h => fu0 (mark_of (by decide) h),fun _ => rfl,fun _ => rfl,fun _ => rfl,fun h => fu4 (mark_of (by decide) h),fun h => fu5 (mark_of (by decide) h),fun h => fu6 (mark_of (by decide) h),fun h => fu7 (mark_of (by decide) h)⟩
   ·have eu3 := fu3 (dep_of 3 hru rfl (by kernel_rfl))
    replace eu3 := eu3.symm
    subst eu3
    refine wpOp_shut (by rfl) (fun K hK => ?_)
    simp only [Act.put,xL4,xL5,xL6]
    go_simp
    exact hK.out _ _ ⟨vu0,vu1,vu2,(.int .i64 ((la : Int) - (below : Int))),(.int .i64 (lq : Int)),vu5,vu6,vu7,by simp only [Act.put,xL4,xL5,xL6],hbu,fun h => fu0 (mark_of (by decide) h),fun h => fu1 (mark_of (by decide) h),fun h => fu2 (mark_of (by decide) h),fun _ => rfl,fun _ => rfl,fun h => fu5 (mark_of (by decide) h),fun h => fu6 (mark_of (by decide) h),fun h => fu7 (mark_of (by decide) h)⟩
   ·have eu4 := fu4 (dep_of 4 hru rfl (by kernel_rfl))
    replace eu4 := eu4.symm
    subst eu4
    refine wpOp_shut (by simp only [xL1,xL2,xL3]; rfl) (fun K hK => ?_)
    simp only [Act.put,xL4,xL5,xL6]
    refine step_make wn (by rfl) _ _ 22 (by rfl) wn.heap.size 28 i0 (.agg #[.bool false,.slice none 0 0,.slice none 0 0]) 3 Tryz.underlying22 hi hz0 hz1 .i64 .i64 ((lq : Nat) : Int) ((lq : Nat) : Int) (lq) (by rfl) (by rfl) rfl rfl (by rw [hz2]; omega) (by unfold maxLen; omega) (Nat.le_refl _) ?_
    intro wx hown hgrow
    have bu : Below wn.heap.size wn wx := (Below.refl _ _).grown hgrow (Nat.le_refl _) (fun k e => by cases e)
    have MXu := marr_made (fun _ => 0) (by omega) hown
    clear hown hgrow
    have hbu2 := hbu.trans (bu.mono hbu.size)
    exact hK.out _ _ ⟨vu0,vu1,vu2,vu3,(.int .i64 (lq : Int)),_,vu6,vu7,by simp only [Act.put,xL4,xL5,xL6],hbu2,fun h => fu0 (mark_of (by decide) h),fun h => fu1 (mark_of (by decide) h),fun h => fu2 (mark_of (by decide) h),fun h => fu3 (mark_of (by decide) h),fun _ => rfl,fun _ => MXu.le hbu.size,fun h => fu6 (mark_of (by decide) h),fun h => (fu7 (mark_of (by decide) h)).below bu⟩
   ·refine wpOp_shut (by rfl) (fun K hK => ?_)
    simp only [Act.put,xL4,xL5,xL6]
    go_simp
    exact hK.out _ _ ⟨vu0,vu1,vu2,vu3,vu4,vu5,(.slice ao la c),vu7,by simp only [Act.put,xL4,xL5,xL6],hbu,fun h => fu0 (mark_of (by decide) h),fun h => fu1 (mark_of (by decide) h),fun h => fu2 (mark_of (by decide) h),fun h => fu3 (mark_of (by decide) h),fun h => fu4 (mark_of (by decide) h),fun h => fu5 (mark_of (by decide) h),fun _ => rfl,fun h => fu7 (mark_of (by decide) h)⟩
   ·have eu6 := fu6 (dep_of 6 hru rfl (by kernel_rfl))
    replace eu6 := eu6.symm
    subst eu6
    refine wpOp_shut (by rfl) (fun K hK => ?_)
    simp only [Act.put,xL4,xL5,xL6]
    go_simp
    refine (pclone_at _ la qa _ ((ha.below BB).below hbu) (by omega)).mono ?_
    rintro eu wx ⟨x,rfl,MR,bu⟩
    have MRb := MR
    replace MR := MR.le hbu.size
    go_wp2_with fail
    have hbu2 := hbu.trans (bu.mono hbu.size)
    exact hK.out _ _ ⟨vu0,vu1,vu2,vu3,vu4,vu5,(.slice ao la c),_,by simp only [Act.put,xL4,xL5,xL6],hbu2,fun h => fu0 (mark_of (by decide) h),fun h => fu1 (mark_of (by decide) h),fun h => fu2 (mark_of (by decide) h),fun h => fu3 (mark_of (by decide) h),fun h => fu4 (mark_of (by decide) h),fun h => (fu5 (mark_of (by decide) h)).below bu,fun _ => rfl,fun _ => MR⟩
  rintro au Wu1 ⟨vu0,vu1,vu2,vu3,vu4,vu5,vu6,vu7,rfl,hbu,fu0,fu1,fu2,fu3,fu4,fu5,fu6,fu7⟩
  have eu0 := (fu0 rfl).symm
  subst eu0
  have eu1 := (fu1 rfl).symm
  subst eu1
  have eu2 := (fu2 rfl).symm
  subst eu2
  have eu3 := (fu3 rfl).symm
  subst eu3
  have eu4 := (fu4 rfl).symm
  subst eu4
  have MQ := fu5 rfl
  have eu6 := (fu6 rfl).symm
  subst eu6
  have MR := fu7 rfl
  clear fu0 fu1 fu2 fu3 fu4 fu5 fu6 fu7
  replace BB := BB.trans (hbu.mono BB.size)
  clear hbu
  simp only [Act.put,xL4,xL5,xL6]
  refine xR [8] (h := ?_)
  refine AllReadyH.cons (by rfl) (fun K hK => ?_) AllReadyH.nil
  go_simp
  refine hK.out _ _ trivial (fun _ => ?_)
  clear hK K
  simp only [Act.put,xL4,xL5,xL6]
  refine xR [9] (h := ?_)
  refine AllReadyH.cons (by rfl) (fun K hK => ?_) AllReadyH.nil
  go_simp
  refine hK.out _ _ trivial (fun _ => ?_)
  clear hK K
  simp only [Act.put,xL4,xL5,xL6]
  refine wpAnyH_done (by kernel_rfl) ?_ _
  obtain ⟨aq,cq,rfl,hcq1,hcq2⟩ := MQ.open
  obtain ⟨ar,cr,rfl,hcr1,hcr2⟩ := MR.open
  have H0s := H0.out
  have d3_ : (lq : Int) - 1 = -1 := by omega
  replace ht := ht.below BB
  obtain ⟨QF,hQF⟩ : ∃ QF,divQ qb below lq qa = QF := ⟨_,rfl⟩
  have HQF : Hid (divQ qb below lq qa = QF) := hQF
  obtain ⟨RF,hRF⟩ : ∃ RF,divR qb below lq qa = RF := ⟨_,rfl⟩
  have HRF : Hid (divR qb below lq qa = RF) := hRF
  have hRq : RF = qa := by rw [← hRF,H0s]; rfl
  have FQ : FNew w.heap.size Wu1 (.slice aq lq cq) lq QF := MQ_none MQ H0s
  have FS : FNew w.heap.size Wu1 (.slice ar la cr) la RF := by rw [hRq]; exact MR.pre la cr (Nat.le_refl _) hcr1 hcr2 (fun _ _ => trivial)
  have sQ : ∀ i,i < lq → qsz (QF i) ≤ 90000 := fun i hi => by omega
  have sR : ∀ i,i < la → qsz (RF i) ≤ 90000 := fun i hi => by rw [hRq]; exact Nat.le_trans (allS_here HSH.out i hi) (by omega)
  clear MQ MR hQF hRF hRq H0s
  go_wp2
  go_loopw [9] (fun vk wr => vk = .int .i64 (-1) ∧ wr = Wu1) (fun _ _ => 0)
  case atStart => exact ⟨by first | rfl | go_num,rfl⟩
  case round =>
   obtain ⟨rfl,hwr⟩ := hrel
   subst hwr
   have hmn : min (la : Int) (below : Int) = ((min la below : Nat) : Int) := by omega
   have hml : min la below ≤ la := by omega
   obtain ⟨mn,hmn2⟩ : ∃ mn,mn = min la below := ⟨_,rfl⟩
   rw [← hmn2] at hmn hml
   have HMN : Hid (mn = min la below) := hmn2
   have e1_ : (0 : Int) ≤ (mn : Int) := by omega
   have e2_ : (mn : Int) ≤ (cr : Int) := by omega
   have e3_ : mn ≤ cr := by omega
   clear hmn2
   have FT : FNew w.heap.size wr (.slice ar mn cr) mn RF := FS.cut mn hml hcr1 hcr2
   go_wp2
   have hDr : Below wr.heap.size wr wr.drew := (Below.refl _ _).drew
   replace FQ := FQ.below hDr
   replace FT := FT.below hDr
   replace ht := ht.below hDr
   replace BB := BB.trans (hDr.mono BB.size)
   clear hDr
   refine wp_region_held_drew (S := (fun w' => True)) (by kernel_rfl) ?_ (fun hHeld => ?_)
   ·trivial
   generalize wr.drew = W2 at *
   refine xT 0 (v := ?_) (hy := Or.inl ⟨by rfl,?_⟩) (h := ?_)
   rotate_left
   ·(intro w hSw; (try dsimp only at hSw); go_simp; (try with_reducible rfl))
   (try simp only [Act.put,xL4,xL5,xL6])
   refine xT 2 (v := ?_) (hy := Or.inl ⟨by rfl,?_⟩) (h := ?_)
   rotate_left
   ·(intro w hSw; (try dsimp only at hSw); go_simp; (try with_reducible rfl))
   (try simp only [Act.put,xL4,xL5,xL6])
   refine xT 3 (v := ?_) (hy := Or.inl ⟨by rfl,?_⟩) (h := ?_)
   rotate_left
   ·(intro w hSw; (try dsimp only at hSw); go_simp; (try with_reducible rfl))
   (try simp only [Act.put,xL4,xL5,xL6])
   refine xT 4 (v := ?_) (hy := Or.inl ⟨by rfl,?_⟩) (h := ?_)
   rotate_left
   ·(intro w hSw; (try dsimp only at hSw); go_simp; (try with_reducible rfl))
   (try simp only [Act.put,xL4,xL5,xL6])
   refine xT 5 (v := ?_) (hy := Or.inl ⟨by rfl,?_⟩) (h := ?_)
   rotate_left
   ·(intro w hSw; (try dsimp only at hSw); go_simp; (try with_reducible rfl))
   (try simp only [Act.put,xL4,xL5,xL6])
   refine xT 6 (v := ?_) (hy := Or.inl ⟨by rfl,?_⟩) (h := ?_)
   rotate_left
   ·(intro w hSw; (try dsimp only at hSw); go_simp; (try with_reducible rfl))
   (try simp only [Act.put,xL4,xL5,xL6])
   refine xT 7 (v := ?_) (hy := Or.inl ⟨by rfl,?_⟩) (h := ?_)
   rotate_left
   ·(intro w hSw; (try dsimp only at hSw); go_simp; (try with_reducible rfl))
   (try simp only [Act.put,xL4,xL5,xL6])
   refine xR [1] (h := ?_)
   refine xN (h := fun K hK => ?_)
   go_simp
   refine (ptrim_at _ lq QF 90000 _ (FQ.1.q _ sQ) (by omega) (by omega)).mono ?_
   rintro e w1 ⟨aq2,cq2,hvv,rfl,b1⟩
   cases hvv
   go_wp2_with fail
   replace FQ := FQ.below b1
   replace FT := FT.below b1
   replace ht := ht.below b1
   replace BB := BB.trans (b1.mono BB.size)
   clear b1
   refine hK.out _ _ ?_ (fun hH1 => ?_)
   ·trivial
   clear hK K hHeld
   (try simp only [Act.put,xL4,xL5,xL6])
   refine xR [8] (h := ?_)
   refine xN (h := fun K hK => ?_)
   go_simp
   refine (ptrim_at _ mn RF 90000 _ (FT.1.q _ (fun i hi => sR i (by omega))) (by omega) (by omega)).mono ?_
   rintro e w2 ⟨ar2,cr2,hvv,rfl,b2⟩
   cases hvv
   go_wp2_with fail
   replace FQ := FQ.below b2
   replace FT := FT.below b2
   replace ht := ht.below b2
   replace BB := BB.trans (b2.mono BB.size)
   clear b2
   refine hK.out _ _ ?_ (fun hH2 => ?_)
   ·trivial
   clear hK K hH1
   (try simp only [Act.put,xL4,xL5,xL6])
   refine xT 9 (v := ?_) (hy := Or.inl ⟨by rfl,?_⟩) (h := ?_)
   rotate_left
   ·(intro w hSw; (try dsimp only at hSw); go_simp; (try with_reducible rfl))
   (try simp only [Act.put,xL4,xL5,xL6])
   refine xT 10 (v := ?_) (hy := Or.inl ⟨by rfl,?_⟩) (h := ?_)
   rotate_left
   ·(intro w hSw; (try dsimp only at hSw); go_simp; (try with_reducible rfl))
   (try simp only [Act.put,xL4,xL5,xL6])
   refine wpAnyH_done (by kernel_rfl) ?_ _
   clear hH2
   have F1 := FQ.trim
   have F2 := FT.trim
   clear FQ FT
   go_wp2
   go_ret2
   exact ⟨_,_,rfl,by rw [HQF.out]; exact F1,by rw [HRF.out,← HMN.out]; exact F2,BB⟩
 ·have hla0 : 0 < la := by omega
  have hlq0 : 0 < lq := by omega
  have dw : IntKind.i64.wrap ((la : Int) - (below : Int)) = (la : Int) - (below : Int) := by rw [IntKind.wrap_i64]; omega
  go_enter Tryz.func33,Tryz.ntmps33
  go_wp2
  refine wp_region_until 8 #[true,true,true,true,true,true,true,true,false,false] (fun aF lsd a' w' => ∃ vu0 vu1 vu2 vu3 vu4 vu5 vu6 vu7 : Value,a' = (((((((aF.put (some 14) vu0).put (some 15) vu1).put (some 16) vu2).put (some 17) vu3).put (some 18) vu4).put (some 19) vu5).put (some 20) vu6).put (some 21) vu7 ∧ Below w.heap.size w w' ∧ (lsd.getD 0 false = true → vu0 = .slice ao la c) ∧ (lsd.getD 1 false = true → vu1 = .int .i64 (la : Int)) ∧ (lsd.getD 2 false = true → vu2 = .int .i64 (below : Int)) ∧ (lsd.getD 3 false = true → vu3 = .int .i64 ((la : Int) - (below : Int))) ∧ (lsd.getD 4 false = true → vu4 = .int .i64 (lq : Int)) ∧ (lsd.getD 5 false = true → MArr w.heap.size w' vu5 (lq) (fun _ => 0) (fun _ => False)) ∧ (lsd.getD 6 false = true → vu6 = .slice ao la c) ∧ (lsd.getD 7 false = true → MArr w.heap.size w' vu7 la qa (fun _ => True)) ∧ (lsd.getD 5 false = true → lsd.getD 7 false = true → Apart vu5 vu7)) (by kernel_rfl) (by decide) (by kernel_rfl) (by rfl) (by kernel_rfl) ?_ ?_ ?_
  ·exact ⟨_,_,_,_,_,_,_,_,by simp only [Act.put,xL4,xL5,xL6]; rfl,(Below.refl _ _).drew,fun h => absurd h (fun h => mark_none h),fun h => absurd h (fun h => mark_none h),fun h => absurd h (fun h => mark_none h),fun h => absurd h (fun h => mark_none h),fun h => absurd h (fun h => mark_none h),fun h => absurd h (fun h => mark_none h),fun h => absurd h (fun h => mark_none h),fun h => absurd h (fun h => mark_none h),fun h => absurd h (fun h => mark_none h)⟩
  ·rintro lsd au wn iu hszu ⟨vu0,vu1,vu2,vu3,vu4,vu5,vu6,vu7,rfl,hbu,fu0,fu1,fu2,fu3,fu4,fu5,fu6,fu7,ku5_7⟩ himu hru
   rcases (show iu = 0 ∨ iu = 1 ∨ iu = 2 ∨ iu = 3 ∨ iu = 4 ∨ iu = 5 ∨ iu = 6 ∨ iu = 7 by omega) with rfl | rfl | rfl | rfl | rfl | rfl | rfl | rfl
   ·refine wpOp_shut (by rfl) (fun K hK => ?_)
    simp only [Act.put,xL4,xL5,xL6]
    go_simp
    exact hK.out _ _ ⟨(.slice ao la c),vu1,vu2,vu3,vu4,vu5,vu6,vu7,by simp only [Act.put,xL4,xL5,xL6],hbu,fun _ => rfl,fun h => fu1 (mark_of (by decide) h),fun h => fu2 (mark_of (by decide) h),fun h => fu3 (mark_of (by decide) h),fun h => fu4 (mark_of (by decide) h),fun h => fu5 (mark_of (by decide) h),fun h => fu6 (mark_of (by decide) h),fun h => fu7 (mark_of (by decide) h),fun h1 h2 => ku5_7 (mark_of (by decide) h1) (mark_of (by decide) h2)⟩
   ·have eu0 := fu0 (dep_of 0 hru rfl (by kernel_rfl))
    replace eu0 := eu0.symm
    subst eu0
    refine wpOp_shut (by rfl) (fun K hK => ?_)
    simp only [Act.put,xL4,xL5,xL6]
    go_simp
    exact hK.out _ _ ⟨(.slice ao la c),(.int .i64 (la : Int)),vu2,vu3,vu4,vu5,vu6,vu7,by simp only [Act.put,xL4,xL5,xL6],hbu,fun _ => rfl,fun _ => rfl,fun h => fu2 (mark_of (by decide) h),fun h => fu3 (mark_of (by decide) h),fun h => fu4 (mark_of (by decide) h),fun h => fu5 (mark_of (by decide) h),fun h => fu6 (mark_of (by decide) h),fun h => fu7 (mark_of (by decide) h),fun h1 h2 => ku5_7 (mark_of (by decide) h1) (mark_of (by decide) h2)⟩
   ·refine wpOp_shut (by rfl) (fun K hK => ?_)
    simp only [Act.put,xL4,xL5,xL6]
    go_simp
    exact hK.out _ _ ⟨vu0,vu1,(.int .i64 (below : Int)),vu3,vu4,vu5,vu6,vu7,by simp only [Act.put,xL4,xL5,xL6],hbu,fun h => fu0 (mark_of (by decide) h),fun h => fu1 (mark_of (by decide) h),fun _ => rfl,fun h => fu3 (mark_of (by decide) h),fun h => fu4 (mark_of (by decide) h),fun h => fu5 (mark_of (by decide) h),fun h => fu6 (mark_of (by decide) h),fun h => fu7 (mark_of (by decide) h),fun h1 h2 => ku5_7 (mark_of (by decide) h1) (mark_of (by decide) h2)⟩
   ·have eu1 := fu1 (dep_of 1 hru rfl (by kernel_rfl))
    have eu2 := fu2 (dep_of 2 hru rfl (by kernel_rfl))
    replace eu1 := eu1.symm
    subst eu1
    replace eu2 := eu2.symm
    subst eu2
    refine wpOp_shut (by rfl) (fun K hK => ?_)
    simp only [Act.put,xL4,xL5,xL6]
    go_simp
    exact hK.out _ _ ⟨vu0,(.int .i64 (la : Int)),(.int .i64 (below : Int)),(.int .i64 ((la : Int) - (below : Int))),vu4,vu5,vu6,vu7,by simp only [Act.put,xL4,xL5,xL6],hbu,fun h => fu0 (mark_of (by decide) h),fun _ => rfl,fun _ => rfl,fun _ => rfl,fun h => fu4 (mark_of (by decide) h),fun h => fu5 (mark_of (by decide) h),fun h => fu6 (mark_of (by decide) h),fun h => fu7 (mark_of (by decide) h),fun h1 h2 => ku5_7 (mark_of (by decide) h1) (mark_of (by decide) h2)⟩
   ·have eu3 := fu3 (dep_of 3 hru rfl (by kernel_rfl))
    replace eu3 := eu3.symm
    subst eu3
    refine wpOp_shut (by rfl) (fun K hK => ?_)
    simp only [Act.put,xL4,xL5,xL6]
    go_simp
    exact hK.out _ _ ⟨vu0,vu1,vu2,(.int .i64 ((la : Int) - (below : Int))),(.int .i64 (lq : Int)),vu5,vu6,vu7,by simp only [Act.put,xL4,xL5,xL6],hbu,fun h => fu0 (mark_of (by decide) h),fun h => fu1 (mark_of (by decide) h),fun h => fu2 (mark_of (by decide) h),fun _ => rfl,fun _ => rfl,fun h => fu5 (mark_of (by decide) h),fun h => fu6 (mark_of (by decide) h),fun h => fu7 (mark_of (by decide) h),fun h1 h2 => ku5_7 (mark_of (by decide) h1) (mark_of (by decide) h2)⟩
   ·have eu4 := fu4 (dep_of 4 hru rfl (by kernel_rfl))
    replace eu4 := eu4.symm
    subst eu4
    refine wpOp_shut (by simp only [xL1,xL2,xL3]; rfl) (fun K hK => ?_)
    simp only [Act.put,xL4,xL5,xL6]
    refine step_make wn (by rfl) _ _ 22 (by rfl) wn.heap.size 28 i0 (.agg #[.bool false,.slice none 0 0,.slice none 0 0]) 3 Tryz.underlying22 hi hz0 hz1 .i64 .i64 ((lq : Nat) : Int) ((lq : Nat) : Int) (lq) (by rfl) (by rfl) rfl rfl (by rw [hz2]; omega) (by unfold maxLen; omega) (Nat.le_refl _) ?_
    intro wx hown hgrow
    have bu : Below wn.heap.size wn wx := (Below.refl _ _).grown hgrow (Nat.le_refl _) (fun k e => by cases e)
    have MXu := marr_made (fun _ => 0) (by omega) hown
    clear hown hgrow
    have hbu2 := hbu.trans (bu.mono hbu.size)
    exact hK.out _ _ ⟨vu0,vu1,vu2,vu3,(.int .i64 (lq : Int)),_,vu6,vu7,by simp only [Act.put,xL4,xL5,xL6],hbu2,fun h => fu0 (mark_of (by decide) h),fun h => fu1 (mark_of (by decide) h),fun h => fu2 (mark_of (by decide) h),fun h => fu3 (mark_of (by decide) h),fun _ => rfl,fun _ => MXu.le hbu.size,fun h => fu6 (mark_of (by decide) h),fun h => (fu7 (mark_of (by decide) h)).below bu,fun _ h => apart_new (fu7 (mark_of (by decide) h)) (by omega)⟩
   ·refine wpOp_shut (by rfl) (fun K hK => ?_)
    simp only [Act.put,xL4,xL5,xL6]
    go_simp
    exact hK.out _ _ ⟨vu0,vu1,vu2,vu3,vu4,vu5,(.slice ao la c),vu7,by simp only [Act.put,xL4,xL5,xL6],hbu,fun h => fu0 (mark_of (by decide) h),fun h => fu1 (mark_of (by decide) h),fun h => fu2 (mark_of (by decide) h),fun h => fu3 (mark_of (by decide) h),fun h => fu4 (mark_of (by decide) h),fun h => fu5 (mark_of (by decide) h),fun _ => rfl,fun h => fu7 (mark_of (by decide) h),fun h1 h2 => ku5_7 (mark_of (by decide) h1) (mark_of (by decide) h2)⟩
   ·have eu6 := fu6 (dep_of 6 hru rfl (by kernel_rfl))
    replace eu6 := eu6.symm
    subst eu6
    refine wpOp_shut (by rfl) (fun K hK => ?_)
    simp only [Act.put,xL4,xL5,xL6]
    go_simp
    refine (pclone_at _ la qa _ ((ha.below BB).below hbu) (by omega)).mono ?_
    rintro eu wx ⟨x,rfl,MR,bu⟩
    have MRb := MR
    replace MR := MR.le hbu.size
    go_wp2_with fail
    have hbu2 := hbu.trans (bu.mono hbu.size)
    exact hK.out _ _ ⟨vu0,vu1,vu2,vu3,vu4,vu5,(.slice ao la c),_,by simp only [Act.put,xL4,xL5,xL6],hbu2,fun h => fu0 (mark_of (by decide) h),fun h => fu1 (mark_of (by decide) h),fun h => fu2 (mark_of (by decide) h),fun h => fu3 (mark_of (by decide) h),fun h => fu4 (mark_of (by decide) h),fun h => (fu5 (mark_of (by decide) h)).below bu,fun _ => rfl,fun _ => MR,fun h _ => apart_old (fu5 (mark_of (by decide) h)) MRb (by omega) (by omega)⟩
  rintro au Wu21 ⟨vu0,vu1,vu2,vu3,vu4,vu5,vu6,vu7,rfl,hbu,fu0,fu1,fu2,fu3,fu4,fu5,fu6,fu7,ku5_7⟩
  have eu0 := (fu0 rfl).symm
  subst eu0
  have eu1 := (fu1 rfl).symm
  subst eu1
  have eu2 := (fu2 rfl).symm
  subst eu2
  have eu3 := (fu3 rfl).symm
  subst eu3
  have eu4 := (fu4 rfl).symm
  subst eu4
  have MQ := fu5 rfl
  have eu6 := (fu6 rfl).symm
  subst eu6
  have MR := fu7 rfl
  have ku5_7 := ku5_7 rfl rfl
  clear fu0 fu1 fu2 fu3 fu4 fu5 fu6 fu7
  replace BB := BB.trans (hbu.mono BB.size)
  clear hbu
  simp only [Act.put,xL4,xL5,xL6]
  refine xR [8] (h := ?_)
  refine AllReadyH.cons (by rfl) (fun K hK => ?_) AllReadyH.nil
  go_simp
  refine hK.out _ _ trivial (fun _ => ?_)
  clear hK K
  simp only [Act.put,xL4,xL5,xL6]
  refine xR [9] (h := ?_)
  refine AllReadyH.cons (by rfl) (fun K hK => ?_) AllReadyH.nil
  go_simp
  refine hK.out _ _ trivial (fun _ => ?_)
  clear hK K
  simp only [Act.put,xL4,xL5,xL6]
  refine wpAnyH_done (by kernel_rfl) ?_ _
  obtain ⟨aqo,cq,rfl,hcq1,hcq2,hq3⟩ := MQ
  obtain ⟨gq,elq0,rfl,gqB,Aq,_⟩ := hq3 hlq0
  obtain ⟨aro,cr,rfl,hcr1,hcr2,hr3⟩ := MR
  obtain ⟨gr,elr0,rfl,grB,Ar,hRr⟩ := hr3 hla0
  have hne : gq ≠ gr := ku5_7 gq gr rfl rfl
  have hne2 : gr ≠ gq := fun e => hne e.symm
  clear ku5_7 hq3 hr3
  replace ht := ht.below BB
  have HLB : Hid (la = lq + below) := by show _ = _; have := HDIS.out; omega
  obtain ⟨QF,hQF⟩ : ∃ QF,divQ qb below lq qa = QF := ⟨_,rfl⟩
  have HQF : Hid (divQ qb below lq qa = QF) := hQF
  obtain ⟨RF,hRF⟩ : ∃ RF,divR qb below lq qa = RF := ⟨_,rfl⟩
  have HRF : Hid (divR qb below lq qa = RF) := hRF
  have HQ : Reps Wu21 elq0 lq lq QF := fun i h1 h2 => absurd h1 (by omega)
  have HR : Reps Wu21 elr0 0 la qa := fun i _ h2 => hRr i h2 trivial
  have HI0 : Hid (∀ i,i < lq → divQ qb below lq qa i = QF i) := fun i _ => by rw [hQF]
  have HS0 : Hid (allS la qb below S lq qa) := HSH
  have HT0 : Hid (∀ i,lq ≤ i → i < lq → qsz (QF i) ≤ 90000) := fun i h1 h2 => absurd h1 (by omega)
  clear hQF hRF hRr
  go_wp2
  go_loopw [9] (fun vk wr => ∃ (kk : Nat) (Rk : Nat → Rat) (elq elr : Nat → Nat → Value),kk ≤ lq ∧ vk = .int .i64 ((kk : Int) - 1) ∧ Hid (divR qb below kk Rk = RF) ∧ Hid (∀ i,i < kk → divQ qb below kk Rk i = QF i) ∧ Hid (allS la qb below S kk Rk) ∧ Hid (∀ i,kk ≤ i → i < lq → qsz (QF i) ≤ 90000) ∧ Arr3 wr gq lq elq ∧ Reps wr elq kk lq QF ∧ Arr3 wr gr la elr ∧ Reps wr elr 0 la Rk ∧ Tab wr ∧ Below w.heap.size w wr) (fun vk _ => (intOf vk + 1).toNat)
  case atStart => exact ⟨lq,qa,elq0,elr0,Nat.le_refl _,rfl,HRF,HI0,HS0,HT0,Aq,HQ,Ar,HR,ht,BB⟩
  case round =>
   clear Aq HQ Ar HR ht BB HI0 HS0 HT0
   obtain ⟨kk,Rk,elq,elr,hkl,rfl,HD,HI,HS,HT,Aq,HQ,Ar,HR,ht,BB⟩ := hrel
   cases kk with
   | zero =>
    have dz : ¬ ((0 : Nat) : Int) - 1 ≥ 0 := by omega
    have hRk : Rk = RF := HD.out
    subst hRk
    obtain ⟨aq,haq⟩ : ∃ aq,aq = (some ⟨gq,0,none⟩ : Option Addr) := ⟨_,rfl⟩
    obtain ⟨ar,har⟩ : ∃ ar,ar = (some ⟨gr,0,none⟩ : Option Addr) := ⟨_,rfl⟩
    have FQ : FNew w.heap.size wr (.slice (some ⟨gq,0,none⟩) lq cq) lq QF := ⟨⟨elq,Aq.row lq cq (Nat.le_refl _) hcq1 hcq2,fun i hi => HQ i (Nat.zero_le _) hi⟩,fun b off c e hn => by cases e; exact gqB⟩
    have FS : FNew w.heap.size wr (.slice (some ⟨gr,0,none⟩) la cr) la Rk := ⟨⟨elr,Ar.row la cr (Nat.le_refl _) hcr1 hcr2,fun i hi => HR i (Nat.zero_le _) hi⟩,fun b off c e hn => by cases e; exact grB⟩
    have sQ : ∀ i,i < lq → qsz (QF i) ≤ 90000 := fun i hi => HT.out i (Nat.zero_le _) hi
    have sR : ∀ i,i < la → qsz (Rk i) ≤ 90000 := fun i hi => Nat.le_trans (allS_here HS.out i hi) (by omega)
    clear Aq HQ Ar HR HD HI HS HT
    rw [← haq] at FQ ⊢
    rw [← har] at FS ⊢
    clear haq har
    have hmn : min (la : Int) (below : Int) = ((min la below : Nat) : Int) := by omega
    have hml : min la below ≤ la := by omega
    obtain ⟨mn,hmn2⟩ : ∃ mn,mn = min la below := ⟨_,rfl⟩
    rw [← hmn2] at hmn hml
    have HMN : Hid (mn = min la below) := hmn2
    have e1_ : (0 : Int) ≤ (mn : Int) := by omega
    have e2_ : (mn : Int) ≤ (cr : Int) := by omega
    have e3_ : mn ≤ cr := by omega
    clear hmn2
    have FT : FNew w.heap.size wr (.slice ar mn cr) mn Rk := FS.cut mn hml hcr1 hcr2
    go_wp2
    have hDr : Below wr.heap.size wr wr.drew := (Below.refl _ _).drew
    replace FQ := FQ.below hDr
    replace FT := FT.below hDr
    replace ht := ht.below hDr
    replace BB := BB.trans (hDr.mono BB.size)
    clear hDr
    refine wp_region_held_drew (S := (fun w' => True)) (by kernel_rfl) ?_ (fun hHeld => ?_)
    ·trivial
    generalize wr.drew = W22 at *
    refine xT 0 (v := ?_) (hy := Or.inl ⟨by rfl,?_⟩) (h := ?_)
    rotate_left
    ·(intro w hSw; (try dsimp only at hSw); go_simp; (try with_reducible rfl))
    (try simp only [Act.put,xL4,xL5,xL6])
    refine xT 2 (v := ?_) (hy := Or.inl ⟨by rfl,?_⟩) (h := ?_)
    rotate_left
    ·(intro w hSw; (try dsimp only at hSw); go_simp; (try with_reducible rfl))
    (try simp only [Act.put,xL4,xL5,xL6])
    refine xT 3 (v := ?_) (hy := Or.inl ⟨by rfl,?_⟩) (h := ?_)
    rotate_left
    ·(intro w hSw; (try dsimp only at hSw); go_simp; (try with_reducible rfl))
    (try simp only [Act.put,xL4,xL5,xL6])
    refine xT 4 (v := ?_) (hy := Or.inl ⟨by rfl,?_⟩) (h := ?_)
    rotate_left
    ·(intro w hSw; (try dsimp only at hSw); go_simp; (try with_reducible rfl))
    (try simp only [Act.put,xL4,xL5,xL6])
    refine xT 5 (v := ?_) (hy := Or.inl ⟨by rfl,?_⟩) (h := ?_)
    rotate_left
    ·(intro w hSw; (try dsimp only at hSw); go_simp; (try with_reducible rfl))
    (try simp only [Act.put,xL4,xL5,xL6])
    refine xT 6 (v := ?_) (hy := Or.inl ⟨by rfl,?_⟩) (h := ?_)
    rotate_left
    ·(intro w hSw; (try dsimp only at hSw); go_simp; (try with_reducible rfl))
    (try simp only [Act.put,xL4,xL5,xL6])
    refine xT 7 (v := ?_) (hy := Or.inl ⟨by rfl,?_⟩) (h := ?_)
    rotate_left
    ·(intro w hSw; (try dsimp only at hSw); go_simp; (try with_reducible rfl))
    (try simp only [Act.put,xL4,xL5,xL6])
    refine xR [1] (h := ?_)
    refine xN (h := fun K hK => ?_)
    go_simp
    refine (ptrim_at _ lq QF 90000 _ (FQ.1.q _ sQ) (by omega) (by omega)).mono ?_
    rintro e w21 ⟨aq2,cq2,hvv,rfl,b21⟩
    cases hvv
    go_wp2_with fail
    replace FQ := FQ.below b21
    replace FT := FT.below b21
    replace ht := ht.below b21
    replace BB := BB.trans (b21.mono BB.size)
    clear b21
    refine hK.out _ _ ?_ (fun hH1 => ?_)
    ·trivial
    clear hK K hHeld
    (try simp only [Act.put,xL4,xL5,xL6])
    refine xR [8] (h := ?_)
    refine xN (h := fun K hK => ?_)
    go_simp
    refine (ptrim_at _ mn Rk 90000 _ (FT.1.q _ (fun i hi => sR i (by omega))) (by omega) (by omega)).mono ?_
    rintro e w22 ⟨ar2,cr2,hvv,rfl,b22⟩
    cases hvv
    go_wp2_with fail
    replace FQ := FQ.below b22
    replace FT := FT.below b22
    replace ht := ht.below b22
    replace BB := BB.trans (b22.mono BB.size)
    clear b22
    refine hK.out _ _ ?_ (fun hH2 => ?_)
    ·trivial
    clear hK K hH1
    (try simp only [Act.put,xL4,xL5,xL6])
    refine xT 9 (v := ?_) (hy := Or.inl ⟨by rfl,?_⟩) (h := ?_)
    rotate_left
    ·(intro w hSw; (try dsimp only at hSw); go_simp; (try with_reducible rfl))
    (try simp only [Act.put,xL4,xL5,xL6])
    refine xT 10 (v := ?_) (hy := Or.inl ⟨by rfl,?_⟩) (h := ?_)
    rotate_left
    ·(intro w hSw; (try dsimp only at hSw); go_simp; (try with_reducible rfl))
    (try simp only [Act.put,xL4,xL5,xL6])
    refine wpAnyH_done (by kernel_rfl) ?_ _
    clear hH2
    have F1 := FQ.trim
    have F2 := FT.trim
    clear FQ FT
    go_wp2
    go_ret2
    exact ⟨_,_,rfl,by rw [HQF.out]; exact F1,by rw [HRF.out,← HMN.out]; exact F2,BB⟩
   | succ n =>
    obtain ⟨k,hk⟩ : ∃ k,k = n := ⟨_,rfl⟩
    subst hk
    have hk : k < lq := by omega
    obtain ⟨kb,hkb⟩ : ∃ kb,kb = k + below := ⟨_,rfl⟩
    have HKB : Hid (kb = k + below) := hkb
    have hkla : kb < la := by have := HLB.out; omega
    have q0 : ((k + 1 : Nat) : Int) - 1 = (k : Int) := by omega
    rw [q0]
    have q1 : (k : Int) ≥ 0 := by omega
    have q2 : (k : Int) + (below : Int) = (kb : Int) := by omega
    have q3 : IntKind.i64.wrap (kb : Int) = (kb : Int) := by rw [IntKind.wrap_i64]; omega
    have q4 : (0 : Int) ≤ (kb : Int) := by omega
    have q5 : (kb : Int) < (la : Int) := by omega
    have q6 : (0 : Int) ≤ (below : Int) := by omega
    have q7 : (below : Int) < (lb : Int) := by omega
    have q8 : (k : Int) < (lq : Int) := by omega
    clear hkb
    have HSA : Hid (allS la qb below S (k + 1) Rk) := HS
    clear HS
    have HS : Hid (∀ i,i < la → qsz (Rk i) ≤ S) := fun i hi => allS_here HSA.out i hi
    have HCQ : Hid (Rk kb / qb below = QF k) := by show _ = _; rw [HKB.out,← HI.out k (by omega)]; show _ = (if k = k then _ else _); rw [if_pos rfl]
    have sC : qsz (QF k) ≤ S + L := by rw [← HCQ.out]; exact qsz_div _ _ (HS.out kb hkla) (sb below (by omega))
    obtain ⟨pr,aor,mr,dr,bor,kr,er,XR,Hr⟩ := Ar.e3 kb hkla (HR kb (Nat.zero_le _) hkla)
    obtain ⟨b,off,cc,p1,ao1,m1,d1,bo1,k1,e1,hvv,hcc,XC,Hi⟩ := (hqb).at below (by omega)
    cases hvv
    have XB := XC.below BB
    have Hb := Hi.below BB
    clear XC Hi
    go_wp2
    (try simp only [q1,decide_true])
    refine wp_region_float 16 15 #[true,true,true,true,true,true,true,true,true,true,true,true,true,true,true,true,false,false] #[true,true,true,true,true,true,true,true,true,true,true,true,true,true,true,false,false,false] (fun aF lsd a' w' => ∃ vu0 vu1 vu2 vu3 vu4 vu5 vu6 vu7 vu8 vu9 vu10 vu11 vu12 vu13 vu14 vu15 : Value,a' = (((((((((((((((aF.put (some 30) vu0).put (some 31) vu1).put (some 32) vu2).put (some 33) vu3).put (some 34) vu4).put (some 35) vu5).put (some 36) vu6).put (some 37) vu7).put (some 38) vu8).put (some 39) vu9).put (some 40) vu10).put (some 41) vu11).put (some 42) vu12).put (some 29) vu13).put (some 43) vu14).put (some 44) vu15 ∧ Below wr.heap.size wr w' ∧ (lsd.getD 0 false = true → vu0 = .slice (some ⟨gq,0,none⟩) lq cq) ∧ (lsd.getD 1 false = true → vu1 = .int .i64 (k : Int)) ∧ (lsd.getD 2 false = true → vu2 = .slice (some ⟨gr,0,none⟩) la cr) ∧ (lsd.getD 3 false = true → vu3 = .int .i64 (k : Int)) ∧ (lsd.getD 4 false = true → vu4 = .int .i64 (below : Int)) ∧ (lsd.getD 5 false = true → vu5 = .int .i64 (kb : Int)) ∧ (lsd.getD 6 false = true → vu6 = .pointer (some ⟨gr,kb * 3,none⟩)) ∧ (lsd.getD 7 false = true → vu7 = .agg #[.bool pr,.slice aor mr dr,.slice bor kr er]) ∧ (lsd.getD 8 false = true → vu8 = .slice (some ⟨b,off,none⟩) lb c2) ∧ (lsd.getD 9 false = true → vu9 = .int .i64 (below : Int)) ∧ (lsd.getD 10 false = true → vu10 = .pointer (some ⟨b,off + below * 3,none⟩)) ∧ (lsd.getD 11 false = true → vu11 = .agg #[.bool p1,.slice ao1 m1 d1,.slice bo1 k1 e1]) ∧ (lsd.getD 12 false = true → TupQ w' vu12 (QF k)) ∧ (lsd.getD 13 false = true → TupQ w' vu13 (QF k)) ∧ (lsd.getD 14 false = true → RepQ w' vu14 (QF k)) ∧ (lsd.getD 15 false = true → vu15 = .int .i64 0)) (by kernel_rfl) (by decide) (by kernel_rfl) (by rfl) (by kernel_rfl) (by rfl) (by kernel_rfl) (by decide) ?_ ?_ ?_ ?_
    ·exact ⟨_,_,_,_,_,_,_,_,_,_,_,_,_,_,_,_,by simp only [Act.put,xL4,xL5,xL6]; rfl,(Below.refl _ _).drew,fun h => absurd h (fun h => mark_none h),fun h => absurd h (fun h => mark_none h),fun h => absurd h (fun h => mark_none h),fun h => absurd h (fun h => mark_none h),fun h => absurd h (fun h => mark_none h),fun h => absurd h (fun h => mark_none h),fun h => absurd h (fun h => mark_none h),fun h => absurd h (fun h => mark_none h),fun h => absurd h (fun h => mark_none h),fun h => absurd h (fun h => mark_none h),fun h => absurd h (fun h => mark_none h),fun h => absurd h (fun h => mark_none h),fun h => absurd h (fun h => mark_none h),fun h => absurd h (fun h => mark_none h),fun h => absurd h (fun h => mark_none h),fun h => absurd h (fun h => mark_none h)⟩
    ·rintro lsd au wn iu hszu ⟨vu0,vu1,vu2,vu3,vu4,vu5,vu6,vu7,vu8,vu9,vu10,vu11,vu12,vu13,vu14,vu15,rfl,hbu,fu0,fu1,fu2,fu3,fu4,fu5,fu6,fu7,fu8,fu9,fu10,fu11,fu12,fu13,fu14,fu15⟩ himu hru
     rcases (show iu = 0 ∨ iu = 1 ∨ iu = 2 ∨ iu = 3 ∨ iu = 4 ∨ iu = 5 ∨ iu = 6 ∨ iu = 7 ∨ iu = 8 ∨ iu = 9 ∨ iu = 10 ∨ iu = 11 ∨ iu = 12 ∨ iu = 13 ∨ iu = 14 ∨ iu = 15 by omega) with rfl | rfl | rfl | rfl | rfl | rfl | rfl | rfl | rfl | rfl | rfl | rfl | rfl | rfl | rfl | rfl
     ·refine wpOp_shut (by rfl) (fun K hK => ?_)
      simp only [Act.put,xL4,xL5,xL6]
      go_simp
      exact hK.out _ _ ⟨(.slice (some ⟨gq,0,none⟩) lq cq),vu1,vu2,vu3,vu4,vu5,vu6,vu7,vu8,vu9,vu10,vu11,vu12,vu13,vu14,vu15,by simp only [Act.put,xL4,xL5,xL6],hbu,fun _ => rfl,fun h => fu1 (mark_of (by decide) h),fun h => fu2 (mark_of (by decide) h),fun h => fu3 (mark_of (by decide) h),fun h => fu4 (mark_of (by decide) h),fun h => fu5 (mark_of (by decide) h),fun h => fu6 (mark_of (by decide) h),fun h => fu7 (mark_of (by decide) h),fun h => fu8 (mark_of (by decide) h),fun h => fu9 (mark_of (by decide) h),fun h => fu10 (mark_of (by decide) h),fun h => fu11 (mark_of (by decide) h),fun h => fu12 (mark_of (by decide) h),fun h => fu13 (mark_of (by decide) h),fun h => fu14 (mark_of (by decide) h),fun h => fu15 (mark_of (by decide) h)⟩
     ·refine wpOp_shut (by rfl) (fun K hK => ?_)
      simp only [Act.put,xL4,xL5,xL6]
      go_simp
      exact hK.out _ _ ⟨vu0,(.int .i64 (k : Int)),vu2,vu3,vu4,vu5,vu6,vu7,vu8,vu9,vu10,vu11,vu12,vu13,vu14,vu15,by simp only [Act.put,xL4,xL5,xL6],hbu,fun h => fu0 (mark_of (by decide) h),fun _ => rfl,fun h => fu2 (mark_of (by decide) h),fun h => fu3 (mark_of (by decide) h),fun h => fu4 (mark_of (by decide) h),fun h => fu5 (mark_of (by decide) h),fun h => fu6 (mark_of (by decide) h),fun h => fu7 (mark_of (by decide) h),fun h => fu8 (mark_of (by decide) h),fun h => fu9 (mark_of (by decide) h),fun h => fu10 (mark_of (by decide) h),fun h => fu11 (mark_of (by decide) h),fun h => fu12 (mark_of (by decide) h),fun h => fu13 (mark_of (by decide) h),fun h => fu14 (mark_of (by decide) h),fun h => fu15 (mark_of (by decide) h)⟩
     ·refine wpOp_shut (by rfl) (fun K hK => ?_)
      simp only [Act.put,xL4,xL5,xL6]
      go_simp
      exact hK.out _ _ ⟨vu0,vu1,(.slice (some ⟨gr,0,none⟩) la cr),vu3,vu4,vu5,vu6,vu7,vu8,vu9,vu10,vu11,vu12,vu13,vu14,vu15,by simp only [Act.put,xL4,xL5,xL6],hbu,fun h => fu0 (mark_of (by decide) h),fun h => fu1 (mark_of (by decide) h),fun _ => rfl,fun h => fu3 (mark_of (by decide) h),fun h => fu4 (mark_of (by decide) h),fun h => fu5 (mark_of (by decide) h),fun h => fu6 (mark_of (by decide) h),fun h => fu7 (mark_of (by decide) h),fun h => fu8 (mark_of (by decide) h),fun h => fu9 (mark_of (by decide) h),fun h => fu10 (mark_of (by decide) h),fun h => fu11 (mark_of (by decide) h),fun h => fu12 (mark_of (by decide) h),fun h => fu13 (mark_of (by decide) h),fun h => fu14 (mark_of (by decide) h),fun h => fu15 (mark_of (by decide) h)⟩
     ·refine wpOp_shut (by rfl) (fun K hK => ?_)
      simp only [Act.put,xL4,xL5,xL6]
      go_simp
      exact hK.out _ _ ⟨vu0,vu1,vu2,(.int .i64 (k : Int)),vu4,vu5,vu6,vu7,vu8,vu9,vu10,vu11,vu12,vu13,vu14,vu15,by simp only [Act.put,xL4,xL5,xL6],hbu,fun h => fu0 (mark_of (by decide) h),fun h => fu1 (mark_of (by decide) h),fun h => fu2 (mark_of (by decide) h),fun _ => rfl,fun h => fu4 (mark_of (by decide) h),fun h => fu5 (mark_of (by decide) h),fun h => fu6 (mark_of (by decide) h),fun h => fu7 (mark_of (by decide) h),fun h => fu8 (mark_of (by decide) h),fun h => fu9 (mark_of (by decide) h),fun h => fu10 (mark_of (by decide) h),fun h => fu11 (mark_of (by decide) h),fun h => fu12 (mark_of (by decide) h),fun h => fu13 (mark_of (by decide) h),fun h => fu14 (mark_of (by decide) h),fun h => fu15 (mark_of (by decide) h)⟩
     ·refine wpOp_shut (by rfl) (fun K hK => ?_)
      simp only [Act.put,xL4,xL5,xL6]
      go_simp
      exact hK.out _ _ ⟨vu0,vu1,vu2,vu3,(.int .i64 (below : Int)),vu5,vu6,vu7,vu8,vu9,vu10,vu11,vu12,vu13,vu14,vu15,by simp only [Act.put,xL4,xL5,xL6],hbu,fun h => fu0 (mark_of (by decide) h),fun h => fu1 (mark_of (by decide) h),fun h => fu2 (mark_of (by decide) h),fun h => fu3 (mark_of (by decide) h),fun _ => rfl,fun h => fu5 (mark_of (by decide) h),fun h => fu6 (mark_of (by decide) h),fun h => fu7 (mark_of (by decide) h),fun h => fu8 (mark_of (by decide) h),fun h => fu9 (mark_of (by decide) h),fun h => fu10 (mark_of (by decide) h),fun h => fu11 (mark_of (by decide) h),fun h => fu12 (mark_of (by decide) h),fun h => fu13 (mark_of (by decide) h),fun h => fu14 (mark_of (by decide) h),fun h => fu15 (mark_of (by decide) h)⟩
     ·have eu3 := fu3 (dep_of 3 hru rfl (by kernel_rfl))
      have eu4 := fu4 (dep_of 4 hru rfl (by kernel_rfl))
      replace eu3 := eu3.symm
      subst eu3
      replace eu4 := eu4.symm
      subst eu4
      refine wpOp_shut (by rfl) (fun K hK => ?_)
      simp only [Act.put,xL4,xL5,xL6]
      go_simp
      exact hK.out _ _ ⟨vu0,vu1,vu2,(.int .i64 (k : Int)),(.int .i64 (below : Int)),(.int .i64 (kb : Int)),vu6,vu7,vu8,vu9,vu10,vu11,vu12,vu13,vu14,vu15,by simp only [Act.put,xL4,xL5,xL6],hbu,fun h => fu0 (mark_of (by decide) h),fun h => fu1 (mark_of (by decide) h),fun h => fu2 (mark_of (by decide) h),fun _ => rfl,fun _ => rfl,fun _ => rfl,fun h => fu6 (mark_of (by decide) h),fun h => fu7 (mark_of (by decide) h),fun h => fu8 (mark_of (by decide) h),fun h => fu9 (mark_of (by decide) h),fun h => fu10 (mark_of (by decide) h),fun h => fu11 (mark_of (by decide) h),fun h => fu12 (mark_of (by decide) h),fun h => fu13 (mark_of (by decide) h),fun h => fu14 (mark_of (by decide) h),fun h => fu15 (mark_of (by decide) h)⟩
     ·have eu2 := fu2 (dep_of 2 hru rfl (by kernel_rfl))
      have eu5 := fu5 (dep_of 5 hru rfl (by kernel_rfl))
      replace eu2 := eu2.symm
      subst eu2
      replace eu5 := eu5.symm
      subst eu5
      refine wpOp_shut (by rfl) (fun K hK => ?_)
      simp only [Act.put,xL4,xL5,xL6]
      go_simp
      exact hK.out _ _ ⟨vu0,vu1,(.slice (some ⟨gr,0,none⟩) la cr),vu3,vu4,(.int .i64 (kb : Int)),(.pointer (some ⟨gr,kb * 3,none⟩)),vu7,vu8,vu9,vu10,vu11,vu12,vu13,vu14,vu15,by simp only [Act.put,xL4,xL5,xL6],hbu,fun h => fu0 (mark_of (by decide) h),fun h => fu1 (mark_of (by decide) h),fun _ => rfl,fun h => fu3 (mark_of (by decide) h),fun h => fu4 (mark_of (by decide) h),fun _ => rfl,fun _ => rfl,fun h => fu7 (mark_of (by decide) h),fun h => fu8 (mark_of (by decide) h),fun h => fu9 (mark_of (by decide) h),fun h => fu10 (mark_of (by decide) h),fun h => fu11 (mark_of (by decide) h),fun h => fu12 (mark_of (by decide) h),fun h => fu13 (mark_of (by decide) h),fun h => fu14 (mark_of (by decide) h),fun h => fu15 (mark_of (by decide) h)⟩
     ·have eu6 := fu6 (dep_of 6 hru rfl (by kernel_rfl))
      replace eu6 := eu6.symm
      subst eu6
      refine wpOp_shut (by rfl) (fun K hK => ?_)
      simp only [Act.put,xL4,xL5,xL6]
      obtain ⟨XR_0,XR_1,XR_2⟩ := XR.below hbu
      go_simp
      exact hK.out _ _ ⟨vu0,vu1,vu2,vu3,vu4,vu5,(.pointer (some ⟨gr,kb * 3,none⟩)),(.agg #[.bool pr,.slice aor mr dr,.slice bor kr er]),vu8,vu9,vu10,vu11,vu12,vu13,vu14,vu15,by simp only [Act.put,xL4,xL5,xL6],hbu,fun h => fu0 (mark_of (by decide) h),fun h => fu1 (mark_of (by decide) h),fun h => fu2 (mark_of (by decide) h),fun h => fu3 (mark_of (by decide) h),fun h => fu4 (mark_of (by decide) h),fun h => fu5 (mark_of (by decide) h),fun _ => rfl,fun _ => rfl,fun h => fu8 (mark_of (by decide) h),fun h => fu9 (mark_of (by decide) h),fun h => fu10 (mark_of (by decide) h),fun h => fu11 (mark_of (by decide) h),fun h => fu12 (mark_of (by decide) h),fun h => fu13 (mark_of (by decide) h),fun h => fu14 (mark_of (by decide) h),fun h => fu15 (mark_of (by decide) h)⟩
     ·refine wpOp_shut (by rfl) (fun K hK => ?_)
      simp only [Act.put,xL4,xL5,xL6]
      go_simp
      exact hK.out _ _ ⟨vu0,vu1,vu2,vu3,vu4,vu5,vu6,vu7,(.slice (some ⟨b,off,none⟩) lb c2),vu9,vu10,vu11,vu12,vu13,vu14,vu15,by simp only [Act.put,xL4,xL5,xL6],hbu,fun h => fu0 (mark_of (by decide) h),fun h => fu1 (mark_of (by decide) h),fun h => fu2 (mark_of (by decide) h),fun h => fu3 (mark_of (by decide) h),fun h => fu4 (mark_of (by decide) h),fun h => fu5 (mark_of (by decide) h),fun h => fu6 (mark_of (by decide) h),fun h => fu7 (mark_of (by decide) h),fun _ => rfl,fun h => fu9 (mark_of (by decide) h),fun h => fu10 (mark_of (by decide) h),fun h => fu11 (mark_of (by decide) h),fun h => fu12 (mark_of (by decide) h),fun h => fu13 (mark_of (by decide) h),fun h => fu14 (mark_of (by decide) h),fun h => fu15 (mark_of (by decide) h)⟩
     ·refine wpOp_shut (by rfl) (fun K hK => ?_)
      simp only [Act.put,xL4,xL5,xL6]
      go_simp
      exact hK.out _ _ ⟨vu0,vu1,vu2,vu3,vu4,vu5,vu6,vu7,vu8,(.int .i64 (below : Int)),vu10,vu11,vu12,vu13,vu14,vu15,by simp only [Act.put,xL4,xL5,xL6],hbu,fun h => fu0 (mark_of (by decide) h),fun h => fu1 (mark_of (by decide) h),fun h => fu2 (mark_of (by decide) h),fun h => fu3 (mark_of (by decide) h),fun h => fu4 (mark_of (by decide) h),fun h => fu5 (mark_of (by decide) h),fun h => fu6 (mark_of (by decide) h),fun h => fu7 (mark_of (by decide) h),fun h => fu8 (mark_of (by decide) h),fun _ => rfl,fun h => fu10 (mark_of (by decide) h),fun h => fu11 (mark_of (by decide) h),fun h => fu12 (mark_of (by decide) h),fun h => fu13 (mark_of (by decide) h),fun h => fu14 (mark_of (by decide) h),fun h => fu15 (mark_of (by decide) h)⟩
     ·have eu8 := fu8 (dep_of 8 hru rfl (by kernel_rfl))
      have eu9 := fu9 (dep_of 9 hru rfl (by kernel_rfl))
      replace eu8 := eu8.symm
      subst eu8
      replace eu9 := eu9.symm
      subst eu9
      refine wpOp_shut (by rfl) (fun K hK => ?_)
      simp only [Act.put,xL4,xL5,xL6]
      go_simp
      exact hK.out _ _ ⟨vu0,vu1,vu2,vu3,vu4,vu5,vu6,vu7,(.slice (some ⟨b,off,none⟩) lb c2),(.int .i64 (below : Int)),(.pointer (some ⟨b,off + below * 3,none⟩)),vu11,vu12,vu13,vu14,vu15,by simp only [Act.put,xL4,xL5,xL6],hbu,fun h => fu0 (mark_of (by decide) h),fun h => fu1 (mark_of (by decide) h),fun h => fu2 (mark_of (by decide) h),fun h => fu3 (mark_of (by decide) h),fun h => fu4 (mark_of (by decide) h),fun h => fu5 (mark_of (by decide) h),fun h => fu6 (mark_of (by decide) h),fun h => fu7 (mark_of (by decide) h),fun _ => rfl,fun _ => rfl,fun _ => rfl,fun h => fu11 (mark_of (by decide) h),fun h => fu12 (mark_of (by decide) h),fun h => fu13 (mark_of (by decide) h),fun h => fu14 (mark_of (by decide) h),fun h => fu15 (mark_of (by decide) h)⟩
     ·have eu10 := fu10 (dep_of 10 hru rfl (by kernel_rfl))
      replace eu10 := eu10.symm
      subst eu10
      refine wpOp_shut (by rfl) (fun K hK => ?_)
      simp only [Act.put,xL4,xL5,xL6]
      obtain ⟨XB_0,XB_1,XB_2⟩ := XB.below hbu
      go_simp
      exact hK.out _ _ ⟨vu0,vu1,vu2,vu3,vu4,vu5,vu6,vu7,vu8,vu9,(.pointer (some ⟨b,off + below * 3,none⟩)),(.agg #[.bool p1,.slice ao1 m1 d1,.slice bo1 k1 e1]),vu12,vu13,vu14,vu15,by simp only [Act.put,xL4,xL5,xL6],hbu,fun h => fu0 (mark_of (by decide) h),fun h => fu1 (mark_of (by decide) h),fun h => fu2 (mark_of (by decide) h),fun h => fu3 (mark_of (by decide) h),fun h => fu4 (mark_of (by decide) h),fun h => fu5 (mark_of (by decide) h),fun h => fu6 (mark_of (by decide) h),fun h => fu7 (mark_of (by decide) h),fun h => fu8 (mark_of (by decide) h),fun h => fu9 (mark_of (by decide) h),fun _ => rfl,fun _ => rfl,fun h => fu12 (mark_of (by decide) h),fun h => fu13 (mark_of (by decide) h),fun h => fu14 (mark_of (by decide) h),fun h => fu15 (mark_of (by decide) h)⟩
     ·have eu7 := fu7 (dep_of 7 hru rfl (by kernel_rfl))
      have eu11 := fu11 (dep_of 11 hru rfl (by kernel_rfl))
      replace eu7 := eu7.symm
      subst eu7
      replace eu11 := eu11.symm
      subst eu11
      refine wpOp_shut (by rfl) (fun K hK => ?_)
      simp only [Act.put,xL4,xL5,xL6]
      have ht := ht.below hbu
      have Hr := Hr.below hbu
      have Hb := Hb.below hbu
      go_simp
      refine (qdiv_at _ _ (Rk kb) (qb below) S _ (Hr.at _ (HS.out kb hkla)) (Hb.le (by omega)) (by omega) (by omega) ht hq).mono ?_
      rintro eu wx ⟨x12,rfl,hx12,bu⟩
      rw [HCQ.out] at hx12
      have T12 : TupQ wx _ _ := ⟨x12,rfl,hx12⟩
      go_wp2_with fail
      have hbu2 := hbu.trans (bu.mono hbu.size)
      exact hK.out _ _ ⟨vu0,vu1,vu2,vu3,vu4,vu5,vu6,(.agg #[.bool pr,.slice aor mr dr,.slice bor kr er]),vu8,vu9,vu10,(.agg #[.bool p1,.slice ao1 m1 d1,.slice bo1 k1 e1]),_,vu13,vu14,vu15,by simp only [Act.put,xL4,xL5,xL6],hbu2,fun h => fu0 (mark_of (by decide) h),fun h => fu1 (mark_of (by decide) h),fun h => fu2 (mark_of (by decide) h),fun h => fu3 (mark_of (by decide) h),fun h => fu4 (mark_of (by decide) h),fun h => fu5 (mark_of (by decide) h),fun h => fu6 (mark_of (by decide) h),fun _ => rfl,fun h => fu8 (mark_of (by decide) h),fun h => fu9 (mark_of (by decide) h),fun h => fu10 (mark_of (by decide) h),fun _ => rfl,fun _ => T12,fun h => (fu13 (mark_of (by decide) h)).below bu,fun h => (fu14 (mark_of (by decide) h)).below bu,fun h => fu15 (mark_of (by decide) h)⟩
     ·have T12 := fu12 (dep_of 12 hru rfl (by kernel_rfl))
      obtain ⟨xT,rfl,hxT⟩ := T12
      refine wpOp_shut (by rfl) (fun K hK => ?_)
      simp only [Act.put,xL4,xL5,xL6]
      go_simp
      exact hK.out _ _ ⟨vu0,vu1,vu2,vu3,vu4,vu5,vu6,vu7,vu8,vu9,vu10,vu11,(.tuple #[xT,.int .i64 0]),(.tuple #[xT,.int .i64 0]),vu14,vu15,by simp only [Act.put,xL4,xL5,xL6],hbu,fun h => fu0 (mark_of (by decide) h),fun h => fu1 (mark_of (by decide) h),fun h => fu2 (mark_of (by decide) h),fun h => fu3 (mark_of (by decide) h),fun h => fu4 (mark_of (by decide) h),fun h => fu5 (mark_of (by decide) h),fun h => fu6 (mark_of (by decide) h),fun h => fu7 (mark_of (by decide) h),fun h => fu8 (mark_of (by decide) h),fun h => fu9 (mark_of (by decide) h),fun h => fu10 (mark_of (by decide) h),fun h => fu11 (mark_of (by decide) h),fun h => fu12 (mark_of (by decide) h),fun _ => ⟨xT,rfl,hxT⟩,fun h => fu14 (mark_of (by decide) h),fun h => fu15 (mark_of (by decide) h)⟩
     ·have T13 := fu13 (dep_of 13 hru rfl (by kernel_rfl))
      obtain ⟨xT,rfl,hxT⟩ := T13
      refine wpOp_shut (by rfl) (fun K hK => ?_)
      simp only [Act.put,xL4,xL5,xL6]
      go_simp
      exact hK.out _ _ ⟨vu0,vu1,vu2,vu3,vu4,vu5,vu6,vu7,vu8,vu9,vu10,vu11,vu12,(.tuple #[xT,.int .i64 0]),xT,vu15,by simp only [Act.put,xL4,xL5,xL6],hbu,fun h => fu0 (mark_of (by decide) h),fun h => fu1 (mark_of (by decide) h),fun h => fu2 (mark_of (by decide) h),fun h => fu3 (mark_of (by decide) h),fun h => fu4 (mark_of (by decide) h),fun h => fu5 (mark_of (by decide) h),fun h => fu6 (mark_of (by decide) h),fun h => fu7 (mark_of (by decide) h),fun h => fu8 (mark_of (by decide) h),fun h => fu9 (mark_of (by decide) h),fun h => fu10 (mark_of (by decide) h),fun h => fu11 (mark_of (by decide) h),fun h => fu12 (mark_of (by decide) h),fun h => fu13 (mark_of (by decide) h),fun _ => hxT,fun h => fu15 (mark_of (by decide) h)⟩
     ·have T13 := fu13 (dep_of 13 hru rfl (by kernel_rfl))
      obtain ⟨xT,rfl,hxT⟩ := T13
      refine wpOp_shut (by rfl) (fun K hK => ?_)
      simp only [Act.put,xL4,xL5,xL6]
      go_simp
      exact hK.out _ _ ⟨vu0,vu1,vu2,vu3,vu4,vu5,vu6,vu7,vu8,vu9,vu10,vu11,vu12,(.tuple #[xT,.int .i64 0]),vu14,(.int .i64 0),by simp only [Act.put,xL4,xL5,xL6],hbu,fun h => fu0 (mark_of (by decide) h),fun h => fu1 (mark_of (by decide) h),fun h => fu2 (mark_of (by decide) h),fun h => fu3 (mark_of (by decide) h),fun h => fu4 (mark_of (by decide) h),fun h => fu5 (mark_of (by decide) h),fun h => fu6 (mark_of (by decide) h),fun h => fu7 (mark_of (by decide) h),fun h => fu8 (mark_of (by decide) h),fun h => fu9 (mark_of (by decide) h),fun h => fu10 (mark_of (by decide) h),fun h => fu11 (mark_of (by decide) h),fun h => fu12 (mark_of (by decide) h),fun h => fu13 (mark_of (by decide) h),fun h => fu14 (mark_of (by decide) h),fun _ => rfl⟩
    ·rintro au wn ⟨vu0,vu1,vu2,vu3,vu4,vu5,vu6,vu7,vu8,vu9,vu10,vu11,vu12,vu13,vu14,vu15,rfl,hbu,fu0,fu1,fu2,fu3,fu4,fu5,fu6,fu7,fu8,fu9,fu10,fu11,fu12,fu13,fu14,fu15⟩ hfin
     have T13 := fu13 rfl
     obtain ⟨xT,rfl,hxT⟩ := T13
     simp only [Act.put,xL4,xL5,xL6]
     refine wpAnyH_take (i := 15) (v := .int .i64 0) (by simp only [xL1,xL2,xL3]; rfl) (by kernel_rfl) (by kernel_rfl) (by kernel_rfl) (by exact fun _ _ _ h => h) (Or.inl ⟨by rfl,?_⟩) trivial ?_
     ·(intro w hSw; go_simp; (try with_reducible rfl))
     simp only [Act.put,xL4,xL5,xL6]
     exact hfin _ _ ⟨vu0,vu1,vu2,vu3,vu4,vu5,vu6,vu7,vu8,vu9,vu10,vu11,vu12,(.tuple #[xT,.int .i64 0]),vu14,(.int .i64 0),by simp only [Act.put,xL4,xL5,xL6],hbu,fun _ => fu0 rfl,fun _ => fu1 rfl,fun _ => fu2 rfl,fun _ => fu3 rfl,fun _ => fu4 rfl,fun _ => fu5 rfl,fun _ => fu6 rfl,fun _ => fu7 rfl,fun _ => fu8 rfl,fun _ => fu9 rfl,fun _ => fu10 rfl,fun _ => fu11 rfl,fun _ => fu12 rfl,fun _ => fu13 rfl,fun _ => fu14 rfl,fun _ => rfl⟩
    rintro au Wu62 ⟨vu0,vu1,vu2,vu3,vu4,vu5,vu6,vu7,vu8,vu9,vu10,vu11,vu12,vu13,vu14,vu15,rfl,hbu,fu0,fu1,fu2,fu3,fu4,fu5,fu6,fu7,fu8,fu9,fu10,fu11,fu12,fu13,fu14,fu15⟩
    have eu0 := (fu0 rfl).symm
    subst eu0
    have eu1 := (fu1 rfl).symm
    subst eu1
    have eu2 := (fu2 rfl).symm
    subst eu2
    have eu3 := (fu3 rfl).symm
    subst eu3
    have eu4 := (fu4 rfl).symm
    subst eu4
    have eu5 := (fu5 rfl).symm
    subst eu5
    have eu6 := (fu6 rfl).symm
    subst eu6
    have eu7 := (fu7 rfl).symm
    subst eu7
    have eu8 := (fu8 rfl).symm
    subst eu8
    have eu9 := (fu9 rfl).symm
    subst eu9
    have eu10 := (fu10 rfl).symm
    subst eu10
    have eu11 := (fu11 rfl).symm
    subst eu11
    have T12 := fu12 rfl
    have T13 := fu13 rfl
    have hr := fu14 rfl
    have eu15 := (fu15 rfl).symm
    subst eu15
    clear fu0 fu1 fu2 fu3 fu4 fu5 fu6 fu7 fu8 fu9 fu10 fu11 fu12 fu13 fu14 fu15
    have hlXR : gr < wr.heap.size := XR.lt
    have hlXB : b < wr.heap.size := XB.lt
    replace Aq := Aq.below hbu
    replace HQ := HQ.below hbu
    replace Ar := Ar.below hbu
    replace HR := HR.below hbu
    replace ht := ht.below hbu
    replace Hr := Hr.below hbu
    replace Hb := Hb.below hbu
    replace XR := XR.below hbu
    replace XB := XB.below hbu
    replace BB := BB.trans (hbu.mono BB.size)
    clear hbu
    simp only [Act.put,xL4,xL5,xL6]
    refine xR [16] (h := ?_)
    refine AllReadyH.cons (by rfl) (fun K hK => ?_) AllReadyH.nil
    go_simp
    refine hK.out _ _ trivial (fun _ => ?_)
    clear hK K
    simp only [Act.put,xL4,xL5,xL6]
    refine xR [17] (h := ?_)
    refine AllReadyH.cons (by rfl) (fun K hK => ?_) AllReadyH.nil
    obtain ⟨p3,a3,n3,c3,bo3,m3,d3,rfl⟩ := hr.open
    obtain ⟨A2,K2⟩ := Aq.set k hk (.bool p3) (.slice a3 n3 c3) (.slice bo3 m3 d3) (num_bool _) (num_slice _ _ _) (num_slice _ _ _)
    have x0 := Aq.1 k hk 0 (by omega)
    have x1 := Aq.1 k hk 1 (by omega)
    have x2 := Aq.1 k hk 2 (by omega)
    have y0 := Aq.2.1 k hk 0 (by omega)
    have y1 := Aq.2.1 k hk 1 (by omega)
    have y2 := Aq.2.1 k hk 2 (by omega)
    simp only [Nat.add_zero] at x0 y0
    have Ar_n := Ar.other (g' := gq) (k := k * 3) hne2 (.bool p3) (.slice a3 n3 c3) (.slice bo3 m3 d3)
    have HQ_n := HQ.keep K2
    have HR_n := HR.keep K2
    have ht_n := ht.keep K2
    have hr_n := hr.keep K2
    have BB_n : Below w.heap.size w (((Wu62.setCell ⟨gq,k * 3,none⟩ (.bool p3)).setCell ⟨gq,k * 3 + 1,none⟩ (.slice a3 n3 c3)).setCell ⟨gq,k * 3 + 2,none⟩ (.slice bo3 m3 d3)) := ((BB.setCell gqB _).setCell gqB _).setCell gqB _
    go_simp
    clear x0 x1 x2 y0 y1 y2 K2 BB ht Aq hr Ar HQ HR
    generalize ((Wu62.setCell ⟨gq,k * 3,none⟩ (.bool p3)).setCell ⟨gq,k * 3 + 1,none⟩ (.slice a3 n3 c3)).setCell ⟨gq,k * 3 + 2,none⟩ (.slice bo3 m3 d3) = W63 at *
    have BB := BB_n
    have ht := ht_n
    have hr := hr_n
    have Aq := A2
    have Ar := Ar_n
    have HQ := HQ_n
    have HR := HR_n
    clear BB_n ht_n hr_n A2 Ar_n HQ_n HR_n
    refine hK.out _ _ trivial (fun _ => ?_)
    clear hK K
    simp only [Act.put,xL4,xL5,xL6]
    refine wpAnyH_done (by kernel_rfl) ?_ _
    replace HQ := HQ.put hr
    generalize upd3 elq k (.bool p3) (.slice a3 n3 c3) (.slice bo3 m3 d3) = elq2 at *
    clear hr
    have HP0 : Hid (partR qb k (QF k) Rk 0 = Rk) := partR_zero _ _ _ _
    go_wp2
    go_loopw [10,47] (fun _ vi wr => ∃ (i : Nat) (elr : Nat → Nat → Value),i ≤ below ∧ vi = .int .i64 (i : Int) ∧ Arr3 wr gr la elr ∧ Reps wr elr 0 la (partR qb k (QF k) Rk i) ∧ Arr3 wr gq lq elq2 ∧ Reps wr elq2 k lq QF ∧ Tab wr ∧ Below w.heap.size w wr) (fun _ vi _ => below - (intOf vi).toNat)
    case atStart => exact ⟨0,elr,by omega,rfl,Ar,by rw [HP0.out]; exact HR,Aq,HQ,ht,BB⟩
    case round =>
     clear Ar HR Aq HQ ht BB
     obtain ⟨i,elr,hib,rfl,Ar,HR,Aq,HQ,ht,BB⟩ := hrel
     by_cases hlt : i < below
     ·obtain ⟨ki,hki_⟩ : ∃ ki,ki = k + i := ⟨_,rfl⟩
      have HKI : Hid (ki = k + i) := hki_
      have hki : ki < la := by have := HKB.out; omega
      have r1 : (k : Int) + (i : Int) = (ki : Int) := by omega
      have r2 : IntKind.i64.wrap (ki : Int) = (ki : Int) := by rw [IntKind.wrap_i64]; omega
      have r3 : (0 : Int) ≤ (ki : Int) := by omega
      have r4 : (ki : Int) < (la : Int) := by omega
      have r5 : (0 : Int) ≤ (i : Int) := by omega
      have r6 : (i : Int) < (lb : Int) := by omega
      have r7 : (i : Int) < (below : Int) := by omega
      have r8 : (0 : Int) ≤ (k : Int) := by omega
      have HPH : Hid (partR qb k (QF k) Rk i ki = Rk ki) := by show _ = _; rw [hki_]; exact partR_here _ _ _ _ _
      have HPN : Hid (partR qb k (QF k) Rk (i + 1) ki = Rk ki - QF k * qb i) := by show _ = _; rw [partR_next,if_pos hki_,hki_]
      have HPO : Hid (∀ j,j ≠ ki → partR qb k (QF k) Rk (i + 1) j = partR qb k (QF k) Rk i j) := fun j hj => by rw [partR_next,if_neg (by rw [← hki_]; exact hj)]
      clear hki_
      obtain ⟨ps,aos,ms,ds,bos,ks,es,XS,Hs⟩ := Ar.e3 ki hki (HR ki (Nat.zero_le _) hki)
      rw [HPH.out] at Hs
      obtain ⟨pq,aoq,mq,dq,boq,kq,eq_,XQ,Hq⟩ := Aq.e3 k hk (HQ k (Nat.le_refl _) hk)
      obtain ⟨bv,offv,ccv,p1v,ao1v,m1v,d1v,bo1v,k1v,e1v,hvvv,hccv,XCv,Hiv⟩ := (hqb).at i (by omega)
      cases hvvv
      have XB2 := XCv.below BB
      have Hb2 := Hiv.below BB
      clear XCv Hiv
      go_wp2
      (try simp only [r7,decide_true])
      refine wp_region_until 20 #[true,true,true,true,true,true,true,true,true,true,true,true,true,true,true,true,true,true,true,true,false,false] (fun aF lsd a' w' => ∃ vu0 vu1 vu2 vu3 vu4 vu5 vu6 vu7 vu8 vu9 vu10 vu11 vu12 vu13 vu14 vu15 vu16 vu17 vu18 vu19 : Value,a' = (((((((((((((((((((aF.put (some 50) vu0).put (some 51) vu1).put (some 52) vu2).put (some 53) vu3).put (some 54) vu4).put (some 55) vu5).put (some 56) vu6).put (some 57) vu7).put (some 58) vu8).put (some 59) vu9).put (some 60) vu10).put (some 61) vu11).put (some 62) vu12).put (some 63) vu13).put (some 64) vu14).put (some 65) vu15).put (some 66) vu16).put (some 67) vu17).put (some 68) vu18).put (some 69) vu19 ∧ Below wr.heap.size wr w' ∧ (lsd.getD 0 false = true → vu0 = .slice (some ⟨gr,0,none⟩) la cr) ∧ (lsd.getD 1 false = true → vu1 = .int .i64 (k : Int)) ∧ (lsd.getD 2 false = true → vu2 = .int .i64 (i : Int)) ∧ (lsd.getD 3 false = true → vu3 = .int .i64 (ki : Int)) ∧ (lsd.getD 4 false = true → vu4 = .slice (some ⟨gr,0,none⟩) la cr) ∧ (lsd.getD 5 false = true → vu5 = .int .i64 (k : Int)) ∧ (lsd.getD 6 false = true → vu6 = .int .i64 (i : Int)) ∧ (lsd.getD 7 false = true → vu7 = .int .i64 (ki : Int)) ∧ (lsd.getD 8 false = true → vu8 = .pointer (some ⟨gr,ki * 3,none⟩)) ∧ (lsd.getD 9 false = true → vu9 = .agg #[.bool ps,.slice aos ms ds,.slice bos ks es]) ∧ (lsd.getD 10 false = true → vu10 = .slice (some ⟨gq,0,none⟩) lq cq) ∧ (lsd.getD 11 false = true → vu11 = .int .i64 (k : Int)) ∧ (lsd.getD 12 false = true → vu12 = .pointer (some ⟨gq,k * 3,none⟩)) ∧ (lsd.getD 13 false = true → vu13 = .agg #[.bool pq,.slice aoq mq dq,.slice boq kq eq_]) ∧ (lsd.getD 14 false = true → vu14 = .slice (some ⟨b,off,none⟩) lb c2) ∧ (lsd.getD 15 false = true → vu15 = .int .i64 (i : Int)) ∧ (lsd.getD 16 false = true → vu16 = .pointer (some ⟨b,off + i * 3,none⟩)) ∧ (lsd.getD 17 false = true → vu17 = .agg #[.bool p1v,.slice ao1v m1v d1v,.slice bo1v k1v e1v]) ∧ (lsd.getD 18 false = true → RepQ w' vu18 (QF k * qb i)) ∧ (lsd.getD 19 false = true → RepQ w' vu19 (Rk ki - QF k * qb i))) (by kernel_rfl) (by decide) (by kernel_rfl) (by rfl) (by kernel_rfl) ?_ ?_ ?_
      ·exact ⟨_,_,_,_,_,_,_,_,_,_,_,_,_,_,_,_,_,_,_,_,by simp only [Act.put,xL4,xL5,xL6]; rfl,(Below.refl _ _).drew,fun h => absurd h (fun h => mark_none h),fun h => absurd h (fun h => mark_none h),fun h => absurd h (fun h => mark_none h),fun h => absurd h (fun h => mark_none h),fun h => absurd h (fun h => mark_none h),fun h => absurd h (fun h => mark_none h),fun h => absurd h (fun h => mark_none h),fun h => absurd h (fun h => mark_none h),fun h => absurd h (fun h => mark_none h),fun h => absurd h (fun h => mark_none h),fun h => absurd h (fun h => mark_none h),fun h => absurd h (fun h => mark_none h),fun h => absurd h (fun h => mark_none h),fun h => absurd h (fun h => mark_none h),fun h => absurd h (fun h => mark_none h),fun h => absurd h (fun h => mark_none h),fun h => absurd h (fun h => mark_none h),fun h => absurd h (fun h => mark_none h),fun h => absurd h (fun h => mark_none h),fun h => absurd h (fun h => mark_none h)⟩
      ·rintro lsd au wn iu hszu ⟨vu0,vu1,vu2,vu3,vu4,vu5,vu6,vu7,vu8,vu9,vu10,vu11,vu12,vu13,vu14,vu15,vu16,vu17,vu18,vu19,rfl,hbu,fu0,fu1,fu2,fu3,fu4,fu5,fu6,fu7,fu8,fu9,fu10,fu11,fu12,fu13,fu14,fu15,fu16,fu17,fu18,fu19⟩ himu hru
       rcases (show iu = 0 ∨ iu = 1 ∨ iu = 2 ∨ iu = 3 ∨ iu = 4 ∨ iu = 5 ∨ iu = 6 ∨ iu = 7 ∨ iu = 8 ∨ iu = 9 ∨ iu = 10 ∨ iu = 11 ∨ iu = 12 ∨ iu = 13 ∨ iu = 14 ∨ iu = 15 ∨ iu = 16 ∨ iu = 17 ∨ iu = 18 ∨ iu = 19 by omega) with rfl | rfl | rfl | rfl | rfl | rfl | rfl | rfl | rfl | rfl | rfl | rfl | rfl | rfl | rfl | rfl | rfl | rfl | rfl | rfl
       ·refine wpOp_shut (by rfl) (fun K hK => ?_)
        simp only [Act.put,xL4,xL5,xL6]
        go_simp
        exact hK.out _ _ ⟨(.slice (some ⟨gr,0,none⟩) la cr),vu1,vu2,vu3,vu4,vu5,vu6,vu7,vu8,vu9,vu10,vu11,vu12,vu13,vu14,vu15,vu16,vu17,vu18,vu19,by simp only [Act.put,xL4,xL5,xL6],hbu,fun _ => rfl,fun h => fu1 (mark_of (by decide) h),fun h => fu2 (mark_of (by decide) h),fun h => fu3 (mark_of (by decide) h),fun h => fu4 (mark_of (by decide) h),fun h => fu5 (mark_of (by decide) h),fun h => fu6 (mark_of (by decide) h),fun h => fu7 (mark_of (by decide) h),fun h => fu8 (mark_of (by decide) h),fun h => fu9 (mark_of (by decide) h),fun h => fu10 (mark_of (by decide) h),fun h => fu11 (mark_of (by decide) h),fun h => fu12 (mark_of (by decide) h),fun h => fu13 (mark_of (by decide) h),fun h => fu14 (mark_of (by decide) h),fun h => fu15 (mark_of (by decide) h),fun h => fu16 (mark_of (by decide) h),fun h => fu17 (mark_of (by decide) h),fun h => fu18 (mark_of (by decide) h),fun h => fu19 (mark_of (by decide) h)⟩
       ·refine wpOp_shut (by rfl) (fun K hK => ?_)
        simp only [Act.put,xL4,xL5,xL6]
        go_simp
        exact hK.out _ _ ⟨vu0,(.int .i64 (k : Int)),vu2,vu3,vu4,vu5,vu6,vu7,vu8,vu9,vu10,vu11,vu12,vu13,vu14,vu15,vu16,vu17,vu18,vu19,by simp only [Act.put,xL4,xL5,xL6],hbu,fun h => fu0 (mark_of (by decide) h),fun _ => rfl,fun h => fu2 (mark_of (by decide) h),fun h => fu3 (mark_of (by decide) h),fun h => fu4 (mark_of (by decide) h),fun h => fu5 (mark_of (by decide) h),fun h => fu6 (mark_of (by decide) h),fun h => fu7 (mark_of (by decide) h),fun h => fu8 (mark_of (by decide) h),fun h => fu9 (mark_of (by decide) h),fun h => fu10 (mark_of (by decide) h),fun h => fu11 (mark_of (by decide) h),fun h => fu12 (mark_of (by decide) h),fun h => fu13 (mark_of (by decide) h),fun h => fu14 (mark_of (by decide) h),fun h => fu15 (mark_of (by decide) h),fun h => fu16 (mark_of (by decide) h),fun h => fu17 (mark_of (by decide) h),fun h => fu18 (mark_of (by decide) h),fun h => fu19 (mark_of (by decide) h)⟩
       ·refine wpOp_shut (by rfl) (fun K hK => ?_)
        simp only [Act.put,xL4,xL5,xL6]
        go_simp
        exact hK.out _ _ ⟨vu0,vu1,(.int .i64 (i : Int)),vu3,vu4,vu5,vu6,vu7,vu8,vu9,vu10,vu11,vu12,vu13,vu14,vu15,vu16,vu17,vu18,vu19,by simp only [Act.put,xL4,xL5,xL6],hbu,fun h => fu0 (mark_of (by decide) h),fun h => fu1 (mark_of (by decide) h),fun _ => rfl,fun h => fu3 (mark_of (by decide) h),fun h => fu4 (mark_of (by decide) h),fun h => fu5 (mark_of (by decide) h),fun h => fu6 (mark_of (by decide) h),fun h => fu7 (mark_of (by decide) h),fun h => fu8 (mark_of (by decide) h),fun h => fu9 (mark_of (by decide) h),fun h => fu10 (mark_of (by decide) h),fun h => fu11 (mark_of (by decide) h),fun h => fu12 (mark_of (by decide) h),fun h => fu13 (mark_of (by decide) h),fun h => fu14 (mark_of (by decide) h),fun h => fu15 (mark_of (by decide) h),fun h => fu16 (mark_of (by decide) h),fun h => fu17 (mark_of (by decide) h),fun h => fu18 (mark_of (by decide) h),fun h => fu19 (mark_of (by decide) h)⟩
       ·have eu1 := fu1 (dep_of 1 hru rfl (by kernel_rfl))
        have eu2 := fu2 (dep_of 2 hru rfl (by kernel_rfl))
        replace eu1 := eu1.symm
        subst eu1
        replace eu2 := eu2.symm
        subst eu2
        refine wpOp_shut (by rfl) (fun K hK => ?_)
        simp only [Act.put,xL4,xL5,xL6]
        go_simp
        exact hK.out _ _ ⟨vu0,(.int .i64 (k : Int)),(.int .i64 (i : Int)),(.int .i64 (ki : Int)),vu4,vu5,vu6,vu7,vu8,vu9,vu10,vu11,vu12,vu13,vu14,vu15,vu16,vu17,vu18,vu19,by simp only [Act.put,xL4,xL5,xL6],hbu,fun h => fu0 (mark_of (by decide) h),fun _ => rfl,fun _ => rfl,fun _ => rfl,fun h => fu4 (mark_of (by decide) h),fun h => fu5 (mark_of (by decide) h),fun h => fu6 (mark_of (by decide) h),fun h => fu7 (mark_of (by decide) h),fun h => fu8 (mark_of (by decide) h),fun h => fu9 (mark_of (by decide) h),fun h => fu10 (mark_of (by decide) h),fun h => fu11 (mark_of (by decide) h),fun h => fu12 (mark_of (by decide) h),fun h => fu13 (mark_of (by decide) h),fun h => fu14 (mark_of (by decide) h),fun h => fu15 (mark_of (by decide) h),fun h => fu16 (mark_of (by decide) h),fun h => fu17 (mark_of (by decide) h),fun h => fu18 (mark_of (by decide) h),fun h => fu19 (mark_of (by decide) h)⟩
       ·refine wpOp_shut (by rfl) (fun K hK => ?_)
        simp only [Act.put,xL4,xL5,xL6]
        go_simp
        exact hK.out _ _ ⟨vu0,vu1,vu2,vu3,(.slice (some ⟨gr,0,none⟩) la cr),vu5,vu6,vu7,vu8,vu9,vu10,vu11,vu12,vu13,vu14,vu15,vu16,vu17,vu18,vu19,by simp only [Act.put,xL4,xL5,xL6],hbu,fun h => fu0 (mark_of (by decide) h),fun h => fu1 (mark_of (by decide) h),fun h => fu2 (mark_of (by decide) h),fun h => fu3 (mark_of (by decide) h),fun _ => rfl,fun h => fu5 (mark_of (by decide) h),fun h => fu6 (mark_of (by decide) h),fun h => fu7 (mark_of (by decide) h),fun h => fu8 (mark_of (by decide) h),fun h => fu9 (mark_of (by decide) h),fun h => fu10 (mark_of (by decide) h),fun h => fu11 (mark_of (by decide) h),fun h => fu12 (mark_of (by decide) h),fun h => fu13 (mark_of (by decide) h),fun h => fu14 (mark_of (by decide) h),fun h => fu15 (mark_of (by decide) h),fun h => fu16 (mark_of (by decide) h),fun h => fu17 (mark_of (by decide) h),fun h => fu18 (mark_of (by decide) h),fun h => fu19 (mark_of (by decide) h)⟩
       ·refine wpOp_shut (by rfl) (fun K hK => ?_)
        simp only [Act.put,xL4,xL5,xL6]
        go_simp
        exact hK.out _ _ ⟨vu0,vu1,vu2,vu3,vu4,(.int .i64 (k : Int)),vu6,vu7,vu8,vu9,vu10,vu11,vu12,vu13,vu14,vu15,vu16,vu17,vu18,vu19,by simp only [Act.put,xL4,xL5,xL6],hbu,fun h => fu0 (mark_of (by decide) h),fun h => fu1 (mark_of (by decide) h),fun h => fu2 (mark_of (by decide) h),fun h => fu3 (mark_of (by decide) h),fun h => fu4 (mark_of (by decide) h),fun _ => rfl,fun h => fu6 (mark_of (by decide) h),fun h => fu7 (mark_of (by decide) h),fun h => fu8 (mark_of (by decide) h),fun h => fu9 (mark_of (by decide) h),fun h => fu10 (mark_of (by decide) h),fun h => fu11 (mark_of (by decide) h),fun h => fu12 (mark_of (by decide) h),fun h => fu13 (mark_of (by decide) h),fun h => fu14 (mark_of (by decide) h),fun h => fu15 (mark_of (by decide) h),fun h => fu16 (mark_of (by decide) h),fun h => fu17 (mark_of (by decide) h),fun h => fu18 (mark_of (by decide) h),fun h => fu19 (mark_of (by decide) h)⟩
       ·refine wpOp_shut (by rfl) (fun K hK => ?_)
        simp only [Act.put,xL4,xL5,xL6]
        go_simp
        exact hK.out _ _ ⟨vu0,vu1,vu2,vu3,vu4,vu5,(.int .i64 (i : Int)),vu7,vu8,vu9,vu10,vu11,vu12,vu13,vu14,vu15,vu16,vu17,vu18,vu19,by simp only [Act.put,xL4,xL5,xL6],hbu,fun h => fu0 (mark_of (by decide) h),fun h => fu1 (mark_of (by decide) h),fun h => fu2 (mark_of (by decide) h),fun h => fu3 (mark_of (by decide) h),fun h => fu4 (mark_of (by decide) h),fun h => fu5 (mark_of (by decide) h),fun _ => rfl,fun h => fu7 (mark_of (by decide) h),fun h => fu8 (mark_of (by decide) h),fun h => fu9 (mark_of (by decide) h),fun h => fu10 (mark_of (by decide) h),fun h => fu11 (mark_of (by decide) h),fun h => fu12 (mark_of (by decide) h),fun h => fu13 (mark_of (by decide) h),fun h => fu14 (mark_of (by decide) h),fun h => fu15 (mark_of (by decide) h),fun h => fu16 (mark_of (by decide) h),fun h => fu17 (mark_of (by decide) h),fun h => fu18 (mark_of (by decide) h),fun h => fu19 (mark_of (by decide) h)⟩
       ·have eu5 := fu5 (dep_of 5 hru rfl (by kernel_rfl))
        have eu6 := fu6 (dep_of 6 hru rfl (by kernel_rfl))
        replace eu5 := eu5.symm
        subst eu5
        replace eu6 := eu6.symm
        subst eu6
        refine wpOp_shut (by rfl) (fun K hK => ?_)
        simp only [Act.put,xL4,xL5,xL6]
        go_simp
        exact hK.out _ _ ⟨vu0,vu1,vu2,vu3,vu4,(.int .i64 (k : Int)),(.int .i64 (i : Int)),(.int .i64 (ki : Int)),vu8,vu9,vu10,vu11,vu12,vu13,vu14,vu15,vu16,vu17,vu18,vu19,by simp only [Act.put,xL4,xL5,xL6],hbu,fun h => fu0 (mark_of (by decide) h),fun h => fu1 (mark_of (by decide) h),fun h => fu2 (mark_of (by decide) h),fun h => fu3 (mark_of (by decide) h),fun h => fu4 (mark_of (by decide) h),fun _ => rfl,fun _ => rfl,fun _ => rfl,fun h => fu8 (mark_of (by decide) h),fun h => fu9 (mark_of (by decide) h),fun h => fu10 (mark_of (by decide) h),fun h => fu11 (mark_of (by decide) h),fun h => fu12 (mark_of (by decide) h),fun h => fu13 (mark_of (by decide) h),fun h => fu14 (mark_of (by decide) h),fun h => fu15 (mark_of (by decide) h),fun h => fu16 (mark_of (by decide) h),fun h => fu17 (mark_of (by decide) h),fun h => fu18 (mark_of (by decide) h),fun h => fu19 (mark_of (by decide) h)⟩
       ·have eu4 := fu4 (dep_of 4 hru rfl (by kernel_rfl))
        have eu7 := fu7 (dep_of 7 hru rfl (by kernel_rfl))
        replace eu4 := eu4.symm
        subst eu4
        replace eu7 := eu7.symm
        subst eu7
        refine wpOp_shut (by rfl) (fun K hK => ?_)
        simp only [Act.put,xL4,xL5,xL6]
        go_simp
        exact hK.out _ _ ⟨vu0,vu1,vu2,vu3,(.slice (some ⟨gr,0,none⟩) la cr),vu5,vu6,(.int .i64 (ki : Int)),(.pointer (some ⟨gr,ki * 3,none⟩)),vu9,vu10,vu11,vu12,vu13,vu14,vu15,vu16,vu17,vu18,vu19,by simp only [Act.put,xL4,xL5,xL6],hbu,fun h => fu0 (mark_of (by decide) h),fun h => fu1 (mark_of (by decide) h),fun h => fu2 (mark_of (by decide) h),fun h => fu3 (mark_of (by decide) h),fun _ => rfl,fun h => fu5 (mark_of (by decide) h),fun h => fu6 (mark_of (by decide) h),fun _ => rfl,fun _ => rfl,fun h => fu9 (mark_of (by decide) h),fun h => fu10 (mark_of (by decide) h),fun h => fu11 (mark_of (by decide) h),fun h => fu12 (mark_of (by decide) h),fun h => fu13 (mark_of (by decide) h),fun h => fu14 (mark_of (by decide) h),fun h => fu15 (mark_of (by decide) h),fun h => fu16 (mark_of (by decide) h),fun h => fu17 (mark_of (by decide) h),fun h => fu18 (mark_of (by decide) h),fun h => fu19 (mark_of (by decide) h)⟩
       ·have eu8 := fu8 (dep_of 8 hru rfl (by kernel_rfl))
        replace eu8 := eu8.symm
        subst eu8
        refine wpOp_shut (by rfl) (fun K hK => ?_)
        simp only [Act.put,xL4,xL5,xL6]
        obtain ⟨XS_0,XS_1,XS_2⟩ := XS.below hbu
        go_simp
        exact hK.out _ _ ⟨vu0,vu1,vu2,vu3,vu4,vu5,vu6,vu7,(.pointer (some ⟨gr,ki * 3,none⟩)),(.agg #[.bool ps,.slice aos ms ds,.slice bos ks es]),vu10,vu11,vu12,vu13,vu14,vu15,vu16,vu17,vu18,vu19,by simp only [Act.put,xL4,xL5,xL6],hbu,fun h => fu0 (mark_of (by decide) h),fun h => fu1 (mark_of (by decide) h),fun h => fu2 (mark_of (by decide) h),fun h => fu3 (mark_of (by decide) h),fun h => fu4 (mark_of (by decide) h),fun h => fu5 (mark_of (by decide) h),fun h => fu6 (mark_of (by decide) h),fun h => fu7 (mark_of (by decide) h),fun _ => rfl,fun _ => rfl,fun h => fu10 (mark_of (by decide) h),fun h => fu11 (mark_of (by decide) h),fun h => fu12 (mark_of (by decide) h),fun h => fu13 (mark_of (by decide) h),fun h => fu14 (mark_of (by decide) h),fun h => fu15 (mark_of (by decide) h),fun h => fu16 (mark_of (by decide) h),fun h => fu17 (mark_of (by decide) h),fun h => fu18 (mark_of (by decide) h),fun h => fu19 (mark_of (by decide) h)⟩
       ·refine wpOp_shut (by rfl) (fun K hK => ?_)
        simp only [Act.put,xL4,xL5,xL6]
        go_simp
        exact hK.out _ _ ⟨vu0,vu1,vu2,vu3,vu4,vu5,vu6,vu7,vu8,vu9,(.slice (some ⟨gq,0,none⟩) lq cq),vu11,vu12,vu13,vu14,vu15,vu16,vu17,vu18,vu19,by simp only [Act.put,xL4,xL5,xL6],hbu,fun h => fu0 (mark_of (by decide) h),fun h => fu1 (mark_of (by decide) h),fun h => fu2 (mark_of (by decide) h),fun h => fu3 (mark_of (by decide) h),fun h => fu4 (mark_of (by decide) h),fun h => fu5 (mark_of (by decide) h),fun h => fu6 (mark_of (by decide) h),fun h => fu7 (mark_of (by decide) h),fun h => fu8 (mark_of (by decide) h),fun h => fu9 (mark_of (by decide) h),fun _ => rfl,fun h => fu11 (mark_of (by decide) h),fun h => fu12 (mark_of (by decide) h),fun h => fu13 (mark_of (by decide) h),fun h => fu14 (mark_of (by decide) h),fun h => fu15 (mark_of (by decide) h),fun h => fu16 (mark_of (by decide) h),fun h => fu17 (mark_of (by decide) h),fun h => fu18 (mark_of (by decide) h),fun h => fu19 (mark_of (by decide) h)⟩
       ·refine wpOp_shut (by rfl) (fun K hK => ?_)
        simp only [Act.put,xL4,xL5,xL6]
        go_simp
        exact hK.out _ _ ⟨vu0,vu1,vu2,vu3,vu4,vu5,vu6,vu7,vu8,vu9,vu10,(.int .i64 (k : Int)),vu12,vu13,vu14,vu15,vu16,vu17,vu18,vu19,by simp only [Act.put,xL4,xL5,xL6],hbu,fun h => fu0 (mark_of (by decide) h),fun h => fu1 (mark_of (by decide) h),fun h => fu2 (mark_of (by decide) h),fun h => fu3 (mark_of (by decide) h),fun h => fu4 (mark_of (by decide) h),fun h => fu5 (mark_of (by decide) h),fun h => fu6 (mark_of (by decide) h),fun h => fu7 (mark_of (by decide) h),fun h => fu8 (mark_of (by decide) h),fun h => fu9 (mark_of (by decide) h),fun h => fu10 (mark_of (by decide) h),fun _ => rfl,fun h => fu12 (mark_of (by decide) h),fun h => fu13 (mark_of (by decide) h),fun h => fu14 (mark_of (by decide) h),fun h => fu15 (mark_of (by decide) h),fun h => fu16 (mark_of (by decide) h),fun h => fu17 (mark_of (by decide) h),fun h => fu18 (mark_of (by decide) h),fun h => fu19 (mark_of (by decide) h)⟩
       ·have eu10 := fu10 (dep_of 10 hru rfl (by kernel_rfl))
        have eu11 := fu11 (dep_of 11 hru rfl (by kernel_rfl))
        replace eu10 := eu10.symm
        subst eu10
        replace eu11 := eu11.symm
        subst eu11
        refine wpOp_shut (by rfl) (fun K hK => ?_)
        simp only [Act.put,xL4,xL5,xL6]
        go_simp
        exact hK.out _ _ ⟨vu0,vu1,vu2,vu3,vu4,vu5,vu6,vu7,vu8,vu9,(.slice (some ⟨gq,0,none⟩) lq cq),(.int .i64 (k : Int)),(.pointer (some ⟨gq,k * 3,none⟩)),vu13,vu14,vu15,vu16,vu17,vu18,vu19,by simp only [Act.put,xL4,xL5,xL6],hbu,fun h => fu0 (mark_of (by decide) h),fun h => fu1 (mark_of (by decide) h),fun h => fu2 (mark_of (by decide) h),fun h => fu3 (mark_of (by decide) h),fun h => fu4 (mark_of (by decide) h),fun h => fu5 (mark_of (by decide) h),fun h => fu6 (mark_of (by decide) h),fun h => fu7 (mark_of (by decide) h),fun h => fu8 (mark_of (by decide) h),fun h => fu9 (mark_of (by decide) h),fun _ => rfl,fun _ => rfl,fun _ => rfl,fun h => fu13 (mark_of (by decide) h),fun h => fu14 (mark_of (by decide) h),fun h => fu15 (mark_of (by decide) h),fun h => fu16 (mark_of (by decide) h),fun h => fu17 (mark_of (by decide) h),fun h => fu18 (mark_of (by decide) h),fun h => fu19 (mark_of (by decide) h)⟩
       ·have eu12 := fu12 (dep_of 12 hru rfl (by kernel_rfl))
        replace eu12 := eu12.symm
        subst eu12
        refine wpOp_shut (by rfl) (fun K hK => ?_)
        simp only [Act.put,xL4,xL5,xL6]
        obtain ⟨XQ_0,XQ_1,XQ_2⟩ := XQ.below hbu
        go_simp
        exact hK.out _ _ ⟨vu0,vu1,vu2,vu3,vu4,vu5,vu6,vu7,vu8,vu9,vu10,vu11,(.pointer (some ⟨gq,k * 3,none⟩)),(.agg #[.bool pq,.slice aoq mq dq,.slice boq kq eq_]),vu14,vu15,vu16,vu17,vu18,vu19,by simp only [Act.put,xL4,xL5,xL6],hbu,fun h => fu0 (mark_of (by decide) h),fun h => fu1 (mark_of (by decide) h),fun h => fu2 (mark_of (by decide) h),fun h => fu3 (mark_of (by decide) h),fun h => fu4 (mark_of (by decide) h),fun h => fu5 (mark_of (by decide) h),fun h => fu6 (mark_of (by decide) h),fun h => fu7 (mark_of (by decide) h),fun h => fu8 (mark_of (by decide) h),fun h => fu9 (mark_of (by decide) h),fun h => fu10 (mark_of (by decide) h),fun h => fu11 (mark_of (by decide) h),fun _ => rfl,fun _ => rfl,fun h => fu14 (mark_of (by decide) h),fun h => fu15 (mark_of (by decide) h),fun h => fu16 (mark_of (by decide) h),fun h => fu17 (mark_of (by decide) h),fun h => fu18 (mark_of (by decide) h),fun h => fu19 (mark_of (by decide) h)⟩
       ·refine wpOp_shut (by rfl) (fun K hK => ?_)
        simp only [Act.put,xL4,xL5,xL6]
        go_simp
        exact hK.out _ _ ⟨vu0,vu1,vu2,vu3,vu4,vu5,vu6,vu7,vu8,vu9,vu10,vu11,vu12,vu13,(.slice (some ⟨b,off,none⟩) lb c2),vu15,vu16,vu17,vu18,vu19,by simp only [Act.put,xL4,xL5,xL6],hbu,fun h => fu0 (mark_of (by decide) h),fun h => fu1 (mark_of (by decide) h),fun h => fu2 (mark_of (by decide) h),fun h => fu3 (mark_of (by decide) h),fun h => fu4 (mark_of (by decide) h),fun h => fu5 (mark_of (by decide) h),fun h => fu6 (mark_of (by decide) h),fun h => fu7 (mark_of (by decide) h),fun h => fu8 (mark_of (by decide) h),fun h => fu9 (mark_of (by decide) h),fun h => fu10 (mark_of (by decide) h),fun h => fu11 (mark_of (by decide) h),fun h => fu12 (mark_of (by decide) h),fun h => fu13 (mark_of (by decide) h),fun _ => rfl,fun h => fu15 (mark_of (by decide) h),fun h => fu16 (mark_of (by decide) h),fun h => fu17 (mark_of (by decide) h),fun h => fu18 (mark_of (by decide) h),fun h => fu19 (mark_of (by decide) h)⟩
       ·refine wpOp_shut (by rfl) (fun K hK => ?_)
        simp only [Act.put,xL4,xL5,xL6]
        go_simp
        exact hK.out _ _ ⟨vu0,vu1,vu2,vu3,vu4,vu5,vu6,vu7,vu8,vu9,vu10,vu11,vu12,vu13,vu14,(.int .i64 (i : Int)),vu16,vu17,vu18,vu19,by simp only [Act.put,xL4,xL5,xL6],hbu,fun h => fu0 (mark_of (by decide) h),fun h => fu1 (mark_of (by decide) h),fun h => fu2 (mark_of (by decide) h),fun h => fu3 (mark_of (by decide) h),fun h => fu4 (mark_of (by decide) h),fun h => fu5 (mark_of (by decide) h),fun h => fu6 (mark_of (by decide) h),fun h => fu7 (mark_of (by decide) h),fun h => fu8 (mark_of (by decide) h),fun h => fu9 (mark_of (by decide) h),fun h => fu10 (mark_of (by decide) h),fun h => fu11 (mark_of (by decide) h),fun h => fu12 (mark_of (by decide) h),fun h => fu13 (mark_of (by decide) h),fun h => fu14 (mark_of (by decide) h),fun _ => rfl,fun h => fu16 (mark_of (by decide) h),fun h => fu17 (mark_of (by decide) h),fun h => fu18 (mark_of (by decide) h),fun h => fu19 (mark_of (by decide) h)⟩
       ·have eu14 := fu14 (dep_of 14 hru rfl (by kernel_rfl))
        have eu15 := fu15 (dep_of 15 hru rfl (by kernel_rfl))
        replace eu14 := eu14.symm
        subst eu14
        replace eu15 := eu15.symm
        subst eu15
        refine wpOp_shut (by rfl) (fun K hK => ?_)
        simp only [Act.put,xL4,xL5,xL6]
        go_simp
        exact hK.out _ _ ⟨vu0,vu1,vu2,vu3,vu4,vu5,vu6,vu7,vu8,vu9,vu10,vu11,vu12,vu13,(.slice (some ⟨b,off,none⟩) lb c2),(.int .i64 (i : Int)),(.pointer (some ⟨b,off + i * 3,none⟩)),vu17,vu18,vu19,by simp only [Act.put,xL4,xL5,xL6],hbu,fun h => fu0 (mark_of (by decide) h),fun h => fu1 (mark_of (by decide) h),fun h => fu2 (mark_of (by decide) h),fun h => fu3 (mark_of (by decide) h),fun h => fu4 (mark_of (by decide) h),fun h => fu5 (mark_of (by decide) h),fun h => fu6 (mark_of (by decide) h),fun h => fu7 (mark_of (by decide) h),fun h => fu8 (mark_of (by decide) h),fun h => fu9 (mark_of (by decide) h),fun h => fu10 (mark_of (by decide) h),fun h => fu11 (mark_of (by decide) h),fun h => fu12 (mark_of (by decide) h),fun h => fu13 (mark_of (by decide) h),fun _ => rfl,fun _ => rfl,fun _ => rfl,fun h => fu17 (mark_of (by decide) h),fun h => fu18 (mark_of (by decide) h),fun h => fu19 (mark_of (by decide) h)⟩
       ·have eu16 := fu16 (dep_of 16 hru rfl (by kernel_rfl))
        replace eu16 := eu16.symm
        subst eu16
        refine wpOp_shut (by rfl) (fun K hK => ?_)
        simp only [Act.put,xL4,xL5,xL6]
        obtain ⟨XB2_0,XB2_1,XB2_2⟩ := XB2.below hbu
        go_simp
        exact hK.out _ _ ⟨vu0,vu1,vu2,vu3,vu4,vu5,vu6,vu7,vu8,vu9,vu10,vu11,vu12,vu13,vu14,vu15,(.pointer (some ⟨b,off + i * 3,none⟩)),(.agg #[.bool p1v,.slice ao1v m1v d1v,.slice bo1v k1v e1v]),vu18,vu19,by simp only [Act.put,xL4,xL5,xL6],hbu,fun h => fu0 (mark_of (by decide) h),fun h => fu1 (mark_of (by decide) h),fun h => fu2 (mark_of (by decide) h),fun h => fu3 (mark_of (by decide) h),fun h => fu4 (mark_of (by decide) h),fun h => fu5 (mark_of (by decide) h),fun h => fu6 (mark_of (by decide) h),fun h => fu7 (mark_of (by decide) h),fun h => fu8 (mark_of (by decide) h),fun h => fu9 (mark_of (by decide) h),fun h => fu10 (mark_of (by decide) h),fun h => fu11 (mark_of (by decide) h),fun h => fu12 (mark_of (by decide) h),fun h => fu13 (mark_of (by decide) h),fun h => fu14 (mark_of (by decide) h),fun h => fu15 (mark_of (by decide) h),fun _ => rfl,fun _ => rfl,fun h => fu18 (mark_of (by decide) h),fun h => fu19 (mark_of (by decide) h)⟩
       ·have eu13 := fu13 (dep_of 13 hru rfl (by kernel_rfl))
        have eu17 := fu17 (dep_of 17 hru rfl (by kernel_rfl))
        replace eu13 := eu13.symm
        subst eu13
        replace eu17 := eu17.symm
        subst eu17
        refine wpOp_shut (by rfl) (fun K hK => ?_)
        simp only [Act.put,xL4,xL5,xL6]
        have ht := ht.below hbu
        have Hq := Hq.below hbu
        have Hb2 := Hb2.below hbu
        go_simp
        refine (qmul_at _ _ (QF k) (qb i) (S + L) _ (Hq.at _ sC) (Hb2.le (by omega)) (by omega) (by omega) ht).mono ?_
        rintro eu wx ⟨x18,rfl,h18,bu⟩
        go_wp2_with fail
        have hbu2 := hbu.trans (bu.mono hbu.size)
        exact hK.out _ _ ⟨vu0,vu1,vu2,vu3,vu4,vu5,vu6,vu7,vu8,vu9,vu10,vu11,vu12,(.agg #[.bool pq,.slice aoq mq dq,.slice boq kq eq_]),vu14,vu15,vu16,(.agg #[.bool p1v,.slice ao1v m1v d1v,.slice bo1v k1v e1v]),_,vu19,by simp only [Act.put,xL4,xL5,xL6],hbu2,fun h => fu0 (mark_of (by decide) h),fun h => fu1 (mark_of (by decide) h),fun h => fu2 (mark_of (by decide) h),fun h => fu3 (mark_of (by decide) h),fun h => fu4 (mark_of (by decide) h),fun h => fu5 (mark_of (by decide) h),fun h => fu6 (mark_of (by decide) h),fun h => fu7 (mark_of (by decide) h),fun h => fu8 (mark_of (by decide) h),fun h => fu9 (mark_of (by decide) h),fun h => fu10 (mark_of (by decide) h),fun h => fu11 (mark_of (by decide) h),fun h => fu12 (mark_of (by decide) h),fun _ => rfl,fun h => fu14 (mark_of (by decide) h),fun h => fu15 (mark_of (by decide) h),fun h => fu16 (mark_of (by decide) h),fun _ => rfl,fun _ => h18,fun h => (fu19 (mark_of (by decide) h)).below bu⟩
       ·have eu9 := fu9 (dep_of 9 hru rfl (by kernel_rfl))
        replace eu9 := eu9.symm
        subst eu9
        have h18 := fu18 (dep_of 18 hru rfl (by kernel_rfl))
        refine wpOp_shut (by rfl) (fun K hK => ?_)
        simp only [Act.put,xL4,xL5,xL6]
        have ht := ht.below hbu
        have Hs := Hs.below hbu
        go_simp
        refine (qsub_at _ _ (Rk ki) (QF k * qb i) (S + L + L) _ (Hs.at _ (Nat.le_trans (HS.out ki hki) (by omega))) (h18.at _ (qsz_mul _ _ sC (sb i (by omega)))) (by omega) (by omega) ht).mono ?_
        rintro eu wx ⟨x19,rfl,hr,bu⟩
        go_wp2_with fail
        have hbu2 := hbu.trans (bu.mono hbu.size)
        exact hK.out _ _ ⟨vu0,vu1,vu2,vu3,vu4,vu5,vu6,vu7,vu8,(.agg #[.bool ps,.slice aos ms ds,.slice bos ks es]),vu10,vu11,vu12,vu13,vu14,vu15,vu16,vu17,vu18,_,by simp only [Act.put,xL4,xL5,xL6],hbu2,fun h => fu0 (mark_of (by decide) h),fun h => fu1 (mark_of (by decide) h),fun h => fu2 (mark_of (by decide) h),fun h => fu3 (mark_of (by decide) h),fun h => fu4 (mark_of (by decide) h),fun h => fu5 (mark_of (by decide) h),fun h => fu6 (mark_of (by decide) h),fun h => fu7 (mark_of (by decide) h),fun h => fu8 (mark_of (by decide) h),fun _ => rfl,fun h => fu10 (mark_of (by decide) h),fun h => fu11 (mark_of (by decide) h),fun h => fu12 (mark_of (by decide) h),fun h => fu13 (mark_of (by decide) h),fun h => fu14 (mark_of (by decide) h),fun h => fu15 (mark_of (by decide) h),fun h => fu16 (mark_of (by decide) h),fun h => fu17 (mark_of (by decide) h),fun h => (fu18 (mark_of (by decide) h)).below bu,fun _ => hr⟩
      rintro au Wu84 ⟨vu0,vu1,vu2,vu3,vu4,vu5,vu6,vu7,vu8,vu9,vu10,vu11,vu12,vu13,vu14,vu15,vu16,vu17,vu18,vu19,rfl,hbu,fu0,fu1,fu2,fu3,fu4,fu5,fu6,fu7,fu8,fu9,fu10,fu11,fu12,fu13,fu14,fu15,fu16,fu17,fu18,fu19⟩
      have eu0 := (fu0 rfl).symm
      subst eu0
      have eu1 := (fu1 rfl).symm
      subst eu1
      have eu2 := (fu2 rfl).symm
      subst eu2
      have eu3 := (fu3 rfl).symm
      subst eu3
      have eu4 := (fu4 rfl).symm
      subst eu4
      have eu5 := (fu5 rfl).symm
      subst eu5
      have eu6 := (fu6 rfl).symm
      subst eu6
      have eu7 := (fu7 rfl).symm
      subst eu7
      have eu8 := (fu8 rfl).symm
      subst eu8
      have eu9 := (fu9 rfl).symm
      subst eu9
      have eu10 := (fu10 rfl).symm
      subst eu10
      have eu11 := (fu11 rfl).symm
      subst eu11
      have eu12 := (fu12 rfl).symm
      subst eu12
      have eu13 := (fu13 rfl).symm
      subst eu13
      have eu14 := (fu14 rfl).symm
      subst eu14
      have eu15 := (fu15 rfl).symm
      subst eu15
      have eu16 := (fu16 rfl).symm
      subst eu16
      have eu17 := (fu17 rfl).symm
      subst eu17
      have h18 := fu18 rfl
      have hr := fu19 rfl
      clear fu0 fu1 fu2 fu3 fu4 fu5 fu6 fu7 fu8 fu9 fu10 fu11 fu12 fu13 fu14 fu15 fu16 fu17 fu18 fu19
      have hlXS : gr < wr.heap.size := XS.lt
      have hlXQ : gq < wr.heap.size := XQ.lt
      have hlXB2 : b < wr.heap.size := XB2.lt
      replace Aq := Aq.below hbu
      replace HQ := HQ.below hbu
      replace Ar := Ar.below hbu
      replace HR := HR.below hbu
      replace ht := ht.below hbu
      replace Hs := Hs.below hbu
      replace Hq := Hq.below hbu
      replace Hb2 := Hb2.below hbu
      replace XS := XS.below hbu
      replace XQ := XQ.below hbu
      replace XB2 := XB2.below hbu
      replace BB := BB.trans (hbu.mono BB.size)
      clear hbu
      simp only [Act.put,xL4,xL5,xL6]
      refine xR [20] (h := ?_)
      refine AllReadyH.cons (by rfl) (fun K hK => ?_) AllReadyH.nil
      go_simp
      refine hK.out _ _ trivial (fun _ => ?_)
      clear hK K
      simp only [Act.put,xL4,xL5,xL6]
      refine xR [21] (h := ?_)
      refine AllReadyH.cons (by rfl) (fun K hK => ?_) AllReadyH.nil
      obtain ⟨p3,a3,n3,c3,bo3,m3,d3,rfl⟩ := hr.open
      obtain ⟨A2,K2⟩ := Ar.set ki hki (.bool p3) (.slice a3 n3 c3) (.slice bo3 m3 d3) (num_bool _) (num_slice _ _ _) (num_slice _ _ _)
      have x0 := Ar.1 ki hki 0 (by omega)
      have x1 := Ar.1 ki hki 1 (by omega)
      have x2 := Ar.1 ki hki 2 (by omega)
      have y0 := Ar.2.1 ki hki 0 (by omega)
      have y1 := Ar.2.1 ki hki 1 (by omega)
      have y2 := Ar.2.1 ki hki 2 (by omega)
      simp only [Nat.add_zero] at x0 y0
      have Aq_n := Aq.other (g' := gr) (k := ki * 3) hne (.bool p3) (.slice a3 n3 c3) (.slice bo3 m3 d3)
      have HQ_n := HQ.keep K2
      have HR_n := HR.keep K2
      have ht_n := ht.keep K2
      have hr_n := hr.keep K2
      have BB_n : Below w.heap.size w (((Wu84.setCell ⟨gr,ki * 3,none⟩ (.bool p3)).setCell ⟨gr,ki * 3 + 1,none⟩ (.slice a3 n3 c3)).setCell ⟨gr,ki * 3 + 2,none⟩ (.slice bo3 m3 d3)) := ((BB.setCell grB _).setCell grB _).setCell grB _
      go_simp
      clear x0 x1 x2 y0 y1 y2 K2 BB ht Ar hr Aq HQ HR
      generalize ((Wu84.setCell ⟨gr,ki * 3,none⟩ (.bool p3)).setCell ⟨gr,ki * 3 + 1,none⟩ (.slice a3 n3 c3)).setCell ⟨gr,ki * 3 + 2,none⟩ (.slice bo3 m3 d3) = W85 at *
      have BB := BB_n
      have ht := ht_n
      have hr := hr_n
      have Ar := A2
      have Aq := Aq_n
      have HQ := HQ_n
      have HR := HR_n
      clear BB_n ht_n hr_n A2 Aq_n HQ_n HR_n
      refine hK.out _ _ trivial (fun _ => ?_)
      clear hK K
      simp only [Act.put,xL4,xL5,xL6]
      refine wpAnyH_done (by kernel_rfl) ?_ _
      rw [← HPN.out] at hr
      replace HR := HR.upd hr HPO.out
      go_wp2
      go_roundw
      case rel => exact ⟨i + 1,_,by omega,by go_num,Ar,HR,Aq,HQ,ht,BB⟩
      case measure => simp [intOf]; omega
     ·obtain rfl : i = below := by omega
      have r7 : ¬ (i : Int) < (i : Int) := by omega
      have HST : Hid (partR qb k (QF k) Rk i = stepR qb i k Rk) := by show _ = _; rw [← HCQ.out,HKB.out] <;> rfl
      rw [HST.out] at HR
      have HI2 : Hid (∀ j,j < k → divQ qb i k (stepR qb i k Rk) j = QF j) := fun j hj => by
       have h1 : (if j = k then Rk (k + i) / qb i else divQ qb i k (stepR qb i k Rk) j) = QF j := HI.out j (by omega)
       rw [if_neg (by omega)] at h1
       exact h1
      have HS2 : Hid (allS la qb i S k (stepR qb i k Rk)) := HSA.out.2
      have HT2 : Hid (∀ j,k ≤ j → j < lq → qsz (QF j) ≤ 90000) := fun j h1 h2 => by
       by_cases e : j = k
       ·subst e; exact Nat.le_trans sC (by omega)
       ·exact HT.out j (by omega) h2
      have HD2 : Hid (divR qb i k (stepR qb i k Rk) = RF) := HD
      clear HI HS HT HD HST HP0
      go_wp2
      go_roundw
      case rel => exact ⟨k,stepR qb i k Rk,elq2,elr,by omega,by first | rfl | go_num,HD2,HI2,HS2,HT2,Aq,HQ,Ar,HR,ht,BB⟩
      case measure => simp [intOf] <;> omega

theorem sumq_add (f g : Nat → Rat) : ∀ n,sumq (fun i => f i + g i) n = sumq f n + sumq g n
 | 0 => by show (0 : Rat) = 0 + 0; grind
 | n + 1 => by
  show sumq (fun i => f i + g i) n + (f n + g n) = (sumq f n + f n) + (sumq g n + g n)
  rw [sumq_add f g n]; grind
theorem sumq_single (f : Nat → Rat) (k : Nat) : ∀ n,sumq (fun i => if i = k then f i else 0) n = if k < n then f k else 0
 | 0 => by rw [if_neg (by omega)]; rfl
 | n + 1 => by
  show sumq (fun i => if i = k then f i else 0) n + (if n = k then f n else 0) = _
  rw [sumq_single f k n]
  by_cases h : n = k
  ·subst h
   rw [if_neg (by omega),if_pos rfl,if_pos (by omega)]; grind
  ·rw [if_neg h]
   by_cases h2 : k < n
   ·rw [if_pos h2,if_pos (by omega)]; grind
   ·rw [if_neg h2,if_neg (by omega)]; grind
theorem conv_more (k : Nat) (Q : Nat → Rat) (c : Rat) (m : Nat) (b : Nat → Rat) (j : Nat) :
  conv (k + 1) (fun t => if t = k then c else Q t) m b j = conv k Q m b j + if k ≤ j then c * co m b (j - k) else 0 := by
 unfold conv
 have e : ∀ i,i < j + 1 → co (k + 1) (fun t => if t = k then c else Q t) i * co m b (j - i) = co k Q i * co m b (j - i) + (if i = k then c * co m b (j - i) else 0) := by
  intro i hi
  generalize co m b (j - i) = x
  by_cases h1 : i = k
  ·subst h1
   have a1 : co (i + 1) (fun t => if t = i then c else Q t) i = c := by unfold co; rw [if_pos (by omega)]; exact if_pos rfl
   have a2 : co i Q i = 0 := by unfold co; rw [if_neg (by omega)]
   rw [a1,a2,if_pos rfl]; grind
  ·have a1 : co (k + 1) (fun t => if t = k then c else Q t) i = co k Q i := by
    unfold co
    by_cases h2 : i < k
    ·rw [if_pos (by omega),if_pos h2]; exact if_neg h1
    ·rw [if_neg (by omega),if_neg h2]
   rw [a1,if_neg h1]; grind
 rw [sumq_congr _ _ _ e,sumq_add,sumq_single (fun i => c * co m b (j - i)) k (j + 1)]
 by_cases h : k ≤ j
 ·rw [if_pos (by omega),if_pos h]
 ·rw [if_neg (by omega),if_neg h]
theorem conv_none (Q : Nat → Rat) (m : Nat) (b : Nat → Rat) (j : Nat) : conv 0 Q m b j = 0 :=
 sumq_zero _ _ (fun i hi => by unfold co; rw [if_neg (by omega)]; grind)
/-- A coefficient beyond both is none. -/
theorem conv_far (n : Nat) (q : Nat → Rat) (m : Nat) (r : Nat → Rat) (j : Nat) (h : n + m ≤ j + 1) : conv n q m r j = 0 :=
 sumq_zero _ _ (fun i hi => by
  unfold co
  by_cases h1 : i < n
  ·rw [if_neg (show ¬ j - i < m by omega)]; grind
  ·rw [if_neg h1]; grind)
/-- What is divided is quotient times divisor, and the rest. -/
theorem div_all (b : Nat → Rat) (below : Nat) (hb : b below ≠ 0) : ∀ (k : Nat) (R : Nat → Rat) (j : Nat),j < k + below →
  R j = conv k (divQ b below k R) (below + 1) b j + if j < below then divR b below k R j else 0
 | 0,R,j,hj => by
  rw [conv_none,if_pos (by omega)]
  show R j = 0 + R j
  grind
 | k + 1,R,j,hj => by
  have e : conv (k + 1) (divQ b below (k + 1) R) (below + 1) b j = conv k (divQ b below k (stepR b below k R)) (below + 1) b j + if k ≤ j then R (k + below) / b below * co (below + 1) b (j - k) else 0 :=
   conv_more k (divQ b below k (stepR b below k R)) (R (k + below) / b below) (below + 1) b j
  have er : divR b below (k + 1) R = divR b below k (stepR b below k R) := rfl
  rw [e,er]
  by_cases h : j < k + below
  ·have ih := div_all b below hb k (stepR b below k R) j h
   have hs : stepR b below k R j = if k ≤ j ∧ j < k + below then R j - R (k + below) / b below * b (j - k) else R j := rfl
   by_cases h1 : k ≤ j
   ·rw [if_pos ⟨h1,h⟩] at hs
    rw [if_pos h1]
    have hc : co (below + 1) b (j - k) = b (j - k) := by unfold co; rw [if_pos (by omega)]
    rw [hc]
    rw [hs] at ih
    grind
   ·rw [if_neg (by omega)] at hs
    rw [if_neg h1]
    rw [hs] at ih
    grind
  ·obtain rfl : j = k + below := by omega
   rw [conv_far _ _ _ _ _ (by omega),if_pos (by omega),if_neg (by omega),Nat.add_sub_cancel_left]
   have hc : co (below + 1) b below = b below := by unfold co; rw [if_pos (by omega)]
   rw [hc,Rat.div_mul_cancel hb]
   grind

end Go.Proofs.YtieeneaebjihlaaGreatDoor
