/-
  Texts of mine, joined: what lies beneath the statement.
-/
import Derived.Test.YtgddiimnpliolaaGreatDoorJ28fca6d81b
import Derived.Test.YtgddiimnpliolaaGreatDoorJfe58308b9e
import Derived.Test.YtgddiimnpliolaaGreatDoorJf33a02ba81
namespace Go.Proofs.YtgddiimnpliolaaGreatDoor
open Go.RowKit
set_option linter.unusedVariables false
structure ElG (k : Nat) {α : Type} (A : World → (Nat → Value) → α → Prop) : Prop where
 keep : ∀ {w w' : World} {el : Nat → Value} {d : α},A w el d → KeepQ IsLimb w w' → A w' el d
 congr : ∀ {w : World} {el el' : Nat → Value} {d : α},A w el d → (∀ j,j < k → el j = el' j) → A w el' d
def GOwn (T : TypeId) (k : Nat) {α : Type} (A : World → (Nat → Value) → α → Prop) (B : Nat) (w : World) (v : Value) (l : List α) : Prop :=
 ∃ cs : List Value,w.ownsRow B T k v l.length cs ∧ (∀ g,v.ownBlock = some g → PureB IsLimb w g) ∧ ∀ i a,l[i]? = some a → A w (fun j => cs.getD (i * k + j) undef) a
def GRow (k : Nat) {α : Type} (A : World → (Nat → Value) → α → Prop) (w : World) (v : Value) (l : List α) : Prop := ∃ el,RowAt k w v l.length el ∧ ∀ i a,l[i]? = some a → A w (el i) a
section
variable {T : TypeId} {k : Nat} {α : Type} {A : World → (Nat → Value) → α → Prop} {B : Nat} {w w' : World} {v : Value} {l : List α}
theorem GRow.below (h : GRow k A w v l) (hA : ElG k A) (hb : Below w.heap.size w w') : GRow k A w' v l := by
 obtain ⟨el,h1,h2⟩ := h
 exact ⟨el,h1.below hb,fun i a hi => hA.keep (h2 i a hi) (KeepQ.below hb)⟩
theorem GRow.open (h : GRow k A w v l) : ∃ a c,v = .slice a l.length c ∧ l.length ≤ c ∧ c ≤ 9223372036854775807 := by
 obtain ⟨el,⟨ao,c,h1,h2,h3,_⟩,_⟩ := h
 exact ⟨ao,c,h1,h2,h3⟩
theorem GRow.at (h : GRow k A w v l) {i : Nat} {a : α} (hi : l[i]? = some a) : ∃ (b off c : Nat) (e : Nat → Value),v = .slice (some ⟨b,off,none⟩) l.length c ∧ l.length ≤ c ∧ (∀ j,j < k → w.cell? ⟨b,off + i * k + j,none⟩ = some (e j)) ∧ A w e a := by
 obtain ⟨el,⟨ao,c,h1,h2,h3,h4⟩,h5⟩ := h
 have hl : i < l.length := by have := List.getElem?_eq_some_iff.1 hi; exact this.1
 obtain ⟨b,off,rfl,hc⟩ := h4 (by omega)
 exact ⟨b,off,c,el i,h1,h2,hc i hl,h5 i a hi⟩
theorem GOwn.nil : GOwn T k A B w (.slice none 0 0) [] := ⟨[],World.ownsRow_nil _ _ _ _,fun g h => by simp [Value.ownBlock] at h,fun i a hi => by simp at hi⟩
theorem GOwn.le (h : GOwn T k A B w v l) {B' : Nat} (hb : B' ≤ B) : GOwn T k A B' w v l := by
 obtain ⟨cs,h1,h2,h3⟩ := h
 exact ⟨cs,owns_le h1 hb,h2,h3⟩
theorem GOwn.later (h : GOwn T k A B w v l) (hA : ElG k A) (hb : Below w.heap.size w w') : GOwn T k A B w' v l := by
 obtain ⟨cs,h1,h2,h3⟩ := h
 exact ⟨cs,owns_later h1 hb,fun g hg => (h2 g hg).below hb (World.ownsRow.lt h1 g hg).2,fun i a hi => hA.keep (h3 i a hi) (KeepQ.below hb)⟩
theorem GOwn.form (h : GOwn T k A B w v l) : ∃ a c,v = .slice a l.length c ∧ l.length ≤ c := by
 obtain ⟨cs,h1,_⟩ := h
 rcases h1.2 with ⟨rfl,e⟩ | ⟨g,c,_,rfl,_,_,h,_⟩
 ·exact ⟨none,0,by rw [e],by omega⟩
 ·exact ⟨_,c,rfl,h⟩
theorem GOwn.none (h : GOwn T k A B w v l) (h0 : l.length = 0) : (v = .slice none 0 0) ∨ ∃ g c,v = .slice (some ⟨g,0,Option.none⟩) 0 c := by
 obtain ⟨cs,h1,_⟩ := h
 rcases h1.2 with ⟨rfl,e⟩ | ⟨g,c,_,rfl,_⟩
 ·exact .inl rfl
 ·exact .inr ⟨g,c,by rw [h0]⟩
theorem GOwn.open (h : GOwn T k A B w v l) (h0 : 0 < l.length) : ∃ g c,v = .slice (some ⟨g,0,Option.none⟩) l.length c ∧ l.length ≤ c ∧ B ≤ g ∧ g < w.heap.size := by
 obtain ⟨cs,h1,_⟩ := h
 have h2 := h1
 rcases h1.2 with ⟨rfl,e⟩ | ⟨g,c,_,rfl,hB,hg,hc,_⟩
 ·omega
 ·exact ⟨g,c,rfl,hc,hB,(World.ownsRow.lt h2 g rfl).2⟩
theorem GOwn.row (h : GOwn T k A B w v l) (hA : ElG k A) : GRow k A w v l := by
 obtain ⟨cs,h1,_,h3⟩ := h
 refine ⟨fun i j => cs.getD (i * k + j) undef,?_,h3⟩
 have hl := h1.1
 rcases h1.2 with ⟨rfl,e⟩ | ⟨g,c,cur,rfl,hB,hg,hc,hm,rest⟩
 ·rw [e]; exact RowAt.nil _ _ _
 ·refine ⟨_,c,rfl,hc,by unfold maxLen at hm; omega,fun _ => ⟨g,0,rfl,fun i hi j hj => ?_⟩⟩
  have hlt : i * k + j < cs.length := by
   rw [hl]
   have := Nat.mul_le_mul_right k (show i + 1 ≤ l.length by omega)
   rw [Nat.add_mul] at this
   omega
  rw [Nat.zero_add]
  exact owns_cell h1 (by show cs[i * k + j]? = some (cs.getD (i * k + j) undef); rw [List.getD_eq_getElem?_getD,List.getElem?_eq_getElem hlt]; rfl)
theorem GOwn.kept {row : Option Nat} (h : GOwn T k A B w v l) (hA : ElG k A) (hg : w.grownBy w' row) (hk : KeepQ IsLimb w w') (hne : v.ownBlock = Option.none ∨ v.ownBlock ≠ row) : GOwn T k A B w' v l := by
 obtain ⟨cs,h1,h2,h3⟩ := h
 refine ⟨cs,h1.kept hg hne,fun g hgg o u hu => h2 g hgg o u ?_,fun i a hi => hA.keep (h3 i a hi) hk⟩
 have hlt := (World.ownsRow.lt h1 g hgg).2
 have hne2 : some g ≠ row := fun e => by
  rcases hne with a | a
  ·rw [hgg] at a; cases a
  ·exact a (hgg.trans e)
 rw [← World.cell?_of_block (w := w) (hg.block g hlt hne2)]; exact hu
theorem GOwn.more {v' : Value} {m : Nat} {l' : List α} {cs news : List Value} (hA : ElG k A) (hm : l'.length = m) (h1 : w'.ownsRow B T k v' (l.length + m) (cs ++ news)) (hl : cs.length = l.length * k) (hp : ∀ g,v'.ownBlock = some g → PureB IsLimb w' g) (hk : KeepQ IsLimb w w')
  (h3 : ∀ i a,l[i]? = some a → A w (fun j => cs.getD (i * k + j) undef) a) (hn : ∀ i a,l'[i]? = some a → A w (fun j => news.getD (i * k + j) undef) a) : GOwn T k A B w' v' (l ++ l') := by
 refine ⟨cs ++ news,by rw [List.length_append,hm]; exact h1,hp,fun i a hi => ?_⟩
 by_cases e : i < l.length
 ·rw [List.getElem?_append_left e] at hi
  refine hA.congr (hA.keep (h3 i a hi) hk) (fun j hj => ?_)
  simp only [List.getD_eq_getElem?_getD]
  have := Nat.mul_le_mul_right k (show i + 1 ≤ l.length by omega)
  rw [Nat.add_mul] at this
  rw [List.getElem?_append_left (by omega)]
 ·rw [List.getElem?_append_right (by omega)] at hi
  refine hA.congr (hA.keep (hn _ a hi) hk) (fun j hj => ?_)
  simp only [List.getD_eq_getElem?_getD]
  have h5 : i * k = (i - l.length) * k + l.length * k := by rw [← Nat.add_mul]; congr 1; omega
  rw [List.getElem?_append_right (by omega),hl,h5]
  congr 2
  omega
end
theorem GOwn.parts {T : TypeId} {k : Nat} {α : Type} {A : World → (Nat → Value) → α → Prop} {B : Nat} {w : World} {v : Value} {l : List α} (h : GOwn T k A B w v l) : ∃ cs : List Value,w.ownsRow B T k v l.length cs ∧ cs.length = l.length * k ∧ (∀ g,v.ownBlock = some g → PureB IsLimb w g) ∧ ∀ i a,l[i]? = some a → A w (fun j => cs.getD (i * k + j) undef) a := by
 obtain ⟨cs,h1,h2,h3⟩ := h
 exact ⟨cs,h1,h1.1,h2,h3⟩
end Go.Proofs.YtgddiimnpliolaaGreatDoor

namespace Go.Proofs.YtgddiimnpliolaaGreatDoor
set_option linter.unusedVariables false
set_option linter.unusedSimpArgs false
structure Pt where
 feat : Nat
 sh : Rat
 ok : Bool
def Pt.put (a b : Pt) : Pt := ⟨a.feat,a.sh * b.sh,a.ok && b.ok⟩
def insP : List Pt → Pt → List Pt
 | [],p => [p]
 | a :: l,p => if a.feat = p.feat then a.put p :: l else if p.feat < a.feat then p :: a :: l else a :: insP l p
def stepP (t : Nat → Nd) (r : Nat → Cl) (p x : Nat) : Pt := ⟨(t p).feat.toNat,(t x).cov / (t p).cov,decide (nxt (t p) r = x)⟩
def plN (t : Nat → Nd) (n : Nat) (r : Nat → Cl) : Nat → Nat → List Pt
 | 0,_ => []
 | k + 1,x => if x = 0 then [] else match upOf t x n with
  | none => []
  | some p => insP (plN t n r k p) (stepP t r p x)
def pl (t : Nat → Nd) (n : Nat) (r : Nat → Cl) (x : Nat) : List Pt := plN t n r (n + 1) x
end Go.Proofs.YtgddiimnpliolaaGreatDoor

namespace Go.Proofs.YtgddiimnpliolaaGreatDoor
open Go.ChangeShapes Go.WideShapes Go.ChangeAt Go.RowKit
set_option linter.unusedVariables false
set_option linter.unusedSimpArgs false
structure PtZ where
 feat : Int
 sh : Rat
 ok : Bool
def PtRaw (w : World) (el : Nat → Value) (d : PtZ) (K : Nat) : Prop := el 0 = .int .i64 d.feat ∧ RawN w (el 1) (el 2) (el 3) d.sh K ∧ el 4 = .bool d.ok ∧ I64 d.feat
def PtAt (L : Nat) (w : World) (el : Nat → Value) (d : PtZ) : Prop := el 0 = .int .i64 d.feat ∧ AtN w (el 1) (el 2) (el 3) d.sh L ∧ el 4 = .bool d.ok ∧ I64 d.feat
theorem ptEl (L : Nat) : ElG 5 (PtAt L) where
 keep := fun ⟨a,⟨p,ao,m,c,bo,k,d,h1,h2,h3,h4⟩,b,i⟩ hk => ⟨a,⟨p,ao,m,c,bo,k,d,h1,h2,h3,h4.keepL hk⟩,b,i⟩
 congr := fun ⟨a,⟨p,ao,m,c,bo,k,d,h1,h2,h3,h4⟩,b,i⟩ he => ⟨(he 0 (by omega)).symm.trans a,⟨p,ao,m,c,bo,k,d,(he 1 (by omega)).symm.trans h1,(he 2 (by omega)).symm.trans h2,(he 3 (by omega)).symm.trans h3,h4⟩,(he 4 (by omega)).symm.trans b,i⟩
def PtR (w : World) (el : Nat → Value) (d : PtZ) : Prop := el 0 = .int .i64 d.feat ∧ (∃ p ao m c bo k e,el 1 = .bool p ∧ el 2 = .slice ao m c ∧ el 3 = .slice bo k e ∧ RepQ w (.agg #[.bool p,.slice ao m c,.slice bo k e]) d.sh) ∧ el 4 = .bool d.ok ∧ I64 d.feat
theorem ptrEl : ElG 5 PtR where
 keep := fun ⟨a,⟨p,ao,m,c,bo,k,d,h1,h2,h3,h4⟩,b,i⟩ hk => ⟨a,⟨p,ao,m,c,bo,k,d,h1,h2,h3,h4.keepL hk⟩,b,i⟩
 congr := fun ⟨a,⟨p,ao,m,c,bo,k,d,h1,h2,h3,h4⟩,b,i⟩ he => ⟨(he 0 (by omega)).symm.trans a,⟨p,ao,m,c,bo,k,d,(he 1 (by omega)).symm.trans h1,(he 2 (by omega)).symm.trans h2,(he 3 (by omega)).symm.trans h3,h4⟩,(he 4 (by omega)).symm.trans b,i⟩
theorem PtR.at {w : World} {el : Nat → Value} {d : PtZ} {L : Nat} (h : PtR w el d) (hL : qsz d.sh ≤ L) : PtAt L w el d :=
 let ⟨a,⟨p,ao,m,c,bo,k,e,h1,h2,h3,h4⟩,b,i⟩ := h
 ⟨a,⟨p,ao,m,c,bo,k,e,h1,h2,h3,h4.at L hL⟩,b,i⟩
def POw (L B : Nat) (w : World) (v : Value) (l : List PtZ) : Prop := GOwn 61 5 (PtAt L) B w v l
def PRw (L : Nat) (w : World) (v : Value) (l : List PtZ) : Prop := GRow 5 (PtAt L) w v l
def PRr (w : World) (v : Value) (l : List PtZ) : Prop := GRow 5 PtR w v l
theorem POw.below {L B : Nat} {w w' : World} {v : Value} {l : List PtZ} (h : POw L B w v l) (hb : Below w.heap.size w w') : POw L B w' v l := GOwn.later h (ptEl L) hb
theorem PRw.below {L : Nat} {w w' : World} {v : Value} {l : List PtZ} (h : PRw L w v l) (hb : Below w.heap.size w w') : PRw L w' v l := GRow.below h (ptEl L) hb
theorem PRr.below {w w' : World} {v : Value} {l : List PtZ} (h : PRr w v l) (hb : Below w.heap.size w w') : PRr w' v l := GRow.below h ptrEl hb
theorem POw.row {L B : Nat} {w : World} {v : Value} {l : List PtZ} (h : POw L B w v l) : PRw L w v l := GOwn.row h (ptEl L)
theorem PRr.at {L : Nat} {w : World} {v : Value} {l : List PtZ} (h : PRr w v l) (hL : ∀ d ∈ l,qsz d.sh ≤ L) : PRw L w v l := by
 obtain ⟨el,h1,h2⟩ := h
 exact ⟨el,h1,fun i a hi => (h2 i a hi).at (hL a (List.mem_of_getElem? hi))⟩
theorem PRw.at {L : Nat} {w : World} {v : Value} {l : List PtZ} (h : PRw L w v l) {i : Nat} {d : PtZ} (hi : l[i]? = some d) : ∃ b off c p a1 n1 c1 b1 m1 d1,v = .slice (some ⟨b,off,none⟩) l.length c ∧ l.length ≤ c ∧ w.cell? ⟨b,off + i * 5,none⟩ = some (.int .i64 d.feat) ∧ w.cell? ⟨b,off + i * 5 + 1,none⟩ = some (.bool p) ∧ w.cell? ⟨b,off + i * 5 + 2,none⟩ = some (.slice a1 n1 c1) ∧ w.cell? ⟨b,off + i * 5 + 3,none⟩ = some (.slice b1 m1 d1) ∧ w.cell? ⟨b,off + i * 5 + 4,none⟩ = some (.bool d.ok) ∧ RatAt w (.agg #[.bool p,.slice a1 n1 c1,.slice b1 m1 d1]) d.sh L ∧ I64 d.feat := by
 obtain ⟨b,off,c,e,h1,h2,h3,a,⟨p,x,n,dd,y,m,ee,h4,h5,h6,h7⟩,g,i64⟩ := GRow.at h hi
 have k0 := h3 0 (by omega); have k1 := h3 1 (by omega); have k2 := h3 2 (by omega); have k3 := h3 3 (by omega); have k4 := h3 4 (by omega)
 rw [a] at k0; rw [h4] at k1; rw [h5] at k2; rw [h6] at k3; rw [g] at k4
 exact ⟨b,off,c,p,x,n,dd,y,m,ee,h1,h2,k0,k1,k2,k3,k4,h7,i64⟩
theorem PRr.cells {w : World} {v : Value} {l : List PtZ} (h : PRr w v l) {i : Nat} {d : PtZ} (hi : l[i]? = some d) : ∃ b off c p a1 n1 c1 b1 m1 d1,v = .slice (some ⟨b,off,none⟩) l.length c ∧ l.length ≤ c ∧ w.cell? ⟨b,off + i * 5,none⟩ = some (.int .i64 d.feat) ∧ w.cell? ⟨b,off + i * 5 + 1,none⟩ = some (.bool p) ∧ w.cell? ⟨b,off + i * 5 + 2,none⟩ = some (.slice a1 n1 c1) ∧ w.cell? ⟨b,off + i * 5 + 3,none⟩ = some (.slice b1 m1 d1) ∧ w.cell? ⟨b,off + i * 5 + 4,none⟩ = some (.bool d.ok) ∧ RepQ w (.agg #[.bool p,.slice a1 n1 c1,.slice b1 m1 d1]) d.sh ∧ I64 d.feat := by
 obtain ⟨b,off,c,e,h1,h2,h3,a,⟨p,x,n,dd,y,m,ee,h4,h5,h6,h7⟩,g,i64⟩ := GRow.at h hi
 have k0 := h3 0 (by omega); have k1 := h3 1 (by omega); have k2 := h3 2 (by omega); have k3 := h3 3 (by omega); have k4 := h3 4 (by omega)
 rw [a] at k0; rw [h4] at k1; rw [h5] at k2; rw [h6] at k3; rw [g] at k4
 exact ⟨b,off,c,p,x,n,dd,y,m,ee,h1,h2,k0,k1,k2,k3,k4,h7,i64⟩
theorem info_part : (Tryz.prog.info? 61).map (fun i => (i.zero,i.size,i.bytes)) = some (some (.agg #[.int .i64 0,.bool false,.slice none 0 0,.slice none 0 0,.bool false]),5,72) := by kernel_rfl
structure V5 (w : World) (R : Nat) (x0 x1 x2 x3 x4 : Value) : Prop where
 c0 : w.cell? ⟨R,0,none⟩ = some x0
 c1 : w.cell? ⟨R,1,none⟩ = some x1
 c2 : w.cell? ⟨R,2,none⟩ = some x2
 c3 : w.cell? ⟨R,3,none⟩ = some x3
 c4 : w.cell? ⟨R,4,none⟩ = some x4
 soft : ∀ j,w.frozen? ⟨R,j,none⟩ = false
theorem V5.lt {w : World} {R : Nat} {x0 x1 x2 x3 x4 : Value} (h : V5 w R x0 x1 x2 x3 x4) : R < w.heap.size := World.block_lt_of_cell? _ _ h.c0
theorem V5.block {w w' : World} {R : Nat} {x0 x1 x2 x3 x4 : Value} (h : V5 w R x0 x1 x2 x3 x4) (hb : w'.heap[R]? = w.heap[R]?) : V5 w' R x0 x1 x2 x3 x4 :=
 ⟨(World.cell?_of_block hb).trans h.c0,(World.cell?_of_block hb).trans h.c1,(World.cell?_of_block hb).trans h.c2,(World.cell?_of_block hb).trans h.c3,(World.cell?_of_block hb).trans h.c4,fun j => (World.frozen?_of_block (a := ⟨R,j,none⟩) hb).trans (h.soft j)⟩
theorem V5.below {w w' : World} {R : Nat} {x0 x1 x2 x3 x4 : Value} (h : V5 w R x0 x1 x2 x3 x4) (hb : Below w.heap.size w w') : V5 w' R x0 x1 x2 x3 x4 := h.block (hb.block R h.lt)
theorem V5.lay (w : World) (t : TypeId) (x0 x1 x2 x3 x4 : Value) : ∃ W,W = w.alloc (.cells #[x0,x1,x2,x3,x4] t) ∧ W.heap.size = w.heap.size + 1 ∧ Below w.heap.size w W ∧ V5 W w.heap.size x0 x1 x2 x3 x4 := by
 have hb := heap_alloc_new w (.cells #[x0,x1,x2,x3,x4] t)
 refine ⟨_,rfl,by simp,(Below.refl _ _).alloc (Nat.le_refl _) _,?_,?_,?_,?_,?_,?_⟩
 ·rw [cell_of_row _ _ _ _ _ _ hb]; rfl
 ·rw [cell_of_row _ _ _ _ _ _ hb]; rfl
 ·rw [cell_of_row _ _ _ _ _ _ hb]; rfl
 ·rw [cell_of_row _ _ _ _ _ _ hb]; rfl
 ·rw [cell_of_row _ _ _ _ _ _ hb]; rfl
 ·intro j
  simp only [World.frozen?]
  rw [hb]
  simp
abbrev put13 (w : World) (R : Nat) (u1 u2 u3 : Value) : World := ((w.setCell ⟨R,1,none⟩ u1).setCell ⟨R,2,none⟩ u2).setCell ⟨R,3,none⟩ u3
theorem V5.put3 {w : World} {R : Nat} {x0 x1 x2 x3 x4 : Value} (h : V5 w R x0 x1 x2 x3 x4) (u1 u2 u3 : Value) : V5 (put13 w R u1 u2 u3) R x0 u1 u2 u3 x4 := by
 have s1 : (w.setCell ⟨R,1,none⟩ u1).cell? ⟨R,1,none⟩ = some u1 := World.cell?_setCell_same _ _ _ h.c1
 have s2 : ((w.setCell ⟨R,1,none⟩ u1).setCell ⟨R,2,none⟩ u2).cell? ⟨R,2,none⟩ = some u2 := World.cell?_setCell_same _ _ _ (cell_set_by (j := 1) h.c2 (by omega))
 refine ⟨cell_set_by (cell_set_by (cell_set_by h.c0 (by omega)) (by omega)) (by omega),cell_set_by (cell_set_by s1 (by omega)) (by omega),cell_set_by s2 (by omega),World.cell?_setCell_same _ _ _ (cell_set_by (cell_set_by h.c3 (by omega)) (by omega)),cell_set_by (cell_set_by (cell_set_by h.c4 (by omega)) (by omega)) (by omega),fun j => ?_⟩
 simp [h.soft j]
theorem V5.putK {w : World} {R : Nat} {x0 x4 : Value} {p : Bool} {a b : Option Addr} {n c m d : Nat} (h : V5 w R x0 (.bool p) (.slice a n c) (.slice b m d) x4) (u1 u2 u3 : Value) : KeepQ IsLimb w (put13 w R u1 u2 u3) :=
 ((keepL_set h.c1 (limb_bool _) u1).trans (keepL_set (cell_set_by (j := 1) h.c2 (by omega)) (limb_slice _ _ _) u2)).trans (keepL_set (cell_set_by (j := 2) (cell_set_by (j := 1) h.c3 (by omega)) (by omega)) (limb_slice _ _ _) u3)
theorem grown_put13 (w : World) (R : Nat) (x y z : Value) : w.grownBy (put13 w R x y z) (some R) :=
 ⟨rfl,rfl,rfl,by simp,fun k _ hk => by rw [Below.heap_setCell _ _ _ _ (fun e => hk (by rw [e])),Below.heap_setCell _ _ _ _ (fun e => hk (by rw [e])),Below.heap_setCell _ _ _ _ (fun e => hk (by rw [e]))]⟩
theorem below_put13 {B R : Nat} {w w' : World} (h : Below B w w') (hR : B ≤ R) (x y z : Value) : Below B w (put13 w' R x y z) := ((h.setCell hR _).setCell hR _).setCell hR _
def RtAt (L : Nat) (w : World) (el : Nat → Value) (q : Rat) : Prop := AtN w (el 0) (el 1) (el 2) q L
theorem rtEl (L : Nat) : ElG 3 (RtAt L) where
 keep := fun ⟨p,ao,m,c,bo,k,d,h1,h2,h3,h4⟩ hk => ⟨p,ao,m,c,bo,k,d,h1,h2,h3,h4.keepL hk⟩
 congr := fun ⟨p,ao,m,c,bo,k,d,h1,h2,h3,h4⟩ he => ⟨p,ao,m,c,bo,k,d,(he 0 (by omega)).symm.trans h1,(he 1 (by omega)).symm.trans h2,(he 2 (by omega)).symm.trans h3,h4⟩
def RtOw (L B : Nat) (w : World) (v : Value) (l : List Rat) : Prop := GOwn 40 3 (RtAt L) B w v l
theorem RtOw.below {L B : Nat} {w w' : World} {v : Value} {l : List Rat} (h : RtOw L B w v l) (hb : Below w.heap.size w w') : RtOw L B w' v l := GOwn.later h (rtEl L) hb
theorem RtOw.qrow {L B : Nat} {w : World} {v : Value} {l : List Rat} (h : RtOw L B w v l) : QRow w v l.length (fun i => l.getD i 0) L := by
 obtain ⟨el,h1,h2⟩ := GOwn.row h (rtEl L)
 refine ⟨el,h1,fun i hi => ?_⟩
 obtain ⟨p,ao,m,c,bo,k,d,e1,e2,e3,e4⟩ := h2 i _ (List.getElem?_eq_getElem hi)
 rw [e1,e2,e3]
 show RatAt w _ (l.getD i 0) L
 rw [List.getD_eq_getElem?_getD,List.getElem?_eq_getElem hi]
 exact e4
theorem rt_one {L : Nat} {w : World} {p : Bool} {a b : Option Addr} {n c m d : Nat} {x : Rat} (h : RatAt w (.agg #[.bool p,.slice a n c,.slice b m d]) x L) : ∀ (i : Nat) (y : Rat),[x][i]? = some y → RtAt L w (fun j => [Value.bool p,.slice a n c,.slice b m d].getD (i * 3 + j) undef) y := by
 intro i y hy
 match i,hy with
 | 0,hy =>
  cases hy
  exact ⟨p,a,n,c,b,m,d,rfl,rfl,rfl,h⟩
theorem pt_one {L : Nat} {w : World} {p : Bool} {a b : Option Addr} {n c m d : Nat} {x : PtZ} (h : RatAt w (.agg #[.bool p,.slice a n c,.slice b m d]) x.sh L) (hi : I64 x.feat) : ∀ (i : Nat) (y : PtZ),[x][i]? = some y → PtAt L w (fun j => [Value.int .i64 x.feat,.bool p,.slice a n c,.slice b m d,.bool x.ok].getD (i * 5 + j) undef) y := by
 intro i y hy
 match i,hy with
 | 0,hy =>
  cases hy
  exact ⟨rfl,⟨p,a,n,c,b,m,d,rfl,rfl,rfl,h⟩,rfl,hi⟩
def inZ (s : Nat) (f : Int) : Bool := decide (0 ≤ f) && decide (f < 64) && inS s f.toNat
def gZ (s : Nat) (p : PtZ) : Rat := if inZ s p.feat = true then (if p.ok = true then 1 else 0) else p.sh
def rchZ (s : Nat) : List PtZ → Rat
 | [] => 1
 | p :: l => gZ s p * rchZ s l
def shs (s : Nat) : List PtZ → List Rat
 | [] => []
 | p :: l => if inZ s p.feat = true then shs s l else p.sh :: shs s l
def prodL : List Rat → Rat
 | [] => 1
 | x :: l => x * prodL l
theorem prodL_app : ∀ l l',prodL (l ++ l') = prodL l * prodL l'
 | [],l' => by show prodL l' = 1 * prodL l'; rw [Rat.one_mul]
 | x :: l,l' => by show x * prodL (l ++ l') = x * prodL l * prodL l'; rw [prodL_app l l',Rat.mul_assoc]
theorem shs_app (s : Nat) : ∀ l l',shs s (l ++ l') = shs s l ++ shs s l'
 | [],l' => rfl
 | p :: l,l' => by
  show (if inZ s p.feat = true then shs s (l ++ l') else p.sh :: shs s (l ++ l')) = (if inZ s p.feat = true then shs s l else p.sh :: shs s l) ++ shs s l'
  rw [shs_app s l l']
  by_cases e : inZ s p.feat = true
  ·rw [if_pos e,if_pos e]
  ·rw [if_neg e,if_neg e]; rfl
theorem shs_len (s : Nat) : ∀ l,(shs s l).length ≤ l.length
 | [] => Nat.le_refl _
 | p :: l => by
  have := shs_len s l
  show (if inZ s p.feat = true then shs s l else p.sh :: shs s l).length ≤ l.length + 1
  by_cases e : inZ s p.feat = true
  ·rw [if_pos e]; omega
  ·rw [if_neg e]; simp; omega
theorem shs_mem (s : Nat) {x : Rat} : ∀ l,x ∈ shs s l → ∃ p ∈ l,p.sh = x
 | [],h => by cases h
 | p :: l,h => by
  have h : x ∈ (if inZ s p.feat = true then shs s l else p.sh :: shs s l) := h
  by_cases e : inZ s p.feat = true
  ·rw [if_pos e] at h
   obtain ⟨q,h1,h2⟩ := shs_mem s l h
   exact ⟨q,List.mem_cons_of_mem _ h1,h2⟩
  ·rw [if_neg e] at h
   rcases List.mem_cons.1 h with h | h
   ·exact ⟨p,by simp,h.symm⟩
   ·obtain ⟨q,h1,h2⟩ := shs_mem s l h
    exact ⟨q,List.mem_cons_of_mem _ h1,h2⟩
theorem rchZ_stop (s : Nat) {p : PtZ} : ∀ {l : List PtZ},p ∈ l → inZ s p.feat = true → p.ok = false → rchZ s l = 0
 | q :: l,h,h1,h2 => by
  show gZ s q * rchZ s l = 0
  rcases List.mem_cons.1 h with h | h
  ·rw [← h]
   unfold gZ
   rw [if_pos h1,if_neg (by rw [h2]; simp),Rat.zero_mul]
  ·rw [rchZ_stop s h h1 h2,Rat.mul_zero]
theorem rchZ_go (s : Nat) : ∀ {l : List PtZ},(∀ p ∈ l,inZ s p.feat = true → p.ok = true) → rchZ s l = prodL (shs s l)
 | [],_ => rfl
 | p :: l,h => by
  show gZ s p * rchZ s l = prodL (if inZ s p.feat = true then shs s l else p.sh :: shs s l)
  rw [rchZ_go s (fun q hq => h q (List.mem_cons_of_mem _ hq))]
  unfold gZ
  by_cases e : inZ s p.feat = true
  ·rw [if_pos e,if_pos e,if_pos (h p (by simp) e),Rat.one_mul]
  ·rw [if_neg e,if_neg e]; rfl
def Pt.z (p : Pt) : PtZ := ⟨(p.feat : Int),p.sh,p.ok⟩
def PRaw (w : World) (v : Value) (n : Nat) (t : Nat → PtZ) (K : Nat) : Prop := ∃ el,RowAt 5 w v n el ∧ ∀ i,i < n → PtRaw w (el i) (t i) K
theorem PRaw.below {w w' : World} {v : Value} {n : Nat} {t : Nat → PtZ} {K : Nat} (h : PRaw w v n t K) (hb : Below w.heap.size w w') : PRaw w' v n t K := by
 obtain ⟨el,h1,h2⟩ := h
 exact ⟨el,h1.below hb,fun i hi => ⟨(h2 i hi).1,(h2 i hi).2.1.below hb,(h2 i hi).2.2⟩⟩
theorem PRaw.open {w : World} {v : Value} {n : Nat} {t : Nat → PtZ} {K : Nat} (h : PRaw w v n t K) : ∃ a c,v = .slice a n c ∧ n ≤ c ∧ c ≤ 9223372036854775807 := by
 obtain ⟨el,⟨a,c,h1,h2,h3,_⟩,_⟩ := h
 exact ⟨a,c,h1,h2,h3⟩
theorem PRaw.at {w : World} {v : Value} {n : Nat} {t : Nat → PtZ} {K : Nat} (h : PRaw w v n t K) {i : Nat} (hi : i < n) :
  ∃ b off c p1 a1 n1 c1 b1 m1 d1 f1 g1,v = .slice (some ⟨b,off,none⟩) n c ∧ n ≤ c ∧
   w.cell? ⟨b,off + i * 5,none⟩ = some (.int .i64 (t i).feat) ∧ w.cell? ⟨b,off + i * 5 + 1,none⟩ = some (.bool p1) ∧ w.cell? ⟨b,off + i * 5 + 2,none⟩ = some (.slice a1 n1 c1) ∧ w.cell? ⟨b,off + i * 5 + 3,none⟩ = some (.slice b1 m1 d1) ∧ w.cell? ⟨b,off + i * 5 + 4,none⟩ = some (.bool (t i).ok) ∧
   Raw w (.slice a1 n1 c1) n1 f1 ∧ Raw w (.slice b1 m1 d1) m1 g1 ∧ (t i).sh = mkRat (zof p1 (num f1 (min n1 K))) (num g1 (min m1 K)) ∧ I64 (t i).feat := by
 obtain ⟨el,⟨a,c,h1,h2,h3,h4⟩,h5⟩ := h
 obtain ⟨b,off,e,h6⟩ := h4 (by omega)
 obtain ⟨a0,⟨p,x,n1,dd,y,m,ee,f,g,q1,q2,q3,q4,q5,q6⟩,gg,i64⟩ := h5 i hi
 have k0 := h6 i hi 0 (by omega); have k1 := h6 i hi 1 (by omega); have k2 := h6 i hi 2 (by omega); have k3 := h6 i hi 3 (by omega); have k4 := h6 i hi 4 (by omega)
 rw [a0] at k0; rw [q1] at k1; rw [q2] at k2; rw [q3] at k3; rw [gg] at k4
 exact ⟨b,off,c,p,x,n1,dd,y,m,ee,f,g,by rw [h1,e],h2,k0,k1,k2,k3,k4,q4,q5,q6,i64⟩
theorem cells5 {l : List Value} (h : l.length = 5) : ∃ x0 x1 x2 x3 x4,l = [x0,x1,x2,x3,x4] := by
 match l,h with
 | [x0,x1,x2,x3,x4],_ => exact ⟨x0,x1,x2,x3,x4,rfl⟩
theorem cells_part : Tryz.prog.cellsOf 61 = 5 := by kernel_rfl
theorem cells_leg : Tryz.prog.cellsOf 55 = 5 := by kernel_rfl
theorem cells_parts : Tryz.prog.cellsOf 53 = 1 := by kernel_rfl
set_option maxRecDepth 100000 in
theorem trod_part {H : Type} {enc : TypeId × Value → H} {W : World} {base n : Nat} {x0 x1 x2 x3 x4 : Value} {y : DataW H × List MemPlace} (K : Nat) (h : DataW.trod enc Tryz.prog W base (fun _ => true) true n 61 [x0,x1,x2,x3,x4] = some y) :
  ∃ d : PtZ,PtRaw W (fun j => [x0,x1,x2,x3,x4].getD j undef) d K := by
 obtain ⟨xs,m,_,_,_,hxl,hf⟩ := DataW.trod_struct Tryz.underlying61 h
 have get : ∀ i,i < 3 → ∃ z,xs[i]? = some z := fun i hi => ⟨xs[i]'(by rw [hxl]; exact hi),List.getElem?_eq_getElem _⟩
 obtain ⟨z0,g0⟩ := get 0 (by omega)
 obtain ⟨z1,g1⟩ := get 1 (by omega)
 obtain ⟨z2,g2⟩ := get 2 (by omega)
 have h0 : DataW.trod enc Tryz.prog W base (fun _ => true) true m 3 [x0] = some z0 := by
  have h : DataW.trod enc Tryz.prog W base (fun _ => true) true m 3 (List.take (Tryz.prog.cellsOf 3) (List.drop 0 [x0,x1,x2,x3,x4])) = some z0 := (hf 0 _ rfl).trans g0
  rw [cells_int] at h
  exact h
 have h1 : DataW.trod enc Tryz.prog W base (fun _ => true) true m 40 [x1,x2,x3] = some z1 := by
  have h : DataW.trod enc Tryz.prog W base (fun _ => true) true m 40 (List.take (Tryz.prog.cellsOf 40) (List.drop 1 [x0,x1,x2,x3,x4])) = some z1 := (hf 1 _ rfl).trans g1
  rw [cells_wrat] at h
  exact h
 have h2 : DataW.trod enc Tryz.prog W base (fun _ => true) true m 4 [x4] = some z2 := by
  have h : DataW.trod enc Tryz.prog W base (fun _ => true) true m 4 (List.take (Tryz.prog.cellsOf 4) (List.drop 4 [x0,x1,x2,x3,x4])) = some z2 := (hf 2 _ rfl).trans g2
  rw [cells_bool] at h
  exact h
 obtain ⟨ft,e0,_,w0⟩ := DataW.trod_int Tryz.underlying3 h0
 obtain ⟨q,r⟩ := trod_rat3 K h1
 obtain ⟨b,e2,_⟩ := DataW.trod_bool Tryz.underlying4 h2
 simp only [List.cons.injEq,and_true] at e0 e2
 exact ⟨⟨ft,q,b⟩,e0,r,e2,i64_wf w0⟩
set_option maxRecDepth 100000 in
theorem trod_parts {H : Type} {enc : TypeId × Value → H} {W : World} {base fuel : Nat} {c : Value} {y : DataW H × List MemPlace} (K : Nat) (hf : DataW.trod enc Tryz.prog W base (fun _ => true) true fuel 53 [c] = some y) : ∃ n t,PRaw W c n t K := by
 rcases Go.Deep.open_slice Tryz.underlying53 hf with ⟨hcs,_⟩ | ⟨x,l,c',m,n,D,Pl,hcs,_,hl,hm,hmm,_,hall⟩
 ·simp only [List.cons.injEq,and_true] at hcs
  subst hcs
  exact ⟨0,fun _ => ⟨0,0,false⟩,fun _ _ => .bool false,RowAt.nil _ _ _,fun i hi => by omega⟩
 ·simp only [List.cons.injEq,and_true] at hcs
  subst hcs
  rw [if_pos rfl] at hmm
  subst hmm
  rw [cells_part] at hall
  have each : ∀ i,∃ y : PtZ × (Nat → Value),i < l → (∀ j,j < 5 → W.cell? (x.add (i * 5 + j)) = some (y.2 j)) ∧ PtRaw W y.2 y.1 K := by
   intro i
   by_cases hi : i < l
   ·obtain ⟨cs,h1,h2⟩ := hall i (by omega)
    obtain ⟨_,hlen,hcell⟩ := World.cells?_some h1
    obtain ⟨x0,x1,x2,x3,x4,rfl⟩ := cells5 hlen
    obtain ⟨d,hd⟩ := trod_part K h2
    refine ⟨(d,_),fun _ => ⟨fun j hj => ?_,hd⟩⟩
    have k := hcell j (by omega)
    rw [Go.Deep.add_add] at k
    rw [k]
    rcases (by omega : j = 0 ∨ j = 1 ∨ j = 2 ∨ j = 3 ∨ j = 4) with rfl | rfl | rfl | rfl | rfl <;> rfl
   ·exact ⟨(⟨0,0,false⟩,fun _ => .bool false),fun h => absurd h hi⟩
  obtain ⟨Y,hY⟩ := Classical.axiomOfChoice each
  refine ⟨l,fun i => (Y i).1,fun i => (Y i).2,⟨_,_,rfl,hl,by unfold maxLen at hm; omega,fun h0 => ?_⟩,fun i hi => (hY i hi).2⟩
  obtain ⟨b,off,spot⟩ := x
  have hc := (hY 0 (by omega)).1 0 (by omega)
  have hspot : spot = none := by simpa [Addr.add] using World.cell?_spot hc
  subst hspot
  refine ⟨b,off,rfl,fun i hi j hj => ?_⟩
  have := (hY i hi).1 j hj
  rw [add_off] at this
  rw [Nat.add_assoc]
  exact this
def LegV (w : World) (v : Value) (n : Nat) (t : Nat → PtZ) (K : Nat) : Prop := ∃ (nd : Int) (p : Bool) (a : Option Addr) (m c : Nat) (b : Option Addr) (k d : Nat) (vp : Value),v = .agg #[.int .i64 nd,.bool p,.slice a m c,.slice b k d,vp] ∧ I64 nd ∧ PRaw w vp n t K
set_option maxRecDepth 100000 in
theorem open_leg {H : Type} {enc : TypeId × Value → H} {W : World} {base b0 : Nat} {r : Reach} {v : Value} {d : DataW H} {ps : List MemPlace} (K : Nat)
  (hval : Value.okWide Tryz.prog W r b0 55 v) (h : DataW.Trod enc Tryz.prog W base (fun _ => true) true 55 v d ps) : ∃ n t,LegV W v n t K := by
 obtain ⟨cs,rfl,hsz⟩ := okWide_struct Tryz.underlying55 hval
 rw [cells_leg] at hsz
 obtain ⟨x0,x1,x2,x3,x4,rfl⟩ : ∃ a b c d e,cs = #[a,b,c,d,e] := by
  obtain ⟨l⟩ := cs
  obtain ⟨a,b,c,d,f,e⟩ := cells5 (l := l) hsz
  exact ⟨a,b,c,d,f,by rw [e]⟩
 obtain ⟨fuel,hf⟩ := h
 obtain ⟨xs,m,_,_,_,hxl,hf⟩ := DataW.trod_struct Tryz.underlying55 (show DataW.trod enc Tryz.prog W base (fun _ => true) true fuel 55 [x0,x1,x2,x3,x4] = some _ from hf)
 have get : ∀ i,i < 3 → ∃ z,xs[i]? = some z := fun i hi => ⟨xs[i]'(by rw [hxl]; exact hi),List.getElem?_eq_getElem _⟩
 obtain ⟨z0,g0⟩ := get 0 (by omega)
 obtain ⟨z1,g1⟩ := get 1 (by omega)
 obtain ⟨z2,g2⟩ := get 2 (by omega)
 have h0 : DataW.trod enc Tryz.prog W base (fun _ => true) true m 3 [x0] = some z0 := by
  have h : DataW.trod enc Tryz.prog W base (fun _ => true) true m 3 (List.take (Tryz.prog.cellsOf 3) (List.drop 0 [x0,x1,x2,x3,x4])) = some z0 := (hf 0 _ rfl).trans g0
  rw [cells_int] at h
  exact h
 have h1 : DataW.trod enc Tryz.prog W base (fun _ => true) true m 40 [x1,x2,x3] = some z1 := by
  have h : DataW.trod enc Tryz.prog W base (fun _ => true) true m 40 (List.take (Tryz.prog.cellsOf 40) (List.drop 1 [x0,x1,x2,x3,x4])) = some z1 := (hf 1 _ rfl).trans g1
  rw [cells_wrat] at h
  exact h
 have h2 : DataW.trod enc Tryz.prog W base (fun _ => true) true m 53 [x4] = some z2 := by
  have h : DataW.trod enc Tryz.prog W base (fun _ => true) true m 53 (List.take (Tryz.prog.cellsOf 53) (List.drop 4 [x0,x1,x2,x3,x4])) = some z2 := (hf 2 _ rfl).trans g2
  rw [cells_parts] at h
  exact h
 obtain ⟨nd,e0,_,w0⟩ := DataW.trod_int Tryz.underlying3 h0
 obtain ⟨q,p,ao,n1,c1,bo,m1,d1,f,g,r1,r2,r3,_⟩ := trod_rat3 K h1
 obtain ⟨n,t,ht⟩ := trod_parts K h2
 simp only [List.cons.injEq,and_true] at e0
 exact ⟨n,t,nd,p,ao,n1,c1,bo,m1,d1,x4,by rw [e0,r1,r2,r3],i64_wf w0,ht⟩
end Go.Proofs.YtgddiimnpliolaaGreatDoor
