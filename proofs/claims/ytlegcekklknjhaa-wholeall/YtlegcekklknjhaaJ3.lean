/-
  Texts of mine, joined: what lies beneath the statement.
-/
import Derived.Test.YtlegcekklknjhaaJ2
import Derived.Deep.Cut
import Derived.Test.YtlegcekklknjhaaJ1
import Derived.Laws.AppendOwn
import Derived.Laws.CopyOwn
import Derived.Deep.RegionWith
import Derived.Deep.SlicePairs
/-
  Limbs as they come in, variables that are set, and what two numbers are to the document, from world to world.
-/
namespace Go.Proofs.Ytlegcekklknjhaa
open Go.RowKit

theorem Raw.below {w w' : World} {v : Value} {n : Nat} {f : Nat → Int} (h : Raw w v n f) (hb : Below w.heap.size w w') : Raw w' v n f := by
  obtain ⟨ao, c, h1, h2, h3, h4, h5, h6⟩ := h
  exact ⟨ao, c, h1, h2, h3, h4, h5, fun hn => let ⟨b, off, e, hc⟩ := h6 hn; ⟨b, off, e, hc.below hb (hc.lt hn)⟩⟩
theorem Raw.store2 {w : World} {v : Value} {n : Nat} {f : Nat → Int} (h : Raw w v n f) {R m c : Nat} {p : Bool} {ao : Option Addr} (q1 : w.cell? ⟨R, 0, none⟩ = some (.bool p)) (q2 : w.cell? ⟨R, 1, none⟩ = some (.slice ao m c)) (x y : Value) :
    Raw ((w.setCell ⟨R, 0, none⟩ x).setCell ⟨R, 1, none⟩ y) v n f := by
  obtain ⟨bo, d, h1, h2, h3, h4, h5, h6⟩ := h
  refine ⟨bo, d, h1, h2, h3, h4, h5, fun hn => ?_⟩
  obtain ⟨b, off, e, hc⟩ := h6 hn
  refine ⟨b, off, e, fun i hi => ?_⟩
  have hi' := hc i hi
  rw [World.cell?_setCell_other _ _ _ _ (fun e' => by rw [← e', q2] at hi'; cases hi'), World.cell?_setCell_other _ _ _ _ (fun e' => by rw [← e', q1] at hi'; cases hi')]
  exact hi'

/-- A variable for a struct of two cells that may be written, set. -/
theorem put2_same {w : World} {R : Nat} {x y x' y' : Value} (h : w.cell? ⟨R, 0, none⟩ = some x ∧ w.cell? ⟨R, 1, none⟩ = some y ∧ w.frozen? ⟨R, 0, none⟩ = false ∧ w.frozen? ⟨R, 1, none⟩ = false) :
    ((w.setCell ⟨R, 0, none⟩ x').setCell ⟨R, 1, none⟩ y').cell? ⟨R, 0, none⟩ = some x' ∧ ((w.setCell ⟨R, 0, none⟩ x').setCell ⟨R, 1, none⟩ y').cell? ⟨R, 1, none⟩ = some y' ∧
    ((w.setCell ⟨R, 0, none⟩ x').setCell ⟨R, 1, none⟩ y').frozen? ⟨R, 0, none⟩ = false ∧ ((w.setCell ⟨R, 0, none⟩ x').setCell ⟨R, 1, none⟩ y').frozen? ⟨R, 1, none⟩ = false := by
  obtain ⟨h1, h2, h3, h4⟩ := h
  refine ⟨?_, ?_, by simp [h3], by simp [h4]⟩
  · rw [World.cell?_setCell_other _ _ _ _ (fun e => by injection e; omega)]; exact World.cell?_setCell_same _ _ _ h1
  · exact World.cell?_setCell_same _ _ _ (show (w.setCell ⟨R, 0, none⟩ x').cell? ⟨R, 1, none⟩ = some y by rw [World.cell?_setCell_other _ _ _ _ (fun e => by injection e; omega)]; exact h2)
theorem put2_other {w : World} {R R' : Nat} {x y x' y' : Value} (hne : R' ≠ R) (h : w.cell? ⟨R', 0, none⟩ = some x ∧ w.cell? ⟨R', 1, none⟩ = some y ∧ w.frozen? ⟨R', 0, none⟩ = false ∧ w.frozen? ⟨R', 1, none⟩ = false) :
    ((w.setCell ⟨R, 0, none⟩ x').setCell ⟨R, 1, none⟩ y').cell? ⟨R', 0, none⟩ = some x ∧ ((w.setCell ⟨R, 0, none⟩ x').setCell ⟨R, 1, none⟩ y').cell? ⟨R', 1, none⟩ = some y ∧
    ((w.setCell ⟨R, 0, none⟩ x').setCell ⟨R, 1, none⟩ y').frozen? ⟨R', 0, none⟩ = false ∧ ((w.setCell ⟨R, 0, none⟩ x').setCell ⟨R, 1, none⟩ y').frozen? ⟨R', 1, none⟩ = false := by
  obtain ⟨h1, h2, h3, h4⟩ := h
  refine ⟨?_, ?_, by simp [h3], by simp [h4]⟩
  · rw [World.cell?_setCell_other _ _ _ _ (fun e => by injection e; omega), World.cell?_setCell_other _ _ _ _ (fun e => by injection e; omega)]; exact h1
  · rw [World.cell?_setCell_other _ _ _ _ (fun e => by injection e; omega), World.cell?_setCell_other _ _ _ _ (fun e => by injection e; omega)]; exact h2

/-- Two numbers that came in and what they are to the document, in a world behind wb. -/
structure Four (B : Nat) (wb : World) (va vb vx vy : Value) (x y : Int) (L : Nat) (w : World) : Prop where
  bel : Below B wb w
  a : IntAt w va x L
  b : IntAt w vb y L
  jx : RepJ w vx x
  jy : RepJ w vy y
theorem Four.next {B : Nat} {wb : World} {va vb vx vy : Value} {x y : Int} {L : Nat} {w w' : World} (h : Four B wb va vb vx vy x y L w) (hB : B ≤ w.heap.size) (hb : Below w.heap.size w w') : Four B wb va vb vx vy x y L w' :=
  ⟨h.bel.trans (hb.mono hB), h.a.below hb, h.b.below hb, h.jx.below hb, h.jy.below hb⟩
theorem keep44 {w w' : World} {B : Nat} {a b c d a' b' c' d' : Addr} {x y z t x' y' z' t' : Value} (hb : Below B w w') (hB : w.heap.size ≤ B) (h : w.cell? a = some x ∧ w.cell? b = some y ∧ w.cell? c = some z ∧ w.cell? d = some t ∧ w.cell? a' = some x' ∧ w.cell? b' = some y' ∧ w.cell? c' = some z' ∧ w.cell? d' = some t') :
    w'.cell? a = some x ∧ w'.cell? b = some y ∧ w'.cell? c = some z ∧ w'.cell? d = some t ∧ w'.cell? a' = some x' ∧ w'.cell? b' = some y' ∧ w'.cell? c' = some z' ∧ w'.cell? d' = some t' :=
  ⟨(keep2 hb hB ⟨h.1, h.2.1⟩).1, (keep2 hb hB ⟨h.1, h.2.1⟩).2, (keep2 hb hB ⟨h.2.2.1, h.2.2.2.1⟩).1, (keep2 hb hB ⟨h.2.2.1, h.2.2.2.1⟩).2, keep4 hb hB h.2.2.2.2⟩


theorem IntAt.nl {w : World} {v : Value} {z : Int} {L : Nat} (h : IntAt w v z L) : nl W32 z.natAbs ≤ L := by
  obtain ⟨neg, ao, n, c, f, _, _, _, rfl, hn⟩ := h
  rw [zof_abs]
  exact Nat.le_trans (nl_le W32 _ n (by decide) (num_lt f n)) hn
theorem abs_lt_pow {z : Int} {a : Nat} (h : nl W32 z.natAbs ≤ a) : z.natAbs < W32 ^ a :=
  Nat.lt_of_lt_of_le (lt_pow_nl W32 _ (by decide)) (Nat.pow_le_pow_right (by decide) h)
theorem nlz_add {x y : Int} {a b c : Nat} (hx : nl W32 x.natAbs ≤ a) (hy : nl W32 y.natAbs ≤ b) (h1 : a < c) (h2 : b < c) : nl W32 (x + y).natAbs ≤ c := by
  apply nl_le W32 _ _ (by decide)
  obtain ⟨c, rfl⟩ : ∃ k, c = k + 1 := ⟨c - 1, by omega⟩
  have h3 := Nat.lt_of_lt_of_le (abs_lt_pow hx) (Nat.pow_le_pow_right (n := W32) (by decide) (show a ≤ c by omega))
  have h4 := Nat.lt_of_lt_of_le (abs_lt_pow hy) (Nat.pow_le_pow_right (n := W32) (by decide) (show b ≤ c by omega))
  have h5 : W32 ^ (c + 1) = W32 ^ c * W32 := Nat.pow_succ _ _
  have h6 : W32 ^ c * 2 ≤ W32 ^ c * W32 := Nat.mul_le_mul_left _ (by decide)
  generalize W32 ^ c = P at *
  omega
theorem nlz_mul {x y : Int} {a b c : Nat} (hx : nl W32 x.natAbs ≤ a) (hy : nl W32 y.natAbs ≤ b) (h : a + b ≤ c) : nl W32 (x * y).natAbs ≤ c := by
  apply nl_le W32 _ _ (by decide)
  rw [Int.natAbs_mul]
  have h1 : x.natAbs * y.natAbs < W32 ^ a * W32 ^ b := Nat.mul_lt_mul'' (abs_lt_pow hx) (abs_lt_pow hy)
  rw [← Nat.pow_add] at h1
  exact Nat.lt_of_lt_of_le h1 (Nat.pow_le_pow_right (by decide) h)
theorem nlz_neg {x : Int} {a : Nat} (hx : nl W32 x.natAbs ≤ a) : nl W32 (-x).natAbs ≤ a := by rw [Int.natAbs_neg]; exact hx
theorem nlj {x : Int} {a : Nat} (hx : nl W32 x.natAbs ≤ a) (ha : a ≤ 1000) : nl 10000 x.natAbs ≤ 1000000 := Nat.le_trans (nl10_le _ _ hx) (by omega)

end Go.Proofs.Ytlegcekklknjhaa

/-
  'append' of one value (of any number of cells) to a row of the call's own: where the longer row lies, and that no number's limbs turn by it. No program in sight.
-/
namespace Go.Proofs.Ytlegcekklknjhaa
open Go.RowKit
set_option linter.unusedVariables false

/-- No cell of block g holds such a value. -/
def PureB (Q : Value → Prop) (w : World) (g : Nat) : Prop := ∀ o v, w.cell? ⟨g, o, none⟩ = some v → ¬ Q v
/-- Cells that hold such a value still do. -/
def KeepQ (Q : Value → Prop) (w w' : World) : Prop := ∀ b o v, Q v → w.cell? ⟨b, o, none⟩ = some v → w'.cell? ⟨b, o, none⟩ = some v
/-- A number. -/
def IsNum (v : Value) : Prop := ∃ k x, v = .int k x
theorem num_bool (b : Bool) : ¬ IsNum (.bool b) := fun ⟨_, _, h⟩ => by cases h
theorem num_slice (a : Option Addr) (n c : Nat) : ¬ IsNum (.slice a n c) := fun ⟨_, _, h⟩ => by cases h
theorem num_string (s : ByteArray) : ¬ IsNum (.string s) := fun ⟨_, _, h⟩ => by cases h
theorem num_pointer (a : Option Addr) : ¬ IsNum (.pointer a) := fun ⟨_, _, h⟩ => by cases h

theorem KeepQ.refl (Q : Value → Prop) (w : World) : KeepQ Q w w := fun _ _ _ _ h => h
theorem KeepQ.trans {Q : Value → Prop} {w w1 w2 : World} (h : KeepQ Q w w1) (g : KeepQ Q w1 w2) : KeepQ Q w w2 := fun b o v hq hv => g b o v hq (h b o v hq hv)
theorem KeepQ.below {Q : Value → Prop} {w w' : World} (h : Below w.heap.size w w') : KeepQ Q w w' := fun _ _ _ _ hv => (h.cell (World.block_lt_of_cell? w _ hv)).trans hv
theorem PureB.below {Q : Value → Prop} {w w' : World} {g : Nat} (h : PureB Q w g) (hb : Below w.heap.size w w') (hg : g < w.heap.size) : PureB Q w' g := fun o v hv => h o v ((hb.cell hg).symm.trans hv)
theorem pure_of_cells {Q : Value → Prop} {w : World} {g : Nat} {cur : Array Value} {e : TypeId} {fr : Nat × Nat} (hg : w.heap[g]? = some (.cells cur e fr)) (h : ∀ u ∈ cur.toList, ¬ Q u) : PureB Q w g := by
  intro o v hv
  rw [cell_of_row w g o cur e fr hg] at hv
  exact h v (by rw [← Array.getElem?_toList] at hv; exact List.mem_of_getElem? hv)
theorem pure_cells {Q : Value → Prop} {w : World} {g : Nat} {cur : Array Value} {e : TypeId} {fr : Nat × Nat} (hg : w.heap[g]? = some (.cells cur e fr)) (h : PureB Q w g) : ∀ u ∈ cur.toList, ¬ Q u := by
  intro u hu
  obtain ⟨i, hi⟩ := List.getElem?_of_mem hu
  exact h i u (by rw [cell_of_row w g i cur e fr hg, ← Array.getElem?_toList]; exact hi)
theorem mem_zeroCells {z : Array Value} {n : Nat} {u : Value} (hz : 0 < z.size) (h : u ∈ (Builtin.zeroCells z n).toList) : u ∈ z.toList := by
  simp only [Builtin.zeroCells, Array.toList_map, List.mem_map] at h
  obtain ⟨i, _, rfl⟩ := h
  have hlt : i % z.size < z.size := Nat.mod_lt _ hz
  rw [getElem!_pos z (i % z.size) hlt]
  exact Array.mem_toList_iff.2 (Array.getElem_mem hlt)

theorem keep_alloc {Q : Value → Prop} (w : World) (o : Obj) : KeepQ Q w (w.drew.alloc o) := fun b p v _ hv =>
  (World.cell?_of_block (w := w) (Below.heap_alloc w.drew o b (World.block_lt_of_cell? w _ hv))).trans hv

/-- 'append' of m values at once, a row of the call's own ahead. -/
theorem append_pure {P : Program} {Q : Value → Prop} (w : World) (base : Nat) (t ty e : TypeId) (i : TypeInfo) (z : Value) (size bytes : Nat) (ht : P.underlying t = some (.slice e)) (hi : P.info? e = some i) (hz : i.zero = some z)
    (hsize : i.size = size) (hby : i.bytes = bytes) (hzs : z.cells.size = size) (hsz : 0 < size)
    (v : Value) (n : Nat) (xs : List Value) (hown : w.ownsRow base e size v n xs) (hpure : ∀ g, v.ownBlock = some g → PureB Q w g)
    (a : Addr) (c : Nat) (news : List Value) (hl : news.length = size) (hnews : ∀ j u, news[j]? = some u → w.cell? (a.add j) = some u) (h1 : ∀ u ∈ news, u.oneCell' = true)
    (hq : ∀ u ∈ news, ¬ Q u) (hqz : ∀ u ∈ z.cells.toList, ¬ Q u)
    (h63 : n ≤ 1000000000) (hbytes : bytes ≤ 1000) (hbase : base ≤ w.heap.size) :
    ∃ g' cap' w', (Builtin.append_ #[t, t] ty #[v, .slice (some a) 1 c]).run P w = .ok (.slice (some ⟨g', 0, none⟩) (n + 1) cap') w' ∧ w'.ownsRow base e size (.slice (some ⟨g', 0, none⟩) (n + 1) cap') (n + 1) (xs ++ news) ∧
      w.grownBy w' v.ownBlock ∧ (v.ownBlock = some g' ∨ g' = w.heap.size) ∧ PureB Q w' g' ∧ KeepQ Q w w' := by
  have hb2 : (n + 1) * bytes ≤ 140737488355328 := Nat.le_trans (Nat.mul_le_mul (show n + 1 ≤ 1000000001 by omega) hbytes) (by decide)
  have hb1 : 1 * bytes ≤ 281474976710656 := by omega
  have hmx : n + 1 ≤ maxLen := by unfold maxLen; omega
  obtain ⟨v', w', hr, h2, h3, _⟩ := run_append_own (P := P) w base t ty e i z size bytes ht hi hz hsize hby hzs hsz v n xs hown a 1 c news (by omega) hnews h1 hmx hb2 hbase
  subst hsize
  subst hby
  have hz0 : ∀ k, ∀ u ∈ (Builtin.zeroCells z.cells k).toList, ¬ Q u := fun k u hu => hqz u (mem_zeroCells (by omega) hu)
  rcases hown.2 with ⟨rfl, rfl⟩ | ⟨g, cap, cur, rfl, hbg, hg, hnc, hcm, hcs, htake⟩
  · have hr2 := run_append_nil (P := P) w t ty e i z ht hi hz a 1 c news (by omega) hnews (by omega) (by omega) hb1
    rw [hr2] at hr
    injection hr with hv hw
    subst hw
    subst hv
    simp only [Nat.zero_add] at h2 hr2 ⊢
    refine ⟨_, _, _, hr2, h2, h3, .inr rfl, ?_, keep_alloc w _⟩
    refine pure_of_cells (heap_alloc_new w.drew _) fun u hu => ?_
    rw [Array.toList_append, List.mem_append] at hu
    rcases hu with hu | hu
    · exact hq u (by simpa using hu)
    · exact hz0 _ u hu
  · have hpg := hpure g rfl
    have hcur := pure_cells hg hpg
    have hxs : ∀ u ∈ xs, ¬ Q u := fun u hu => hcur u (by rw [← htake] at hu; exact List.mem_of_mem_take hu)
    by_cases hroom : n + 1 ≤ cap
    · have hfit : n * i.size + news.length ≤ cur.size := by
        rw [hl, hcs]
        have := Nat.mul_le_mul_right i.size hroom
        rw [Nat.add_mul] at this; omega
      have hr2 := run_append_room (P := P) w t ty e i ht hi g n cap cur hg a 1 c news (by omega) hnews h1 hroom hfit
      rw [hr2] at hr
      injection hr with hv hw
      subst hw
      subst hv
      refine ⟨g, cap, _, hr2, h2, h3, .inl rfl, ?_, ?_⟩
      · refine pure_of_cells (setRow_heap w g cur _ e _ hg) fun u hu => ?_
        simp only [List.mem_append] at hu
        rcases hu with (hu | hu) | hu
        · exact hcur u (List.mem_of_mem_take hu)
        · exact hq u hu
        · exact hcur u (List.mem_of_mem_drop hu)
      · intro b o u hu hc
        by_cases hbg' : b = g
        · subst hbg'; exact absurd hu (hpg o u hc)
        · exact (World.cell?_of_block (w := w) (setRow_other w g b _ hbg')).trans hc
    · have holds : ∀ j u, xs[j]? = some u → w.cell? ((⟨g, 0, none⟩ : Addr).add j) = some u := hown.cells (g := g) rfl
      have hr2 := run_append_grow (P := P) w t ty e i z ht hi hz ⟨g, 0, none⟩ n cap xs hown.1 holds a 1 c news (by omega) hnews (by omega) (by omega) (growslice_fits (by omega) hb2)
      rw [hr2] at hr
      injection hr with hv hw
      subst hw
      subst hv
      refine ⟨_, _, _, hr2, h2, h3, .inr rfl, ?_, keep_alloc w _⟩
      refine pure_of_cells (heap_alloc_new w.drew _) fun u hu => ?_
      rw [Array.toList_append, Array.toList_append, List.mem_append, List.mem_append] at hu
      rcases hu with (hu | hu) | hu
      · exact hxs u (by simpa using hu)
      · exact hq u (by simpa using hu)
      · exact hz0 _ u hu

/-- The same, in a walk. -/
theorem wpList_append_pure {P : Program} {Q' : Value → Prop} {ops : Array Oper} {rest : List Oper} {o : Oper} {a : Act} {Q : Exit → Act → World → Prop} {w : World} (hgd : o.guard = none) (s x : Operand) (t : TypeId)
    (ho : o.op = .call { callee := .builtin .append, args := #[s, x], argTypes := #[t, t] }) (base : Nat) (e : TypeId) (z : Value) (size bytes : Nat) (ht : P.underlying t = some (.slice e))
    (hinfo : (P.info? e).map (fun i => (i.zero, i.size, i.bytes)) = some (some z, size, bytes)) (hzs : z.cells.size = size) (hsz : 0 < size)
    (v : Value) (hs : a.eval s = v) (n : Nat) (xs : List Value) (hown : w.ownsRow base e size v n xs) (hpure : ∀ g, v.ownBlock = some g → PureB Q' w g)
    (ad : Addr) (c : Nat) (hx : a.eval x = .slice (some ad) 1 c) (news : List Value) (hl : news.length = size) (hnews : ∀ j u, news[j]? = some u → w.cell? (ad.add j) = some u) (h1 : ∀ u ∈ news, u.oneCell' = true)
    (hq : ∀ u ∈ news, ¬ Q' u) (hqz : ∀ u ∈ z.cells.toList, ¬ Q' u) (h63 : n ≤ 1000000000) (hbytes : bytes ≤ 1000) (hbase : base ≤ w.heap.size)
    (h : ∀ g' cap' w', w'.ownsRow base e size (.slice (some ⟨g', 0, none⟩) (n + 1) cap') (n + 1) (xs ++ news) → w.grownBy w' v.ownBlock → (v.ownBlock = some g' ∨ g' = w.heap.size) → PureB Q' w' g' → KeepQ Q' w w' →
      wpList P ops Q rest (a.put o.dst (.slice (some ⟨g', 0, none⟩) (n + 1) cap')) w') :
    wpList P ops Q (o :: rest) a w := by
  obtain ⟨i0, hi, hz0, hz1, hz2⟩ := info_parts hinfo
  obtain ⟨g', cap', w', hr, h2, h3, h4, h5, h6⟩ := append_pure (P := P) (Q := Q') w base t o.type e i0 z size bytes ht hi hz0 hz1 hz2 hzs hsz v n xs hown hpure ad c news hl hnews h1 hq hqz h63 hbytes hbase
  refine wpList_plain hgd fun K hK => ?_
  unfold Oper.wp execOp
  simp only [ho, resolve, invoke, builtin, Sem.run_bind, Sem.run_pure, Result.andThen_ok, List.map_toArray, List.map_cons, List.map_nil, hs, hx, hr]
  exact hK _ _ (h g' cap' w' h2 h3 h4 h5 h6)

/-- The same, at a step of a region that draws its order. -/
theorem step_append_pure {P : Program} {Q' : Value → Prop} {ops : Array Oper} {o : Oper} {a : Act} {K : Act → World → Prop} {Q : Exit → Act → World → Prop} {E : Prop} {w : World} (hgd : o.guard = none) (s x : Operand) (t : TypeId)
    (ho : o.op = .call { callee := .builtin .append, args := #[s, x], argTypes := #[t, t] }) (base : Nat) (e : TypeId) (z : Value) (size bytes : Nat) (ht : P.underlying t = some (.slice e))
    (hinfo : (P.info? e).map (fun i => (i.zero, i.size, i.bytes)) = some (some z, size, bytes)) (hzs : z.cells.size = size) (hsz : 0 < size)
    (v : Value) (hs : a.eval s = v) (n : Nat) (xs : List Value) (hown : w.ownsRow base e size v n xs) (hpure : ∀ g, v.ownBlock = some g → PureB Q' w g)
    (ad : Addr) (c : Nat) (hx : a.eval x = .slice (some ad) 1 c) (news : List Value) (hl : news.length = size) (hnews : ∀ j u, news[j]? = some u → w.cell? (ad.add j) = some u) (h1 : ∀ u ∈ news, u.oneCell' = true)
    (hq : ∀ u ∈ news, ¬ Q' u) (hqz : ∀ u ∈ z.cells.toList, ¬ Q' u) (h63 : n ≤ 1000000000) (hbytes : bytes ≤ 1000) (hbase : base ≤ w.heap.size)
    (h : ∀ g' cap' w', w'.ownsRow base e size (.slice (some ⟨g', 0, none⟩) (n + 1) cap') (n + 1) (xs ++ news) → w.grownBy w' v.ownBlock → (v.ownBlock = some g' ∨ g' = w.heap.size) → PureB Q' w' g' → KeepQ Q' w w' →
      K (a.put o.dst (.slice (some ⟨g', 0, none⟩) (n + 1) cap')) w') :
    if Region.wanted o (yielded ops a.tmps) = true then Oper.wp P o a w K Q else E := by
  have hw : Region.wanted o (yielded ops a.tmps) = true := by simp [Region.wanted, hgd]
  rw [if_pos hw]
  obtain ⟨i0, hi, hz0, hz1, hz2⟩ := info_parts hinfo
  obtain ⟨g', cap', w', hr, h2, h3, h4, h5, h6⟩ := append_pure (P := P) (Q := Q') w base t o.type e i0 z size bytes ht hi hz0 hz1 hz2 hzs hsz v n xs hown hpure ad c news hl hnews h1 hq hqz h63 hbytes hbase
  unfold Oper.wp execOp
  simp only [ho, resolve, invoke, builtin, Sem.run_bind, Sem.run_pure, Result.andThen_ok, List.map_toArray, List.map_cons, List.map_nil, hs, hx, hr]
  exact h g' cap' w' h2 h3 h4 h5 h6

theorem Nums.keep {k : IntKind} {w w' : World} {v : Value} {n : Nat} {f : Nat → Int} (h : Nums k w v n f) (hk : KeepQ IsNum w w') : Nums k w' v n f := by
  obtain ⟨ao, c, h1, h2, h3, h4⟩ := h
  exact ⟨ao, c, h1, h2, h3, fun hn => let ⟨b, off, e, hc⟩ := h4 hn; ⟨b, off, e, fun i hi => hk _ _ _ ⟨_, _, rfl⟩ (hc i hi)⟩⟩
theorem owns_later {B k : Nat} {e : TypeId} {w w' : World} {v : Value} {n : Nat} {us : List Value} (h : w.ownsRow B e k v n us) (hb : Below w.heap.size w w') : w'.ownsRow B e k v n us := by
  refine ⟨h.1, ?_⟩
  rcases h.2 with hn | ⟨g, cap, cur, rfl, hB, hg, rest⟩
  · exact .inl hn
  · refine .inr ⟨g, cap, cur, rfl, hB, ?_, rest⟩
    rw [hb.block g (Array.getElem?_eq_some_iff.1 hg).1]
    exact hg
theorem below_grownB {B : Nat} {wb w w' : World} {row : Option Nat} (h : Below B wb w) (hg : w.grownBy w' row) (hB : B ≤ w.heap.size) (hr : ∀ g, row = some g → B ≤ g) : Below B wb w' :=
  h.grown hg hB hr

/-- What was appended lay in a block of its own. -/
theorem news_block {w : World} {B : Nat} {cs : Array Value} {t : TypeId} (hb : w.heap[B]? = some (.cells cs t (0, 0))) : ∀ j u, cs.toList[j]? = some u → w.cell? ((⟨B, 0, none⟩ : Addr).add j) = some u := fun j u hu => by
  have hadd : (⟨B, 0, none⟩ : Addr).add j = ⟨B, j, none⟩ := by unfold Addr.add; split <;> simp_all
  rw [hadd, cell_of_row w B j cs t _ hb]
  simpa using hu
theorem owns_cell {w : World} {base k : Nat} {e : TypeId} {g n cap : Nat} {xs : List Value} (h : w.ownsRow base e k (.slice (some ⟨g, 0, none⟩) n cap) n xs) {j : Nat} {u : Value} (hu : xs[j]? = some u) : w.cell? ⟨g, j, none⟩ = some u := by
  have := h.cells (g := g) rfl j u hu
  have hadd : (⟨g, 0, none⟩ : Addr).add j = ⟨g, j, none⟩ := by unfold Addr.add; split <;> simp_all
  rw [hadd] at this; exact this
theorem owns_cap {w : World} {base k : Nat} {e : TypeId} {g n cap : Nat} {xs : List Value} (h : w.ownsRow base e k (.slice (some ⟨g, 0, none⟩) n cap) n xs) : n ≤ cap ∧ base ≤ g ∧ g < w.heap.size := by
  have h2 := h.lt g rfl
  rcases h.2 with ⟨h0, _⟩ | ⟨_, _, _, he, _, _, hnc, _⟩
  · cases h0
  · cases he; exact ⟨hnc, h2.1, h2.2⟩
theorem owns_new (w : World) (base k : Nat) (e : TypeId) (cs : Array Value) (hb : base ≤ w.heap.size) (hk : cs.size = k) : (w.alloc (.cells cs e)).ownsRow base e k (.slice (some ⟨w.heap.size, 0, none⟩) 1 1) 1 cs.toList :=
  ⟨by simp [hk], .inr ⟨_, 1, cs, rfl, hb, heap_alloc_new _ _, Nat.le_refl _, by unfold maxLen; omega, by omega, by rw [Nat.one_mul, ← hk, ← Array.length_toList]; exact List.take_length⟩⟩

end Go.Proofs.Ytlegcekklknjhaa

/-
  Variables that hold structs of two or three cells; numbers stay when such a variable is set.
-/
namespace Go.Proofs.Ytlegcekklknjhaa
open Go.RowKit
set_option linter.unusedVariables false

/-- A variable for a struct of two cells that may be written, and what it holds. -/
def V2 (w : World) (R : Nat) (x y : Value) : Prop := w.cell? ⟨R, 0, none⟩ = some x ∧ w.cell? ⟨R, 1, none⟩ = some y ∧ w.frozen? ⟨R, 0, none⟩ = false ∧ w.frozen? ⟨R, 1, none⟩ = false
theorem V2.later {w w' : World} {R : Nat} {x y : Value} (h : V2 w R x y) (hb : Below w.heap.size w w') : V2 w' R x y := keepW hb (Nat.le_refl _) h
theorem V2.same {w : World} {R : Nat} {x y : Value} (h : V2 w R x y) (x' y' : Value) : V2 ((w.setCell ⟨R, 0, none⟩ x').setCell ⟨R, 1, none⟩ y') R x' y' := put2_same h
theorem V2.other {w : World} {R R' : Nat} {x y : Value} (h : V2 w R' x y) (hne : R' ≠ R) (x' y' : Value) : V2 ((w.setCell ⟨R, 0, none⟩ x').setCell ⟨R, 1, none⟩ y') R' x y := put2_other hne h
theorem V2.lay (w : World) (t : TypeId) (x y : Value) : ∃ W, W = w.alloc (.cells #[x, y] t) ∧ W.heap.size = w.heap.size + 1 ∧ Below w.heap.size w W ∧ V2 W w.heap.size x y :=
  ⟨_, rfl, by simp, (Below.refl _ _).alloc (Nat.le_refl _) _, resW w t x y⟩

theorem V2.below {w w' : World} {R : Nat} {x y : Value} (h : V2 w R x y) (hb : Below w.heap.size w w') : V2 w' R x y := h.later hb
theorem V2.lt {w : World} {R : Nat} {x y : Value} (h : V2 w R x y) : R < w.heap.size := World.block_lt_of_cell? _ _ h.1
theorem keep_set {w : World} {a : Addr} {old : Value} (h : w.cell? a = some old) (hn : ¬ IsNum old) (x : Value) : KeepQ IsNum w (w.setCell a x) := by
  intro b o v hv hc
  rw [World.cell?_setCell_other _ _ _ _ (fun e => by rw [← e, h] at hc; cases hc; exact hn hv)]
  exact hc
/-- What stands in a variable of bools, slices and the like. -/
theorem V2.keep {w : World} {R : Nat} {x y : Value} (h : V2 w R x y) (hx : ¬ IsNum x) (hy : ¬ IsNum y) (x' y' : Value) : KeepQ IsNum w ((w.setCell ⟨R, 0, none⟩ x').setCell ⟨R, 1, none⟩ y') := by
  refine (keep_set h.1 hx x').trans (keep_set (old := y) ?_ hy y')
  rw [World.cell?_setCell_other _ _ _ _ (fun e => by injection e; omega)]; exact h.2.1
theorem V2.keepJ {w : World} {R : Nat} {p : Bool} {ao : Option Addr} {n c : Nat} (h : V2 w R (.bool p) (.slice ao n c)) (x' y' : Value) : KeepQ IsNum w ((w.setCell ⟨R, 0, none⟩ x').setCell ⟨R, 1, none⟩ y') :=
  h.keep (num_bool _) (num_slice _ _ _) x' y'
theorem RepI.keep {w w' : World} {v : Value} {z : Int} (h : RepI w v z) (hk : KeepQ IsNum w w') : RepI w' v z := by
  obtain ⟨ao, c, h1, h2⟩ := h
  exact ⟨ao, c, h1, Nums.keep h2 hk⟩
theorem RepJ.keep {w w' : World} {v : Value} {z : Int} (h : RepJ w v z) (hk : KeepQ IsNum w w') : RepJ w' v z := by
  obtain ⟨ao, c, h1, h2⟩ := h
  exact ⟨ao, c, h1, Nums.keep h2 hk⟩
theorem IntAt.keep {w w' : World} {v : Value} {z : Int} {L : Nat} (h : IntAt w v z L) (hk : KeepQ IsNum w w') : IntAt w' v z L := by
  obtain ⟨neg, ao, n, c, f, h1, h2, h3⟩ := h
  exact ⟨neg, ao, n, c, f, h1, Nums.keep h2 hk, h3⟩
theorem Raw.keep {w w' : World} {v : Value} {n : Nat} {f : Nat → Int} (h : Raw w v n f) (hk : KeepQ IsNum w w') : Raw w' v n f := by
  obtain ⟨ao, c, h1, h2, h3, h4, h5, h6⟩ := h
  exact ⟨ao, c, h1, h2, h3, h4, h5, fun hn => let ⟨b, off, e, hc⟩ := h6 hn; ⟨b, off, e, fun i hi => hk _ _ _ ⟨_, _, rfl⟩ (hc i hi)⟩⟩

end Go.Proofs.Ytlegcekklknjhaa

/-
  Slices of structs: the cells of each; parts of them; such slices as the call's own rows.
-/
namespace Go.Proofs.Ytlegcekklknjhaa
open Go.RowKit
set_option linter.unusedVariables false

/-- A slice of n structs of k cells each: the j-th cell of the i-th holds el i j. -/
def RowAt (k : Nat) (w : World) (v : Value) (n : Nat) (el : Nat → Nat → Value) : Prop :=
  ∃ ao c, v = .slice ao n c ∧ n ≤ c ∧ c ≤ 9223372036854775807 ∧ (0 < n → ∃ b off, ao = some ⟨b, off, none⟩ ∧ ∀ i, i < n → ∀ j, j < k → w.cell? ⟨b, off + i * k + j, none⟩ = some (el i j))
theorem RowAt.below {k : Nat} {w w' : World} {v : Value} {n : Nat} {el : Nat → Nat → Value} (h : RowAt k w v n el) (hb : Below w.heap.size w w') : RowAt k w' v n el := by
  obtain ⟨ao, c, h1, h2, h3, h4⟩ := h
  exact ⟨ao, c, h1, h2, h3, fun hn => let ⟨b, off, e, hc⟩ := h4 hn; ⟨b, off, e, fun i hi j hj => (hb.cell (World.block_lt_of_cell? w _ (hc i hi j hj))).trans (hc i hi j hj)⟩⟩
theorem RowAt.nil (k : Nat) (w : World) (el : Nat → Nat → Value) : RowAt k w (.slice none 0 0) 0 el := ⟨none, 0, rfl, by omega, by omega, fun h => absurd h (by omega)⟩
/-- The first ones, and those behind them. -/
theorem RowAt.cut {k : Nat} {w : World} {v : Value} {n : Nat} {el : Nat → Nat → Value} (h : RowAt k w v n el) (m : Nat) (h0 : 0 < m) (hm : m < n) :
    ∃ b off c, v = .slice (some ⟨b, off, none⟩) n c ∧ n ≤ c ∧ c ≤ 9223372036854775807 ∧ RowAt k w (.slice (some ⟨b, off, none⟩) m c) m el ∧ RowAt k w (.slice (some ⟨b, off + m * k, none⟩) (n - m) (c - m)) (n - m) (fun i => el (m + i)) := by
  obtain ⟨ao, c, h1, h2, h3, h4⟩ := h
  obtain ⟨b, off, rfl, hc⟩ := h4 (by omega)
  refine ⟨b, off, c, h1, h2, h3, ⟨_, _, rfl, by omega, h3, fun _ => ⟨b, off, rfl, fun i hi => hc i (by omega)⟩⟩, ⟨_, _, rfl, by omega, by omega, fun _ => ⟨b, _, rfl, fun i hi j hj => ?_⟩⟩⟩
  have := hc (m + i) (by omega) j hj
  rw [Nat.add_mul, ← Nat.add_assoc] at this
  exact this
theorem RowAt.of_owns {k : Nat} {w : World} {B : Nat} {e : TypeId} {v : Value} {n : Nat} {us : List Value} {el : Nat → Nat → Value} (h : w.ownsRow B e k v n us) (hel : ∀ i, i < n → ∀ j, j < k → us[i * k + j]? = some (el i j)) : RowAt k w v n el := by
  rcases h.2 with ⟨rfl, rfl⟩ | ⟨g, cap, cur, rfl, hb, hg, hnc, hcm, rest⟩
  · exact RowAt.nil _ _ _
  · refine ⟨_, _, rfl, hnc, by unfold maxLen at hcm; omega, fun _ => ⟨g, 0, rfl, fun i hi j hj => ?_⟩⟩
    rw [Nat.zero_add]
    exact owns_cell h (hel i hi j hj)

/-- The sum of the first n numbers. -/
def sumz (z : Nat → Int) : Nat → Int
  | 0 => 0
  | n + 1 => sumz z n + z n
theorem sumz_cut (z : Nat → Int) (m : Nat) : ∀ n, sumz z (m + n) = sumz z m + sumz (fun i => z (m + i)) n
  | 0 => by simp [sumz]
  | n + 1 => by
    show sumz z (m + n) + z (m + n) = sumz z m + (sumz (fun i => z (m + i)) n + z (m + n))
    rw [sumz_cut z m n]; omega

end Go.Proofs.Ytlegcekklknjhaa

/-
  Slices of whole numbers; what whole.Sum answers.
-/
namespace Go.Proofs.Ytlegcekklknjhaa
open Go.RowKit
set_option linter.unusedVariables false
set_option linter.unusedSimpArgs false

/-- A slice of n whole numbers, each of at most L limbs. -/
def IRow (w : World) (v : Value) (n : Nat) (z : Nat → Int) (L : Nat) : Prop := ∃ el, RowAt 2 w v n el ∧ ∀ i, i < n → IntAt w (.agg #[el i 0, el i 1]) (z i) L
theorem IRow.below {w w' : World} {v : Value} {n : Nat} {z : Nat → Int} {L : Nat} (h : IRow w v n z L) (hb : Below w.heap.size w w') : IRow w' v n z L := by
  obtain ⟨el, h1, h2⟩ := h
  exact ⟨el, h1.below hb, fun i hi => (h2 i hi).below hb⟩
theorem IRow.cut {w : World} {v : Value} {n : Nat} {z : Nat → Int} {L : Nat} (h : IRow w v n z L) (m : Nat) (h0 : 0 < m) (hm : m < n) :
    ∃ b off c, v = .slice (some ⟨b, off, none⟩) n c ∧ n ≤ c ∧ c ≤ 9223372036854775807 ∧ IRow w (.slice (some ⟨b, off, none⟩) m c) m z L ∧ IRow w (.slice (some ⟨b, off + m * 2, none⟩) (n - m) (c - m)) (n - m) (fun i => z (m + i)) L := by
  obtain ⟨el, h1, h2⟩ := h
  obtain ⟨b, off, c, e, hc, hM, p1, p2⟩ := h1.cut m h0 hm
  exact ⟨b, off, c, e, hc, hM, ⟨el, p1, fun i hi => h2 i (by omega)⟩, ⟨_, p2, fun i hi => h2 (m + i) (by omega)⟩⟩
theorem nl_sumz (z : Nat → Int) (L : Nat) : ∀ n, (∀ i, i < n → nl W32 (z i).natAbs ≤ L) → nl W32 (sumz z n).natAbs ≤ L + n
  | 0, _ => by simp [sumz, nl_zero]
  | n + 1, h => nlz_add (nl_sumz z L n (fun i hi => h i (by omega))) (h n (by omega)) (by omega) (by omega)

set_option maxRecDepth 20000 in
set_option maxHeartbeats 2000000 in
theorem isum_any : ∀ (n : Nat) (v : Value) (z : Nat → Int) (L : Nat) (w : World), IRow w v n z L → n ≤ 100000 → L ≤ 100000 →
    Calls Try.prog 10 #[v] w fun e w' => ∃ r, e = .returned r ∧ RepI w' r (sumz z n) ∧ Below w.heap.size w w' := by
  intro n
  induction n using Nat.strongRecOn with
  | _ n ih =>
  intro v z L w hv hn hL
  have hA : Below w.heap.size w (w.alloc (.cells #[.bool false, .slice none 0 0] 31)) := (Below.refl _ _).alloc (Nat.le_refl _) _
  have k1 : V2 (w.alloc (.cells #[.bool false, .slice none 0 0] 31)) w.heap.size (.bool false) (.slice none 0 0) := resW w 31 (.bool false) (.slice none 0 0)
  by_cases h0 : n = 0
  · subst h0
    obtain ⟨el, ⟨ao, c, rfl, _⟩, _⟩ := hv
    obtain ⟨q1, q2, q3, q4⟩ := k1
    clear ih
    go_enter Try.func10, Try.ntmps10
    go_wp2
    (try simp only [Exit.inBlock, Exit.then])
    refine bodyPost_ret (v := .agg #[.bool false, .slice none 0 0]) (by simp [results, go_sem, q1, q2]) rfl ?_
    exact ⟨_, rfl, RepI.nil _, hA⟩
  by_cases h1 : n = 1
  · subst h1
    have hv1 := hv.below hA
    obtain ⟨el, ⟨ao, c, rfl, hc, _, h4⟩, hel⟩ := hv1
    obtain ⟨b, off, rfl, hcell⟩ := h4 (by omega)
    have e0 := hel 0 (by omega)
    have c0 := hcell 0 (by omega) 0 (by omega)
    have c1 := hcell 0 (by omega) 1 (by omega)
    simp only [Nat.zero_mul, Nat.add_zero] at c0 c1
    obtain ⟨p, a1, m1, d1, he⟩ := e0.open
    have he' := he
    simp only [Value.agg.injEq, Array.mk.injEq, List.cons.injEq, and_true] at he'
    rw [he'.1] at c0
    rw [he'.2] at c1
    rw [he] at e0
    clear ih hcell hel he he' h0 hv h4
    have hz : Hid (sumz z 1 = z 0) := by show sumz z 0 + z 0 = z 0; simp [sumz]
    go_enter Try.func10, Try.ntmps10
    go_wp2_with fail
    refine (wclean_any _ _ _ _ e0).mono ?_
    rintro e w2 ⟨r, rfl, hr, hb2⟩
    obtain ⟨b2, ao2, n2, c2, rfl⟩ := hr.open
    obtain ⟨q1, q2, q3, q4⟩ := k1.below hb2
    have BF := hA.trans (hb2.mono hA.size)
    go_wp2
    (try simp only [Exit.inBlock, Exit.then])
    refine bodyPost_ret (v := .agg #[.bool b2, .slice ao2 n2 c2]) (by simp [results, go_sem, q1, q2]) rfl ?_
    rw [← hz.out] at hr
    exact ⟨_, rfl, hr.store2 q1 q2 _ _, below_store2 BF (by omega) _ _⟩
  · have H1 : Hid (∀ (v : Value) (z : Nat → Int) (w : World), IRow w v (n / 2) z L → Calls Try.prog 10 #[v] w fun e w' => ∃ r, e = .returned r ∧ RepI w' r (sumz z (n / 2)) ∧ Below w.heap.size w w') := fun v z w h => ih (n / 2) (by omega) v z L w h (by omega) hL
    have H2 : Hid (∀ (v : Value) (z : Nat → Int) (w : World), IRow w v (n - n / 2) z L → Calls Try.prog 10 #[v] w fun e w' => ∃ r, e = .returned r ∧ RepI w' r (sumz z (n - n / 2)) ∧ Below w.heap.size w w') := fun v z w h => ih (n - n / 2) (by omega) v z L w h (by omega) hL
    have hnz : ∀ i, i < n → nl W32 (z i).natAbs ≤ L := fun i hi => by obtain ⟨el, _, h2⟩ := hv; exact (h2 i hi).nl
    have l1 := nl_sumz z L (n / 2) (fun i hi => hnz i (by omega))
    have l2 := nl_sumz (fun i => z (n / 2 + i)) L (n - n / 2) (fun i hi => hnz (n / 2 + i) (by omega))
    have HZ : Hid (sumz z (n / 2) + sumz (fun i => z (n / 2 + i)) (n - n / 2) = sumz z n) := by
      show _ = _
      rw [← sumz_cut, show n / 2 + (n - n / 2) = n by omega]
    obtain ⟨b, off, c, rfl, hc, hM, r1, r2⟩ := (hv.below hA).cut (n / 2) (by omega) (by omega)
    obtain ⟨m, hm⟩ : ∃ m, m = n / 2 := ⟨_, rfl⟩
    have d1 : (n : Int) / 2 = (m : Int) := by omega
    have d2 : ¬ (n : Int) = 0 := by omega
    have d3 : ¬ (n : Int) = 1 := by omega
    rw [← hm] at H1 H2 l1 l2 HZ r1 r2
    have d4 : (0 : Int) ≤ (m : Int) := by omega
    have d5 : (m : Int) ≤ (c : Int) := by omega
    have d6 : (m : Int) ≤ (n : Int) := by omega
    have d7 : (n : Int) ≤ (c : Int) := by omega
    have d8 : ¬ c = m := by omega
    have d9 : m ≤ n := by omega
    have d10 : ¬ n = 0 := h0
    have d11 : ((n : Int) == 0) = false := by simp; omega
    have d12 : ((n : Int) == 1) = false := by simp; omega
    clear ih hnz hv hm h0 h1
    go_enter Try.func10, Try.ntmps10
    go_wp2
    generalize w.alloc (.cells #[.bool false, .slice none 0 0] 31) = Wa at *
    have hd : Below Wa.heap.size Wa Wa.drew := (Below.refl _ _).drew
    have HK := k1.below hd
    have HR1 := r1.below hd
    have HR2 := r2.below hd
    have HA := hA.drew
    clear k1 r1 r2 hA hd
    refine wp_region_held_drew (S := (fun w' => True)) (by kernel_rfl) ?_ (fun hHeld => ?_)
    · trivial
    refine wpAnyH_take (i := 0) (v := ?_) (by simp only [List.getElem?_toArray, List.getElem?_cons_succ, List.getElem?_cons_zero]; rfl) (by kernel_rfl) (by kernel_rfl) (by kernel_rfl) (by exact fun _ _ _ h => h) (Or.inl ⟨by rfl, ?_⟩) (by assumption) ?_
    rotate_left
    · (intro w hSw; (try dsimp only at hSw); go_simp; (try with_reducible rfl))
    (try simp only [Act.put, List.setIfInBounds_toArray, List.set_cons_zero, List.set_cons_succ])
    refine wpAnyH_take (i := 1) (v := ?_) (by simp only [List.getElem?_toArray, List.getElem?_cons_succ, List.getElem?_cons_zero]; rfl) (by kernel_rfl) (by kernel_rfl) (by kernel_rfl) (by exact fun _ _ _ h => h) (Or.inl ⟨by rfl, ?_⟩) (by assumption) ?_
    rotate_left
    · (intro w hSw; (try dsimp only at hSw); go_simp; (try with_reducible rfl))
    (try simp only [Act.put, List.setIfInBounds_toArray, List.set_cons_zero, List.set_cons_succ])
    refine wpAnyH_take (i := 2) (v := ?_) (by simp only [List.getElem?_toArray, List.getElem?_cons_succ, List.getElem?_cons_zero]; rfl) (by kernel_rfl) (by kernel_rfl) (by kernel_rfl) (by exact fun _ _ _ h => h) (Or.inl ⟨by rfl, ?_⟩) (by assumption) ?_
    rotate_left
    · (intro w hSw; (try dsimp only at hSw); go_simp; (try with_reducible rfl))
    (try simp only [Act.put, List.setIfInBounds_toArray, List.set_cons_zero, List.set_cons_succ])
    refine wpAnyH_take (i := 4) (v := ?_) (by simp only [List.getElem?_toArray, List.getElem?_cons_succ, List.getElem?_cons_zero]; rfl) (by kernel_rfl) (by kernel_rfl) (by kernel_rfl) (by exact fun _ _ _ h => h) (Or.inl ⟨by rfl, ?_⟩) (by assumption) ?_
    rotate_left
    · (intro w hSw; (try dsimp only at hSw); go_simp; (try with_reducible rfl))
    (try simp only [Act.put, List.setIfInBounds_toArray, List.set_cons_zero, List.set_cons_succ])
    refine wpAnyH_take (i := 5) (v := ?_) (by simp only [List.getElem?_toArray, List.getElem?_cons_succ, List.getElem?_cons_zero]; rfl) (by kernel_rfl) (by kernel_rfl) (by kernel_rfl) (by exact fun _ _ _ h => h) (Or.inl ⟨by rfl, ?_⟩) (by assumption) ?_
    rotate_left
    · (intro w hSw; (try dsimp only at hSw); go_simp; (try with_reducible rfl))
    (try simp only [Act.put, List.setIfInBounds_toArray, List.set_cons_zero, List.set_cons_succ])
    refine wpAnyH_take (i := 6) (v := ?_) (by simp only [List.getElem?_toArray, List.getElem?_cons_succ, List.getElem?_cons_zero]; rfl) (by kernel_rfl) (by kernel_rfl) (by kernel_rfl) (by exact fun _ _ _ h => h) (Or.inl ⟨by rfl, ?_⟩) (by assumption) ?_
    rotate_left
    · (intro w hSw; (try dsimp only at hSw); go_simp; (try with_reducible rfl))
    (try simp only [Act.put, List.setIfInBounds_toArray, List.set_cons_zero, List.set_cons_succ])
    refine wpAnyH_ready (rs := [3]) (by kernel_rfl) (by simp) ?_
    refine AllReadyH.cons (by simp only [List.getElem?_toArray, List.getElem?_cons_succ, List.getElem?_cons_zero]; rfl) (fun K hK => ?_) AllReadyH.nil
    go_simp
    refine (H1.out _ _ _ HR1).mono ?_
    rintro e w1 ⟨v1, rfl, hr1, b1⟩
    go_wp2_with fail
    refine hK.out _ _ ?_ (fun hHeld0 => ?_)
    · trivial
    clear hK K
    (try simp only [Act.put, List.setIfInBounds_toArray, List.set_cons_zero, List.set_cons_succ])
    refine wpAnyH_ready (rs := [7]) (by kernel_rfl) (by simp) ?_
    refine AllReadyH.cons (by simp only [List.getElem?_toArray, List.getElem?_cons_succ, List.getElem?_cons_zero]; rfl) (fun K hK => ?_) AllReadyH.nil
    go_simp
    refine (H2.out _ _ _ (HR2.below b1)).mono ?_
    rintro e w2 ⟨v2, rfl, hr2, b2⟩
    go_wp2_with fail
    refine hK.out _ _ ?_ (fun hHeld1 => ?_)
    · trivial
    clear hK K
    (try simp only [Act.put, List.setIfInBounds_toArray, List.set_cons_zero, List.set_cons_succ])
    refine wpAnyH_ready (rs := [8]) (by kernel_rfl) (by simp) ?_
    refine AllReadyH.cons (by simp only [List.getElem?_toArray, List.getElem?_cons_succ, List.getElem?_cons_zero]; rfl) (fun K hK => ?_) AllReadyH.nil
    go_simp
    refine (wadd_any _ _ _ _ (L + m) (L + (n - m)) _ ((hr1.below b2).at _ l1) (hr2.at _ l2) (by omega) (by omega)).mono ?_
    rintro e w3 ⟨r3, rfl, hr3, b3⟩
    obtain ⟨p3, ao3, n3, c3, rfl⟩ := hr3.open
    obtain ⟨q1, q2, q3, q4⟩ := ((HK.below b1).below b2).below b3
    go_wp2_with fail
    refine hK.out _ _ ?_ (fun hHeld2 => ?_)
    · trivial
    clear hK K
    (try simp only [Act.put, List.setIfInBounds_toArray, List.set_cons_zero, List.set_cons_succ])
    refine wpAnyH_ready (rs := [9]) (by kernel_rfl) (by simp) ?_
    refine AllReadyH.cons (by simp only [List.getElem?_toArray, List.getElem?_cons_succ, List.getElem?_cons_zero]; rfl) (fun K hK => ?_) AllReadyH.nil
    go_simp
    refine hK.out _ _ ?_ (fun hHeld3 => ?_)
    · trivial
    clear hK K
    (try simp only [Act.put, List.setIfInBounds_toArray, List.set_cons_zero, List.set_cons_succ])
    refine wpAnyH_done (by kernel_rfl) ?_ _
    go_wp2
    (try simp only [Exit.inBlock, Exit.then])
    refine bodyPost_ret (v := .agg #[.bool p3, .slice ao3 n3 c3]) (by simp [results, go_sem, q1, q2]) rfl ?_
    rw [HZ.out] at hr3
    have X1 := HA.trans (b1.mono HA.size)
    have X2 := X1.trans (b2.mono X1.size)
    have X3 := X2.trans (b3.mono X2.size)
    exact ⟨_, rfl, hr3.store2 q1 q2 _ _, below_store2 X3 (by omega) _ _⟩

end Go.Proofs.Ytlegcekklknjhaa

/-
  A list of whole numbers that comes in, as an argument; a row of the call's own of whole numbers.
-/
namespace Go.Proofs.Ytlegcekklknjhaa
open Go.ChangeShapes Go.WideShapes Go.ChangeAt Go.RowKit
set_option linter.unusedVariables false

/-- A list of whole numbers as it comes in; z i is the i-th cut to K limbs. -/
def RawRow (w : World) (v : Value) (n : Nat) (z : Nat → Int) (K : Nat) : Prop :=
  ∃ el, RowAt 2 w v n el ∧ ∀ i, i < n → ∃ p ao m c f, el i 0 = .bool p ∧ el i 1 = .slice ao m c ∧ Raw w (.slice ao m c) m f ∧ z i = zof p (num f (min m K))
theorem RawRow.below {w w' : World} {v : Value} {n : Nat} {z : Nat → Int} {K : Nat} (h : RawRow w v n z K) (hb : Below w.heap.size w w') : RawRow w' v n z K := by
  obtain ⟨el, h1, h2⟩ := h
  exact ⟨el, h1.below hb, fun i hi => let ⟨p, ao, m, c, f, a, b, r, e⟩ := h2 i hi; ⟨p, ao, m, c, f, a, b, r.below hb, e⟩⟩
/-- The i-th of them. -/
theorem RawRow.at {w : World} {v : Value} {n : Nat} {z : Nat → Int} {K : Nat} (h : RawRow w v n z K) (i : Nat) (hi : i < n) :
    ∃ b off c p ao m d f, v = .slice (some ⟨b, off, none⟩) n c ∧ n ≤ c ∧ w.cell? ⟨b, off + i * 2, none⟩ = some (.bool p) ∧ w.cell? ⟨b, off + i * 2 + 1, none⟩ = some (.slice ao m d) ∧ Raw w (.slice ao m d) m f ∧ z i = zof p (num f (min m K)) := by
  obtain ⟨el, ⟨a, c, h1, h2, h3, h4⟩, h5⟩ := h
  obtain ⟨b, off, rfl, hc⟩ := h4 (by omega)
  obtain ⟨p, ao, m, d, f, e0, e1, r, e⟩ := h5 i hi
  have c0 := hc i hi 0 (by omega)
  have c1 := hc i hi 1 (by omega)
  rw [e0] at c0
  rw [e1] at c1
  exact ⟨b, off, c, p, ao, m, d, f, h1, h2, c0, c1, r, e⟩
theorem add_off (b off j : Nat) : (⟨b, off, none⟩ : Addr).add j = ⟨b, off + j, none⟩ := by unfold Addr.add; split <;> simp_all
set_option maxRecDepth 100000 in
theorem open_wints {H : Type} {enc : TypeId × Value → H} {W : World} {base b0 : Nat} {r : Reach} {v : Value} {d : DataW H} {ps : List MemPlace} (K : Nat)
    (hval : Value.okWide Try.prog W r b0 22 v) (h : DataW.Trod enc Try.prog W base (fun _ => true) true 22 v d ps) : ∃ n z, RawRow W v n z K := by
  obtain ⟨a, len, cap, rfl⟩ := okWide_slice Try.underlying22 hval
  obtain ⟨fuel, hf⟩ := h
  rcases Go.Deep.open_slice_pairs Try.underlying22 Try.underlying31 cells_wint rfl rfl cells_bool cells_nat hf with ⟨hcs, _⟩ | ⟨x, l, c, m, n, V0, V1, D0, D1, P0, P1, hcs, _, hl, hm, hmm, _, hall⟩
  · simp [Value.cells] at hcs
    obtain ⟨rfl, rfl, rfl⟩ := hcs
    exact ⟨0, fun _ => 0, fun _ _ => .bool false, RowAt.nil _ _ _, fun i hi => by omega⟩
  · simp [Value.cells] at hcs
    obtain ⟨rfl, rfl, rfl⟩ := hcs
    rw [if_pos rfl] at hmm
    subst hmm
    have each : ∀ i, ∃ zi : Int, i < len → ∃ p ao m c f, V0 i = .bool p ∧ V1 i = .slice ao m c ∧ Raw W (.slice ao m c) m f ∧ zi = zof p (num f (min m K)) := by
      intro i
      by_cases hi : i < len
      · obtain ⟨g0, g1, t0, t1⟩ := hall i (by omega)
        obtain ⟨b, e0, _⟩ := DataW.trod_bool Try.underlying4 t0
        obtain ⟨ao, m, c, f, e1, hraw⟩ := open_nat t1
        exact ⟨_, fun _ => ⟨b, ao, m, c, f, by simpa using e0, by simpa using e1, hraw, rfl⟩⟩
      · exact ⟨0, fun h => absurd h hi⟩
    refine ⟨len, fun i => Classical.choose (each i), fun i j => if j = 0 then V0 i else V1 i, ⟨_, _, rfl, hl, by unfold maxLen at hm; omega, fun h0 => ?_⟩, fun i hi => ?_⟩
    · obtain ⟨b, off, spot⟩ := x
      have hc := (hall 0 (by omega)).1
      have hspot : spot = none := by simpa [Addr.add] using World.cell?_spot hc
      subst hspot
      refine ⟨b, off, rfl, fun i hi j hj => ?_⟩
      obtain ⟨g0, g1, _, _⟩ := hall i (by omega)
      rw [add_off] at g0 g1
      rcases (show j = 0 ∨ j = 1 by omega) with rfl | rfl
      · exact g0
      · exact g1
    · have h := Classical.choose_spec (each i) hi
      obtain ⟨p, ao, m, c, f, e0, e1, hr, e⟩ := h
      exact ⟨p, ao, m, c, f, e0, e1, hr, e⟩

theorem info_wint : (Try.prog.info? 31).map (fun i => (i.zero, i.size, i.bytes)) = some (some (.agg #[.bool false, .slice none 0 0]), 2, 32) := by kernel_rfl
/-- A row of the call's own of whole numbers, each of at most L limbs. -/
def IOwn (B : Nat) (w : World) (v : Value) (n : Nat) (z : Nat → Int) (L : Nat) : Prop :=
  ∃ (us : List Value) (el : Nat → Nat → Value), w.ownsRow B 31 2 v n us ∧ (∀ g, v.ownBlock = some g → PureB IsNum w g) ∧ (∀ i, i < n → ∀ j, j < 2 → us[i * 2 + j]? = some (el i j)) ∧ ∀ i, i < n → IntAt w (.agg #[el i 0, el i 1]) (z i) L
theorem IOwn.row {B : Nat} {w : World} {v : Value} {n : Nat} {z : Nat → Int} {L : Nat} (h : IOwn B w v n z L) : IRow w v n z L := by
  obtain ⟨us, el, h1, _, h3, h4⟩ := h
  exact ⟨el, RowAt.of_owns h1 h3, h4⟩
theorem IOwn.nil (B : Nat) (w : World) (z : Nat → Int) (L : Nat) : IOwn B w (.slice none 0 0) 0 z L :=
  ⟨[], fun _ _ => .bool false, World.ownsRow_nil _ _ _ _, fun g h => (by cases h), fun i hi => (by omega), fun i hi => (by omega)⟩
theorem IOwn.below {B : Nat} {w w' : World} {v : Value} {n : Nat} {z : Nat → Int} {L : Nat} (h : IOwn B w v n z L) (hb : Below w.heap.size w w') : IOwn B w' v n z L := by
  obtain ⟨us, el, h1, h2, h3, h4⟩ := h
  exact ⟨us, el, owns_later h1 hb, fun g hg => (h2 g hg).below hb (h1.lt g hg).2, h3, fun i hi => (h4 i hi).below hb⟩
/-- Something else was set. -/
theorem IOwn.other {B : Nat} {w w' : World} {v : Value} {n : Nat} {z : Nat → Int} {L : Nat} {row : Option Nat} (h : IOwn B w v n z L) (hg : w.grownBy w' row) (hk : KeepQ IsNum w w') (hne : ∀ g, row = some g → g < B) : IOwn B w' v n z L := by
  obtain ⟨us, el, h1, h2, h3, h4⟩ := h
  have hv : ∀ g, v.ownBlock = some g → some g ≠ row := fun g hg e => by have := (h1.lt g hg).1; have := hne g e.symm; omega
  refine ⟨us, el, h1.kept hg ?_, fun g hgg o u hu => h2 g hgg o u ?_, h3, fun i hi => (h4 i hi).keep hk⟩
  · cases hb : v.ownBlock with
    | none => exact .inl rfl
    | some g => exact .inr (hv g hb)
  · rw [← World.cell?_of_block (w := w) (hg.block g (h1.lt g hgg).2 (hv g hgg))]; exact hu
theorem IOwn.more {B : Nat} {w w' : World} {n g' cap' : Nat} {z : Nat → Int} {L : Nat} {us : List Value} {el : Nat → Nat → Value} {x0 x1 : Value} (h1 : w'.ownsRow B 31 2 (.slice (some ⟨g', 0, none⟩) (n + 1) cap') (n + 1) (us ++ [x0, x1]))
    (hp : PureB IsNum w' g') (hl : us.length = n * 2) (h3 : ∀ i, i < n → ∀ j, j < 2 → us[i * 2 + j]? = some (el i j)) (h4 : ∀ i, i < n → IntAt w (.agg #[el i 0, el i 1]) (z i) L) (hx : IntAt w (.agg #[x0, x1]) (z n) L) (hk : KeepQ IsNum w w') :
    IOwn B w' (.slice (some ⟨g', 0, none⟩) (n + 1) cap') (n + 1) z L := by
  refine ⟨_, fun i j => if i < n then el i j else if j = 0 then x0 else x1, h1, fun g hg => by simp only [Value.ownBlock, Option.some.injEq] at hg; subst hg; exact hp, fun i hi j hj => ?_, fun i hi => ?_⟩
  · by_cases hin : i < n
    · show _ = some (if i < n then el i j else if j = 0 then x0 else x1)
      rw [if_pos hin, List.getElem?_append_left (by omega)]; exact h3 i hin j hj
    · obtain rfl : i = n := by omega
      show _ = some (if i < i then el i j else if j = 0 then x0 else x1)
      rw [if_neg hin, List.getElem?_append_right (by omega), hl, Nat.add_sub_cancel_left]
      rcases (show j = 0 ∨ j = 1 by omega) with rfl | rfl <;> rfl
  · by_cases hin : i < n
    · simp only [if_pos hin]; exact (h4 i hin).keep hk
    · obtain rfl : i = n := by omega
      simp only [if_neg hin]; exact hx.keep hk
theorem grown_set2 (w : World) (R : Nat) (x y : Value) : w.grownBy ((w.setCell ⟨R, 0, none⟩ x).setCell ⟨R, 1, none⟩ y) (some R) :=
  ⟨rfl, rfl, rfl, by simp, fun k _ hk => by rw [Below.heap_setCell _ _ _ _ (fun e => hk (by rw [e])), Below.heap_setCell _ _ _ _ (fun e => hk (by rw [e]))]⟩
theorem V2.grown {w w' : World} {R : Nat} {x y : Value} {row : Option Nat} (h : V2 w R x y) (hg : w.grownBy w' row) (hne : some R ≠ row) : V2 w' R x y := by
  have hb := hg.block R h.lt hne
  exact ⟨(World.cell?_of_block (w := w) hb).trans h.1, (World.cell?_of_block (w := w) hb).trans h.2.1, (World.frozen?_of_block (w := w) hb).trans h.2.2.1, (World.frozen?_of_block (w := w) hb).trans h.2.2.2⟩

end Go.Proofs.Ytlegcekklknjhaa
