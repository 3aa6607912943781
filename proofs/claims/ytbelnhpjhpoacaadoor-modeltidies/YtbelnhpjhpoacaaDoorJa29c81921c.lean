/-
  Texts of mine.
-/
import Derived.Test.YtbelnhpjhpoacaaDoorJbf6b02c3c1
import Derived.Laws.AppendOwn
import Derived.Laws.CopyOwn
namespace Go.Proofs.YtbelnhpjhpoacaaDoor
open Go.RowKit
set_option linter.unusedVariables false

/-- No cell of block g holds such a value. -/
def PureB (Q : Value → Prop) (w : World) (g : Nat) : Prop := ∀ o v, w.cell? ⟨g, o, none⟩ = some v → ¬ Q v
/-- Cells that hold such a value still do. -/
def KeepQ (Q : Value → Prop) (w w' : World) : Prop := ∀ b o v, Q v → w.cell? ⟨b, o, none⟩ = some v → w'.cell? ⟨b, o, none⟩ = some v
/-- A number. -/
def IsNum (v : Value) : Prop := ∃ k x, v = .int k x
theorem num_bool (b : Bool) : ¬ IsNum (.bool b) := fun ⟨_, _, h⟩ => by cases h
theorem num_slice (a : Option Addr) (n c : Nat) : ¬ IsNum (.slice a n c) := fun ⟨_, _, h⟩ => by cases h
theorem num_string (s : ByteArray) : ¬ IsNum (.string s) := fun ⟨_, _, h⟩ => by cases h
theorem num_pointer (a : Option Addr) : ¬ IsNum (.pointer a) := fun ⟨_, _, h⟩ => by cases h

theorem KeepQ.refl (Q : Value → Prop) (w : World) : KeepQ Q w w := fun _ _ _ _ h => h
theorem KeepQ.trans {Q : Value → Prop} {w w1 w2 : World} (h : KeepQ Q w w1) (g : KeepQ Q w1 w2) : KeepQ Q w w2 := fun b o v hq hv => g b o v hq (h b o v hq hv)
theorem KeepQ.below {Q : Value → Prop} {w w' : World} (h : Below w.heap.size w w') : KeepQ Q w w' := fun _ _ _ _ hv => (h.cell (World.block_lt_of_cell? w _ hv)).trans hv
theorem PureB.below {Q : Value → Prop} {w w' : World} {g : Nat} (h : PureB Q w g) (hb : Below w.heap.size w w') (hg : g < w.heap.size) : PureB Q w' g := fun o v hv => h o v ((hb.cell hg).symm.trans hv)
theorem pure_of_cells {Q : Value → Prop} {w : World} {g : Nat} {cur : Array Value} {e : TypeId} {fr : Nat × Nat} (hg : w.heap[g]? = some (.cells cur e fr)) (h : ∀ u ∈ cur.toList, ¬ Q u) : PureB Q w g := by
  intro o v hv
  rw [cell_of_row w g o cur e fr hg] at hv
  exact h v (by rw [← Array.getElem?_toList] at hv; exact List.mem_of_getElem? hv)
theorem pure_cells {Q : Value → Prop} {w : World} {g : Nat} {cur : Array Value} {e : TypeId} {fr : Nat × Nat} (hg : w.heap[g]? = some (.cells cur e fr)) (h : PureB Q w g) : ∀ u ∈ cur.toList, ¬ Q u := by
  intro u hu
  obtain ⟨i, hi⟩ := List.getElem?_of_mem hu
  exact h i u (by rw [cell_of_row w g i cur e fr hg, ← Array.getElem?_toList]; exact hi)
theorem mem_zeroCells {z : Array Value} {n : Nat} {u : Value} (hz : 0 < z.size) (h : u ∈ (Builtin.zeroCells z n).toList) : u ∈ z.toList := by
  simp only [Builtin.zeroCells, Array.toList_map, List.mem_map] at h
  obtain ⟨i, _, rfl⟩ := h
  have hlt : i % z.size < z.size := Nat.mod_lt _ hz
  rw [getElem!_pos z (i % z.size) hlt]
  exact Array.mem_toList_iff.2 (Array.getElem_mem hlt)

theorem keep_alloc {Q : Value → Prop} (w : World) (o : Obj) : KeepQ Q w (w.drew.alloc o) := fun b p v _ hv =>
  (World.cell?_of_block (w := w) (Below.heap_alloc w.drew o b (World.block_lt_of_cell? w _ hv))).trans hv

/-- 'append' of m values at once, a row of the call's own ahead. -/
theorem append_pure {P : Program} {Q : Value → Prop} (w : World) (base : Nat) (t ty e : TypeId) (i : TypeInfo) (z : Value) (size bytes : Nat) (ht : P.underlying t = some (.slice e)) (hi : P.info? e = some i) (hz : i.zero = some z)
    (hsize : i.size = size) (hby : i.bytes = bytes) (hzs : z.cells.size = size) (hsz : 0 < size)
    (v : Value) (n : Nat) (xs : List Value) (hown : w.ownsRow base e size v n xs) (hpure : ∀ g, v.ownBlock = some g → PureB Q w g)
    (a : Addr) (c : Nat) (news : List Value) (hl : news.length = size) (hnews : ∀ j u, news[j]? = some u → w.cell? (a.add j) = some u) (h1 : ∀ u ∈ news, u.oneCell' = true)
    (hq : ∀ u ∈ news, ¬ Q u) (hqz : ∀ u ∈ z.cells.toList, ¬ Q u)
    (h63 : n ≤ 1000000000) (hbytes : bytes ≤ 1000) (hbase : base ≤ w.heap.size) :
    ∃ g' cap' w', (Builtin.append_ #[t, t] ty #[v, .slice (some a) 1 c]).run P w = .ok (.slice (some ⟨g', 0, none⟩) (n + 1) cap') w' ∧ w'.ownsRow base e size (.slice (some ⟨g', 0, none⟩) (n + 1) cap') (n + 1) (xs ++ news) ∧
      w.grownBy w' v.ownBlock ∧ (v.ownBlock = some g' ∨ g' = w.heap.size) ∧ PureB Q w' g' ∧ KeepQ Q w w' := by
  have hb2 : (n + 1) * bytes ≤ 140737488355328 := Nat.le_trans (Nat.mul_le_mul (show n + 1 ≤ 1000000001 by omega) hbytes) (by decide)
  have hb1 : 1 * bytes ≤ 281474976710656 := by omega
  have hmx : n + 1 ≤ maxLen := by unfold maxLen; omega
  obtain ⟨v', w', hr, h2, h3, _⟩ := run_append_own (P := P) w base t ty e i z size bytes ht hi hz hsize hby hzs hsz v n xs hown a 1 c news (by omega) hnews h1 hmx hb2 hbase
  subst hsize
  subst hby
  have hz0 : ∀ k, ∀ u ∈ (Builtin.zeroCells z.cells k).toList, ¬ Q u := fun k u hu => hqz u (mem_zeroCells (by omega) hu)
  rcases hown.2 with ⟨rfl, rfl⟩ | ⟨g, cap, cur, rfl, hbg, hg, hnc, hcm, hcs, htake⟩
  · have hr2 := run_append_nil (P := P) w t ty e i z ht hi hz a 1 c news (by omega) hnews (by omega) (by omega) hb1
    rw [hr2] at hr
    injection hr with hv hw
    subst hw
    subst hv
    simp only [Nat.zero_add] at h2 hr2 ⊢
    refine ⟨_, _, _, hr2, h2, h3, .inr rfl, ?_, keep_alloc w _⟩
    refine pure_of_cells (heap_alloc_new w.drew _) fun u hu => ?_
    rw [Array.toList_append, List.mem_append] at hu
    rcases hu with hu | hu
    · exact hq u (by simpa using hu)
    · exact hz0 _ u hu
  · have hpg := hpure g rfl
    have hcur := pure_cells hg hpg
    have hxs : ∀ u ∈ xs, ¬ Q u := fun u hu => hcur u (by rw [← htake] at hu; exact List.mem_of_mem_take hu)
    by_cases hroom : n + 1 ≤ cap
    · have hfit : n * i.size + news.length ≤ cur.size := by
        rw [hl, hcs]
        have := Nat.mul_le_mul_right i.size hroom
        rw [Nat.add_mul] at this; omega
      have hr2 := run_append_room (P := P) w t ty e i ht hi g n cap cur hg a 1 c news (by omega) hnews h1 hroom hfit
      rw [hr2] at hr
      injection hr with hv hw
      subst hw
      subst hv
      refine ⟨g, cap, _, hr2, h2, h3, .inl rfl, ?_, ?_⟩
      · refine pure_of_cells (setRow_heap w g cur _ e _ hg) fun u hu => ?_
        simp only [List.mem_append] at hu
        rcases hu with (hu | hu) | hu
        · exact hcur u (List.mem_of_mem_take hu)
        · exact hq u hu
        · exact hcur u (List.mem_of_mem_drop hu)
      · intro b o u hu hc
        by_cases hbg' : b = g
        · subst hbg'; exact absurd hu (hpg o u hc)
        · exact (World.cell?_of_block (w := w) (setRow_other w g b _ hbg')).trans hc
    · have holds : ∀ j u, xs[j]? = some u → w.cell? ((⟨g, 0, none⟩ : Addr).add j) = some u := hown.cells (g := g) rfl
      have hr2 := run_append_grow (P := P) w t ty e i z ht hi hz ⟨g, 0, none⟩ n cap xs hown.1 holds a 1 c news (by omega) hnews (by omega) (by omega) (growslice_fits (by omega) hb2)
      rw [hr2] at hr
      injection hr with hv hw
      subst hw
      subst hv
      refine ⟨_, _, _, hr2, h2, h3, .inr rfl, ?_, keep_alloc w _⟩
      refine pure_of_cells (heap_alloc_new w.drew _) fun u hu => ?_
      rw [Array.toList_append, Array.toList_append, List.mem_append, List.mem_append] at hu
      rcases hu with (hu | hu) | hu
      · exact hxs u (by simpa using hu)
      · exact hq u (by simpa using hu)
      · exact hz0 _ u hu

/-- The same, in a walk. -/
theorem wpList_append_pure {P : Program} {Q' : Value → Prop} {ops : Array Oper} {rest : List Oper} {o : Oper} {a : Act} {Q : Exit → Act → World → Prop} {w : World} (hgd : o.guard = none) (s x : Operand) (t : TypeId)
    (ho : o.op = .call { callee := .builtin .append, args := #[s, x], argTypes := #[t, t] }) (base : Nat) (e : TypeId) (z : Value) (size bytes : Nat) (ht : P.underlying t = some (.slice e))
    (hinfo : (P.info? e).map (fun i => (i.zero, i.size, i.bytes)) = some (some z, size, bytes)) (hzs : z.cells.size = size) (hsz : 0 < size)
    (v : Value) (hs : a.eval s = v) (n : Nat) (xs : List Value) (hown : w.ownsRow base e size v n xs) (hpure : ∀ g, v.ownBlock = some g → PureB Q' w g)
    (ad : Addr) (c : Nat) (hx : a.eval x = .slice (some ad) 1 c) (news : List Value) (hl : news.length = size) (hnews : ∀ j u, news[j]? = some u → w.cell? (ad.add j) = some u) (h1 : ∀ u ∈ news, u.oneCell' = true)
    (hq : ∀ u ∈ news, ¬ Q' u) (hqz : ∀ u ∈ z.cells.toList, ¬ Q' u) (h63 : n ≤ 1000000000) (hbytes : bytes ≤ 1000) (hbase : base ≤ w.heap.size)
    (h : ∀ g' cap' w', w'.ownsRow base e size (.slice (some ⟨g', 0, none⟩) (n + 1) cap') (n + 1) (xs ++ news) → w.grownBy w' v.ownBlock → (v.ownBlock = some g' ∨ g' = w.heap.size) → PureB Q' w' g' → KeepQ Q' w w' →
      wpList P ops Q rest (a.put o.dst (.slice (some ⟨g', 0, none⟩) (n + 1) cap')) w') :
    wpList P ops Q (o :: rest) a w := by
  obtain ⟨i0, hi, hz0, hz1, hz2⟩ := info_parts hinfo
  obtain ⟨g', cap', w', hr, h2, h3, h4, h5, h6⟩ := append_pure (P := P) (Q := Q') w base t o.type e i0 z size bytes ht hi hz0 hz1 hz2 hzs hsz v n xs hown hpure ad c news hl hnews h1 hq hqz h63 hbytes hbase
  refine wpList_plain hgd fun K hK => ?_
  unfold Oper.wp execOp
  simp only [ho, resolve, invoke, builtin, Sem.run_bind, Sem.run_pure, Result.andThen_ok, List.map_toArray, List.map_cons, List.map_nil, hs, hx, hr]
  exact hK _ _ (h g' cap' w' h2 h3 h4 h5 h6)

/-- The same, at a step of a region that draws its order. -/
theorem step_append_pure {P : Program} {Q' : Value → Prop} {ops : Array Oper} {o : Oper} {a : Act} {K : Act → World → Prop} {Q : Exit → Act → World → Prop} {E : Prop} {w : World} (hgd : o.guard = none) (s x : Operand) (t : TypeId)
    (ho : o.op = .call { callee := .builtin .append, args := #[s, x], argTypes := #[t, t] }) (base : Nat) (e : TypeId) (z : Value) (size bytes : Nat) (ht : P.underlying t = some (.slice e))
    (hinfo : (P.info? e).map (fun i => (i.zero, i.size, i.bytes)) = some (some z, size, bytes)) (hzs : z.cells.size = size) (hsz : 0 < size)
    (v : Value) (hs : a.eval s = v) (n : Nat) (xs : List Value) (hown : w.ownsRow base e size v n xs) (hpure : ∀ g, v.ownBlock = some g → PureB Q' w g)
    (ad : Addr) (c : Nat) (hx : a.eval x = .slice (some ad) 1 c) (news : List Value) (hl : news.length = size) (hnews : ∀ j u, news[j]? = some u → w.cell? (ad.add j) = some u) (h1 : ∀ u ∈ news, u.oneCell' = true)
    (hq : ∀ u ∈ news, ¬ Q' u) (hqz : ∀ u ∈ z.cells.toList, ¬ Q' u) (h63 : n ≤ 1000000000) (hbytes : bytes ≤ 1000) (hbase : base ≤ w.heap.size)
    (h : ∀ g' cap' w', w'.ownsRow base e size (.slice (some ⟨g', 0, none⟩) (n + 1) cap') (n + 1) (xs ++ news) → w.grownBy w' v.ownBlock → (v.ownBlock = some g' ∨ g' = w.heap.size) → PureB Q' w' g' → KeepQ Q' w w' →
      K (a.put o.dst (.slice (some ⟨g', 0, none⟩) (n + 1) cap')) w') :
    if Region.wanted o (yielded ops a.tmps) = true then Oper.wp P o a w K Q else E := by
  have hw : Region.wanted o (yielded ops a.tmps) = true := by simp [Region.wanted, hgd]
  rw [if_pos hw]
  obtain ⟨i0, hi, hz0, hz1, hz2⟩ := info_parts hinfo
  obtain ⟨g', cap', w', hr, h2, h3, h4, h5, h6⟩ := append_pure (P := P) (Q := Q') w base t o.type e i0 z size bytes ht hi hz0 hz1 hz2 hzs hsz v n xs hown hpure ad c news hl hnews h1 hq hqz h63 hbytes hbase
  unfold Oper.wp execOp
  simp only [ho, resolve, invoke, builtin, Sem.run_bind, Sem.run_pure, Result.andThen_ok, List.map_toArray, List.map_cons, List.map_nil, hs, hx, hr]
  exact h g' cap' w' h2 h3 h4 h5 h6

theorem Nums.keep {k : IntKind} {w w' : World} {v : Value} {n : Nat} {f : Nat → Int} (h : Nums k w v n f) (hk : KeepQ IsNum w w') : Nums k w' v n f := by
  obtain ⟨ao, c, h1, h2, h3, h4⟩ := h
  exact ⟨ao, c, h1, h2, h3, fun hn => let ⟨b, off, e, hc⟩ := h4 hn; ⟨b, off, e, fun i hi => hk _ _ _ ⟨_, _, rfl⟩ (hc i hi)⟩⟩
theorem owns_later {B k : Nat} {e : TypeId} {w w' : World} {v : Value} {n : Nat} {us : List Value} (h : w.ownsRow B e k v n us) (hb : Below w.heap.size w w') : w'.ownsRow B e k v n us := by
  refine ⟨h.1, ?_⟩
  rcases h.2 with hn | ⟨g, cap, cur, rfl, hB, hg, rest⟩
  · exact .inl hn
  · refine .inr ⟨g, cap, cur, rfl, hB, ?_, rest⟩
    rw [hb.block g (Array.getElem?_eq_some_iff.1 hg).1]
    exact hg
theorem below_grownB {B : Nat} {wb w w' : World} {row : Option Nat} (h : Below B wb w) (hg : w.grownBy w' row) (hB : B ≤ w.heap.size) (hr : ∀ g, row = some g → B ≤ g) : Below B wb w' :=
  h.grown hg hB hr

/-- What was appended lay in a block of its own. -/
theorem news_block {w : World} {B : Nat} {cs : Array Value} {t : TypeId} (hb : w.heap[B]? = some (.cells cs t (0, 0))) : ∀ j u, cs.toList[j]? = some u → w.cell? ((⟨B, 0, none⟩ : Addr).add j) = some u := fun j u hu => by
  have hadd : (⟨B, 0, none⟩ : Addr).add j = ⟨B, j, none⟩ := by unfold Addr.add; split <;> simp_all
  rw [hadd, cell_of_row w B j cs t _ hb]
  simpa using hu
theorem owns_cell {w : World} {base k : Nat} {e : TypeId} {g n cap : Nat} {xs : List Value} (h : w.ownsRow base e k (.slice (some ⟨g, 0, none⟩) n cap) n xs) {j : Nat} {u : Value} (hu : xs[j]? = some u) : w.cell? ⟨g, j, none⟩ = some u := by
  have := h.cells (g := g) rfl j u hu
  have hadd : (⟨g, 0, none⟩ : Addr).add j = ⟨g, j, none⟩ := by unfold Addr.add; split <;> simp_all
  rw [hadd] at this; exact this
theorem owns_cap {w : World} {base k : Nat} {e : TypeId} {g n cap : Nat} {xs : List Value} (h : w.ownsRow base e k (.slice (some ⟨g, 0, none⟩) n cap) n xs) : n ≤ cap ∧ base ≤ g ∧ g < w.heap.size := by
  have h2 := h.lt g rfl
  rcases h.2 with ⟨h0, _⟩ | ⟨_, _, _, he, _, _, hnc, _⟩
  · cases h0
  · cases he; exact ⟨hnc, h2.1, h2.2⟩
theorem owns_new (w : World) (base k : Nat) (e : TypeId) (cs : Array Value) (hb : base ≤ w.heap.size) (hk : cs.size = k) : (w.alloc (.cells cs e)).ownsRow base e k (.slice (some ⟨w.heap.size, 0, none⟩) 1 1) 1 cs.toList :=
  ⟨by simp [hk], .inr ⟨_, 1, cs, rfl, hb, heap_alloc_new _ _, Nat.le_refl _, by unfold maxLen; omega, by omega, by rw [Nat.one_mul, ← hk, ← Array.length_toList]; exact List.take_length⟩⟩

/-- 'append' of m values at once, a row of the call's own ahead. -/
theorem append_pureM {P : Program} {Q : Value → Prop} (w : World) (base : Nat) (t ty e : TypeId) (i : TypeInfo) (z : Value) (size bytes : Nat) (ht : P.underlying t = some (.slice e)) (hi : P.info? e = some i) (hz : i.zero = some z)
    (hsize : i.size = size) (hby : i.bytes = bytes) (hzs : z.cells.size = size) (hsz : 0 < size)
    (v : Value) (n : Nat) (xs : List Value) (hown : w.ownsRow base e size v n xs) (hpure : ∀ g, v.ownBlock = some g → PureB Q w g)
    (a : Addr) (m c : Nat) (hm1 : 1 ≤ m) (hm2 : m ≤ 1000) (news : List Value) (hl : news.length = m * size) (hnews : ∀ j u, news[j]? = some u → w.cell? (a.add j) = some u) (h1 : ∀ u ∈ news, u.oneCell' = true)
    (hq : ∀ u ∈ news, ¬ Q u) (hqz : ∀ u ∈ z.cells.toList, ¬ Q u)
    (h63 : n ≤ 1000000000) (hbytes : bytes ≤ 1000) (hbase : base ≤ w.heap.size) :
    ∃ g' cap' w', (Builtin.append_ #[t, t] ty #[v, .slice (some a) m c]).run P w = .ok (.slice (some ⟨g', 0, none⟩) (n + m) cap') w' ∧ w'.ownsRow base e size (.slice (some ⟨g', 0, none⟩) (n + m) cap') (n + m) (xs ++ news) ∧
      w.grownBy w' v.ownBlock ∧ (v.ownBlock = some g' ∨ g' = w.heap.size) ∧ PureB Q w' g' ∧ KeepQ Q w w' := by
  have hb2 : (n + m) * bytes ≤ 140737488355328 := Nat.le_trans (Nat.mul_le_mul (show n + m ≤ 1000001000 by omega) hbytes) (by decide)
  have hb1 : m * bytes ≤ 281474976710656 := Nat.le_trans (Nat.mul_le_mul hm2 hbytes) (by decide)
  have hmx : n + m ≤ maxLen := by unfold maxLen; omega
  obtain ⟨v', w', hr, h2, h3, _⟩ := run_append_own (P := P) w base t ty e i z size bytes ht hi hz hsize hby hzs hsz v n xs hown a m c news (by omega) hnews h1 hmx hb2 hbase
  subst hsize
  subst hby
  have hz0 : ∀ k, ∀ u ∈ (Builtin.zeroCells z.cells k).toList, ¬ Q u := fun k u hu => hqz u (mem_zeroCells (by omega) hu)
  rcases hown.2 with ⟨rfl, rfl⟩ | ⟨g, cap, cur, rfl, hbg, hg, hnc, hcm, hcs, htake⟩
  · have hr2 := run_append_nil (P := P) w t ty e i z ht hi hz a m c news (by omega) hnews (by omega) (by omega) hb1
    rw [hr2] at hr
    injection hr with hv hw
    subst hw
    subst hv
    simp only [Nat.zero_add] at h2 hr2 ⊢
    refine ⟨_, _, _, hr2, h2, h3, .inr rfl, ?_, keep_alloc w _⟩
    refine pure_of_cells (heap_alloc_new w.drew _) fun u hu => ?_
    rw [Array.toList_append, List.mem_append] at hu
    rcases hu with hu | hu
    · exact hq u (by simpa using hu)
    · exact hz0 _ u hu
  · have hpg := hpure g rfl
    have hcur := pure_cells hg hpg
    have hxs : ∀ u ∈ xs, ¬ Q u := fun u hu => hcur u (by rw [← htake] at hu; exact List.mem_of_mem_take hu)
    by_cases hroom : n + m ≤ cap
    · have hfit : n * i.size + news.length ≤ cur.size := by
        rw [hl, hcs]
        have := Nat.mul_le_mul_right i.size hroom
        rw [Nat.add_mul] at this; omega
      have hr2 := run_append_room (P := P) w t ty e i ht hi g n cap cur hg a m c news (by omega) hnews h1 hroom hfit
      rw [hr2] at hr
      injection hr with hv hw
      subst hw
      subst hv
      refine ⟨g, cap, _, hr2, h2, h3, .inl rfl, ?_, ?_⟩
      · refine pure_of_cells (setRow_heap w g cur _ e _ hg) fun u hu => ?_
        simp only [List.mem_append] at hu
        rcases hu with (hu | hu) | hu
        · exact hcur u (List.mem_of_mem_take hu)
        · exact hq u hu
        · exact hcur u (List.mem_of_mem_drop hu)
      · intro b o u hu hc
        by_cases hbg' : b = g
        · subst hbg'; exact absurd hu (hpg o u hc)
        · exact (World.cell?_of_block (w := w) (setRow_other w g b _ hbg')).trans hc
    · have holds : ∀ j u, xs[j]? = some u → w.cell? ((⟨g, 0, none⟩ : Addr).add j) = some u := hown.cells (g := g) rfl
      have hr2 := run_append_grow (P := P) w t ty e i z ht hi hz ⟨g, 0, none⟩ n cap xs hown.1 holds a m c news (by omega) hnews (by omega) (by omega) (growslice_fits (by omega) hb2)
      rw [hr2] at hr
      injection hr with hv hw
      subst hw
      subst hv
      refine ⟨_, _, _, hr2, h2, h3, .inr rfl, ?_, keep_alloc w _⟩
      refine pure_of_cells (heap_alloc_new w.drew _) fun u hu => ?_
      rw [Array.toList_append, Array.toList_append, List.mem_append, List.mem_append] at hu
      rcases hu with (hu | hu) | hu
      · exact hxs u (by simpa using hu)
      · exact hq u (by simpa using hu)
      · exact hz0 _ u hu

/-- The same, in a walk. -/
theorem wpList_append_pureM {P : Program} {Q' : Value → Prop} {ops : Array Oper} {rest : List Oper} {o : Oper} {a : Act} {Q : Exit → Act → World → Prop} {w : World} (hgd : o.guard = none) (s x : Operand) (t : TypeId)
    (ho : o.op = .call { callee := .builtin .append, args := #[s, x], argTypes := #[t, t] }) (base : Nat) (e : TypeId) (z : Value) (size bytes : Nat) (ht : P.underlying t = some (.slice e))
    (hinfo : (P.info? e).map (fun i => (i.zero, i.size, i.bytes)) = some (some z, size, bytes)) (hzs : z.cells.size = size) (hsz : 0 < size)
    (v : Value) (hs : a.eval s = v) (n : Nat) (xs : List Value) (hown : w.ownsRow base e size v n xs) (hpure : ∀ g, v.ownBlock = some g → PureB Q' w g)
    (ad : Addr) (m c : Nat) (hm1 : 1 ≤ m) (hm2 : m ≤ 1000) (hx : a.eval x = .slice (some ad) m c) (news : List Value) (hl : news.length = m * size) (hnews : ∀ j u, news[j]? = some u → w.cell? (ad.add j) = some u) (h1 : ∀ u ∈ news, u.oneCell' = true)
    (hq : ∀ u ∈ news, ¬ Q' u) (hqz : ∀ u ∈ z.cells.toList, ¬ Q' u) (h63 : n ≤ 1000000000) (hbytes : bytes ≤ 1000) (hbase : base ≤ w.heap.size)
    (h : ∀ g' cap' w', w'.ownsRow base e size (.slice (some ⟨g', 0, none⟩) (n + m) cap') (n + m) (xs ++ news) → w.grownBy w' v.ownBlock → (v.ownBlock = some g' ∨ g' = w.heap.size) → PureB Q' w' g' → KeepQ Q' w w' →
      wpList P ops Q rest (a.put o.dst (.slice (some ⟨g', 0, none⟩) (n + m) cap')) w') :
    wpList P ops Q (o :: rest) a w := by
  obtain ⟨i0, hi, hz0, hz1, hz2⟩ := info_parts hinfo
  obtain ⟨g', cap', w', hr, h2, h3, h4, h5, h6⟩ := append_pureM (P := P) (Q := Q') w base t o.type e i0 z size bytes ht hi hz0 hz1 hz2 hzs hsz v n xs hown hpure ad m c hm1 hm2 news hl hnews h1 hq hqz h63 hbytes hbase
  refine wpList_plain hgd fun K hK => ?_
  unfold Oper.wp execOp
  simp only [ho, resolve, invoke, builtin, Sem.run_bind, Sem.run_pure, Result.andThen_ok, List.map_toArray, List.map_cons, List.map_nil, hs, hx, hr]
  exact hK _ _ (h g' cap' w' h2 h3 h4 h5 h6)

end Go.Proofs.YtbelnhpjhpoacaaDoor
