/-
  Texts of mine.
-/
import Derived.Test.YthkamfddbiheoaaGreatDoorJ4ee272a78f
import Derived.Laws.AppendOwn
import Derived.Laws.CopyOwn
namespace Go.Proofs.YthkamfddbiheoaaGreatDoor
open Go.RowKit
set_option linter.unusedVariables false

/-- No cell of block g holds such a value. -/
def PureB (Q : Value → Prop) (w : World) (g : Nat) : Prop := ∀ o v, w.cell? ⟨g, o, none⟩ = some v → ¬ Q v
/-- Cells that hold such a value still do. -/
def KeepQ (Q : Value → Prop) (w w' : World) : Prop := ∀ b o v, Q v → w.cell? ⟨b, o, none⟩ = some v → w'.cell? ⟨b, o, none⟩ = some v
/-- A number. -/
def IsNum (v : Value) : Prop := ∃ k x, v = .int k x
theorem num_bool (b : Bool) : ¬ IsNum (.bool b) := fun ⟨_, _, h⟩ => by cases h
theorem num_slice (a : Option Addr) (n c : Nat) : ¬ IsNum (.slice a n c) := fun ⟨_, _, h⟩ => by cases h
theorem KeepQ.refl (Q : Value → Prop) (w : World) : KeepQ Q w w := fun _ _ _ _ h => h
theorem KeepQ.trans {Q : Value → Prop} {w w1 w2 : World} (h : KeepQ Q w w1) (g : KeepQ Q w1 w2) : KeepQ Q w w2 := fun b o v hq hv => g b o v hq (h b o v hq hv)
theorem KeepQ.below {Q : Value → Prop} {w w' : World} (h : Below w.heap.size w w') : KeepQ Q w w' := fun _ _ _ _ hv => (h.cell (World.block_lt_of_cell? w _ hv)).trans hv
theorem PureB.below {Q : Value → Prop} {w w' : World} {g : Nat} (h : PureB Q w g) (hb : Below w.heap.size w w') (hg : g < w.heap.size) : PureB Q w' g := fun o v hv => h o v ((hb.cell hg).symm.trans hv)
theorem pure_of_cells {Q : Value → Prop} {w : World} {g : Nat} {cur : Array Value} {e : TypeId} {fr : Nat × Nat} (hg : w.heap[g]? = some (.cells cur e fr)) (h : ∀ u ∈ cur.toList, ¬ Q u) : PureB Q w g := by
 intro o v hv
 rw [cell_of_row w g o cur e fr hg] at hv
 exact h v (by rw [← Array.getElem?_toList] at hv; exact List.mem_of_getElem? hv)
theorem pure_cells {Q : Value → Prop} {w : World} {g : Nat} {cur : Array Value} {e : TypeId} {fr : Nat × Nat} (hg : w.heap[g]? = some (.cells cur e fr)) (h : PureB Q w g) : ∀ u ∈ cur.toList, ¬ Q u := by
 intro u hu
 obtain ⟨i, hi⟩ := List.getElem?_of_mem hu
 exact h i u (by rw [cell_of_row w g i cur e fr hg, ← Array.getElem?_toList]; exact hi)
theorem mem_zeroCells {z : Array Value} {n : Nat} {u : Value} (hz : 0 < z.size) (h : u ∈ (Builtin.zeroCells z n).toList) : u ∈ z.toList := by
 simp only [Builtin.zeroCells, Array.toList_map, List.mem_map] at h
 obtain ⟨i, _, rfl⟩ := h
 have hlt : i % z.size < z.size := Nat.mod_lt _ hz
 rw [getElem!_pos z (i % z.size) hlt]
 exact Array.mem_toList_iff.2 (Array.getElem_mem hlt)

theorem keep_alloc {Q : Value → Prop} (w : World) (o : Obj) : KeepQ Q w (w.drew.alloc o) := fun b p v _ hv =>
 (World.cell?_of_block (w := w) (Below.heap_alloc w.drew o b (World.block_lt_of_cell? w _ hv))).trans hv

/-- 'append' of m values at once, a row of the call's own ahead. -/
theorem append_pure {P : Program} {Q : Value → Prop} (w : World) (base : Nat) (t ty e : TypeId) (i : TypeInfo) (z : Value) (size bytes : Nat) (ht : P.underlying t = some (.slice e)) (hi : P.info? e = some i) (hz : i.zero = some z)
  (hsize : i.size = size) (hby : i.bytes = bytes) (hzs : z.cells.size = size) (hsz : 0 < size)
  (v : Value) (n : Nat) (xs : List Value) (hown : w.ownsRow base e size v n xs) (hpure : ∀ g, v.ownBlock = some g → PureB Q w g)
  (a : Addr) (c : Nat) (news : List Value) (hl : news.length = size) (hnews : ∀ j u, news[j]? = some u → w.cell? (a.add j) = some u) (h1 : ∀ u ∈ news, u.oneCell' = true)
  (hq : ∀ u ∈ news, ¬ Q u) (hqz : ∀ u ∈ z.cells.toList, ¬ Q u)
  (h63 : n ≤ 1000000000) (hbytes : bytes ≤ 1000) (hbase : base ≤ w.heap.size) :
  ∃ g' cap' w', (Builtin.append_ #[t, t] ty #[v, .slice (some a) 1 c]).run P w = .ok (.slice (some ⟨g', 0, none⟩) (n + 1) cap') w' ∧ w'.ownsRow base e size (.slice (some ⟨g', 0, none⟩) (n + 1) cap') (n + 1) (xs ++ news) ∧
   w.grownBy w' v.ownBlock ∧ (v.ownBlock = some g' ∨ g' = w.heap.size) ∧ PureB Q w' g' ∧ KeepQ Q w w' := by
 have hb2 : (n + 1) * bytes ≤ 140737488355328 := Nat.le_trans (Nat.mul_le_mul (show n + 1 ≤ 1000000001 by omega) hbytes) (by decide)
 have hb1 : 1 * bytes ≤ 281474976710656 := by omega
 have hmx : n + 1 ≤ maxLen := by unfold maxLen; omega
 obtain ⟨v', w', hr, h2, h3, _⟩ := run_append_own (P := P) w base t ty e i z size bytes ht hi hz hsize hby hzs hsz v n xs hown a 1 c news (by omega) hnews h1 hmx hb2 hbase
 subst hsize
 subst hby
 have hz0 : ∀ k, ∀ u ∈ (Builtin.zeroCells z.cells k).toList, ¬ Q u := fun k u hu => hqz u (mem_zeroCells (by omega) hu)
 rcases hown.2 with ⟨rfl, rfl⟩ | ⟨g, cap, cur, rfl, hbg, hg, hnc, hcm, hcs, htake⟩
 ·have hr2 := run_append_nil (P := P) w t ty e i z ht hi hz a 1 c news (by omega) hnews (by omega) (by omega) hb1
  rw [hr2] at hr
  injection hr with hv hw
  subst hw
  subst hv
  simp only [Nat.zero_add] at h2 hr2 ⊢
  refine ⟨_, _, _, hr2, h2, h3, .inr rfl, ?_, keep_alloc w _⟩
  refine pure_of_cells (heap_alloc_new w.drew _) fun u hu => ?_
  rw [Array.toList_append, List.mem_append] at hu
  rcases hu with hu | hu
  ·exact hq u (by simpa using hu)
  ·exact hz0 _ u hu
 ·have hpg := hpure g rfl
  have hcur := pure_cells hg hpg
  have hxs : ∀ u ∈ xs, ¬ Q u := fun u hu => hcur u (by rw [← htake] at hu; exact List.mem_of_mem_take hu)
  by_cases hroom : n + 1 ≤ cap
  ·have hfit : n * i.size + news.length ≤ cur.size := by
    rw [hl, hcs]
    have := Nat.mul_le_mul_right i.size hroom
    rw [Nat.add_mul] at this; omega
   have hr2 := run_append_room (P := P) w t ty e i ht hi g n cap cur hg a 1 c news (by omega) hnews h1 hroom hfit
   rw [hr2] at hr
   injection hr with hv hw
   subst hw
   subst hv
   refine ⟨g, cap, _, hr2, h2, h3, .inl rfl, ?_, ?_⟩
   ·refine pure_of_cells (setRow_heap w g cur _ e _ hg) fun u hu => ?_
    simp only [List.mem_append] at hu
    rcases hu with (hu | hu) | hu
    ·exact hcur u (List.mem_of_mem_take hu)
    ·exact hq u hu
    ·exact hcur u (List.mem_of_mem_drop hu)
   ·intro b o u hu hc
    by_cases hbg' : b = g
    ·subst hbg'; exact absurd hu (hpg o u hc)
    ·exact (World.cell?_of_block (w := w) (setRow_other w g b _ hbg')).trans hc
  ·have holds : ∀ j u, xs[j]? = some u → w.cell? ((⟨g, 0, none⟩ : Addr).add j) = some u := hown.cells (g := g) rfl
   have hr2 := run_append_grow (P := P) w t ty e i z ht hi hz ⟨g, 0, none⟩ n cap xs hown.1 holds a 1 c news (by omega) hnews (by omega) (by omega) (growslice_fits (by omega) hb2)
   rw [hr2] at hr
   injection hr with hv hw
   subst hw
   subst hv
   refine ⟨_, _, _, hr2, h2, h3, .inr rfl, ?_, keep_alloc w _⟩
   refine pure_of_cells (heap_alloc_new w.drew _) fun u hu => ?_
   rw [Array.toList_append, Array.toList_append, List.mem_append, List.mem_append] at hu
   rcases hu with (hu | hu) | hu
   ·exact hxs u (by simpa using hu)
   ·exact hq u (by simpa using hu)
   ·exact hz0 _ u hu

/-- The same, in a walk. -/
theorem wpList_append_pure {P : Program} {Q' : Value → Prop} {ops : Array Oper} {rest : List Oper} {o : Oper} {a : Act} {Q : Exit → Act → World → Prop} {w : World} (hgd : o.guard = none) (s x : Operand) (t : TypeId)
  (ho : o.op = .call { callee := .builtin .append, args := #[s, x], argTypes := #[t, t] }) (base : Nat) (e : TypeId) (z : Value) (size bytes : Nat) (ht : P.underlying t = some (.slice e))
  (hinfo : (P.info? e).map (fun i => (i.zero, i.size, i.bytes)) = some (some z, size, bytes)) (hzs : z.cells.size = size) (hsz : 0 < size)
  (v : Value) (hs : a.eval s = v) (n : Nat) (xs : List Value) (hown : w.ownsRow base e size v n xs) (hpure : ∀ g, v.ownBlock = some g → PureB Q' w g)
  (ad : Addr) (c : Nat) (hx : a.eval x = .slice (some ad) 1 c) (news : List Value) (hl : news.length = size) (hnews : ∀ j u, news[j]? = some u → w.cell? (ad.add j) = some u) (h1 : ∀ u ∈ news, u.oneCell' = true)
  (hq : ∀ u ∈ news, ¬ Q' u) (hqz : ∀ u ∈ z.cells.toList, ¬ Q' u) (h63 : n ≤ 1000000000) (hbytes : bytes ≤ 1000) (hbase : base ≤ w.heap.size)
  (h : ∀ g' cap' w', w'.ownsRow base e size (.slice (some ⟨g', 0, none⟩) (n + 1) cap') (n + 1) (xs ++ news) → w.grownBy w' v.ownBlock → (v.ownBlock = some g' ∨ g' = w.heap.size) → PureB Q' w' g' → KeepQ Q' w w' →
   wpList P ops Q rest (a.put o.dst (.slice (some ⟨g', 0, none⟩) (n + 1) cap')) w') :
  wpList P ops Q (o :: rest) a w := by
 obtain ⟨i0, hi, hz0, hz1, hz2⟩ := info_parts hinfo
 obtain ⟨g', cap', w', hr, h2, h3, h4, h5, h6⟩ := append_pure (P := P) (Q := Q') w base t o.type e i0 z size bytes ht hi hz0 hz1 hz2 hzs hsz v n xs hown hpure ad c news hl hnews h1 hq hqz h63 hbytes hbase
 refine wpList_plain hgd fun K hK => ?_
 unfold Oper.wp execOp
 simp only [ho, resolve, invoke, builtin, Sem.run_bind, Sem.run_pure, Result.andThen_ok, List.map_toArray, List.map_cons, List.map_nil, hs, hx, hr]
 exact hK _ _ (h g' cap' w' h2 h3 h4 h5 h6)

/-- The same, at a step of a region that draws its order. -/
theorem step_append_pure {P : Program} {Q' : Value → Prop} {ops : Array Oper} {o : Oper} {a : Act} {K : Act → World → Prop} {Q : Exit → Act → World → Prop} {E : Prop} {w : World} (hgd : o.guard = none) (s x : Operand) (t : TypeId)
  (ho : o.op = .call { callee := .builtin .append, args := #[s, x], argTypes := #[t, t] }) (base : Nat) (e : TypeId) (z : Value) (size bytes : Nat) (ht : P.underlying t = some (.slice e))
  (hinfo : (P.info? e).map (fun i => (i.zero, i.size, i.bytes)) = some (some z, size, bytes)) (hzs : z.cells.size = size) (hsz : 0 < size)
  (v : Value) (hs : a.eval s = v) (n : Nat) (xs : List Value) (hown : w.ownsRow base e size v n xs) (hpure : ∀ g, v.ownBlock = some g → PureB Q' w g)
  (ad : Addr) (c : Nat) (hx : a.eval x = .slice (some ad) 1 c) (news : List Value) (hl : news.length = size) (hnews : ∀ j u, news[j]? = some u → w.cell? (ad.add j) = some u) (h1 : ∀ u ∈ news, u.oneCell' = true)
  (hq : ∀ u ∈ news, ¬ Q' u) (hqz : ∀ u ∈ z.cells.toList, ¬ Q' u) (h63 : n ≤ 1000000000) (hbytes : bytes ≤ 1000) (hbase : base ≤ w.heap.size)
  (h : ∀ g' cap' w', w'.ownsRow base e size (.slice (some ⟨g', 0, none⟩) (n + 1) cap') (n + 1) (xs ++ news) → w.grownBy w' v.ownBlock → (v.ownBlock = some g' ∨ g' = w.heap.size) → PureB Q' w' g' → KeepQ Q' w w' →
   K (a.put o.dst (.slice (some ⟨g', 0, none⟩) (n + 1) cap')) w') :
  if Region.wanted o (yielded ops a.tmps) = true then Oper.wp P o a w K Q else E := by
 have hw : Region.wanted o (yielded ops a.tmps) = true := by simp [Region.wanted, hgd]
 rw [if_pos hw]
 obtain ⟨i0, hi, hz0, hz1, hz2⟩ := info_parts hinfo
 obtain ⟨g', cap', w', hr, h2, h3, h4, h5, h6⟩ := append_pure (P := P) (Q := Q') w base t o.type e i0 z size bytes ht hi hz0 hz1 hz2 hzs hsz v n xs hown hpure ad c news hl hnews h1 hq hqz h63 hbytes hbase
 unfold Oper.wp execOp
 simp only [ho, resolve, invoke, builtin, Sem.run_bind, Sem.run_pure, Result.andThen_ok, List.map_toArray, List.map_cons, List.map_nil, hs, hx, hr]
 exact h g' cap' w' h2 h3 h4 h5 h6

theorem Nums.keep {k : IntKind} {w w' : World} {v : Value} {n : Nat} {f : Nat → Int} (h : Nums k w v n f) (hk : KeepQ IsNum w w') : Nums k w' v n f := by
 obtain ⟨ao, c, h1, h2, h3, h4⟩ := h
 exact ⟨ao, c, h1, h2, h3, fun hn => let ⟨b, off, e, hc⟩ := h4 hn; ⟨b, off, e, fun i hi => hk _ _ _ ⟨_, _, rfl⟩ (hc i hi)⟩⟩
theorem owns_later {B k : Nat} {e : TypeId} {w w' : World} {v : Value} {n : Nat} {us : List Value} (h : w.ownsRow B e k v n us) (hb : Below w.heap.size w w') : w'.ownsRow B e k v n us := by
 refine ⟨h.1, ?_⟩
 rcases h.2 with hn | ⟨g, cap, cur, rfl, hB, hg, rest⟩
 ·exact .inl hn
 ·refine .inr ⟨g, cap, cur, rfl, hB, ?_, rest⟩
  rw [hb.block g (Array.getElem?_eq_some_iff.1 hg).1]
  exact hg
theorem below_grownB {B : Nat} {wb w w' : World} {row : Option Nat} (h : Below B wb w) (hg : w.grownBy w' row) (hB : B ≤ w.heap.size) (hr : ∀ g, row = some g → B ≤ g) : Below B wb w' :=
 h.grown hg hB hr

/-- What was appended lay in a block of its own. -/
theorem news_block {w : World} {B : Nat} {cs : Array Value} {t : TypeId} (hb : w.heap[B]? = some (.cells cs t (0, 0))) : ∀ j u, cs.toList[j]? = some u → w.cell? ((⟨B, 0, none⟩ : Addr).add j) = some u := fun j u hu => by
 have hadd : (⟨B, 0, none⟩ : Addr).add j = ⟨B, j, none⟩ := by unfold Addr.add; split <;> simp_all
 rw [hadd, cell_of_row w B j cs t _ hb]
 simpa using hu
theorem owns_cell {w : World} {base k : Nat} {e : TypeId} {g n cap : Nat} {xs : List Value} (h : w.ownsRow base e k (.slice (some ⟨g, 0, none⟩) n cap) n xs) {j : Nat} {u : Value} (hu : xs[j]? = some u) : w.cell? ⟨g, j, none⟩ = some u := by
 have := h.cells (g := g) rfl j u hu
 have hadd : (⟨g, 0, none⟩ : Addr).add j = ⟨g, j, none⟩ := by unfold Addr.add; split <;> simp_all
 rw [hadd] at this; exact this
theorem owns_new (w : World) (base k : Nat) (e : TypeId) (cs : Array Value) (hb : base ≤ w.heap.size) (hk : cs.size = k) : (w.alloc (.cells cs e)).ownsRow base e k (.slice (some ⟨w.heap.size, 0, none⟩) 1 1) 1 cs.toList :=
 ⟨by simp [hk], .inr ⟨_, 1, cs, rfl, hb, heap_alloc_new _ _, Nat.le_refl _, by unfold maxLen; omega, by omega, by rw [Nat.one_mul, ← hk, ← Array.length_toList]; exact List.take_length⟩⟩

/-- Byte i of a text. -/
def bt (s : ByteArray) (i : Nat) : Nat := (s.data.toList.getD i 0).toNat
theorem bt_at (s : ByteArray) (i : Nat) (h : i < s.size) : bt s i = (s[i]).toNat := by
 have h' : i < s.data.toList.length := by simpa using h
 unfold bt
 simp [List.getD, List.getElem?_eq_getElem h']; rfl
/-- May a byte stand in a word? -/
def inW (c : Nat) : Bool := decide (32 < c ∧ c < 127 ∧ c ≠ 35)
/-- Is it a blank? -/
def blk (c : Nat) : Bool := decide (c = 32 ∨ c = 9 ∨ c = 13)
theorem inW_not_blk {c : Nat} (h : inW c = true) : blk c = false := by simp [inW, blk] at *; omega
theorem inW_not_hash {c : Nat} (h : inW c = true) : ¬ c = 35 := by simp [inW] at h; omega
/-- Where the word that may begin at i ends. -/
def wEnd (s : ByteArray) (i : Nat) : Nat := if h : i < s.size ∧ inW (bt s i) = true then wEnd s (i + 1) else i
termination_by s.size - i
theorem wEnd_in {s : ByteArray} {i : Nat} (h : i < s.size) (hw : inW (bt s i) = true) : wEnd s i = wEnd s (i + 1) := by
 rw [wEnd, dif_pos ⟨h, hw⟩]
theorem wEnd_out {s : ByteArray} {i : Nat} (h : ¬ (i < s.size ∧ inW (bt s i) = true)) : wEnd s i = i := by
 rw [wEnd, dif_neg h]
theorem wEnd_ge (s : ByteArray) (i : Nat) : i ≤ wEnd s i := by
 fun_induction wEnd s i with
 | case1 i h ih => omega
 | case2 i h => omega
theorem wEnd_le (s : ByteArray) (i : Nat) (hi : i ≤ s.size) : wEnd s i ≤ s.size := by
 fun_induction wEnd s i with
 | case1 i h ih => exact ih (by omega)
 | case2 i h => exact hi
theorem wEnd_gt {s : ByteArray} {i : Nat} (h : i < s.size) (hw : inW (bt s i) = true) : i < wEnd s i := by
 rw [wEnd_in h hw]; have := wEnd_ge s (i + 1); omega
/-- What comes of a line: the words, each from a place up to another, or the first fault. -/
inductive Scan where
 | ok (l : List (Nat × Nat))
 | form (i : Nat)
 | limit (i : Nat)

/-- The words from i on, behind those found so far. -/
def scan (s : ByteArray) (i : Nat) (out : List (Nat × Nat)) : Scan :=
 if h : i < s.size then
  if blk (bt s i) = true then scan s (i + 1) out
  else if bt s i = 35 then .ok out
  else if hw : inW (bt s i) = true then
   if 4096 ≤ out.length then .limit i else scan s (wEnd s i) (out ++ [(i, wEnd s i)])
  else .form i
 else .ok out
termination_by s.size - i
decreasing_by
 ·omega
 ·have := wEnd_gt h hw; omega
theorem scan_end {s : ByteArray} {i : Nat} {out : List (Nat × Nat)} (h : ¬ i < s.size) : scan s i out = .ok out := by rw [scan, dif_neg h]
theorem scan_blank {s : ByteArray} {i : Nat} {out : List (Nat × Nat)} (h : i < s.size) (hb : blk (bt s i) = true) : scan s i out = scan s (i + 1) out := by rw [scan, dif_pos h, if_pos hb]
theorem scan_hash {s : ByteArray} {i : Nat} {out : List (Nat × Nat)} (h : i < s.size) (hb : bt s i = 35) : scan s i out = .ok out := by
 rw [scan, dif_pos h, if_neg (by rw [hb]; decide), if_pos hb]
theorem scan_form {s : ByteArray} {i : Nat} {out : List (Nat × Nat)} (h : i < s.size) (hb : blk (bt s i) = false) (hh : ¬ bt s i = 35) (hw : inW (bt s i) = false) : scan s i out = .form i := by
 rw [scan, dif_pos h, if_neg (by simp [hb]), if_neg hh, dif_neg (by simp [hw])]
theorem scan_limit {s : ByteArray} {i : Nat} {out : List (Nat × Nat)} (h : i < s.size) (hw : inW (bt s i) = true) (hl : 4096 ≤ out.length) : scan s i out = .limit i := by
 rw [scan, dif_pos h, if_neg (by simp [inW_not_blk hw]), if_neg (inW_not_hash hw), dif_pos hw, if_pos hl]
theorem scan_word {s : ByteArray} {i : Nat} {out : List (Nat × Nat)} (h : i < s.size) (hw : inW (bt s i) = true) (hl : ¬ 4096 ≤ out.length) : scan s i out = scan s (wEnd s i) (out ++ [(i, wEnd s i)]) := by
 rw [scan, dif_pos h, if_neg (by simp [inW_not_blk hw]), if_neg (inW_not_hash hw), dif_pos hw, if_neg hl]
theorem scan_len (s : ByteArray) (i : Nat) (out l : List (Nat × Nat)) (h0 : out.length ≤ 4096) (h : scan s i out = .ok l) : l.length ≤ 4096 := by
 fun_induction scan s i out with
 | case1 i out h1 h2 ih => exact ih h0 h
 | case2 i out h1 h2 h3 => cases h; exact h0
 | case3 i out h1 h2 h3 h4 h5 => cases h
 | case4 i out h1 h2 h3 h4 h5 ih => exact ih (by simp; omega) h
 | case5 i out h1 h2 h3 h4 => cases h
 | case6 i out h1 => cases h; exact h0
/-- A word: its place, its line, its text. -/
abbrev Tok := Nat × Nat × ByteArray
def cellsT (t : Tok) : List Value := [.int .i64 (t.1 : Int), .int .i64 (t.2.1 : Int), .string t.2.2]
def flatT : List Tok → List Value
 | [] => []
 | t :: l => cellsT t ++ flatT l
theorem flatT_length : ∀ l, (flatT l).length = l.length * 3
 | [] => rfl
 | t :: l => by simp [flatT, cellsT, flatT_length l]; omega
theorem flatT_append : ∀ l m, flatT (l ++ m) = flatT l ++ flatT m
 | [], m => rfl
 | t :: l, m => by simp [flatT, flatT_append l m]
theorem flatT_one (t : Tok) : flatT [t] = cellsT t := by simp [flatT]
theorem flatT_at : ∀ (l : List Tok) (i : Nat) (t : Tok), l[i]? = some t → ∀ j, j < 3 → (flatT l)[i * 3 + j]? = (cellsT t)[j]?
 | [], i, t, h, j, hj => by simp at h
 | u :: l, 0, t, h, j, hj => by
  obtain rfl : u = t := by simpa using h
  simp only [flatT, Nat.zero_mul, Nat.zero_add]
  rw [List.getElem?_append_left (by simp [cellsT]; omega)]
 | u :: l, i + 1, t, h, j, hj => by
  have := flatT_at l i t (by simpa using h) j hj
  simp only [flatT]
  rw [List.getElem?_append_right (by simp [cellsT]; omega), ← this]
  congr 1
  simp [cellsT]; omega
/-- The words of the part of a text that begins at a place and is its n-th line. -/
def toks (s : ByteArray) (a n : Nat) (l : List (Nat × Nat)) : List Tok := l.map fun p => (a + p.1, n, s.extract p.1 p.2)
theorem toks_length (s : ByteArray) (a n : Nat) (l : List (Nat × Nat)) : (toks s a n l).length = l.length := by simp [toks]
theorem toks_append (s : ByteArray) (a n : Nat) (l m : List (Nat × Nat)) : toks s a n (l ++ m) = toks s a n l ++ toks s a n m := by simp [toks]

/-- A slice that holds these words, in a block of the call's own. -/
def TOwn (B : Nat) (w : World) (v : Value) (l : List Tok) : Prop := w.ownsRow B 95 3 v l.length (flatT l)
theorem TOwn.nil (B : Nat) (w : World) : TOwn B w (.slice none 0 0) [] := ⟨rfl, .inl ⟨rfl, rfl⟩⟩
theorem TOwn.later {B : Nat} {w w' : World} {v : Value} {l : List Tok} (h : TOwn B w v l) (hb : Below w.heap.size w w') : TOwn B w' v l := owns_later h hb

/-- What a call that tells words, a place and an error tells. -/
def WordsOut (B : Nat) (e : Ending) (w' : World) (s : ByteArray) (a n : Nat) : Scan → Prop
 | .ok l => ∃ v, e = .returned (.tuple #[v, .int .i64 0, .int .i64 0]) ∧ TOwn B w' v (toks s a n l)
 | .form i => e = .returned (.tuple #[.slice none 0 0, .int .i64 ((a + i : Nat) : Int), .int .i64 4])
 | .limit i => e = .returned (.tuple #[.slice none 0 0, .int .i64 ((a + i : Nat) : Int), .int .i64 16])

/-- 'append' of m values at once, a row of the call's own ahead. -/
theorem append_pureM {P : Program} {Q : Value → Prop} (w : World) (base : Nat) (t ty e : TypeId) (i : TypeInfo) (z : Value) (size bytes : Nat) (ht : P.underlying t = some (.slice e)) (hi : P.info? e = some i) (hz : i.zero = some z)
  (hsize : i.size = size) (hby : i.bytes = bytes) (hzs : z.cells.size = size) (hsz : 0 < size)
  (v : Value) (n : Nat) (xs : List Value) (hown : w.ownsRow base e size v n xs) (hpure : ∀ g, v.ownBlock = some g → PureB Q w g)
  (a : Addr) (m c : Nat) (hm1 : 1 ≤ m) (hm2 : m ≤ 1000) (news : List Value) (hl : news.length = m * size) (hnews : ∀ j u, news[j]? = some u → w.cell? (a.add j) = some u) (h1 : ∀ u ∈ news, u.oneCell' = true)
  (hq : ∀ u ∈ news, ¬ Q u) (hqz : ∀ u ∈ z.cells.toList, ¬ Q u)
  (h63 : n ≤ 1000000000) (hbytes : bytes ≤ 1000) (hbase : base ≤ w.heap.size) :
  ∃ g' cap' w', (Builtin.append_ #[t, t] ty #[v, .slice (some a) m c]).run P w = .ok (.slice (some ⟨g', 0, none⟩) (n + m) cap') w' ∧ w'.ownsRow base e size (.slice (some ⟨g', 0, none⟩) (n + m) cap') (n + m) (xs ++ news) ∧
   w.grownBy w' v.ownBlock ∧ (v.ownBlock = some g' ∨ g' = w.heap.size) ∧ PureB Q w' g' ∧ KeepQ Q w w' := by
 have hb2 : (n + m) * bytes ≤ 140737488355328 := Nat.le_trans (Nat.mul_le_mul (show n + m ≤ 1000001000 by omega) hbytes) (by decide)
 have hb1 : m * bytes ≤ 281474976710656 := Nat.le_trans (Nat.mul_le_mul hm2 hbytes) (by decide)
 have hmx : n + m ≤ maxLen := by unfold maxLen; omega
 obtain ⟨v', w', hr, h2, h3, _⟩ := run_append_own (P := P) w base t ty e i z size bytes ht hi hz hsize hby hzs hsz v n xs hown a m c news (by omega) hnews h1 hmx hb2 hbase
 subst hsize
 subst hby
 have hz0 : ∀ k, ∀ u ∈ (Builtin.zeroCells z.cells k).toList, ¬ Q u := fun k u hu => hqz u (mem_zeroCells (by omega) hu)
 rcases hown.2 with ⟨rfl, rfl⟩ | ⟨g, cap, cur, rfl, hbg, hg, hnc, hcm, hcs, htake⟩
 ·have hr2 := run_append_nil (P := P) w t ty e i z ht hi hz a m c news (by omega) hnews (by omega) (by omega) hb1
  rw [hr2] at hr
  injection hr with hv hw
  subst hw
  subst hv
  simp only [Nat.zero_add] at h2 hr2 ⊢
  refine ⟨_, _, _, hr2, h2, h3, .inr rfl, ?_, keep_alloc w _⟩
  refine pure_of_cells (heap_alloc_new w.drew _) fun u hu => ?_
  rw [Array.toList_append, List.mem_append] at hu
  rcases hu with hu | hu
  ·exact hq u (by simpa using hu)
  ·exact hz0 _ u hu
 ·have hpg := hpure g rfl
  have hcur := pure_cells hg hpg
  have hxs : ∀ u ∈ xs, ¬ Q u := fun u hu => hcur u (by rw [← htake] at hu; exact List.mem_of_mem_take hu)
  by_cases hroom : n + m ≤ cap
  ·have hfit : n * i.size + news.length ≤ cur.size := by
    rw [hl, hcs]
    have := Nat.mul_le_mul_right i.size hroom
    rw [Nat.add_mul] at this; omega
   have hr2 := run_append_room (P := P) w t ty e i ht hi g n cap cur hg a m c news (by omega) hnews h1 hroom hfit
   rw [hr2] at hr
   injection hr with hv hw
   subst hw
   subst hv
   refine ⟨g, cap, _, hr2, h2, h3, .inl rfl, ?_, ?_⟩
   ·refine pure_of_cells (setRow_heap w g cur _ e _ hg) fun u hu => ?_
    simp only [List.mem_append] at hu
    rcases hu with (hu | hu) | hu
    ·exact hcur u (List.mem_of_mem_take hu)
    ·exact hq u hu
    ·exact hcur u (List.mem_of_mem_drop hu)
   ·intro b o u hu hc
    by_cases hbg' : b = g
    ·subst hbg'; exact absurd hu (hpg o u hc)
    ·exact (World.cell?_of_block (w := w) (setRow_other w g b _ hbg')).trans hc
  ·have holds : ∀ j u, xs[j]? = some u → w.cell? ((⟨g, 0, none⟩ : Addr).add j) = some u := hown.cells (g := g) rfl
   have hr2 := run_append_grow (P := P) w t ty e i z ht hi hz ⟨g, 0, none⟩ n cap xs hown.1 holds a m c news (by omega) hnews (by omega) (by omega) (growslice_fits (by omega) hb2)
   rw [hr2] at hr
   injection hr with hv hw
   subst hw
   subst hv
   refine ⟨_, _, _, hr2, h2, h3, .inr rfl, ?_, keep_alloc w _⟩
   refine pure_of_cells (heap_alloc_new w.drew _) fun u hu => ?_
   rw [Array.toList_append, Array.toList_append, List.mem_append, List.mem_append] at hu
   rcases hu with (hu | hu) | hu
   ·exact hxs u (by simpa using hu)
   ·exact hq u (by simpa using hu)
   ·exact hz0 _ u hu

/-- The same, in a walk. -/
theorem wpList_append_pureM {P : Program} {Q' : Value → Prop} {ops : Array Oper} {rest : List Oper} {o : Oper} {a : Act} {Q : Exit → Act → World → Prop} {w : World} (hgd : o.guard = none) (s x : Operand) (t : TypeId)
  (ho : o.op = .call { callee := .builtin .append, args := #[s, x], argTypes := #[t, t] }) (base : Nat) (e : TypeId) (z : Value) (size bytes : Nat) (ht : P.underlying t = some (.slice e))
  (hinfo : (P.info? e).map (fun i => (i.zero, i.size, i.bytes)) = some (some z, size, bytes)) (hzs : z.cells.size = size) (hsz : 0 < size)
  (v : Value) (hs : a.eval s = v) (n : Nat) (xs : List Value) (hown : w.ownsRow base e size v n xs) (hpure : ∀ g, v.ownBlock = some g → PureB Q' w g)
  (ad : Addr) (m c : Nat) (hm1 : 1 ≤ m) (hm2 : m ≤ 1000) (hx : a.eval x = .slice (some ad) m c) (news : List Value) (hl : news.length = m * size) (hnews : ∀ j u, news[j]? = some u → w.cell? (ad.add j) = some u) (h1 : ∀ u ∈ news, u.oneCell' = true)
  (hq : ∀ u ∈ news, ¬ Q' u) (hqz : ∀ u ∈ z.cells.toList, ¬ Q' u) (h63 : n ≤ 1000000000) (hbytes : bytes ≤ 1000) (hbase : base ≤ w.heap.size)
  (h : ∀ g' cap' w', w'.ownsRow base e size (.slice (some ⟨g', 0, none⟩) (n + m) cap') (n + m) (xs ++ news) → w.grownBy w' v.ownBlock → (v.ownBlock = some g' ∨ g' = w.heap.size) → PureB Q' w' g' → KeepQ Q' w w' →
   wpList P ops Q rest (a.put o.dst (.slice (some ⟨g', 0, none⟩) (n + m) cap')) w') :
  wpList P ops Q (o :: rest) a w := by
 obtain ⟨i0, hi, hz0, hz1, hz2⟩ := info_parts hinfo
 obtain ⟨g', cap', w', hr, h2, h3, h4, h5, h6⟩ := append_pureM (P := P) (Q := Q') w base t o.type e i0 z size bytes ht hi hz0 hz1 hz2 hzs hsz v n xs hown hpure ad m c hm1 hm2 news hl hnews h1 hq hqz h63 hbytes hbase
 refine wpList_plain hgd fun K hK => ?_
 unfold Oper.wp execOp
 simp only [ho, resolve, invoke, builtin, Sem.run_bind, Sem.run_pure, Result.andThen_ok, List.map_toArray, List.map_cons, List.map_nil, hs, hx, hr]
 exact hK _ _ (h g' cap' w' h2 h3 h4 h5 h6)

end Go.Proofs.YthkamfddbiheoaaGreatDoor
