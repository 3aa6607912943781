/-
  Texts of mine, joined: what lies beneath the statement.
-/
import Derived.Test.YtcackghehjbeeaaGreatDoorJc30b9867e9
import Derived.Test.YtcackghehjbeeaaGreatDoorJ95deaec345
import Derived.Test.YtcackghehjbeeaaGreatDoorJ0a960bde83
import Derived.Test.YtcackghehjbeeaaGreatDoorJ28ba950bd3
namespace Go.Proofs.YtcackghehjbeeaaGreatDoor
open Go.RowKit
set_option linter.unusedVariables false
set_option linter.unusedSimpArgs false

structure RInv (t : Nat → Nd) (n : Nat) (out wait : List Nat) : Prop where
 d : DInv t n out wait
 e : out ++ wait.reverse.flatMap (pre t n) = pre t n 0
 m : ∃ F, MayT F t n
theorem RInv.start {t : Nat → Nd} {n : Nat} (hn : 0 < n) (hm : ∃ F, MayT F t n) : RInv t n [] [0] := ⟨DInv.start hn, by simp, hm⟩
theorem RInv.len {t : Nat → Nd} {n : Nat} {out wait : List Nat} (h : RInv t n out wait) : out.length + wait.length ≤ n := h.d.len
theorem RInv.small {t : Nat → Nd} {n : Nat} {out wait : List Nat} (h : RInv t n out wait) : ∀ x, x ∈ out ++ wait → x < n := h.d.small
theorem RInv.leaf {t : Nat → Nd} {n : Nat} {out ws : List Nat} {i : Nat} (h : RInv t n out (ws ++ [i])) (hl : (t i).leaf = true) : RInv t n (out ++ [i]) ws := by
 refine ⟨h.d.leaf hl, ?_, h.m⟩
 rw [← h.e]
 simp [pre_leaf hl]
theorem RInv.split {t : Nat → Nd} {n : Nat} {out ws : List Nat} {i l r : Nat} (h : RInv t n out (ws ++ [i])) (ho : Once t n) (hl : (t i).leaf = false) (el : (t i).left = (l : Int)) (er : (t i).right = (r : Int)) (l1 : 1 ≤ l) (l2 : l < n) (r1 : 1 ≤ r) (r2 : r < n) : RInv t n (out ++ [i]) (ws ++ [r, l]) := by
 refine ⟨h.d.split ho hl el er l1 l2 r1 r2, ?_, h.m⟩
 obtain ⟨F, hm⟩ := h.m
 have hi : i < n := h.d.small i (by simp)
 rw [← h.e]
 have e1 : kl t i = l := by unfold kl; omega
 have e2 : kr t i = r := by unfold kr; omega
 simp [hm.pre_split hi hl, e1, e2]
theorem RInv.all {t : Nat → Nd} {n : Nat} {out : List Nat} (h : RInv t n out []) : out = pre t n 0 := by
 have := h.e
 simpa using this
/-- All nodes, each once. -/
theorem RInv.count {t : Nat → Nd} {n : Nat} {out : List Nat} (h : RInv t n out []) : out.length = n := by
 obtain ⟨F, hm⟩ := h.m
 have h1 := h.d.len
 have hp : out.Perm (List.range n) := by
  rw [List.perm_iff_count]
  intro a
  by_cases ha : a < n
  ·have : a ∈ out := (h.d.all hm.once a ha).1 (hm.up a ha)
   have hn := h.d.nodup
   simp only [List.append_nil] at hn
   rw [hn.count, if_pos this, List.nodup_range.count, if_pos (List.mem_range.2 ha)]
  ·have : a ∉ out := fun hh => ha (h.d.small a (by simpa using hh))
   rw [List.count_eq_zero_of_not_mem this, List.count_eq_zero_of_not_mem (by simpa using ha)]
 have := hp.length_eq
 simpa using this

theorem cmpQ_lt10 (q r : Rat) : decide (cmpQ q r < 0) = decide (q < r) := by
 unfold cmpQ
 by_cases h : q < r
 ·simp [h]
 ·by_cases h2 : r < q
  ·simp [h, h2]
  ·simp [h, h2]


set_option maxRecDepth 100000 in
set_option maxHeartbeats 4000000 in
theorem rleft_at (d : Nd) (c : Cl) (p1 p2 p3 p4 : Bool) (a1 b1 a2 b2 a3 b3 a4 b4 : Option Addr) (n1 c1 m1 d1 n2 c2 m2 d2 n3 c3 m3 d3 n4 c4 m4 d4 : Nat) (L : Nat) (w : World) (hu : RatAt w (.agg #[.bool p1, .slice a1 n1 c1, .slice b1 m1 d1]) d.cut L) (hv : RatAt w (.agg #[.bool p4, .slice a4 n4 c4, .slice b4 m4 d4]) c.val L) (hL : 1 ≤ L) (hM : L ≤ 100000) :
  Calls Tryz.prog 66 #[.agg #[.bool d.leaf, .int .i64 d.feat, .bool p1, .slice a1 n1 c1, .slice b1 m1 d1, .int .i64 d.left, .int .i64 d.right, .bool d.miss, .bool p2, .slice a2 n2 c2, .slice b2 m2 d2, .bool p3, .slice a3 n3 c3, .slice b3 m3 d3], .agg #[.bool c.miss, .bool p4, .slice a4 n4 c4, .slice b4 m4 d4]] w fun e w' => e = .returned (.bool (goL d c)) ∧ Below w.heap.size w w' := by
 have hAB : ∀ o o', Below w.heap.size w ((w.alloc o).alloc o') := fun o o' => ((Below.refl _ _).alloc (Nat.le_refl _) _).alloc (by simp) _
 rcases d with ⟨lf, ft, q, ll, rr, ms, vl, cv⟩
 rcases c with ⟨cm, r⟩
 dsimp only at hu hv ⊢
 cases lf
 ·cases cm
  ·have HO : Hid (goL ⟨false, ft, q, ll, rr, ms, vl, cv⟩ ⟨false, r⟩ = decide (r < q)) := rfl
   have h1 := hu.below (hAB (.cells #[.bool false, .int .i64 ft, .bool p1, .slice a1 n1 c1, .slice b1 m1 d1, .int .i64 ll, .int .i64 rr, .bool ms, .bool p2, .slice a2 n2 c2, .slice b2 m2 d2, .bool p3, .slice a3 n3 c3, .slice b3 m3 d3] 58) (.cells #[.bool false, .bool p4, .slice a4 n4 c4, .slice b4 m4 d4] 107))
   have h2 := hv.below (hAB (.cells #[.bool false, .int .i64 ft, .bool p1, .slice a1 n1 c1, .slice b1 m1 d1, .int .i64 ll, .int .i64 rr, .bool ms, .bool p2, .slice a2 n2 c2, .slice b2 m2 d2, .bool p3, .slice a3 n3 c3, .slice b3 m3 d3] 58) (.cells #[.bool false, .bool p4, .slice a4 n4 c4, .slice b4 m4 d4] 107))
   have BB := hAB (.cells #[.bool false, .int .i64 ft, .bool p1, .slice a1 n1 c1, .slice b1 m1 d1, .int .i64 ll, .int .i64 rr, .bool ms, .bool p2, .slice a2 n2 c2, .slice b2 m2 d2, .bool p3, .slice a3 n3 c3, .slice b3 m3 d3] 58) (.cells #[.bool false, .bool p4, .slice a4 n4 c4, .slice b4 m4 d4] 107)
   go_enter Tryz.func66, Tryz.ntmps66
   go_wp2_with fail
   refine (qcmp_at _ _ r q L _ h2 h1 hL hM).mono ?_
   rintro e w1 ⟨rfl, b1⟩
   replace BB := BB.trans (b1.mono BB.size)
   clear b1 h1 h2
   have HC : Hid (decide (cmpQ r q < 0) = decide (r < q)) := cmpQ_lt10 r q
   generalize cmpQ r q = cq at *
   go_wp2
   go_ret
   exact ⟨by rw [HO.out, ← HC.out]; rfl, BB⟩
  ·cases ms <;> (go_enter Tryz.func66, Tryz.ntmps66; go_wp2; go_ret; exact ⟨rfl, hAB _ _⟩)
 ·go_enter Tryz.func66, Tryz.ntmps66
  go_wp2
  go_ret
  exact ⟨rfl, hAB _ _⟩


def Quad10 (w : World) (b o : Nat) (x y z u : Value) : Prop := w.cell? ⟨b, o, none⟩ = some x ∧ w.cell? ⟨b, o + 1, none⟩ = some y ∧ w.cell? ⟨b, o + 2, none⟩ = some z ∧ w.cell? ⟨b, o + 3, none⟩ = some u
theorem Quad10.out {w : World} {b o : Nat} {x y z u : Value} (h : Quad10 w b o x y z u) : w.cell? ⟨b, o, none⟩ = some x ∧ w.cell? ⟨b, o + 1, none⟩ = some y ∧ w.cell? ⟨b, o + 2, none⟩ = some z ∧ w.cell? ⟨b, o + 3, none⟩ = some u := h
theorem Quad10.below {w w' : World} {b o : Nat} {x y z u : Value} (h : Quad10 w b o x y z u) (hb : Below w.heap.size w w') : Quad10 w' b o x y z u := by
 have hl := World.block_lt_of_cell? w _ h.1
 exact ⟨(hb.cell (p := ⟨b, o, none⟩) hl).trans h.1, (hb.cell (p := ⟨b, o + 1, none⟩) hl).trans h.2.1, (hb.cell (p := ⟨b, o + 2, none⟩) hl).trans h.2.2.1, (hb.cell (p := ⟨b, o + 3, none⟩) hl).trans h.2.2.2⟩

/-- Check's answer, opened. -/
theorem ChkOut.open {F : Int} {k : Nat} {N : Nat → Nat} {T : Nat → Nat → Nd} {u : Value} (h : ChkOut F k N T u) : ∃ a s d : Int, u = .agg #[.int .i64 a, .int .i64 0, .int .i64 s, .int .i64 d] ∧ (a = 0 → s = 0 ∧ d = 0) := by
 rcases h with ⟨_, rfl⟩ | ⟨_, x, h, rfl⟩
 ·exact ⟨1, 0, 0, rfl, fun h => by omega⟩
 ·rcases h with ⟨rfl, _⟩ | ⟨r, i, e, nd, hr, hi, rfl, h1, _, _⟩
  ·exact ⟨0, 0, 0, rfl, fun _ => ⟨rfl, rfl⟩⟩
  ·have := rl_err h1
   exact ⟨e, (i : Int), (nd : Int), rfl, fun h => by omega⟩


set_option maxRecDepth 100000 in
set_option maxHeartbeats 4000000 in
theorem ok_at (F : Int) (v : Value) (k : Nat) (N : Nat → Nat) (T : Nat → Nat → Nd) (L : Nat) (w : World) (hv : MRow w v k N T L) (ht : Tab w) (hL : 1 ≤ L) (hLM : L ≤ 30000) :
  Calls Tryz.prog 16 #[.agg #[.int .i64 F, v]] w fun e w' => ∃ a s d : Int, e = .returned (.bool (decide (a = 0))) ∧ ChkOut F k N T (.agg #[.int .i64 a, .int .i64 0, .int .i64 s, .int .i64 d]) ∧ Below w.heap.size w w' := by
 obtain ⟨ao, c, rfl, hnc, hc63⟩ := hv.open
 have BB : Below w.heap.size w w := Below.refl _ _
 obtain ⟨Wb0, hW0, hS0, hL0, VM⟩ := V2.lay w 24 (.int .i64 F) (.slice ao k c)
 replace hv := hv.below hL0
 replace ht := ht.below hL0
 replace BB := BB.trans (hL0.mono BB.size)
 clear hL0
 go_enter Tryz.func16, Tryz.ntmps16
 obtain ⟨VM_0, VM_1, VM_2, VM_3⟩ := id VM
 rw [hW0] at VM_0 VM_1 VM_2 VM_3
 go_wp2_with fail
 clear VM_0 VM_1 VM_2 VM_3
 rw [← hW0]
 clear hW0 hS0
 refine (check_at F _ k N T L _ hv ht hL hLM).mono ?_
 rintro e w1 ⟨u, rfl, HC, b1⟩
 replace hv := hv.below b1
 replace ht := ht.below b1
 replace VM := VM.below b1
 replace BB := BB.trans (b1.mono BB.size)
 clear b1
 have HCC : Hid (ChkOut F k N T u) := HC
 obtain ⟨a, s, d, rfl, hz⟩ := HC.open
 clear HC
 by_cases ha : a = 0
 ·obtain ⟨rfl, rfl⟩ := hz ha
  subst ha
  go_wp2
  go_ret
  exact ⟨0, 0, 0, rfl, HCC.out, BB⟩
 ·have hab : (a == 0) = false := by simp [ha]
  have HR : Hid (decide (a = 0) = false) := decide_eq_false ha
  clear hz
  go_wp2
  go_ret
  exact ⟨a, s, d, ret_bool (a := false) HR.out.symm, HCC.out, BB⟩

theorem one_cell (w : World) (u : Value) (t : TypeId) : RowAt 1 (w.alloc (.cells #[u] t)) (.slice (some ⟨w.heap.size, 0, none⟩) 1 1) 1 (fun _ _ => u) := by
 refine ⟨_, _, rfl, Nat.le_refl _, by omega, fun _ => ⟨_, _, rfl, fun i hi j hj => ?_⟩⟩
 obtain rfl : i = 0 := by omega
 obtain rfl : j = 0 := by omega
 rw [cell_of_row _ _ _ _ _ _ (heap_alloc_new w (.cells #[u] t))]
 rfl
theorem one_tree {w : World} {v : Value} {n : Nat} {t : Nat → Nd} {L : Nat} (hv : TRow w v n t L) (ty : TypeId) : MRow (w.alloc (.cells #[v] ty)) (.slice (some ⟨w.heap.size, 0, none⟩) 1 1) 1 (fun _ => n) (fun _ => t) L :=
 ⟨_, one_cell w v ty, fun _ _ => hv.below ((Below.refl _ _).alloc (Nat.le_refl _) _)⟩
theorem one_raw {w : World} {v : Value} {n : Nat} {t : Nat → Nd} {L : Nat} (hv : TRaw w v n t L) (ty : TypeId) : MRaw (w.alloc (.cells #[v] ty)) (.slice (some ⟨w.heap.size, 0, none⟩) 1 1) 1 (fun _ => n) (fun _ => t) L :=
 ⟨_, one_cell w v ty, fun _ _ => hv.below ((Below.refl _ _).alloc (Nat.le_refl _) _)⟩


set_option maxRecDepth 100000 in
set_option maxHeartbeats 4000000 in
theorem tree_at (F : Int) (v : Value) (n : Nat) (t : Nat → Nd) (L : Nat) (w : World) (hv : TRow w v n t L) (ht : Tab w) (hL : 1 ≤ L) (hLM : L ≤ 30000) :
  Calls Tryz.prog 21 #[v, .int .i64 F] w fun e w' => ∃ a s d : Int, e = .returned (.bool (decide (a = 0))) ∧ ChkOut F 1 (fun _ => n) (fun _ => t) (.agg #[.int .i64 a, .int .i64 0, .int .i64 s, .int .i64 d]) ∧ Below w.heap.size w w' := by
 obtain ⟨ao, c, rfl, hnc, hc63⟩ := hv.open
 have BB : Below w.heap.size w w := Below.refl _ _
 have M1 := one_tree hv 47
 have hA : Below w.heap.size w (w.alloc (.cells #[.slice ao n c] 47)) := (Below.refl _ _).alloc (Nat.le_refl _) _
 have ht1 := ht.below hA
 go_enter Tryz.func21, Tryz.ntmps21
 go_wp2_with fail
 refine (ok_at F _ 1 (fun _ => n) (fun _ => t) L _ M1 ht1 hL hLM).mono ?_
 rintro e w1 ⟨a, s, d, rfl, HC, b1⟩
 have HCC : Hid (ChkOut F 1 (fun _ => n) (fun _ => t) (.agg #[.int .i64 a, .int .i64 0, .int .i64 s, .int .i64 d])) := HC
 have BB1 := hA.trans (b1.mono hA.size)
 clear HC b1 M1 ht1 hA
 generalize hd : decide (a = 0) = dd
 have HD : Hid (decide (a = 0) = dd) := hd
 clear hd
 go_wp2
 go_ret
 exact ⟨a, s, d, by rw [HD.out]; rfl, HCC.out, BB1⟩

/-- May a model be? -/
noncomputable def mayB (F : Int) (k : Nat) (N : Nat → Nat) (T : Nat → Nat → Nd) : Bool := @decide (ChkOut F k N T (.agg #[.int .i64 0, .int .i64 0, .int .i64 0, .int .i64 0])) (Classical.propDecidable _)
theorem mayB_of {F : Int} {k : Nat} {N : Nat → Nat} {T : Nat → Nat → Nd} {a s d : Int} (h : ChkOut F k N T (.agg #[.int .i64 a, .int .i64 0, .int .i64 s, .int .i64 d])) : decide (a = 0) = mayB F k N T := by
 unfold mayB
 by_cases e : a = 0
 ·subst e
  obtain ⟨a2, s2, d2, e2, hz⟩ := h.open
  injection e2 with e2
  simp only [Array.mk.injEq, List.cons.injEq, Value.int.injEq, true_and, and_true] at e2
  obtain ⟨e0, es, ed⟩ := e2
  obtain ⟨rfl, rfl⟩ := hz e0.symm
  subst es ed
  rw [decide_eq_true rfl]
  exact (@decide_eq_true _ (Classical.propDecidable _) h).symm
 ·rw [decide_eq_false e]
  refine (@decide_eq_false _ (Classical.propDecidable _) (fun h2 => e ?_)).symm
  have := h.one h2
  injection this with this
  simp only [Array.mk.injEq, List.cons.injEq, Value.int.injEq, true_and, and_true] at this
  exact this.1
theorem mayB_may {F : Int} {k : Nat} {N : Nat → Nat} {T : Nat → Nat → Nd} (h : mayB F k N T = true) : 0 ≤ F ∧ F ≤ 64 ∧ k ≤ 64 ∧ ∀ i, i < k → MayT F (T i) (N i) := by
 unfold mayB at h
 exact (@of_decide_eq_true _ (Classical.propDecidable _) h).may
theorem tree_may (F : Int) (v : Value) (n : Nat) (t : Nat → Nd) (L : Nat) (w : World) (hv : TRow w v n t L) (ht : Tab w) (hL : 1 ≤ L) (hLM : L ≤ 30000) :
  Calls Tryz.prog 21 #[v, .int .i64 F] w fun e w' => e = .returned (.bool (mayB F 1 (fun _ => n) (fun _ => t))) ∧ Below w.heap.size w w' := by
 refine (tree_at F v n t L w hv ht hL hLM).mono ?_
 rintro e w' ⟨a, s, d, rfl, h, hb⟩
 exact ⟨by rw [mayB_of h], hb⟩
theorem ok_may (F : Int) (v : Value) (k : Nat) (N : Nat → Nat) (T : Nat → Nat → Nd) (L : Nat) (w : World) (hv : MRow w v k N T L) (ht : Tab w) (hL : 1 ≤ L) (hLM : L ≤ 30000) :
  Calls Tryz.prog 16 #[.agg #[.int .i64 F, v]] w fun e w' => e = .returned (.bool (mayB F k N T)) ∧ Below w.heap.size w w' := by
 refine (ok_at F v k N T L w hv ht hL hLM).mono ?_
 rintro e w' ⟨a, s, d, rfl, h, hb⟩
 exact ⟨by rw [mayB_of h], hb⟩

/-- What Way has found: the nodes ahead, and where it stands. -/
def WInv (t : Nat → Nd) (n : Nat) (r : Nat → Cl) (zs : List Nat) (x : Nat) : Prop := x < n ∧ ∃ pre, zs = pre ++ [x] ∧ pre ++ way t n r x = way t n r 0
theorem WInv.start {t : Nat → Nd} {n : Nat} (r : Nat → Cl) (h : 0 < n) : WInv t n r [0] 0 := ⟨h, [], rfl, rfl⟩
theorem WInv.leaf {t : Nat → Nd} {n : Nat} {r : Nat → Cl} {zs : List Nat} {x : Nat} (h : WInv t n r zs x) (hl : (t x).leaf = true) : zs = way t n r 0 := by
 obtain ⟨_, pre, e, h⟩ := h
 rw [way_leaf hl] at h
 rw [e, h]
theorem WInv.split {F : Int} {t : Nat → Nd} {n : Nat} {r : Nat → Cl} {zs : List Nat} {x : Nat} (h : WInv t n r zs x) (hm : MayT F t n) (hl : (t x).leaf = false) : WInv t n r (zs ++ [nxt (t x) r]) (nxt (t x) r) := by
 obtain ⟨hx, pre, e, h⟩ := h
 rw [hm.way_split r hx hl] at h
 refine ⟨(hm.nxt hx hl r).1, pre ++ [x], by rw [e], ?_⟩
 rw [← h, List.append_assoc]
 rfl
theorem WInv.len {F : Int} {t : Nat → Nd} {n : Nat} {r : Nat → Cl} {zs : List Nat} {x : Nat} (h : WInv t n r zs x) (hm : MayT F t n) : 1 ≤ zs.length ∧ zs.length ≤ n + 1 := by
 obtain ⟨hx, pre, e, h⟩ := h
 have h1 := hm.way_len r (x := 0) (by omega)
 rw [← h, List.length_append] at h1
 have := List.length_pos_iff.2 (way_ne t n r x)
 rw [e, List.length_append]
 simp
 omega
theorem int_app {B : Nat} {w : World} {g c k m : Nat} {zs ys : List Nat} (hz : zs.length = k) (hy : ys.length = m) (h : w.ownsRow B 3 1 (.slice (some ⟨g, 0, none⟩) (k + m) c) (k + m) (zs.map (fun x : Nat => Value.int .i64 (x : Int)) ++ ys.map (fun x : Nat => Value.int .i64 (x : Int)))) : IntOwn B w (.slice (some ⟨g, 0, none⟩) (k + m) c) (zs ++ ys) := by
 unfold IntOwn
 rw [List.length_append, List.map_append, hz, hy]
 exact h
theorem IntOwn.le {B B' : Nat} {w : World} {v : Value} {zs : List Nat} (h : IntOwn B w v zs) (hb : B' ≤ B) : IntOwn B' w v zs := by
 refine ⟨h.1, ?_⟩
 rcases h.2 with h | ⟨g, c, cur, e, h1, h2⟩
 ·exact .inl h
 ·exact .inr ⟨g, c, cur, e, Nat.le_trans hb h1, h2⟩



/-- An array of k numbers of which the first i are told. -/
def VArr (w : World) (g k i : Nat) (q : Nat → Rat) : Prop := ∃ el, Arr3 w g k el ∧ ∀ j, j < i → RepQ w (elv el j) (q j)
theorem VArr.below {w w' : World} {g k i : Nat} {q : Nat → Rat} (h : VArr w g k i q) (hb : Below w.heap.size w w') : VArr w' g k i q := let ⟨el, a, b⟩ := h; ⟨el, a.below hb, fun j hj => (b j hj).below hb⟩
theorem VArr.put {w : World} {g k i : Nat} {q : Nat → Rat} (h : VArr w g k i q) (hi : i < k) {p : Bool} {a b : Option Addr} {n c m d : Nat} (hr : RepQ w (.agg #[.bool p, .slice a n c, .slice b m d]) (q i)) : ∃ u0 u1 u2, w.cell? ⟨g, i * 3, none⟩ = some u0 ∧ w.cell? ⟨g, i * 3 + 1, none⟩ = some u1 ∧ w.cell? ⟨g, i * 3 + 2, none⟩ = some u2 ∧ w.frozen? ⟨g, i * 3, none⟩ = false ∧ w.frozen? ⟨g, i * 3 + 1, none⟩ = false ∧ w.frozen? ⟨g, i * 3 + 2, none⟩ = false ∧
  VArr (((w.setCell ⟨g, i * 3, none⟩ (.bool p)).setCell ⟨g, i * 3 + 1, none⟩ (.slice a n c)).setCell ⟨g, i * 3 + 2, none⟩ (.slice b m d)) g k (i + 1) q := by
 obtain ⟨el, A, R⟩ := h
 obtain ⟨A2, K2⟩ := A.set i hi (.bool p) (.slice a n c) (.slice b m d) (num_bool _) (num_slice _ _ _) (num_slice _ _ _)
 refine ⟨_, _, _, A.1 i hi 0 (by omega), A.1 i hi 1 (by omega), A.1 i hi 2 (by omega), A.2.1 i hi 0 (by omega), A.2.1 i hi 1 (by omega), A.2.1 i hi 2 (by omega), _, A2, fun j hj => ?_⟩
 by_cases e : j = i
 ·subst e
  have := hr.keep K2
  simpa [elv, upd3] using this
 ·have := (R j (by omega)).keep K2
  simp only [elv, upd3_other el i j _ _ _ e] at *
  exact this
theorem VArr.row {w : World} {g k : Nat} {q : Nat → Rat} (h : VArr w g k k q) (hk : k ≤ 100000) : FRow w (.slice (some ⟨g, 0, none⟩) k k) k q :=
 let ⟨el, a, b⟩ := h; ⟨el, a.row k k (Nat.le_refl _) (Nat.le_refl _) (by omega), b⟩

structure Cel10 (w : World) (b o : Nat) (x : Value) : Prop where
 cell : w.cell? ⟨b, o, none⟩ = some x
theorem Cel10.lt {w : World} {b o : Nat} {x : Value} (h : Cel10 w b o x) : b < w.heap.size := World.block_lt_of_cell? _ _ h.cell
theorem Cel10.below {w w' : World} {b o : Nat} {x : Value} (h : Cel10 w b o x) (hb : Below w.heap.size w w') : Cel10 w' b o x := ⟨(hb.cell (p := ⟨b, o, none⟩) h.lt).trans h.cell⟩
theorem Cel10.from {B : Nat} {w w' : World} {b o : Nat} {x : Value} (h : w.cell? ⟨b, o, none⟩ = some x) (hb : Below w.heap.size w w') : Cel10 w' b o x := ⟨(hb.cell (p := ⟨b, o, none⟩) (World.block_lt_of_cell? _ _ h)).trans h⟩
theorem Cel10.other3 {w : World} {b o R : Nat} {x : Value} (h : Cel10 w b o x) (hne : b ≠ R) (u0 u1 u2 : Value) : Cel10 (((w.setCell ⟨R, 0, none⟩ u0).setCell ⟨R, 1, none⟩ u1).setCell ⟨R, 2, none⟩ u2) b o x :=
 ⟨by rw [World.cell?_setCell_other _ _ _ _ (fun e => by injection e; omega), World.cell?_setCell_other _ _ _ _ (fun e => by injection e; omega), World.cell?_setCell_other _ _ _ _ (fun e => by injection e; omega)]; exact h.cell⟩
set_option maxRecDepth 100000 in
set_option maxHeartbeats 4000000 in
theorem is10_at (u v : Value) (q : Rat) (L M : Nat) (w : World) (hu : RepQ w u q) (hs : qsz q ≤ L) (hv : RatAt w v q M) (hM2 : 2 ≤ M) (hLM : L + M ≤ 890) :
  Calls Tryz.prog 13 #[u, v] w fun e w' => e = .returned (.bool true) ∧ Below w.heap.size w w' := by
 obtain ⟨pu, au, nu, cu, bu, mu, du, rfl⟩ := hu.open
 obtain ⟨pv, av, nv, cv, bv, mv, dv, rfl⟩ := hv.open
 have BB : Below w.heap.size w w := Below.refl _ _
 obtain ⟨Wb0, hW0, hS0, hL0, VU⟩ := V3.lay w 34 (.bool pu) (.slice au nu cu) (.slice bu mu du)
 replace hu := hu.below hL0
 replace hv := hv.below hL0
 replace BB := BB.trans (hL0.mono BB.size)
 clear hL0
 obtain ⟨Wb1, hW1, hS1, hL1, VV⟩ := V3.lay Wb0 34 (.bool pv) (.slice av nv cv) (.slice bv mv dv)
 rw [hS0] at VV hS1
 replace hu := hu.below hL1
 replace hv := hv.below hL1
 replace VU := VU.below hL1
 replace BB := BB.trans (hL1.mono BB.size)
 clear hL1
 go_enter Tryz.func13, Tryz.ntmps13
 go_wp2
 rw [← hW0]
 rw [← hW1]
 clear hW0 hW1 hS0 hS1
 have hDr : Below Wb1.heap.size Wb1 Wb1.drew := (Below.refl _ _).drew
 replace hu := hu.below hDr
 replace hv := hv.below hDr
 replace VU := VU.below hDr
 replace VV := VV.below hDr
 replace BB := BB.trans (hDr.mono BB.size)
 clear hDr
 refine wp_region_held_drew (S := (fun w' => w'.cell? ⟨w.heap.size, 0, none⟩ = some (.bool pu) ∧ w'.cell? ⟨w.heap.size, 1, none⟩ = some (.slice au nu cu) ∧ w'.cell? ⟨w.heap.size, 2, none⟩ = some (.slice bu mu du) ∧ w'.cell? ⟨w.heap.size + 1, 0, none⟩ = some (.bool pv) ∧ w'.cell? ⟨w.heap.size + 1, 1, none⟩ = some (.slice av nv cv) ∧ w'.cell? ⟨w.heap.size + 1, 2, none⟩ = some (.slice bv mv dv))) (by kernel_rfl) ?_ (fun hHeld => ?_)
 ·exact ⟨VU.1, VU.2.1, VU.2.2.1, VV.1, VV.2.1, VV.2.2.1⟩
 generalize Wb1.drew = W1 at *
 refine wpAnyH_take (i := 0) (v := ?_) (by simp only [xL1, xL2, xL3]; rfl) (by kernel_rfl) (by kernel_rfl) (by kernel_rfl) (by exact fun _ _ _ h => h) (Or.inl ⟨by rfl, ?_⟩) (by assumption) ?_
 rotate_left
 ·(intro w hSw; (try dsimp only at hSw); go_simp; (try with_reducible rfl))
 (try simp only [Act.put, xL4, xL5, xL6])
 refine wpAnyH_take (i := 1) (v := ?_) (by simp only [xL1, xL2, xL3]; rfl) (by kernel_rfl) (by kernel_rfl) (by kernel_rfl) (by exact fun _ _ _ h => h) (Or.inl ⟨by rfl, ?_⟩) (by assumption) ?_
 rotate_left
 ·(intro w hSw; (try dsimp only at hSw); go_simp; (try with_reducible rfl))
 (try simp only [Act.put, xL4, xL5, xL6])
 refine wpAnyH_ready (rs := [2]) (by kernel_rfl) (by simp) ?_
 refine AllReadyH.cons (by simp only [xL1, xL2, xL3]; rfl) (fun K hK => ?_) AllReadyH.nil
 go_simp
 refine (jfrom_at _ q M _ hv hM2 (by omega)).mono ?_
 rintro e w1 ⟨x1, rfl, j1, b1⟩
 go_wp2_with fail
 replace hu := hu.below b1
 replace hv := hv.below b1
 replace VU := VU.below b1
 replace VV := VV.below b1
 replace BB := BB.trans (b1.mono BB.size)
 clear b1
 refine hK.out _ _ ?_ (fun hH1 => ?_)
 ·exact ⟨VU.1, VU.2.1, VU.2.2.1, VV.1, VV.2.1, VV.2.2.1⟩
 clear hK K hHeld
 (try simp only [Act.put, xL4, xL5, xL6])
 refine wpAnyH_ready (rs := [3]) (by kernel_rfl) (by simp) ?_
 refine AllReadyH.cons (by simp only [xL1, xL2, xL3]; rfl) (fun K hK => ?_) AllReadyH.nil
 go_simp
 refine (jis_at _ _ q L M _ hu hs j1 hLM).mono ?_
 rintro e w2 ⟨rfl, b2⟩
 go_wp2_with fail
 replace hu := hu.below b2
 replace hv := hv.below b2
 replace j1 := j1.below b2
 replace VU := VU.below b2
 replace VV := VV.below b2
 replace BB := BB.trans (b2.mono BB.size)
 clear b2
 refine hK.out _ _ ?_ (fun hH2 => ?_)
 ·exact ⟨VU.1, VU.2.1, VU.2.2.1, VV.1, VV.2.1, VV.2.2.1⟩
 clear hK K hH1
 (try simp only [Act.put, xL4, xL5, xL6])
 refine wpAnyH_take (i := 4) (v := ?_) (by simp only [xL1, xL2, xL3]; rfl) (by kernel_rfl) (by kernel_rfl) (by kernel_rfl) (by exact fun _ _ _ h => h) (Or.inl ⟨by rfl, ?_⟩) (by assumption) ?_
 rotate_left
 ·(intro w hSw; (try dsimp only at hSw); go_simp; (try with_reducible rfl))
 (try simp only [Act.put, xL4, xL5, xL6])
 refine wpAnyH_done (by kernel_rfl) ?_ _
 clear hH2
 go_wp2
 go_ret
 exact ⟨rfl, BB⟩





set_option maxRecDepth 20000 in
set_option maxHeartbeats 1000000 in
theorem number7_at (p : Bool) (s t : Value) (n m : Nat) (f g : Nat → Int) (w : World) (h : Raw w s n f) (k : Raw w t m g) :
  Calls Tryz.prog 50 #[.agg #[.bool p, s, t]] w fun e w' => FewOut p (min n 4) (min m 4) f g w e w' := by
 have hA : ∀ o o', Below w.heap.size w ((w.alloc o).alloc o') := fun o o' => ((Below.refl _ _).alloc (Nat.le_refl _) _).alloc (by simp) _
 obtain ⟨ao, c, rfl, hnil, hnc, hcm, hu, h4⟩ := h
 obtain ⟨bo, d, rfl, knil, knc, kcm, ku, k4⟩ := k
 unfold maxLen at hcm kcm
 by_cases hlt : 4 < n
 ·obtain ⟨b1, off1, rfl, hc⟩ := h4 (by omega)
  have hN : Nums .u64 w (.slice (some ⟨b1, off1, none⟩) 4 c) 4 f := ⟨_, _, rfl, by omega, by unfold LIM; omega, fun _ => ⟨_, _, rfl, hc.mono (by omega)⟩⟩
  have hi : (n : Int) > 4 := by omega
  rw [show min n 4 = 4 by omega]
  by_cases klt : 4 < m
  ·obtain ⟨b2, off2, rfl, kc⟩ := k4 (by omega)
   have kN : Nums .u64 w (.slice (some ⟨b2, off2, none⟩) 4 d) 4 g := ⟨_, _, rfl, by omega, by unfold LIM; omega, fun _ => ⟨_, _, rfl, kc.mono (by omega)⟩⟩
   have ki : (m : Int) > 4 := by omega
   rw [show min m 4 = 4 by omega]
   go_enter Tryz.func50, Tryz.ntmps50
   go_wp2
   refine bodyPost_ret (v := .agg #[.bool p, .slice (some ⟨b1, off1, none⟩) 4 c, .slice (some ⟨b2, off2, none⟩) 4 d]) (by simp [results, go_sem]) rfl ?_
   exact ⟨_, _, _, _, rfl, hN.below (hA _ _), fun i hi => hu i (by omega), kN.below (hA _ _), fun i hi => ku i (by omega), hA _ _⟩
  ·have kN : Nums .u64 w (.slice bo m d) m g := ⟨_, _, rfl, knc, by unfold LIM; omega, k4⟩
   have ki : ¬ (m : Int) > 4 := by omega
   rw [show min m 4 = m by omega]
   go_enter Tryz.func50, Tryz.ntmps50
   go_wp2
   refine bodyPost_ret (v := .agg #[.bool p, .slice (some ⟨b1, off1, none⟩) 4 c, .slice bo m d]) (by simp [results, go_sem]) rfl ?_
   exact ⟨_, _, _, _, rfl, hN.below (hA _ _), fun i hi => hu i (by omega), kN.below (hA _ _), fun i hi => ku i (by omega), hA _ _⟩
 ·have hN : Nums .u64 w (.slice ao n c) n f := ⟨_, _, rfl, hnc, by unfold LIM; omega, h4⟩
  have hi : ¬ (n : Int) > 4 := by omega
  rw [show min n 4 = n by omega]
  by_cases klt : 4 < m
  ·obtain ⟨b2, off2, rfl, kc⟩ := k4 (by omega)
   have kN : Nums .u64 w (.slice (some ⟨b2, off2, none⟩) 4 d) 4 g := ⟨_, _, rfl, by omega, by unfold LIM; omega, fun _ => ⟨_, _, rfl, kc.mono (by omega)⟩⟩
   have ki : (m : Int) > 4 := by omega
   rw [show min m 4 = 4 by omega]
   go_enter Tryz.func50, Tryz.ntmps50
   go_wp2
   refine bodyPost_ret (v := .agg #[.bool p, .slice ao n c, .slice (some ⟨b2, off2, none⟩) 4 d]) (by simp [results, go_sem]) rfl ?_
   exact ⟨_, _, _, _, rfl, hN.below (hA _ _), fun i hi => hu i (by omega), kN.below (hA _ _), fun i hi => ku i (by omega), hA _ _⟩
  ·have kN : Nums .u64 w (.slice bo m d) m g := ⟨_, _, rfl, knc, by unfold LIM; omega, k4⟩
   have ki : ¬ (m : Int) > 4 := by omega
   rw [show min m 4 = m by omega]
   go_enter Tryz.func50, Tryz.ntmps50
   go_wp2
   refine bodyPost_ret (v := .agg #[.bool p, .slice ao n c, .slice bo m d]) (by simp [results, go_sem]) rfl ?_
   exact ⟨_, _, _, _, rfl, hN.below (hA _ _), fun i hi => hu i (by omega), kN.below (hA _ _), fun i hi => ku i (by omega), hA _ _⟩

set_option maxRecDepth 100000 in
set_option maxHeartbeats 8000000 in
theorem few7_at (F : Int) (v : Value) (k : Nat) (N : Nat → Nat) (T : Nat → Nat → Nd) (w : World) (hv : MRaw w v k N T 4) :
    Calls Tryz.prog 19 #[.agg #[.int .i64 F, v]] w fun e w' => ∃ r, e = .returned (.agg #[.int .i64 F, r]) ∧ MOwn w.heap.size w' r (min k 6) (fun i => min (N i) 15) T 4 ∧ Below w.heap.size w w' := by
  obtain ⟨ao, c, rfl, hnc, hc63⟩ := hv.open
  have BB : Below w.heap.size w w := Below.refl _ _
  obtain ⟨Wb0, hW0, hS0, hL0, VM⟩ := V2.lay w 24 (.int .i64 F) (.slice ao k c)
  replace BB := BB.trans (hL0.mono BB.size)
  clear hL0
  obtain ⟨Wb1, hW1, hS1, hL1, VR⟩ := V2.lay Wb0 24 (.int .i64 0) (.slice none 0 0)
  rw [hS0] at VR hS1
  replace VM := VM.below hL1
  replace BB := BB.trans (hL1.mono BB.size)
  clear hL1
  go_enter Tryz.func19, Tryz.ntmps19
  obtain ⟨W2, hW2, hS2, hL2, VO⟩ := V2.lay Wb1 24 (.int .i64 F) (.slice none 0 0)
  obtain ⟨VM_0, VM_1, VM_2, VM_3⟩ := id VM
  rw [hW1, hW0] at VM_0 VM_1 VM_2 VM_3
  obtain ⟨VO_0, VO_1, VO_2, VO_3⟩ := id VO
  rw [hW2, hW1, hW0] at VO_0 VO_1 VO_2 VO_3
  go_wp2
  clear VM_0 VM_1 VM_2 VM_3 VO_0 VO_1 VO_2 VO_3
  rw [← hW0]
  rw [← hW1]
  rw [← hW2]
  have HS : Hid (Wb1.heap.size = w.heap.size + 1 + 1) := hS1
  have hR3 : w.heap.size + 1 < Wb1.heap.size := by omega
  rw [hS1] at VO
  clear hW0 hW1 hW2 hS0 hS1
  have VM0 := VM
  have VR0 := VR
  have BB0 : Hid (Below w.heap.size w Wb1) := BB
  clear VM VR BB
  go_loopw [4] (fun vi wr => ∃ (i : Nat) (tr : Value), i ≤ min k 6 ∧ vi = .int .i64 (i : Int) ∧ V2 wr (w.heap.size + 1 + 1) (.int .i64 F) tr ∧ MOwn (w.heap.size + 1 + 1 + 1) wr tr i (fun i => min (N i) 15) T 4 ∧ Below Wb1.heap.size Wb1 wr) (fun vi _ => min k 6 - (intOf vi).toNat)
  case atStart => exact ⟨0, _, by omega, rfl, VO, MOwn.nil _ _ _ _ _, hL2⟩
  case round =>
    clear VO hL2
    obtain ⟨i, tr, hi, rfl, VO, MO, BL⟩ := hrel
    obtain ⟨at3, ct3, rfl⟩ := MO.form
    obtain ⟨VM_0, VM_1, VM_2, VM_3⟩ := VM0.below BL
    by_cases hlt : i < min k 6
    · have hik : i < k := by omega
      have h6 : i < 6 := by omega
      have g1 : (i : Int) < (k : Int) := by omega
      have g2 : (i : Int) < 6 := by omega
      have g0 : (0 : Int) ≤ (i : Int) := by omega
      obtain ⟨bT, oT, cT, aT, dT, hvv, hcc, XT0, TR⟩ := hv.at hik
      cases hvv
      go_wp2
      clear VM_0 VM_1 VM_2 VM_3
      obtain ⟨wo, rfl⟩ : ∃ wo, wo = wr := ⟨_, rfl⟩
      have hwo : Wb1.heap.size ≤ wo.heap.size := BL.size
      have HNi : Hid (N i ≤ dT ∧ dT ≤ 9223372036854775807) := by obtain ⟨_, _, e9, l9, m9⟩ := TR.open; cases e9; exact ⟨l9, m9⟩
      have hNd := HNi.out.1
      obtain ⟨ni, hni⟩ : ∃ ni, N i = ni := ⟨_, rfl⟩
      have HNI : Hid (N i = ni) := hni
      rw [hni] at XT0 TR hNd
      clear hni
      go_loopw [5, 6] (fun vt vq wr => ∃ q : Nat, q ≤ min ni 15 ∧ vq = .int .i64 (q : Int) ∧ NOwn wo.heap.size wr vt q (T i) 4 ∧ Below wo.heap.size wo wr) (fun _ vq _ => min ni 15 - (intOf vq).toNat)
      case atStart => exact ⟨0, by omega, rfl, NOwn.nil _ _ _ _, Below.refl _ _⟩
      case round =>
        obtain ⟨q, hq, rfl, TO, BI⟩ := hrel
        have BW := BL.trans (BI.mono BL.size)
        have BB := BB0.out.trans (BW.mono BB0.out.size)
        obtain ⟨VM_0, VM_1, VM_2, VM_3⟩ := VM0.below BW
        have XT : wr.cell? ⟨bT, oT + i, none⟩ = some (.slice aT ni dT) := (BB.cell (World.block_lt_of_cell? _ _ XT0)).trans XT0
        obtain ⟨avt, cvt, rfl⟩ := TO.form
        by_cases hlq : q < min ni 15
        · have hqN : q < ni := by omega
          have e1 : (q : Int) < (ni : Int) := by omega
          have e2 : (q : Int) < 15 := by omega
          have e0 : (0 : Int) ≤ (q : Int) := by omega
          have hq15 : q ≤ 15 := by omega
          obtain ⟨b, off, cc, p1, a1, n1, c1, b1, m1, d1, f1, g1_, p2, a2, n2, c2, b2, m2, d2, f2, g2_, p3, a3, n3, c3, b3, m3, d3, f3, g3_, hvv, hcc2, hc6, NN0, ⟨u1, v1, E1⟩, ⟨u2, v2, E2⟩, ⟨u3, v3, E3_⟩, i1, i2, i3⟩ := TR.at hqN
          cases hvv
          have NN := NN0.low BB
          clear NN0
          have HE1 : Hid ((T i q).cut = mkRat (zof p1 (num f1 (min n1 4))) (num g1_ (min m1 4))) := E1
          have HE2 : Hid ((T i q).val = mkRat (zof p2 (num f2 (min n2 4))) (num g2_ (min m2 4))) := E2
          have HE3 : Hid ((T i q).cov = mkRat (zof p3 (num f3 (min n3 4))) (num g3_ (min m3 4))) := E3_
          clear E1 E2 E3_
          obtain ⟨lf, hlf⟩ : ∃ z, (T i q).leaf = z := ⟨_, rfl⟩
          obtain ⟨ft, hft⟩ : ∃ z, (T i q).feat = z := ⟨_, rfl⟩
          obtain ⟨ll, hll⟩ : ∃ z, (T i q).left = z := ⟨_, rfl⟩
          obtain ⟨rr, hrr⟩ : ∃ z, (T i q).right = z := ⟨_, rfl⟩
          obtain ⟨ms, hms⟩ : ∃ z, (T i q).miss = z := ⟨_, rfl⟩
          rw [hlf, hft, hll, hrr, hms] at NN
          have HI3 : Hid (I64 (T i q).feat ∧ I64 (T i q).left ∧ I64 (T i q).right) := ⟨i1, i2, i3⟩
          have HLE : Hid ((T i q).leaf = lf ∧ (T i q).feat = ft ∧ (T i q).left = ll ∧ (T i q).right = rr ∧ (T i q).miss = ms) := ⟨hlf, hft, hll, hrr, hms⟩
          clear hlf hft hll hrr hms i1 i2 i3
          obtain ⟨N_0, N_1, N_2, N_3, N_4, N_5, N_6, N_7, N_8, N_9, N_10, N_11, N_12, N_13⟩ := id NN
          have hRb : wo.heap.size ≤ wr.heap.size := BI.size
          have HRT : Hid (∀ g, (Value.slice avt q cvt).ownBlock = some g → g ≠ wr.heap.size) := fun g hg => Nat.ne_of_lt (TO.blocks g hg).2
          obtain ⟨W9, hW9, hS9, hL9, VN, FN⟩ := V14.lay wr 58 (.bool lf) (.int .i64 ft) (.bool p1) (.slice a1 n1 c1) (.slice b1 m1 d1) (.int .i64 ll) (.int .i64 rr) (.bool ms) (.bool p2) (.slice a2 n2 c2) (.slice b2 m2 d2) (.bool p3) (.slice a3 n3 c3) (.slice b3 m3 d3)
          replace TO := TO.later hL9
          replace BB := BB.trans (hL9.mono BB.size)
          replace BI := BI.trans (hL9.mono BI.size)
          obtain ⟨V_0, V_1, V_2, V_3, V_4, V_5, V_6, V_7, V_8, V_9, V_10, V_11, V_12, V_13⟩ := id VN
          rw [hW9] at V_0 V_1 V_2 V_3 V_4 V_5 V_6 V_7 V_8 V_9 V_10 V_11 V_12 V_13
          go_wp2_with fail
          clear V_0 V_1 V_2 V_3 V_4 V_5 V_6 V_7 V_8 V_9 V_10 V_11 V_12 V_13 N_0 N_1 N_2 N_3 N_4 N_5 N_6 N_7 N_8 N_9 N_10 N_11 N_12 N_13 VM_0 VM_1 VM_2 VM_3 XT
          rw [← hW9]
          have hRw : w.heap.size ≤ wr.heap.size := by have := BB0.out.size; omega
          generalize wr.heap.size = R at *
          clear hW9 hS9 hL9 NN
          refine (number7_at _ _ _ _ _ _ _ _ (u1.below BB) (v1.below BB)).mono ?_
          rintro e wn1 ⟨ao1, co1, bo1, do1, rfl, hu1, uf1, hv1, vf1, bn1⟩
          have X1 : RatAt wn1 (.agg #[.bool p1, .slice ao1 (min n1 4) co1, .slice bo1 (min m1 4) do1]) (T i q).cut 4 := by rw [HE1.out]; exact RatAt.raw hu1 uf1 hv1 vf1 (Nat.min_le_right _ _) (Nat.min_le_right _ _)
          clear hu1 uf1 hv1 vf1 HE1
          replace FN := soft_below FN VN.lt bn1
          replace VN := VN.below bn1
          replace TO := TO.later bn1
          replace BB := BB.trans (bn1.mono BB.size)
          replace BI := BI.trans (bn1.mono BI.size)
          generalize min n1 4 = k1 at *
          generalize min m1 4 = l1 at *
          clear bn1
          have KK := VN.keep2 (limb_bool _) (limb_slice _ _ _) (limb_slice _ _ _) (.bool p1) (.slice ao1 k1 co1) (.slice bo1 l1 do1)
          have FN_n : ∀ j, ((((wn1).setCell ⟨R, 2, none⟩ (.bool p1)).setCell ⟨R, 3, none⟩ (.slice ao1 k1 co1)).setCell ⟨R, 4, none⟩ (.slice bo1 l1 do1)).frozen? ⟨R, j, none⟩ = false := soft_set (soft_set (soft_set FN _ _) _ _) _ _
          have VN_n := VN.set2 (.bool p1) (.slice ao1 k1 co1) (.slice bo1 l1 do1)
          have X1_n := X1.keepL KK
          have BB_n : Below w.heap.size w ((((wn1).setCell ⟨R, 2, none⟩ (.bool p1)).setCell ⟨R, 3, none⟩ (.slice ao1 k1 co1)).setCell ⟨R, 4, none⟩ (.slice bo1 l1 do1)) := ((BB.setCell hRw _).setCell hRw _).setCell hRw _
          have BI_n : Below wo.heap.size wo ((((wn1).setCell ⟨R, 2, none⟩ (.bool p1)).setCell ⟨R, 3, none⟩ (.slice ao1 k1 co1)).setCell ⟨R, 4, none⟩ (.slice bo1 l1 do1)) := ((BI.setCell hRb _).setCell hRb _).setCell hRb _
          have TO_n := TO.apart2 HRT.out VN.c2 VN.c3 VN.c4 (limb_bool _) (limb_slice _ _ _) (limb_slice _ _ _) (.bool p1) (.slice ao1 k1 co1) (.slice bo1 l1 do1)
          obtain ⟨V_0, V_1, V_2, V_3, V_4, V_5, V_6, V_7, V_8, V_9, V_10, V_11, V_12, V_13⟩ := id VN
          have f0_ := FN 2
          have f1_ := FN 3
          have f2_ := FN 4
          clear FN
          obtain ⟨Z_0, Z_1, Z_2, Z_3, Z_4, Z_5, Z_6, Z_7, Z_8, Z_9, Z_10, Z_11, Z_12, Z_13⟩ := id VN_n
          go_wp2_with fail
          clear KK f0_ f1_ f2_ VN TO BB BI X1 V_0 V_1 V_2 V_3 V_4 V_5 V_6 V_7 V_8 V_9 V_10 V_11 V_12 V_13 Z_0 Z_1 Z_2 Z_3 Z_4 Z_5 Z_6 Z_7 Z_8 Z_9 Z_10 Z_11 Z_12 Z_13
          generalize (((wn1).setCell ⟨R, 2, none⟩ (.bool p1)).setCell ⟨R, 3, none⟩ (.slice ao1 k1 co1)).setCell ⟨R, 4, none⟩ (.slice bo1 l1 do1) = ws1 at *
          have FN := FN_n
          have VN := VN_n
          have BB := BB_n
          have BI := BI_n
          have TO := TO_n
          have X1 := X1_n
          clear FN_n VN_n BB_n BI_n TO_n X1_n
          refine (number7_at _ _ _ _ _ _ _ _ (u2.below BB) (v2.below BB)).mono ?_
          rintro e wn2 ⟨ao2, co2, bo2, do2, rfl, hu2, uf2, hv2, vf2, bn2⟩
          have X2 : RatAt wn2 (.agg #[.bool p2, .slice ao2 (min n2 4) co2, .slice bo2 (min m2 4) do2]) (T i q).val 4 := by rw [HE2.out]; exact RatAt.raw hu2 uf2 hv2 vf2 (Nat.min_le_right _ _) (Nat.min_le_right _ _)
          clear hu2 uf2 hv2 vf2 HE2
          replace FN := soft_below FN VN.lt bn2
          replace VN := VN.below bn2
          replace TO := TO.later bn2
          replace BB := BB.trans (bn2.mono BB.size)
          replace BI := BI.trans (bn2.mono BI.size)
          generalize min n2 4 = k2 at *
          generalize min m2 4 = l2 at *
          replace X1 := X1.below bn2
          clear bn2
          have KK := VN.keep8 (limb_bool _) (limb_slice _ _ _) (limb_slice _ _ _) (.bool p2) (.slice ao2 k2 co2) (.slice bo2 l2 do2)
          have FN_n : ∀ j, ((((wn2).setCell ⟨R, 8, none⟩ (.bool p2)).setCell ⟨R, 9, none⟩ (.slice ao2 k2 co2)).setCell ⟨R, 10, none⟩ (.slice bo2 l2 do2)).frozen? ⟨R, j, none⟩ = false := soft_set (soft_set (soft_set FN _ _) _ _) _ _
          have VN_n := VN.set8 (.bool p2) (.slice ao2 k2 co2) (.slice bo2 l2 do2)
          have X1_n := X1.keepL KK
          have X2_n := X2.keepL KK
          have BB_n : Below w.heap.size w ((((wn2).setCell ⟨R, 8, none⟩ (.bool p2)).setCell ⟨R, 9, none⟩ (.slice ao2 k2 co2)).setCell ⟨R, 10, none⟩ (.slice bo2 l2 do2)) := ((BB.setCell hRw _).setCell hRw _).setCell hRw _
          have BI_n : Below wo.heap.size wo ((((wn2).setCell ⟨R, 8, none⟩ (.bool p2)).setCell ⟨R, 9, none⟩ (.slice ao2 k2 co2)).setCell ⟨R, 10, none⟩ (.slice bo2 l2 do2)) := ((BI.setCell hRb _).setCell hRb _).setCell hRb _
          have TO_n := TO.apart8 HRT.out VN.c8 VN.c9 VN.c10 (limb_bool _) (limb_slice _ _ _) (limb_slice _ _ _) (.bool p2) (.slice ao2 k2 co2) (.slice bo2 l2 do2)
          obtain ⟨V_0, V_1, V_2, V_3, V_4, V_5, V_6, V_7, V_8, V_9, V_10, V_11, V_12, V_13⟩ := id VN
          have f0_ := FN 8
          have f1_ := FN 9
          have f2_ := FN 10
          clear FN
          obtain ⟨Z_0, Z_1, Z_2, Z_3, Z_4, Z_5, Z_6, Z_7, Z_8, Z_9, Z_10, Z_11, Z_12, Z_13⟩ := id VN_n
          go_wp2_with fail
          clear KK f0_ f1_ f2_ VN TO BB BI X1 X2 V_0 V_1 V_2 V_3 V_4 V_5 V_6 V_7 V_8 V_9 V_10 V_11 V_12 V_13 Z_0 Z_1 Z_2 Z_3 Z_4 Z_5 Z_6 Z_7 Z_8 Z_9 Z_10 Z_11 Z_12 Z_13
          generalize (((wn2).setCell ⟨R, 8, none⟩ (.bool p2)).setCell ⟨R, 9, none⟩ (.slice ao2 k2 co2)).setCell ⟨R, 10, none⟩ (.slice bo2 l2 do2) = ws2 at *
          have FN := FN_n
          have VN := VN_n
          have BB := BB_n
          have BI := BI_n
          have TO := TO_n
          have X1 := X1_n
          have X2 := X2_n
          clear FN_n VN_n BB_n BI_n TO_n X1_n X2_n
          refine (number7_at _ _ _ _ _ _ _ _ (u3.below BB) (v3.below BB)).mono ?_
          rintro e wn3 ⟨ao3, co3, bo3, do3, rfl, hu3, uf3, hv3, vf3, bn3⟩
          have X3 : RatAt wn3 (.agg #[.bool p3, .slice ao3 (min n3 4) co3, .slice bo3 (min m3 4) do3]) (T i q).cov 4 := by rw [HE3.out]; exact RatAt.raw hu3 uf3 hv3 vf3 (Nat.min_le_right _ _) (Nat.min_le_right _ _)
          clear hu3 uf3 hv3 vf3 HE3
          replace FN := soft_below FN VN.lt bn3
          replace VN := VN.below bn3
          replace TO := TO.later bn3
          replace BB := BB.trans (bn3.mono BB.size)
          replace BI := BI.trans (bn3.mono BI.size)
          generalize min n3 4 = k3 at *
          generalize min m3 4 = l3 at *
          replace X1 := X1.below bn3
          replace X2 := X2.below bn3
          clear bn3
          have KK := VN.keep11 (limb_bool _) (limb_slice _ _ _) (limb_slice _ _ _) (.bool p3) (.slice ao3 k3 co3) (.slice bo3 l3 do3)
          have FN_n : ∀ j, ((((wn3).setCell ⟨R, 11, none⟩ (.bool p3)).setCell ⟨R, 12, none⟩ (.slice ao3 k3 co3)).setCell ⟨R, 13, none⟩ (.slice bo3 l3 do3)).frozen? ⟨R, j, none⟩ = false := soft_set (soft_set (soft_set FN _ _) _ _) _ _
          have VN_n := VN.set11 (.bool p3) (.slice ao3 k3 co3) (.slice bo3 l3 do3)
          have X1_n := X1.keepL KK
          have X2_n := X2.keepL KK
          have X3_n := X3.keepL KK
          have BB_n : Below w.heap.size w ((((wn3).setCell ⟨R, 11, none⟩ (.bool p3)).setCell ⟨R, 12, none⟩ (.slice ao3 k3 co3)).setCell ⟨R, 13, none⟩ (.slice bo3 l3 do3)) := ((BB.setCell hRw _).setCell hRw _).setCell hRw _
          have BI_n : Below wo.heap.size wo ((((wn3).setCell ⟨R, 11, none⟩ (.bool p3)).setCell ⟨R, 12, none⟩ (.slice ao3 k3 co3)).setCell ⟨R, 13, none⟩ (.slice bo3 l3 do3)) := ((BI.setCell hRb _).setCell hRb _).setCell hRb _
          have TO_n := TO.apart11 HRT.out VN.c11 VN.c12 VN.c13 (limb_bool _) (limb_slice _ _ _) (limb_slice _ _ _) (.bool p3) (.slice ao3 k3 co3) (.slice bo3 l3 do3)
          obtain ⟨V_0, V_1, V_2, V_3, V_4, V_5, V_6, V_7, V_8, V_9, V_10, V_11, V_12, V_13⟩ := id VN
          have f0_ := FN 11
          have f1_ := FN 12
          have f2_ := FN 13
          clear FN
          obtain ⟨Z_0, Z_1, Z_2, Z_3, Z_4, Z_5, Z_6, Z_7, Z_8, Z_9, Z_10, Z_11, Z_12, Z_13⟩ := id VN_n
          have hA : Below ((((wn3).setCell ⟨R, 11, none⟩ (.bool p3)).setCell ⟨R, 12, none⟩ (.slice ao3 k3 co3)).setCell ⟨R, 13, none⟩ (.slice bo3 l3 do3)).heap.size ((((wn3).setCell ⟨R, 11, none⟩ (.bool p3)).setCell ⟨R, 12, none⟩ (.slice ao3 k3 co3)).setCell ⟨R, 13, none⟩ (.slice bo3 l3 do3)) (((((wn3).setCell ⟨R, 11, none⟩ (.bool p3)).setCell ⟨R, 12, none⟩ (.slice ao3 k3 co3)).setCell ⟨R, 13, none⟩ (.slice bo3 l3 do3)).alloc (.cells #[.bool lf, .int .i64 ft, .bool p1, .slice ao1 k1 co1, .slice bo1 l1 do1, .int .i64 ll, .int .i64 rr, .bool ms, .bool p2, .slice ao2 k2 co2, .slice bo2 l2 do2, .bool p3, .slice ao3 k3 co3, .slice bo3 l3 do3] 58)) := (Below.refl _ _).alloc (Nat.le_refl _) _
          have TO2 := TO_n.later hA
          have BI2 := BI_n.trans (hA.mono BI_n.size)
          have Y1 := X1_n.below hA
          have Y2 := X2_n.below hA
          have Y3 := X3_n.below hA
          obtain ⟨cs, hcl, hco, hcp, hcn⟩ := TO2.parts
          have hsz2 := BI2.size
          have hbk := TO2.blocks
          have HND : Hid (NodeAt (((((wn3).setCell ⟨R, 11, none⟩ (.bool p3)).setCell ⟨R, 12, none⟩ (.slice ao3 k3 co3)).setCell ⟨R, 13, none⟩ (.slice bo3 l3 do3)).alloc (.cells #[.bool lf, .int .i64 ft, .bool p1, .slice ao1 k1 co1, .slice bo1 l1 do1, .int .i64 ll, .int .i64 rr, .bool ms, .bool p2, .slice ao2 k2 co2, .slice bo2 l2 do2, .bool p3, .slice ao3 k3 co3, .slice bo3 l3 do3] 58)) (fun j => [.bool lf, .int .i64 ft, .bool p1, .slice ao1 k1 co1, .slice bo1 l1 do1, .int .i64 ll, .int .i64 rr, .bool ms, .bool p2, .slice ao2 k2 co2, .slice bo2 l2 do2, .bool p3, .slice ao3 k3 co3, .slice bo3 l3 do3].getD j undef) (T i q) 4) := by
            obtain ⟨z1, z2, z3, z4, z5⟩ := HLE.out
            obtain ⟨y1, y2, y3⟩ := HI3.out
            exact ⟨by rw [z1]; rfl, by rw [z2]; rfl, ⟨_, _, _, _, _, _, _, rfl, rfl, rfl, Y1⟩, by rw [z3]; rfl, by rw [z4]; rfl, by rw [z5]; rfl, ⟨_, _, _, _, _, _, _, rfl, rfl, rfl, Y2⟩, ⟨_, _, _, _, _, _, _, rfl, rfl, rfl, Y3⟩, y1, y2, y3⟩
          have HCN : Hid (∀ j, j < q → NodeAt (((((wn3).setCell ⟨R, 11, none⟩ (.bool p3)).setCell ⟨R, 12, none⟩ (.slice ao3 k3 co3)).setCell ⟨R, 13, none⟩ (.slice bo3 l3 do3)).alloc (.cells #[.bool lf, .int .i64 ft, .bool p1, .slice ao1 k1 co1, .slice bo1 l1 do1, .int .i64 ll, .int .i64 rr, .bool ms, .bool p2, .slice ao2 k2 co2, .slice bo2 l2 do2, .bool p3, .slice ao3 k3 co3, .slice bo3 l3 do3] 58)) (fun x => cs.getD (j * 14 + x) undef) (T i j) 4) := hcn
          have HCL : Hid (cs.length = q * 14) := hcl
          have hws : ((((wn3).setCell ⟨R, 11, none⟩ (.bool p3)).setCell ⟨R, 12, none⟩ (.slice ao3 k3 co3)).setCell ⟨R, 13, none⟩ (.slice bo3 l3 do3)).heap.size = wn3.heap.size := by simp
          have hnb := news_block (heap_alloc_new ((((wn3).setCell ⟨R, 11, none⟩ (.bool p3)).setCell ⟨R, 12, none⟩ (.slice ao3 k3 co3)).setCell ⟨R, 13, none⟩ (.slice bo3 l3 do3)) (.cells #[.bool lf, .int .i64 ft, .bool p1, .slice ao1 k1 co1, .slice bo1 l1 do1, .int .i64 ll, .int .i64 rr, .bool ms, .bool p2, .slice ao2 k2 co2, .slice bo2 l2 do2, .bool p3, .slice ao3 k3 co3, .slice bo3 l3 do3] 58))
          rw [hws] at hnb
          clear hws
          clear hcn hcl TO2 Y1 Y2 Y3 TO_n TO BB BI X1 X2 X3 X1_n X2_n X3_n HLE HI3 KK VN
          go_wp2_with (first
            | (at_builtin
               refine wpList_append_pure (Q' := IsLimb) rfl _ _ _ rfl wo.heap.size 58 (.agg #[.bool false, .int .i64 0, .bool false, .slice none 0 0, .slice none 0 0, .int .i64 0, .int .i64 0, .bool false, .bool false, .slice none 0 0, .slice none 0 0, .bool false, .slice none 0 0, .slice none 0 0]) 14 208 Tryz.underlying47 info_node rfl (by omega) (.slice avt q cvt) rfl q cs hco hcp ⟨wn3.heap.size, 0, none⟩ 1 rfl [.bool lf, .int .i64 ft, .bool p1, .slice ao1 k1 co1, .slice bo1 l1 do1, .int .i64 ll, .int .i64 rr, .bool ms, .bool p2, .slice ao2 k2 co2, .slice bo2 l2 do2, .bool p3, .slice ao3 k3 co3, .slice bo3 l3 do3] rfl ?g14 ?g15 ?g16 ?g17 (by omega) (by omega) hsz2 ?_
               case g14 => exact hnb
               case g15 => simp [Value.oneCell']
               case g16 => simp [limb_bool, limb_slice, limb_int]
               case g17 => simp [Value.cells, limb_bool, limb_slice, limb_int]
               intro gN cN w5 ho5 hg5 _ hp5 hk5
               have NO5 : NOwn wo.heap.size w5 (.slice (some ⟨gN, 0, none⟩) (q + 1) cN) (q + 1) (T i) 4 := NOwn.more (v := .slice none 0 0) ho5 HCL.out (fun g hg => by cases hg; exact hp5) hk5 HCN.out HND.out
               have BI5 : Below wo.heap.size wo w5 := below_grownB BI2 hg5 hsz2 (fun g hg => (hbk g hg).1)
               clear ho5 hg5 hp5 hk5 hco hcp BI2 hbk hA HCN HND HCL))
          go_roundw
          case rel => exact ⟨q + 1, by omega, by go_num, NO5, BI5⟩
          case measure => simp [intOf]; omega
        · have hqe : q = min ni 15 := by omega
          have HQ : Hid (q = min (N i) 15) := by rw [HNI.out]; exact hqe
          have MO2 : MOwn (w.heap.size + 1 + 1 + 1) wr (.slice at3 i ct3) i (fun i => min (N i) 15) T 4 := MO.later BI
          have TO2 : NOwn (w.heap.size + 1 + 1 + 1) wr (.slice avt q cvt) q (T i) 4 := TO.le (by have := VO.lt; omega)
          have VO2 := VO.below BI
          clear BI TO MO VO BB
          have HSZ : Hid (Wb1.heap.size = w.heap.size + 1 + 1) := HS
          have hsz1 : w.heap.size + 1 + 1 + 1 ≤ wr.heap.size := by have := BW.size; have := VO2.lt; omega
          have hA : Below wr.heap.size wr (wr.alloc (.cells #[.slice avt q cvt] 47)) := (Below.refl _ _).alloc (Nat.le_refl _) _
          replace MO2 := MO2.later hA
          replace TO2 := TO2.later hA
          have VO3 := VO2.below hA
          have BW2 := BW.trans (hA.mono BW.size)
          obtain ⟨us, huo, hup⟩ := MO2.parts
          have hbk := MO2.blocks
          have hsz2 : w.heap.size + 1 + 1 + 1 ≤ (wr.alloc (.cells #[.slice avt q cvt] 47)).heap.size := Nat.le_trans hsz1 hA.size
          obtain ⟨VO_0, VO_1, VO_2, VO_3⟩ := id VO2
          have hqm : ¬ ((q : Int) < (ni : Int) ∧ (q : Int) < 15) := by omega
          have hbl : w.heap.size + 1 + 1 < wr.heap.size := by omega
          clear hqe hq hlq
          by_cases hqn : q < ni
          · have c1 : (q : Int) < (ni : Int) := by omega
            have c2 : ¬ (q : Int) < 15 := by omega
            go_wp2_with (first
              | (at_builtin
                 refine wpList_append_pure (Q' := IsLimb) rfl _ _ _ rfl (w.heap.size + 1 + 1 + 1) 47 (.slice none 0 0) 1 24 Tryz.underlying22 info_tree rfl (by omega) (.slice at3 i ct3) rfl i us huo hup ⟨wr.heap.size, 0, none⟩ 1 rfl [.slice avt q cvt] rfl ?g14 ?g15 ?g16 ?g17 (by omega) (by omega) hsz2 ?_
                 case g14 => exact news_block (heap_alloc_new _ _)
                 case g15 => simp [Value.oneCell']
                 case g16 => simp [limb_slice]
                 case g17 => simp [Value.cells, limb_slice]
                 intro gN cN w5 ho5 hg5 _ hp5 hk5
                 have MO5 : MOwn (w.heap.size + 1 + 1 + 1) w5 (.slice (some ⟨gN, 0, none⟩) (i + 1) cN) (i + 1) (fun i => min (N i) 15) T 4 := MO2.more1 huo (by rw [← HQ.out]; exact TO2) ho5 hg5 (fun g hg => by cases hg; exact hp5) hk5
                 have hlow : Below (w.heap.size + 1 + 1 + 1) (wr.alloc (.cells #[.slice avt q cvt] 47)) w5 := below_grownB (Below.refl _ _) hg5 hsz2 (fun g hg => (hbk g hg).1)
                 have VO5 : V2 w5 (w.heap.size + 1 + 1) (.int .i64 F) (.slice at3 i ct3) := ⟨(hlow.cell (p := ⟨_, 0, none⟩) (by show w.heap.size + 1 + 1 < _; omega)).trans VO3.1, (hlow.cell (p := ⟨_, 1, none⟩) (by show w.heap.size + 1 + 1 < _; omega)).trans VO3.2.1, (hlow.frozen (p := ⟨_, 0, none⟩) (by show w.heap.size + 1 + 1 < _; omega)).trans VO3.2.2.1, (hlow.frozen (p := ⟨_, 1, none⟩) (by show w.heap.size + 1 + 1 < _; omega)).trans VO3.2.2.2⟩
                 have BW5 : Below Wb1.heap.size Wb1 w5 := BW2.trans (hlow.mono (by have := HSZ.out; omega))
                 obtain ⟨U_0, U_1, U_2, U_3⟩ := id VO5
                 have K5 : KeepQ IsLimb w5 (w5.setCell ⟨w.heap.size + 1 + 1, 1, none⟩ (.slice (some ⟨gN, 0, none⟩) (i + 1) cN)) := keepL_set U_1 (limb_slice _ _ _) _
                 have MO6 := MO5.set (a := ⟨w.heap.size + 1 + 1, 1, none⟩) (by show w.heap.size + 1 + 1 < _; omega) _ K5
                 have VO6 : V2 (w5.setCell ⟨w.heap.size + 1 + 1, 1, none⟩ (.slice (some ⟨gN, 0, none⟩) (i + 1) cN)) (w.heap.size + 1 + 1) (.int .i64 F) (.slice (some ⟨gN, 0, none⟩) (i + 1) cN) := ⟨cell_set_by U_0 (by omega), cell_set_at U_1, by simp [U_2], by simp [U_3]⟩
                 have BW6 := BW5.setCell (p := ⟨w.heap.size + 1 + 1, 1, none⟩) (by show Wb1.heap.size ≤ w.heap.size + 1 + 1; have := HSZ.out; omega) (.slice (some ⟨gN, 0, none⟩) (i + 1) cN)
                 clear ho5 hg5 hp5 hk5 huo hup hbk hlow hA MO5 MO2 TO2 K5 VO5 VO3 BW5 BW2))
            go_roundw
            case rel => exact ⟨i + 1, _, by omega, by go_num, VO6, MO6, BW6⟩
            case measure => simp [intOf]; omega
          · have c1 : ¬ (q : Int) < (ni : Int) := by omega
            have c1b : decide ((q : Int) < (ni : Int)) = false := decide_eq_false c1
            go_wp2_with (first
              | (at_builtin
                 refine wpList_append_pure (Q' := IsLimb) rfl _ _ _ rfl (w.heap.size + 1 + 1 + 1) 47 (.slice none 0 0) 1 24 Tryz.underlying22 info_tree rfl (by omega) (.slice at3 i ct3) rfl i us huo hup ⟨wr.heap.size, 0, none⟩ 1 rfl [.slice avt q cvt] rfl ?g14 ?g15 ?g16 ?g17 (by omega) (by omega) hsz2 ?_
                 case g14 => exact news_block (heap_alloc_new _ _)
                 case g15 => simp [Value.oneCell']
                 case g16 => simp [limb_slice]
                 case g17 => simp [Value.cells, limb_slice]
                 intro gN cN w5 ho5 hg5 _ hp5 hk5
                 have MO5 : MOwn (w.heap.size + 1 + 1 + 1) w5 (.slice (some ⟨gN, 0, none⟩) (i + 1) cN) (i + 1) (fun i => min (N i) 15) T 4 := MO2.more1 huo (by rw [← HQ.out]; exact TO2) ho5 hg5 (fun g hg => by cases hg; exact hp5) hk5
                 have hlow : Below (w.heap.size + 1 + 1 + 1) (wr.alloc (.cells #[.slice avt q cvt] 47)) w5 := below_grownB (Below.refl _ _) hg5 hsz2 (fun g hg => (hbk g hg).1)
                 have VO5 : V2 w5 (w.heap.size + 1 + 1) (.int .i64 F) (.slice at3 i ct3) := ⟨(hlow.cell (p := ⟨_, 0, none⟩) (by show w.heap.size + 1 + 1 < _; omega)).trans VO3.1, (hlow.cell (p := ⟨_, 1, none⟩) (by show w.heap.size + 1 + 1 < _; omega)).trans VO3.2.1, (hlow.frozen (p := ⟨_, 0, none⟩) (by show w.heap.size + 1 + 1 < _; omega)).trans VO3.2.2.1, (hlow.frozen (p := ⟨_, 1, none⟩) (by show w.heap.size + 1 + 1 < _; omega)).trans VO3.2.2.2⟩
                 have BW5 : Below Wb1.heap.size Wb1 w5 := BW2.trans (hlow.mono (by have := HSZ.out; omega))
                 obtain ⟨U_0, U_1, U_2, U_3⟩ := id VO5
                 have K5 : KeepQ IsLimb w5 (w5.setCell ⟨w.heap.size + 1 + 1, 1, none⟩ (.slice (some ⟨gN, 0, none⟩) (i + 1) cN)) := keepL_set U_1 (limb_slice _ _ _) _
                 have MO6 := MO5.set (a := ⟨w.heap.size + 1 + 1, 1, none⟩) (by show w.heap.size + 1 + 1 < _; omega) _ K5
                 have VO6 : V2 (w5.setCell ⟨w.heap.size + 1 + 1, 1, none⟩ (.slice (some ⟨gN, 0, none⟩) (i + 1) cN)) (w.heap.size + 1 + 1) (.int .i64 F) (.slice (some ⟨gN, 0, none⟩) (i + 1) cN) := ⟨cell_set_by U_0 (by omega), cell_set_at U_1, by simp [U_2], by simp [U_3]⟩
                 have BW6 := BW5.setCell (p := ⟨w.heap.size + 1 + 1, 1, none⟩) (by show Wb1.heap.size ≤ w.heap.size + 1 + 1; have := HSZ.out; omega) (.slice (some ⟨gN, 0, none⟩) (i + 1) cN)
                 clear ho5 hg5 hp5 hk5 huo hup hbk hlow hA MO5 MO2 TO2 K5 VO5 VO3 BW5 BW2))
            go_roundw
            case rel => exact ⟨i + 1, _, by omega, by go_num, VO6, MO6, BW6⟩
            case measure => simp [intOf]; omega
    · have hik : i = min k 6 := by omega
      have VR := VR0.below BL
      have BB := BB0.out.trans (BL.mono BB0.out.size)
      obtain ⟨VO_0, VO_1, VO_2, VO_3⟩ := id VO
      obtain ⟨q1, q2, q3, q4⟩ := id VR
      have HIK : Hid (i = min k 6) := hik
      clear hik
      have K1 : KeepQ IsLimb wr (wr.setCell ⟨w.heap.size + 1, 0, none⟩ (.int .i64 F)) := keepL_set q1 (limb_int 0) _
      have K2 := keepL_set (cell_set_by (u := .int .i64 F) (j := 0) q2 (by omega)) (limb_slice _ _ _) (.slice at3 i ct3)
      have MO2 := (MO.set (a := ⟨w.heap.size + 1, 0, none⟩) (by show w.heap.size + 1 < _; omega) _ K1).set (a := ⟨w.heap.size + 1, 1, none⟩) (by show w.heap.size + 1 < _; omega) _ K2
      have HMR : Hid (MOwn w.heap.size _ (.slice at3 i ct3) i (fun i => min (N i) 15) T 4) := MO2.le (by omega)
      have BB2 := (BB.setCell (p := ⟨w.heap.size + 1, 0, none⟩) (by show w.heap.size ≤ w.heap.size + 1; omega) (.int .i64 F)).setCell (p := ⟨w.heap.size + 1, 1, none⟩) (by show w.heap.size ≤ w.heap.size + 1; omega) (.slice at3 i ct3)
      clear MO2 K1 K2 MO
      by_cases hk6 : i < k
      · have g1 : (i : Int) < (k : Int) := by omega
        have g2 : ¬ (i : Int) < 6 := by have := HIK.out; omega
        go_wp2
        (try simp only [Exit.inBlock, Exit.then])
        refine bodyPost_ret (v := .agg #[.int .i64 F, .slice at3 i ct3]) (by simp [results, go_sem, q1, q2]) rfl ?_
        have h9 := HMR.out
        have h8 := HIK.out
        exact ⟨_, rfl, by rw [← h8]; exact h9, BB2⟩
      · have g1 : ¬ (i : Int) < (k : Int) := by omega
        have g1b : decide ((i : Int) < (k : Int)) = false := decide_eq_false g1
        go_wp2
        (try simp only [Exit.inBlock, Exit.then])
        refine bodyPost_ret (v := .agg #[.int .i64 F, .slice at3 i ct3]) (by simp [results, go_sem, q1, q2]) rfl ?_
        have h9 := HMR.out
        have h8 := HIK.out
        exact ⟨_, rfl, by rw [← h8]; exact h9, BB2⟩

end Go.Proofs.YtcackghehjbeeaaGreatDoor
