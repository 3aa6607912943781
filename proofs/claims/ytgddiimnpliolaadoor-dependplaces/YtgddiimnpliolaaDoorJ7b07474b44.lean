/-
  Texts of mine, joined: what lies beneath the statement.
-/
import Derived.Test.YtgddiimnpliolaaDoorJ0c094b2312
import Derived.Test.YtgddiimnpliolaaDoorJ9139c80475
import Derived.Test.YtgddiimnpliolaaDoorJ04edc57b8b
import Derived.Test.YtgddiimnpliolaaDoorJe950d5ff60
import Derived.RangeFuncNested
import Derived.RangeFuncLeaves
namespace Go.Proofs.YtgddiimnpliolaaDoor
open Go.RowKit Go.Shelf
set_option linter.unusedVariables false
set_option linter.unusedSimpArgs false
section
variable {W W' : World} {row : Option Nat}
theorem V3.kept11 {R : Nat} {x y z : Value} (h : V3 W R x y z) (hg : W.grownBy W' row) (hr : ∀ r, row = some r → ∃ o : Obj, W.heap[r]? = some o ∧ o.isCells = false) : V3 W' R x y z :=
  ⟨cell_kept h.1 hg hr, cell_kept h.2.1 hg hr, cell_kept h.2.2.1 hg hr, (frozen_kept h.1 hg hr).trans h.2.2.2.1, (frozen_kept h.2.1 hg hr).trans h.2.2.2.2.1, (frozen_kept h.2.2.1 hg hr).trans h.2.2.2.2.2⟩
theorem V1.kept11 {R : Nat} {x : Value} (h : V1 W R x) (hg : W.grownBy W' row) (hr : ∀ r, row = some r → ∃ o : Obj, W.heap[r]? = some o ∧ o.isCells = false) : V1 W' R x :=
  ⟨cell_kept h.1 hg hr, (frozen_kept h.1 hg hr).trans h.2⟩
theorem V3.block11 {R : Nat} {x y z : Value} (h : V3 W R x y z) (hb : W'.heap[R]? = W.heap[R]?) : V3 W' R x y z :=
  ⟨(World.cell?_of_block (a := ⟨R, 0, none⟩) hb).trans h.1, (World.cell?_of_block (a := ⟨R, 1, none⟩) hb).trans h.2.1, (World.cell?_of_block (a := ⟨R, 2, none⟩) hb).trans h.2.2.1, (World.frozen?_of_block (a := ⟨R, 0, none⟩) hb).trans h.2.2.2.1, (World.frozen?_of_block (a := ⟨R, 1, none⟩) hb).trans h.2.2.2.2.1, (World.frozen?_of_block (a := ⟨R, 2, none⟩) hb).trans h.2.2.2.2.2⟩
theorem V1.block11 {R : Nat} {x : Value} (h : V1 W R x) (hb : W'.heap[R]? = W.heap[R]?) : V1 W' R x :=
  ⟨(World.cell?_of_block (a := ⟨R, 0, none⟩) hb).trans h.1, (World.frozen?_of_block (a := ⟨R, 0, none⟩) hb).trans h.2⟩
end
structure RK11 (B : Nat) (WL W5 W : World) : Prop where
  all : KeepsOthers WL W
  round : KeepsOthers W5 W
  low : Below B W5 W
  base : B ≤ W5.heap.size
theorem RK11.below {B : Nat} {WL W5 W W' : World} (h : RK11 B WL W5 W) (hb : Below W.heap.size W W') : RK11 B WL W5 W' :=
  ⟨h.all.trans (KeepsOthers.of_below hb), h.round.trans (KeepsOthers.of_below hb), h.low.trans (hb.mono (Nat.le_trans h.base h.low.size)), h.base⟩
structure AInv (w WL : World) (E : World → Prop) (Bo g n : Nat) (f : (Nat → Rat) → Nat → Rat) (L : Nat) (zs : List Nat) (K : Nat) (pre : List (Fin K)) (W : World) : Prop where
  env : E W
  vo : V1 W Bo (.slice (some ⟨g, 0, none⟩) n n)
  arr : GArr W g n (runB f (pre.map fun x => nthB zs K x.1)) L
  below : Below w.heap.size w W
  others : KeepsOthers WL W
theorem AInv.own {w WL : World} {E : World → Prop} {Bo g n : Nat} {f : (Nat → Rat) → Nat → Rat} {L : Nat} {zs : List Nat} {K : Nat} (hw : w.heap.size ≤ WL.heap.size)
    (hE : ∀ (W W' : World) (row : Option Nat), E W → W.grownBy W' row → (∀ r, row = some r → ∃ o : Obj, W.heap[r]? = some o ∧ o.isCells = false) → E W') : OwnFrom WL.heap.size (AInv w WL E Bo g n f L zs K) := by
  intro pre W W' row h hg hr2
  have hr : ∀ r, row = some r → ∃ o : Obj, W.heap[r]? = some o ∧ o.isCells = false := fun r e => (hr2 r e).2
  obtain ⟨h1, h2, h3, h10, h11⟩ := h
  exact ⟨hE _ _ _ h1 hg hr, h2.kept11 hg hr, h3.kept hg hr,
    h10.grown hg (by have := h10.size; omega) (fun k e => by have := (hr2 k e).1; omega),
    ⟨Nat.le_trans h11.size hg.size, fun k o hk hc => (hg.block k (Array.getElem?_eq_some_iff.1 (h11.same k o hk hc)).1 (fun e => by have := (hr2 k e.symm).1; have := (Array.getElem?_eq_some_iff.1 hk).1; omega)).trans (h11.same k o hk hc)⟩⟩
abbrev put3 (W : World) (g i : Nat) (a b c : Value) : World := ((W.setCell ⟨g, i * 3, none⟩ a).setCell ⟨g, i * 3 + 1, none⟩ b).setCell ⟨g, i * 3 + 2, none⟩ c
theorem put3_block (W : World) (g i k : Nat) (a b c : Value) (h : k ≠ g) : (put3 W g i a b c).heap[k]? = W.heap[k]? :=
  ((Below.heap_setCell _ _ _ _ h).trans (Below.heap_setCell _ _ _ _ h)).trans (Below.heap_setCell _ _ _ _ h)
theorem AInv.put {w WL W5 W : World} {E : World → Prop} {Bo g n Bs b0 i : Nat} {f : (Nat → Rat) → Nat → Rat} {L : Nat} {zs : List Nat} {K : Nat} {pre : List (Fin K)} {x : Fin K}
    (hE2 : ∀ W W' : World, (∀ k, k ≠ g → W'.heap[k]? = W.heap[k]?) → E W → E W')
    (hB : Hid (Bo ≠ g ∧ Bs ≠ g ∧ b0 ≠ g ∧ Bs < WL.heap.size ∧ b0 < WL.heap.size ∧ w.heap.size ≤ g))
    (env : E W) (vo : V1 W Bo (.slice (some ⟨g, 0, none⟩) n n)) (arr : GArr W g n (runB f (pre.map fun x => nthB zs K x.1)) L) (BB : Below w.heap.size w W) (rk : RK11 WL.heap.size WL W5 W)
    (hi : nthB zs K x.1 = i) (hin : i < n) {p : Bool} {a b : Option Addr} {n1 c m d : Nat} (hr : RatAt W (.agg #[.bool p, .slice a n1 c, .slice b m d]) (f (runB f (pre.map fun x => nthB zs K x.1)) i) L) :
    (∃ u0 u1 u2, W.cell? ⟨g, i * 3, none⟩ = some u0 ∧ W.cell? ⟨g, i * 3 + 1, none⟩ = some u1 ∧ W.cell? ⟨g, i * 3 + 2, none⟩ = some u2 ∧ W.frozen? ⟨g, i * 3, none⟩ = false ∧ W.frozen? ⟨g, i * 3 + 1, none⟩ = false ∧ W.frozen? ⟨g, i * 3 + 2, none⟩ = false) ∧
    KeepsFrom WL.heap.size W5 (put3 W g i (.bool p) (.slice a n1 c) (.slice b m d)) ∧ KeepB Bs b0 W5 (put3 W g i (.bool p) (.slice a n1 c) (.slice b m d)) ∧
      AInv w WL E Bo g n f L zs K (pre ++ [x]) (put3 W g i (.bool p) (.slice a n1 c) (.slice b m d)) := by
  obtain ⟨b1, b2, b3, b4, b5, b6⟩ := hB
  obtain ⟨u0, u1, u2, c0, c1, c2, f0, f1, f2, A, KQ⟩ := arr.put hin hr
  have hlow := KeepB.of_below (A := W5) (B := W) rk.low b4 b5
  have hKO : KeepsOthers W (put3 W g i (.bool p) (.slice a n1 c) (.slice b m d)) := ((KeepsOthers.setCell _ _ _).trans (KeepsOthers.setCell _ _ _)).trans (KeepsOthers.setCell _ _ _)
  refine ⟨⟨u0, u1, u2, c0, c1, c2, f0, f1, f2⟩, (rk.round.trans hKO).from _, fun j => ⟨?_, ?_⟩, ?_⟩
  · exact (World.cell?_of_block (a := ⟨Bs, j, none⟩) (put3_block _ _ _ _ _ _ _ b2)).trans (hlow j).1
  · exact (World.cell?_of_block (a := ⟨b0, j, none⟩) (put3_block _ _ _ _ _ _ _ b3)).trans (hlow j).2
  · refine ⟨hE2 _ _ (fun k hk => put3_block _ _ _ _ _ _ _ hk) env, vo.block11 (put3_block _ _ _ _ _ _ _ b1), ?_, ((BB.setCell b6 _).setCell b6 _).setCell b6 _, rk.all.trans hKO⟩
    rw [List.map_append, List.map_cons, List.map_nil, runB_more, hi]
    exact A
theorem wpListIn_make_full {F : Fence} {n0 : Nat} {P : Program} (w : World) {ops : Array Oper} {rest : List Oper} {o : Oper} {a : Act} {Q : Exit → Act → World → Prop}
    (hg : o.guard = none) (l c : Operand) (t : TypeId) (hop : o.op = Op.makeSlice t l c)
    (base : Nat) (e : TypeId) (i : TypeInfo) (z : Value) (size : Nat) (h1 : P.underlying t = some (.slice e)) (h2 : P.info? e = some i) (h3 : i.zero = some z) (h4 : i.size = size)
    (kl kc : IntKind) (L C : Int) (n : Nat) (hl : a.eval l = .int kl L) (hc : a.eval c = .int kc C) (hL : L = (n : Int)) (hC : C = (n : Int)) (b2 : i.bytes * n ≤ 281474976710656) (b3 : n ≤ maxLen) (b4 : base ≤ w.heap.size)
    (hK : ∀ w', w'.ownsRow base e size (.slice (some ⟨w.heap.size, 0, none⟩) n n) n (madeCells z.cells (n * size)).toList → w.grownBy w' none → wpListIn F n0 P ops Q rest (a.put o.dst (.slice (some ⟨w.heap.size, 0, none⟩) n n)) w') :
    wpListIn F n0 P ops Q (o :: rest) a w := by
  refine wpListIn_plain hg fun K hK' => ?_
  obtain ⟨w', hrun, r1, r2⟩ := run_make_full (P := P) w base t e i z size h1 h2 h3 h4 kl kc n b2 b3 b4
  subst hL
  subst hC
  unfold Oper.wpIn
  refine ⟨?_, ?_⟩
  · simp [Oper.about, hop]
  · rw [Oper.semAt_plain F _ _ (by rw [hop]; intro c hc'; cases hc')]
    simp [execOp, hop, hl, hc, hrun, Result.andThen]
    exact hK' _ _ (hK w' r1 r2)
theorem leaves_marksF {F : Fence} {n : Nat} {P : Program} {fn : Func} {tmps : Array Value} {R : Ending → World → Prop} {B : Nat} : ∀ (ds : List Deferred) (W : World), Marks B W ds → B ≤ W.heap.size →
    (∀ W', Below B W W' → (∀ p v, W.cell? p = some v → W'.cell? p = some v ∧ W'.frozen? p = W.frozen? p) → (∃ v, (results fn tmps).run P W' = .ok v W' ∧ R (.returned v) W')) → LeavesInM F n P fn tmps R ds .returning W
  | [], W, _, _, h => h W (Below.refl _ _) (fun _ _ h => ⟨h, rfl⟩)
  | _ :: ds, W, ⟨D, e, hB, hD, hn, hs⟩, hl, h => by
    have hb : Below B W (W.putObj D (.deferred none)) := (Below.refl _ _).grown (grownBy_putObj' W D _) hl (fun k e => by cases e; exact hB)
    have hc : ∀ p v, W.cell? p = some v → (W.putObj D (.deferred none)).cell? p = some v ∧ (W.putObj D (.deferred none)).frozen? p = W.frozen? p := fun p v hp => ⟨cell_kept hp (grownBy_putObj' W D _) (fun r e => by cases e; exact ⟨_, hD, rfl⟩), frozen_kept hp (grownBy_putObj' W D _) (fun r e => by cases e; exact ⟨_, hD, rfl⟩)⟩
    refine ⟨by simp, .inl ⟨D, _, by rw [e], run_takeDeferred hD, ?_⟩⟩
    refine leaves_marksF ds _ (hs.put fun d hd => e ▸ hn d hd) (Nat.le_trans hl hb.size) fun W' h1 h2 => ?_
    exact h W' (hb.trans h1) (fun p v hp => ⟨(h2 p v (hc p v hp).1).1, (h2 p v (hc p v hp).1).2.trans (hc p v hp).2⟩)
theorem GArr.left {W W' : World} {g n : Nat} {q : Nat → Rat} {L : Nat} (h : GArr W g n q L) (hc : ∀ p v, W.cell? p = some v → W'.cell? p = some v ∧ W'.frozen? p = W.frozen? p) : GArr W' g n q L := by
  obtain ⟨el, A, R⟩ := h
  exact ⟨el, ⟨fun i hi j hj => (hc _ _ (A.1 i hi j hj)).1, fun i hi j hj => (hc _ _ (A.1 i hi j hj)).2.trans (A.2.1 i hi j hj), A.2.2⟩, fun j hj => (R j hj).keep (fun _ _ _ _ h => (hc _ _ h).1)⟩
theorem GArr.grow {W : World} {g n : Nat} {q : Nat → Rat} {L M : Nat} (h : GArr W g n q L) (hM : L ≤ M) : GArr W g n q M := let ⟨el, a, b⟩ := h; ⟨el, a, fun j hj => (b j hj).le hM⟩

attribute [local go_sem] Oper.semAt_some
structure Q7 where
  p : Bool
  a : Option Addr
  n : Nat
  c : Nat
  b : Option Addr
  m : Nat
  d : Nat
def el7 (x : Q7) : Value := .agg #[.bool x.p, .slice x.a x.n x.c, .slice x.b x.m x.d]
def CelR (W : World) (b off K : Nat) (es : Nat → Q7) : Prop := ∀ i, i < K → W.cell? ⟨b, off + i * 3, none⟩ = some (.bool (es i).p) ∧ W.cell? ⟨b, off + i * 3 + 1, none⟩ = some (.slice (es i).a (es i).n (es i).c) ∧ W.cell? ⟨b, off + i * 3 + 2, none⟩ = some (.slice (es i).b (es i).m (es i).d)
theorem CelR.keep {W W' : World} {Bs b off K : Nat} {es : Nat → Q7} (h : CelR W b off K es) (hk : KeepB Bs b W W') : CelR W' b off K es := fun i hi =>
  let ⟨h1, h2, h3⟩ := h i hi
  ⟨(hk _).2.trans h1, (hk _).2.trans h2, (hk _).2.trans h3⟩
theorem CelR.below {W W' : World} {b off K : Nat} {es : Nat → Q7} (h : CelR W b off K es) (hb : Below W.heap.size W W') : CelR W' b off K es := fun i hi =>
  let ⟨h1, h2, h3⟩ := h i hi
  ⟨(hb.cell (p := ⟨b, off + i * 3, none⟩) (World.block_lt_of_cell? _ _ h1)).trans h1, (hb.cell (p := ⟨b, off + i * 3 + 1, none⟩) (World.block_lt_of_cell? _ _ h2)).trans h2, (hb.cell (p := ⟨b, off + i * 3 + 2, none⟩) (World.block_lt_of_cell? _ _ h3)).trans h3⟩
theorem row7 {w : World} {v : Value} {n : Nat} {q : Nat → Rat} {L : Nat} (h : QRow w v n q L) : ∃ (a : Option Addr) (c b off : Nat) (es : Nat → Q7), v = .slice a n c ∧ n ≤ c ∧ (0 < n → a = some ⟨b, off, none⟩) ∧ CelR w b off n es ∧ (b < w.heap.size ∨ b = 0) ∧ ∀ i, i < n → RatAt w (el7 (es i)) (q i) L := by
  obtain ⟨el, ⟨ao, c, rfl, hc, h63, h4⟩, hel⟩ := h
  have each : ∀ i, ∃ x : Q7, i < n → el i 0 = .bool x.p ∧ el i 1 = .slice x.a x.n x.c ∧ el i 2 = .slice x.b x.m x.d := by
    intro i
    by_cases hi : i < n
    · obtain ⟨p, a1, m1, d1, b1, k1, g1, he⟩ := (hel i hi).open
      simp only [Value.agg.injEq, Array.mk.injEq, List.cons.injEq, and_true] at he
      exact ⟨⟨p, a1, m1, d1, b1, k1, g1⟩, fun _ => he⟩
    · exact ⟨⟨false, none, 0, 0, none, 0, 0⟩, fun h => absurd h hi⟩
  obtain ⟨es, hes⟩ := Classical.axiomOfChoice each
  by_cases h0 : 0 < n
  · obtain ⟨b, off, rfl, hcell⟩ := h4 h0
    refine ⟨_, c, b, off, es, rfl, hc, fun _ => rfl, fun i hi => ?_, .inl (World.block_lt_of_cell? _ _ (hcell 0 h0 0 (by omega))), fun i hi => ?_⟩
    · obtain ⟨e0, e1, e2⟩ := hes i hi
      have c0 := hcell i hi 0 (by omega)
      have c1 := hcell i hi 1 (by omega)
      have c2 := hcell i hi 2 (by omega)
      rw [e0] at c0
      rw [e1] at c1
      rw [e2] at c2
      exact ⟨c0, c1, c2⟩
    · obtain ⟨e0, e1, e2⟩ := hes i hi
      have := hel i hi
      rw [e0, e1, e2] at this
      exact this
  · exact ⟨ao, c, 0, 0, es, rfl, hc, fun h => absurd h h0, fun i hi => by omega, .inr rfl, fun i hi => by omega⟩
def backQ (es : Nat → Q7) (K x : Nat) : Array Value := #[.int .i64 ((K - 1 - x : Nat) : Int), .agg #[.bool (es (K - 1 - x)).p, .slice (es (K - 1 - x)).a (es (K - 1 - x)).n (es (K - 1 - x)).c, .slice (es (K - 1 - x)).b (es (K - 1 - x)).m (es (K - 1 - x)).d]]
set_option maxRecDepth 100000 in
set_option maxHeartbeats 4000000 in
theorem back7_in (n l Bs b off cap K : Nat) (ad : Option Addr) (es : Nat → Q7) (hn : 1 ≤ n) (hlen : K ≤ 1000) (hlc : K ≤ cap) (had : 0 < K → ad = some ⟨b, off, none⟩) (J Jx : List (Fin K) → World → Prop)
    (W : World) (hY : ∀ pre x W1, J pre W1 → pre.length < K → YieldAt Fence.wide (n - 1) Tryd.prog l (backQ es K x.1) W1 fun e W' =>
      (e = .returned (.bool true) ∧ J (pre ++ [x]) W' ∧ KeepB Bs b W1 W') ∨ (e = .returned (.bool false) ∧ Jx (pre ++ [x]) W'))
    (hcs : W.cell? ⟨Bs, 0, none⟩ = some (.slice ad K cap)) (hce : CelR W b off K es) (h0 : J [] W) :
    CallsIn Fence.wide n Tryd.prog 61 #[.func (.yield l) #[] #[], .pointer (some ⟨Bs, 0, none⟩)] W fun e W' => (∃ v, e = .returned v) ∧
      ((∃ ys, ys = finsB K K ∧ J ys W') ∨ (∃ pre, (∃ k, k ≤ K ∧ pre = finsB K k) ∧ Jx pre W')) := by
  refine callsIn_of_wp Tryd.func61 rfl trivial ?_ rfl
  simp only [Tryd.ntmps61, List.size_toArray, List.length_cons, List.length_nil, Nat.reduceAdd, Nat.reduceSub, Array.replicate_succ, Array.replicate_zero, List.push_toArray, List.append_toArray, List.nil_append, List.cons_append]
  have g0 : IntKind.i64.wrap ((K : Int) - 1) = (K : Int) - 1 := by rw [IntKind.wrap_i64]; omega
  have HAD : Hid (0 < K → ad = some ⟨b, off, none⟩) := had
  clear had
  gi_wp2
  gi_loopw [3] (fun i wr => ∃ m : Nat, m ≤ K ∧ i = .int .i64 ((m : Int) - 1) ∧ J (finsB K (K - m)) wr ∧ wr.cell? ⟨Bs, 0, none⟩ = some (.slice ad K cap) ∧ Hid (CelR wr b off K es)) (fun i _ => (intOf i + 1).toNat)
  case atStart => exact ⟨K, Nat.le_refl _, rfl, by rw [Nat.sub_self]; exact h0, hcs, hce⟩
  case round =>
    clear hcs hce h0
    obtain ⟨m, hm, rfl, hJs, cs, ce⟩ := hrel
    by_cases h1 : 0 < m
    · obtain ⟨i, rfl⟩ : ∃ i, m = i + 1 := ⟨m - 1, by omega⟩
      have ei : (((i + 1 : Nat) : Int) - 1) = (i : Int) := by omega
      rw [ei]
      have hlt : K - (i + 1) < K := by omega
      obtain ⟨fn, tmps, assign, body, hy, hR⟩ := hY _ ⟨K - (i + 1), hlt⟩ wr hJs (by rw [finsB_len _ (by omega)]; exact hlt)
      obtain rfl := HAD.out (by omega)
      obtain ⟨z0, z1, z2⟩ := ce.out i (by omega)
      have eb : backQ es K (K - (i + 1)) = #[.int .i64 (i : Int), .agg #[.bool (es i).p, .slice (es i).a (es i).n (es i).c, .slice (es i).b (es i).m (es i).d]] := by
        unfold backQ
        rw [show K - 1 - (K - (i + 1)) = i by omega]
      dsimp only at hy
      rw [eb] at hy
      have c1 : (0 : Int) ≤ (i : Int) := by omega
      have c2 : (i : Int) < (K : Int) := by omega
      have c3 : IntKind.i64.wrap ((i : Int) - 1) = (i : Int) - 1 := by rw [IntKind.wrap_i64]; omega
      clear ei eb
      gi_wp2
      refine hR.mono ?_
      rintro e W' (⟨rfl, hj, hbl⟩ | ⟨rfl, hx⟩)
      · have cs2 := (hbl 0).1.trans cs
        have ce2 : Hid (CelR W' b off K es) := ce.out.keep hbl
        gi_wp2
        go_roundw
        case rel => exact ⟨i, by omega, rfl, by rw [show K - i = K - (i + 1) + 1 by omega, finsB_succ hlt]; exact hj, cs2, ce2⟩
        case measure => simp [intOf]
      · gi_wp2
        refine bodyPost_ret (results_none rfl _ _ _) rfl ?_
        exact ⟨⟨_, rfl⟩, .inr ⟨_, ⟨K - (i + 1) + 1, by omega, (finsB_succ hlt).symm⟩, hx⟩⟩
    · obtain rfl : m = 0 := by omega
      rw [Nat.sub_zero] at hJs
      have c1 : ¬ (0 : Int) ≤ (((0 : Nat) : Int) - 1) := by omega
      gi_wp2
      go_end0
      exact ⟨⟨_, rfl⟩, .inl hJs⟩
theorem back7_stops (n Bs b off cap K : Nat) (ad : Option Addr) (es : Nat → Q7) (hn : 1 ≤ n) (hlen : K ≤ 1000) (hlc : K ≤ cap) (had : 0 < K → ad = some ⟨b, off, none⟩) (w : World) (hBs : Bs < w.heap.size)
    (hcs : w.cell? ⟨Bs, 0, none⟩ = some (.slice ad K cap)) (hce : CelR w b off K es) :
    SeqStopsK Fence.wide n Tryd.prog 61 #[.pointer (some ⟨Bs, 0, none⟩)] (fun x : Fin K => backQ es K x.1) (KeepB Bs b) (fun ys => ys = finsB K K) (fun pre => ∃ k, k ≤ K ∧ pre = finsB K k) K w := fun l J Jx W hW hJ hJx hY h0 =>
  back7_in n l Bs b off cap K ad es hn hlen hlc had J Jx W hY ((hW.cell (p := ⟨Bs, 0, none⟩) hBs).trans hcs) (hce.below hW) h0
set_option maxRecDepth 100000 in
theorem back7_at (v : Value) (w : World) (ad : Option Addr) (len cap : Nat) (hv : v = .slice ad len cap) :
    Calls Tryd.prog 36 #[v] w fun e w' => ∃ Bs, e = .returned (.func (.func 61) #[] #[.pointer (some ⟨Bs, 0, none⟩)]) ∧ w.heap.size ≤ Bs ∧ Bs < w'.heap.size ∧ w'.cell? ⟨Bs, 0, none⟩ = some v ∧ Below w.heap.size w w' := by
  subst hv
  go_enter Tryd.func36, Tryd.ntmps36
  go_wp2
  go_ret
  exact ⟨w.heap.size, rfl, Nat.le_refl _, by simp, cell_boxB _ _ _, (Below.refl _ _).alloc (Nat.le_refl _) _⟩
def atq (q : Nat → Rat) (z : Rat) : Nat → Nat
  | 0 => 0
  | k + 1 => if q k ≤ z then k else atq q z k
theorem finsB_mem {K : Nat} : ∀ {k : Nat} (y : Fin K), y.1 < k → k ≤ K → y ∈ finsB K k
  | 0, _, h, _ => by omega
  | k + 1, y, h, hk => by
    rw [finsB_succ (show k < K by omega)]
    by_cases e : y.1 = k
    · exact List.mem_append_right _ (by simp; exact Fin.ext e)
    · exact List.mem_append_left _ (finsB_mem y (by omega) (by omega))
theorem atq_none {q : Nat → Rat} {z : Rat} : ∀ n, (∀ k, k < n → ¬ q k ≤ z) → atq q z n = 0
  | 0, _ => rfl
  | n + 1, h => by unfold atq; rw [if_neg (h n (by omega))]; exact atq_none n (fun k hk => h k (by omega))
theorem atq_hit {q : Nat → Rat} {z : Rat} {k : Nat} (hk : q k ≤ z) : ∀ n, k < n → (∀ j, k < j → j < n → ¬ q j ≤ z) → atq q z n = k
  | 0, h, _ => by omega
  | n + 1, h, hn => by
    unfold atq
    by_cases e : n = k
    · subst e; rw [if_pos hk]
    · rw [if_neg (hn n (by omega) (by omega))]
      exact atq_hit hk n (by omega) (fun j h1 h2 => hn j h1 (by omega))
theorem atq_le (q : Nat → Rat) (z : Rat) : ∀ n, atq q z n ≤ n
  | 0 => Nat.le_refl _
  | n + 1 => by
    unfold atq
    by_cases e : q n ≤ z
    · rw [if_pos e]; omega
    · rw [if_neg e]; have := atq_le q z n; omega
theorem cmpQ_le7 (x y : Rat) : decide (cmpQ x y ≤ 0) = decide (x ≤ y) := by
  unfold cmpQ
  by_cases h : x < y
  · rw [if_pos h]
    have : x ≤ y := by grind
    simp [this]
  · rw [if_neg h]
    by_cases g : y < x
    · rw [if_pos g]
      have : ¬ x ≤ y := by grind
      simp [this]
    · rw [if_neg g]
      have : x ≤ y := by grind
      simp [this]
set_option maxRecDepth 100000 in
set_option maxHeartbeats 4000000 in
theorem at13_at (v zv : Value) (n : Nat) (q : Nat → Rat) (z : Rat) (L : Nat) (w : World) (hv : QRow w v n q L) (hz : RatAt w zv z L) (hL : 1 ≤ L) (hM : L ≤ 100000) (hn : n ≤ 1000) :
    Calls Tryd.prog 17 #[v, zv] w fun e w' => e = .returned (.int .i64 ((atq q z n : Nat) : Int)) ∧ Below w.heap.size w w' := by
  refine (callsIn_wide (n := 9)).1 ?_
  obtain ⟨av, cv, b, off, es, rfl, hcv, had, hce0, hbw, hra⟩ := row7 hv
  obtain ⟨pz, az, nz, cz, yz, mz, dz, rfl⟩ := hz.open
  have HRA : Hid (∀ i, i < n → RatAt w (el7 (es i)) (q i) L) := hra
  have HZ0 : Hid (RatAt w (.agg #[.bool pz, .slice az nz cz, .slice yz mz dz]) z L) := hz
  have HCE0 : Hid (CelR w b off n es) := hce0
  have HAD : Hid (0 < n → av = some ⟨b, off, none⟩) := had
  clear hv hz hra hce0 had
  have BB : Below w.heap.size w w := Below.refl _ _
  obtain ⟨W1, hW1, hS1, hL1, VZ⟩ := V3.lay w 40 (.bool pz) (.slice az nz cz) (.slice yz mz dz)
  replace BB := BB.trans (hL1.mono BB.size)
  obtain ⟨W2, hW2, hS2, hL2, VI⟩ := V1.lay W1 3 (.int .i64 0)
  replace BB := BB.trans (hL2.mono BB.size)
  replace VZ := VZ.below hL2
  rw [hS1] at hS2 VI
  clear hL1 hL2
  refine callsIn_of_wp_marks Tryd.func17 rfl trivial ?_
  simp only [Tryd.ntmps17, List.size_toArray, List.length_cons, List.length_nil, Nat.reduceAdd, Nat.reduceSub, Array.replicate_succ, Array.replicate_zero, List.push_toArray, List.append_toArray, List.nil_append, List.cons_append]
  gi_wp2_with fail
  rw [← hW1, ← hW2]
  clear hW1 hW2
  have hI2 : W2.heap.size = w.heap.size + 1 + 1 := hS2
  refine ⟨trivial, (callsIn_wide.2 (back7_at _ _ _ _ _ rfl)).mono ?_⟩
  rintro e WL ⟨Bs, rfl, hs1, hs2, hcs, b5⟩
  replace VZ := VZ.below b5
  replace VI := VI.below b5
  replace BB := BB.trans (b5.mono BB.size)
  clear b5
  gi_wp2_with fail
  have hcel : CelR WL b off n es := HCE0.out.below BB
  have hbl : b < WL.heap.size := by
    have := BB.size
    omega
  have HWL : w.heap.size ≤ WL.heap.size := BB.size
  have hBr : w.heap.size + 1 < WL.heap.size := VI.lt
  have hs0 : w.heap.size < Bs := by omega
  clear hbw hI2 hS2 hs1
  refine wpIn_rangeFunc_ownH rfl (by decide) (gf := 61) (lb := #[.pointer (some ⟨Bs, 0, none⟩)]) rfl trivial (enters_of Tryd.func61 (by kernel_rfl) rfl)
    (back7_stops 8 Bs b off cv n av es (by omega) hn hcv HAD.out WL hs2 hcs hcel) KeepB.trans (keepB_b hs2 hbl) (Below.refl _ _) (fun _ => rfl)
    (fun pre W => V1 W (w.heap.size + 1) (.int .i64 0) ∧ V3 W w.heap.size (.bool pz) (.slice az nz cz) (.slice yz mz dz) ∧ (∀ x ∈ pre, ¬ q (n - 1 - x.1) ≤ z) ∧ WL.heap.size ≤ W.heap.size ∧ Below w.heap.size w W)
    (fun c pre W => c = .ret ∧ ∃ (pre' : List (Fin n)) (x : Fin n), pre = pre' ++ [x] ∧ (∀ y ∈ pre', ¬ q (n - 1 - y.1) ≤ z) ∧ q (n - 1 - x.1) ≤ z ∧ V1 W (w.heap.size + 1) (.int .i64 ((n - 1 - x.1 : Nat) : Int)) ∧ Below w.heap.size w W)
    (fun s W W' row ⟨h1, h2, h3, h4, h5⟩ hg hr => ⟨V1.kept11 h1 hg (fun r e => (hr r e).2), V3.kept11 h2 hg (fun r e => (hr r e).2), h3, Nat.le_trans h4 hg.size, ownFrom_below (β := Unit) (w₀ := w) (Nat.le_refl _) HWL () W W' row h5 hg hr⟩)
    (fun c s W W' row ⟨h0, pre', x, h1, h2, h3, h4, h5⟩ hg hr => ⟨h0, pre', x, h1, h2, h3, V1.kept11 h4 hg (fun r e => (hr r e).2), ownFrom_below (β := Unit) (w₀ := w) (Nat.le_refl _) HWL () W W' row h5 hg hr⟩)
    ⟨VI, VZ, fun x hx => (by cases hx), Nat.le_refl _, BB⟩
    (fun x a' W => ∃ Bx, WL.heap.size ≤ Bx ∧ V3 W Bx (.bool (es (n - 1 - x.1)).p) (.slice (es (n - 1 - x.1)).a (es (n - 1 - x.1)).n (es (n - 1 - x.1)).c) (.slice (es (n - 1 - x.1)).b (es (n - 1 - x.1)).m (es (n - 1 - x.1)).d) ∧ a' = { tmps := #[.slice av n cv, .agg #[.bool pz, .slice az nz cz, .slice yz mz dz], undef, .pointer (some ⟨w.heap.size, 0, none⟩), .pointer (some ⟨w.heap.size + 1, 0, none⟩), .int .i64 ((n - 1 - x.1 : Nat) : Int), .pointer (some ⟨Bx, 0, none⟩), .slice av n cv, .func (.func 61) #[] #[.pointer (some ⟨Bs, 0, none⟩)], .int .i64 ((n - 1 - x.1 : Nat) : Int), .agg #[.bool (es (n - 1 - x.1)).p, .slice (es (n - 1 - x.1)).a (es (n - 1 - x.1)).n (es (n - 1 - x.1)).c, .slice (es (n - 1 - x.1)).b (es (n - 1 - x.1)).m (es (n - 1 - x.1)).d], undef, undef, undef, undef, undef], defers := [] })
    (fun x a' _ X Y row ⟨Bx, e1, e2, e3⟩ hg hr => ⟨Bx, e1, V3.kept11 e2 hg (fun r e => (hr r e).2), e3⟩)
    ?assign ?body ?done ?stop
  case assign =>
    rintro l pre x W K ⟨hVI, hVZ, hp, hsz, hBB⟩ hK
    have HK : Hid (∀ a' W', KeepsFrom WL.heap.size W W' → KeepB Bs b W W' → (V1 W' (w.heap.size + 1) (.int .i64 0) ∧ V3 W' w.heap.size (.bool pz) (.slice az nz cz) (.slice yz mz dz) ∧ (∀ x ∈ pre, ¬ q (n - 1 - x.1) ≤ z) ∧ WL.heap.size ≤ W'.heap.size ∧ Below w.heap.size w W') → (∃ Bx, WL.heap.size ≤ Bx ∧ V3 W' Bx (.bool (es (n - 1 - x.1)).p) (.slice (es (n - 1 - x.1)).a (es (n - 1 - x.1)).n (es (n - 1 - x.1)).c) (.slice (es (n - 1 - x.1)).b (es (n - 1 - x.1)).m (es (n - 1 - x.1)).d) ∧ a' = { tmps := #[.slice av n cv, .agg #[.bool pz, .slice az nz cz, .slice yz mz dz], undef, .pointer (some ⟨w.heap.size, 0, none⟩), .pointer (some ⟨w.heap.size + 1, 0, none⟩), .int .i64 ((n - 1 - x.1 : Nat) : Int), .pointer (some ⟨Bx, 0, none⟩), .slice av n cv, .func (.func 61) #[] #[.pointer (some ⟨Bs, 0, none⟩)], .int .i64 ((n - 1 - x.1 : Nat) : Int), .agg #[.bool (es (n - 1 - x.1)).p, .slice (es (n - 1 - x.1)).a (es (n - 1 - x.1)).n (es (n - 1 - x.1)).c, .slice (es (n - 1 - x.1)).b (es (n - 1 - x.1)).m (es (n - 1 - x.1)).d], undef, undef, undef, undef, undef], defers := [] }) → K a' W') := hK
    clear hK VI VZ BB hcs hcel
    obtain ⟨W7, hW7, hS7, hL7, VX⟩ := V3.lay W 40 (.bool (es (n - 1 - x.1)).p) (.slice (es (n - 1 - x.1)).a (es (n - 1 - x.1)).n (es (n - 1 - x.1)).c) (.slice (es (n - 1 - x.1)).b (es (n - 1 - x.1)).m (es (n - 1 - x.1)).d)
    have k1 : KeepsFrom WL.heap.size W W7 := (KeepsOthers.of_below hL7).from _
    have k2 : KeepB Bs b W W7 := KeepB.of_below hL7 (by omega) (by omega)
    have k3 : V1 W7 (w.heap.size + 1) (.int .i64 0) ∧ V3 W7 w.heap.size (.bool pz) (.slice az nz cz) (.slice yz mz dz) ∧ (∀ x ∈ pre, ¬ q (n - 1 - x.1) ≤ z) ∧ WL.heap.size ≤ W7.heap.size ∧ Below w.heap.size w W7 := ⟨hVI.below hL7, hVZ.below hL7, hp, by omega, hBB.trans (hL7.mono hBB.size)⟩
    unfold backQ
    gi_wp2
    rw [← hW7]
    exact HK.out _ _ k1 k2 k3 ⟨W.heap.size, hsz, VX, rfl⟩
  case body =>
    clear VI VZ BB hcs hcel
    rintro l pre x a' W hl ⟨r, hr⟩ ⟨VI, VZ, hp, hsz, BB⟩ ⟨Bx, hBx, VX, rfl⟩ hlt
    have HP : Hid (∀ x ∈ pre, ¬ q (n - 1 - x.1) ≤ z) := hp
    obtain ⟨i, hi⟩ : ∃ i, n - 1 - x.1 = i := ⟨_, rfl⟩
    have HXI : Hid (n - 1 - x.1 = i) := hi
    have hin : i < n := by have := x.2; omega
    rw [hi] at VX ⊢
    have HR := (HRA.out i hin).below BB
    have HZ := HZ0.out.below BB
    have HR : RatAt W (.agg #[.bool (es i).p, .slice (es i).a (es i).n (es i).c, .slice (es i).b (es i).m (es i).d]) (q i) L := HR
    clear hp hi hr hlt
    obtain ⟨x0, x1, x2, x3, x4, x5⟩ := id VX
    obtain ⟨z0, z1, z2, z3, z4, z5⟩ := id VZ
    gi_wp2_with fail
    clear x0 x1 x2 x3 x4 x5 z0 z1 z2 z3 z4 z5
    refine ⟨trivial, (CallsIn.inRound l (callsIn_wide.2 (qcmp_at _ _ (q i) z L _ HR HZ hL hM))).mono ?_⟩
    rintro e W8 ⟨rfl, b8⟩
    have HC : Hid (decide (cmpQ (q i) z ≤ 0) = decide (q i ≤ z)) := cmpQ_le7 _ _
    obtain ⟨cq, hcq⟩ : ∃ cq, cmpQ (q i) z = cq := ⟨_, rfl⟩
    rw [hcq] at HC ⊢
    clear hcq HR HZ
    have VI8 := VI.below b8
    have VZ8 := VZ.below b8
    have BB8 := BB.trans (b8.mono BB.size)
    have hsz8 : WL.heap.size ≤ W8.heap.size := Nat.le_trans hsz b8.size
    have KF8 : KeepsFrom WL.heap.size W W8 := (KeepsOthers.of_below b8).from _
    have KB8 : KeepB Bs b W W8 := KeepB.of_below b8 (by omega) (by omega)
    clear b8 VI VZ BB VX
    by_cases hle : q i ≤ z
    · have g2 : decide (cq ≤ 0) = true := by rw [HC.out]; exact decide_eq_true hle
      have HLE : Hid (q (n - 1 - x.1) ≤ z) := by show q (n - 1 - x.1) ≤ z; rw [HXI.out]; exact hle
      obtain ⟨c1, f1⟩ := id VI8
      have KF9 : KeepsFrom WL.heap.size W (W8.setCell ⟨w.heap.size + 1, 0, none⟩ (.int .i64 (i : Int))) := KF8.trans ((KeepsOthers.setCell _ _ _).from _)
      have VI9 : V1 (W8.setCell ⟨w.heap.size + 1, 0, none⟩ (.int .i64 (i : Int))) (w.heap.size + 1) (.int .i64 ((n - 1 - x.1 : Nat) : Int)) := by
        rw [HXI.out]
        exact ⟨World.cell?_setCell_same _ _ _ c1, by simp [f1]⟩
      have BB9 := BB8.setCell (p := ⟨w.heap.size + 1, 0, none⟩) (Nat.le_succ _) (.int .i64 (i : Int))
      clear hle HC VI8 VZ8 KB8 BB8 KF8
      gi_wp2
      exact ⟨KF9, rfl, pre, x, rfl, HP.out, HLE.out, VI9, BB9⟩
    · have g2 : decide (cq ≤ 0) = false := by rw [HC.out]; exact decide_eq_false hle
      have HP9 : Hid (∀ y ∈ pre ++ [x], ¬ q (n - 1 - y.1) ≤ z) := fun y hy => by
        rcases List.mem_append.1 hy with h | h
        · exact HP.out y h
        · rw [List.mem_singleton.1 h, HXI.out]; exact hle
      clear hle HC
      gi_wp2
      exact ⟨KF8, KB8, VI8, VZ8, HP9.out, hsz8, BB8⟩
  case done =>
    rintro D zs W hD rfl ⟨VI, VZ, hp, hsz, hB1⟩ hK
    have HAQ : Hid (atq q z n = 0) := atq_none n (fun k hk => by
      have h1 := hp ⟨n - 1 - k, by omega⟩ (finsB_mem _ (by show n - 1 - k < n; omega) (Nat.le_refl _))
      rw [show n - 1 - (n - 1 - k) = k by omega] at h1
      exact h1)
    obtain ⟨cR, fR⟩ := id VI
    have hK' := (KeepsOthers.setCell W ⟨w.heap.size + 1, 0, none⟩ (.int .i64 0)).same D _ hK rfl
    have hc5 := cell_kept (World.cell?_setCell_same W ⟨w.heap.size + 1, 0, none⟩ (.int .i64 0) cR) (grownBy_putObj' _ D (.deferred none)) (fun r e => by cases e; exact ⟨_, hK', rfl⟩)
    have hBF := (hB1.setCell (p := ⟨w.heap.size + 1, 0, none⟩) (Nat.le_succ _) (.int .i64 0)).trans (belowK_b (w := w) (Nat.le_refl _) _ D _ (.deferred none) (by omega) hK' rfl rfl)
    clear hp
    gi_wp2
    refine ⟨by simp, .inl ⟨_, _, rfl, run_takeDeferred hK', ?_⟩⟩
    refine ⟨.int .i64 0, ?_, by rw [HAQ.out]; rfl, hBF⟩
    simp [results, Tryd.f17, go_sem, hc5]
  case stop =>
    rintro D c pre W hD ⟨k, hk, hpre⟩ ⟨rfl, pre', x, hx, hp, hq, VI, hB1⟩ hK
    have HAQ : Hid (atq q z n = n - 1 - x.1) := by
      match k, hk, hpre with
      | 0, hk, hpre => rw [hpre] at hx; cases pre' <;> cases hx
      | k + 1, hk, hpre =>
        rw [hpre, finsB_succ (show k < n by omega)] at hx
        obtain ⟨h1, h2⟩ := List.append_inj' hx rfl
        have hxk : x.1 = k := by
          have := List.cons.inj h2
          rw [← this.1]
        refine atq_hit hq n (by omega) (fun j h3 h4 => ?_)
        have h5 := hp ⟨n - 1 - j, by omega⟩ (by rw [← h1]; exact finsB_mem _ (by show n - 1 - j < k; omega) (by omega))
        rw [show n - 1 - (n - 1 - j) = j by omega] at h5
        exact h5
    obtain ⟨cR, fR⟩ := id VI
    have hc5 := cell_kept cR (grownBy_putObj' _ D (.deferred none)) (fun r e => by cases e; exact ⟨_, hK, rfl⟩)
    have hBF := hB1.trans (belowK_b (w := w) (Nat.le_refl _) W D _ (.deferred none) (by omega) hK rfl rfl)
    clear hp hx hpre
    gi_wp2
    refine ⟨by simp, .inl ⟨_, _, rfl, run_takeDeferred hK, ?_⟩⟩
    refine ⟨.int .i64 ((n - 1 - x.1 : Nat) : Int), ?_, by rw [HAQ.out], hBF⟩
    simp [results, Tryd.f17, go_sem, hc5]
end Go.Proofs.YtgddiimnpliolaaDoor

namespace Go.Proofs.YtgddiimnpliolaaDoor
open Go.RowKit
set_option linter.unusedVariables false
set_option linter.unusedSimpArgs false
def st13 (i : Nat) : Rat := if i = 0 then ((0 : Int) : Rat) else if i = 1 then ((1 : Int) : Rat) else ((2 : Int) : Rat)
theorem ex13_at : atq st13 (((3 : Int) : Rat) / ((2 : Int) : Rat)) 3 = 1 := by decide +kernel
theorem ex13_sz : qsz ((0 : Int) : Rat) ≤ 4 ∧ qsz ((1 : Int) : Rat) ≤ 4 ∧ qsz ((2 : Int) : Rat) ≤ 4 ∧ qsz (((3 : Int) : Rat) / ((2 : Int) : Rat)) ≤ 4 := by decide +kernel
theorem lit13 {w : World} {p0 p1 p2 : Bool} {a0 b0 a1 b1 a2 b2 : Option Addr} {n0 c0 m0 d0 n1 c1 m1 d1 n2 c2 m2 d2 : Nat} (t : TypeId) (h0 : RepQ w (.agg #[.bool p0, .slice a0 n0 c0, .slice b0 m0 d0]) ((0 : Int) : Rat)) (h1 : RepQ w (.agg #[.bool p1, .slice a1 n1 c1, .slice b1 m1 d1]) ((1 : Int) : Rat)) (h2 : RepQ w (.agg #[.bool p2, .slice a2 n2 c2, .slice b2 m2 d2]) ((2 : Int) : Rat)) :
    QRow (w.alloc (.cells #[.bool p0, .slice a0 n0 c0, .slice b0 m0 d0, .bool p1, .slice a1 n1 c1, .slice b1 m1 d1, .bool p2, .slice a2 n2 c2, .slice b2 m2 d2] t)) (.slice (some ⟨w.heap.size, 0, none⟩) 3 3) 3 st13 4 := by
  have hb := heap_alloc_new w (.cells #[.bool p0, .slice a0 n0 c0, .slice b0 m0 d0, .bool p1, .slice a1 n1 c1, .slice b1 m1 d1, .bool p2, .slice a2 n2 c2, .slice b2 m2 d2] t)
  have A : Below w.heap.size w (w.alloc (.cells #[.bool p0, .slice a0 n0 c0, .slice b0 m0 d0, .bool p1, .slice a1 n1 c1, .slice b1 m1 d1, .bool p2, .slice a2 n2 c2, .slice b2 m2 d2] t)) := (Below.refl _ _).alloc (Nat.le_refl _) _
  refine ⟨fun i j => [Value.bool p0, .slice a0 n0 c0, .slice b0 m0 d0, .bool p1, .slice a1 n1 c1, .slice b1 m1 d1, .bool p2, .slice a2 n2 c2, .slice b2 m2 d2].getD (i * 3 + j) undef, ⟨_, _, rfl, Nat.le_refl _, by omega, fun _ => ⟨w.heap.size, 0, rfl, fun i hi j hj => ?_⟩⟩, fun i hi => ?_⟩
  · rcases (show i = 0 ∨ i = 1 ∨ i = 2 by omega) with rfl | rfl | rfl <;> rcases (show j = 0 ∨ j = 1 ∨ j = 2 by omega) with rfl | rfl | rfl <;> (rw [cell_of_row _ _ _ _ _ _ hb]; rfl)
  · rcases (show i = 0 ∨ i = 1 ∨ i = 2 by omega) with rfl | rfl | rfl
    · exact (h0.below A).at 4 ex13_sz.1
    · exact (h1.below A).at 4 ex13_sz.2.1
    · exact (h2.below A).at 4 ex13_sz.2.2.1
set_option maxRecDepth 100000 in
set_option maxHeartbeats 8000000 in
theorem awake13_at (w : World) (ht : Tab w) :
    Calls Tryd.prog 18 #[] w fun e w' => e = .returned (.bool true) ∧ Below w.heap.size w w' := by
  have BB : Below w.heap.size w w := Below.refl _ _
  go_enter Tryd.func18, Tryd.ntmps18
  go_wp2_with fail
  refine (qof_at 0 _ (by omega) (by omega)).mono ?_
  rintro e w1 ⟨v1, rfl, h1, b1⟩
  replace ht := ht.below b1
  replace BB := BB.trans (b1.mono BB.size)
  clear b1
  obtain ⟨p1, a1, n1, c1, y1, m1, d1, rfl⟩ := h1.open
  go_wp2_with fail
  refine (qof_at 1 _ (by omega) (by omega)).mono ?_
  rintro e w2 ⟨v2, rfl, h2, b2⟩
  replace ht := ht.below b2
  replace h1 := h1.below b2
  replace BB := BB.trans (b2.mono BB.size)
  clear b2
  obtain ⟨p2, a2, n2, c2, y2, m2, d2, rfl⟩ := h2.open
  go_wp2_with fail
  refine (qof_at 2 _ (by omega) (by omega)).mono ?_
  rintro e w3 ⟨v3, rfl, h3, b3⟩
  replace ht := ht.below b3
  replace h1 := h1.below b3
  replace h2 := h2.below b3
  replace BB := BB.trans (b3.mono BB.size)
  clear b3
  obtain ⟨p3, a3, n3, c3, y3, m3, d3, rfl⟩ := h3.open
  have QR := lit13 40 h1 h2 h3
  have hLb : Below w3.heap.size w3 (w3.alloc (.cells #[.bool p1, .slice a1 n1 c1, .slice y1 m1 d1, .bool p2, .slice a2 n2 c2, .slice y2 m2 d2, .bool p3, .slice a3 n3 c3, .slice y3 m3 d3] 40)) := (Below.refl _ _).alloc (Nat.le_refl _) _
  replace ht := ht.below hLb
  replace BB := BB.trans (hLb.mono BB.size)
  clear hLb h1 h2 h3
  go_wp2_with fail
  generalize w3.alloc (.cells #[.bool p1, .slice a1 n1 c1, .slice y1 m1 d1, .bool p2, .slice a2 n2 c2, .slice y2 m2 d2, .bool p3, .slice a3 n3 c3, .slice y3 m3 d3] 40) = W7 at *
  generalize w3.heap.size = R7 at *
  refine (qfrac_at 3 2 _ (by omega) (by omega) (by omega) (by omega) ht).mono ?_
  rintro e w4 ⟨v4, rfl, h4, b4⟩
  replace ht := ht.below b4
  replace QR := QR.below b4
  replace BB := BB.trans (b4.mono BB.size)
  clear b4
  obtain ⟨p4, a4, n4, c4, y4, m4, d4, rfl⟩ := h4.open
  go_wp2_with fail
  refine (at13_at _ _ 3 st13 _ 4 _ QR (h4.at 4 ex13_sz.2.2.2) (by omega) (by omega) (by omega)).mono ?_
  rintro e w5 ⟨rfl, b5⟩
  replace ht := ht.below b5
  replace QR := QR.below b5
  replace h4 := h4.below b5
  replace BB := BB.trans (b5.mono BB.size)
  clear b5
  rw [ex13_at]
  go_wp2
  go_ret
  exact ⟨rfl, BB⟩
end Go.Proofs.YtgddiimnpliolaaDoor
