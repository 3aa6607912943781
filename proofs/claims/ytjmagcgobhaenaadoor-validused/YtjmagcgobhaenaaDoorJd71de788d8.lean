/-
  Texts of mine, joined: what lies beneath the statement.
-/
import Derived.Test.YtjmagcgobhaenaaDoorJ392d9e9a1e
import Derived.Maps.RangeWalk
import Derived.Maps.OwnOps
import Derived.Maps.Views
namespace Go.Proofs.YtjmagcgobhaenaaDoor
open Go.RowKit Go.Maps
set_option linter.unusedVariables false
set_option linter.unusedSimpArgs false
def askT (t : Nat → Nd) (q : Nat) (f : Int) : Prop := ∃ x, x < q ∧ (t x).leaf = false ∧ (t x).feat = f
def asks (T : Nat → Nat → Nd) (N : Nat → Nat) (i : Nat) (f : Int) : Prop := ∃ j, j < i ∧ askT (T j) (N j) f
theorem asks_more {T : Nat → Nat → Nd} {N : Nat → Nat} {i : Nat} {f : Int} : asks T N (i + 1) f ↔ asks T N i f ∨ askT (T i) (N i) f := by
  constructor
  · rintro ⟨j, hj, h⟩
    by_cases e : j = i
    · subst e; exact .inr h
    · exact .inl ⟨j, by omega, h⟩
  · rintro (⟨j, hj, h⟩ | h)
    · exact ⟨j, by omega, h⟩
    · exact ⟨i, by omega, h⟩
theorem askT_more {t : Nat → Nd} {q : Nat} {f : Int} : askT t (q + 1) f ↔ askT t q f ∨ ((t q).leaf = false ∧ (t q).feat = f) := by
  constructor
  · rintro ⟨x, hx, h⟩
    by_cases e : x = q
    · subst e; exact .inr h
    · exact .inl ⟨x, by omega, h⟩
  · rintro (⟨x, hx, h⟩ | h)
    · exact ⟨x, by omega, h⟩
    · exact ⟨q, by omega, h⟩
theorem askT_none {t : Nat → Nd} {f : Int} : ¬ askT t 0 f := fun ⟨x, hx, _⟩ => by omega
structure MapA (D : DataW Unit) (A : Int → Prop) (cnt : Nat) : Prop where
  map : IsMap D
  has : ∀ f : Int, Maps.has D (.int .i64 f) = true ↔ A f
  at_ : ∀ f : Int, A f → ∃ c : Int, D.atKey (.int .i64 f) (.lit (.int .i64 0)) = .lit (.int .i64 c) ∧ 0 < c ∧ c ≤ (cnt : Int)
theorem MapA.start : MapA (.map []) (fun _ => False) 0 := ⟨isMap_empty, fun f => by simp [Maps.has], fun f h => h.elim⟩
theorem MapA.congr {D : DataW Unit} {A A' : Int → Prop} {cnt cnt' : Nat} (h : MapA D A cnt) (e : ∀ f, A f ↔ A' f) (hc : cnt ≤ cnt') : MapA D A' cnt' := ⟨h.map, fun f => (h.has f).trans (e f), fun f hf => let ⟨c, a, b, d⟩ := h.at_ f ((e f).2 hf); ⟨c, a, b, by omega⟩⟩
theorem MapA.look {D : DataW Unit} {A : Int → Prop} {cnt : Nat} (h : MapA D A cnt) {f c : Int} (hc : D.atKey (.int .i64 f) (.lit (.int .i64 0)) = .lit (.int .i64 c)) : 0 ≤ c ∧ c ≤ (cnt : Int) := by
  cases e : Maps.has D (.int .i64 f) with
  | true =>
    obtain ⟨c', a, b, d⟩ := h.at_ f ((h.has f).1 e)
    rw [hc] at a
    injection a with a
    injection a with _ a
    omega
  | false =>
    rw [atKey_of_not_has e] at hc
    injection hc with hc
    injection hc with _ hc
    omega
theorem MapA.more {D : DataW Unit} {A : Int → Prop} {cnt : Nat} (h : MapA D A cnt) {f c c1 : Int} (hc : D.atKey (.int .i64 f) (.lit (.int .i64 0)) = .lit (.int .i64 c)) (hc1 : c1 = c + 1) : MapA (D.put (.int .i64 f) (.lit (.int .i64 c1))) (fun g => A g ∨ g = f) (cnt + 1) := by
  have h0 := h.look hc
  refine ⟨h.map.put _ _, fun g => ?_, fun g hg => ?_⟩
  · by_cases e : g = f
    · subst e
      rw [has_put_same h.map (show WideAt.IsKeyLit (.int .i64 _) from trivial)]
      exact ⟨fun _ => .inr rfl, fun _ => rfl⟩
    · rw [has_put_other (fun e2 => e (by injection e2)), h.has g]
      exact ⟨fun a => .inl a, fun a => a.resolve_right e⟩
  · by_cases e : g = f
    · subst e
      exact ⟨c1, atKey_put_same h.map (show WideAt.IsKeyLit (.int .i64 _) from trivial) _ _, by omega, by omega⟩
    · obtain ⟨c', a, b, d⟩ := h.at_ g (hg.resolve_right e)
      exact ⟨c', by rw [atKey_put_other (fun e2 => e (by injection e2))]; exact a, b, by omega⟩
theorem lawInt : Keyed Tryd.prog 3 := int_keyed Tryd.underlying3
theorem zeroInt (w : World) : (zeroValue 3).run Tryd.prog w = .ok (.int .i64 0) w := by kernel_rfl
abbrev OwnMp (w : World) (B n : Nat) (D : DataW Unit) : Prop := w.ownsMap Tryd.prog 3 (plainElem (H := Unit) Tryd.prog 3) B n D
theorem OwnMp.below {w w' : World} {B n : Nat} {D : DataW Unit} (h : OwnMp w B n D) (hb : Below w.heap.size w w') : OwnMp w' B n D := World.ownsMap.kept h (row := none) ⟨hb.os, hb.tape, hb.output, hb.size, fun i hi _ => hb.block i hi⟩ (by simp)
structure BAr (w : World) (g n : Nat) (f : Nat → Bool) : Prop where
  cell : ∀ i, i < n → w.cell? ⟨g, i, none⟩ = some (.bool (f i))
  soft : ∀ i, i < n → w.frozen? ⟨g, i, none⟩ = false
theorem BAr.below {w w' : World} {g n : Nat} {f : Nat → Bool} (h : BAr w g n f) (hb : Below w.heap.size w w') : BAr w' g n f :=
  ⟨fun i hi => (hb.cell (p := ⟨g, i, none⟩) (World.block_lt_of_cell? _ _ (h.cell i hi))).trans (h.cell i hi), fun i hi => (hb.frozen (p := ⟨g, i, none⟩) (World.block_lt_of_cell? _ _ (h.cell i hi))).trans (h.soft i hi)⟩
theorem BAr.kept {w w' : World} {g n : Nat} {f : Nat → Bool} {row : Option Nat} (h : BAr w g n f) (hg : w.grownBy w' row) (hne : some g ≠ row) : BAr w' g n f :=
  ⟨fun i hi => (World.cell?_of_block (a := ⟨g, i, none⟩) (hg.block g (World.block_lt_of_cell? _ _ (h.cell i hi)) hne)).trans (h.cell i hi), fun i hi => (World.frozen?_of_block (a := ⟨g, i, none⟩) (hg.block g (World.block_lt_of_cell? _ _ (h.cell i hi)) hne)).trans (h.soft i hi)⟩
theorem BAr.put {w : World} {g n : Nat} {f : Nat → Bool} (h : BAr w g n f) {i : Nat} (hi : i < n) (v : Bool) : BAr (w.setCell ⟨g, i, none⟩ (.bool v)) g n (fun j => if j = i then v else f j) := by
  refine ⟨fun j hj => ?_, fun j hj => by simp [h.soft j hj]⟩
  by_cases e : j = i
  · subst e
    rw [if_pos rfl]
    exact World.cell?_setCell_same _ _ _ (h.cell j hj)
  · rw [if_neg e]
    exact cell_set_by (h.cell j hj) e
theorem BAr.congr {w : World} {g n : Nat} {f f' : Nat → Bool} (h : BAr w g n f) (e : ∀ j, j < n → f j = f' j) : BAr w g n f' := ⟨fun i hi => e i hi ▸ h.cell i hi, h.soft⟩
noncomputable def usedB (T : Nat → Nat → Nd) (N : Nat → Nat) (k j : Nat) : Bool := @decide (asks T N k (j : Int)) (Classical.propDecidable _)
theorem usedB_is {T : Nat → Nat → Nd} {N : Nat → Nat} {k j : Nat} : usedB T N k j = true ↔ asks T N k (j : Int) := by
  unfold usedB
  exact ⟨fun h => @of_decide_eq_true _ (Classical.propDecidable _) h, fun h => @decide_eq_true _ (Classical.propDecidable _) h⟩
theorem info_boolT : (Tryd.prog.info? 4).map (fun i => (i.zero, i.size, i.bytes)) = some (some (.bool false), 1, 1) := by kernel_rfl
theorem made_false (n i : Nat) (h : i < n) : (madeCells (Value.bool false).cells (n * 1)).toList[i]? = some (.bool false) := by
  simp [madeCells, Value.cells, h, Nat.mod_one]
theorem asks_in {T : Nat → Nat → Nd} {N : Nat → Nat} {k : Nat} {F : Int} (hm : ∀ i, i < k → MayT F (T i) (N i)) {f : Int} (h : asks T N k f) : 0 ≤ f ∧ f < F := by
  obtain ⟨j, hj, x, hx, hl, rfl⟩ := h
  exact (hm j hj).feat x hx hl
theorem wf_i64 {z : Int} (h : I64 z) : (Lit.int .i64 z).wf = true := by
  have e1 : IntKind.i64.min = -9223372036854775808 := by decide
  have e2 : IntKind.i64.max = 9223372036854775807 := by decide
  unfold I64 at h
  simp [Lit.wf]
  omega
set_option maxRecDepth 100000 in
set_option maxHeartbeats 16000000 in
theorem asked_at (F : Int) (vm : Value) (k : Nat) (N : Nat → Nat) (T : Nat → Nat → Nd) (L : Nat) (w : World) (hM : MRow w vm k N T L) (hk : k ≤ 64) (hN : ∀ i, i < k → N i ≤ 255) :
    Calls Tryd.prog 18 #[.agg #[.int .i64 F, vm]] w fun e w' => ∃ B, e = .returned (.map (some B)) ∧ w.heap.size ≤ B ∧ ∃ D, OwnMp w' B (k * 256) D ∧ MapA D (asks T N k) (k * 256) ∧ Below w.heap.size w w' := by
  obtain ⟨ao, c, rfl, hnc, hc63⟩ := hM.open
  obtain ⟨W0, hW0, hS0, hL0, VM⟩ := V2.lay w 24 (.int .i64 F) (.slice ao k c)
  have BB : Below w.heap.size w W0 := hL0
  clear hL0
  have HM0 : Hid (MRow w (.slice ao k c) k N T L) := hM
  have hmm := @run_makeMap Tryd.prog
  have HF : Hid (∀ i, i < k → N i ≤ 255) := hN
  clear hM hN
  have OM0 : OwnMp (W0.alloc (.map #[] 0)) W0.heap.size 0 (.map []) := World.ownsMap_made _ _ _ _
  have BB0 : Below w.heap.size w (W0.alloc (.map #[] 0)) := BB.alloc BB.size _
  have VM1 : V2 (W0.alloc (.map #[] 0)) w.heap.size (.int .i64 F) (.slice ao k c) := VM.below ((Below.refl _ _).alloc (Nat.le_refl _) _)
  have hMB : w.heap.size ≤ w.heap.size + 1 := by omega
  rw [hS0] at OM0
  obtain ⟨q1, q2, q3, q4⟩ := id VM1
  rw [hW0] at q1 q2 q3 q4
  go_enter Tryd.func18, Tryd.ntmps18
  go_wp2
  clear q1 q2 q3 q4 VM1 VM BB hmm
  rw [← hW0]
  clear hW0 hS0
  generalize w.heap.size + 1 = B at *
  go_loopw [12] (fun vi wr => ∃ (i : Nat) (D : DataW Unit), i ≤ k ∧ vi = .int .i64 (i : Int) ∧ OwnMp wr B (i * 256) D ∧ Hid (MapA D (asks T N i) (i * 256)) ∧ Below w.heap.size w wr) (fun vi _ => k - (intOf vi).toNat)
  case atStart => exact ⟨0, .map [], by omega, rfl, OM0, MapA.start.congr (fun f => ⟨fun h => h.elim, fun ⟨j, hj, _⟩ => by omega⟩) (by omega), BB0⟩
  case round =>
    clear OM0 BB0
    obtain ⟨i, D0, hi, rfl, OM, HA, BB⟩ := hrel
    by_cases hlt : i < k
    · have g1 : (i : Int) < (k : Int) := by omega
      have g0 : (0 : Int) ≤ (i : Int) := by omega
      obtain ⟨b, off, cc, a, d, hvv, hcc, XC0, TR0⟩ := HM0.out.at hlt
      cases hvv
      have XC : wr.cell? ⟨b, off + i, none⟩ = some (.slice a (N i) d) := (BB.cell (p := ⟨b, off + i, none⟩) (World.block_lt_of_cell? _ _ XC0)).trans XC0
      have HTR : Hid (TRow w (.slice a (N i) d) (N i) (T i) L) := TR0
      have hN255 := HF.out i hlt
      have HAM : Hid (∀ f, asks T N (i + 1) f ↔ asks T N i f ∨ askT (T i) (N i) f) := fun f => asks_more
      have HA0 : Hid (MapA D0 (fun f => asks T N i f ∨ askT (T i) 0 f) (i * 256 + 0)) := HA.out.congr (fun f => ⟨fun h => .inl h, fun h => h.resolve_right askT_none⟩) (by omega)
      clear XC0 TR0 HA
      go_wp2
      clear XC
      generalize T i = t at *
      generalize N i = n at *
      go_loopw [18] (fun vq wr => ∃ (q : Nat) (D : DataW Unit), q ≤ n ∧ vq = .int .i64 (q : Int) ∧ OwnMp wr B (i * 256 + q) D ∧ Hid (MapA D (fun f => asks T N i f ∨ askT t q f) (i * 256 + q)) ∧ Below w.heap.size w wr) (fun vq _ => n - (intOf vq).toNat)
      case atStart => exact ⟨0, D0, by omega, rfl, OM, HA0, BB⟩
      case round =>
        clear OM HA0 BB D0
        obtain ⟨q, D, hq, rfl, OM, HA, BB⟩ := hrel
        by_cases hql : q < n
        · have f1 : (q : Int) < (n : Int) := by omega
          have f0 : (0 : Int) ≤ (q : Int) := by omega
          obtain ⟨b9, off9, cc9, p1, a1, n1, c1, b1, m1, d1, p2, a2, n2, c2, b2, m2, d2, p3, a3, n3, c3, b3, m3, d3, hvv, hcc9, hc6, NN, r1, r2, r3, i1, i2, i3⟩ := (HTR.out.below BB).at hql
          cases hvv
          clear r1 r2 r3 i2 i3
          cases hlf : (t q).leaf
          · have HT2 : Hid (∀ f, askT t (q + 1) f ↔ askT t q f ∨ f = (t q).feat) := fun f => by
              rw [askT_more, hlf]
              exact ⟨fun h => h.imp id (fun h => h.2.symm), fun h => h.imp id (fun h => ⟨rfl, h.symm⟩)⟩
            have hkey : keyOf Tryd.prog 3 (.int .i64 (t q).feat) = some (.int .i64 (t q).feat) := keyOf_int_mk Tryd.underlying3 (wf_i64 i1)
            rw [hlf] at NN
            clear hlf
            obtain ⟨N_0, N_1, N_2, N_3, N_4, N_5, N_6, N_7, N_8, N_9, N_10, N_11, N_12, N_13⟩ := NN
            obtain ⟨W5, hW5, hS5, hL5, VN, FN⟩ := V14.lay wr 41 (.bool false) (.int .i64 (t q).feat) (.bool p1) (.slice a1 n1 c1) (.slice b1 m1 d1) (.int .i64 (t q).left) (.int .i64 (t q).right) (.bool (t q).miss) (.bool p2) (.slice a2 n2 c2) (.slice b2 m2 d2) (.bool p3) (.slice a3 n3 c3) (.slice b3 m3 d3)
            have OM5 := OM.below hL5
            have BB5 := BB.trans (hL5.mono BB.size)
            rw [hW5] at OM5 BB5
            obtain ⟨V_0, V_1, V_2, V_3, V_4, V_5, V_6, V_7, V_8, V_9, V_10, V_11, V_12, V_13⟩ := id VN
            rw [hW5] at V_0 V_1 V_2 V_3 V_4 V_5 V_6 V_7 V_8 V_9 V_10 V_11 V_12 V_13
            clear OM BB hL5 hS5 FN VN
            go_wp2_with (first
              | (at_lookup; refine wpList_lookup_own_int _ rfl _ _ 51 rfl 3 3 .i64 lawInt Tryd.underlying51 Tryd.underlying3 (zeroInt _) B (i * 256 + q) D rfl OM5 _ _ rfl hkey ?_; intro cv hat hwc; have hcv := HA.out.look hat; have HAT : Hid (D.atKey (.int .i64 (t q).feat) (.lit (.int .i64 0)) = .lit (.int .i64 cv)) := hat; clear hat)
              | (at_mapUpdate; refine wpList_mapUpdate_own _ rfl _ _ _ 51 rfl 3 3 lawInt Tryd.underlying51 _ B (i * 256 + q) D rfl OM5 (by unfold maxLen; omega) _ _ _ rfl rfl hkey _ [] (plainElem_int Tryd.underlying3 (wf_i64 ⟨by omega, by omega⟩)) ?_; intro w6 OM6 hg6))
            go_roundw
            case rel => exact ⟨q + 1, _, by omega, by go_num, OM6, (HA.out.more HAT.out rfl).congr (fun f => by rw [HT2.out f]; exact ⟨fun h => by rcases h with (h | h) | h; exact .inl h; exact .inr (.inl h); exact .inr (.inr h), fun h => by rcases h with h | h | h; exact .inl (.inl h); exact .inl (.inr h); exact .inr h⟩) (by omega), BB5.grown hg6 BB5.size (fun j hj => by cases hj; exact hMB)⟩
            case measure => simp [intOf]; omega
          · have HT2 : Hid (∀ f, askT t (q + 1) f ↔ askT t q f) := fun f => by
              rw [askT_more, hlf]
              exact ⟨fun h => h.resolve_right (fun h => by cases h.1), .inl⟩
            rw [hlf] at NN
            clear hlf i1
            obtain ⟨N_0, N_1, N_2, N_3, N_4, N_5, N_6, N_7, N_8, N_9, N_10, N_11, N_12, N_13⟩ := NN
            obtain ⟨W5, hW5, hS5, hL5, VN, FN⟩ := V14.lay wr 41 (.bool true) (.int .i64 (t q).feat) (.bool p1) (.slice a1 n1 c1) (.slice b1 m1 d1) (.int .i64 (t q).left) (.int .i64 (t q).right) (.bool (t q).miss) (.bool p2) (.slice a2 n2 c2) (.slice b2 m2 d2) (.bool p3) (.slice a3 n3 c3) (.slice b3 m3 d3)
            have OM5 := OM.below hL5
            have BB5 := BB.trans (hL5.mono BB.size)
            rw [hW5] at OM5 BB5
            obtain ⟨V_0, V_1, V_2, V_3, V_4, V_5, V_6, V_7, V_8, V_9, V_10, V_11, V_12, V_13⟩ := id VN
            rw [hW5] at V_0 V_1 V_2 V_3 V_4 V_5 V_6 V_7 V_8 V_9 V_10 V_11 V_12 V_13
            clear OM BB hL5 hS5 FN VN
            go_wp2
            go_roundw
            case rel => exact ⟨q + 1, D, by omega, by go_num, World.ownsMap.mono OM5 (by omega), HA.out.congr (fun f => by rw [HT2.out f]) (by omega), BB5⟩
            case measure => simp [intOf]; omega
        · obtain rfl : q = n := by omega
          have f1 : ¬ (q : Int) < (q : Int) := by omega
          go_wp2
          go_roundw
          case rel => exact ⟨i + 1, D, by omega, by go_num, World.ownsMap.mono OM (by omega), HA.out.congr (fun f => (HAM.out f).symm) (by omega), BB⟩
          case measure => simp [intOf]; omega
    · obtain rfl : i = k := by omega
      have g1 : ¬ (i : Int) < (i : Int) := by omega
      go_wp2
      go_ret
      exact ⟨B, rfl, hMB, D0, OM, HA.out, BB⟩
set_option maxRecDepth 100000 in
set_option maxHeartbeats 4000000 in
theorem used_no (F : Int) (vm : Value) (k : Nat) (N : Nat → Nat) (T : Nat → Nat → Nd) (L : Nat) (w : World) (hM : MRow w vm k N T L) (hT : Tab w) (hL : 1 ≤ L) (hLM : L ≤ 30000) (hw : mayB F k N T = false) :
    Calls Tryd.prog 6 #[.agg #[.int .i64 F, vm]] w fun e w' => e = .returned (.slice none 0 0) ∧ Below w.heap.size w w' := by
  obtain ⟨ao, c, rfl, hnc, hc63⟩ := hM.open
  obtain ⟨W0, hW0, hS0, hL0, VM⟩ := V2.lay w 24 (.int .i64 F) (.slice ao k c)
  have BB : Below w.heap.size w W0 := hL0
  clear hL0
  have HM0 : Hid (MRow w (.slice ao k c) k N T L) := hM
  have HT0 : Hid (Tab w) := hT
  clear hM hT
  go_enter Tryd.func6, Tryd.ntmps6
  obtain ⟨VM_0, VM_1, VM_2, VM_3⟩ := id VM
  rw [hW0] at VM_0 VM_1 VM_2 VM_3
  go_wp2_with fail
  clear VM_0 VM_1 VM_2 VM_3
  rw [← hW0]
  clear hW0 hS0
  refine (ok_may F _ k N T L _ (HM0.out.below BB) (HT0.out.below BB) hL hLM).mono ?_
  rintro e w1 ⟨rfl, b1⟩
  rw [hw]
  replace VM := VM.below b1
  replace BB := BB.trans (b1.mono BB.size)
  clear b1
  go_wp2
  go_ret
  exact ⟨rfl, BB⟩
theorem same_int (x : Int) : (Lit.int .i64 x).sameKey (.int .i64 x) = true := by simp [Lit.sameKey]
set_option maxRecDepth 100000 in
set_option maxHeartbeats 16000000 in
theorem used_yes (vm : Value) (k nr : Nat) (N : Nat → Nat) (T : Nat → Nat → Nd) (L : Nat) (w : World) (hM : MRow w vm k N T L) (hT : Tab w) (hL : 1 ≤ L) (hLM : L ≤ 30000) (hw : mayB (nr : Int) k N T = true) :
    Calls Tryd.prog 6 #[.agg #[.int .i64 (nr : Int), vm]] w fun e w' => ∃ g, e = .returned (.slice (some ⟨g, 0, none⟩) nr nr) ∧ w.heap.size ≤ g ∧ BAr w' g nr (usedB T N k) ∧ Below w.heap.size w w' := by
  obtain ⟨ao, c, rfl, hnc, hc63⟩ := hM.open
  obtain ⟨W0, hW0, hS0, hL0, VM⟩ := V2.lay w 24 (.int .i64 (nr : Int)) (.slice ao k c)
  have BB : Below w.heap.size w W0 := hL0
  clear hL0
  have HM0 : Hid (MRow w (.slice ao k c) k N T L) := hM
  have HT0 : Hid (Tab w) := hT
  clear hM hT
  go_enter Tryd.func6, Tryd.ntmps6
  obtain ⟨VM_0, VM_1, VM_2, VM_3⟩ := id VM
  rw [hW0] at VM_0 VM_1 VM_2 VM_3
  go_wp2_with fail
  clear VM_0 VM_1 VM_2 VM_3
  rw [← hW0]
  clear hW0 hS0
  refine (ok_may (nr : Int) _ k N T L _ (HM0.out.below BB) (HT0.out.below BB) hL hLM).mono ?_
  rintro e w1 ⟨rfl, b1⟩
  rw [hw]
  replace VM := VM.below b1
  replace BB := BB.trans (b1.mono BB.size)
  clear b1
  obtain ⟨hF0, hF64, hk64, hmy⟩ := mayB_may hw
  have HMY : Hid (∀ i, i < k → MayT (nr : Int) (T i) (N i)) := hmy
  have hn64 : nr ≤ 64 := by omega
  clear hw hmy hF0 hF64
  obtain ⟨i0, hi, hz0, hz1, hz2⟩ := info_parts info_boolT
  obtain ⟨VM_0, VM_1, VM_2, VM_3⟩ := id VM
  go_wp2_with (at_make; refine wpList_make_full _ rfl _ _ 26 rfl _ 4 i0 (.bool false) 1 Tryd.underlying26 hi hz0 hz1 _ _ _ _ nr rfl rfl (by omega) (by omega) (by rw [hz2]; omega) (by unfold maxLen; omega) (Nat.le_refl _) ?_; intro w2 hown hgrow; have hb1 := below_grown hgrow; have VM1 := VM.below hb1; obtain ⟨q1, q2, q3, q4⟩ := id VM1; clear VM_0 VM_1 VM_2 VM_3)
  have BA : BAr w2 w1.heap.size nr (fun _ => false) := ⟨fun j hj => owns_cell hown (made_false nr j hj), fun j hj => hown.frozenAt _⟩
  have hGB : w.heap.size ≤ w1.heap.size := BB.size
  have hG2 : w1.heap.size < w2.heap.size := (owns_cap hown).2.2
  replace BB := BB.trans (hb1.mono BB.size)
  clear q1 q2 q3 q4 hown hgrow hb1 VM VM1 hi hz0 hz1 hz2
  generalize w1.heap.size = G at *
  refine (asked_at (nr : Int) _ k N T L _ (HM0.out.below BB) hk64 (fun i hi => (HMY.out i hi).few)).mono ?_
  rintro e w3 ⟨B, rfl, hB, D, OM, HA, b3⟩
  have hG3 : G < w3.heap.size := Nat.lt_of_lt_of_le hG2 b3.size
  have HAH : Hid (MapA D (asks T N k) (k * 256)) := HA
  have hGBne : G ≠ B := by omega
  have hBB : w.heap.size ≤ B := by have := BB.size; omega
  replace BA := BA.below b3
  replace BB := BB.trans (b3.mono BB.size)
  clear b3 hB HA
  have OM' : w3.ownsMap Tryd.prog 3 (plainElem (H := Unit) Tryd.prog 3) B (k * 256) D := OM
  go_wp2_with (first
    | (at_range; refine wpList_range_own _ rfl _ 51 rfl 3 3 lawInt Tryd.underlying51 _ B (k * 256) D rfl OM' ?_; intro w4 hrg hg4 hs4))
  go_frame
  have BA4 := BA.kept hg4 (by simp)
  have BB4 : Below w.heap.size w w4 := BB.grown hg4 BB.size (fun j hj => by cases hj)
  have hR : w.heap.size ≤ w3.heap.size := BB.size
  have hGR : G ≠ w3.heap.size := by omega
  clear OM OM' BA BB hg4 hs4 hG2
  generalize w3.heap.size = R at *
  have HP0 : Hid (∀ j, j < nr → ((fun _ : Nat => false) j = true ↔ asks T N k (j : Int) ∧ Maps.has D (.int .i64 (j : Int)) = false)) := fun j hj => ⟨fun h => (by cases h), fun h => by have h9 := (HAH.out.has (j : Int)).2 h.1; rw [h9] at h; cases h.2⟩
  go_loopw [4] (fun _ wr => ∃ (left : Lit → Bool) (cnt : Nat) (f : Nat → Bool), wr.ranges Tryd.prog 3 (plainElem (H := Unit) Tryd.prog 3) B R (k * 256) D left cnt ∧ BAr wr G nr f ∧ Hid (∀ j, j < nr → (f j = true ↔ asks T N k (j : Int) ∧ left (.int .i64 (j : Int)) = false)) ∧ Below w.heap.size w wr) (fun _ wr => wr.rangeLeft B R)
  case atStart => exact ⟨_, _, _, hrg, BA4, HP0, BB4⟩
  case round =>
    clear hrg BA4 BB4 HP0
    obtain ⟨left, cnt, f, hrg, BA, HP, BB⟩ := hrel
    go_wp2_with (first
      | (at_next; refine wpList_next_ranges_ii _ rfl _ rfl 3 3 .i64 .i64 lawInt Tryd.underlying3 Tryd.underlying3 B R (k * 256) _ _ _ rfl hrg ?_ ?_))
    · intro _ hl0
      go_wp2
      go_ret
      refine ⟨G, rfl, hGB, BA.congr (fun j hj => ?_), BB⟩
      have h1 := HP.out j hj
      rw [hl0] at h1
      have h2 : f j = true ↔ usedB T N k j = true := h1.trans ⟨fun h => usedB_is.2 h.1, fun h => ⟨usedB_is.1 h, rfl⟩⟩
      cases e1 : f j <;> cases e2 : usedB T N k j <;> simp_all
    · intro x cv w5 cnt1 hwx hwc hlx hat hrg1 hltc hg5 hs5 hen
      have hA : asks T N k x := (HAH.out.has x).1 (has_true_of_atKey hat)
      have hx := asks_in HMY.out hA
      have hcv : 0 < cv := by
        obtain ⟨c', a, b, d⟩ := HAH.out.at_ x hA
        rw [hat] at a
        injection a with a
        injection a with _ a
        omega
      obtain ⟨j, rfl⟩ : ∃ j : Nat, x = (j : Int) := ⟨x.toNat, by omega⟩
      have hjn : j < nr := by omega
      have e0 : (0 : Int) ≤ (j : Int) := by omega
      have e1 : (j : Int) < (nr : Int) := by omega
      have BA5 := BA.kept hg5 (fun e => hGR (by injection e))
      have BB5 : Below w.heap.size w w5 := BB.grown hg5 BB.size (fun i hi => by cases hi; exact hR)
      have HAJ : Hid (asks T N k (j : Int)) := hA
      have cG := BA5.cell j hjn
      have cS := BA5.soft j hjn
      have BA6 := BA5.put hjn true
      have BB6 := BB5.setCell (p := ⟨G, j, none⟩) hGB (.bool true)
      have hrg6 : (w5.setCell ⟨G, j, none⟩ (.bool true)).ranges Tryd.prog 3 (plainElem (H := Unit) Tryd.prog 3) B R (k * 256) D (fun z => left z && !z.sameKey (.int .i64 (j : Int))) cnt1 := hrg1.kept (grown_at w5 ⟨G, j, none⟩ (.bool true)) (fun e => hGBne (by injection e with e; exact e.symm)) (fun e => hGR (by injection e with e; exact e.symm))
      have HP6 : Hid (∀ i, i < nr → ((fun i => if i = j then true else f i) i = true ↔ asks T N k (i : Int) ∧ (fun z : Lit => left z && !z.sameKey (.int .i64 (j : Int))) (.int .i64 (i : Int)) = false)) := fun i hi => by
        dsimp only
        by_cases e : i = j
        · subst e
          rw [if_pos rfl, same_int]
          simp [HAJ.out]
        · rw [if_neg e, sameKey_ne (fun e2 => e (by injection e2 with _ e2; omega))]
          have := HP.out i hi
          simpa using this
      clear hA hat hrg1 hg5 hs5 hwx hwc hlx BA BB HP
      go_wp2
      go_roundw
      case rel => exact ⟨_, cnt1, _, hrg6, BA6, HP6, BB6⟩
      case measure =>
        have h1 := hrg6.left_eq
        have h2 := hrg.left_eq
        rw [h1, h2]
        exact hltc
end Go.Proofs.YtjmagcgobhaenaaDoor
