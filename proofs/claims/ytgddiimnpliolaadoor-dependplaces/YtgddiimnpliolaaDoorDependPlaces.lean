/-
  Proves that At tells the place of the step that stands for any number, of up to 12 steps of any order, whatever comes in (the statement DependPlaces, its tied card); the table of math/bits lies as the program's text lays it; no other condition.
-/
import Derived.Test.YtgddiimnpliolaaDoorRows
import Derived.Test.YtgddiimnpliolaaDoorJ7b07474b44
import Derived.Test.YtgddiimnpliolaaDoorJ9139c80475
import Derived.Test.YtgddiimnpliolaaDoorJ936431caf0
import Derived.Test.YtgddiimnpliolaaDoorJ7a8da8948c
import Derived.WalkKit
import Derived.ProofKit
import Derived.OpenShut
import Derived.ShutString
import Derived.ChangeOld
import Derived.Below
import Derived.Test.YtgddiimnpliolaaDoorTie
import Derived.Test.YtgddiimnpliolaaDoorCards
import Derived.LaidByTextLater
import Derived.LaidHandle
import Derived.Lib.LaidTab
import Derived.SevenTiedAt
namespace Go.Proofs.YtgddiimnpliolaaDoor.dependPlaces
open Go.ChangeShapes Go.WideShapes Go.ChangeAt Go.RowKit
open Go.ChangeMaps (open_string shut_string)
set_option linter.unusedVariables false
set_option linter.unusedSimpArgs false

def KLIST : Nat := 3
structure Cel13 (w : World) (b o : Nat) (v : Value) : Prop where
  cell : w.cell? ⟨b, o, none⟩ = some v
theorem Cel13.below {w w' : World} {b o : Nat} {v : Value} (h : Cel13 w b o v) (hb : Below w.heap.size w w') : Cel13 w' b o v := ⟨(hb.cell (p := ⟨b, o, none⟩) (World.block_lt_of_cell? _ _ h.cell)).trans h.cell⟩
theorem v3_blk13 {W W' : World} {R : Nat} {x y z : Value} (h : V3 W R x y z) (hb : W'.heap[R]? = W.heap[R]?) : V3 W' R x y z :=
  ⟨(World.cell?_of_block (a := ⟨R, 0, none⟩) hb).trans h.1, (World.cell?_of_block (a := ⟨R, 1, none⟩) hb).trans h.2.1, (World.cell?_of_block (a := ⟨R, 2, none⟩) hb).trans h.2.2.1, (World.frozen?_of_block (a := ⟨R, 0, none⟩) hb).trans h.2.2.2.1, (World.frozen?_of_block (a := ⟨R, 1, none⟩) hb).trans h.2.2.2.2.1, (World.frozen?_of_block (a := ⟨R, 2, none⟩) hb).trans h.2.2.2.2.2⟩
theorem rawQ_open13 {w : World} {v : Value} {n : Nat} {q : Nat → Rat} {K : Nat} (h : RawQ w v n q K) : ∃ a c, v = .slice a n c ∧ n ≤ c ∧ c ≤ 9223372036854775807 := by
  obtain ⟨el, ⟨a, c, h1, h2, h3, _⟩, _⟩ := h
  exact ⟨a, c, h1, h2, h3⟩
theorem qrow_at13 {w : World} {v : Value} {n : Nat} {q : Nat → Rat} {L : Nat} (h : QRow w v n q L) {i : Nat} (hi : i < n) : ∃ b off c p a m d bo k e, v = .slice (some ⟨b, off, none⟩) n c ∧ n ≤ c ∧ w.cell? ⟨b, off + i * 3, none⟩ = some (.bool p) ∧ w.cell? ⟨b, off + i * 3 + 1, none⟩ = some (.slice a m d) ∧ w.cell? ⟨b, off + i * 3 + 2, none⟩ = some (.slice bo k e) ∧ RatAt w (.agg #[.bool p, .slice a m d, .slice bo k e]) (q i) L := by
  obtain ⟨a, c, b, off, es, h1, h2, h3, h4, _, h5⟩ := row7 h
  obtain ⟨c0, c1, c2⟩ := h4 i hi
  exact ⟨b, off, c, _, _, _, _, _, _, _, by rw [h1, h3 (by omega)], h2, c0, c1, c2, h5 i hi⟩

set_option maxRecDepth 100000 in
set_option maxHeartbeats 16000000 in
theorem walk (v : Value) (n : Nat) (q : Nat → Rat) (pz : Bool) (az : Option Addr) (nz cz : Nat) (bz : Option Addr) (mz dz : Nat) (fz gz : Nat → Int) (w : World) (h1 : RawQ w v n q KLIST) (h3 : Raw w (.slice az nz cz) nz fz) (h4 : Raw w (.slice bz mz dz) mz gz) (ht : Tab w) :
    Calls Tryd.prog 4 #[v, .agg #[.bool pz, .slice az nz cz, .slice bz mz dz]] w fun e w' => e = .returned (.bool true) ∧ Below w.heap.size w w' := by
  unfold KLIST at h1
  have BB : Below w.heap.size w w := Below.refl _ _
  have HQ0 : Hid (RawQ w v n q 3) := h1
  have HZ1 : Hid (Raw w (.slice az nz cz) nz fz) := h3
  have HZ2 : Hid (Raw w (.slice bz mz dz) mz gz) := h4
  have HT0 : Hid (Tab w) := ht
  obtain ⟨av, cv, rfl, hnc, hc63⟩ := rawQ_open13 h1
  clear h1 h3 h4 ht
  obtain ⟨W1, hW1, hS1, hL1, VZ⟩ := V3.lay w 40 (.bool pz) (.slice az nz cz) (.slice bz mz dz)
  replace BB := BB.trans (hL1.mono BB.size)
  clear hL1 hS1
  go_enter Tryd.func4, Tryd.ntmps4
  go_wp2_with fail
  rw [← hW1]
  clear hW1
  go_loopw [5, 6] (fun vs vi wr => ∃ i : Nat, i ≤ n ∧ i ≤ 12 ∧ vi = .int .i64 (i : Int) ∧ RsOw 3 (w.heap.size + 1) wr vs ((List.range i).map q) ∧ V3 wr w.heap.size (.bool pz) (.slice az nz cz) (.slice bz mz dz) ∧ Below w.heap.size w wr) (fun _ vi _ => n - (intOf vi).toNat)
  case atStart => exact ⟨0, by omega, by omega, rfl, GOwn.nil, VZ, BB⟩
  case round =>
    clear VZ BB
    obtain ⟨i, hi, hi12, rfl, OS, VZ, BB⟩ := hrel
    obtain ⟨ao, co, rfl, hco⟩ := GOwn.form OS
    rw [show ((List.range i).map q).length = i by simp] at hco ⊢
    have HLI : Hid (((List.range i).map q).length = i) := by show _ = _; simp
    rw [HLI.out] at OS
    by_cases hin : i < n ∧ i < 12
    · obtain ⟨hlt, hl12⟩ := hin
      have j1 : (i : Int) < (n : Int) := by omega
      have j2 : (i : Int) < 12 := by omega
      have g0 : (0 : Int) ≤ (i : Int) := by omega
      have wi : IntKind.i64.wrap ((i : Int) + 1) = (i : Int) + 1 := by rw [IntKind.wrap_i64]; omega
      obtain ⟨b, off, cc, p1, a1, n1, c1, b1, m1, d1, f1, g1, hvv, hcc, X0, X1, X2, r1, r2, hqi⟩ := (HQ0.out.below BB).at i hlt
      cases hvv
      have HSQ : Hid (q i = mkRat (zof p1 (num f1 (min n1 3))) (num g1 (min m1 3))) := hqi
      clear hqi hcc
      have b4 : Below wr.heap.size wr (wr.alloc (.cells #[.bool false, .bool p1, .slice a1 n1 c1, .slice b1 m1 d1] 49)) := (Below.refl _ _).alloc (Nat.le_refl _) _
      have CR := one_entry (ms := false) (p := p1) r1 r2 3 49
      have OS4 := OS.below b4
      have VZ4 := VZ.below b4
      have BB4 := BB.trans (b4.mono BB.size)
      clear b4 OS VZ BB r1 r2
      go_wp2_with fail
      clear X0 X1 X2
      generalize wr.alloc (.cells #[.bool false, .bool p1, .slice a1 n1 c1, .slice b1 m1 d1] 49) = W4 at *
      generalize wr.heap.size = R3 at *
      refine (few9_at _ 1 1 _ _ CR (by omega)).mono ?_
      rintro e w5 ⟨u, rfl, CO, b5⟩
      have CO1 : COwn W4.heap.size w5 u 1 (fun _ => ⟨false, mkRat (zof p1 (num f1 (min n1 3))) (num g1 (min m1 3))⟩) 3 := CO
      rw [← HSQ.out] at CO1
      obtain ⟨b6, o6, c6, p6, a6, n6, e6, y6, m6, d6, hv6, hc6, hc63_, Z0, Z1, Z2, Z3, R6⟩ := CO1.row.at (i := 0) (by omega)
      subst hv6
      rw [Nat.zero_mul, Nat.add_zero] at Z0 Z1 Z2 Z3
      have R6 : RatAt w5 (.agg #[.bool p6, .slice a6 n6 e6, .slice y6 m6 d6]) (q i) 3 := R6
      replace OS4 := OS4.below b5
      replace VZ4 := VZ4.below b5
      replace BB4 := BB4.trans (b5.mono BB4.size)
      clear b5 CR CO CO1 Z0
      have b7 : Below w5.heap.size w5 (w5.alloc (.cells #[.bool p6, .slice a6 n6 e6, .slice y6 m6 d6] 40)) := (Below.refl _ _).alloc (Nat.le_refl _) _
      have OS7 := OS4.below b7
      have VZ7 := VZ4.below b7
      have R7 := R6.below b7
      have BB7 := BB4.trans (b7.mono BB4.size)
      clear b7 OS4 VZ4 R6 BB4
      obtain ⟨cs, hown, hcl, hpu, hall⟩ := GOwn.parts OS7
      rw [HLI.out] at hown hcl
      have hsz : w.heap.size + 1 ≤ (w5.alloc (.cells #[.bool p6, .slice a6 n6 e6, .slice y6 m6 d6] 40)).heap.size := VZ7.lt
      go_wp2_with (at_builtin; refine wpList_append_pure (Q' := IsLimb) rfl _ _ _ rfl (w.heap.size + 1) 40 (.agg #[.bool false, .slice none 0 0, .slice none 0 0]) 3 56 Tryd.underlying47 info_wrat rfl (by omega) (.slice ao i co) rfl i cs hown hpu ⟨w5.heap.size, 0, none⟩ 1 rfl [.bool p6, .slice a6 n6 e6, .slice y6 m6 d6] rfl (news_block (heap_alloc_new _ _)) (by simp [Value.oneCell']) (by simp [limb_bool, limb_slice]) (by simp [Value.cells, limb_bool, limb_slice]) (by omega) (by omega) hsz ?_)
      intro gN cN w8 ho5 hg5 hat5 hp5 hk5
      have OS8 : RsOw 3 (w.heap.size + 1) w8 (.slice (some ⟨gN, 0, none⟩) (i + 1) cN) ((List.range (i + 1)).map q) := by
        rw [List.range_succ, List.map_append]
        exact GOwn.more (rsEl 3) (m := 1) rfl (by rw [HLI.out]; exact ho5) (by rw [HLI.out]; exact hcl) (fun g hg => by cases hg; exact hp5) hk5 hall (rs_one R7)
      have VZ8 : V3 w8 w.heap.size (.bool pz) (.slice az nz cz) (.slice bz mz dz) := v3_blk13 VZ7 (hg5.block _ VZ7.lt (fun e => by have := (hown.lt _ e.symm).1; omega))
      have BB8 := below_grownB BB7 hg5 (by omega) (fun g hg => by have := (hown.lt g hg).1; omega)
      clear OS7 VZ7 BB7 hown hcl hpu hall hsz ho5 hg5 hat5 hp5 hk5 R7
      go_wp2
      go_roundw
      case rel => exact ⟨i + 1, by omega, by omega, by go_num, OS8, VZ8, BB8⟩
      case measure => simp [intOf]; omega
    · by_cases hn : i < n
      · have j1 : (i : Int) < (n : Int) := by omega
        have j2 : ¬ (i : Int) < 12 := by omega
        have j3 : decide ((i : Int) < 12) = false := decide_eq_false j2
        clear hn
        obtain ⟨l, hl⟩ : ∃ l, (List.range i).map q = l := ⟨_, rfl⟩
        rw [hl] at OS HLI
        clear hl hin
        have b4 : Below wr.heap.size wr (wr.alloc (.cells #[.bool false, .bool pz, .slice az nz cz, .slice bz mz dz] 49)) := (Below.refl _ _).alloc (Nat.le_refl _) _
        have CR := one_entry (ms := false) (p := pz) (HZ1.out.below BB) (HZ2.out.below BB) 3 49
        have OS4 := OS.below b4
        have VZ4 := VZ.below b4
        have BB4 := BB.trans (b4.mono BB.size)
        obtain ⟨z0, z1, z2, z3, z4, z5⟩ := id VZ
        clear b4 OS VZ BB z3 z4 z5
        go_wp2_with fail
        clear z0 z1 z2
        generalize wr.alloc (.cells #[.bool false, .bool pz, .slice az nz cz, .slice bz mz dz] 49) = W4 at *
        generalize wr.heap.size = R3 at *
        refine (few9_at _ 1 1 _ _ CR (by omega)).mono ?_
        rintro e w5 ⟨u, rfl, CO, b5⟩
        obtain ⟨zz, hzz⟩ : ∃ zz, mkRat (zof pz (num fz (min nz 3))) (num gz (min mz 3)) = zz := ⟨_, rfl⟩
        have CO1 : COwn W4.heap.size w5 u 1 (fun _ => ⟨false, mkRat (zof pz (num fz (min nz 3))) (num gz (min mz 3))⟩) 3 := CO
        rw [hzz] at CO1
        obtain ⟨b6, o6, c6, p6, a6, n6, e6, y6, m6, d6, hv6, hc6, hc63_, Z0, Z1, Z2, Z3, R6⟩ := CO1.row.at (i := 0) (by omega)
        subst hv6
        rw [Nat.zero_mul, Nat.add_zero] at Z0 Z1 Z2 Z3
        have R6 : RatAt w5 (.agg #[.bool p6, .slice a6 n6 e6, .slice y6 m6 d6]) zz 3 := R6
        replace OS4 := OS4.below b5
        replace VZ4 := VZ4.below b5
        replace BB4 := BB4.trans (b5.mono BB4.size)
        clear b5 CR CO CO1 Z0 hzz
        obtain ⟨z0, z1, z2, z3, z4, z5⟩ := id VZ4
        have hKp : KeepQ IsLimb w5 (((w5.setCell ⟨w.heap.size, 0, none⟩ (.bool p6)).setCell ⟨w.heap.size, 1, none⟩ (.slice a6 n6 e6)).setCell ⟨w.heap.size, 2, none⟩ (.slice y6 m6 d6)) := ((keepL_set z0 (limb_bool _) _).trans (keepL_set (cell_set_by (j := 0) z1 (by omega)) (limb_slice _ _ _) _)).trans (keepL_set (cell_set_by (j := 1) (cell_set_by (j := 0) z2 (by omega)) (by omega)) (limb_slice _ _ _) _)
        have hGr : w5.grownBy (((w5.setCell ⟨w.heap.size, 0, none⟩ (.bool p6)).setCell ⟨w.heap.size, 1, none⟩ (.slice a6 n6 e6)).setCell ⟨w.heap.size, 2, none⟩ (.slice y6 m6 d6)) (some w.heap.size) := ⟨rfl, rfl, rfl, by simp, fun k _ hk => by rw [Below.heap_setCell _ _ _ _ (fun e => hk (by rw [e])), Below.heap_setCell _ _ _ _ (fun e => hk (by rw [e])), Below.heap_setCell _ _ _ _ (fun e => hk (by rw [e]))]⟩
        have OS_n : RsOw 3 (w.heap.size + 1) (((w5.setCell ⟨w.heap.size, 0, none⟩ (.bool p6)).setCell ⟨w.heap.size, 1, none⟩ (.slice a6 n6 e6)).setCell ⟨w.heap.size, 2, none⟩ (.slice y6 m6 d6)) (.slice ao i co) l := GOwn.kept OS4 (rsEl 3) hGr hKp (.inr (fun e => by obtain ⟨cs, hown, _⟩ := GOwn.parts OS4; rw [HLI.out] at hown; have := (hown.lt _ e).1; omega))
        have VZ_n := VZ4.same (.bool p6) (.slice a6 n6 e6) (.slice y6 m6 d6)
        have R6_n := R6.keepL hKp
        have BB_n := below_store3 (R := w.heap.size) BB4 (Nat.le_refl _) (.bool p6) (.slice a6 n6 e6) (.slice y6 m6 d6)
        clear hKp hGr OS4 VZ4 R6 BB4
        go_wp2
        clear z0 z1 z2 z3 z4 z5 Z1 Z2 Z3
        generalize (((w5.setCell ⟨w.heap.size, 0, none⟩ (.bool p6)).setCell ⟨w.heap.size, 1, none⟩ (.slice a6 n6 e6)).setCell ⟨w.heap.size, 2, none⟩ (.slice y6 m6 d6)) = W6 at *
        have HQR : Hid (QRow W6 (.slice ao i co) i (fun j => l.getD j 0) 3) := by
          have h9 := RsOw.qrow OS_n
          rw [HLI.out] at h9
          exact h9
        have HZR : Hid (RatAt W6 (.agg #[.bool p6, .slice a6 n6 e6, .slice y6 m6 d6]) zz 3) := R6_n
        have HVZ : Hid (V3 W6 w.heap.size (.bool p6) (.slice a6 n6 e6) (.slice y6 m6 d6)) := VZ_n
        have HBB : Hid (Below w.heap.size w W6) := BB_n
        clear OS_n R6_n VZ_n BB_n
        obtain ⟨qq, hqq⟩ : ∃ qq : Nat → Rat, (fun j => l.getD j 0) = qq := ⟨_, rfl⟩
        rw [hqq] at HQR
        clear hqq HLI
        have BL := Below.refl W6.heap.size W6
        have h01 : atq qq zz 1 = 0 := by unfold atq; exact (by split <;> rfl)
        have H01 : Hid (atq qq zz 1 = 0) := h01
        clear h01
        go_loopw [7, 8] (fun va vj wr => ∃ (j A : Nat), 1 ≤ j ∧ (j ≤ i ∨ j = 1) ∧ vj = .int .i64 (j : Int) ∧ va = .int .i64 (A : Int) ∧ Hid (A = atq qq zz j) ∧ Below W6.heap.size W6 wr) (fun _ vj _ => i - (intOf vj).toNat)
        case atStart => exact ⟨1, 0, by omega, by omega, rfl, rfl, H01.out.symm, BL⟩
        case round =>
          clear BL
          obtain ⟨j, A, hj1, hji, rfl, rfl, HA, BB⟩ := hrel
          obtain ⟨z0, z1, z2, z3, z4, z5⟩ := HVZ.out.below BB
          clear z3 z4 z5
          by_cases hlt : j < i
          · have k0 : (0 : Int) ≤ (j : Int) := by omega
            have k1 : (j : Int) < (i : Int) := by omega
            have wj : IntKind.i64.wrap ((j : Int) + 1) = (j : Int) + 1 := by rw [IntKind.wrap_i64]; omega
            obtain ⟨b9, o9, c9, p9, a9, n9, e9, y9, m9, d9, hv9, hc9, Y0, Y1, Y2, R9⟩ := qrow_at13 HQR.out hlt
            cases hv9
            have K0 : Hid (Cel13 W6 b9 (o9 + j * 3) (.bool p9)) := ⟨Y0⟩
            have K1 : Hid (Cel13 W6 b9 (o9 + j * 3 + 1) (.slice a9 n9 e9)) := ⟨Y1⟩
            have K2 : Hid (Cel13 W6 b9 (o9 + j * 3 + 2) (.slice y9 m9 d9)) := ⟨Y2⟩
            have HR9 : Hid (RatAt W6 (.agg #[.bool p9, .slice a9 n9 e9, .slice y9 m9 d9]) (qq j) 3) := R9
            have HNX : Hid (atq qq zz (j + 1) = if qq j ≤ zz then j else atq qq zz j) := rfl
            clear Y0 Y1 Y2 R9 z0 z1 z2
            go_wp2
            have hDr : Below wr.heap.size wr wr.drew := (Below.refl _ _).drew
            replace BB := BB.trans (hDr.mono BB.size)
            clear hDr
            refine wp_region_held_drew (S := (fun w' => w'.cell? ⟨b9, o9 + j * 3, none⟩ = some (.bool p9) ∧ w'.cell? ⟨b9, o9 + j * 3 + 1, none⟩ = some (.slice a9 n9 e9) ∧ w'.cell? ⟨b9, o9 + j * 3 + 2, none⟩ = some (.slice y9 m9 d9) ∧ w'.cell? ⟨w.heap.size, 0, none⟩ = some (.bool p6) ∧ w'.cell? ⟨w.heap.size, 1, none⟩ = some (.slice a6 n6 e6) ∧ w'.cell? ⟨w.heap.size, 2, none⟩ = some (.slice y6 m6 d6))) (by kernel_rfl) ?_ (fun hHeld => ?_)
            · exact ⟨(K0.out.below BB).cell, (K1.out.below BB).cell, (K2.out.below BB).cell, (HVZ.out.below BB).1, (HVZ.out.below BB).2.1, (HVZ.out.below BB).2.2.1⟩
            generalize wr.drew = W81 at *
            refine wpAnyH_take (i := 0) (v := ?_) (by simp only [List.getElem?_toArray, List.getElem?_cons_succ, List.getElem?_cons_zero]; rfl) (by kernel_rfl) (by kernel_rfl) (by kernel_rfl) (by exact fun _ _ _ h => h) (Or.inl ⟨by rfl, ?_⟩) (by assumption) ?_
            rotate_left
            · (intro w hSw; (try dsimp only at hSw); go_simp; (try with_reducible rfl))
            (try simp only [Act.put, List.setIfInBounds_toArray, List.set_cons_zero, List.set_cons_succ])
            refine wpAnyH_take (i := 1) (v := ?_) (by simp only [List.getElem?_toArray, List.getElem?_cons_succ, List.getElem?_cons_zero]; rfl) (by kernel_rfl) (by kernel_rfl) (by kernel_rfl) (by exact fun _ _ _ h => h) (Or.inl ⟨by rfl, ?_⟩) (by assumption) ?_
            rotate_left
            · (intro w hSw; (try dsimp only at hSw); go_simp; (try with_reducible rfl))
            (try simp only [Act.put, List.setIfInBounds_toArray, List.set_cons_zero, List.set_cons_succ])
            refine wpAnyH_take (i := 2) (v := ?_) (by simp only [List.getElem?_toArray, List.getElem?_cons_succ, List.getElem?_cons_zero]; rfl) (by kernel_rfl) (by kernel_rfl) (by kernel_rfl) (by exact fun _ _ _ h => h) (Or.inl ⟨by rfl, ?_⟩) (by assumption) ?_
            rotate_left
            · (intro w hSw; (try dsimp only at hSw); go_simp; (try with_reducible rfl))
            (try simp only [Act.put, List.setIfInBounds_toArray, List.set_cons_zero, List.set_cons_succ])
            refine wpAnyH_take (i := 3) (v := ?_) (by simp only [List.getElem?_toArray, List.getElem?_cons_succ, List.getElem?_cons_zero]; rfl) (by kernel_rfl) (by kernel_rfl) (by kernel_rfl) (by exact fun _ _ _ h => h) (Or.inl ⟨by rfl, ?_⟩) (by assumption) ?_
            rotate_left
            · (intro w hSw; (try dsimp only at hSw); go_simp; (try with_reducible rfl))
            (try simp only [Act.put, List.setIfInBounds_toArray, List.set_cons_zero, List.set_cons_succ])
            refine wpAnyH_take (i := 4) (v := ?_) (by simp only [List.getElem?_toArray, List.getElem?_cons_succ, List.getElem?_cons_zero]; rfl) (by kernel_rfl) (by kernel_rfl) (by kernel_rfl) (by exact fun _ _ _ h => h) (Or.inl ⟨by rfl, ?_⟩) (by assumption) ?_
            rotate_left
            · (intro w hSw; (try dsimp only at hSw); go_simp; (try with_reducible rfl))
            (try simp only [Act.put, List.setIfInBounds_toArray, List.set_cons_zero, List.set_cons_succ])
            refine wpAnyH_ready (rs := [5]) (by kernel_rfl) (by simp) ?_
            refine AllReadyH.cons (by simp only [List.getElem?_toArray, List.getElem?_cons_succ, List.getElem?_cons_zero]; rfl) (fun K hK => ?_) AllReadyH.nil
            go_simp
            refine (qcmp_at _ _ (qq j) zz 3 _ (HR9.out.below BB) (HZR.out.below BB) (by omega) (by omega)).mono ?_
            rintro e w61 ⟨rfl, b61⟩
            have HC : Hid (decide (cmpQ (qq j) zz ≤ 0) = decide (qq j ≤ zz)) := cmpQ_le7 _ _
            obtain ⟨cq, hcq⟩ : ∃ cq, cmpQ (qq j) zz = cq := ⟨_, rfl⟩
            rw [hcq] at HC ⊢
            clear hcq
            go_wp2_with fail
            replace BB := BB.trans (b61.mono BB.size)
            clear b61
            refine hK.out _ _ ?_ (fun hH1 => ?_)
            · exact ⟨(K0.out.below BB).cell, (K1.out.below BB).cell, (K2.out.below BB).cell, (HVZ.out.below BB).1, (HVZ.out.below BB).2.1, (HVZ.out.below BB).2.2.1⟩
            clear hK K hHeld
            (try simp only [Act.put, List.setIfInBounds_toArray, List.set_cons_zero, List.set_cons_succ])
            refine wpAnyH_take (i := 6) (v := ?_) (by simp only [List.getElem?_toArray, List.getElem?_cons_succ, List.getElem?_cons_zero]; rfl) (by kernel_rfl) (by kernel_rfl) (by kernel_rfl) (by exact fun _ _ _ h => h) (Or.inl ⟨by rfl, ?_⟩) (by assumption) ?_
            rotate_left
            · (intro w hSw; (try dsimp only at hSw); go_simp; (try with_reducible rfl))
            (try simp only [Act.put, List.setIfInBounds_toArray, List.set_cons_zero, List.set_cons_succ])
            refine wpAnyH_done (by kernel_rfl) ?_ _
            clear hH1
            by_cases hle : qq j ≤ zz
            · have g2 : cq ≤ 0 := of_decide_eq_true (by rw [HC.out]; exact decide_eq_true hle)
              have HA2 : Hid (j = atq qq zz (j + 1)) := by show j = atq qq zz (j + 1); rw [HNX.out, if_pos hle]
              clear hle HC
              go_wp2
              go_roundw
              case rel => exact ⟨j + 1, j, by omega, by omega, by go_num, rfl, HA2, BB⟩
              case measure => simp [intOf]; omega
            · have g2 : 0 < cq := by have h9 : ¬ cq ≤ 0 := of_decide_eq_false (by rw [HC.out]; exact decide_eq_false hle); omega
              have HA2 : Hid (A = atq qq zz (j + 1)) := by show A = atq qq zz (j + 1); rw [HNX.out, if_neg hle]; exact HA.out
              clear hle HC
              go_wp2
              go_roundw
              case rel => exact ⟨j + 1, A, by omega, by omega, by go_num, rfl, HA2, BB⟩
              case measure => simp [intOf]; omega
          · have k1 : ¬ (j : Int) < (i : Int) := by omega
            have HAE : Hid (atq qq zz i = A) := by
              show atq qq zz i = A
              rw [HA.out]
              by_cases e0 : j = i
              · rw [e0]
              · have e1 : j = 1 := by omega
                have e2 : i = 0 := by omega
                rw [e1, e2, H01.out]
                rfl
            go_wp2_with fail
            clear z0 z1 z2
            refine (at13_at _ _ i qq zz 3 _ (HQR.out.below BB) (HZR.out.below BB) (by omega) (by omega) (by omega)).mono ?_
            rintro e w7 ⟨rfl, b7⟩
            rw [HAE.out]
            have BB7 := BB.trans (b7.mono BB.size)
            clear b7 BB
            go_wp2_with fail
            refine (awake13_at _ (HT0.out.below (HBB.out.trans (BB7.mono HBB.out.size)))).mono ?_
            rintro e w8 ⟨rfl, b8⟩
            have BB8 := BB7.trans (b8.mono BB7.size)
            go_wp2
            go_ret
            exact ⟨rfl, HBB.out.trans (BB8.mono HBB.out.size)⟩
      · have j1 : ¬ (i : Int) < (n : Int) := by omega
        have j3 : decide ((i : Int) < (n : Int)) = false := decide_eq_false j1
        have j4 : decide (i < n) = false := decide_eq_false hn
        clear hn
        obtain ⟨l, hl⟩ : ∃ l, (List.range i).map q = l := ⟨_, rfl⟩
        rw [hl] at OS HLI
        clear hl hin
        have b4 : Below wr.heap.size wr (wr.alloc (.cells #[.bool false, .bool pz, .slice az nz cz, .slice bz mz dz] 49)) := (Below.refl _ _).alloc (Nat.le_refl _) _
        have CR := one_entry (ms := false) (p := pz) (HZ1.out.below BB) (HZ2.out.below BB) 3 49
        have OS4 := OS.below b4
        have VZ4 := VZ.below b4
        have BB4 := BB.trans (b4.mono BB.size)
        obtain ⟨z0, z1, z2, z3, z4, z5⟩ := id VZ
        clear b4 OS VZ BB z3 z4 z5
        go_wp2_with fail
        clear z0 z1 z2
        generalize wr.alloc (.cells #[.bool false, .bool pz, .slice az nz cz, .slice bz mz dz] 49) = W4 at *
        generalize wr.heap.size = R3 at *
        refine (few9_at _ 1 1 _ _ CR (by omega)).mono ?_
        rintro e w5 ⟨u, rfl, CO, b5⟩
        obtain ⟨zz, hzz⟩ : ∃ zz, mkRat (zof pz (num fz (min nz 3))) (num gz (min mz 3)) = zz := ⟨_, rfl⟩
        have CO1 : COwn W4.heap.size w5 u 1 (fun _ => ⟨false, mkRat (zof pz (num fz (min nz 3))) (num gz (min mz 3))⟩) 3 := CO
        rw [hzz] at CO1
        obtain ⟨b6, o6, c6, p6, a6, n6, e6, y6, m6, d6, hv6, hc6, hc63_, Z0, Z1, Z2, Z3, R6⟩ := CO1.row.at (i := 0) (by omega)
        subst hv6
        rw [Nat.zero_mul, Nat.add_zero] at Z0 Z1 Z2 Z3
        have R6 : RatAt w5 (.agg #[.bool p6, .slice a6 n6 e6, .slice y6 m6 d6]) zz 3 := R6
        replace OS4 := OS4.below b5
        replace VZ4 := VZ4.below b5
        replace BB4 := BB4.trans (b5.mono BB4.size)
        clear b5 CR CO CO1 Z0 hzz
        obtain ⟨z0, z1, z2, z3, z4, z5⟩ := id VZ4
        have hKp : KeepQ IsLimb w5 (((w5.setCell ⟨w.heap.size, 0, none⟩ (.bool p6)).setCell ⟨w.heap.size, 1, none⟩ (.slice a6 n6 e6)).setCell ⟨w.heap.size, 2, none⟩ (.slice y6 m6 d6)) := ((keepL_set z0 (limb_bool _) _).trans (keepL_set (cell_set_by (j := 0) z1 (by omega)) (limb_slice _ _ _) _)).trans (keepL_set (cell_set_by (j := 1) (cell_set_by (j := 0) z2 (by omega)) (by omega)) (limb_slice _ _ _) _)
        have hGr : w5.grownBy (((w5.setCell ⟨w.heap.size, 0, none⟩ (.bool p6)).setCell ⟨w.heap.size, 1, none⟩ (.slice a6 n6 e6)).setCell ⟨w.heap.size, 2, none⟩ (.slice y6 m6 d6)) (some w.heap.size) := ⟨rfl, rfl, rfl, by simp, fun k _ hk => by rw [Below.heap_setCell _ _ _ _ (fun e => hk (by rw [e])), Below.heap_setCell _ _ _ _ (fun e => hk (by rw [e])), Below.heap_setCell _ _ _ _ (fun e => hk (by rw [e]))]⟩
        have OS_n : RsOw 3 (w.heap.size + 1) (((w5.setCell ⟨w.heap.size, 0, none⟩ (.bool p6)).setCell ⟨w.heap.size, 1, none⟩ (.slice a6 n6 e6)).setCell ⟨w.heap.size, 2, none⟩ (.slice y6 m6 d6)) (.slice ao i co) l := GOwn.kept OS4 (rsEl 3) hGr hKp (.inr (fun e => by obtain ⟨cs, hown, _⟩ := GOwn.parts OS4; rw [HLI.out] at hown; have := (hown.lt _ e).1; omega))
        have VZ_n := VZ4.same (.bool p6) (.slice a6 n6 e6) (.slice y6 m6 d6)
        have R6_n := R6.keepL hKp
        have BB_n := below_store3 (R := w.heap.size) BB4 (Nat.le_refl _) (.bool p6) (.slice a6 n6 e6) (.slice y6 m6 d6)
        clear hKp hGr OS4 VZ4 R6 BB4
        go_wp2
        clear z0 z1 z2 z3 z4 z5 Z1 Z2 Z3
        generalize (((w5.setCell ⟨w.heap.size, 0, none⟩ (.bool p6)).setCell ⟨w.heap.size, 1, none⟩ (.slice a6 n6 e6)).setCell ⟨w.heap.size, 2, none⟩ (.slice y6 m6 d6)) = W6 at *
        have HQR : Hid (QRow W6 (.slice ao i co) i (fun j => l.getD j 0) 3) := by
          have h9 := RsOw.qrow OS_n
          rw [HLI.out] at h9
          exact h9
        have HZR : Hid (RatAt W6 (.agg #[.bool p6, .slice a6 n6 e6, .slice y6 m6 d6]) zz 3) := R6_n
        have HVZ : Hid (V3 W6 w.heap.size (.bool p6) (.slice a6 n6 e6) (.slice y6 m6 d6)) := VZ_n
        have HBB : Hid (Below w.heap.size w W6) := BB_n
        clear OS_n R6_n VZ_n BB_n
        obtain ⟨qq, hqq⟩ : ∃ qq : Nat → Rat, (fun j => l.getD j 0) = qq := ⟨_, rfl⟩
        rw [hqq] at HQR
        clear hqq HLI
        have BL := Below.refl W6.heap.size W6
        have h01 : atq qq zz 1 = 0 := by unfold atq; exact (by split <;> rfl)
        have H01 : Hid (atq qq zz 1 = 0) := h01
        clear h01
        go_loopw [7, 8] (fun va vj wr => ∃ (j A : Nat), 1 ≤ j ∧ (j ≤ i ∨ j = 1) ∧ vj = .int .i64 (j : Int) ∧ va = .int .i64 (A : Int) ∧ Hid (A = atq qq zz j) ∧ Below W6.heap.size W6 wr) (fun _ vj _ => i - (intOf vj).toNat)
        case atStart => exact ⟨1, 0, by omega, by omega, rfl, rfl, H01.out.symm, BL⟩
        case round =>
          clear BL
          obtain ⟨j, A, hj1, hji, rfl, rfl, HA, BB⟩ := hrel
          obtain ⟨z0, z1, z2, z3, z4, z5⟩ := HVZ.out.below BB
          clear z3 z4 z5
          by_cases hlt : j < i
          · have k0 : (0 : Int) ≤ (j : Int) := by omega
            have k1 : (j : Int) < (i : Int) := by omega
            have wj : IntKind.i64.wrap ((j : Int) + 1) = (j : Int) + 1 := by rw [IntKind.wrap_i64]; omega
            obtain ⟨b9, o9, c9, p9, a9, n9, e9, y9, m9, d9, hv9, hc9, Y0, Y1, Y2, R9⟩ := qrow_at13 HQR.out hlt
            cases hv9
            have K0 : Hid (Cel13 W6 b9 (o9 + j * 3) (.bool p9)) := ⟨Y0⟩
            have K1 : Hid (Cel13 W6 b9 (o9 + j * 3 + 1) (.slice a9 n9 e9)) := ⟨Y1⟩
            have K2 : Hid (Cel13 W6 b9 (o9 + j * 3 + 2) (.slice y9 m9 d9)) := ⟨Y2⟩
            have HR9 : Hid (RatAt W6 (.agg #[.bool p9, .slice a9 n9 e9, .slice y9 m9 d9]) (qq j) 3) := R9
            have HNX : Hid (atq qq zz (j + 1) = if qq j ≤ zz then j else atq qq zz j) := rfl
            clear Y0 Y1 Y2 R9 z0 z1 z2
            go_wp2
            have hDr : Below wr.heap.size wr wr.drew := (Below.refl _ _).drew
            replace BB := BB.trans (hDr.mono BB.size)
            clear hDr
            refine wp_region_held_drew (S := (fun w' => w'.cell? ⟨b9, o9 + j * 3, none⟩ = some (.bool p9) ∧ w'.cell? ⟨b9, o9 + j * 3 + 1, none⟩ = some (.slice a9 n9 e9) ∧ w'.cell? ⟨b9, o9 + j * 3 + 2, none⟩ = some (.slice y9 m9 d9) ∧ w'.cell? ⟨w.heap.size, 0, none⟩ = some (.bool p6) ∧ w'.cell? ⟨w.heap.size, 1, none⟩ = some (.slice a6 n6 e6) ∧ w'.cell? ⟨w.heap.size, 2, none⟩ = some (.slice y6 m6 d6))) (by kernel_rfl) ?_ (fun hHeld => ?_)
            · exact ⟨(K0.out.below BB).cell, (K1.out.below BB).cell, (K2.out.below BB).cell, (HVZ.out.below BB).1, (HVZ.out.below BB).2.1, (HVZ.out.below BB).2.2.1⟩
            generalize wr.drew = W81 at *
            refine wpAnyH_take (i := 0) (v := ?_) (by simp only [List.getElem?_toArray, List.getElem?_cons_succ, List.getElem?_cons_zero]; rfl) (by kernel_rfl) (by kernel_rfl) (by kernel_rfl) (by exact fun _ _ _ h => h) (Or.inl ⟨by rfl, ?_⟩) (by assumption) ?_
            rotate_left
            · (intro w hSw; (try dsimp only at hSw); go_simp; (try with_reducible rfl))
            (try simp only [Act.put, List.setIfInBounds_toArray, List.set_cons_zero, List.set_cons_succ])
            refine wpAnyH_take (i := 1) (v := ?_) (by simp only [List.getElem?_toArray, List.getElem?_cons_succ, List.getElem?_cons_zero]; rfl) (by kernel_rfl) (by kernel_rfl) (by kernel_rfl) (by exact fun _ _ _ h => h) (Or.inl ⟨by rfl, ?_⟩) (by assumption) ?_
            rotate_left
            · (intro w hSw; (try dsimp only at hSw); go_simp; (try with_reducible rfl))
            (try simp only [Act.put, List.setIfInBounds_toArray, List.set_cons_zero, List.set_cons_succ])
            refine wpAnyH_take (i := 2) (v := ?_) (by simp only [List.getElem?_toArray, List.getElem?_cons_succ, List.getElem?_cons_zero]; rfl) (by kernel_rfl) (by kernel_rfl) (by kernel_rfl) (by exact fun _ _ _ h => h) (Or.inl ⟨by rfl, ?_⟩) (by assumption) ?_
            rotate_left
            · (intro w hSw; (try dsimp only at hSw); go_simp; (try with_reducible rfl))
            (try simp only [Act.put, List.setIfInBounds_toArray, List.set_cons_zero, List.set_cons_succ])
            refine wpAnyH_take (i := 3) (v := ?_) (by simp only [List.getElem?_toArray, List.getElem?_cons_succ, List.getElem?_cons_zero]; rfl) (by kernel_rfl) (by kernel_rfl) (by kernel_rfl) (by exact fun _ _ _ h => h) (Or.inl ⟨by rfl, ?_⟩) (by assumption) ?_
            rotate_left
            · (intro w hSw; (try dsimp only at hSw); go_simp; (try with_reducible rfl))
            (try simp only [Act.put, List.setIfInBounds_toArray, List.set_cons_zero, List.set_cons_succ])
            refine wpAnyH_take (i := 4) (v := ?_) (by simp only [List.getElem?_toArray, List.getElem?_cons_succ, List.getElem?_cons_zero]; rfl) (by kernel_rfl) (by kernel_rfl) (by kernel_rfl) (by exact fun _ _ _ h => h) (Or.inl ⟨by rfl, ?_⟩) (by assumption) ?_
            rotate_left
            · (intro w hSw; (try dsimp only at hSw); go_simp; (try with_reducible rfl))
            (try simp only [Act.put, List.setIfInBounds_toArray, List.set_cons_zero, List.set_cons_succ])
            refine wpAnyH_ready (rs := [5]) (by kernel_rfl) (by simp) ?_
            refine AllReadyH.cons (by simp only [List.getElem?_toArray, List.getElem?_cons_succ, List.getElem?_cons_zero]; rfl) (fun K hK => ?_) AllReadyH.nil
            go_simp
            refine (qcmp_at _ _ (qq j) zz 3 _ (HR9.out.below BB) (HZR.out.below BB) (by omega) (by omega)).mono ?_
            rintro e w61 ⟨rfl, b61⟩
            have HC : Hid (decide (cmpQ (qq j) zz ≤ 0) = decide (qq j ≤ zz)) := cmpQ_le7 _ _
            obtain ⟨cq, hcq⟩ : ∃ cq, cmpQ (qq j) zz = cq := ⟨_, rfl⟩
            rw [hcq] at HC ⊢
            clear hcq
            go_wp2_with fail
            replace BB := BB.trans (b61.mono BB.size)
            clear b61
            refine hK.out _ _ ?_ (fun hH1 => ?_)
            · exact ⟨(K0.out.below BB).cell, (K1.out.below BB).cell, (K2.out.below BB).cell, (HVZ.out.below BB).1, (HVZ.out.below BB).2.1, (HVZ.out.below BB).2.2.1⟩
            clear hK K hHeld
            (try simp only [Act.put, List.setIfInBounds_toArray, List.set_cons_zero, List.set_cons_succ])
            refine wpAnyH_take (i := 6) (v := ?_) (by simp only [List.getElem?_toArray, List.getElem?_cons_succ, List.getElem?_cons_zero]; rfl) (by kernel_rfl) (by kernel_rfl) (by kernel_rfl) (by exact fun _ _ _ h => h) (Or.inl ⟨by rfl, ?_⟩) (by assumption) ?_
            rotate_left
            · (intro w hSw; (try dsimp only at hSw); go_simp; (try with_reducible rfl))
            (try simp only [Act.put, List.setIfInBounds_toArray, List.set_cons_zero, List.set_cons_succ])
            refine wpAnyH_done (by kernel_rfl) ?_ _
            clear hH1
            by_cases hle : qq j ≤ zz
            · have g2 : cq ≤ 0 := of_decide_eq_true (by rw [HC.out]; exact decide_eq_true hle)
              have HA2 : Hid (j = atq qq zz (j + 1)) := by show j = atq qq zz (j + 1); rw [HNX.out, if_pos hle]
              clear hle HC
              go_wp2
              go_roundw
              case rel => exact ⟨j + 1, j, by omega, by omega, by go_num, rfl, HA2, BB⟩
              case measure => simp [intOf]; omega
            · have g2 : 0 < cq := by have h9 : ¬ cq ≤ 0 := of_decide_eq_false (by rw [HC.out]; exact decide_eq_false hle); omega
              have HA2 : Hid (A = atq qq zz (j + 1)) := by show A = atq qq zz (j + 1); rw [HNX.out, if_neg hle]; exact HA.out
              clear hle HC
              go_wp2
              go_roundw
              case rel => exact ⟨j + 1, A, by omega, by omega, by go_num, rfl, HA2, BB⟩
              case measure => simp [intOf]; omega
          · have k1 : ¬ (j : Int) < (i : Int) := by omega
            have HAE : Hid (atq qq zz i = A) := by
              show atq qq zz i = A
              rw [HA.out]
              by_cases e0 : j = i
              · rw [e0]
              · have e1 : j = 1 := by omega
                have e2 : i = 0 := by omega
                rw [e1, e2, H01.out]
                rfl
            go_wp2_with fail
            clear z0 z1 z2
            refine (at13_at _ _ i qq zz 3 _ (HQR.out.below BB) (HZR.out.below BB) (by omega) (by omega) (by omega)).mono ?_
            rintro e w7 ⟨rfl, b7⟩
            rw [HAE.out]
            have BB7 := BB.trans (b7.mono BB.size)
            clear b7 BB
            go_wp2_with fail
            refine (awake13_at _ (HT0.out.below (HBB.out.trans (BB7.mono HBB.out.size)))).mono ?_
            rintro e w8 ⟨rfl, b8⟩
            have BB8 := BB7.trans (b8.mono BB7.size)
            go_wp2
            go_ret
            exact ⟨rfl, HBB.out.trans (BB8.mono HBB.out.size)⟩
theorem own : ownKnob Tryd.prog.godebug = none := by kernel_rfl
theorem laidOut : laidOutB Tryd.prog = true := by kernel_rfl

abbrev laid1 : List (String × DataW Unit) := [("math/bits.deBruijn64tab", Rows.laid_math_bits_deBruijn64tab)]
theorem gTab : Tryd.prog.globalNamed "math/bits.deBruijn64tab" = some 0 := by kernel_rfl
theorem gTabType : (Tryd.prog.globals[0]?).map (·.type) = some 126 := by kernel_rfl
theorem uTab : Tryd.prog.underlying 126 = some (.array 64 5) := by kernel_rfl
theorem uCell : Tryd.prog.underlying 5 = some (.int .u8) := by kernel_rfl
theorem cCell : Tryd.prog.cellsOf 5 = 1 := by kernel_rfl
theorem cTab : Tryd.prog.cellsOf 126 = 64 := by kernel_rfl
/-- The listed table lies in its cells. -/
theorem tab_of {W : World} (h : laidMetH Tryd.prog laid1 W) : Tab W := by
  rw [MakeChecks.laidMetH_plain _ _ _ (by kernel_rfl)] at h
  have hd : laid1 = [("math/bits.deBruijn64tab", Lib.tabData .u8 (Lib.deBruijn64tab.map fun (n : Nat) => Int.ofNat n))] := rfl
  rw [hd] at h
  have hT := Lib.tabIs_of_head gTab gTabType uTab uCell cCell cTab h
  intro i hi
  have hc := hT.cell gTab i (by rw [List.length_map]; exact hi)
  rw [hc]
  congr 2
  rw [List.getD_eq_getElem?_getD, List.getElem?_map, List.getD_eq_getElem?_getD]
  cases Lib.deBruijn64tab[i]? <;> rfl
/-- A start for the witness: the heap that the run of the program's own initialisers leaves. -/
noncomputable def startW (os : Os) : World := { World.holding Tryd.prog os ⟨#[], #[], []⟩ with heap := (varsWorld Tryd.prog 400 (varsId Tryd.prog) os (fun _ _ => 0)).heap }
theorem start_met (os : Os) (args : Array Value) : laidMetH Tryd.prog laid1 ((startW os).forCall (fun _ _ => 0) ⟨#[], args, []⟩).memory :=
  laidMetH_of_parts3 (fuel := 8) (laidMet_of_run' 8 (by kernel_rfl) (by kernel_rfl)) (by kernel_rfl) (by kernel_rfl)

set_option maxRecDepth 100000 in
theorem lifted (os : Os) (started : os.Started) (H : Type) (enc : TypeId × Value → H) :
    ReturnsInHanded {} Tryd.checked os 4 .any (fun w args => (Rows.dependPlacesSpec.pre enc Tryd.prog Tryd.f4 [] false w args ∧ laidMetH Tryd.prog laid1 w) ∧ sizedMet enc Tryd.prog Tryd.f4 (OpenSpec.ofChange Rows.dependPlacesSpec) false w args) (Rows.dependPlacesSpec.post enc Tryd.prog Tryd.f4 false true false false) := by
  refine returnsInHanded_of_change_and (C := Tryd.checked) (X := fun w _ => laidMetH Tryd.prog laid1 w) (fun _ _ _ hh h => h.of_heap hh) own started (by kernel_rfl) Tryd.func4
    (ChangeSpec.witness_shaped (enc := enc) (C := Tryd.checked) (os := os) (X := fun w _ => laidMetH Tryd.prog laid1 w) false (startW os) #[.slice none 0 0, .agg #[.bool false, .slice none 0 0, .slice none 0 0]] 8 rfl (World.shaped_of_RefB (by kernel_rfl) (by kernel_rfl)) (by kernel_rfl) (by kernel_rfl) (by kernel_rfl) (start_met os _)) ?_
  intro W base args ds gs before hval0 hW _ _ hL _
  have hval : ∀ (j : Nat) t v, Tryd.f4.params[j]? = some t → args[j]? = some v → Value.okWide Tryd.prog W .any base t v := hval0
  have hW' := hW
  obtain ⟨p, q, hA0, hV, rfl, hfz, hnd⟩ := hW
  have hA : DataW.TrodAll enc Tryd.prog W 0 (fun _ => true) true Tryd.f4.params.toList args.toList ds p := hA0
  rw [Tryd.params4] at hA hval
  obtain ⟨v0, vs0, d0, ds0, p0, q0, hargs, rfl, rfl, h0, r0⟩ := trodAll_cons hA
  obtain ⟨v1, vs1, d1, ds1, p1, q1, rfl, rfl, rfl, h1, r1⟩ := trodAll_cons r0
  obtain ⟨rfl, rfl, rfl⟩ := trodAll_nil r1
  obtain rfl : args = #[v0, v1] := by cases args; simp_all
  obtain ⟨rfl, rfl⟩ := trodVars_none hV
  have k0 := h0
  have lt0 : ∀ x ∈ p0, x.block < W.heap.size := by obtain ⟨m, hm⟩ := k0; exact DataW.trod_lt m _ _ _ hm
  obtain ⟨n0, z0, w0⟩ := open_wrats KLIST (hval 0 47 v0 rfl rfl) h0
  have k1 := h1
  have lt1 : ∀ x ∈ p1, x.block < W.heap.size := by obtain ⟨m, hm⟩ := k1; exact DataW.trod_lt m _ _ _ hm
  obtain ⟨neg1, ao1, n1, c1, bo1, m1, d1, f1, g1, rfl, w1, x1⟩ := open_wrat (hval 1 40 v1 rfl rfl) h1
  clear hA0 hval0
  refine (walk _ _ _ _ _ _ _ _ _ _ _ _ W w0 w1 x1 (tab_of hL)).mono fun e W' ⟨he, bel⟩ => ?_
  subst he
  exact ⟨_, rfl, _, _, _, [], _, [], hW', trodAll_mk1 (shut_bool Tryd.underlying4 _), (trodAll_cons_mk (Below.trod laidOut (by kernel_rfl) (of_decide_eq_true (by kernel_rfl)) k0 bel lt0) (trodAll_cons_mk (Below.trod laidOut (by kernel_rfl) (of_decide_eq_true (by kernel_rfl)) k1 bel lt1) trodAll_mk0)), rfl, bel.frame _, fun h => by cases h⟩

theorem over : Rows.dependPlacesRow.holds Tryd.pinned (OpenSpec.ofChange Rows.dependPlacesSpec) :=
  OpenClaim.holds_of_wide 4 Tryd.f4 rfl rfl rfl rfl rfl rfl rfl ⟨rfl, rfl, rfl, rfl, rfl⟩ rfl rfl rfl rfl rfl (by kernel_rfl) Tryd.func4 (by kernel_rfl)
    (of_decide_eq_true (by kernel_rfl)) (by unfold Func.isWrapper; first | (rw [if_pos (by decide +kernel)]; kernel_rfl) | (rw [if_neg (by decide +kernel)]; exact ⟨rfl, rfl⟩))
    (fun os started H enc _ => lifted os started H enc)

end Go.Proofs.YtgddiimnpliolaaDoor.dependPlaces
namespace Go.Proofs.YtgddiimnpliolaaDoor
/-- The statement: the row, tied to the text of the program. -/
theorem dependPlaces_holds : Rows.DependPlacesCardSaid :=
  Claim7.holds_tied_plain_at .later [] [.data] true (true, "456af802cdee95ae23ed01af2acc19d58be20befe2c00b4fb431ef1b1445b6f4") false
    dependPlaces.over (fun _ h => by cases h) (by kernel_rfl) (fun _ h => by cases h) dependPlaces_row_tie rfl ⟨rfl, rfl⟩ (by kernel_rfl) rfl
    (fun f fn hf hfn => by
      obtain rfl : f = 4 := Option.some.inj ((show Tryd.prog.funcNamed "dendron/dendronlaw13.DependPlaces" = some 4 by kernel_rfl).symm.trans hf) |>.symm
      obtain rfl : fn = Tryd.f4 := (Option.some.inj (Tryd.func4.symm.trans hfn)).symm
      exact ⟨by kernel_rfl, fun j t ht => by
        rw [Tryd.params4] at ht
        have hm : t ∈ [47, 40] := by simpa using Array.mem_of_getElem? ht
        have hall : ([47, 40].all fun u => !Tryd.prog.wantsStandIn u) = true := by kernel_rfl
        exact (show Tryd.prog.wantsStandIn t = false by simpa using List.all_eq_true.1 hall t hm)⟩)
    (by kernel_rfl)
end Go.Proofs.YtgddiimnpliolaaDoor
