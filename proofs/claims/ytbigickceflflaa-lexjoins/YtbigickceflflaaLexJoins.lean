/-
  Proves that words with blanks between them are just these words (the statement LexJoins); no condition.
-/
import Derived.Test.YtbigickceflflaaRows
import Derived.Test.YtbigickceflflaaJ7bfa9fac4e
import Derived.WalkKit
import Derived.ProofKit
import Derived.OpenShut
import Derived.ShutString
import Derived.ChangeOld
import Derived.Below
namespace Go.Proofs.Ytbigickceflflaa.lexJoins
open Go.ChangeShapes Go.WideShapes Go.ChangeAt Go.RowKit
open Go.ChangeMaps (open_string shut_string)
set_option linter.unusedVariables false
set_option linter.unusedSimpArgs false

theorem okW_mk {W : ByteArray} (h1 : 0 < W.size) (h2 : W.size ≤ 40) (h3 : ∀ i, i < W.size → inW (bt W i) = true) : okW W = true := by simp only [okW, decide_eq_true_eq]; exact ⟨h1, h2, h3⟩
theorem isEmpty_no {W : ByteArray} (h : ¬ W.size = 0) : W.toList.isEmpty = false := by
  rw [Lib.toList_data]
  have h' : ¬ W.data.toList.length = 0 := by simpa using h
  cases hd : W.data.toList with
  | nil => rw [hd] at h'; exact absurd rfl h'
  | cons x l => rfl
theorem isEmpty_yes {W : ByteArray} (h : W.size = 0) : W.toList.isEmpty = true := by
  rw [Lib.toList_data]
  have h' : W.data.toList.length = 0 := by simpa using h
  cases hd : W.data.toList with
  | nil => rfl
  | cons x l => rw [hd] at h'; cases h'
theorem isEmpty_iff {W : ByteArray} : W.toList = [] ↔ W.toList.isEmpty = true := by cases W.toList <;> simp
theorem owns_slice1 {B k N : Nat} {e : TypeId} {w : World} {v : Value} {us : List Value} (h : w.ownsRow B e k v N us) : ∃ ao c, v = .slice ao N c ∧ w.ownsRow B e k (.slice ao N c) N us ∧ (0 < N → ∃ g, ao = some ⟨g, 0, none⟩) := by
  have hh := h
  rcases h.2 with ⟨h1, h2⟩ | ⟨g, cap, cur, h1, hb, hg, hnc, hcm, rest⟩
  · subst h1; subst h2; exact ⟨none, 0, rfl, hh, fun h => by omega⟩
  · subst h1; exact ⟨_, cap, rfl, hh, fun _ => ⟨g, rfl⟩⟩
/-- A slice of these texts, of the call's own. -/
def SOwn (B : Nat) (w : World) (v : Value) (al : List ByteArray) : Prop := w.ownsRow B 9 1 v al.length (al.map Value.string)
theorem info_str : (Try.prog.info? 9).map (fun i => (i.zero, i.size, i.bytes)) = some (some (.string ByteArray.empty), 1, 16) := by kernel_rfl

set_option maxRecDepth 100000 in
set_option maxHeartbeats 8000000 in
theorem walk (v1 : Value) (n : Nat) (f : Nat → ByteArray) (v2 : Value) (m : Nat) (z : Nat → Int) (w : World) (h1 : StrsIn w v1 n f) (h2 : BytesIn w v2 m z) :
    Calls Try.prog 5 #[v1, v2] w fun e w' => e = .returned (.bool true) ∧ Below w.heap.size w w' := by
  obtain ⟨ao, c, rfl, hnc, hcm, hfs, hrow⟩ := h1
  obtain ⟨bo, d, rfl, hmd, hdm, hzs, hrow2⟩ := h2
  have HF : Hid (∀ i, i < n → (f i).size ≤ maxLen) := hfs
  have HR : Hid (0 < n → ∃ b off, ao = some ⟨b, off, none⟩ ∧ ∀ i, i < n → w.cell? ⟨b, off + i, none⟩ = some (.string (f i))) := hrow
  have HZ : Hid (∀ i, i < m → 0 ≤ z i ∧ z i < 256) := hzs
  have HR2 : Hid (0 < m → ∃ b off, bo = some ⟨b, off, none⟩ ∧ Cells w .u8 b off m z) := hrow2
  unfold maxLen at hcm hdm
  clear hfs hrow hzs hrow2
  go_enter Try.func5, Try.ntmps5
  go_wp2
  go_loopw [5, 6, 7] (fun s v i wr => ∃ (k : Nat) (S : ByteArray) (al : List ByteArray) (ps : List (Nat × Nat)), k ≤ 60 ∧ k ≤ n ∧ al.length ≤ k ∧ i = .int .i64 (k : Int) ∧ s = .string S ∧ SOwn w.heap.size wr v al ∧ Below w.heap.size w wr ∧ Hid (Joined S al ps)) (fun _ _ i _ => 60 - (intOf i).toNat)
  case atStart => exact ⟨0, ByteArray.empty, [], [], by omega, by omega, by simp, rfl, rfl, World.ownsRow_nil _ _ _ _, Below.refl _ _, joined_nil⟩
  case round =>
    obtain ⟨k, S, al, ps, hk60, hkn, hal, rfl, rfl, ho, BB, HJ⟩ := hrel
    by_cases hlt : k < n ∧ k < 60
    · obtain ⟨hlt1, hlt2⟩ := hlt
      have i1 : (k : Int) < (n : Int) := by omega
      have i2 : (k : Int) < 60 := by omega
      obtain ⟨b, off, rfl, hcells⟩ := HR.out (by omega)
      have hcell : wr.cell? ⟨b, off + k, none⟩ = some (.string (f k)) := (BB.cell (World.block_lt_of_cell? w _ (hcells k hlt1))).trans (hcells k hlt1)
      have hWs := HF.out k hlt1
      unfold maxLen at hWs
      clear hcells
      generalize f k = W at *
      by_cases h0 : W.size = 0
      · have he := isEmpty_yes h0
        have he2 := isEmpty_iff.2 he
        have h0i : ¬ (0 : Int) < (W.size : Int) := by omega
        go_wp2
        refine wp_loop_rounds 1 ?_
        rw [rounds_succ]
        go_wp2
        go_roundw
        case rel => exact ⟨k + 1, S, al, ps, by omega, by omega, by omega, by go_num, rfl, ho, BB, HJ⟩
        case measure => simp [intOf]; omega
      · have he := isEmpty_no h0
        have he2 : ¬ W.toList = [] := by rw [isEmpty_iff, he]; decide
        by_cases h40 : W.size ≤ 40
        · have h40i : (W.size : Int) ≤ 40 := by omega
          obtain ⟨w0, rfl⟩ : ∃ w0, w0 = wr := ⟨_, rfl⟩
          go_wp2
          go_loop [8, 9] (fun o q => ∃ (j : Nat) (okb : Bool), j ≤ W.size ∧ o = .bool okb ∧ q = .int .i64 (j : Int) ∧ Hid (okb = true → ∀ x, x < j → inW (bt W x) = true)) (fun o q => W.size - (intOf q).toNat)
          case atStart => exact ⟨0, true, by omega, by simp, rfl, fun _ x hx => by omega⟩
          case round =>
            obtain ⟨j, okb, hj, rfl, rfl, HI⟩ := hrel
            cases okb with
            | false =>
              by_cases hjl : j < W.size
              · have hji : (j : Int) < (W.size : Int) := by omega
                go_wp2
                go_roundw
                case rel => exact ⟨k + 1, S, al, ps, by omega, by omega, by omega, by go_num, rfl, ho, BB, HJ⟩
                case measure => simp [intOf]; omega
              · have hji : ¬ (j : Int) < (W.size : Int) := by omega
                have hjb : decide ((j : Int) < (W.size : Int)) = false := decide_eq_false hji
                have hjc : decide (j < W.size) = false := decide_eq_false hjl
                go_wp2
                go_roundw
                case rel => exact ⟨k + 1, S, al, ps, by omega, by omega, by omega, by go_num, rfl, ho, BB, HJ⟩
                case measure => simp [intOf]; omega
            | true =>
              by_cases hjl : j < W.size
              · have hji : (j : Int) < (W.size : Int) := by omega
                have hb := bt_at W j hjl
                cases hw : inW (bt W j) with
                | true =>
                  have HI2 : Hid (∀ x, x < j + 1 → inW (bt W x) = true) := fun x hx => by
                    by_cases e : x = j
                    · subst e; exact hw
                    · exact HI.out rfl x (by omega)
                  rw [hb] at hw
                  clear hb
                  go_wp2_with (go_at_call 14; refine (jinw_at _ _).mono ?_; rintro e w' ⟨rfl, hw'⟩; replace hw' := hw'.symm; subst hw'; rw [hw])
                  go_round
                  case rel => exact ⟨j + 1, true, by omega, rfl, by go_num, fun _ => HI2.out⟩
                  case measure => simp [intOf]; omega
                | false =>
                  rw [hb] at hw
                  clear hb
                  go_wp2_with (go_at_call 14; refine (jinw_at _ _).mono ?_; rintro e w' ⟨rfl, hw'⟩; replace hw' := hw'.symm; subst hw'; rw [hw])
                  go_round
                  case rel => exact ⟨j + 1, false, by omega, rfl, by go_num, fun h => by cases h⟩
                  case measure => simp [intOf]; omega
              · have HOK : Hid (okW W = true) := okW_mk (by omega) h40 (fun x hx => HI.out rfl x (by omega))
                have hji : ¬ (j : Int) < (W.size : Int) := by omega
                have hjb : decide ((j : Int) < (W.size : Int)) = false := decide_eq_false hji
                have hjc : decide (j < W.size) = false := decide_eq_false hjl
                have hSz : S.size ≤ 2600 := by have := HJ.out.size; omega
                clear HI
                obtain ⟨wr, rfl⟩ : ∃ wr, wr = w0 := ⟨_, rfl⟩
                have ho2 : wr.ownsRow w.heap.size 9 1 _ al.length (al.map Value.string) := ho
                obtain ⟨so, sc, rfl, so2, _⟩ := owns_slice1 ho2
                clear ho ho2
                by_cases hb1 : k < m
                · have hb1i : (k : Int) < (m : Int) := by omega
                  obtain ⟨b2, off2, rfl, hc2⟩ := HR2.out (by omega)
                  have hcb : wr.cell? ⟨b2, off2 + k, none⟩ = some (.int .u8 (z k)) := (BB.cell (World.block_lt_of_cell? w _ (hc2 k hb1))).trans (hc2 k hb1)
                  obtain ⟨hz1, hz2⟩ := HZ.out k hb1
                  clear hc2
                  generalize z k = y at *
                  by_cases y1 : y % 3 = 1
                  · have y2 : ((y % 3) == 2) = false := by simp; omega
                    have HJ2 : Hid (Joined (S ++ { data := #[9] } ++ W) (al ++ [W]) (ps ++ [(S.size + ByteArray.size { data := #[9] }, S.size + ByteArray.size { data := #[9] } + W.size)])) := HJ.out.step okB_tab HOK.out (by omega)
                    go_wp2_with (at_builtin; refine wpList_append_pure (Q' := fun _ => False) rfl _ _ _ rfl w.heap.size 9 (.string ByteArray.empty) 1 16 Try.underlying33 info_str rfl (by omega) (.slice so al.length sc) rfl al.length (al.map Value.string) (so2.alloc _) (fun _ _ _ _ _ h => h) ⟨wr.heap.size, 0, none⟩ 1 rfl [.string W] rfl (news_block (heap_alloc_new _ _)) (by simp [Value.oneCell']) (by simp) (by simp) (by omega) (by omega) (by have := BB.size; simp; omega) ?_)
                    intro g5 cap5 w5 ho5 hg5 hat5 hp5 hk5
                    have B5 : Below w.heap.size w w5 := below_grownB (BB.alloc BB.size _) hg5 (by have := BB.size; simp; omega) (fun g0 hg0 => (so2.lt g0 hg0).1)
                    have E5 : SOwn w.heap.size w5 (.slice (some ⟨g5, 0, none⟩) (al.length + 1) cap5) (al ++ [W]) := by unfold SOwn; rw [List.length_append, List.map_append]; exact ho5
                    clear ho5 hg5 hat5 hp5 hk5 BB so2
                    go_wp2
                    go_roundw
                    case rel => exact ⟨k + 1, _, al ++ [W], _, by omega, by omega, by simp; omega, by go_num, rfl, E5, B5, HJ2.out⟩
                    case measure => simp [intOf]; omega
                  · have y1b : ((y % 3) == 1) = false := by simp; omega
                    by_cases y2 : y % 3 = 2
                    · have HJ2 : Hid (Joined (S ++ { data := #[32, 13, 32] } ++ W) (al ++ [W]) (ps ++ [(S.size + ByteArray.size { data := #[32, 13, 32] }, S.size + ByteArray.size { data := #[32, 13, 32] } + W.size)])) := HJ.out.step okB_three HOK.out (by omega)
                      go_wp2_with (at_builtin; refine wpList_append_pure (Q' := fun _ => False) rfl _ _ _ rfl w.heap.size 9 (.string ByteArray.empty) 1 16 Try.underlying33 info_str rfl (by omega) (.slice so al.length sc) rfl al.length (al.map Value.string) (so2.alloc _) (fun _ _ _ _ _ h => h) ⟨wr.heap.size, 0, none⟩ 1 rfl [.string W] rfl (news_block (heap_alloc_new _ _)) (by simp [Value.oneCell']) (by simp) (by simp) (by omega) (by omega) (by have := BB.size; simp; omega) ?_)
                      intro g5 cap5 w5 ho5 hg5 hat5 hp5 hk5
                      have B5 : Below w.heap.size w w5 := below_grownB (BB.alloc BB.size _) hg5 (by have := BB.size; simp; omega) (fun g0 hg0 => (so2.lt g0 hg0).1)
                      have E5 : SOwn w.heap.size w5 (.slice (some ⟨g5, 0, none⟩) (al.length + 1) cap5) (al ++ [W]) := by unfold SOwn; rw [List.length_append, List.map_append]; exact ho5
                      clear ho5 hg5 hat5 hp5 hk5 BB so2
                      go_wp2
                      go_roundw
                      case rel => exact ⟨k + 1, _, al ++ [W], _, by omega, by omega, by simp; omega, by go_num, rfl, E5, B5, HJ2.out⟩
                      case measure => simp [intOf]; omega
                    · have y2b : ((y % 3) == 2) = false := by simp; omega
                      have HJ2 : Hid (Joined (S ++ { data := #[32] } ++ W) (al ++ [W]) (ps ++ [(S.size + ByteArray.size { data := #[32] }, S.size + ByteArray.size { data := #[32] } + W.size)])) := HJ.out.step okB_one HOK.out (by omega)
                      go_wp2_with (at_builtin; refine wpList_append_pure (Q' := fun _ => False) rfl _ _ _ rfl w.heap.size 9 (.string ByteArray.empty) 1 16 Try.underlying33 info_str rfl (by omega) (.slice so al.length sc) rfl al.length (al.map Value.string) (so2.alloc _) (fun _ _ _ _ _ h => h) ⟨wr.heap.size, 0, none⟩ 1 rfl [.string W] rfl (news_block (heap_alloc_new _ _)) (by simp [Value.oneCell']) (by simp) (by simp) (by omega) (by omega) (by have := BB.size; simp; omega) ?_)
                      intro g5 cap5 w5 ho5 hg5 hat5 hp5 hk5
                      have B5 : Below w.heap.size w w5 := below_grownB (BB.alloc BB.size _) hg5 (by have := BB.size; simp; omega) (fun g0 hg0 => (so2.lt g0 hg0).1)
                      have E5 : SOwn w.heap.size w5 (.slice (some ⟨g5, 0, none⟩) (al.length + 1) cap5) (al ++ [W]) := by unfold SOwn; rw [List.length_append, List.map_append]; exact ho5
                      clear ho5 hg5 hat5 hp5 hk5 BB so2
                      go_wp2
                      go_roundw
                      case rel => exact ⟨k + 1, _, al ++ [W], _, by omega, by omega, by simp; omega, by go_num, rfl, E5, B5, HJ2.out⟩
                      case measure => simp [intOf]; omega
                · have hb1i : ¬ (k : Int) < (m : Int) := by omega
                  have hb1b : decide ((k : Int) < (m : Int)) = false := decide_eq_false hb1i
                  have hb1c : decide (k < m) = false := decide_eq_false hb1
                  have HJ2 : Hid (Joined (S ++ { data := #[32] } ++ W) (al ++ [W]) (ps ++ [(S.size + ByteArray.size { data := #[32] }, S.size + ByteArray.size { data := #[32] } + W.size)])) := HJ.out.step okB_one HOK.out (by omega)
                  go_wp2_with (at_builtin; refine wpList_append_pure (Q' := fun _ => False) rfl _ _ _ rfl w.heap.size 9 (.string ByteArray.empty) 1 16 Try.underlying33 info_str rfl (by omega) (.slice so al.length sc) rfl al.length (al.map Value.string) (so2.alloc _) (fun _ _ _ _ _ h => h) ⟨wr.heap.size, 0, none⟩ 1 rfl [.string W] rfl (news_block (heap_alloc_new _ _)) (by simp [Value.oneCell']) (by simp) (by simp) (by omega) (by omega) (by have := BB.size; simp; omega) ?_)
                  intro g5 cap5 w5 ho5 hg5 hat5 hp5 hk5
                  have B5 : Below w.heap.size w w5 := below_grownB (BB.alloc BB.size _) hg5 (by have := BB.size; simp; omega) (fun g0 hg0 => (so2.lt g0 hg0).1)
                  have E5 : SOwn w.heap.size w5 (.slice (some ⟨g5, 0, none⟩) (al.length + 1) cap5) (al ++ [W]) := by unfold SOwn; rw [List.length_append, List.map_append]; exact ho5
                  clear ho5 hg5 hat5 hp5 hk5 BB so2
                  go_wp2
                  go_roundw
                  case rel => exact ⟨k + 1, _, al ++ [W], _, by omega, by omega, by simp; omega, by go_num, rfl, E5, B5, HJ2.out⟩
                  case measure => simp [intOf]; omega
        · have h40i : ¬ (W.size : Int) ≤ 40 := by omega
          have h40b : decide ((W.size : Int) ≤ 40) = false := decide_eq_false h40i
          have h0i : (0 : Int) < (W.size : Int) := by omega
          go_wp2
          refine wp_loop_rounds 1 ?_
          rw [rounds_succ]
          go_wp2
          go_roundw
          case rel => exact ⟨k + 1, S, al, ps, by omega, by omega, by omega, by go_num, rfl, ho, BB, HJ⟩
          case measure => simp [intOf]; omega
    · by_cases hkn2 : k < n
      · have hi1 : (k : Int) < (n : Int) := by omega
        obtain rfl : k = 60 := by omega
        clear hlt hk60
        have ho2 : wr.ownsRow w.heap.size 9 1 _ al.length (al.map Value.string) := ho
        obtain ⟨so, sc, rfl, so2, HG⟩ := owns_slice1 ho2
        have HSO : Hid (wr.ownsRow w.heap.size 9 1 (.slice so al.length sc) al.length (al.map Value.string)) := so2
        have HGO : Hid (0 < al.length → ∃ g, so = some ⟨g, 0, none⟩) := HG
        have hSz : S.size ≤ 2600 := by have := HJ.out.size; omega
        have cw := Words_at (S ++ moreT) wr (by rw [ByteArray.size_append]; have : moreT.size = 6 := rfl; omega)
        rw [HJ.out.all] at cw
        have HL : Hid (ps.length = al.length) := HJ.out.len
        have HP : Hid (∀ (j : Nat) (p : Nat × Nat) (W : ByteArray), ps[j]? = some p → al[j]? = some W → p.1 + W.size = p.2 ∧ p.2 ≤ S.size ∧ S.extract p.1 p.2 = W) := HJ.out.at'
        have HX : Hid (∀ a e, e ≤ S.size → (S ++ moreT).extract a e = S.extract a e) := fun a e h => extract_left _ _ _ _ h
        unfold moreT at cw HX
        clear ho ho2 so2 HG HR HR2 HF HZ HJ
        obtain ⟨w0, rfl⟩ : ∃ w0, w0 = wr := ⟨_, rfl⟩
        go_wp2_with fail
        refine cw.mono ?_
        rintro e w2 ⟨⟨v2, rfl, ht⟩, hb2⟩
        have B2 : Below w.heap.size w w2 := BB.trans (hb2.mono BB.size)
        have HSO2 : Hid (w2.ownsRow w.heap.size 9 1 (.slice so al.length sc) al.length (al.map Value.string)) := owns_later HSO.out hb2
        obtain ⟨to, tc, rfl, t2⟩ := ht.open (N := al.length) (by rw [toks_length, HL.out])
        have HT : Hid (w2.ownsRow w0.heap.size 37 3 (.slice to al.length tc) al.length (flatT (toks (S ++ { data := #[35, 32, 109, 111, 114, 101] }) 0 0 ps))) := t2
        clear cw ht t2 hb2 HSO BB
        go_wp2
        go_loopw [14] (fun x wr => ∃ k : Nat, k ≤ al.length ∧ x = .int .i64 (k : Int) ∧ Below w2.heap.size w2 wr) (fun x _ => al.length - (intOf x).toNat)
        case atStart => exact ⟨0, by omega, rfl, Below.refl _ _⟩
        case round =>
          obtain ⟨j, hj, rfl, B3⟩ := hrel
          by_cases hjl : j < al.length
          · have hji : (j : Int) < (al.length : Int) := by omega
            have hj0 : (0 : Int) ≤ (j : Int) := by omega
            obtain ⟨g, rfl⟩ := HGO.out (by omega)
            have o1 := owns_later HSO2.out B3
            have o2 := owns_later HT.out B3
            rcases o2.2 with ⟨e0, e1⟩ | ⟨g2, cap2, cur2, e1, r2⟩
            · omega
            cases e1
            obtain ⟨W, hW⟩ : ∃ W, al[j]? = some W := ⟨_, List.getElem?_eq_getElem hjl⟩
            obtain ⟨⟨p1, p2⟩, hp⟩ : ∃ P, ps[j]? = some P := ⟨_, List.getElem?_eq_getElem (show j < ps.length by have := HL.out; omega)⟩
            obtain ⟨q1, q2, q3⟩ := HP.out j _ _ hp hW
            have c0 := owns_cell o1 (j := j) (u := .string W) (by rw [List.getElem?_map, hW]; rfl)
            obtain ⟨d1, d2, d3⟩ := TOwn.at o2 (i := j) (t := (0 + p1, 0, (S ++ { data := #[35, 32, 109, 111, 114, 101] }).extract p1 p2)) (by unfold toks; rw [List.getElem?_map, hp]; rfl)
            replace d3 : wr.cell? ⟨g2, j * 3 + 2, none⟩ = some (.string ((S ++ { data := #[35, 32, 109, 111, 114, 101] }).extract p1 p2)) := d3
            rw [HX.out p1 p2 q2, show S.extract p1 p2 = W from q3] at d3
            replace d1 : wr.cell? ⟨g2, j * 3, none⟩ = some (.int .i64 ((0 + p1 : Nat) : Int)) := d1
            rw [Nat.zero_add] at d1
            replace q1 : p1 + W.size = p2 := q1
            subst q1
            replace d1 : wr.cell? ⟨g2, j * 3, none⟩ = some (.int .i64 (p1 : Int)) := d1
            replace q3 : S.extract p1 (p1 + W.size) = W := q3
            replace q2 : p1 + W.size ≤ S.size := q2
            have k1 : (0 : Int) ≤ (p1 : Int) := by omega
            have k2 : (p1 : Int) ≤ (p1 : Int) + (W.size : Int) := by omega
            have k3 : (p1 : Int) + (W.size : Int) ≤ (S.size : Int) := by omega
            have k4 : IntKind.i64.wrap ((p1 : Int) + (W.size : Int)) = (p1 : Int) + (W.size : Int) := by rw [IntKind.wrap_i64]; omega
            have k5 : ((p1 : Int) + (W.size : Int)).toNat = p1 + W.size := by omega
            clear hW hp o1 o2 r2 d2 HT HSO2 HP HX HL
            go_wp2
            go_quiet (fail)
            go_wp2
            go_roundw
            case rel => exact ⟨j + 1, by omega, by go_num, below_drewN B3 _⟩
            case measure => simp [intOf]; omega
          · have hji : ¬ (j : Int) < (al.length : Int) := by omega
            have hjb : decide ((j : Int) < (al.length : Int)) = false := decide_eq_false hji
            have B4 : Below w.heap.size w wr := B2.trans (B3.mono B2.size)
            clear B2 B3 HT HSO2 HP HX HL HGO
            go_wp2_with fail
            refine (awake_at _).mono ?_
            rintro e w4 ⟨rfl, hb4⟩
            go_wp2
            go_ret
            exact ⟨rfl, B4.trans (hb4.mono B4.size)⟩
      · have hi1 : ¬ (k : Int) < (n : Int) := by omega
        have hi1b : decide ((k : Int) < (n : Int)) = false := decide_eq_false hi1
        have hi1c : decide (k < n) = false := decide_eq_false hkn2
        clear hlt
        have ho2 : wr.ownsRow w.heap.size 9 1 _ al.length (al.map Value.string) := ho
        obtain ⟨so, sc, rfl, so2, HG⟩ := owns_slice1 ho2
        have HSO : Hid (wr.ownsRow w.heap.size 9 1 (.slice so al.length sc) al.length (al.map Value.string)) := so2
        have HGO : Hid (0 < al.length → ∃ g, so = some ⟨g, 0, none⟩) := HG
        have hSz : S.size ≤ 2600 := by have := HJ.out.size; omega
        have cw := Words_at (S ++ moreT) wr (by rw [ByteArray.size_append]; have : moreT.size = 6 := rfl; omega)
        rw [HJ.out.all] at cw
        have HL : Hid (ps.length = al.length) := HJ.out.len
        have HP : Hid (∀ (j : Nat) (p : Nat × Nat) (W : ByteArray), ps[j]? = some p → al[j]? = some W → p.1 + W.size = p.2 ∧ p.2 ≤ S.size ∧ S.extract p.1 p.2 = W) := HJ.out.at'
        have HX : Hid (∀ a e, e ≤ S.size → (S ++ moreT).extract a e = S.extract a e) := fun a e h => extract_left _ _ _ _ h
        unfold moreT at cw HX
        clear ho ho2 so2 HG HR HR2 HF HZ HJ
        obtain ⟨w0, rfl⟩ : ∃ w0, w0 = wr := ⟨_, rfl⟩
        go_wp2_with fail
        refine cw.mono ?_
        rintro e w2 ⟨⟨v2, rfl, ht⟩, hb2⟩
        have B2 : Below w.heap.size w w2 := BB.trans (hb2.mono BB.size)
        have HSO2 : Hid (w2.ownsRow w.heap.size 9 1 (.slice so al.length sc) al.length (al.map Value.string)) := owns_later HSO.out hb2
        obtain ⟨to, tc, rfl, t2⟩ := ht.open (N := al.length) (by rw [toks_length, HL.out])
        have HT : Hid (w2.ownsRow w0.heap.size 37 3 (.slice to al.length tc) al.length (flatT (toks (S ++ { data := #[35, 32, 109, 111, 114, 101] }) 0 0 ps))) := t2
        clear cw ht t2 hb2 HSO BB
        go_wp2
        go_loopw [14] (fun x wr => ∃ k : Nat, k ≤ al.length ∧ x = .int .i64 (k : Int) ∧ Below w2.heap.size w2 wr) (fun x _ => al.length - (intOf x).toNat)
        case atStart => exact ⟨0, by omega, rfl, Below.refl _ _⟩
        case round =>
          obtain ⟨j, hj, rfl, B3⟩ := hrel
          by_cases hjl : j < al.length
          · have hji : (j : Int) < (al.length : Int) := by omega
            have hj0 : (0 : Int) ≤ (j : Int) := by omega
            obtain ⟨g, rfl⟩ := HGO.out (by omega)
            have o1 := owns_later HSO2.out B3
            have o2 := owns_later HT.out B3
            rcases o2.2 with ⟨e0, e1⟩ | ⟨g2, cap2, cur2, e1, r2⟩
            · omega
            cases e1
            obtain ⟨W, hW⟩ : ∃ W, al[j]? = some W := ⟨_, List.getElem?_eq_getElem hjl⟩
            obtain ⟨⟨p1, p2⟩, hp⟩ : ∃ P, ps[j]? = some P := ⟨_, List.getElem?_eq_getElem (show j < ps.length by have := HL.out; omega)⟩
            obtain ⟨q1, q2, q3⟩ := HP.out j _ _ hp hW
            have c0 := owns_cell o1 (j := j) (u := .string W) (by rw [List.getElem?_map, hW]; rfl)
            obtain ⟨d1, d2, d3⟩ := TOwn.at o2 (i := j) (t := (0 + p1, 0, (S ++ { data := #[35, 32, 109, 111, 114, 101] }).extract p1 p2)) (by unfold toks; rw [List.getElem?_map, hp]; rfl)
            replace d3 : wr.cell? ⟨g2, j * 3 + 2, none⟩ = some (.string ((S ++ { data := #[35, 32, 109, 111, 114, 101] }).extract p1 p2)) := d3
            rw [HX.out p1 p2 q2, show S.extract p1 p2 = W from q3] at d3
            replace d1 : wr.cell? ⟨g2, j * 3, none⟩ = some (.int .i64 ((0 + p1 : Nat) : Int)) := d1
            rw [Nat.zero_add] at d1
            replace q1 : p1 + W.size = p2 := q1
            subst q1
            replace d1 : wr.cell? ⟨g2, j * 3, none⟩ = some (.int .i64 (p1 : Int)) := d1
            replace q3 : S.extract p1 (p1 + W.size) = W := q3
            replace q2 : p1 + W.size ≤ S.size := q2
            have k1 : (0 : Int) ≤ (p1 : Int) := by omega
            have k2 : (p1 : Int) ≤ (p1 : Int) + (W.size : Int) := by omega
            have k3 : (p1 : Int) + (W.size : Int) ≤ (S.size : Int) := by omega
            have k4 : IntKind.i64.wrap ((p1 : Int) + (W.size : Int)) = (p1 : Int) + (W.size : Int) := by rw [IntKind.wrap_i64]; omega
            have k5 : ((p1 : Int) + (W.size : Int)).toNat = p1 + W.size := by omega
            clear hW hp o1 o2 r2 d2 HT HSO2 HP HX HL
            go_wp2
            go_quiet (fail)
            go_wp2
            go_roundw
            case rel => exact ⟨j + 1, by omega, by go_num, below_drewN B3 _⟩
            case measure => simp [intOf]; omega
          · have hji : ¬ (j : Int) < (al.length : Int) := by omega
            have hjb : decide ((j : Int) < (al.length : Int)) = false := decide_eq_false hji
            have B4 : Below w.heap.size w wr := B2.trans (B3.mono B2.size)
            clear B2 B3 HT HSO2 HP HX HL HGO
            go_wp2_with fail
            refine (awake_at _).mono ?_
            rintro e w4 ⟨rfl, hb4⟩
            go_wp2
            go_ret
            exact ⟨rfl, B4.trans (hb4.mono B4.size)⟩

theorem own : ownKnob Try.prog.godebug = none := by kernel_rfl
theorem laidOut : laidOutB Try.prog = true := by kernel_rfl

set_option maxRecDepth 100000 in
theorem lifted (os : Os) (started : os.Started) (H : Type) (enc : TypeId × Value → H) :
    ReturnsInHanded {} Try.checked os 5 .any (Rows.lexJoinsSpec.pre6 enc Try.prog Try.f5 Rows.lexJoinsRow.domain false) (Rows.lexJoinsSpec.post enc Try.prog Try.f5 false true false false) := by
  refine returnsInHanded_of_change (C := Try.checked) own started (by kernel_rfl) Try.func5
    (ChangeSpec.witness6 (enc := enc) (C := Try.checked) false ⟨#[], #[.slice none 0 0, .slice none 0 0], []⟩ 8 (by kernel_rfl) (by kernel_rfl) (by kernel_rfl) (by kernel_rfl)) ?_
  intro W base args ds gs before hval0 hW hcnd _
  have hval : ∀ (j : Nat) t v, Try.f5.params[j]? = some t → args[j]? = some v → Value.okWide Try.prog W .any base t v := hval0
  have hW' := hW
  obtain ⟨p, q, hA0, hV, rfl, hfz, hnd⟩ := hW
  have hA : DataW.TrodAll enc Try.prog W 0 (fun _ => true) true Try.f5.params.toList args.toList ds p := hA0
  rw [Try.params5] at hA hval
  obtain ⟨v0, vs0, d0, ds0, p0, q0, hargs, rfl, rfl, h0, r0⟩ := trodAll_cons hA
  obtain ⟨v1, vs1, d1, ds1, p1, q1, rfl, rfl, rfl, h1, r1⟩ := trodAll_cons r0
  obtain ⟨rfl, rfl, rfl⟩ := trodAll_nil r1
  obtain rfl : args = #[v0, v1] := by cases args; simp_all
  obtain ⟨rfl, rfl⟩ := trodVars_none hV
  obtain ⟨a0, len0, cap0, rfl⟩ := okWide_slice Try.underlying33 (hval 0 33 v0 rfl rfl)
  have k0 := h0
  have lt0 : ∀ x ∈ p0, x.block < W.heap.size := by obtain ⟨m, hm⟩ := k0; exact DataW.trod_lt m _ _ _ hm
  obtain ⟨z0, w0⟩ : ∃ f, StrsIn W (.slice a0 len0 cap0) len0 f := by
    obtain ⟨fuel, hf⟩ := h0
    rcases open_strings Try.underlying33 Try.underlying9 (by kernel_rfl) hf with ⟨hcs, _⟩ | ⟨x, l, c, zs, hcs, _, hl, hm, hz, _, hcell, hwz⟩
    · simp [Value.cells] at hcs
      obtain ⟨rfl, rfl, rfl⟩ := hcs
      exact ⟨_, strs_nil W⟩
    · simp [Value.cells] at hcs
      obtain ⟨rfl, rfl, rfl⟩ := hcs
      exact ⟨_, strs_row W x _ _ zs hl hm (by simpa using hz) hcell hwz⟩
  obtain ⟨a1, len1, cap1, rfl⟩ := okWide_slice Try.underlying34 (hval 1 34 v1 rfl rfl)
  have k1 := h1
  have lt1 : ∀ x ∈ p1, x.block < W.heap.size := by obtain ⟨m, hm⟩ := k1; exact DataW.trod_lt m _ _ _ hm
  obtain ⟨z1, w1⟩ : ∃ f, BytesIn W (.slice a1 len1 cap1) len1 f := by
    obtain ⟨fuel, hf⟩ := h1
    rcases open_ints Try.underlying34 Try.underlying5 (by kernel_rfl) hf with ⟨hcs, _⟩ | ⟨x, l, c, zs, hcs, _, hl, hm, hz, _, hcell, hwz⟩
    · simp [Value.cells] at hcs
      obtain ⟨rfl, rfl, rfl⟩ := hcs
      exact ⟨_, bytes_nil W⟩
    · simp [Value.cells] at hcs
      obtain ⟨rfl, rfl, rfl⟩ := hcs
      exact ⟨_, bytes_row W x _ _ zs hl hm (by simpa using hz) hcell hwz⟩
  clear hA0 hval0
  refine (walk _ _ _ _ _ _ W w0 w1).mono fun e W' ⟨he, bel⟩ => ?_
  subst he
  exact ⟨_, rfl, _, _, _, [], _, [], hW', trodAll_mk1 (shut_bool Try.underlying4 _), (trodAll_cons_mk (Below.trod laidOut (by kernel_rfl) (of_decide_eq_true (by kernel_rfl)) k0 bel lt0) (trodAll_cons_mk (Below.trod laidOut (by kernel_rfl) (of_decide_eq_true (by kernel_rfl)) k1 bel lt1) trodAll_mk0)), rfl, bel.frame _, fun h => by cases h⟩

theorem over : Rows.lexJoinsRow.holds Try.pinned (OpenSpec.ofChange Rows.lexJoinsSpec) :=
  OpenClaim.holds_of_wide 5 Try.f5 rfl rfl rfl rfl rfl rfl rfl ⟨rfl, rfl, rfl, rfl, rfl⟩ rfl rfl rfl rfl rfl (by kernel_rfl) Try.func5 (by kernel_rfl)
    (of_decide_eq_true (by kernel_rfl)) (by unfold Func.isWrapper; first | (rw [if_pos (by decide +kernel)]; kernel_rfl) | (rw [if_neg (by decide +kernel)]; exact ⟨rfl, rfl⟩))
    (fun os started H enc _ => lifted os started H enc)

end Go.Proofs.Ytbigickceflflaa.lexJoins
namespace Go.Proofs.Ytbigickceflflaa
/-- The statement. -/
theorem lexJoins_holds : Rows.LexJoinsSaid := lexJoins.over
end Go.Proofs.Ytbigickceflflaa
