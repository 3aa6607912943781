/-
  Texts of mine, joined: what lies beneath the statement.
-/
import Derived.Test.YtbigickceflflaaDoorJ19142b14e1
import Derived.Laws.OwnMore
import Derived.Deep.QuietTactic
import Derived.BigQuiet
namespace Go.Proofs.YtbigickceflflaaDoor
open Go.RowKit
set_option linter.unusedVariables false
set_option linter.unusedSimpArgs false

/-- The cells of the i-th of some words. -/
theorem TOwn.at {B : Nat} {w : World} {g n cap : Nat} {l : List Tok} (h : w.ownsRow B 52 3 (.slice (some ⟨g, 0, none⟩) n cap) n (flatT l)) {i : Nat} {t : Tok} (ht : l[i]? = some t) :
    w.cell? ⟨g, i * 3, none⟩ = some (.int .i64 (t.1 : Int)) ∧ w.cell? ⟨g, i * 3 + 1, none⟩ = some (.int .i64 (t.2.1 : Int)) ∧ w.cell? ⟨g, i * 3 + 2, none⟩ = some (.string t.2.2) :=
  ⟨owns_cell h (by have := flatT_at l i t ht 0 (by omega); simpa [cellsT] using this), owns_cell h (by have := flatT_at l i t ht 1 (by omega); simpa [cellsT] using this), owns_cell h (by have := flatT_at l i t ht 2 (by omega); simpa [cellsT] using this)⟩

/-- How far the law has come at byte k, with the words l, the last of which is open or not. -/
def Along (s : ByteArray) (k : Nat) (l : List (Nat × Nat)) (op : Bool) : Prop :=
  (op = false ∧ scan s 0 [] = scan s k l) ∨ (op = true ∧ ∃ l0 a, l = l0 ++ [(a, k)] ∧ a ≤ k ∧ scan s 0 [] = scan s (wEnd s k) (l0 ++ [(a, wEnd s k)]))
theorem Along.out {s : ByteArray} {k : Nat} {l : List (Nat × Nat)} {op : Bool} (h : Along s k l op) (hw : ¬ (k < s.size ∧ inW (bt s k) = true)) : scan s 0 [] = scan s k l := by
  rcases h with ⟨_, h⟩ | ⟨_, l0, a, rfl, _, h⟩
  · exact h
  · rw [wEnd_out hw] at h; exact h
theorem extract_more (s : ByteArray) (a k : Nat) (h1 : a ≤ k) (h2 : k < s.size) : s.extract a k ++ s.extract k (k + 1) = s.extract a (k + 1) := by
  rw [ByteArray.extract_append_extract]
  rw [Nat.min_eq_left h1, Nat.max_eq_right (by omega)]
theorem set_last (l : List Tok) (t u : Tok) (h : u = (t.1, t.2.1, u.2.2)) : (flatT (l ++ [t])).set (l.length * 3 + 2) (.string u.2.2) = flatT (l ++ [u]) := by
  rw [flatT_append, flatT_append, flatT_one, flatT_one, List.set_append_right _ _ (by rw [flatT_length]; omega), flatT_length]
  congr 1
  rw [show l.length * 3 + 2 - l.length * 3 = 2 by omega]
  rw [h]
  simp [cellsT]
theorem TOwn.grow {B : Nat} {w : World} {g c : Nat} {s : ByteArray} {l0 : List (Nat × Nat)} {a k : Nat} (h : w.ownsRow B 52 3 (.slice (some ⟨g, 0, none⟩) (l0.length + 1) c) (l0.length + 1) (flatT (toks s 0 0 l0 ++ [(0 + a, 0, s.extract a k)]))) :
    TOwn B (w.setCell ⟨g, l0.length * 3 + 2, none⟩ (.string (s.extract a (k + 1)))).drew (.slice (some ⟨g, 0, none⟩) (l0.length + 1) c) (toks s 0 0 (l0 ++ [(a, k + 1)])) := by
  have h1 := (h.stored (l0.length * 3 + 2) (.string (s.extract a (k + 1)))).1
  have h2 := set_last (toks s 0 0 l0) (0 + a, 0, s.extract a k) (0 + a, 0, s.extract a (k + 1)) rfl
  rw [toks_length] at h2
  rw [h2] at h1
  have h3 := owns_later h1 (Below.refl _ _).drew
  unfold TOwn
  rw [toks_length, toks_append, List.length_append]
  exact h3
theorem flat_new (s : ByteArray) (l : List (Nat × Nat)) (k : Nat) : flatT (toks s 0 0 l) ++ [.int .i64 (k : Int), .int .i64 0, .string { data := #[] }] = flatT (toks s 0 0 l ++ [(0 + k, 0, s.extract k k)]) := by
  rw [flatT_append, flatT_one]
  have : s.extract k k = { data := #[] } := by
    apply ByteArray.ext; simp
  simp [cellsT, this]
  rfl

set_option maxRecDepth 20000 in
set_option maxHeartbeats 4000000 in
theorem words_at (s : ByteArray) (w : World) (hs : s.size ≤ 2000000) :
    Calls Tryd.prog 21 #[.string s] w fun e w' => WordsOut w.heap.size e w' s 0 0 (scan s 0 []) ∧ Below w.heap.size w w' := by
  go_enter Tryd.func21, Tryd.ntmps21
  go_wp2
  go_loopw [5, 6, 7] (fun v o t wr => ∃ (k : Nat) (l : List (Nat × Nat)) (op : Bool), k ≤ s.size ∧ l.length ≤ 4096 ∧ t = .int .i64 (k : Int) ∧ o = .bool op ∧ TOwn w.heap.size wr v (toks s 0 0 l) ∧ Below w.heap.size w wr ∧ Hid (Along s k l op)) (fun _ _ t _ => s.size - (intOf t).toNat)
  case atStart => exact ⟨0, [], false, by omega, by simp, rfl, rfl, TOwn.nil _ _, Below.refl _ _, .inl ⟨rfl, rfl⟩⟩
  case round =>
    obtain ⟨k, l, op, hk, hl, rfl, rfl, ho, BB, HK⟩ := hrel
    by_cases hlt : k < s.size
    · have hb := bt_at s k hlt
      have hlti : (k : Int) < (s.size : Int) := by omega
      by_cases h3 : inW (bt s k) = true
      · cases op with
        | true =>
          obtain ⟨l0, a, rfl, hak, HS⟩ : ∃ l0 a, l = l0 ++ [(a, k)] ∧ a ≤ k ∧ Hid (scan s 0 [] = scan s (wEnd s k) (l0 ++ [(a, wEnd s k)])) := by
            rcases HK.out with ⟨h, _⟩ | ⟨_, l0, a, h1, h2, h3⟩
            · cases h
            · exact ⟨l0, a, h1, h2, h3⟩
          have HW : Hid (wEnd s k = wEnd s (k + 1)) := wEnd_in hlt h3
          rw [hb] at h3
          have h2i : (((s[k]).toNat : Int) == 35) = false := by have := inW_not_hash h3; simp; omega
          have hl0 : l0.length + 1 ≤ 4096 := by simpa using hl
          obtain ⟨ao, c, rfl, ho2⟩ := ho.open (N := l0.length + 1) (by rw [toks_length]; simp)
          rcases ho2.2 with ⟨e0, e1⟩ | ⟨g, cap, cur, e1, r1⟩
          · omega
          cases e1
          have hft : flatT (toks s 0 0 (l0 ++ [(a, k)])) = flatT (toks s 0 0 l0 ++ [(0 + a, 0, s.extract a k)]) := by rw [toks_append]; rfl
          rw [hft] at ho2
          have hcell : wr.cell? ⟨g, l0.length * 3 + 2, none⟩ = some (.string (s.extract a k)) := (TOwn.at ho2 (i := l0.length) (t := (0 + a, 0, s.extract a k)) (by rw [List.getElem?_append_right (by rw [toks_length]; omega), toks_length]; simp)).2.2
          have hfroz : wr.frozen? ⟨g, l0.length * 3 + 2, none⟩ = false := ho2.frozenAt _
          have HO : Hid (wr.ownsRow w.heap.size 52 3 (.slice (some ⟨g, 0, none⟩) (l0.length + 1) c) (l0.length + 1) (flatT (toks s 0 0 l0 ++ [(0 + a, 0, s.extract a k)]))) := ho2
          have HX : Hid (s.extract a k ++ s.extract k (k + 1) = s.extract a (k + 1)) := extract_more s a k hak hlt
          have i1 : (0 : Int) ≤ (l0.length : Int) := by omega
          have i2 : (l0.length : Int) < ((l0.length + 1 : Nat) : Int) := by omega
          have i3 : (k : Int) + 1 ≤ (s.size : Int) := by omega
          have i4 : (k : Int) ≤ (k : Int) + 1 := by omega
          have i5 : (0 : Int) ≤ (k : Int) := by omega
          have i6 : IntKind.i64.wrap ((k : Int) + 1) = (k : Int) + 1 := by rw [IntKind.wrap_i64]; omega
          clear hb HK hft ho ho2 r1 hl
          go_wp2_with (go_at_call 35; refine (jinw_at _ _).mono ?_; rintro e w' ⟨rfl, hw⟩; replace hw := hw.symm; subst hw; rw [h3])
          go_region
          have HB : Below w.heap.size w (wr.setCell ⟨g, l0.length * 3 + 2, none⟩ (.string (s.extract a (k + 1)))).drew := (BB.setCell (HO.out.lt g rfl).1 _).drew
          have HT := TOwn.grow HO.out
          have HAL : Hid (Along s (k + 1) (l0 ++ [(a, k + 1)]) true) := .inr ⟨rfl, l0, a, rfl, by omega, by rw [HS.out, HW.out]⟩
          clear HO HS HW hcell hfroz HX BB
          go_wp2
          go_roundw
          case rel => exact ⟨k + 1, l0 ++ [(a, k + 1)], true, by omega, by simp; omega, by go_num, rfl, HT, HB, HAL⟩
          case measure => simp [intOf]; omega
        | false =>
          have HS : Hid (scan s 0 [] = scan s k l) := by
            rcases HK.out with ⟨_, h⟩ | ⟨h, _⟩
            · exact h
            · cases h
          obtain ⟨ao, c, rfl, ho2⟩ := ho.open (toks_length s 0 0 l)
          by_cases h4 : 4096 ≤ l.length
          · have HW : Hid (scan s 0 [] = .limit k) := HS.out.trans (scan_limit hlt h3 h4)
            rw [hb] at h3
            have h2i : (((s[k]).toNat : Int) == 35) = false := by have := inW_not_hash h3; simp; omega
            have h4i : (4096 : Int) ≤ (l.length : Int) := by omega
            clear hb HK
            go_wp2_with (go_at_call 35; refine (jinw_at _ _).mono ?_; rintro e w' ⟨rfl, hw⟩; replace hw := hw.symm; subst hw; rw [h3])
            go_ret3
            exact ⟨by rw [HW.out]; exact out_limit rfl, BB⟩
          · have HW : Hid (scan s 0 [] = scan s (wEnd s (k + 1)) (l ++ [(k, wEnd s (k + 1))])) := by
              have := HS.out.trans (scan_word hlt h3 h4)
              rw [wEnd_in hlt h3] at this; exact this
            rw [hb] at h3
            have h2i : (((s[k]).toNat : Int) == 35) = false := by have := inW_not_hash h3; simp; omega
            have h4i : ¬ (4096 : Int) ≤ (l.length : Int) := by omega
            have h4b : decide ((4096 : Int) ≤ (l.length : Int)) = false := by simp; omega
            clear hb HK HS
            go_wp2_with (first | (go_at_call 35; refine (jinw_at _ _).mono ?_; rintro e w' ⟨rfl, hw⟩; replace hw := hw.symm; subst hw; rw [h3]) | (at_builtin; refine wpList_append_pure (Q' := fun _ => False) rfl _ _ _ rfl w.heap.size 52 (.agg #[.int .i64 0, .int .i64 0, .string ByteArray.empty]) 3 32 Tryd.underlying48 info_tok rfl (by omega) (.slice ao l.length c) rfl l.length (flatT (toks s 0 0 l)) (ho2.alloc _) (fun _ _ _ _ _ h => h) ⟨wr.heap.size, 0, none⟩ 1 rfl [.int .i64 (k : Int), .int .i64 0, .string { data := #[] }] rfl (news_block (heap_alloc_new _ _)) (by simp [Value.oneCell']) (by simp) (by simp) (by omega) (by omega) (by have := BB.size; simp; omega) ?_))
            intro g5 cap5 w5 ho5 hg5 hat5 hp5 hk5
            have B5 : Below w.heap.size w w5 := below_grownB (BB.alloc BB.size _) hg5 (by have := BB.size; simp; omega) (fun g0 hg0 => (ho2.lt g0 hg0).1)
            rw [flat_new] at ho5
            have hcell : w5.cell? ⟨g5, l.length * 3 + 2, none⟩ = some (.string (s.extract k k)) := (TOwn.at ho5 (i := l.length) (t := (0 + k, 0, s.extract k k)) (by rw [List.getElem?_append_right (by rw [toks_length]; omega), toks_length]; simp)).2.2
            have hfroz : w5.frozen? ⟨g5, l.length * 3 + 2, none⟩ = false := ho5.frozenAt _
            have HO : Hid (w5.ownsRow w.heap.size 52 3 (.slice (some ⟨g5, 0, none⟩) (l.length + 1) cap5) (l.length + 1) (flatT (toks s 0 0 l ++ [(0 + k, 0, s.extract k k)]))) := ho5
            have HX : Hid (s.extract k k ++ s.extract k (k + 1) = s.extract k (k + 1)) := extract_more s k k (Nat.le_refl _) hlt
            have hcap := (owns_cap ho5).1
            have i1 : (0 : Int) ≤ (l.length : Int) := by omega
            have i2 : (l.length : Int) < ((l.length + 1 : Nat) : Int) := by omega
            have i3 : (k : Int) + 1 ≤ (s.size : Int) := by omega
            have i4 : (k : Int) ≤ (k : Int) + 1 := by omega
            have i5 : (0 : Int) ≤ (k : Int) := by omega
            have i6 : IntKind.i64.wrap ((k : Int) + 1) = (k : Int) + 1 := by rw [IntKind.wrap_i64]; omega
            clear ho ho2 ho5 hg5 hat5 hp5 hk5 BB
            go_wp2
            go_region
            have HB : Below w.heap.size w (w5.setCell ⟨g5, l.length * 3 + 2, none⟩ (.string (s.extract k (k + 1)))).drew := (B5.setCell (HO.out.lt g5 rfl).1 _).drew
            have HT := TOwn.grow HO.out
            have HAL : Hid (Along s (k + 1) (l ++ [(k, k + 1)]) true) := .inr ⟨rfl, l, k, rfl, by omega, HW.out⟩
            clear HO HW hcell hfroz HX B5
            go_wp2
            go_roundw
            case rel => exact ⟨k + 1, l ++ [(k, k + 1)], true, by omega, by simp; omega, by go_num, rfl, HT, HB, HAL⟩
            case measure => simp [intOf]; omega
      · have h3' : inW (bt s k) = false := by simpa using h3
        have HA : Hid (scan s 0 [] = scan s k l) := HK.out.out (fun h => h3 h.2)
        clear HK
        by_cases h2 : bt s k = 35
        · have HW : Hid (scan s 0 [] = .ok l) := HA.out.trans (scan_hash hlt h2)
          rw [hb] at h2
          have h2i : ((s[k]).toNat : Int) = 35 := by omega
          clear hb h3 h3'
          go_wp2
          go_ret3
          exact ⟨by rw [HW.out]; exact ⟨_, rfl, ho⟩, BB⟩
        · have h2i : (((s[k]).toNat : Int) == 35) = false := by rw [hb] at h2; simp; omega
          by_cases h1 : blk (bt s k) = true
          · have HW : Hid (scan s k l = scan s (k + 1) l) := scan_blank hlt h1
            have h1c : bt s k = 32 ∨ bt s k = 9 ∨ bt s k = 13 := by simpa [blk] using h1
            rw [hb] at h1c h3'
            clear hb h3 h1 h2
            rcases h1c with h1 | h1 | h1
            · have h4 : ((s[k]).toNat : Int) = 32 := by omega
              go_wp2_with (go_at_call 35; refine (jinw_at 32 _).mono ?_; rintro e w' ⟨rfl, hw⟩; replace hw := hw.symm; subst hw; rw [show inW 32 = false by decide])
              go_roundw
              case rel => exact ⟨k + 1, l, false, by omega, hl, by go_num, rfl, ho, BB, .inl ⟨rfl, HA.out.trans HW.out⟩⟩
              case measure => simp [intOf]; omega
            · have h4 : ((s[k]).toNat : Int) = 9 := by omega
              go_wp2_with (go_at_call 35; refine (jinw_at 9 _).mono ?_; rintro e w' ⟨rfl, hw⟩; replace hw := hw.symm; subst hw; rw [show inW 9 = false by decide])
              go_roundw
              case rel => exact ⟨k + 1, l, false, by omega, hl, by go_num, rfl, ho, BB, .inl ⟨rfl, HA.out.trans HW.out⟩⟩
              case measure => simp [intOf]; omega
            · have h4 : ((s[k]).toNat : Int) = 13 := by omega
              go_wp2_with (go_at_call 35; refine (jinw_at 13 _).mono ?_; rintro e w' ⟨rfl, hw⟩; replace hw := hw.symm; subst hw; rw [show inW 13 = false by decide])
              go_roundw
              case rel => exact ⟨k + 1, l, false, by omega, hl, by go_num, rfl, ho, BB, .inl ⟨rfl, HA.out.trans HW.out⟩⟩
              case measure => simp [intOf]; omega
          · have h1' : blk (bt s k) = false := by simpa using h1
            have HW : Hid (scan s 0 [] = .form k) := HA.out.trans (scan_form hlt h1' h2 h3')
            have hx : ¬ (bt s k = 32 ∨ bt s k = 9 ∨ bt s k = 13) := by simpa [blk] using h1
            rw [hb] at hx h3'
            have x1 : (((s[k]).toNat : Int) != 32) = true := by simp; omega
            have x2 : (((s[k]).toNat : Int) != 9) = true := by simp; omega
            have x3 : (((s[k]).toNat : Int) != 13) = true := by simp; omega
            clear hb h3 h1 h1' h2 hx
            go_wp2_with (go_at_call 35; refine (jinw_at _ _).mono ?_; rintro e w' ⟨rfl, hw⟩; replace hw := hw.symm; subst hw; rw [h3'])
            go_ret3
            exact ⟨by rw [HW.out]; exact out_form rfl, BB⟩
    · have HW : Hid (scan s 0 [] = .ok l) := (HK.out.out (fun h => hlt h.1)).trans (scan_end hlt)
      have hlti : ¬ (k : Int) < (s.size : Int) := by omega
      have hltb : decide ((k : Int) < (s.size : Int)) = false := by simp; omega
      have hltc : decide (k < s.size) = false := by simp; omega
      go_wp2
      go_ret3
      exact ⟨by rw [HW.out]; exact ⟨_, rfl, ho⟩, BB⟩

/-- The document's example. -/
def exS : ByteArray := { data := #[97, 32, 32, 98, 99, 35, 100] }
theorem ex_end0 : wEnd exS 0 = 1 := wEnd_eq exS 0 1 (by decide) (fun j a b => (show j = 0 by omega) ▸ ⟨by decide, by decide⟩) (by decide)
theorem ex_end3 : wEnd exS 3 = 5 := wEnd_eq exS 3 5 (by decide) (fun j a b => by
  rcases (by omega : j = 3 ∨ j = 4) with rfl | rfl
  · exact ⟨by decide, by decide⟩
  · exact ⟨by decide, by decide⟩) (by decide)
theorem ex_scan : scan exS 0 [] = .ok [(0, 1), (3, 5)] := by
  rw [scan_word (by decide) (by decide) (by decide), ex_end0, scan_blank (by decide) (by decide), scan_blank (by decide) (by decide), scan_word (by decide) (by decide) (by decide)]
  show scan exS (wEnd exS 3) (([] ++ [(0, 1)]) ++ [(3, wEnd exS 3)]) = _
  rw [ex_end3, scan_hash (by decide) (by decide)]
  rfl

set_option maxRecDepth 20000 in
set_option maxHeartbeats 2000000 in
theorem awake_at (w : World) : Calls Tryd.prog 13 #[] w fun e w' => e = .returned (.bool true) ∧ Below w.heap.size w w' := by
  have hc := Words_at exS w (by decide)
  rw [ex_scan] at hc
  unfold exS at hc
  go_enter Tryd.func13, Tryd.ntmps13
  go_wp2_with fail
  refine hc.mono ?_
  rintro e w1 ⟨⟨v, rfl, ho⟩, hb⟩
  clear hc
  obtain ⟨ao, c, rfl, o⟩ := ho.open (N := 2) rfl
  rcases o.2 with ⟨e0, e1⟩ | ⟨g, cap, cur, e1, r1⟩
  · cases e1
  cases e1
  obtain ⟨a1, a2, a3⟩ := TOwn.at o (i := 0) (t := (0, 0, { data := #[97] })) (by decide +kernel)
  obtain ⟨b1, b2, b3⟩ := TOwn.at o (i := 1) (t := (3, 0, { data := #[98, 99] })) (by decide +kernel)
  simp only [Nat.zero_mul, Nat.one_mul, Nat.zero_add] at a1 a2 a3 b1 b2 b3
  have hcap := (owns_cap o).1
  clear r1 ho o
  go_wp2
  go_ret
  exact ⟨rfl, hb⟩

/-- A text, or its first bytes. -/
def cutS (s : ByteArray) : ByteArray := if 3000 < s.size then s.extract 0 3000 else s
theorem cutS_le (s : ByteArray) : (cutS s).size ≤ 3000 := by
  unfold cutS; split
  · rw [ByteArray.size_extract]; omega
  · omega
set_option maxRecDepth 20000 in
set_option maxHeartbeats 2000000 in
theorem cut_at (s : ByteArray) (w : World) (hs : s.size ≤ maxLen) : Calls Tryd.prog 5 #[.string s] w fun e w' => e = .returned (.string (cutS s)) ∧ w' = w := by
  unfold maxLen at hs
  by_cases h : 3000 < s.size
  · have hi : (3000 : Int) < (s.size : Int) := by omega
    have e : cutS s = s.extract 0 3000 := if_pos h
    rw [e]
    clear e
    go_enter Tryd.func5, Tryd.ntmps5
    go_wp2
    go_ret
    exact ⟨rfl, rfl⟩
  · have hi : ¬ (3000 : Int) < (s.size : Int) := by omega
    have e : cutS s = s := if_neg h
    rw [e]
    clear e
    go_enter Tryd.func5, Tryd.ntmps5
    go_wp2
    go_ret
    exact ⟨rfl, rfl⟩

theorem reads_nil (w : World) : Calls Tryd.prog 30 #[.pointer none] w fun e w' => e = .returned (.bool false) ∧ w' = w := by
  go_enter Tryd.func30, Tryd.ntmps30
  go_wp2
  go_ret
  exact ⟨rfl, rfl⟩
theorem Lines_nil (w : World) : Calls Tryd.prog 12 #[.pointer none] w fun e w' => e = .returned (.int .i64 0) ∧ w' = w := by
  go_enter Tryd.func12, Tryd.ntmps12
  go_wp2
  go_ret
  exact ⟨rfl, rfl⟩
theorem Err_nil (w : World) : Calls Tryd.prog 9 #[.pointer none] w fun e w' => e = .returned (.tuple #[.int .i64 18, .int .i64 0]) ∧ w' = w := by
  go_enter Tryd.func9, Tryd.ntmps9
  go_wp2
  go_ret2
  exact ⟨rfl, rfl⟩
theorem More_nil (w : World) : Calls Tryd.prog 10 #[.pointer none] w fun e w' => e = .returned (.bool false) ∧ ∃ m, w' = w.drewN m := by
  go_enter Tryd.func10, Tryd.ntmps10
  go_wp2
  go_quiet ((go_at_call 12; exact Calls.quiet_of_same (Lines_nil _)))
  go_wp2
  go_ret
  exact ⟨rfl, _, rfl⟩
theorem token_nil (w : World) : Calls Tryd.prog 28 #[.pointer none] w fun e w' => e = .returned (.tuple #[.agg #[.int .i64 0, .int .i64 0, .string { data := #[] }], .bool false]) ∧ Below w.heap.size w w' := by
  go_enter Tryd.func28, Tryd.ntmps28
  go_wp2_with (go_at_call 30; refine (reads_nil _).mono ?_; rintro e w' ⟨rfl, hw⟩; replace hw := hw.symm; subst hw)
  exact bodyPost_ret (v := .tuple #[.agg #[.int .i64 0, .int .i64 0, .string { data := #[] }], .bool false]) (by simp [results, Tryd.results28, go_sem]) rfl ⟨rfl, (Below.refl _ _).alloc (Nat.le_refl _) _⟩
theorem Next_nil (w : World) : Calls Tryd.prog 15 #[.pointer none] w fun e w' => e = .returned (.tuple #[]) ∧ w' = w := by
  go_enter Tryd.func15, Tryd.ntmps15
  go_wp2_with (go_at_call 30; refine (reads_nil _).mono ?_; rintro e w' ⟨rfl, hw⟩; replace hw := hw.symm; subst hw)
  exact bodyPost_end (v := .tuple #[]) (by simp [results, Tryd.results15, go_sem]) rfl ⟨rfl, rfl⟩
theorem End_nil (w : World) : Calls Tryd.prog 16 #[.pointer none] w fun e w' => e = .returned (.tuple #[]) ∧ w' = w := by
  go_enter Tryd.func16, Tryd.ntmps16
  go_wp2_with (go_at_call 12; refine (Lines_nil _).mono ?_; rintro e w' ⟨rfl, hw⟩; replace hw := hw.symm; subst hw)
  exact bodyPost_end (v := .tuple #[]) (by simp [results, Tryd.results16, go_sem]) rfl ⟨rfl, rfl⟩
theorem Fail_nil (w : World) : Calls Tryd.prog 17 #[.pointer none, .int .i64 4] w fun e w' => e = .returned (.tuple #[]) ∧ w' = w := by
  go_enter Tryd.func17, Tryd.ntmps17
  go_wp2_with (go_at_call 12; refine (Lines_nil _).mono ?_; rintro e w' ⟨rfl, hw⟩; replace hw := hw.symm; subst hw)
  exact bodyPost_end (v := .tuple #[]) (by simp [results, Tryd.results17, go_sem]) rfl ⟨rfl, rfl⟩
theorem Take_nil (s : ByteArray) (w : World) : Calls Tryd.prog 14 #[.pointer none, .string s] w fun e w' => e = .returned (.tuple #[]) ∧ Below w.heap.size w w' := by
  go_enter Tryd.func14, Tryd.ntmps14
  go_wp2_with (go_at_call 28; refine (token_nil _).mono ?_; rintro e w1 ⟨rfl, hb1⟩)
  exact bodyPost_end (v := .tuple #[]) (by simp [results, Tryd.results14, go_sem]) rfl ⟨rfl, hb1.alloc hb1.size _⟩
theorem Word_nil (w : World) : Calls Tryd.prog 18 #[.pointer none] w fun e w' => e = .returned (.string { data := #[] }) ∧ Below w.heap.size w w' := by
  go_enter Tryd.func18, Tryd.ntmps18
  go_wp2_with (go_at_call 28; refine (token_nil _).mono ?_; rintro e w1 ⟨rfl, hb1⟩)
  go_ret
  exact ⟨rfl, hb1.alloc hb1.size _⟩
theorem Pick_nil (v : Value) (w : World) : Calls Tryd.prog 19 #[.pointer none, v] w fun e w' => e = .returned (.int .i64 0) ∧ Below w.heap.size w w' := by
  go_enter Tryd.func19, Tryd.ntmps19
  go_wp2_with (go_at_call 28; refine (token_nil _).mono ?_; rintro e w1 ⟨rfl, hb1⟩)
  go_ret
  exact ⟨rfl, hb1.alloc hb1.size _⟩
theorem Count_nil (a b : Int) (w : World) : Calls Tryd.prog 20 #[.pointer none, .int .i64 a, .int .i64 b] w fun e w' => e = .returned (.int .i64 0) ∧ Below w.heap.size w w' := by
  go_enter Tryd.func20, Tryd.ntmps20
  go_wp2_with (go_at_call 28; refine (token_nil _).mono ?_; rintro e w1 ⟨rfl, hb1⟩)
  go_ret
  exact ⟨rfl, hb1.alloc hb1.size _⟩

end Go.Proofs.YtbigickceflflaaDoor
