/-
  Texts of mine.
-/
import Derived.Test.YthkamfddbiheoaaGreatDoorJ4b7db8e470
import Derived.WalkMore
namespace Go.Proofs.YthkamfddbiheoaaGreatDoor
open Go.RowKit
set_option linter.unusedVariables false
set_option linter.unusedSimpArgs false

theorem info_tok : (Tryz.prog.info? 95).map (fun i => (i.zero, i.size, i.bytes)) = some (some (.agg #[.int .i64 0, .int .i64 0, .string ByteArray.empty]), 3, 32) := by kernel_rfl
theorem TOwn.more {B : Nat} {w : World} {v : Value} {n : Nat} {l : List Tok} {t : Tok} (h : w.ownsRow B 95 3 v (l.length + 1) (flatT l ++ cellsT t)) : TOwn B w v (l ++ [t]) := by
 unfold TOwn
 rw [List.length_append, flatT_append, flatT_one]; exact h

theorem TOwn.open {B : Nat} {w : World} {v : Value} {l : List Tok} {N : Nat} (h : TOwn B w v l) (hN : l.length = N) : ∃ ao c, v = .slice ao N c ∧ w.ownsRow B 95 3 (.slice ao N c) N (flatT l) := by
 subst hN
 have hh := h
 rcases h.2 with ⟨h1, h2⟩ | ⟨g, cap, cur, h1, hb, hg, hnc, hcm, rest⟩
 ·subst h1; exact ⟨none, 0, by rw [h2], by rw [h2]; unfold TOwn at hh; rw [h2] at hh; exact hh⟩
 ·subst h1; exact ⟨_, cap, rfl, hh⟩

set_option maxRecDepth 20000 in
set_option maxHeartbeats 2000000 in
theorem wordsOf_at (s : ByteArray) (a n : Nat) (w : World) (ha : a ≤ 4000000) (hs : s.size ≤ 2000000) :
  Calls Tryz.prog 78 #[.string s, .int .i64 (a : Int), .int .i64 (n : Int)] w fun e w' => WordsOut w.heap.size e w' s a n (scan s 0 []) ∧ Below w.heap.size w w' := by
 go_enter Tryz.func78, Tryz.ntmps78
 go_wp2
 go_step3
 go_wp2
 go_step3
 go_wp2
 go_loopw [9, 10] (fun v t wr => ∃ (k : Nat) (l : List (Nat × Nat)), k ≤ s.size ∧ l.length ≤ 4096 ∧ t = .int .i64 (k : Int) ∧ TOwn w.heap.size wr v (toks s a n l) ∧ Below w.heap.size w wr ∧ Hid (scan s 0 [] = scan s k l)) (fun _ t _ => s.size - (intOf t).toNat)
 case atStart => exact ⟨0, [], by omega, by simp, rfl, TOwn.nil _ _, Below.refl _ _, rfl⟩
 case round =>
  obtain ⟨k, l, hk, hl, rfl, ho, BB, HK⟩ := hrel
  by_cases hlt : k < s.size
  ·have hb := bt_at s k hlt
   have hlti : (k : Int) < (s.size : Int) := by omega
   by_cases h1 : blk (bt s k) = true
   ·have HW : Hid (scan s k l = scan s (k + 1) l) := scan_blank hlt h1
    rw [hb] at h1
    clear hb
    go_wp2_with (go_at_call 113; refine (blank_at _ _).mono ?_; rintro e w' ⟨rfl, hw⟩; replace hw := hw.symm; subst hw; rw [h1])
    go_roundw
    case rel => exact ⟨k + 1, l, by omega, hl, by go_num, ho, BB, HK.out.trans HW.out⟩
    case measure => simp [intOf]; omega
   ·have h1' : blk (bt s k) = false := by simpa using h1
    clear h1
    by_cases h2 : bt s k = 35
    ·have HW : Hid (scan s 0 [] = .ok l) := HK.out.trans (scan_hash hlt h2)
     rw [hb] at h1' h2
     have h2i : ((s[k]).toNat : Int) = 35 := by omega
     clear hb
     go_wp2_with (go_at_call 113; refine (blank_at 35 _).mono ?_; rintro e w' ⟨rfl, hw⟩; replace hw := hw.symm; subst hw; rw [show blk 35 = false by decide])
     try rw [Exit.noGoto_ret]
     go_ret3
     exact ⟨by rw [HW.out]; exact ⟨_, rfl, ho⟩, BB⟩
    ·by_cases h3 : inW (bt s k) = true
     ·by_cases h4 : l.length = 4096
      ·have HW : Hid (scan s 0 [] = .limit k) := HK.out.trans (scan_limit hlt h3 (by omega))
       rw [hb] at h1' h2 h3
       have h2i : (((s[k]).toNat : Int) == 35) = false := by simp; omega
       have hc : IntKind.i64.wrap ((a : Int) + (k : Int)) = (a : Int) + (k : Int) := by rw [IntKind.wrap_i64]; omega
       obtain ⟨ao, c, rfl, ho2⟩ := ho.open (toks_length s a n l)
       rw [h4]
       clear hb
       go_wp2_with (first | (go_at_call 113; refine (blank_at _ _).mono ?_; rintro e w' ⟨rfl, hw⟩; replace hw := hw.symm; subst hw; rw [h1']) | (go_at_call 114; refine (linw_at _ _).mono ?_; rintro e w' ⟨rfl, hw⟩; replace hw := hw.symm; subst hw; rw [h3]))
       try rw [Exit.noGoto_ret]
       go_ret3
       exact ⟨by rw [HW.out]; exact rfl, BB⟩
      ·have HW : Hid (scan s 0 [] = scan s (wEnd s k) (l ++ [(k, wEnd s k)])) := HK.out.trans (scan_word hlt h3 (by omega))
       have hgt := wEnd_gt hlt h3
       have hle := wEnd_le s k hk
       rw [hb] at h1' h2 h3
       have h2i : (((s[k]).toNat : Int) == 35) = false := by simp; omega
       have hc : IntKind.i64.wrap ((a : Int) + (k : Int)) = (a : Int) + (k : Int) := by rw [IntKind.wrap_i64]; omega
       obtain ⟨ao, c, rfl, ho2⟩ := ho.open (toks_length s a n l)
       have h4i : ((l.length : Int) == 4096) = false := by simp; omega
       generalize hE : wEnd s k = E at *
       have HE : Hid (wEnd s k = E) := hE
       have c1 : (0 : Int) ≤ (k : Int) := by omega
       have c2 : (k : Int) ≤ (E : Int) := by omega
       have c3 : (E : Int) ≤ (s.size : Int) := by omega
       clear hb hE
       go_wp2_with (first | (go_at_call 113; refine (blank_at _ _).mono ?_; rintro e w' ⟨rfl, hw⟩; replace hw := hw.symm; subst hw; rw [h1']) | (go_at_call 114; refine (linw_at _ _).mono ?_; rintro e w' ⟨rfl, hw⟩; replace hw := hw.symm; subst hw; rw [h3]) | (go_at_call 115; refine (wordEnd_at _ _ _ (by omega) (by omega)).mono ?_; rintro e w' ⟨rfl, hw⟩; replace hw := hw.symm; subst hw; rw [HE.out]) | (at_builtin; refine wpList_append_pure (Q' := fun _ => False) rfl _ _ _ rfl w.heap.size 95 (.agg #[.int .i64 0, .int .i64 0, .string ByteArray.empty]) 3 32 Tryz.underlying119 info_tok rfl (by omega) (.slice ao l.length c) rfl l.length (flatT (toks s a n l)) (ho2.alloc _) (fun _ _ _ _ _ h => h) ⟨wr.heap.size, 0, none⟩ 1 rfl [.int .i64 ((a : Int) + (k : Int)), .int .i64 (n : Int), .string (s.extract k E)] rfl (news_block (heap_alloc_new _ _)) (by simp [Value.oneCell']) (by simp) (by simp) (by omega) (by omega) (by have := BB.size; simp; omega) ?_))
       intro g5 cap5 w5 ho5 hg5 hat5 hp5 hk5
       have B5 : Below w.heap.size w w5 := below_grownB (BB.alloc BB.size _) hg5 (by have := BB.size; simp; omega) (fun g0 hg0 => (ho2.lt g0 hg0).1)
       have E5 : TOwn w.heap.size w5 (.slice (some ⟨g5, 0, none⟩) (l.length + 1) cap5) (toks s a n (l ++ [(k, E)])) := by
        rw [toks_append]
        exact TOwn.more (n := 0) (by rw [toks_length]; exact ho5)
       clear ho ho2 ho5 hg5 hat5 hp5 hk5 BB
       go_wp2
       go_roundw
       case rel => exact ⟨E, l ++ [(k, E)], by omega, by simp; omega, rfl, E5, B5, HW.out⟩
       case measure => simp [intOf]; omega
     ·have h3' : inW (bt s k) = false := by simpa using h3
      have HW : Hid (scan s 0 [] = .form k) := HK.out.trans (scan_form hlt h1' h2 h3')
      rw [hb] at h1' h2 h3'
      have h2i : (((s[k]).toNat : Int) == 35) = false := by simp; omega
      have hc : IntKind.i64.wrap ((a : Int) + (k : Int)) = (a : Int) + (k : Int) := by rw [IntKind.wrap_i64]; omega
      clear hb h3
      go_wp2_with (first | (go_at_call 113; refine (blank_at _ _).mono ?_; rintro e w' ⟨rfl, hw⟩; replace hw := hw.symm; subst hw; rw [h1']) | (go_at_call 114; refine (linw_at _ _).mono ?_; rintro e w' ⟨rfl, hw⟩; replace hw := hw.symm; subst hw; rw [h3']))
      try rw [Exit.noGoto_ret]
      go_ret3
      exact ⟨by rw [HW.out]; exact rfl, BB⟩
  ·have HW : Hid (scan s 0 [] = .ok l) := HK.out.trans (scan_end hlt)
   have hlti : ¬ (k : Int) < (s.size : Int) := by omega
   have hltb : decide ((k : Int) < (s.size : Int)) = false := by simp; omega
   have hltc : decide (k < s.size) = false := by simp; omega
   go_wp2
   go_ret3
   exact ⟨by rw [HW.out]; exact ⟨_, rfl, ho⟩, BB⟩

end Go.Proofs.YthkamfddbiheoaaGreatDoor
