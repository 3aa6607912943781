/-
  Texts of mine.
-/
import Derived.Test.YthkamfddbiheoaaGreatDoorJa3f7135d0b
import Derived.Test.YthkamfddbiheoaaGreatDoorJ93e4e8012c
import Derived.Deep.QuietTactic
import Derived.BigQuiet
import Derived.Test.YthkamfddbiheoaaGreatDoorJ839713949f
import Derived.Test.YthkamfddbiheoaaGreatDoorJa607d653bf
namespace Go.Proofs.YthkamfddbiheoaaGreatDoor
open Go.RowKit
set_option linter.unusedVariables false
set_option linter.unusedSimpArgs false

/-- The cells of words, all of them below block R. -/
def TkS (R : Nat) (w : World) (u : Value) (l : List Tok) : Prop := ∃ ao c, u = .slice ao l.length c ∧ l.length ≤ c ∧ ∀ (j : Nat) t, l[j]? = some t → ∃ g o, ao = some ⟨g, o, none⟩ ∧ g < R ∧ w.cell? ⟨g, o + j * 3, none⟩ = some (.int .i64 (t.1 : Int)) ∧ w.cell? ⟨g, o + j * 3 + 1, none⟩ = some (.int .i64 (t.2.1 : Int)) ∧ w.cell? ⟨g, o + j * 3 + 2, none⟩ = some (.string t.2.2)
/-- The cells of lines. -/
def LnS (R : Nat) (w : World) (v : Value) (L : List (List Tok × Nat)) : Prop := ∃ ao c, v = .slice ao L.length c ∧ L.length ≤ c ∧ c ≤ 9223372036854775807 ∧ ∀ (i : Nat) p, L[i]? = some p → ∃ g o u, ao = some ⟨g, o, none⟩ ∧ g < R ∧ w.cell? ⟨g, o + i * 2, none⟩ = some u ∧ w.cell? ⟨g, o + i * 2 + 1, none⟩ = some (.int .i64 (p.2 : Int)) ∧ TkS R w u p.1
/-- The five cells of a reader. -/
structure V5r (w : World) (R : Nat) (x0 x1 x2 x3 x4 : Value) : Prop where
 c0 : w.cell? ⟨R, 0, none⟩ = some x0
 c1 : w.cell? ⟨R, 1, none⟩ = some x1
 c2 : w.cell? ⟨R, 2, none⟩ = some x2
 c3 : w.cell? ⟨R, 3, none⟩ = some x3
 c4 : w.cell? ⟨R, 4, none⟩ = some x4
 f : ∀ j, w.frozen? ⟨R, j, none⟩ = false
 n : ∀ j, 5 ≤ j → w.cell? ⟨R, j, none⟩ = none
theorem Upd.low {R a b : Nat} {w w' : World} (h : Upd w w' R a b) (hR : R < w.heap.size) : Below R w w' := ⟨h.os, h.tape, h.output, h.size, fun k hk => h.block k (by omega) (by omega)⟩
theorem Upd.cellU {R a b : Nat} {w w' : World} (h : Upd w w' R a b) {g o : Nat} {x : Value} (hg : g ≠ R) (hc : w.cell? ⟨g, o, none⟩ = some x) : w'.cell? ⟨g, o, none⟩ = some x := by
 have hlt := World.block_lt_of_cell? _ _ hc
 rw [World.cell?_of_block (w := w) (h.block g hlt hg)]
 exact hc
theorem TkS.aside {R : Nat} {w w' : World} {u : Value} {l : List Tok} (h : TkS R w u l) (ha : Below R w w') : TkS R w' u l := by
 obtain ⟨ao, c, h1, h2, h3⟩ := h
 refine ⟨ao, c, h1, h2, fun j t hj => ?_⟩
 obtain ⟨g, o, e, hn, a, b, d⟩ := h3 j t hj
 exact ⟨g, o, e, hn, (ha.cell (p := ⟨g, _, none⟩) hn).trans a, (ha.cell (p := ⟨g, _, none⟩) hn).trans b, (ha.cell (p := ⟨g, _, none⟩) hn).trans d⟩
theorem LnS.aside {R : Nat} {w w' : World} {v : Value} {L : List (List Tok × Nat)} (h : LnS R w v L) (ha : Below R w w') : LnS R w' v L := by
 obtain ⟨ao, c, h1, h2, h2', h3⟩ := h
 refine ⟨ao, c, h1, h2, h2', fun i p hi => ?_⟩
 obtain ⟨g, o, u, e, hn, a, b, d⟩ := h3 i p hi
 exact ⟨g, o, u, e, hn, (ha.cell (p := ⟨g, _, none⟩) hn).trans a, (ha.cell (p := ⟨g, _, none⟩) hn).trans b, d.aside ha⟩
theorem LnS.nil (R : Nat) (w : World) : LnS R w (.slice none 0 0) [] := ⟨none, 0, rfl, Nat.le_refl _, by omega, fun i p hi => by simp at hi⟩
theorem LnS.tail {R : Nat} {w : World} {a : Option Addr} {n c : Nat} {p : List Tok × Nat} {L : List (List Tok × Nat)} (h : LnS R w (.slice a n c) (p :: L)) : ∃ g o, a = some ⟨g, o, none⟩ ∧ n = L.length + 1 ∧ L.length + 1 ≤ c ∧ c ≤ 9223372036854775807 ∧ LnS R w (.slice (some ⟨g, o + 2, none⟩) L.length (c - 1)) L := by
 obtain ⟨ao, c', h1, h2, h2', h3⟩ := h
 injection h1 with e1 e2 e3
 subst e1 e2 e3
 obtain ⟨g, o, u, e, hn, _⟩ := h3 0 p rfl
 rw [List.length_cons] at h2
 refine ⟨g, o, e, rfl, h2, h2', _, _, rfl, by omega, by omega, fun i q hi => ?_⟩
 obtain ⟨g', o', u', e', hn', a', b', d'⟩ := h3 (i + 1) q (by simpa using hi)
 rw [e] at e'
 injection e' with e'
 injection e' with eg eo
 subst eg eo
 refine ⟨g, o + 2, u', rfl, hn', ?_, ?_, d'⟩
 ·rw [show o + 2 + i * 2 = o + (i + 1) * 2 by omega]; exact a'
 ·rw [show o + 2 + i * 2 + 1 = o + (i + 1) * 2 + 1 by omega]; exact b'
/-- The first line. -/
theorem LnS.first {R : Nat} {w : World} {v : Value} {p : List Tok × Nat} {L : List (List Tok × Nat)} (h : LnS R w v (p :: L)) : ∃ g o c u, v = .slice (some ⟨g, o, none⟩) (L.length + 1) c ∧ L.length + 1 ≤ c ∧ w.cell? ⟨g, o, none⟩ = some u ∧ w.cell? ⟨g, o + 1, none⟩ = some (.int .i64 (p.2 : Int)) ∧ TkS R w u p.1 := by
 obtain ⟨ao, c, h1, h2, h2', h3⟩ := h
 obtain ⟨g, o, u, e, hn, a, b, d⟩ := h3 0 p rfl
 subst e
 rw [Nat.zero_mul, Nat.add_zero] at a b
 exact ⟨g, o, c, u, h1, h2, a, b, d⟩
theorem TkS.form {R : Nat} {w : World} {u : Value} {l : List Tok} (h : TkS R w u l) : ∃ a c, u = .slice a l.length c := by
 obtain ⟨ao, c, h1, _⟩ := h
 exact ⟨_, _, h1⟩
theorem TkS.at {R : Nat} {w : World} {u : Value} {l : List Tok} (h : TkS R w u l) {j : Nat} {t : Tok} (hj : l[j]? = some t) : ∃ g o c, u = .slice (some ⟨g, o, none⟩) l.length c ∧ w.cell? ⟨g, o + j * 3, none⟩ = some (.int .i64 (t.1 : Int)) ∧ w.cell? ⟨g, o + j * 3 + 1, none⟩ = some (.int .i64 (t.2.1 : Int)) ∧ w.cell? ⟨g, o + j * 3 + 2, none⟩ = some (.string t.2.2) := by
 obtain ⟨ao, c, h1, h2, h3⟩ := h
 obtain ⟨g, o, e, hn, a, b, d⟩ := h3 j t hj
 subst e
 exact ⟨g, o, c, h1, a, b, d⟩
/-- A reader in memory. -/
def RM (w : World) (R : Nat) (r : Rd) : Prop := ∃ v, LnS R w v r.L ∧ V5r w R v (.int .i64 (r.k : Int)) (.int .i64 (r.len : Int)) (.int .i64 (r.err : Int)) (.int .i64 (r.at_ : Int))
theorem V5r.lt {w : World} {R : Nat} {x0 x1 x2 x3 x4 : Value} (h : V5r w R x0 x1 x2 x3 x4) : R < w.heap.size := World.block_lt_of_cell? _ _ h.c0
theorem V5r.low {w w' : World} {R : Nat} {x0 x1 x2 x3 x4 : Value} (h : V5r w R x0 x1 x2 x3 x4) (hb : Below (R + 1) w w') : V5r w' R x0 x1 x2 x3 x4 :=
 have e := hb.block R (by omega)
 ⟨(World.cell?_of_block e).trans h.c0, (World.cell?_of_block e).trans h.c1, (World.cell?_of_block e).trans h.c2, (World.cell?_of_block e).trans h.c3, (World.cell?_of_block e).trans h.c4, fun j => (World.frozen?_of_block e).trans (h.f j), fun j hj => (World.cell?_of_block e).trans (h.n j hj)⟩
theorem RM.lt {w : World} {R : Nat} {r : Rd} (h : RM w R r) : R < w.heap.size := by obtain ⟨v, _, hv⟩ := h; exact hv.lt
/-- What lies behind the reader was written, or nothing. -/
theorem RM.low {w w' : World} {R : Nat} {r : Rd} (h : RM w R r) (hb : Below (R + 1) w w') : RM w' R r := by
 obtain ⟨v, h1, h2⟩ := h
 exact ⟨v, h1.aside (hb.mono (by omega)), h2.low hb⟩
theorem RM.below {w w' : World} {R : Nat} {r : Rd} (h : RM w R r) (hb : Below w.heap.size w w') : RM w' R r := h.low (hb.mono (by have := h.lt; omega))
/-- What a reader's call leaves as it was: the limbs of all numbers. -/
theorem RM.keepQ {w w' : World} {R : Nat} {r : Rd} (h : RM w R r) (u : Upd w w' R 0 5) : KeepQ IsLimb w w' := by
 intro b o x hx hc
 by_cases e : b = R
 ·subst e
  obtain ⟨v, hl, hv⟩ := h
  obtain ⟨ao, c, rfl, _⟩ := hl
  rcases Nat.lt_or_ge o 5 with h5 | h5
  ·exfalso
   rcases (show o = 0 ∨ o = 1 ∨ o = 2 ∨ o = 3 ∨ o = 4 by omega) with rfl | rfl | rfl | rfl | rfl
   ·rw [hv.c0] at hc; cases hc; exact limb_slice _ _ _ hx
   ·rw [hv.c1] at hc; cases hc; exact limb_int _ hx
   ·rw [hv.c2] at hc; cases hc; exact limb_int _ hx
   ·rw [hv.c3] at hc; cases hc; exact limb_int _ hx
   ·rw [hv.c4] at hc; cases hc; exact limb_int _ hx
  ·rw [hv.n o h5] at hc; cases hc
 ·exact u.cellU e hc
/-- Rows of the call's own that lie behind a reader. -/
theorem owns_upd {B k R a b : Nat} {e : TypeId} {w w' : World} {v : Value} {n : Nat} {us : List Value} (h : w.ownsRow B e k v n us) (u : Upd w w' R a b) (hR : R < B) : w'.ownsRow B e k v n us := by
 refine ⟨h.1, ?_⟩
 rcases h.2 with h1 | ⟨g, cap, cur, h1, h2, h3, h4⟩
 ·exact .inl h1
 ·refine .inr ⟨g, cap, cur, h1, h2, ?_, h4⟩
  have hlt : g < w.heap.size := by
   rcases Nat.lt_or_ge g w.heap.size with h | h
   ·exact h
   ·rw [Array.getElem?_eq_none h] at h3; cases h3
  rw [u.block g hlt (by omega)]
  exact h3
theorem TTr.upd {B R a b : Nat} {w w' : World} {v : Value} {l : List TidN} (h : TTr B w v l) (u : Upd w w' R a b) (hR : R < B) (hk : KeepQ IsLimb w w') : TTr B w' v l := by
 obtain ⟨cs, h1, h2, h3⟩ := h
 refine ⟨cs, owns_upd h1 u hR, fun g hg o x hx => ?_, fun i d hi => tnodeEl.keep (h3 i d hi) hk⟩
 have hlt := World.ownsRow.lt h1 g hg
 rw [World.cell?_of_block (w := w) (u.block g hlt.2 (by omega))] at hx
 exact h2 g hg o x hx
theorem TMo.upd {B R a b : Nat} {w w' : World} {v : Value} {ls : List (List TidN)} (h : TMo B w v ls) (u : Upd w w' R a b) (hR : R < B) (hk : KeepQ IsLimb w w') : TMo B w' v ls := by
 obtain ⟨us, h1, h2, h3⟩ := h
 refine ⟨us, owns_upd h1 u hR, fun g hg o x hx => ?_, fun i l hi => let ⟨y, a1, b1⟩ := h3 i l hi; ⟨y, a1, b1.upd u hR hk⟩⟩
 have hlt := World.ownsRow.lt h1 g hg
 rw [World.cell?_of_block (w := w) (u.block g hlt.2 (by omega))] at hx
 exact h2 g hg o x hx
/-- The lines of the call's own, for a reader that is made behind them. -/
theorem LOwn.lns {B R : Nat} {w : World} {v : Value} {L : List (List Tok × Nat)} (h : LOwn B w v L) (hR : w.heap.size ≤ R) : LnS R w v L := by
 obtain ⟨us, o, ht⟩ := h
 have hlt := World.ownsRow.lt o
 have ol := o.1
 have o' := o
 rcases o.2 with ⟨rfl, e⟩ | ⟨g, cap, cur, rfl, hB, hg, hc, hm, _⟩
 ·have : L = [] := List.eq_nil_of_length_eq_zero e
  subst this
  exact LnS.nil _ _
 ·refine ⟨_, cap, rfl, hc, by unfold maxLen at hm; omega, fun i p hi => ?_⟩
  obtain ⟨u, h1, h2, h3⟩ := ht i p hi
  have hgR : g < R := by have := (hlt g rfl).2; omega
  refine ⟨g, 0, u, rfl, hgR, ?_, ?_, ?_⟩
  ·rw [Nat.zero_add]; exact owns_cell o' h1
  ·rw [Nat.zero_add]; exact owns_cell o' h2
  ·have q := h3
   have qlt := World.ownsRow.lt q
   rcases q.2 with ⟨rfl, e⟩ | ⟨g2, cap2, cur2, rfl, hB2, hg2, hc2, hm2, _⟩
   ·have : p.1 = [] := List.eq_nil_of_length_eq_zero e
    exact ⟨none, 0, by rw [this]; rfl, by rw [this]; exact Nat.le_refl _, fun j t hj => by rw [this] at hj; simp at hj⟩
   ·refine ⟨_, cap2, rfl, hc2, fun j t hj => ⟨g2, 0, rfl, by have := (qlt g2 rfl).2; omega, ?_, ?_, ?_⟩⟩
    ·rw [Nat.zero_add]; exact owns_cell h3 ((flatT_at p.1 j t hj 0 (by omega)).trans rfl)
    ·rw [Nat.zero_add]; exact owns_cell h3 ((flatT_at p.1 j t hj 1 (by omega)).trans rfl)
    ·rw [Nat.zero_add]; exact owns_cell h3 ((flatT_at p.1 j t hj 2 (by omega)).trans rfl)

theorem below_drew6 {B : Nat} {a w : World} (h : Below B a w) (n : Nat) : Below B a (w.drewN n) := h.trans ⟨rfl, rfl, rfl, Nat.le_refl _, fun _ _ => rfl⟩
theorem RM.drewN {w : World} {R : Nat} {r : Rd} (h : RM w R r) (n : Nat) : RM (w.drewN n) R r := h.below (below_drew6 (Below.refl _ _) n)
theorem LnS.form {R : Nat} {w : World} {v : Value} {L : List (List Tok × Nat)} (h : LnS R w v L) : ∃ a c, v = .slice a L.length c := by
 obtain ⟨ao, c, h1, _⟩ := h
 exact ⟨_, _, h1⟩
theorem Lines_at {w : World} {R : Nat} {r : Rd} (h : RM w R r) : Calls Tryz.prog 57 #[.pointer (some ⟨R, 0, none⟩)] w fun e w' => e = .returned (.int .i64 (r.L.length : Int)) ∧ w' = w := by
 obtain ⟨v, hl, hv⟩ := h
 obtain ⟨a, c, rfl⟩ := hl.form
 have z0 := hv.c0
 go_enter Tryz.func57, Tryz.ntmps57
 go_wp2
 go_ret
 exact ⟨rfl, rfl⟩
theorem reads_at {w : World} {R : Nat} {r : Rd} (h : RM w R r) : Calls Tryz.prog 54 #[.pointer (some ⟨R, 0, none⟩)] w fun e w' => e = .returned (.bool (decide (r.err = 0))) ∧ w' = w := by
 obtain ⟨v, hl, hv⟩ := h
 have z3 := hv.c3
 by_cases h0 : r.err = 0
 ·rw [h0] at z3 ⊢
  go_enter Tryz.func54, Tryz.ntmps54
  go_wp2
  go_ret
  exact ⟨rfl, rfl⟩
 ·have hb : ((r.err : Int) == 0) = false := by simp [h0]
  have hd : decide (r.err = 0) = false := decide_eq_false h0
  rw [hd]
  generalize (r.err : Int) = E at *
  clear hd h0
  go_enter Tryz.func54, Tryz.ntmps54
  go_wp2
  go_ret
  exact ⟨rfl, rfl⟩
theorem Err_at {w : World} {R : Nat} {r : Rd} (h : RM w R r) : Calls Tryz.prog 26 #[.pointer (some ⟨R, 0, none⟩)] w fun e w' => e = .returned (.tuple #[.int .i64 (r.err : Int), .int .i64 (r.at_ : Int)]) ∧ Below w.heap.size w w' := by
 obtain ⟨v, hl, hv⟩ := h
 have z3 := hv.c3
 have z4 := hv.c4
 go_enter Tryz.func26, Tryz.ntmps26
 go_wp2
 go_quiet (fail)
 go_wp2
 go_ret2
 exact ⟨rfl, below_drew6 (Below.refl _ _) _⟩
theorem cur_nil {r : Rd} (h : r.L = []) : r.cur = none := by unfold Rd.cur; rw [h]
theorem cur_cons {r : Rd} {l : List Tok × Nat} {L : List (List Tok × Nat)} (h : r.L = l :: L) : r.cur = l.1[r.k]? := by unfold Rd.cur; rw [h]
theorem More_at {w : World} {R : Nat} {r : Rd} (h : RM w R r) : Calls Tryz.prog 55 #[.pointer (some ⟨R, 0, none⟩)] w fun e w' => e = .returned (.bool r.cur.isSome) ∧ ∃ m, w' = w.drewN m := by
 have HL : ∀ n, Calls Tryz.prog 57 #[.pointer (some ⟨R, 0, none⟩)] (w.drewN n) fun e w' => e = .returned (.int .i64 (r.L.length : Int)) ∧ w' = w.drewN n := fun n => Lines_at (h.drewN n)
 obtain ⟨v, hl, hv⟩ := h
 have z0 := hv.c0
 have z1 := hv.c1
 cases hL : r.L with
 | nil =>
  rw [cur_nil hL]
  rw [hL] at HL
  have HLH : Hid (∀ n, Calls Tryz.prog 57 #[.pointer (some ⟨R, 0, none⟩)] (w.drewN n) fun e w' => e = .returned (.int .i64 0) ∧ w' = w.drewN n) := HL
  clear HL hv hl hL
  go_enter Tryz.func55, Tryz.ntmps55
  go_wp2
  go_quiet ((go_at_call 57; exact Calls.quiet_of_same (HLH.out _)))
  go_wp2
  go_ret
  exact ⟨rfl, _, rfl⟩
 | cons l L =>
  rw [cur_cons hL]
  rw [hL] at HL hl
  obtain ⟨g, o, c, u, rfl, hc, cu, ce, tk⟩ := hl.first
  obtain ⟨tb, tc, rfl⟩ := tk.form
  have HLH : Hid (∀ n, Calls Tryz.prog 57 #[.pointer (some ⟨R, 0, none⟩)] (w.drewN n) fun e w' => e = .returned (.int .i64 ((L.length : Int) + 1)) ∧ w' = w.drewN n) := by
   intro n
   have := HL n
   rw [List.length_cons] at this
   exact this
  have hi : l.1[r.k]?.isSome = decide (r.k < l.1.length) := by
   by_cases hk : r.k < l.1.length
   ·rw [List.getElem?_eq_getElem hk, decide_eq_true hk]; rfl
   ·rw [List.getElem?_eq_none (by omega), decide_eq_false hk]; rfl
  rw [hi]
  have g1 : (0 : Int) < (L.length : Int) + 1 := by omega
  have g2 : decide ((0 : Int) < (L.length : Int) + 1) = true := decide_eq_true g1
  have g3 : (0 : Nat) < L.length + 1 := by omega
  clear HL hv hl hL hi ce tk
  generalize hn : L.length + 1 = n at *
  have HN : Hid (L.length + 1 = n) := hn
  have g4 : (0 : Int) < (n : Int) := by omega
  clear hn
  by_cases hk : r.k < l.1.length
  ·have hki : (r.k : Int) < (l.1.length : Int) := by omega
   rw [decide_eq_true hk]
   generalize l.1.length = m at *
   generalize r.k = k at *
   go_enter Tryz.func55, Tryz.ntmps55
   go_wp2
   go_quiet ((go_at_call 57; exact Calls.quiet_of_same (HLH.out _)))
   go_wp2
   go_ret
   exact ⟨rfl, _, rfl⟩
  ·have hki : ¬ (r.k : Int) < (l.1.length : Int) := by omega
   have hkd : decide ((r.k : Int) < (l.1.length : Int)) = false := decide_eq_false hki
   rw [decide_eq_false hk]
   generalize l.1.length = m at *
   generalize r.k = k at *
   go_enter Tryz.func55, Tryz.ntmps55
   go_wp2
   go_quiet ((go_at_call 57; exact Calls.quiet_of_same (HLH.out _)))
   go_wp2
   go_ret
   exact ⟨rfl, _, rfl⟩

theorem upd_set6 (w : World) (R j : Nat) (hj : j < 5) (u : Value) : Upd w (w.setCell ⟨R, j, none⟩ u) R 0 5 := by
 have := Upd.set (w := w) (b := R) (off := 0) (n := 5) j hj u
 rwa [Nat.zero_add] at this
section
variable {w : World} {R : Nat} {x0 x1 x2 x3 x4 : Value}
theorem none_by {w : World} {R i j : Nat} {u : Value} (h : w.cell? ⟨R, i, none⟩ = none) (hij : i ≠ j) : (w.setCell ⟨R, j, none⟩ u).cell? ⟨R, i, none⟩ = none := by
 rw [World.cell?_setCell_other _ _ _ _ (fun e => by injection e; omega)]; exact h
theorem V5r.s0 (h : V5r w R x0 x1 x2 x3 x4) (u : Value) : V5r (w.setCell ⟨R, 0, none⟩ u) R u x1 x2 x3 x4 := ⟨cell_set_at h.c0, cell_set_by h.c1 (by omega), cell_set_by h.c2 (by omega), cell_set_by h.c3 (by omega), cell_set_by h.c4 (by omega), fun j => by simp [h.f j], fun j hj => none_by (h.n j hj) (by omega)⟩
theorem V5r.s1 (h : V5r w R x0 x1 x2 x3 x4) (u : Value) : V5r (w.setCell ⟨R, 1, none⟩ u) R x0 u x2 x3 x4 := ⟨cell_set_by h.c0 (by omega), cell_set_at h.c1, cell_set_by h.c2 (by omega), cell_set_by h.c3 (by omega), cell_set_by h.c4 (by omega), fun j => by simp [h.f j], fun j hj => none_by (h.n j hj) (by omega)⟩
theorem V5r.s3 (h : V5r w R x0 x1 x2 x3 x4) (u : Value) : V5r (w.setCell ⟨R, 3, none⟩ u) R x0 x1 x2 u x4 := ⟨cell_set_by h.c0 (by omega), cell_set_by h.c1 (by omega), cell_set_by h.c2 (by omega), cell_set_at h.c3, cell_set_by h.c4 (by omega), fun j => by simp [h.f j], fun j hj => none_by (h.n j hj) (by omega)⟩
theorem V5r.s4 (h : V5r w R x0 x1 x2 x3 x4) (u : Value) : V5r (w.setCell ⟨R, 4, none⟩ u) R x0 x1 x2 x3 u := ⟨cell_set_by h.c0 (by omega), cell_set_by h.c1 (by omega), cell_set_by h.c2 (by omega), cell_set_by h.c3 (by omega), cell_set_at h.c4, fun j => by simp [h.f j], fun j hj => none_by (h.n j hj) (by omega)⟩
end
theorem stop_at {w : World} {R : Nat} {r : Rd} (e a : Nat) (h : RM w R r) : Calls Tryz.prog 53 #[.pointer (some ⟨R, 0, none⟩), .int .i64 (e : Int), .int .i64 (a : Int)] w fun e' w' => e' = .returned (.tuple #[]) ∧ RM w' R (r.stop e a) ∧ Upd w w' R 0 5 := by
 obtain ⟨v, hl, hv⟩ := h
 have z0 := hv.c0
 have z3 := hv.c3
 have z4 := hv.c4
 have f0 := hv.f 0
 have f3 := hv.f 3
 have f4 := hv.f 4
 have h1 := hv.s3 (.int .i64 (e : Int))
 have h2 := h1.s4 (.int .i64 (a : Int))
 have h3 := h2.s0 (.slice none 0 0)
 have u1 := (upd_set6 w R 3 (by omega) (.int .i64 (e : Int))).trans ((upd_set6 _ R 4 (by omega) (.int .i64 (a : Int))).trans (upd_set6 _ R 0 (by omega) (.slice none 0 0)))
 go_enter Tryz.func53, Tryz.ntmps53
 go_wp2
 exact bodyPost_end (v := .tuple #[]) (by simp [results, Tryz.results53, go_sem]) rfl ⟨rfl, ⟨_, LnS.nil _ _, h3⟩, u1⟩
theorem here_some {r : Rd} {t : Tok} (h : r.cur = some t) : r.here = t.1 := by unfold Rd.here; rw [h]
theorem here_line {r : Rd} {l : List Tok × Nat} {L : List (List Tok × Nat)} (h : r.cur = none) (hL : r.L = l :: L) : r.here = l.2 := by unfold Rd.here; rw [h, hL]
theorem here_none {r : Rd} (h : r.cur = none) (hL : r.L = []) : r.here = r.len := by unfold Rd.here; rw [h, hL]
theorem here_at {w : World} {R : Nat} {r : Rd} (h : RM w R r) : Calls Tryz.prog 56 #[.pointer (some ⟨R, 0, none⟩)] w fun e w' => e = .returned (.int .i64 (r.here : Int)) ∧ Below w.heap.size w w' := by
 have cm := More_at h
 cases hc : r.cur with
 | some t =>
  rw [here_some hc]
  rw [hc] at cm
  have CM : Hid _ := cm
  obtain ⟨v, hl, hv⟩ := h
  have z0 := hv.c0
  have z1 := hv.c1
  cases hL : r.L with
  | nil => rw [cur_nil hL] at hc; cases hc
  | cons l L =>
   rw [cur_cons hL] at hc
   rw [hL] at hl
   obtain ⟨g, o, c, u, rfl, hcc, cu, ce, tk⟩ := hl.first
   obtain ⟨g2, o2, c2, rfl, t0, _, _⟩ := tk.at hc
   have hk := (List.getElem?_eq_some_iff.1 hc).1
   have hki : (r.k : Int) < (l.1.length : Int) := by omega
   have hk0 : (0 : Int) ≤ (r.k : Int) := by omega
   have g1 : (0 : Int) < ((L.length + 1 : Nat) : Int) := by omega
   clear hl hv tk hc hL ce cm
   generalize hn : L.length + 1 = n at *
   clear hn
   generalize l.1.length = m at *
   generalize r.k = k at *
   go_enter Tryz.func56, Tryz.ntmps56
   go_wp2_with fail
   refine Calls.mono CM.out ?_
   rintro e w1 ⟨rfl, q, hw⟩
   have BB : Below w.heap.size w w1 := by rw [hw]; exact below_drew6 (Below.refl _ _) _
   replace z0 := cell_later BB z0
   replace z1 := cell_later BB z1
   replace cu := cell_later BB cu
   replace t0 := cell_later BB t0
   clear hw CM
   go_wp2_with fail
   go_quiet (fail)
   go_wp2
   go_ret
   exact ⟨rfl, below_drew6 BB _⟩
 | none =>
  rw [hc] at cm
  have CM : Hid _ := cm
  have h0 := h
  obtain ⟨v, hl, hv⟩ := h
  cases hL : r.L with
  | nil =>
   rw [here_none hc hL]
   have CL := fun W (hW : RM W R r) => Lines_at hW
   rw [hL] at CL
   have CLH : Hid _ := CL
   have z2 := hv.c2
   clear hl hv CL cm hc hL
   go_enter Tryz.func56, Tryz.ntmps56
   go_wp2_with fail
   refine Calls.mono CM.out ?_
   rintro e w1 ⟨rfl, q, hw⟩
   have BB : Below w.heap.size w w1 := by rw [hw]; exact below_drew6 (Below.refl _ _) _
   have h1 := h0.below BB
   replace z2 := cell_later BB z2
   clear hw CM h0
   go_wp2_with fail
   refine Calls.mono (CLH.out _ h1) ?_
   rintro e w2 ⟨rfl, hw⟩
   replace hw := hw.symm
   subst hw
   go_wp2
   go_ret
   exact ⟨rfl, BB⟩
  | cons l L =>
   rw [here_line hc hL]
   have CL := fun W (hW : RM W R r) => Lines_at hW
   rw [hL, List.length_cons] at CL
   have CLH : Hid _ := CL
   rw [hL] at hl
   obtain ⟨g, o, c, u, rfl, hcc, cu, ce, tk⟩ := hl.first
   have z0 := hv.c0
   have g1 : (0 : Int) < ((L.length + 1 : Nat) : Int) := by omega
   clear hl hv CL cm hc hL tk cu
   generalize hn : L.length + 1 = n at *
   clear hn
   go_enter Tryz.func56, Tryz.ntmps56
   go_wp2_with fail
   refine Calls.mono CM.out ?_
   rintro e w1 ⟨rfl, q, hw⟩
   have BB : Below w.heap.size w w1 := by rw [hw]; exact below_drew6 (Below.refl _ _) _
   have h1 := h0.below BB
   replace z0 := cell_later BB z0
   replace ce := cell_later BB ce
   clear hw CM h0
   go_wp2_with fail
   refine Calls.mono (CLH.out _ h1) ?_
   rintro e w2 ⟨rfl, hw⟩
   replace hw := hw.symm
   subst hw
   go_wp2
   go_ret
   exact ⟨rfl, BB⟩

/-- Since w0 of what was there only the reader's cells have turned. -/
def UpW (w0 : World) (R : Nat) (w : World) : Prop := R < w0.heap.size ∧ Upd w0 w R 0 5
theorem UpW.refl {w : World} {R : Nat} (h : R < w.heap.size) : UpW w R w := ⟨h, Upd.refl _ _ _ _⟩
theorem UpW.size {w0 w : World} {R : Nat} (h : UpW w0 R w) : w0.heap.size ≤ w.heap.size := h.2.size
theorem UpW.below {w0 w w' : World} {R : Nat} (h : UpW w0 R w) (hb : Below w.heap.size w w') : UpW w0 R w' := ⟨h.1, h.2.trans (Upd.of_below hb (Nat.lt_of_lt_of_le h.1 h.2.size))⟩
theorem UpW.step {w0 w w' : World} {R : Nat} (h : UpW w0 R w) (u : Upd w w' R 0 5) : UpW w0 R w' := ⟨h.1, h.2.trans u⟩
theorem UpW.trans {w0 w w' : World} {R : Nat} (h : UpW w0 R w) (u : UpW w R w') : UpW w0 R w' := h.step u.2
theorem UpW.new {w0 w : World} {R RT : Nat} (h : UpW w0 R w) (hT : w0.heap.size ≤ RT) (j : Nat) (u : Value) : UpW w0 R (w.setCell ⟨RT, j, none⟩ u) := by
 have h1 := h.1
 exact ⟨h.1, h.2.os, h.2.tape, h.2.output, by have := h.2.size; simpa using this, fun k hk hn => (Below.heap_setCell _ _ _ _ (by show k ≠ RT; omega)).trans (h.2.block k hk hn), fun o ho => (World.cell?_setCell_other _ _ _ _ (fun e => by injection e; omega)).trans (h.2.cell o ho), fun o => by have := h.2.froz o; simpa using this⟩
theorem UpW.low {w0 w : World} {R : Nat} (h : UpW w0 R w) : Below R w0 w := Upd.low h.2 h.1
theorem V3.upd {w w' : World} {R RT a b : Nat} {x y z : Value} (h : V3 w RT x y z) (u : Upd w w' R a b) (hn : RT ≠ R) : V3 w' RT x y z := by
 have e := u.block RT h.lt hn
 obtain ⟨h1, h2, h3, h4, h5, h6⟩ := h
 exact ⟨(World.cell?_of_block e).trans h1, (World.cell?_of_block e).trans h2, (World.cell?_of_block e).trans h3, (World.frozen?_of_block e).trans h4, (World.frozen?_of_block e).trans h5, (World.frozen?_of_block e).trans h6⟩
theorem low_put3 {B RT : Nat} {w : World} (h : B ≤ RT) (u0 u1 u2 : Value) : Below B w (((w.setCell ⟨RT, 0, none⟩ u0).setCell ⟨RT, 1, none⟩ u1).setCell ⟨RT, 2, none⟩ u2) := (((Below.refl _ _).setCell (p := ⟨RT, 0, none⟩) h _).setCell (p := ⟨RT, 1, none⟩) h _).setCell (p := ⟨RT, 2, none⟩) h _
theorem UpW.put3 {w0 w : World} {R RT : Nat} (h : UpW w0 R w) (hT : w0.heap.size ≤ RT) (u0 u1 u2 : Value) : UpW w0 R (((w.setCell ⟨RT, 0, none⟩ u0).setCell ⟨RT, 1, none⟩ u1).setCell ⟨RT, 2, none⟩ u2) := ((h.new hT 0 u0).new hT 1 u1).new hT 2 u2
/-- A word, or none. -/
def tokv : Option Tok → Value
 | some t => .agg #[.int .i64 (t.1 : Int), .int .i64 (t.2.1 : Int), .string t.2.2]
 | none => .agg #[.int .i64 0, .int .i64 0, .string { data := #[] }]
theorem tok_err {r : Rd} (h : ¬ r.err = 0) : r.tok = (none, r) := Rd.tok_no h
theorem tok_none {r : Rd} (h : r.err = 0) (hc : r.cur = none) : r.tok = (none, r.stop 9 r.here) := by unfold Rd.tok; rw [if_pos h, hc]
theorem tok_some {r : Rd} {t : Tok} (h : r.err = 0) (hc : r.cur = some t) : r.tok = (some t, ⟨r.L, r.k + 1, r.len, r.err, r.at_⟩) := by unfold Rd.tok; rw [if_pos h, hc]
def TokOut (w : World) (R : Nat) (p : Option Tok × Rd) (e : Ending) (w' : World) : Prop := e = .returned (.tuple #[tokv p.1, .bool p.1.isSome]) ∧ RM w' R p.2 ∧ UpW w R w'

set_option maxRecDepth 20000 in
set_option maxHeartbeats 1000000 in
theorem token_err {w : World} {R : Nat} {r : Rd} (h : RM w R r) (he : ¬ r.err = 0) : Calls Tryz.prog 52 #[.pointer (some ⟨R, 0, none⟩)] w (TokOut w R r.tok) := by
 have hlt := h.lt
 have h0 := h
 obtain ⟨W0, hW0, hS0, hL0, VT⟩ := V3.lay w 95 (.int .i64 0) (.int .i64 0) (.string { data := #[] })
 have h1 := h.below hL0
 have CR := reads_at h1
 rw [decide_eq_false he] at CR
 have CRH : Hid _ := CR
 clear CR h
 obtain ⟨q1, q2, q3, q4, q5, q6⟩ := id VT
 rw [hW0] at q1 q2 q3 q4 q5 q6
 rw [hW0] at CRH
 have BB := hL0
 rw [hW0] at BB
 rw [tok_err he]
 go_enter Tryz.func52, Tryz.ntmps52
 go_wp2_with fail
 refine Calls.mono CRH.out ?_
 rintro e w1 ⟨rfl, hw⟩
 replace hw := hw.symm
 subst hw
 go_wp2
 (try simp only [Exit.inBlock, Exit.then])
 refine bodyPost_ret (v := .tuple #[.agg #[.int .i64 0, .int .i64 0, .string { data := #[] }], .bool false]) (by simp [results, Tryz.results52, go_sem, q1, q2, q3]) rfl ?_
 exact ⟨rfl, h0.below BB, (UpW.refl hlt).below BB⟩
set_option maxRecDepth 20000 in
set_option maxHeartbeats 1000000 in
theorem token_none {w : World} {R : Nat} {r : Rd} (h : RM w R r) (he : r.err = 0) (hc : r.cur = none) : Calls Tryz.prog 52 #[.pointer (some ⟨R, 0, none⟩)] w (TokOut w R r.tok) := by
 have hlt := h.lt
 have h0 := h
 obtain ⟨W0, hW0, hS0, hL0, VT⟩ := V3.lay w 95 (.int .i64 0) (.int .i64 0) (.string { data := #[] })
 have h1 := h.below hL0
 have CR := reads_at h1
 rw [decide_eq_true he] at CR
 have CRH : Hid _ := CR
 have CM := More_at h1
 rw [hc] at CM
 have CMH : Hid _ := CM
 rw [tok_none he hc]
 have HOUT : Hid (TokOut w R (none, r.stop 9 r.here) = TokOut w R (none, r.stop 9 r.here)) := rfl
 generalize hHP : r.here = hp at HOUT ⊢
 have HHP : Hid (r.here = hp) := hHP
 have U : UpW w R W0 := (UpW.refl hlt).below hL0
 clear CR CM h hc he hHP HOUT
 go_enter Tryz.func52, Tryz.ntmps52
 go_wp2_with fail
 rw [← hW0]
 obtain ⟨RT, hRT⟩ : ∃ RT, w.heap.size = RT := ⟨_, rfl⟩
 have HRT : Hid (w.heap.size = RT) := hRT
 rw [hRT]
 rw [hRT] at VT
 clear hW0 hS0 hL0 hRT
 refine Calls.mono CRH.out ?_
 rintro e w1 ⟨rfl, hw⟩
 replace hw := hw.symm
 subst hw
 go_wp2_with fail
 refine Calls.mono CMH.out ?_
 rintro e w1 ⟨rfl, q, hw⟩
 have b1 : Below W0.heap.size W0 w1 := by rw [hw]; exact below_drew6 (Below.refl _ _) _
 replace h1 := h1.below b1
 replace VT := VT.below b1
 replace U := U.below b1
 clear hw b1 CRH CMH
 go_wp2_with fail
 refine (here_at h1).mono ?_
 rintro e w2 ⟨rfl, b2⟩
 replace h1 := h1.below b2
 replace VT := VT.below b2
 replace U := U.below b2
 rw [HHP.out]
 clear b2
 go_wp2_with fail
 refine (stop_at 9 hp h1).mono ?_
 rintro e w3 ⟨rfl, h3, u3⟩
 replace VT := VT.upd u3 (by have := HRT.out; omega)
 replace U := U.step u3
 clear h1 u3
 obtain ⟨q1, q2, q3, q4, q5, q6⟩ := id VT
 have VT2 := VT.same (.int .i64 0) (.int .i64 0) (.string { data := #[] })
 obtain ⟨y1, y2, y3, y4, y5, y6⟩ := id VT2
 go_wp2
 (try simp only [Exit.inBlock, Exit.then])
 refine bodyPost_ret (v := .tuple #[.agg #[.int .i64 0, .int .i64 0, .string { data := #[] }], .bool false]) (by simp [results, Tryz.results52, go_sem, y1, y2, y3]) rfl ?_
 exact ⟨rfl, h3.low (low_put3 (by have := HRT.out; omega) _ _ _), U.put3 (by have := HRT.out; omega) _ _ _⟩

theorem LnS.firstL {R : Nat} {w : World} {v : Value} {p : List Tok × Nat} {L : List (List Tok × Nat)} (h : LnS R w v (p :: L)) : ∃ g o c u, v = .slice (some ⟨g, o, none⟩) (L.length + 1) c ∧ L.length + 1 ≤ c ∧ g < R ∧ w.cell? ⟨g, o, none⟩ = some u ∧ w.cell? ⟨g, o + 1, none⟩ = some (.int .i64 (p.2 : Int)) ∧ TkS R w u p.1 := by
 obtain ⟨ao, c, h1, h2, h2', h3⟩ := h
 obtain ⟨g, o, u, e, hn, a, b, d⟩ := h3 0 p rfl
 subst e
 rw [Nat.zero_mul, Nat.add_zero] at a b
 exact ⟨g, o, c, u, h1, h2, hn, a, b, d⟩
theorem TkS.atL {R : Nat} {w : World} {u : Value} {l : List Tok} (h : TkS R w u l) {j : Nat} {t : Tok} (hj : l[j]? = some t) : ∃ g o c, u = .slice (some ⟨g, o, none⟩) l.length c ∧ g < R ∧ w.cell? ⟨g, o + j * 3, none⟩ = some (.int .i64 (t.1 : Int)) ∧ w.cell? ⟨g, o + j * 3 + 1, none⟩ = some (.int .i64 (t.2.1 : Int)) ∧ w.cell? ⟨g, o + j * 3 + 2, none⟩ = some (.string t.2.2) := by
 obtain ⟨ao, c, h1, h2, h3⟩ := h
 obtain ⟨g, o, e, hn, a, b, d⟩ := h3 j t hj
 subst e
 exact ⟨g, o, c, h1, hn, a, b, d⟩
def C6 (w : World) (b o : Nat) (x : Value) : Prop := w.cell? ⟨b, o, none⟩ = some x
theorem C6.below {w w' : World} {b o : Nat} {x : Value} (h : C6 w b o x) (hb : Below w.heap.size w w') : C6 w' b o x := (hb.cell (World.block_lt_of_cell? _ _ h)).trans h
theorem V5r.below {w w' : World} {R : Nat} {x0 x1 x2 x3 x4 : Value} (h : V5r w R x0 x1 x2 x3 x4) (hb : Below w.heap.size w w') : V5r w' R x0 x1 x2 x3 x4 := h.low (hb.mono (by have := h.lt; omega))
theorem wrap_id6 {k : Int} (h : 0 ≤ k ∧ k ≤ 1000000000) : IntKind.i64.wrap k = k := by
 unfold IntKind.wrap
 simp [IntKind.bits, IntKind.signed]
 omega

set_option maxRecDepth 100000 in
set_option maxHeartbeats 4000000 in
theorem token_some {w : World} {R : Nat} {r : Rd} {t : Tok} (h : RM w R r) (ho : RdOK r) (he : r.err = 0) (hc : r.cur = some t) : Calls Tryz.prog 52 #[.pointer (some ⟨R, 0, none⟩)] w (TokOut w R r.tok) := by
 have hlt := h.lt
 have CR := fun W (hW : RM W R r) => reads_at hW
 have CM := fun W (hW : RM W R r) => More_at hW
 rw [hc] at CM
 have CRH : Hid (∀ W, RM W R r → Calls Tryz.prog 54 #[.pointer (some ⟨R, 0, none⟩)] W fun e w' => e = .returned (.bool true) ∧ w' = W) := by
  intro W hW
  have := CR W hW
  rwa [decide_eq_true he] at this
 have CMH : Hid _ := CM
 clear CR CM
 rw [tok_some he hc]
 obtain ⟨l, L, hL⟩ : ∃ l L, r.L = l :: L := by
  cases hL : r.L with
  | nil => rw [cur_nil hL] at hc; cases hc
  | cons l L => exact ⟨l, L, rfl⟩
 rw [cur_cons hL] at hc
 have hk0 := ho.z
 have hkl := (List.getElem?_eq_some_iff.1 hc).1
 have hw4 := ho.w l (by rw [hL]; simp)
 have h0 := h
 obtain ⟨v, hl, hv⟩ := h0
 have hl0 := hl
 rw [hL] at hl0
 obtain ⟨g, o, c, u, rfl, hcc, hgR, cu, ce, tk⟩ := hl0.firstL
 obtain ⟨g2, o2, c2, rfl, hg2, t0, t1, t2⟩ := tk.atL hc
 obtain ⟨W0, hW0, hS0, hL0, VT⟩ := V3.lay w 95 (.int .i64 0) (.int .i64 0) (.string { data := #[] })
 have U : UpW w R W0 := (UpW.refl hlt).below hL0
 have h1 := h.below hL0
 have hv1 := hv.low (hL0.mono (by omega : R + 1 ≤ w.heap.size))
 have HL : Hid (LnS R w (.slice (some ⟨g, o, none⟩) (L.length + 1) c) r.L) := hl
 have HW : Hid (Below w.heap.size w W0) := hL0
 obtain ⟨n, hn⟩ : ∃ n, L.length + 1 = n := ⟨_, rfl⟩
 have hn1 : 0 < n := by omega
 rw [hn] at hv1 HL
 have hm1 : (r.k : Int) < (l.1.length : Int) := by omega
 obtain ⟨m, hm⟩ : ∃ m, l.1.length = m := ⟨_, rfl⟩
 rw [hm] at hm1 cu
 clear hm hn hl hv tk ce hc h hL hkl hw4 hl0
 obtain ⟨k, hk⟩ : ∃ k, r.k = k := ⟨_, rfl⟩
 have HK : Hid (r.k = k) := hk
 rw [hk] at hm1 t0 t1 t2 hv1 hk0
 clear hk
 go_enter Tryz.func52, Tryz.ntmps52
 go_wp2_with fail
 rw [← hW0]
 obtain ⟨RT, hRT⟩ : ∃ RT, w.heap.size = RT := ⟨_, rfl⟩
 have HRT : Hid (w.heap.size = RT) := hRT
 rw [hRT]
 rw [hRT] at VT hlt hL0
 have cu1 := (HW.out.cell (p := ⟨g, _, none⟩) (by show g < _; omega)).trans cu
 have s0 := (HW.out.cell (p := ⟨g2, _, none⟩) (by show g2 < _; omega)).trans t0
 have s1 := (HW.out.cell (p := ⟨g2, _, none⟩) (by show g2 < _; omega)).trans t1
 have s2 := (HW.out.cell (p := ⟨g2, _, none⟩) (by show g2 < _; omega)).trans t2
 clear hW0 hS0 hL0 hRT cu t0 t1 t2
 refine Calls.mono (CRH.out _ h1) ?_
 rintro e w1 ⟨rfl, hw⟩
 replace hw := hw.symm
 subst hw
 go_wp2_with fail
 refine Calls.mono (CMH.out _ h1) ?_
 rintro e w1 ⟨rfl, q, hw⟩
 have b1 : Below W0.heap.size W0 w1 := by rw [hw]; exact below_drew6 (Below.refl _ _) _
 replace h1 := h1.below b1
 replace VT := VT.below b1
 replace U := U.below b1
 replace hv1 := hv1.low (b1.mono (by have := VT.lt; have := b1.size; have := h1.lt; have := U.1; have := U.size; have := HW.out.size; have := HRT.out; omega))
 replace cu1 := cell_later b1 cu1
 replace s0 := cell_later b1 s0
 replace s1 := cell_later b1 s1
 replace s2 := cell_later b1 s2
 clear hw b1 CRH CMH
 have z1 := hv1.c1
 have f1 := hv1.f 1
 have gk : (0 : Int) ≤ (k : Int) := by omega
 go_wp2_with fail
 clear z1 f1
 have hs := hv1.s1 (.int .i64 ((k : Int) + 1))
 have u1 := upd_set6 w1 R 1 (by omega) (.int .i64 ((k : Int) + 1))
 replace U := U.step u1
 replace VT := VT.upd u1 (by omega)
 have bR : Below R w1 (w1.setCell ⟨R, 1, none⟩ (.int .i64 ((k : Int) + 1))) := (Below.refl _ _).setCell (p := ⟨R, 1, none⟩) (Nat.le_refl _) _
 replace cu1 := (bR.cell (p := ⟨g, _, none⟩) hgR).trans cu1
 replace s0 := (bR.cell (p := ⟨g2, _, none⟩) hg2).trans s0
 replace s1 := (bR.cell (p := ⟨g2, _, none⟩) hg2).trans s1
 replace s2 := (bR.cell (p := ⟨g2, _, none⟩) hg2).trans s2
 clear hv1 u1 bR h1
 generalize w1.setCell ⟨R, 1, none⟩ (.int .i64 ((k : Int) + 1)) = W5 at *
 have z0 := hs.c0
 have z1 := hs.c1
 have hwk : IntKind.i64.wrap (k : Int) = (k : Int) := wrap_id6 (by omega)
 have hwr : IntKind.i64.wrap ((k : Int) + 1 - 1) = (k : Int) := by rw [show (k : Int) + 1 - 1 = (k : Int) by omega]; exact hwk
 have hRT5 : RT < W5.heap.size := VT.lt
 have BB : Below RT W5 W5 := Below.refl _ _
 have gn : (0 : Int) < (n : Int) := by omega
 have gm : k < m := by omega
 have z0c : C6 W5 R 0 (.slice (some ⟨g, o, none⟩) n c) := z0
 have z1c : C6 W5 R 1 (.int .i64 ((k : Int) + 1)) := z1
 have cuc : C6 W5 g o (.slice (some ⟨g2, o2, none⟩) m c2) := cu1
 have s0c : C6 W5 g2 (o2 + k * 3) (.int .i64 (t.1 : Int)) := s0
 have s1c : C6 W5 g2 (o2 + k * 3 + 1) (.int .i64 (t.2.1 : Int)) := s1
 have s2c : C6 W5 g2 (o2 + k * 3 + 2) (.string t.2.2) := s2
 have hsc := hs
 clear z0 z1 cu1 s0 s1 s2 hs
 have hDr : Below W5.heap.size W5 W5.drew := (Below.refl _ _).drew
 replace U := U.below hDr
 replace z0c := z0c.below hDr
 replace z1c := z1c.below hDr
 replace cuc := cuc.below hDr
 replace s0c := s0c.below hDr
 replace s1c := s1c.below hDr
 replace s2c := s2c.below hDr
 replace hsc := hsc.below hDr
 replace VT := VT.below hDr
 replace BB := BB.trans (hDr.mono (by have := BB.size; omega))
 clear hDr
 refine wp_region_held_drew (S := (fun w' => w'.cell? ⟨R, 0, none⟩ = some (.slice (some ⟨g, o, none⟩) n c) ∧ w'.cell? ⟨R, 1, none⟩ = some (.int .i64 ((k : Int) + 1)) ∧ w'.cell? ⟨g, o, none⟩ = some (.slice (some ⟨g2, o2, none⟩) m c2) ∧ w'.cell? ⟨g2, o2 + k * 3, none⟩ = some (.int .i64 (t.1 : Int)) ∧ w'.cell? ⟨g2, o2 + k * 3 + 1, none⟩ = some (.int .i64 (t.2.1 : Int)) ∧ w'.cell? ⟨g2, o2 + k * 3 + 2, none⟩ = some (.string t.2.2))) (by kernel_rfl) ?_ (fun hHeld => ?_)
 ·exact ⟨z0c, z1c, cuc, s0c, s1c, s2c⟩
 generalize W5.drew = W1 at *
 refine wpAnyH_take (i := 0) (v := ?_) (by simp only [xL1, xL2, xL3]; rfl) (by kernel_rfl) (by kernel_rfl) (by kernel_rfl) (by exact fun _ _ _ h => h) (Or.inl ⟨by rfl, ?_⟩) (by assumption) ?_
 rotate_left
 ·(intro w hSw; (try dsimp only at hSw); go_simp; (try with_reducible rfl))
 (try simp only [Act.put, xL4, xL5, xL6])
 refine wpAnyH_take (i := 1) (v := ?_) (by simp only [xL1, xL2, xL3]; rfl) (by kernel_rfl) (by kernel_rfl) (by kernel_rfl) (by exact fun _ _ _ h => h) (Or.inl ⟨by rfl, ?_⟩) (by assumption) ?_
 rotate_left
 ·(intro w hSw; (try dsimp only at hSw); go_simp; (try with_reducible rfl))
 (try simp only [Act.put, xL4, xL5, xL6])
 refine wpAnyH_take (i := 2) (v := ?_) (by simp only [xL1, xL2, xL3]; rfl) (by kernel_rfl) (by kernel_rfl) (by kernel_rfl) (by exact fun _ _ _ h => h) (Or.inl ⟨by rfl, ?_⟩) (by assumption) ?_
 rotate_left
 ·(intro w hSw; (try dsimp only at hSw); go_simp; (try with_reducible rfl))
 (try simp only [Act.put, xL4, xL5, xL6])
 refine wpAnyH_take (i := 3) (v := ?_) (by simp only [xL1, xL2, xL3]; rfl) (by kernel_rfl) (by kernel_rfl) (by kernel_rfl) (by exact fun _ _ _ h => h) (Or.inl ⟨by rfl, ?_⟩) (by assumption) ?_
 rotate_left
 ·(intro w hSw; (try dsimp only at hSw); go_simp; (try with_reducible rfl))
 (try simp only [Act.put, xL4, xL5, xL6])
 refine wpAnyH_take (i := 4) (v := ?_) (by simp only [xL1, xL2, xL3]; rfl) (by kernel_rfl) (by kernel_rfl) (by kernel_rfl) (by exact fun _ _ _ h => h) (Or.inl ⟨by rfl, ?_⟩) (by assumption) ?_
 rotate_left
 ·(intro w hSw; (try dsimp only at hSw); go_simp; (try with_reducible rfl))
 (try simp only [Act.put, xL4, xL5, xL6])
 refine wpAnyH_take (i := 5) (v := ?_) (by simp only [xL1, xL2, xL3]; rfl) (by kernel_rfl) (by kernel_rfl) (by kernel_rfl) (by exact fun _ _ _ h => h) (Or.inl ⟨by rfl, ?_⟩) (by assumption) ?_
 rotate_left
 ·(intro w hSw; (try dsimp only at hSw); go_simp; (try with_reducible rfl))
 (try simp only [Act.put, xL4, xL5, xL6])
 refine wpAnyH_take (i := 6) (v := ?_) (by simp only [xL1, xL2, xL3]; rfl) (by kernel_rfl) (by kernel_rfl) (by kernel_rfl) (by exact fun _ _ _ h => h) (Or.inl ⟨by rfl, ?_⟩) (by assumption) ?_
 rotate_left
 ·(intro w hSw; (try dsimp only at hSw); go_simp; (try with_reducible rfl))
 (try simp only [Act.put, xL4, xL5, xL6])
 refine wpAnyH_take (i := 7) (v := ?_) (by simp only [xL1, xL2, xL3]; rfl) (by kernel_rfl) (by kernel_rfl) (by kernel_rfl) (by exact fun _ _ _ h => h) (Or.inl ⟨by rfl, ?_⟩) (by assumption) ?_
 rotate_left
 ·(intro w hSw; (try dsimp only at hSw); go_simp; (try with_reducible rfl))
 (try simp only [Act.put, xL4, xL5, xL6])
 refine wpAnyH_take (i := 8) (v := ?_) (by simp only [xL1, xL2, xL3]; rfl) (by kernel_rfl) (by kernel_rfl) (by kernel_rfl) (by exact fun _ _ _ h => h) (Or.inl ⟨by rfl, ?_⟩) (by assumption) ?_
 rotate_left
 ·(intro w hSw; (try dsimp only at hSw); go_simp; (try with_reducible rfl))
 (try simp only [Act.put, xL4, xL5, xL6])
 refine wpAnyH_take (i := 9) (v := ?_) (by simp only [xL1, xL2, xL3]; rfl) (by kernel_rfl) (by kernel_rfl) (by kernel_rfl) (by exact fun _ _ _ h => h) (Or.inl ⟨by rfl, ?_⟩) (by assumption) ?_
 rotate_left
 ·(intro w hSw; (try dsimp only at hSw); go_simp; (try with_reducible rfl))
 (try simp only [Act.put, xL4, xL5, xL6])
 refine wpAnyH_take (i := 10) (v := ?_) (by simp only [xL1, xL2, xL3]; rfl) (by kernel_rfl) (by kernel_rfl) (by kernel_rfl) (by exact fun _ _ _ h => h) (Or.inl ⟨by rfl, ?_⟩) (by assumption) ?_
 rotate_left
 ·(intro w hSw; (try dsimp only at hSw); go_simp; (try with_reducible rfl))
 (try simp only [Act.put, xL4, xL5, xL6])
 refine wpAnyH_take (i := 11) (v := ?_) (by simp only [xL1, xL2, xL3]; rfl) (by kernel_rfl) (by kernel_rfl) (by kernel_rfl) (by exact fun _ _ _ h => h) (Or.inl ⟨by rfl, ?_⟩) (by assumption) ?_
 rotate_left
 ·(intro w hSw; (try dsimp only at hSw); go_simp; (try with_reducible rfl))
 (try simp only [Act.put, xL4, xL5, xL6])
 refine wpAnyH_take (i := 12) (v := ?_) (by simp only [xL1, xL2, xL3]; rfl) (by kernel_rfl) (by kernel_rfl) (by kernel_rfl) (by exact fun _ _ _ h => h) (Or.inl ⟨by rfl, ?_⟩) (by assumption) ?_
 rotate_left
 ·(intro w hSw; (try dsimp only at hSw); go_simp; (try with_reducible rfl))
 (try simp only [Act.put, xL4, xL5, xL6])
 refine wpAnyH_take (i := 13) (v := ?_) (by simp only [xL1, xL2, xL3]; rfl) (by kernel_rfl) (by kernel_rfl) (by kernel_rfl) (by exact fun _ _ _ h => h) (Or.inl ⟨by rfl, ?_⟩) (by assumption) ?_
 rotate_left
 ·(intro w hSw; (try dsimp only at hSw); go_simp; (try with_reducible rfl))
 (try simp only [Act.put, xL4, xL5, xL6])
 refine wpAnyH_ready (rs := [14]) (by kernel_rfl) (by simp) ?_
 refine AllReadyH.cons (by simp only [xL1, xL2, xL3]; rfl) (fun K hK => ?_) AllReadyH.nil
 have hs := hsc
 have z0 : W1.cell? _ = _ := z0c
 have z1 : W1.cell? _ = _ := z1c
 have cu1 : W1.cell? _ = _ := cuc
 have s0 : W1.cell? _ = _ := s0c
 have s1 : W1.cell? _ = _ := s1c
 have s2 : W1.cell? _ = _ := s2c
 clear hsc z0c z1c cuc s0c s1c s2c
 obtain ⟨q1, q2, q3, q4, q5, q6⟩ := id VT
 have VT_n := VT.same (.int .i64 (t.1 : Int)) (.int .i64 (t.2.1 : Int)) (.string t.2.2)
 have U_n := U.put3 (RT := RT) (by have := HRT.out; omega) (.int .i64 (t.1 : Int)) (.int .i64 (t.2.1 : Int)) (.string t.2.2)
 have lw := low_put3 (w := W1) (B := RT) (RT := RT) (Nat.le_refl _) (.int .i64 (t.1 : Int)) (.int .i64 (t.2.1 : Int)) (.string t.2.2)
 have hs_n := hs.low (lw.mono (by omega))
 have z0_n := (lw.cell (p := ⟨R, _, none⟩) (by show R < RT; omega)).trans z0
 have z1_n := (lw.cell (p := ⟨R, _, none⟩) (by show R < RT; omega)).trans z1
 have cu1_n := (lw.cell (p := ⟨g, _, none⟩) (by show g < RT; omega)).trans cu1
 have s0_n := (lw.cell (p := ⟨g2, _, none⟩) (by show g2 < RT; omega)).trans s0
 have s1_n := (lw.cell (p := ⟨g2, _, none⟩) (by show g2 < RT; omega)).trans s1
 have s2_n := (lw.cell (p := ⟨g2, _, none⟩) (by show g2 < RT; omega)).trans s2
 go_simp
 clear q1 q2 q3 q4 q5 q6 VT U hs z0 z1 cu1 s0 s1 s2 lw
 generalize ((W1.setCell ⟨RT, 0, none⟩ (.int .i64 (t.1 : Int))).setCell ⟨RT, 1, none⟩ (.int .i64 (t.2.1 : Int))).setCell ⟨RT, 2, none⟩ (.string t.2.2) = W7 at *
 have VT := VT_n
 have U := U_n
 have hs := hs_n
 have z0 := z0_n
 have z1 := z1_n
 have cu1 := cu1_n
 have s0 := s0_n
 have s1 := s1_n
 have s2 := s2_n
 clear VT_n U_n hs_n z0_n z1_n cu1_n s0_n s1_n s2_n
 clear BB
 have BB : Below RT W7 W7 := Below.refl _ _
 have hsc := hs
 have z0c := z0
 have z1c := z1
 have cuc := cu1
 have s0c := s0
 have s1c := s1
 have s2c := s2
 clear hs z0 z1 cu1 s0 s1 s2
 refine hK.out _ _ ?_ (fun hH1 => ?_)
 ·exact ⟨z0c, z1c, cuc, s0c, s1c, s2c⟩
 clear hK K hHeld
 (try simp only [Act.put, xL4, xL5, xL6])
 refine wpAnyH_take (i := 15) (v := ?_) (by simp only [xL1, xL2, xL3]; rfl) (by kernel_rfl) (by kernel_rfl) (by kernel_rfl) (by exact fun _ _ _ h => h) (Or.inl ⟨by rfl, ?_⟩) (by assumption) ?_
 rotate_left
 ·(intro w hSw; (try dsimp only at hSw); go_simp; (try with_reducible rfl))
 (try simp only [Act.put, xL4, xL5, xL6])
 refine wpAnyH_done (by kernel_rfl) ?_ _
 clear hH1
 obtain ⟨q1, q2, q3, q4, q5, q6⟩ := id VT
 go_wp2
 (try simp only [Exit.inBlock, Exit.then])
 refine bodyPost_ret (v := .tuple #[.agg #[.int .i64 (t.1 : Int), .int .i64 (t.2.1 : Int), .string t.2.2], .bool true]) (by simp [results, Tryz.results52, go_sem, q1, q2, q3]) rfl ?_
 refine ⟨rfl, ⟨.slice (some ⟨g, o, none⟩) n c, HL.out.aside U.low, ?_⟩, U⟩
 have e : ((r.k + 1 : Nat) : Int) = (k : Int) + 1 := by rw [HK.out]; omega
 show V5r _ R _ (.int .i64 ((r.k + 1 : Nat) : Int)) _ _ _
 rw [e]
 exact hsc

theorem token_at {w : World} {R : Nat} {r : Rd} (h : RM w R r) (ho : RdOK r) : Calls Tryz.prog 52 #[.pointer (some ⟨R, 0, none⟩)] w (TokOut w R r.tok) := by
 by_cases he : r.err = 0
 ·cases hc : r.cur with
  | none => exact token_none h he hc
  | some t => exact token_some h ho he hc
 ·exact token_err h he

/-- A call that tells nothing. -/
def VoidOut (w : World) (R : Nat) (r : Rd) (e : Ending) (w' : World) : Prop := e = .returned (.tuple #[]) ∧ RM w' R r ∧ UpW w R w'
theorem tokv_some (t : Tok) : tokv (some t) = .agg #[.int .i64 (t.1 : Int), .int .i64 (t.2.1 : Int), .string t.2.2] := rfl
theorem tokv_none : tokv none = .agg #[.int .i64 0, .int .i64 0, .string { data := #[] }] := rfl
theorem tokv_is (o : Option Tok) : ∃ a b : Int, tokv o = .agg #[.int .i64 a, .int .i64 b, .string (wtx o)] := by
 cases o with
 | none => exact ⟨_, _, rfl⟩
 | some t => exact ⟨_, _, rfl⟩
set_option maxRecDepth 20000 in
set_option maxHeartbeats 1000000 in
theorem Word_at {w : World} {R : Nat} {r : Rd} (h : RM w R r) (ho : RdOK r) : Calls Tryz.prog 62 #[.pointer (some ⟨R, 0, none⟩)] w fun e w' => e = .returned (.string (wtx r.tok.1)) ∧ RM w' R r.tok.2 ∧ UpW w R w' := by
 have CT := token_at h ho
 unfold TokOut at CT
 generalize r.tok = p at CT ⊢
 obtain ⟨o, r'⟩ := p
 obtain ⟨a, b, ht⟩ := tokv_is o
 dsimp only at CT ⊢
 rw [ht] at CT
 generalize wtx o = tx at CT ⊢
 generalize o.isSome = k at CT ⊢
 have CTH : Hid _ := CT
 clear CT ht h ho
 go_enter Tryz.func62, Tryz.ntmps62
 go_wp2_with fail
 refine Calls.mono CTH.out ?_
 rintro e w1 ⟨rfl, h1, U⟩
 clear CTH
 obtain ⟨W0, hW0, hS0, hL0, VT⟩ := V3.lay w1 95 (.int .i64 a) (.int .i64 b) (.string tx)
 obtain ⟨q1, q2, q3, q4, q5, q6⟩ := id VT
 rw [hW0] at q1 q2 q3 q4 q5 q6
 have h2 := h1.below hL0
 have U2 := U.below hL0
 rw [hW0] at h2 U2
 go_wp2
 go_ret
 exact ⟨rfl, h2, U2⟩
theorem take_none {r : Rd} {s : ByteArray} (h : r.tok.1 = none) : r.take s = r.tok.2 := by unfold Rd.take; rw [h]
theorem take_same {r : Rd} {s : ByteArray} {t : Tok} (h : r.tok.1 = some t) (e : t.2.2.toList = s.toList) : r.take s = r.tok.2 := by
 unfold Rd.take
 rw [h]
 dsimp only
 rw [if_pos e]
theorem take_other {r : Rd} {s : ByteArray} {t : Tok} (h : r.tok.1 = some t) (e : ¬ t.2.2.toList = s.toList) : r.take s = r.tok.2.stop 7 t.1 := by
 unfold Rd.take
 rw [h]
 dsimp only
 rw [if_neg e]
set_option maxRecDepth 20000 in
set_option maxHeartbeats 2000000 in
theorem Take_at {w : World} {R : Nat} {r : Rd} (s : ByteArray) (h : RM w R r) (ho : RdOK r) : Calls Tryz.prog 29 #[.pointer (some ⟨R, 0, none⟩), .string s] w (VoidOut w R (r.take s)) := by
 have CT := token_at h ho
 unfold TokOut at CT
 have HO : Hid (RdOK r.tok.2) := ho.tok
 cases ht : r.tok.1 with
 | none =>
  rw [take_none ht]
  rw [ht] at CT
  generalize r.tok.2 = r' at CT HO ⊢
  have CTH : Hid _ := CT
  clear CT ht h ho
  go_enter Tryz.func29, Tryz.ntmps29
  go_wp2_with fail
  refine Calls.mono CTH.out ?_
  rintro e w1 ⟨rfl, h1, U⟩
  clear CTH
  rw [tokv_none]
  obtain ⟨W0, hW0, hS0, hL0, VT⟩ := V3.lay w1 95 (.int .i64 0) (.int .i64 0) (.string { data := #[] })
  have h2 := h1.below hL0
  have U2 := U.below hL0
  rw [hW0] at h2 U2
  go_wp2
  exact bodyPost_end (v := .tuple #[]) (by simp [results, Tryz.results29, go_sem]) rfl ⟨rfl, h2, U2⟩
 | some t =>
  by_cases he : t.2.2.toList = s.toList
  ·rw [take_same ht he]
   rw [ht] at CT
   generalize r.tok.2 = r' at CT HO ⊢
   have CTH : Hid _ := CT
   have e3 : (t.2.2.toList == s.toList) = true := by simp [he]
   clear CT ht h ho he
   go_enter Tryz.func29, Tryz.ntmps29
   go_wp2_with fail
   refine Calls.mono CTH.out ?_
   rintro e w1 ⟨rfl, h1, U⟩
   clear CTH
   rw [tokv_some]
   obtain ⟨W0, hW0, hS0, hL0, VT⟩ := V3.lay w1 95 (.int .i64 (t.1 : Int)) (.int .i64 (t.2.1 : Int)) (.string t.2.2)
   obtain ⟨q1, q2, q3, q4, q5, q6⟩ := id VT
   rw [hW0] at q1 q2 q3 q4 q5 q6
   have h2 := h1.below hL0
   have U2 := U.below hL0
   rw [hW0] at h2 U2
   go_wp2
   exact bodyPost_end (v := .tuple #[]) (by simp [results, Tryz.results29, go_sem]) rfl ⟨rfl, h2, U2⟩
  ·rw [take_other ht he]
   rw [ht] at CT
   generalize r.tok.2 = r' at CT HO ⊢
   have CTH : Hid _ := CT
   have e3 : (t.2.2.toList == s.toList) = false := by simpa using he
   clear CT ht h ho he
   go_enter Tryz.func29, Tryz.ntmps29
   go_wp2_with fail
   refine Calls.mono CTH.out ?_
   rintro e w1 ⟨rfl, h1, U⟩
   clear CTH
   rw [tokv_some]
   obtain ⟨W0, hW0, hS0, hL0, VT⟩ := V3.lay w1 95 (.int .i64 (t.1 : Int)) (.int .i64 (t.2.1 : Int)) (.string t.2.2)
   obtain ⟨q1, q2, q3, q4, q5, q6⟩ := id VT
   rw [hW0] at q1 q2 q3 q4 q5 q6
   have h2 := h1.below hL0
   have U2 := U.below hL0
   go_wp2_with fail
   rw [← hW0]
   refine (stop_at 7 t.1 h2).mono ?_
   rintro e w3 ⟨rfl, h3, u3⟩
   go_wp2
   exact bodyPost_end (v := .tuple #[]) (by simp [results, Tryz.results29, go_sem]) rfl ⟨rfl, h3, U2.step u3⟩
theorem fin_nil {r : Rd} (h : r.L = []) : r.fin = r := by unfold Rd.fin; rw [h]
theorem fin_cons {r : Rd} {l : List Tok × Nat} {L : List (List Tok × Nat)} (h : r.L = l :: L) : r.fin = r.stop 10 r.here := by unfold Rd.fin; rw [h]
set_option maxRecDepth 20000 in
set_option maxHeartbeats 1000000 in
theorem End_at {w : World} {R : Nat} {r : Rd} (h : RM w R r) : Calls Tryz.prog 35 #[.pointer (some ⟨R, 0, none⟩)] w (VoidOut w R r.fin) := by
 have CL := Lines_at h
 have hlt := h.lt
 cases hL : r.L with
 | nil =>
  rw [fin_nil hL]
  rw [hL] at CL
  have CLH : Hid _ := CL
  clear CL hL
  go_enter Tryz.func35, Tryz.ntmps35
  go_wp2_with fail
  refine Calls.mono CLH.out ?_
  rintro e w1 ⟨rfl, hw⟩
  replace hw := hw.symm
  subst hw
  go_wp2
  exact bodyPost_end (v := .tuple #[]) (by simp [results, Tryz.results35, go_sem]) rfl ⟨rfl, h, UpW.refl hlt⟩
 | cons l L =>
  rw [fin_cons hL]
  rw [hL, List.length_cons] at CL
  have CLH : Hid _ := CL
  have g1 : (0 : Int) < ((L.length + 1 : Nat) : Int) := by omega
  obtain ⟨hp, HP⟩ : ∃ hp, r.here = hp := ⟨_, rfl⟩
  have HPH : Hid (r.here = hp) := HP
  rw [HP]
  clear CL hL HP
  generalize L.length + 1 = n at *
  go_enter Tryz.func35, Tryz.ntmps35
  go_wp2_with fail
  refine Calls.mono CLH.out ?_
  rintro e w1 ⟨rfl, hw⟩
  replace hw := hw.symm
  subst hw
  go_wp2_with fail
  refine (here_at h).mono ?_
  rintro e w2 ⟨rfl, b2⟩
  rw [HPH.out]
  have h2 := h.below b2
  have U := (UpW.refl hlt).below b2
  go_wp2_with fail
  refine (stop_at 10 hp h2).mono ?_
  rintro e w3 ⟨rfl, h3, u3⟩
  go_wp2
  exact bodyPost_end (v := .tuple #[]) (by simp [results, Tryz.results35, go_sem]) rfl ⟨rfl, h3, U.step u3⟩
theorem next_err {r : Rd} (h : ¬ r.err = 0) : r.next = r := Rd.next_no h
theorem next_more {r : Rd} {t : Tok} (h : r.err = 0) (hc : r.cur = some t) : r.next = r.stop 10 r.here := by unfold Rd.next; rw [if_pos h, hc]
theorem next_end {r : Rd} (h : r.err = 0) (hc : r.cur = none) (hL : r.L = []) : r.next = r.stop 9 r.here := by unfold Rd.next; rw [if_pos h, hc, hL]
theorem next_go {r : Rd} {l : List Tok × Nat} {L : List (List Tok × Nat)} (h : r.err = 0) (hc : r.cur = none) (hL : r.L = l :: L) : r.next = ⟨L, 0, r.len, r.err, r.at_⟩ := by unfold Rd.next; rw [if_pos h, hc, hL]
set_option maxRecDepth 20000 in
set_option maxHeartbeats 2000000 in
theorem Next_at {w : World} {R : Nat} {r : Rd} (h : RM w R r) : Calls Tryz.prog 30 #[.pointer (some ⟨R, 0, none⟩)] w (VoidOut w R r.next) := by
 have CR := reads_at h
 have hlt := h.lt
 by_cases he : r.err = 0
 ·rw [decide_eq_true he] at CR
  have CRH : Hid _ := CR
  have CM := More_at h
  cases hc : r.cur with
  | some t =>
   rw [next_more he hc]
   rw [hc] at CM
   have CMH : Hid _ := CM
   obtain ⟨hp, HP⟩ : ∃ hp, r.here = hp := ⟨_, rfl⟩
   have HPH : Hid (r.here = hp) := HP
   rw [HP]
   clear CR CM HP hc he
   go_enter Tryz.func30, Tryz.ntmps30
   go_wp2_with fail
   refine Calls.mono CRH.out ?_
   rintro e w1 ⟨rfl, hw⟩
   replace hw := hw.symm
   subst hw
   go_wp2_with fail
   refine Calls.mono CMH.out ?_
   rintro e w1 ⟨rfl, q, hw⟩
   have b1 : Below w.heap.size w w1 := by rw [hw]; exact below_drew6 (Below.refl _ _) _
   have h1 := h.below b1
   have U := (UpW.refl hlt).below b1
   clear hw b1
   go_wp2_with fail
   refine (here_at h1).mono ?_
   rintro e w2 ⟨rfl, b2⟩
   rw [HPH.out]
   replace h1 := h1.below b2
   replace U := U.below b2
   go_wp2_with fail
   refine (stop_at 10 hp h1).mono ?_
   rintro e w3 ⟨rfl, h3, u3⟩
   go_wp2
   exact bodyPost_end (v := .tuple #[]) (by simp [results, Tryz.results30, go_sem]) rfl ⟨rfl, h3, U.step u3⟩
  | none =>
   rw [hc] at CM
   have CMH : Hid _ := CM
   have CL := fun W (hW : RM W R r) => Lines_at hW
   cases hL : r.L with
   | nil =>
    rw [next_end he hc hL]
    rw [hL] at CL
    have CLH : Hid _ := CL
    obtain ⟨hp, HP⟩ : ∃ hp, r.here = hp := ⟨_, rfl⟩
    have HPH : Hid (r.here = hp) := HP
    rw [HP]
    clear CR CM CL HP hc he hL
    go_enter Tryz.func30, Tryz.ntmps30
    go_wp2_with fail
    refine Calls.mono CRH.out ?_
    rintro e w1 ⟨rfl, hw⟩
    replace hw := hw.symm
    subst hw
    go_wp2_with fail
    refine Calls.mono CMH.out ?_
    rintro e w1 ⟨rfl, q, hw⟩
    have b1 : Below w.heap.size w w1 := by rw [hw]; exact below_drew6 (Below.refl _ _) _
    have h1 := h.below b1
    have U := (UpW.refl hlt).below b1
    clear hw b1
    go_wp2_with fail
    refine Calls.mono (CLH.out _ h1) ?_
    rintro e w2 ⟨rfl, hw⟩
    replace hw := hw.symm
    subst hw
    go_wp2_with fail
    refine (here_at h1).mono ?_
    rintro e w2 ⟨rfl, b2⟩
    rw [HPH.out]
    replace h1 := h1.below b2
    replace U := U.below b2
    go_wp2_with fail
    refine (stop_at 9 hp h1).mono ?_
    rintro e w3 ⟨rfl, h3, u3⟩
    go_wp2
    exact bodyPost_end (v := .tuple #[]) (by simp [results, Tryz.results30, go_sem]) rfl ⟨rfl, h3, U.step u3⟩
   | cons l L =>
    rw [next_go he hc hL]
    obtain ⟨v, hl, hv⟩ := id h
    rw [hL] at hl CL
    obtain ⟨a, c, rfl⟩ := hl.form
    obtain ⟨g, o, rfl, _, hcc, hc6, htl⟩ := hl.tail
    have CLH : Hid _ := CL
    have g1 : (0 : Int) < ((L.length + 1 : Nat) : Int) := by omega
    have g1' : ((L.length + 1 : Nat) : Int) = (L.length : Int) + 1 := by omega
    rw [List.length_cons] at hv
    have HT : Hid (LnS R w (.slice (some ⟨g, o + 2, none⟩) L.length (c - 1)) L) := htl
    have HCL : Hid (∀ W, RM W R r → Calls Tryz.prog 57 #[.pointer (some ⟨R, 0, none⟩)] W fun e w' => e = .returned (.int .i64 ((L.length : Int) + 1)) ∧ w' = W) := by
     intro W hW
     have := CL W hW
     rw [List.length_cons, g1'] at this
     exact this
    have hge : ((L.length : Int) + 1 == 0) = false := by simp; omega
    clear CR CM CL CLH hc he hL hl htl g1'
    obtain ⟨m, hm⟩ : ∃ m, L.length = m := ⟨_, rfl⟩
    have HM : Hid (L.length = m) := hm
    rw [hm] at hge HCL HT g1 hv hcc
    clear hm
    go_enter Tryz.func30, Tryz.ntmps30
    go_wp2_with fail
    refine Calls.mono CRH.out ?_
    rintro e w1 ⟨rfl, hw⟩
    replace hw := hw.symm
    subst hw
    go_wp2_with fail
    refine Calls.mono CMH.out ?_
    rintro e w1 ⟨rfl, q, hw⟩
    have b1 : Below w.heap.size w w1 := by rw [hw]; exact below_drew6 (Below.refl _ _) _
    have h1 := h.below b1
    have U := (UpW.refl hlt).below b1
    have hv1 := hv.below b1
    clear hw b1
    go_wp2_with fail
    refine Calls.mono (HCL.out _ h1) ?_
    rintro e w2 ⟨rfl, hw⟩
    replace hw := hw.symm
    subst hw
    have z0 := hv1.c0
    have z1 := hv1.c1
    have f0 := hv1.f 0
    have f1 := hv1.f 1
    have k1 := hv1.s0 (.slice (some ⟨g, o + 2, none⟩) m (c - 1))
    have k2 := k1.s1 (.int .i64 0)
    have U2 := (U.step (upd_set6 _ R 0 (by omega) (.slice (some ⟨g, o + 2, none⟩) m (c - 1)))).step (upd_set6 _ R 1 (by omega) (.int .i64 0))
    have j1 := hv1.s0 (.slice (some ⟨g, o, none⟩) m 0)
    have j2 := j1.s1 (.int .i64 0)
    have U3 := (U.step (upd_set6 _ R 0 (by omega) (.slice (some ⟨g, o, none⟩) m 0))).step (upd_set6 _ R 1 (by omega) (.int .i64 0))
    clear hv1 k1 h1 j1
    go_wp2
    case inl =>
     refine bodyPost_end (v := .tuple #[]) (by simp [results, Tryz.results30, go_sem]) rfl ⟨rfl, ⟨_, ?_, j2⟩, U3⟩
     have hm0 : m = 0 := by omega
     have hL0 : L = [] := List.eq_nil_of_length_eq_zero (by rw [HM.out]; exact hm0)
     show LnS R _ (.slice _ m 0) L
     rw [hm0, hL0]
     exact ⟨_, _, rfl, by simp, by omega, fun i p hi => by simp at hi⟩
    case inr =>
     exact bodyPost_end (v := .tuple #[]) (by simp [results, Tryz.results30, go_sem]) rfl ⟨rfl, ⟨_, HT.out.aside U2.low, k2⟩, U2⟩
 ·rw [decide_eq_false he] at CR
  rw [next_err he]
  have CRH : Hid _ := CR
  clear CR he
  go_enter Tryz.func30, Tryz.ntmps30
  go_wp2_with fail
  refine Calls.mono CRH.out ?_
  rintro e w1 ⟨rfl, hw⟩
  replace hw := hw.symm
  subst hw
  go_wp2
  exact bodyPost_end (v := .tuple #[]) (by simp [results, Tryz.results30, go_sem]) rfl ⟨rfl, h, UpW.refl hlt⟩

theorem fail_ok (r : Rd) : r.fail 0 = r := by unfold Rd.fail; rw [if_pos rfl]
theorem last_nil {r : Rd} (h : r.L = []) : r.last = none := by unfold Rd.last; rw [h]
theorem last_zero {r : Rd} (h : r.k = 0) : r.last = none := by
 unfold Rd.last
 split
 ·rfl
 ·rw [if_neg (by omega)]
theorem last_some {r : Rd} {l : List Tok × Nat} {L : List (List Tok × Nat)} (h : r.L = l :: L) (hk : 0 < r.k) : r.last = l.1[r.k - 1]? := by unfold Rd.last; rw [h]; dsimp only; rw [if_pos hk]
theorem fail_none {r : Rd} {e : Nat} (he : ¬ e = 0) (h : r.last = none) : r.fail e = r := by unfold Rd.fail; rw [if_neg he, h]
theorem fail_some {r : Rd} {e : Nat} {t : Tok} (he : ¬ e = 0) (h : r.last = some t) : r.fail e = r.stop e t.1 := by unfold Rd.fail; rw [if_neg he, h]
set_option maxRecDepth 20000 in
set_option maxHeartbeats 2000000 in
theorem Fail_at {w : World} {R : Nat} {r : Rd} (e : Nat) (h : RM w R r) (ho : RdOK r) : Calls Tryz.prog 63 #[.pointer (some ⟨R, 0, none⟩), .int .i64 (e : Int)] w (VoidOut w R (r.fail e)) := by
 have hlt := h.lt
 by_cases he : e = 0
 ·subst he
  rw [fail_ok]
  go_enter Tryz.func63, Tryz.ntmps63
  go_wp2
  exact bodyPost_end (v := .tuple #[]) (by simp [results, Tryz.results63, go_sem]) rfl ⟨rfl, h, UpW.refl hlt⟩
 ·have he1 : ((e : Int) == 0) = false := by simp [he]
  have he2 : decide ((e : Int) = 0) = false := by simp [he]
  have he3 : ¬ (e : Int) = 0 := by omega
  have he4 : ((e : Int) != 0) = true := by simp [he]
  have CL := Lines_at h
  cases hL : r.L with
  | nil =>
   rw [fail_none he (last_nil hL)]
   rw [hL] at CL
   have CLH : Hid _ := CL
   clear CL hL he
   generalize (e : Int) = E at *
   go_enter Tryz.func63, Tryz.ntmps63
   go_wp2_with fail
   refine Calls.mono CLH.out ?_
   rintro e w1 ⟨rfl, hw⟩
   replace hw := hw.symm
   subst hw
   go_wp2
   exact bodyPost_end (v := .tuple #[]) (by simp [results, Tryz.results63, go_sem]) rfl ⟨rfl, h, UpW.refl hlt⟩
  | cons l L =>
   rw [hL, List.length_cons] at CL
   have CLH : Hid _ := CL
   have g1 : (0 : Int) < ((L.length + 1 : Nat) : Int) := by omega
   obtain ⟨v, hl, hv⟩ := id h
   rw [hL] at hl
   obtain ⟨g, o, c, u, rfl, hcc, hgR, cu, ce, tk⟩ := hl.firstL
   have z1 := hv.c1
   by_cases hk : r.k = 0
   ·rw [fail_none he (last_zero hk)]
    rw [hk] at z1
    clear CL hL he hl hv tk ce hk
    generalize L.length + 1 = n at *
    generalize (e : Int) = E at *
    go_enter Tryz.func63, Tryz.ntmps63
    go_wp2_with fail
    refine Calls.mono CLH.out ?_
    rintro e w1 ⟨rfl, hw⟩
    replace hw := hw.symm
    subst hw
    go_wp2
    exact bodyPost_end (v := .tuple #[]) (by simp [results, Tryz.results63, go_sem]) rfl ⟨rfl, h, UpW.refl hlt⟩
   ·have hkl := ho.k l L hL
    obtain ⟨j, hj⟩ : ∃ j, r.k = j + 1 := ⟨r.k - 1, by omega⟩
    obtain ⟨t, ht⟩ : ∃ t, l.1[j]? = some t := ⟨_, List.getElem?_eq_getElem (by omega)⟩
    have hz := ho.z
    rw [fail_some (t := t) he (by rw [last_some hL (by omega), hj]; exact ht)]
    obtain ⟨g2, o2, c2, rfl, hg2, t0, t1, t2⟩ := tk.atL ht
    have z0 := hv.c0
    rw [hj] at z1
    have e1 : ((j + 1 : Nat) : Int) = (j : Int) + 1 := by omega
    rw [e1] at z1
    have hkm : (j : Int) < (l.1.length : Int) := by omega
    have gj : (0 : Int) ≤ (j : Int) := by omega
    have g2' : (0 : Int) < (j : Int) + 1 := by omega
    have hwk : IntKind.i64.wrap (j : Int) = (j : Int) := wrap_id6 (by omega)
    have hwr : IntKind.i64.wrap ((j : Int) + 1 - 1) = (j : Int) := by rw [show (j : Int) + 1 - 1 = (j : Int) by omega]; exact hwk
    have gjn : j < l.1.length := by omega
    have HF : Hid (∀ W, RM W R r → Calls Tryz.prog 53 #[.pointer (some ⟨R, 0, none⟩), .int .i64 (e : Int), .int .i64 (t.1 : Int)] W fun e' w' => e' = .returned (.tuple #[]) ∧ RM w' R (r.stop e t.1) ∧ Upd W w' R 0 5) := fun W hW => stop_at e t.1 hW
    clear CL hL he hl hv tk ce hk hkl hj ht hz e1 t1 t2
    generalize hn : L.length + 1 = n at *
    have gn : (0 : Int) < (n : Int) := by omega
    clear hn
    generalize l.1.length = m at *
    generalize (e : Int) = E at *
    go_enter Tryz.func63, Tryz.ntmps63
    go_wp2_with fail
    refine Calls.mono CLH.out ?_
    rintro e w1 ⟨rfl, hw⟩
    replace hw := hw.symm
    subst hw
    have BB : Below w.heap.size w w := Below.refl _ _
    go_wp2_with fail
    have h1 := h
    have z0c : C6 w R 0 _ := z0
    have z1c : C6 w R 1 _ := z1
    have cuc : C6 w g o _ := cu
    have s0c : C6 w g2 (o2 + j * 3) _ := t0
    clear z0 z1 cu t0 CLH h
    refine wp_region_untilF 17 #[true, true, true, true, true, true, true, true, true, true, true, true, true, true, true, true, true, false] (fun aF lsd a' w' => ∃ vu0 vu1 vu2 vu3 vu4 vu5 vu6 vu7 vu8 vu9 vu10 vu11 vu12 vu13 vu14 vu15 vu16 : Value, a' = ((((((((((((((((aF.put (some 18) vu0).put (some 19) vu1).put (some 20) vu2).put (some 21) vu3).put (some 22) vu4).put (some 23) vu5).put (some 24) vu6).put (some 25) vu7).put (some 26) vu8).put (some 27) vu9).put (some 28) vu10).put (some 29) vu11).put (some 30) vu12).put (some 31) vu13).put (some 32) vu14).put (some 33) vu15).put (some 34) vu16 ∧ Below w.heap.size w w' ∧ (lsd.getD 0 false = true → vu0 = .pointer (some ⟨R, 0, none⟩)) ∧ (lsd.getD 1 false = true → vu1 = .int .i64 E) ∧ (lsd.getD 2 false = true → vu2 = .pointer (some ⟨R, 0, none⟩)) ∧ (lsd.getD 3 false = true → vu3 = .pointer (some ⟨R, 0, none⟩)) ∧ (lsd.getD 4 false = true → vu4 = .pointer (some ⟨R, 0, none⟩)) ∧ (lsd.getD 5 false = true → vu5 = .slice (some ⟨g, o, none⟩) n c) ∧ (lsd.getD 6 false = true → vu6 = .pointer (some ⟨g, o, none⟩)) ∧ (lsd.getD 7 false = true → vu7 = .pointer (some ⟨g, o, none⟩)) ∧ (lsd.getD 8 false = true → vu8 = .slice (some ⟨g2, o2, none⟩) m c2) ∧ (lsd.getD 9 false = true → vu9 = .pointer (some ⟨R, 0, none⟩)) ∧ (lsd.getD 10 false = true → vu10 = .pointer (some ⟨R, 0, none⟩)) ∧ (lsd.getD 11 false = true → vu11 = .pointer (some ⟨R, 1, none⟩)) ∧ (lsd.getD 12 false = true → vu12 = .int .i64 ((j : Int) + 1)) ∧ (lsd.getD 13 false = true → vu13 = .int .i64 (j : Int)) ∧ (lsd.getD 14 false = true → vu14 = .pointer (some ⟨g2, o2 + j * 3, none⟩)) ∧ (lsd.getD 15 false = true → vu15 = .pointer (some ⟨g2, o2 + j * 3, none⟩)) ∧ (lsd.getD 16 false = true → vu16 = .int .i64 (t.1 : Int))) (by kernel_rfl) (by decide) (by kernel_rfl) (by rfl) (by kernel_rfl) ?_ ?_ ?_
    ·exact ⟨_, _, _, _, _, _, _, _, _, _, _, _, _, _, _, _, _, by simp only [Act.put, xL4, xL5, xL6]; rfl, (Below.refl _ _).drew, fun h => absurd h (fun h => mark_none h), fun h => absurd h (fun h => mark_none h), fun h => absurd h (fun h => mark_none h), fun h => absurd h (fun h => mark_none h), fun h => absurd h (fun h => mark_none h), fun h => absurd h (fun h => mark_none h), fun h => absurd h (fun h => mark_none h), fun h => absurd h (fun h => mark_none h), fun h => absurd h (fun h => mark_none h), fun h => absurd h (fun h => mark_none h), fun h => absurd h (fun h => mark_none h), fun h => absurd h (fun h => mark_none h), fun h => absurd h (fun h => mark_none h), fun h => absurd h (fun h => mark_none h), fun h => absurd h (fun h => mark_none h), fun h => absurd h (fun h => mark_none h), fun h => absurd h (fun h => mark_none h)⟩
    ·rintro lsd au wn iu hszu ⟨vu0, vu1, vu2, vu3, vu4, vu5, vu6, vu7, vu8, vu9, vu10, vu11, vu12, vu13, vu14, vu15, vu16, rfl, hbu, fu0, fu1, fu2, fu3, fu4, fu5, fu6, fu7, fu8, fu9, fu10, fu11, fu12, fu13, fu14, fu15, fu16⟩ himu hru
     rcases (show iu = 0 ∨ iu = 1 ∨ iu = 2 ∨ iu = 3 ∨ iu = 4 ∨ iu = 5 ∨ iu = 6 ∨ iu = 7 ∨ iu = 8 ∨ iu = 9 ∨ iu = 10 ∨ iu = 11 ∨ iu = 12 ∨ iu = 13 ∨ iu = 14 ∨ iu = 15 ∨ iu = 16 by omega) with rfl | rfl | rfl | rfl | rfl | rfl | rfl | rfl | rfl | rfl | rfl | rfl | rfl | rfl | rfl | rfl | rfl
     ·refine wpOp_shut (by rfl) (fun K hK => ?_)
      simp only [Act.put, xL4, xL5, xL6]
      go_simp
      exact hK.out _ _ ⟨(.pointer (some ⟨R, 0, none⟩)), vu1, vu2, vu3, vu4, vu5, vu6, vu7, vu8, vu9, vu10, vu11, vu12, vu13, vu14, vu15, vu16, by simp only [Act.put, xL4, xL5, xL6], hbu, fun _ => rfl, fun h => fu1 (mark_of (by decide) h), fun h => fu2 (mark_of (by decide) h), fun h => fu3 (mark_of (by decide) h), fun h => fu4 (mark_of (by decide) h), fun h => fu5 (mark_of (by decide) h), fun h => fu6 (mark_of (by decide) h), fun h => fu7 (mark_of (by decide) h), fun h => fu8 (mark_of (by decide) h), fun h => fu9 (mark_of (by decide) h), fun h => fu10 (mark_of (by decide) h), fun h => fu11 (mark_of (by decide) h), fun h => fu12 (mark_of (by decide) h), fun h => fu13 (mark_of (by decide) h), fun h => fu14 (mark_of (by decide) h), fun h => fu15 (mark_of (by decide) h), fun h => fu16 (mark_of (by decide) h)⟩
     ·refine wpOp_shut (by rfl) (fun K hK => ?_)
      simp only [Act.put, xL4, xL5, xL6]
      go_simp
      exact hK.out _ _ ⟨vu0, (.int .i64 E), vu2, vu3, vu4, vu5, vu6, vu7, vu8, vu9, vu10, vu11, vu12, vu13, vu14, vu15, vu16, by simp only [Act.put, xL4, xL5, xL6], hbu, fun h => fu0 (mark_of (by decide) h), fun _ => rfl, fun h => fu2 (mark_of (by decide) h), fun h => fu3 (mark_of (by decide) h), fun h => fu4 (mark_of (by decide) h), fun h => fu5 (mark_of (by decide) h), fun h => fu6 (mark_of (by decide) h), fun h => fu7 (mark_of (by decide) h), fun h => fu8 (mark_of (by decide) h), fun h => fu9 (mark_of (by decide) h), fun h => fu10 (mark_of (by decide) h), fun h => fu11 (mark_of (by decide) h), fun h => fu12 (mark_of (by decide) h), fun h => fu13 (mark_of (by decide) h), fun h => fu14 (mark_of (by decide) h), fun h => fu15 (mark_of (by decide) h), fun h => fu16 (mark_of (by decide) h)⟩
     ·refine wpOp_shut (by rfl) (fun K hK => ?_)
      simp only [Act.put, xL4, xL5, xL6]
      go_simp
      exact hK.out _ _ ⟨vu0, vu1, (.pointer (some ⟨R, 0, none⟩)), vu3, vu4, vu5, vu6, vu7, vu8, vu9, vu10, vu11, vu12, vu13, vu14, vu15, vu16, by simp only [Act.put, xL4, xL5, xL6], hbu, fun h => fu0 (mark_of (by decide) h), fun h => fu1 (mark_of (by decide) h), fun _ => rfl, fun h => fu3 (mark_of (by decide) h), fun h => fu4 (mark_of (by decide) h), fun h => fu5 (mark_of (by decide) h), fun h => fu6 (mark_of (by decide) h), fun h => fu7 (mark_of (by decide) h), fun h => fu8 (mark_of (by decide) h), fun h => fu9 (mark_of (by decide) h), fun h => fu10 (mark_of (by decide) h), fun h => fu11 (mark_of (by decide) h), fun h => fu12 (mark_of (by decide) h), fun h => fu13 (mark_of (by decide) h), fun h => fu14 (mark_of (by decide) h), fun h => fu15 (mark_of (by decide) h), fun h => fu16 (mark_of (by decide) h)⟩
     ·have eu2 := fu2 (dep_of 2 hru rfl (by kernel_rfl))
      replace eu2 := eu2.symm
      subst eu2
      refine wpOp_shut (by rfl) (fun K hK => ?_)
      simp only [Act.put, xL4, xL5, xL6]
      go_simp
      exact hK.out _ _ ⟨vu0, vu1, (.pointer (some ⟨R, 0, none⟩)), (.pointer (some ⟨R, 0, none⟩)), vu4, vu5, vu6, vu7, vu8, vu9, vu10, vu11, vu12, vu13, vu14, vu15, vu16, by simp only [Act.put, xL4, xL5, xL6], hbu, fun h => fu0 (mark_of (by decide) h), fun h => fu1 (mark_of (by decide) h), fun _ => rfl, fun _ => rfl, fun h => fu4 (mark_of (by decide) h), fun h => fu5 (mark_of (by decide) h), fun h => fu6 (mark_of (by decide) h), fun h => fu7 (mark_of (by decide) h), fun h => fu8 (mark_of (by decide) h), fun h => fu9 (mark_of (by decide) h), fun h => fu10 (mark_of (by decide) h), fun h => fu11 (mark_of (by decide) h), fun h => fu12 (mark_of (by decide) h), fun h => fu13 (mark_of (by decide) h), fun h => fu14 (mark_of (by decide) h), fun h => fu15 (mark_of (by decide) h), fun h => fu16 (mark_of (by decide) h)⟩
     ·have eu3 := fu3 (dep_of 3 hru rfl (by kernel_rfl))
      replace eu3 := eu3.symm
      subst eu3
      refine wpOp_shut (by rfl) (fun K hK => ?_)
      simp only [Act.put, xL4, xL5, xL6]
      go_simp
      exact hK.out _ _ ⟨vu0, vu1, vu2, (.pointer (some ⟨R, 0, none⟩)), (.pointer (some ⟨R, 0, none⟩)), vu5, vu6, vu7, vu8, vu9, vu10, vu11, vu12, vu13, vu14, vu15, vu16, by simp only [Act.put, xL4, xL5, xL6], hbu, fun h => fu0 (mark_of (by decide) h), fun h => fu1 (mark_of (by decide) h), fun h => fu2 (mark_of (by decide) h), fun _ => rfl, fun _ => rfl, fun h => fu5 (mark_of (by decide) h), fun h => fu6 (mark_of (by decide) h), fun h => fu7 (mark_of (by decide) h), fun h => fu8 (mark_of (by decide) h), fun h => fu9 (mark_of (by decide) h), fun h => fu10 (mark_of (by decide) h), fun h => fu11 (mark_of (by decide) h), fun h => fu12 (mark_of (by decide) h), fun h => fu13 (mark_of (by decide) h), fun h => fu14 (mark_of (by decide) h), fun h => fu15 (mark_of (by decide) h), fun h => fu16 (mark_of (by decide) h)⟩
     ·have eu4 := fu4 (dep_of 4 hru rfl (by kernel_rfl))
      replace eu4 := eu4.symm
      subst eu4
      refine wpOp_shut (by rfl) (fun K hK => ?_)
      simp only [Act.put, xL4, xL5, xL6]
      have zz : wn.cell? _ = _ := z0c.below hbu
      go_simp
      exact hK.out _ _ ⟨vu0, vu1, vu2, vu3, (.pointer (some ⟨R, 0, none⟩)), (.slice (some ⟨g, o, none⟩) n c), vu6, vu7, vu8, vu9, vu10, vu11, vu12, vu13, vu14, vu15, vu16, by simp only [Act.put, xL4, xL5, xL6], hbu, fun h => fu0 (mark_of (by decide) h), fun h => fu1 (mark_of (by decide) h), fun h => fu2 (mark_of (by decide) h), fun h => fu3 (mark_of (by decide) h), fun _ => rfl, fun _ => rfl, fun h => fu6 (mark_of (by decide) h), fun h => fu7 (mark_of (by decide) h), fun h => fu8 (mark_of (by decide) h), fun h => fu9 (mark_of (by decide) h), fun h => fu10 (mark_of (by decide) h), fun h => fu11 (mark_of (by decide) h), fun h => fu12 (mark_of (by decide) h), fun h => fu13 (mark_of (by decide) h), fun h => fu14 (mark_of (by decide) h), fun h => fu15 (mark_of (by decide) h), fun h => fu16 (mark_of (by decide) h)⟩
     ·have eu5 := fu5 (dep_of 5 hru rfl (by kernel_rfl))
      replace eu5 := eu5.symm
      subst eu5
      refine wpOp_shut (by rfl) (fun K hK => ?_)
      simp only [Act.put, xL4, xL5, xL6]
      go_simp
      exact hK.out _ _ ⟨vu0, vu1, vu2, vu3, vu4, (.slice (some ⟨g, o, none⟩) n c), (.pointer (some ⟨g, o, none⟩)), vu7, vu8, vu9, vu10, vu11, vu12, vu13, vu14, vu15, vu16, by simp only [Act.put, xL4, xL5, xL6], hbu, fun h => fu0 (mark_of (by decide) h), fun h => fu1 (mark_of (by decide) h), fun h => fu2 (mark_of (by decide) h), fun h => fu3 (mark_of (by decide) h), fun h => fu4 (mark_of (by decide) h), fun _ => rfl, fun _ => rfl, fun h => fu7 (mark_of (by decide) h), fun h => fu8 (mark_of (by decide) h), fun h => fu9 (mark_of (by decide) h), fun h => fu10 (mark_of (by decide) h), fun h => fu11 (mark_of (by decide) h), fun h => fu12 (mark_of (by decide) h), fun h => fu13 (mark_of (by decide) h), fun h => fu14 (mark_of (by decide) h), fun h => fu15 (mark_of (by decide) h), fun h => fu16 (mark_of (by decide) h)⟩
     ·have eu6 := fu6 (dep_of 6 hru rfl (by kernel_rfl))
      replace eu6 := eu6.symm
      subst eu6
      refine wpOp_shut (by rfl) (fun K hK => ?_)
      simp only [Act.put, xL4, xL5, xL6]
      go_simp
      exact hK.out _ _ ⟨vu0, vu1, vu2, vu3, vu4, vu5, (.pointer (some ⟨g, o, none⟩)), (.pointer (some ⟨g, o, none⟩)), vu8, vu9, vu10, vu11, vu12, vu13, vu14, vu15, vu16, by simp only [Act.put, xL4, xL5, xL6], hbu, fun h => fu0 (mark_of (by decide) h), fun h => fu1 (mark_of (by decide) h), fun h => fu2 (mark_of (by decide) h), fun h => fu3 (mark_of (by decide) h), fun h => fu4 (mark_of (by decide) h), fun h => fu5 (mark_of (by decide) h), fun _ => rfl, fun _ => rfl, fun h => fu8 (mark_of (by decide) h), fun h => fu9 (mark_of (by decide) h), fun h => fu10 (mark_of (by decide) h), fun h => fu11 (mark_of (by decide) h), fun h => fu12 (mark_of (by decide) h), fun h => fu13 (mark_of (by decide) h), fun h => fu14 (mark_of (by decide) h), fun h => fu15 (mark_of (by decide) h), fun h => fu16 (mark_of (by decide) h)⟩
     ·have eu7 := fu7 (dep_of 7 hru rfl (by kernel_rfl))
      replace eu7 := eu7.symm
      subst eu7
      refine wpOp_shut (by rfl) (fun K hK => ?_)
      simp only [Act.put, xL4, xL5, xL6]
      have zz : wn.cell? _ = _ := cuc.below hbu
      go_simp
      exact hK.out _ _ ⟨vu0, vu1, vu2, vu3, vu4, vu5, vu6, (.pointer (some ⟨g, o, none⟩)), (.slice (some ⟨g2, o2, none⟩) m c2), vu9, vu10, vu11, vu12, vu13, vu14, vu15, vu16, by simp only [Act.put, xL4, xL5, xL6], hbu, fun h => fu0 (mark_of (by decide) h), fun h => fu1 (mark_of (by decide) h), fun h => fu2 (mark_of (by decide) h), fun h => fu3 (mark_of (by decide) h), fun h => fu4 (mark_of (by decide) h), fun h => fu5 (mark_of (by decide) h), fun h => fu6 (mark_of (by decide) h), fun _ => rfl, fun _ => rfl, fun h => fu9 (mark_of (by decide) h), fun h => fu10 (mark_of (by decide) h), fun h => fu11 (mark_of (by decide) h), fun h => fu12 (mark_of (by decide) h), fun h => fu13 (mark_of (by decide) h), fun h => fu14 (mark_of (by decide) h), fun h => fu15 (mark_of (by decide) h), fun h => fu16 (mark_of (by decide) h)⟩
     ·refine wpOp_shut (by rfl) (fun K hK => ?_)
      simp only [Act.put, xL4, xL5, xL6]
      go_simp
      exact hK.out _ _ ⟨vu0, vu1, vu2, vu3, vu4, vu5, vu6, vu7, vu8, (.pointer (some ⟨R, 0, none⟩)), vu10, vu11, vu12, vu13, vu14, vu15, vu16, by simp only [Act.put, xL4, xL5, xL6], hbu, fun h => fu0 (mark_of (by decide) h), fun h => fu1 (mark_of (by decide) h), fun h => fu2 (mark_of (by decide) h), fun h => fu3 (mark_of (by decide) h), fun h => fu4 (mark_of (by decide) h), fun h => fu5 (mark_of (by decide) h), fun h => fu6 (mark_of (by decide) h), fun h => fu7 (mark_of (by decide) h), fun h => fu8 (mark_of (by decide) h), fun _ => rfl, fun h => fu10 (mark_of (by decide) h), fun h => fu11 (mark_of (by decide) h), fun h => fu12 (mark_of (by decide) h), fun h => fu13 (mark_of (by decide) h), fun h => fu14 (mark_of (by decide) h), fun h => fu15 (mark_of (by decide) h), fun h => fu16 (mark_of (by decide) h)⟩
     ·have eu9 := fu9 (dep_of 9 hru rfl (by kernel_rfl))
      replace eu9 := eu9.symm
      subst eu9
      refine wpOp_shut (by rfl) (fun K hK => ?_)
      simp only [Act.put, xL4, xL5, xL6]
      go_simp
      exact hK.out _ _ ⟨vu0, vu1, vu2, vu3, vu4, vu5, vu6, vu7, vu8, (.pointer (some ⟨R, 0, none⟩)), (.pointer (some ⟨R, 0, none⟩)), vu11, vu12, vu13, vu14, vu15, vu16, by simp only [Act.put, xL4, xL5, xL6], hbu, fun h => fu0 (mark_of (by decide) h), fun h => fu1 (mark_of (by decide) h), fun h => fu2 (mark_of (by decide) h), fun h => fu3 (mark_of (by decide) h), fun h => fu4 (mark_of (by decide) h), fun h => fu5 (mark_of (by decide) h), fun h => fu6 (mark_of (by decide) h), fun h => fu7 (mark_of (by decide) h), fun h => fu8 (mark_of (by decide) h), fun _ => rfl, fun _ => rfl, fun h => fu11 (mark_of (by decide) h), fun h => fu12 (mark_of (by decide) h), fun h => fu13 (mark_of (by decide) h), fun h => fu14 (mark_of (by decide) h), fun h => fu15 (mark_of (by decide) h), fun h => fu16 (mark_of (by decide) h)⟩
     ·have eu10 := fu10 (dep_of 10 hru rfl (by kernel_rfl))
      replace eu10 := eu10.symm
      subst eu10
      refine wpOp_shut (by rfl) (fun K hK => ?_)
      simp only [Act.put, xL4, xL5, xL6]
      go_simp
      exact hK.out _ _ ⟨vu0, vu1, vu2, vu3, vu4, vu5, vu6, vu7, vu8, vu9, (.pointer (some ⟨R, 0, none⟩)), (.pointer (some ⟨R, 1, none⟩)), vu12, vu13, vu14, vu15, vu16, by simp only [Act.put, xL4, xL5, xL6], hbu, fun h => fu0 (mark_of (by decide) h), fun h => fu1 (mark_of (by decide) h), fun h => fu2 (mark_of (by decide) h), fun h => fu3 (mark_of (by decide) h), fun h => fu4 (mark_of (by decide) h), fun h => fu5 (mark_of (by decide) h), fun h => fu6 (mark_of (by decide) h), fun h => fu7 (mark_of (by decide) h), fun h => fu8 (mark_of (by decide) h), fun h => fu9 (mark_of (by decide) h), fun _ => rfl, fun _ => rfl, fun h => fu12 (mark_of (by decide) h), fun h => fu13 (mark_of (by decide) h), fun h => fu14 (mark_of (by decide) h), fun h => fu15 (mark_of (by decide) h), fun h => fu16 (mark_of (by decide) h)⟩
     ·have eu11 := fu11 (dep_of 11 hru rfl (by kernel_rfl))
      replace eu11 := eu11.symm
      subst eu11
      refine wpOp_shut (by rfl) (fun K hK => ?_)
      simp only [Act.put, xL4, xL5, xL6]
      have zz : wn.cell? _ = _ := z1c.below hbu
      go_simp
      exact hK.out _ _ ⟨vu0, vu1, vu2, vu3, vu4, vu5, vu6, vu7, vu8, vu9, vu10, (.pointer (some ⟨R, 1, none⟩)), (.int .i64 ((j : Int) + 1)), vu13, vu14, vu15, vu16, by simp only [Act.put, xL4, xL5, xL6], hbu, fun h => fu0 (mark_of (by decide) h), fun h => fu1 (mark_of (by decide) h), fun h => fu2 (mark_of (by decide) h), fun h => fu3 (mark_of (by decide) h), fun h => fu4 (mark_of (by decide) h), fun h => fu5 (mark_of (by decide) h), fun h => fu6 (mark_of (by decide) h), fun h => fu7 (mark_of (by decide) h), fun h => fu8 (mark_of (by decide) h), fun h => fu9 (mark_of (by decide) h), fun h => fu10 (mark_of (by decide) h), fun _ => rfl, fun _ => rfl, fun h => fu13 (mark_of (by decide) h), fun h => fu14 (mark_of (by decide) h), fun h => fu15 (mark_of (by decide) h), fun h => fu16 (mark_of (by decide) h)⟩
     ·have eu12 := fu12 (dep_of 12 hru rfl (by kernel_rfl))
      replace eu12 := eu12.symm
      subst eu12
      refine wpOp_shut (by rfl) (fun K hK => ?_)
      simp only [Act.put, xL4, xL5, xL6]
      go_simp
      exact hK.out _ _ ⟨vu0, vu1, vu2, vu3, vu4, vu5, vu6, vu7, vu8, vu9, vu10, vu11, (.int .i64 ((j : Int) + 1)), (.int .i64 (j : Int)), vu14, vu15, vu16, by simp only [Act.put, xL4, xL5, xL6], hbu, fun h => fu0 (mark_of (by decide) h), fun h => fu1 (mark_of (by decide) h), fun h => fu2 (mark_of (by decide) h), fun h => fu3 (mark_of (by decide) h), fun h => fu4 (mark_of (by decide) h), fun h => fu5 (mark_of (by decide) h), fun h => fu6 (mark_of (by decide) h), fun h => fu7 (mark_of (by decide) h), fun h => fu8 (mark_of (by decide) h), fun h => fu9 (mark_of (by decide) h), fun h => fu10 (mark_of (by decide) h), fun h => fu11 (mark_of (by decide) h), fun _ => rfl, fun _ => rfl, fun h => fu14 (mark_of (by decide) h), fun h => fu15 (mark_of (by decide) h), fun h => fu16 (mark_of (by decide) h)⟩
     ·have eu8 := fu8 (dep_of 8 hru rfl (by kernel_rfl))
      have eu13 := fu13 (dep_of 13 hru rfl (by kernel_rfl))
      replace eu8 := eu8.symm
      subst eu8
      replace eu13 := eu13.symm
      subst eu13
      refine wpOp_shut (by rfl) (fun K hK => ?_)
      simp only [Act.put, xL4, xL5, xL6]
      go_simp
      exact hK.out _ _ ⟨vu0, vu1, vu2, vu3, vu4, vu5, vu6, vu7, (.slice (some ⟨g2, o2, none⟩) m c2), vu9, vu10, vu11, vu12, (.int .i64 (j : Int)), (.pointer (some ⟨g2, o2 + j * 3, none⟩)), vu15, vu16, by simp only [Act.put, xL4, xL5, xL6], hbu, fun h => fu0 (mark_of (by decide) h), fun h => fu1 (mark_of (by decide) h), fun h => fu2 (mark_of (by decide) h), fun h => fu3 (mark_of (by decide) h), fun h => fu4 (mark_of (by decide) h), fun h => fu5 (mark_of (by decide) h), fun h => fu6 (mark_of (by decide) h), fun h => fu7 (mark_of (by decide) h), fun _ => rfl, fun h => fu9 (mark_of (by decide) h), fun h => fu10 (mark_of (by decide) h), fun h => fu11 (mark_of (by decide) h), fun h => fu12 (mark_of (by decide) h), fun _ => rfl, fun _ => rfl, fun h => fu15 (mark_of (by decide) h), fun h => fu16 (mark_of (by decide) h)⟩
     ·have eu14 := fu14 (dep_of 14 hru rfl (by kernel_rfl))
      replace eu14 := eu14.symm
      subst eu14
      refine wpOp_shut (by rfl) (fun K hK => ?_)
      simp only [Act.put, xL4, xL5, xL6]
      go_simp
      exact hK.out _ _ ⟨vu0, vu1, vu2, vu3, vu4, vu5, vu6, vu7, vu8, vu9, vu10, vu11, vu12, vu13, (.pointer (some ⟨g2, o2 + j * 3, none⟩)), (.pointer (some ⟨g2, o2 + j * 3, none⟩)), vu16, by simp only [Act.put, xL4, xL5, xL6], hbu, fun h => fu0 (mark_of (by decide) h), fun h => fu1 (mark_of (by decide) h), fun h => fu2 (mark_of (by decide) h), fun h => fu3 (mark_of (by decide) h), fun h => fu4 (mark_of (by decide) h), fun h => fu5 (mark_of (by decide) h), fun h => fu6 (mark_of (by decide) h), fun h => fu7 (mark_of (by decide) h), fun h => fu8 (mark_of (by decide) h), fun h => fu9 (mark_of (by decide) h), fun h => fu10 (mark_of (by decide) h), fun h => fu11 (mark_of (by decide) h), fun h => fu12 (mark_of (by decide) h), fun h => fu13 (mark_of (by decide) h), fun _ => rfl, fun _ => rfl, fun h => fu16 (mark_of (by decide) h)⟩
     ·have eu15 := fu15 (dep_of 15 hru rfl (by kernel_rfl))
      replace eu15 := eu15.symm
      subst eu15
      refine wpOp_shut (by rfl) (fun K hK => ?_)
      simp only [Act.put, xL4, xL5, xL6]
      have zz : wn.cell? _ = _ := s0c.below hbu
      go_simp
      exact hK.out _ _ ⟨vu0, vu1, vu2, vu3, vu4, vu5, vu6, vu7, vu8, vu9, vu10, vu11, vu12, vu13, vu14, (.pointer (some ⟨g2, o2 + j * 3, none⟩)), (.int .i64 (t.1 : Int)), by simp only [Act.put, xL4, xL5, xL6], hbu, fun h => fu0 (mark_of (by decide) h), fun h => fu1 (mark_of (by decide) h), fun h => fu2 (mark_of (by decide) h), fun h => fu3 (mark_of (by decide) h), fun h => fu4 (mark_of (by decide) h), fun h => fu5 (mark_of (by decide) h), fun h => fu6 (mark_of (by decide) h), fun h => fu7 (mark_of (by decide) h), fun h => fu8 (mark_of (by decide) h), fun h => fu9 (mark_of (by decide) h), fun h => fu10 (mark_of (by decide) h), fun h => fu11 (mark_of (by decide) h), fun h => fu12 (mark_of (by decide) h), fun h => fu13 (mark_of (by decide) h), fun h => fu14 (mark_of (by decide) h), fun _ => rfl, fun _ => rfl⟩
    rintro au Wu1 ⟨vu0, vu1, vu2, vu3, vu4, vu5, vu6, vu7, vu8, vu9, vu10, vu11, vu12, vu13, vu14, vu15, vu16, rfl, hbu, fu0, fu1, fu2, fu3, fu4, fu5, fu6, fu7, fu8, fu9, fu10, fu11, fu12, fu13, fu14, fu15, fu16⟩
    have eu0 := (fu0 rfl).symm
    subst eu0
    have eu1 := (fu1 rfl).symm
    subst eu1
    have eu2 := (fu2 rfl).symm
    subst eu2
    have eu3 := (fu3 rfl).symm
    subst eu3
    have eu4 := (fu4 rfl).symm
    subst eu4
    have eu5 := (fu5 rfl).symm
    subst eu5
    have eu6 := (fu6 rfl).symm
    subst eu6
    have eu7 := (fu7 rfl).symm
    subst eu7
    have eu8 := (fu8 rfl).symm
    subst eu8
    have eu9 := (fu9 rfl).symm
    subst eu9
    have eu10 := (fu10 rfl).symm
    subst eu10
    have eu11 := (fu11 rfl).symm
    subst eu11
    have eu12 := (fu12 rfl).symm
    subst eu12
    have eu13 := (fu13 rfl).symm
    subst eu13
    have eu14 := (fu14 rfl).symm
    subst eu14
    have eu15 := (fu15 rfl).symm
    subst eu15
    have eu16 := (fu16 rfl).symm
    subst eu16
    clear fu0 fu1 fu2 fu3 fu4 fu5 fu6 fu7 fu8 fu9 fu10 fu11 fu12 fu13 fu14 fu15 fu16
    replace h1 := h1.below hbu
    replace z0c := z0c.below hbu
    replace z1c := z1c.below hbu
    replace cuc := cuc.below hbu
    replace s0c := s0c.below hbu
    replace BB := BB.trans (hbu.mono BB.size)
    clear hbu
    simp only [Act.put, xL4, xL5, xL6]
    refine wpAnyH_ready (rs := [17]) (by kernel_rfl) (by simp) ?_
    refine AllReadyH.cons (by rfl) (fun K hK => ?_) AllReadyH.nil
    go_simp
    refine Calls.mono (HF.out _ h1) ?_
    rintro e wx ⟨rfl, hX, ux⟩
    have UX : UpW w R wx := ((UpW.refl hlt).below BB).step ux
    clear h1 z0c z1c cuc s0c
    go_wp2_with fail
    refine hK.out _ _ trivial (fun _ => ?_)
    clear hK K
    simp only [Act.put, xL4, xL5, xL6]
    refine wpAnyH_done (by kernel_rfl) ?_ _
    go_wp2
    exact bodyPost_end (v := .tuple #[]) (by simp [results, Tryz.results63, go_sem]) rfl ⟨rfl, hX, UX⟩

end Go.Proofs.YthkamfddbiheoaaGreatDoor
