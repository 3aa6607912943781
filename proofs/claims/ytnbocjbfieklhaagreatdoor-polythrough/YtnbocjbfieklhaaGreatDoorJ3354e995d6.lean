/-
  Texts of mine, joined: what lies beneath the statement.
-/
import Derived.Test.YtnbocjbfieklhaaGreatDoorJfec7ad940f
namespace Go.Proofs.YtnbocjbfieklhaaGreatDoor
open Go.RowKit
set_option linter.unusedVariables false
set_option linter.unusedSimpArgs false
def Raws (w : World) (el : Nat → Nat → Value) (n : Nat) (q : Nat → Rat) (L : Nat) : Prop := ∀ i,i < n → RatAt w (elv el i) (q i) L
theorem Raws.below {w w' : World} {el : Nat → Nat → Value} {n : Nat} {q : Nat → Rat} {L : Nat} (h : Raws w el n q L) (hb : Below w.heap.size w w') : Raws w' el n q L := fun i h1 => (h i h1).below hb
theorem Raws.keep {w w' : World} {el : Nat → Nat → Value} {n : Nat} {q : Nat → Rat} {L : Nat} (h : Raws w el n q L) (hk : KeepQ IsNum w w') : Raws w' el n q L := fun i h1 => (h i h1).keep hk
theorem Raws.le {w : World} {el : Nat → Nat → Value} {n : Nat} {q : Nat → Rat} {L M : Nat} (h : Raws w el n q L) (hM : L ≤ M) : Raws w el n q M := fun i h1 => (h i h1).le hM
theorem Raws.upd {w : World} {el : Nat → Nat → Value} {j n : Nat} {q q' : Nat → Rat} {L : Nat} {x y z : Value} (h : Raws w el n q L) (hr : RatAt w (.agg #[x,y,z]) (q' j) L) (hq : ∀ i,i ≠ j → q' i = q i) : Raws w (upd3 el j x y z) n q' L := by
 intro i hi
 by_cases e : i = j
 ·subst e; simpa [elv,upd3] using hr
 ·rw [hq i e]
  have := h i hi
  simp only [elv,upd3_other el j i x y z e] at *
  exact this
def RArr (B : Nat) (w : World) (v : Value) (n : Nat) (q : Nat → Rat) (L : Nat) : Prop :=
 ∃ ao c,v = .slice ao n c ∧ n ≤ c ∧ c ≤ 9223372036854775807 ∧ (0 < n → ∃ g el,ao = some ⟨g,0,none⟩ ∧ B ≤ g ∧ Arr3 w g n el ∧ Raws w el n q L)
theorem raw_cells {w : World} {el : Nat → Nat → Value} {i : Nat} {q : Rat} {L : Nat} (h : RatAt w (elv el i) q L) : ∀ j,j < 3 → (el i j).oneCell' = true ∧ ¬ IsNum (el i j) := by
 obtain ⟨p,ao,n,c,bo,m,d,he⟩ := h.open
 simp only [elv,Value.agg.injEq,Array.mk.injEq,List.cons.injEq,and_true] at he
 intro j hj
 rcases (show j = 0 ∨ j = 1 ∨ j = 2 by omega) with rfl | rfl | rfl
 ·rw [he.1]; exact ⟨rfl,num_bool _⟩
 ·rw [he.2.1]; exact ⟨rfl,num_slice _ _ _⟩
 ·rw [he.2.2]; exact ⟨rfl,num_slice _ _ _⟩
theorem rarr_owns {w : World} {B n : Nat} {e : TypeId} {v : Value} {q : Nat → Rat} {L : Nat} {el : Nat → Nat → Value} (h : w.ownsRow B e 3 v n (flat3 el n)) (hr : ∀ i,i < n → RatAt w (elv el i) (q i) L) : RArr B w v n q L := by
 rcases h.2 with ⟨rfl,rfl⟩ | ⟨g,cap,cur,rfl,hb,hg,hnc,hcm,rest⟩
 ·exact ⟨none,0,rfl,Nat.le_refl _,by omega,fun h => by omega⟩
 ·refine ⟨_,_,rfl,hnc,by unfold maxLen at hcm; omega,fun _ => ⟨g,el,rfl,hb,⟨fun i hi j hj => owns_cell h (flat3_at el n i j hi hj),fun i hi j hj => h.frozenAt _,fun i hi j hj => (raw_cells (hr i hi) j hj).2⟩,hr⟩⟩
theorem Arr3.e3r {w : World} {g n : Nat} {el : Nat → Nat → Value} (h : Arr3 w g n el) (i : Nat) (hi : i < n) {q : Rat} {L : Nat} (hr : RatAt w (elv el i) q L) : ∃ p ao m d bo k e,E3 w g (i * 3) (.bool p) (.slice ao m d) (.slice bo k e) ∧ RatAt w (.agg #[.bool p,.slice ao m d,.slice bo k e]) q L := by
 obtain ⟨p,ao,m,d,bo,k,e,he⟩ := hr.open
 rw [he] at hr
 simp only [elv,Value.agg.injEq,Array.mk.injEq,List.cons.injEq,and_true] at he
 have c0 := h.1 i hi 0 (by omega)
 have c1 := h.1 i hi 1 (by omega)
 have c2 := h.1 i hi 2 (by omega)
 rw [he.1] at c0
 rw [he.2.1] at c1
 rw [he.2.2] at c2
 exact ⟨p,ao,m,d,bo,k,e,⟨c0,c1,c2⟩,hr⟩
set_option maxRecDepth 20000 in
set_option maxHeartbeats 2000000 in
theorem rclone_at (v : Value) (n : Nat) (q : Nat → Rat) (L : Nat) (w : World) (hv : QRow w v n q L) (hn : n ≤ 1000000) :
  Calls Tryz.prog 86 #[v] w fun e w' => ∃ x,e = .returned x ∧ RArr w.heap.size w' x n q L ∧ Below w.heap.size w w' := by
 have q22 : ∀ (w : World) (a : Option Addr) (n c n' c' : Nat),Sem.run Tryz.prog (binOp .eql 22 (.slice a n c) (.slice none n' c')) w = .ok (.bool a.isNone) w := fun w a n c n' c' => Lib.run_eql_slice_nil w _ _ a n c n' c' Tryz.underlying22
 obtain ⟨el,⟨a,c,rfl,hnc,hc63,hcell⟩,hR⟩ := hv
 have BB : Below w.heap.size w w := Below.refl _ _
 cases a with
 | none =>
  have h0 : n = 0 := by
   rcases Nat.eq_zero_or_pos n with h | h
   ·exact h
   ·obtain ⟨b,off,e,_⟩ := hcell h; cases e
  subst h0
  go_enter Tryz.func86,Tryz.ntmps86
  go_wp2
  go_ret
  exact ⟨_,rfl,⟨none,0,rfl,Nat.le_refl _,by omega,fun h => by omega⟩,BB⟩
 | some ad =>
  obtain ⟨i0,hi,hz0,hz1,hz2⟩ := info_parts info_wrat
  have hnews : Hid (∀ (W : World),Below w.heap.size w W → ∀ j u,(flat3 el n)[j]? = some u → W.cell? (ad.add j) = some u) := by
   intro W hb j u hu
   have hlt : j < n * 3 := by have := (List.getElem?_eq_some_iff.1 hu).1; rw [flat3_len] at this; exact this
   obtain ⟨b,off,e,hc⟩ := hcell (by omega)
   cases e
   have h1 := hc (j / 3) (by omega) (j % 3) (by omega)
   have h2 := flat3_at el n (j / 3) (j % 3) (by omega) (by omega)
   rw [show j / 3 * 3 + j % 3 = j by omega] at h2
   rw [h2] at hu
   cases hu
   rw [show off + j / 3 * 3 + j % 3 = off + j by omega] at h1
   rw [add_off]
   exact (hb.cell (World.block_lt_of_cell? _ _ h1)).trans h1
  have h1c : Hid (∀ u ∈ flat3 el n,u.oneCell' = true) := fun u hu => by
   obtain ⟨i,j,hi,hj,rfl⟩ := flat3_mem hu
   exact (raw_cells (hR i hi) j hj).1
  have HR : Hid (∀ i,i < n → RatAt w (elv el i) (q i) L) := hR
  clear hR hcell
  go_enter Tryz.func86,Tryz.ntmps86
  go_wp2_with (at_builtin; refine wpList_append_own _ rfl _ _ 22 rfl w.heap.size 35 i0 (.agg #[.bool false,.slice none 0 0,.slice none 0 0]) 3 56 Tryz.underlying22 hi hz0 hz1 hz2 rfl (by omega) _ 0 [] rfl (owns_empty _ _ _ _ (Nat.le_refl _)) ad n c (flat3 el n) rfl (flat3_len _ _) (hnews.out _ ((Below.refl _ _).alloc (Nat.le_refl _) _)) h1c.out (by unfold maxLen; omega) (by omega) (by simp) ?_)
  intro v' w' ho hg _
  have b1 : Below w.heap.size w (w.alloc (.cells #[] 35)) := (Below.refl _ _).alloc (Nat.le_refl _) _
  have b2 : Below w.heap.size w w' := b1.grown hg (by simp) (fun k e => by cases e; exact Nat.le_refl _)
  have M := rarr_owns (q := q) ho (fun i hi => (HR.out i hi).below b2)
  clear ho hg hnews h1c HR
  go_wp2
  go_ret
  exact ⟨_,rfl,M,b2⟩
end Go.Proofs.YtnbocjbfieklhaaGreatDoor
