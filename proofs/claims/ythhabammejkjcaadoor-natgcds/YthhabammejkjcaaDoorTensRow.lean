/-
  What nat.blockTens answers: the powers of ten that cut a number.
-/
import Derived.Test.YthhabammejkjcaaDoorBlocks
namespace Go.Proofs.YthhabammejkjcaaDoor
open Go.RowKit

theorem info_nat : (Tryd.prog.info? 23).map (fun i => (i.zero, i.size, i.bytes)) = some (some (.slice none 0 0), 1, 24) := by kernel_rfl

/-- 'append' of one value to a row of the call's own: where the longer row lies. -/
theorem wpList_append_one {ops : Array Oper} {rest : List Oper} {o : Oper} {a : Act} {Q : Exit → Act → World → Prop} {w : World} (hgd : o.guard = none) (s x : Operand)
    (ho : o.op = .call { callee := .builtin .append, args := #[s, x], argTypes := #[95, 95] })
    (base g n cap : Nat) (us : List Value) (hs : a.eval s = .slice (some ⟨g, 0, none⟩) n cap) (hown : w.ownsRow base 23 1 (.slice (some ⟨g, 0, none⟩) n cap) n us)
    (ad : Addr) (c : Nat) (u : Value) (hx : a.eval x = .slice (some ad) 1 c) (hnew : ∀ j v, [u][j]? = some v → w.cell? (ad.add j) = some v) (hone : u.oneCell' = true) (hn : n ≤ 100000) (hbase : base ≤ w.heap.size)
    (h : ∀ g' cap' w', w'.ownsRow base 23 1 (.slice (some ⟨g', 0, none⟩) (n + 1) cap') (n + 1) (us ++ [u]) → w.grownBy w' (some g) → (g' = g ∨ g' = w.heap.size) → wpList Tryd.prog ops Q rest (a.put o.dst (.slice (some ⟨g', 0, none⟩) (n + 1) cap')) w') :
    wpList Tryd.prog ops Q (o :: rest) a w := by
  obtain ⟨i0, hi, hz0, hz1, hz2⟩ := info_parts info_nat
  have hone' : ∀ v ∈ [u], v.oneCell' = true := fun v hv => by simp at hv; rw [hv]; exact hone
  obtain ⟨v', w', hr, h2, h3, _⟩ := run_append_own (P := Tryd.prog) w base 95 o.type 23 i0 (.slice none 0 0) 1 24 Tryd.underlying95 hi hz0 hz1 hz2 rfl (by decide) _ n us hown ad 1 c [u] rfl hnew hone' (by unfold maxLen; omega) (by omega) hbase
  have hblk : ∃ g' cap', v' = .slice (some ⟨g', 0, none⟩) (n + 1) cap' ∧ (g' = g ∨ g' = w.heap.size) := by
    have hcells := hown.cells (g := g) rfl
    rcases hown.2 with ⟨h0, _⟩ | ⟨g0, cap0, cur, he, hbg, hg, hnc, hcm, hcs, htake⟩
    · cases h0
    · cases he
      by_cases hroom : n + 1 ≤ cap
      · have hr2 := run_append_room (P := Tryd.prog) w 95 o.type 23 i0 Tryd.underlying95 hi g n cap cur hg ad 1 c [u] (by rw [hz1]; rfl) hnew hone' hroom (by rw [hz1]; simp; omega)
        rw [hr2] at hr
        injection hr with hv hw
        exact ⟨g, cap, hv.symm, .inl rfl⟩
      · have hr2 := run_append_grow (P := Tryd.prog) w 95 o.type 23 i0 (.slice none 0 0) Tryd.underlying95 hi hz0 ⟨g, 0, none⟩ n cap us (by rw [hz1]; exact hown.1) hcells ad 1 c [u] (by rw [hz1]; rfl) hnew (by omega) (by omega) (growslice_fits (by omega) (by rw [hz2]; omega))
        rw [hr2] at hr
        injection hr with hv hw
        exact ⟨_, _, hv.symm, .inr rfl⟩
  obtain ⟨g', cap', rfl, hg'⟩ := hblk
  refine wpList_plain hgd fun K hK => ?_
  unfold Oper.wp execOp
  simp only [ho, resolve, invoke, builtin, Sem.run_bind, Sem.run_pure, Result.andThen_ok, List.map_toArray, List.map_cons, List.map_nil, hs, hx, hr]
  exact hK _ _ (h g' cap' w' h2 h3 hg')

/-- A number whose limbs do not lie in block g. -/
def RepN (g : Nat) (w : World) (v : Value) (m : Nat) : Prop :=
  ∃ ao c, v = .slice ao (nl W32 m) c ∧ nl W32 m ≤ c ∧ nl W32 m ≤ LIM ∧ (0 < nl W32 m → ∃ b off, ao = some ⟨b, off, none⟩ ∧ Cells w .u64 b off (nl W32 m) (dg W32 m) ∧ b ≠ g)
theorem RepN.rep {g : Nat} {w : World} {v : Value} {m : Nat} (h : RepN g w v m) : Rep w v m := by
  obtain ⟨ao, c, h1, h2, h3, h4⟩ := h
  exact ⟨ao, c, h1, h2, h3, fun hn => let ⟨b, off, e, hc, _⟩ := h4 hn; ⟨b, off, e, hc⟩⟩
theorem RepN.below {g : Nat} {w w' : World} {v : Value} {m : Nat} (h : RepN g w v m) (hb : Below w.heap.size w w') : RepN g w' v m := by
  obtain ⟨ao, c, h1, h2, h3, h4⟩ := h
  exact ⟨ao, c, h1, h2, h3, fun hn => let ⟨b, off, e, hc, hl⟩ := h4 hn; ⟨b, off, e, hc.below hb (hc.lt hn), hl⟩⟩
theorem RepN.grown {g g' : Nat} {w w' : World} {v : Value} {m : Nat} (h : RepN g w v m) (hg : w.grownBy w' (some g)) (h' : g' = g ∨ g' = w.heap.size) : RepN g' w' v m := by
  obtain ⟨ao, c, h1, h2, h3, h4⟩ := h
  refine ⟨ao, c, h1, h2, h3, fun hn => ?_⟩
  obtain ⟨b, off, e, hc, hl⟩ := h4 hn
  have hlt := hc.lt hn
  have hne : b ≠ g' := by
    rcases h' with h | h
    · rw [h]; exact hl
    · rw [h]; exact Nat.ne_of_lt hlt
  refine ⟨b, off, e, fun i hi => ?_, hne⟩
  rw [World.cell?_of_block (w := w) (hg.block b hlt (by simp; exact hl))]
  exact hc i hi
theorem RepM.repN {B g : Nat} {w : World} {v : Value} {m : Nat} (h : RepM B w v m) (hg : g < B) : RepN g w v m := by
  obtain ⟨ao, c, h1, h2, h3, h4⟩ := h
  exact ⟨ao, c, h1, h2, h3, fun hn => let ⟨b, off, e, hc, _, hB⟩ := h4 hn; ⟨b, off, e, hc, by omega⟩⟩
theorem Rep.repN {w : World} {v : Value} {m : Nat} (h : Rep w v m) : RepN w.heap.size w v m := by
  obtain ⟨ao, c, h1, h2, h3, h4⟩ := h
  exact ⟨ao, c, h1, h2, h3, fun hn => let ⟨b, off, e, hc⟩ := h4 hn; ⟨b, off, e, hc, Nat.ne_of_lt (hc.lt hn)⟩⟩
theorem rep_one {w : World} {v : Value} {m : Nat} (h : Rep w v m) : v.oneCell' = true := by
  obtain ⟨ao, c, rfl, _⟩ := h
  rfl

theorem owns_below {B : Nat} {e : TypeId} {w w' : World} {v : Value} {n : Nat} {us : List Value} (h : w.ownsRow B e 1 v n us) (hb : Below w.heap.size w w') : w'.ownsRow B e 1 v n us := by
  refine ⟨h.1, ?_⟩
  rcases h.2 with hn | ⟨g, cap, cur, rfl, hB, hg, rest⟩
  · exact .inl hn
  · refine .inr ⟨g, cap, cur, rfl, hB, ?_, rest⟩
    rw [hb.block g (Array.getElem?_eq_some_iff.1 hg).1]
    exact hg

/-- How long the powers are. -/
theorem ten_nl0 : nl W32 (ten 0) = 30 := by
  unfold ten
  rw [nl_spec W32 _ 30 (by decide) (by decide +kernel)]
  decide +kernel
theorem nl_square (p : Nat) (hp : 2 ≤ nl W32 p) : nl W32 p + 1 ≤ nl W32 (p * p) ∧ 2 * nl W32 p ≤ nl W32 (p * p) + 1 ∧ nl W32 (p * p) ≤ 2 * nl W32 p := by
  have h1 := pow_le_of_nl W32 p (by omega)
  have h2 := lt_pow_nl W32 p (by decide)
  have h3 : W32 ^ (nl W32 p - 1 + (nl W32 p - 1)) ≤ p * p := by rw [Nat.pow_add]; exact Nat.mul_le_mul h1 h1
  have h4 : nl W32 (p * p) ≤ nl W32 p + nl W32 p := nl_le W32 _ _ (by decide) (by rw [Nat.pow_add]; exact Nat.mul_lt_mul_of_lt_of_lt h2 h2)
  have h5 := lt_pow_nl W32 (p * p) (by decide)
  have h6 : nl W32 p - 1 + (nl W32 p - 1) < nl W32 (p * p) := by
    by_cases g : nl W32 p - 1 + (nl W32 p - 1) < nl W32 (p * p)
    · exact g
    · have := Nat.pow_le_pow_right (n := W32) (by decide) (show nl W32 (p * p) ≤ nl W32 p - 1 + (nl W32 p - 1) by omega)
      omega
  omega
theorem ten_fits (t n : Nat) (h : ¬ 2 * nl W32 (ten t) - 1 ≤ n) (h2 : 2 ≤ nl W32 (ten t)) : W32 ^ n ≤ ten (t + 1) := by
  rw [← ten_succ]
  have h1 := pow_le_of_nl W32 (ten t) (by omega)
  have h3 : W32 ^ (nl W32 (ten t) - 1 + (nl W32 (ten t) - 1)) ≤ ten t * ten t := by rw [Nat.pow_add]; exact Nat.mul_le_mul h1 h1
  exact Nat.le_trans (Nat.pow_le_pow_right (by decide) (by omega)) h3
theorem ten_bound (t : Nat) : 2 ^ t ≤ nl W32 (ten t) := by
  have h := lt_pow_nl W32 (ten t) (by decide)
  have h1 : W32 ^ 2 ^ t ≤ ten t := by
    unfold ten
    rw [Nat.pow_mul]
    exact Nat.pow_le_pow_left (by decide +kernel) _
  by_cases g : 2 ^ t ≤ nl W32 (ten t)
  · exact g
  · have := Nat.pow_le_pow_right (n := W32) (by decide) (show nl W32 (ten t) ≤ 2 ^ t by omega)
    omega

theorem power_ten (u : Value) (w : World) (hu : Rep w u 10) :
    Calls Tryd.prog 86 #[u, .int .i64 288] w fun e w' => ∃ r, e = .returned r ∧ RepM w.heap.size w' r (ten 0) ∧ Below w.heap.size w w' := by
  have h : ∀ K : Nat, K = 288 * 2 ^ 0 → Calls Tryd.prog 86 #[u, .int .i64 (K : Int)] w fun e w' => ∃ r, e = .returned r ∧ RepM w.heap.size w' r (10 ^ K) ∧ Below w.heap.size w w' :=
    fun K hK => power_any u 10 K w hu (by omega) (Nat.le_trans (nl_le W32 10 1 (by decide) (by decide)) (by omega))
  have hT : ∀ K : Nat, K = 288 * 2 ^ 0 → 10 ^ K = ten 0 := fun K hK => by rw [hK]; unfold ten; rfl
  have hI : ∀ K : Nat, K = 288 * 2 ^ 0 → (K : Int) = 288 := fun K hK => by omega
  obtain ⟨K, hK⟩ : ∃ K : Nat, K = 288 * 2 ^ 0 := ⟨_, rfl⟩
  have h' := h K hK
  rw [hT K hK, hI K hK] at h'
  exact h'

def vlen : Value → Nat
  | .slice _ n _ => n
  | _ => 0

set_option maxRecDepth 20000 in
set_option maxHeartbeats 1000000 in
theorem blockTens_any (n : Nat) (w : World) (h30 : 30 ≤ n) (hn : n ≤ 10000) :
    Calls Tryd.prog 72 #[.int .i64 (n : Int)] w fun e w' => ∃ v, e = .returned v ∧ ∃ t, Tens w'.heap.size w' v (t + 1) ∧ t ≤ 13 ∧ W32 ^ n ≤ ten (t + 1) ∧ Below w.heap.size w w' := by
  have i1 : ¬ (n : Int) ≤ 29 := by omega
  go_enter Tryd.func72, Tryd.ntmps72
  go_wp2_with fail
  refine (of_any 10 _ (by omega) (by omega)).mono ?_
  rintro e w1 ⟨o1, rfl, ho1, hb1⟩
  have ho1' : Rep w1 o1 10 := Mine.nums ho1
  go_wp2_with fail
  refine (power_ten o1 _ ho1').mono ?_
  rintro e w2 ⟨p2, rfl, hp2, hb2⟩
  have hp2' : Rep w2 p2 (ten 0) := hp2.rep
  have hs1 := hb1.size
  have B2 : Below w.heap.size w w2 := hb1.trans (hb2.mono hs1)
  clear hp2 hb1 hb2 ho1 ho1'
  obtain ⟨a2, c2, rfl, hl2⟩ := rep_val hp2'
  have hN0 : Hid (nl W32 (ten 0) = 30) := ten_nl0
  have hown0 : (w2.alloc (.cells #[.slice a2 (nl W32 (ten 0)) c2] 23)).ownsRow w.heap.size 23 1 (.slice (some ⟨w2.heap.size, 0, none⟩) 1 1) 1 [.slice a2 (nl W32 (ten 0)) c2] :=
    ⟨rfl, .inr ⟨_, 1, _, rfl, B2.size, heap_alloc_new _ _, Nat.le_refl _, by unfold maxLen; omega, rfl, rfl⟩⟩
  have hel0 : RepN w2.heap.size (w2.alloc (.cells #[.slice a2 (nl W32 (ten 0)) c2] 23)) (.slice a2 (nl W32 (ten 0)) c2) (ten 0) := (Rep.repN hp2').below ((Below.refl _ _).alloc (Nat.le_refl _) _)
  have B3 : Below w.heap.size w (w2.alloc (.cells #[.slice a2 (nl W32 (ten 0)) c2] 23)) := B2.alloc B2.size _
  go_wp2
  go_loopw [3, 4] (fun vp vo wr => ∃ (t g cap : Nat) (us : List Value), vo = .slice (some ⟨g, 0, none⟩) (t + 1) cap ∧ t + 30 ≤ nl W32 (ten t) ∧ nl W32 (ten t) ≤ n + 1 ∧ wr.ownsRow w.heap.size 23 1 vo (t + 1) us ∧ us[t]? = some vp ∧ (∀ i, i < t + 1 → ∃ u, us[i]? = some u ∧ RepN g wr u (ten i)) ∧ Below w.heap.size w wr) (fun _ vo _ => n + 2 - vlen vo)
  case atStart =>
    refine ⟨0, w2.heap.size, 1, [.slice a2 (nl W32 (ten 0)) c2], rfl, by rw [hN0.out]; omega, by rw [hN0.out]; omega, hown0, rfl, fun i hi => ?_, B3⟩
    obtain rfl : i = 0 := by omega
    exact ⟨_, rfl, hel0⟩
  case round =>
    clear hown0 hel0 B3 hp2' hl2
    obtain ⟨t, g, cap, us, rfl, ht1, ht2, hown, hlast, hels, hbel⟩ := hrel
    obtain ⟨u, hu1, hu2⟩ := hels t (by omega)
    rw [hlast] at hu1
    cases hu1
    have hsq := nl_square (ten t) (by omega)
    rw [ten_succ] at hsq
    have hfit := ten_fits t n
    have hbd := ten_bound t
    have hur := hu2.rep
    have hsz := hbel.size
    have hgl := World.ownsRow.lt hown g rfl
    have hus : us.length = t + 1 := by have := hown.1; omega
    have HP : Hid (ProdAt (ten t) (ten t)) := product_all _ _ (by omega)
    obtain ⟨a3, c3, rfl, hl3⟩ := rep_val hur
    have hq1 : t + 1 + 30 ≤ nl W32 (ten (t + 1)) := by omega
    have hq2 : 2 * nl W32 (ten t) - 1 ≤ n → nl W32 (ten (t + 1)) ≤ n + 1 := by omega
    have HQ1 : Hid (t + 1 + 30 ≤ nl W32 (ten (t + 1))) := hq1
    have HQ2 : Hid (2 * nl W32 (ten t) - 1 ≤ n → nl W32 (ten (t + 1)) ≤ n + 1) := hq2
    have HF : Hid (¬ 2 * nl W32 (ten t) - 1 ≤ n → 2 ≤ nl W32 (ten t) → W32 ^ n ≤ ten (t + 1)) := hfit
    have HE : Hid (∀ i, i < t + 1 → ∃ u, us[i]? = some u ∧ RepN g wr u (ten i)) := hels
    have HR : Hid (Rep wr (.slice a3 (nl W32 (ten t)) c3) (ten t)) := hur
    clear hq1 hq2 hfit hsq hels hur hu2 hlast
    generalize nl W32 (ten t) = l at *
    by_cases hgo : 2 * l - 1 ≤ n
    · have j1 : 2 * (l : Int) - 1 ≤ (n : Int) := by omega
      go_wp2_with fail
      refine (HP.out _ _ _ HR.out HR.out).mono ?_
      rintro e w4 ⟨p4, rfl, hp40, hb4⟩
      have hp4 : RepM wr.heap.size w4 p4 (ten (t + 1)) := by rw [← ten_succ]; exact hp40
      have s4 := hb4.size
      obtain ⟨a4, c4, rfl, hl4⟩ := rep_val hp4.rep
      have hown4 := owns_below hown hb4
      have hN4 : RepN g w4 (.slice a4 (nl W32 (ten (t + 1))) c4) (ten (t + 1)) := hp4.repN hgl.2
      have HN4 : Hid (RepN g w4 (.slice a4 (nl W32 (ten (t + 1))) c4) (ten (t + 1))) := hN4
      have hall : Hid (∀ i, i < t + 2 → ∃ u, (us ++ [.slice a4 (nl W32 (ten (t + 1))) c4])[i]? = some u ∧ RepN g w4 u (ten i)) := by
        intro i hi
        by_cases hit : i < t + 1
        · obtain ⟨u, h1, h2⟩ := HE.out i hit
          exact ⟨u, by rw [List.getElem?_append_left (by omega)]; exact h1, h2.below hb4⟩
        · obtain rfl : i = t + 1 := by omega
          exact ⟨_, by rw [List.getElem?_append_right (by omega), hus]; simp, HN4.out⟩
      have hlst : Hid ((us ++ [.slice a4 (nl W32 (ten (t + 1))) c4])[t + 1]? = some (.slice a4 (nl W32 (ten (t + 1))) c4)) := by
        show _ = _
        rw [List.getElem?_append_right (by omega), hus]; simp
      have hbel4 : Below w.heap.size w w4 := hbel.trans (hb4.mono hsz)
      clear hp40 hp4 hN4 HE HR hown hb4 HP hbel
      have HQ3 : Hid (nl W32 (ten (t + 1)) ≤ n + 1) := HQ2.out hgo
      generalize hl4' : nl W32 (ten (t + 1)) = l4 at *
      have HL4 : Hid (nl W32 (ten (t + 1)) = l4) := hl4'
      clear hl4'
      go_wp2_with (at_builtin; refine wpList_append_one rfl _ _ rfl w.heap.size g (t + 1) cap us rfl (hown4.alloc _) ⟨w4.heap.size, 0, none⟩ 1 (.slice a4 l4 c4) rfl (cell_one_new _ _ _) rfl (by omega) (by simp; omega) ?_)
      intro g' cap' w5 hown5 hgrow hg'
      have hb5 : Below w.heap.size w w5 := (hbel4.alloc (by omega) _).grown hgrow (by simp; omega) (fun k e => by simp at e; omega)
      have hall5 : ∀ i, i < t + 1 + 1 → ∃ u, (us ++ [.slice a4 l4 c4])[i]? = some u ∧ RepN g' w5 u (ten i) := fun i hi => by
        obtain ⟨u, h1, h2⟩ := hall.out i hi
        exact ⟨u, h1, (h2.below ((Below.refl _ _).alloc (Nat.le_refl _) _)).grown hgrow (by simpa using hg')⟩
      clear hgrow hown4 HN4 hbel4
      go_wp2
      go_roundw
      case rel => exact ⟨t + 1, g', cap', _, rfl, by rw [HL4.out]; exact HQ1.out, by rw [HL4.out]; exact HQ3.out, hown5, hlst.out, hall5, hb5⟩
      case measure => simp [vlen]; omega
    · have j1 : ¬ 2 * (l : Int) - 1 ≤ (n : Int) := by omega
      have hfin := HF.out hgo (by omega)
      have ht13 : t ≤ 13 := by
        by_cases q : t ≤ 13
        · exact q
        · have : 2 ^ 14 ≤ 2 ^ t := Nat.pow_le_pow_right (by omega) (by omega)
          omega
      have hT : Tens wr.heap.size wr (.slice (some ⟨g, 0, none⟩) (t + 1) cap) (t + 1) := by
        have hcells := hown.cells (g := g) rfl
        have hcap : t + 1 ≤ cap := by
          rcases hown.2 with ⟨h0, _⟩ | ⟨_, _, _, he, _, _, hnc, _⟩
          · cases h0
          · cases he; exact hnc
        refine ⟨_, _, rfl, hcap, fun _ => ⟨_, _, rfl, hgl.2, fun i hi => ?_⟩⟩
        obtain ⟨u, h1, h2⟩ := HE.out i hi
        refine ⟨u, ?_, Rep.repB h2.rep⟩
        have := hcells i u h1
        have e : (⟨g, 0, none⟩ : Addr).add i = ⟨g, 0 + i, none⟩ := by unfold Addr.add; split <;> simp_all
        rw [e] at this
        exact this
      have HFIN : Hid (W32 ^ n ≤ ten (t + 1)) := hfin
      clear hown HE HR HF hfin hgo HQ1 HQ2
      go_wp2
      go_ret
      exact ⟨_, rfl, t, hT, ht13, HFIN.out, hbel⟩

end Go.Proofs.YthhabammejkjcaaDoor
