/-
  Texts of mine, joined: what lies beneath the statement.
-/
import Derived.Test.YtianfjidbeineaaGreatDoorJdc69fa090d
import Derived.Test.YtianfjidbeineaaGreatDoorJ85cdcbe3e0
import Derived.Test.YtianfjidbeineaaGreatDoorJ007d6b6248
import Derived.Lib.Join
import Derived.Test.YtianfjidbeineaaGreatDoorJ3a79edda04
import Derived.Test.YtianfjidbeineaaGreatDoorJe3525c03a9
namespace Go.Proofs.YtianfjidbeineaaGreatDoor
open Go.RowKit
set_option linter.unusedVariables false
set_option linter.unusedSimpArgs false

theorem info_str9 : (Tryz.prog.info? 9).map (fun i => (i.zero, i.size, i.bytes)) = some (some (.string { data := #[] }), 1, 16) := by kernel_rfl
/-- A row of texts of the call's own, the first ones set. -/
def StrRow (B : Nat) (w : World) (g n : Nat) (f : Nat → ByteArray) (i : Nat) : Prop := ∃ us : List Value, w.ownsRow B 9 1 (.slice (some ⟨g, 0, none⟩) n n) n us ∧ ∀ j, j < i → us[j]? = some (.string (f j))
theorem StrRow.below {B : Nat} {w w' : World} {g n : Nat} {f : Nat → ByteArray} {i : Nat} (h : StrRow B w g n f i) (hb : Below w.heap.size w w') : StrRow B w' g n f i := let ⟨us, a, b⟩ := h; ⟨us, owns_later a hb, b⟩
theorem StrRow.put {B : Nat} {w : World} {g n : Nat} {f : Nat → ByteArray} {i : Nat} (h : StrRow B w g n f i) (hi : i < n) : StrRow B (w.setCell ⟨g, i, none⟩ (.string (f i))) g n f (i + 1) ∧ ∃ u, w.cell? ⟨g, i, none⟩ = some u ∧ w.frozen? ⟨g, i, none⟩ = false := by
  obtain ⟨us, h1, h2⟩ := h
  have hl : us.length = n := by have := h1.1; omega
  refine ⟨⟨_, (h1.stored i (.string (f i))).1, fun j hj => ?_⟩, us[i]'(by omega), owns_cell h1 (List.getElem?_eq_getElem (by omega)), h1.frozenAt _⟩
  by_cases e : i = j
  · subst e; rw [List.getElem?_set_self (by omega)]
  · rw [List.getElem?_set_ne e]; exact h2 j (by omega)
theorem StrRow.lt {B : Nat} {w : World} {g n : Nat} {f : Nat → ByteArray} {i : Nat} (h : StrRow B w g n f i) : B ≤ g ∧ g < w.heap.size := let ⟨us, a, _⟩ := h; a.lt g rfl
/-- The texts of a row, joined. -/
def joinT (n : Nat) (f : Nat → ByteArray) (sep : ByteArray) : ByteArray := ⟨(Lib.join (((List.range n).map f).map (·.data.toList)) sep.data.toList).toArray⟩
theorem join_len (sep : List UInt8) (K M : Nat) (hs : sep.length ≤ M) : ∀ xs : List (List UInt8), (∀ x ∈ xs, x.length ≤ K) → (Lib.join xs sep).length ≤ xs.length * (K + M)
  | [], _ => by simp [Lib.join_nil]
  | x :: xs, h => by
    rw [Lib.join_cons, List.length_append]
    have h1 := h x (by simp)
    have h2 : ∀ ys : List (List UInt8), (∀ y ∈ ys, y.length ≤ K) → (Lib.joinTail sep ys).length ≤ ys.length * (K + M) := fun ys => by
      induction ys with
      | nil => intro _; simp [Lib.joinTail]
      | cons y ys ih =>
        intro hy
        have h3 := ih (fun z hz => hy z (by simp [hz]))
        have h4 := hy y (by simp)
        have e : Lib.joinTail sep (y :: ys) = (sep ++ y) ++ Lib.joinTail sep ys := by simp [Lib.joinTail]
        rw [e, List.length_append, List.length_append, List.length_cons, Nat.add_mul]
        omega
    have h5 := h2 xs (fun y hy => h y (by simp [hy]))
    rw [List.length_cons, Nat.add_mul]
    omega
theorem joinT_size (n K M : Nat) (f : Nat → ByteArray) (sep : ByteArray) (hs : sep.size ≤ M) (h : ∀ i, i < n → (f i).size ≤ K) : (joinT n f sep).size ≤ n * (K + M) := by
  have := join_len sep.data.toList K M (by simpa using hs) (((List.range n).map f).map (·.data.toList)) (fun x hx => by
    simp only [List.map_map, List.mem_map, List.mem_range] at hx
    obtain ⟨i, hi, rfl⟩ := hx
    simpa using h i hi)
  simp only [List.length_map, List.length_range] at this
  show ((Lib.join (((List.range n).map f).map (·.data.toList)) sep.data.toList).toArray).size ≤ _
  simpa using this
/-- strings.Join of such a row. -/
theorem join9_at {B : Nat} {w : World} {g n : Nat} {f : Nat → ByteArray} (sep : ByteArray) (h : StrRow B w g n f n) (K : Nat) (hf : ∀ i, i < n → (f i).size ≤ K) (hn : n ≤ 1000) (hs : sep.size ≤ 10) (hK : K ≤ 1000000) :
    Calls Tryz.prog 38 #[.slice (some ⟨g, 0, none⟩) n n, .string sep] w fun e w' => e = .returned (.string (joinT n f sep)) ∧ Below w.heap.size w w' := by
  have hsz := joinT_size n K 10 f sep hs hf
  have hb : n * (K + 10) ≤ 1000 * (1000000 + 10) := Nat.mul_le_mul hn (by omega)
  have hlt := h.lt
  obtain ⟨us, h1, h2⟩ := h
  have hlen : ((List.range n).map f).length = n := by simp
  have := Tryz.strings_Join g 0 n ((List.range n).map f) sep w (fun j x hj => by
    have hjn : j < n := by have := (List.getElem?_eq_some_iff.1 hj).1; omega
    rw [List.getElem?_map, List.getElem?_range hjn] at hj
    cases hj
    rw [Nat.zero_add]
    exact owns_cell h1 (h2 j hjn)) hlt.2 (by omega) (by omega) (by
    have e : (Lib.join (((List.range n).map f).map (·.data.toList)) sep.data.toList).length = (joinT n f sep).size := by
      show _ = ((Lib.join (((List.range n).map f).map (·.data.toList)) sep.data.toList).toArray).size
      simp
    rw [e]; omega)
  rw [hlen] at this
  exact this
def rowTxt (n : Nat) (r : Nat → Cl) : ByteArray := joinT n (fun i => ctxt (r i)) { data := #[32] }
theorem rowTxt_size (n : Nat) (r : Nat → Cl) (h : ∀ i, i < n → qsz (r i).val ≤ 3) : (rowTxt n r).size ≤ n * (70 + 1) :=
  joinT_size n 70 1 _ _ (by show 1 ≤ 1; omega) (fun i hi => by have := ctxt_size (r i) 3 (h i hi); omega)

set_option maxRecDepth 100000 in
set_option maxHeartbeats 4000000 in
theorem rwrite9_at (v : Value) (n : Nat) (r : Nat → Cl) (w : World) (hv : CRow w v n r 3) (hn : n ≤ 100) (ht : Tab w) :
    Calls Tryz.prog 22 #[v] w fun e w' => e = .returned (.string (rowTxt n r)) ∧ Below w.heap.size w w' := by
  have hqs : ∀ i, i < n → qsz (r i).val ≤ 3 := fun i hi => by obtain ⟨_, _, _, _, _, _, _, _, _, _, _, _, _, _, _, _, _, R⟩ := hv.at hi; exact R.qsz (by omega)
  have HQ : Hid (∀ i, i < n → (ctxt (r i)).size ≤ 70) := fun i hi => by have := ctxt_size (r i) 3 (hqs i hi); omega
  clear hqs
  obtain ⟨ao, c, rfl, hnc, hc63⟩ := hv.open
  obtain ⟨i0, hi, hz0, hz1, hz2⟩ := info_parts info_str9
  have hv0 : Hid (CRow w (.slice ao n c) n r 3) := hv
  clear hv
  go_enter Tryz.func22, Tryz.ntmps22
  go_wp2_with (at_make; refine wpList_make_full _ rfl _ _ 79 rfl _ 9 i0 (.string { data := #[] }) 1 Tryz.underlying79 hi hz0 hz1 _ _ _ _ n rfl rfl (by omega) (by omega) (by rw [hz2]; omega) (by unfold maxLen; omega) (Nat.le_refl _) ?_; intro w1 hown hgrow)
  have SR : StrRow w.heap.size w1 w.heap.size n (fun i => ctxt (r i)) 0 := ⟨_, hown, fun j hj => by omega⟩
  have b1 := below_grown hgrow
  clear hown hgrow hi hz0 hz1 hz2
  obtain ⟨g, hg⟩ : ∃ g, w.heap.size = g := ⟨_, rfl⟩
  have HG : Hid (w.heap.size = g) := hg
  rw [hg] at SR b1 ⊢
  clear hg
  go_wp2
  go_loopw [11] (fun vi wr => ∃ i : Nat, i ≤ n ∧ vi = .int .i64 (i : Int) ∧ StrRow g wr g n (fun i => ctxt (r i)) i ∧ Below g w wr) (fun vi _ => n - (intOf vi).toNat)
  case atStart => exact ⟨0, by omega, rfl, SR, b1⟩
  case round =>
    clear SR b1
    obtain ⟨i, hi, rfl, SR, BB⟩ := hrel
    by_cases hlt : i < n
    · have g1 : (i : Int) < (n : Int) := by omega
      have g0 : (0 : Int) ≤ (i : Int) := by omega
      obtain ⟨b, off, c9, p1, a1, n1, c1, b1, m1, d1, hvv, hcc, hc6, X0, X1, X2, X3, R1⟩ := (hv0.out.below (by rw [HG.out]; exact BB)).at hlt
      cases hvv
      have hT := ht.below (by rw [HG.out]; exact BB)
      obtain ⟨ms, hms⟩ : ∃ ms, (r i).miss = ms := ⟨_, rfl⟩
      have HM : Hid (ctxt ⟨ms, (r i).val⟩ = ctxt (r i)) := by show _ = _; rw [← hms]
      rw [hms] at X0
      clear hms
      obtain ⟨Wa, hWa, hSa, hLa, VC⟩ := V4.lay wr 29 (.bool ms) (.bool p1) (.slice a1 n1 c1) (.slice b1 m1 d1)
      have hgl := SR.lt.2
      obtain ⟨⟨y1, y2, y3, y4, y5, y6⟩, y7, y8⟩ := id VC
      rw [hWa] at y1 y2 y3 y4 y5 y6 y7 y8
      go_wp2_with fail
      clear y1 y2 y3 y4 y5 y6 y7 y8 X0 X1 X2 X3
      rw [← hWa]
      replace SR := SR.below hLa
      replace hT := hT.below hLa
      replace R1 := R1.below hLa
      replace BB := BB.trans (hLa.mono (by omega))
      have hglW : g < Wa.heap.size := SR.lt.2
      generalize wr.heap.size = R at *
      clear hWa hSa hLa VC
      refine (rprint9_at ms p1 _ _ _ _ _ _ (r i).val 3 Wa R1 (by omega) (by omega) hT).mono ?_
      rintro e w3 ⟨rfl, b3⟩
      replace SR := SR.below b3
      replace BB := BB.trans (b3.mono (by omega))
      rw [HM.out]
      obtain ⟨SR2, u, hu, hfz⟩ := SR.put hlt
      have BB2 := BB.setCell (p := ⟨g, i, none⟩) (Nat.le_refl _) (.string (ctxt (r i)))
      have SR2 : StrRow g (w3.setCell ⟨g, i, none⟩ (.string (ctxt (r i)))) g n (fun i => ctxt (r i)) (i + 1) := SR2
      clear SR BB b3 R1 hT HM
      generalize hct : ctxt (r i) = ct at *
      clear hct
      go_wp2
      go_roundw
      case rel => exact ⟨i + 1, by omega, by go_num, SR2, BB2⟩
      case measure => simp [intOf]; omega
    · obtain rfl : i = n := by omega
      have g1 : ¬ (i : Int) < (i : Int) := by omega
      go_wp2_with fail
      refine (join9_at { data := #[32] } SR 70 HQ.out (by omega) (by decide) (by omega)).mono ?_
      rintro e w3 ⟨rfl, b3⟩
      have BB3 := BB.trans (b3.mono (by have := SR.lt; omega))
      have HT : Hid (joinT i (fun i => ctxt (r i)) { data := #[32] } = rowTxt i r ∧ Below w.heap.size w w3) := ⟨rfl, by rw [HG.out]; exact BB3⟩
      clear BB3 b3 BB SR
      generalize joinT i (fun i => ctxt (r i)) { data := #[32] } = tt at *
      go_wp2
      go_ret
      exact ⟨by rw [← HT.out.1]; rfl, HT.out.2⟩

def allTxt (k : Nat) (N : Nat → Nat) (R : Nat → Nat → Cl) : ByteArray := joinT k (fun i => rowTxt (N i) (R i)) { data := #[32, 124, 32] }

set_option maxRecDepth 100000 in
set_option maxHeartbeats 4000000 in
theorem rwriteall9_at (v : Value) (k : Nat) (N : Nat → Nat) (R : Nat → Nat → Cl) (w : World) (hv : ARow w v k N R 3) (hk : k ≤ 100) (hN : ∀ i, i < k → N i ≤ 100) (ht : Tab w) :
    Calls Tryz.prog 23 #[v] w fun e w' => e = .returned (.string (allTxt k N R)) ∧ Below w.heap.size w w' := by
  have HQ : Hid (∀ i, i < k → (rowTxt (N i) (R i)).size ≤ 10000) := fun i hi => by
    obtain ⟨_, _, _, _, _, _, _, _, Rr⟩ := hv.at hi
    have h1 := rowTxt_size (N i) (R i) (fun j hj => by obtain ⟨_, _, _, _, _, _, _, _, _, _, _, _, _, _, _, _, _, X⟩ := Rr.at hj; exact X.qsz (by omega))
    have h2 := hN i hi
    have h3 : N i * (70 + 1) ≤ 100 * (70 + 1) := Nat.mul_le_mul_right _ h2
    omega
  have HN : Hid (∀ i, i < k → N i ≤ 100) := hN
  clear hN
  obtain ⟨ao, c, rfl, hnc, hc63⟩ := hv.open
  obtain ⟨i0, hi, hz0, hz1, hz2⟩ := info_parts info_str9
  have hv0 : Hid (ARow w (.slice ao k c) k N R 3) := hv
  clear hv
  go_enter Tryz.func23, Tryz.ntmps23
  go_wp2_with (at_make; refine wpList_make_full _ rfl _ _ 79 rfl _ 9 i0 (.string { data := #[] }) 1 Tryz.underlying79 hi hz0 hz1 _ _ _ _ k rfl rfl (by omega) (by omega) (by rw [hz2]; omega) (by unfold maxLen; omega) (Nat.le_refl _) ?_; intro w1 hown hgrow)
  have SR : StrRow w.heap.size w1 w.heap.size k (fun i => rowTxt (N i) (R i)) 0 := ⟨_, hown, fun j hj => by omega⟩
  have b1 := below_grown hgrow
  clear hown hgrow hi hz0 hz1 hz2
  obtain ⟨g, hg⟩ : ∃ g, w.heap.size = g := ⟨_, rfl⟩
  have HG : Hid (w.heap.size = g) := hg
  rw [hg] at SR b1 ⊢
  clear hg
  go_wp2
  go_loopw [11] (fun vi wr => ∃ i : Nat, i ≤ k ∧ vi = .int .i64 (i : Int) ∧ StrRow g wr g k (fun i => rowTxt (N i) (R i)) i ∧ Below g w wr) (fun vi _ => k - (intOf vi).toNat)
  case atStart => exact ⟨0, by omega, rfl, SR, b1⟩
  case round =>
    clear SR b1
    obtain ⟨i, hi, rfl, SR, BB⟩ := hrel
    by_cases hlt : i < k
    · have g1 : (i : Int) < (k : Int) := by omega
      have g0 : (0 : Int) ≤ (i : Int) := by omega
      obtain ⟨b, off, c9, a1, d1, hvv, hcc, X1, R1⟩ := (hv0.out.below (by rw [HG.out]; exact BB)).at hlt
      cases hvv
      have hT := ht.below (by rw [HG.out]; exact BB)
      have hgl := SR.lt.2
      have hNi := HN.out i hlt
      go_wp2_with fail
      clear X1
      refine (rwrite9_at _ (N i) (R i) wr R1 hNi hT).mono ?_
      rintro e w3 ⟨rfl, b3⟩
      replace SR := SR.below b3
      replace BB := BB.trans (b3.mono (by omega))
      obtain ⟨SR2, u, hu, hfz⟩ := SR.put hlt
      have BB2 := BB.setCell (p := ⟨g, i, none⟩) (Nat.le_refl _) (.string (rowTxt (N i) (R i)))
      have SR2 : StrRow g (w3.setCell ⟨g, i, none⟩ (.string (rowTxt (N i) (R i)))) g k (fun i => rowTxt (N i) (R i)) (i + 1) := SR2
      clear SR BB b3 R1 hT
      generalize hct : rowTxt (N i) (R i) = ct at *
      clear hct
      go_wp2
      go_roundw
      case rel => exact ⟨i + 1, by omega, by go_num, SR2, BB2⟩
      case measure => simp [intOf]; omega
    · obtain rfl : i = k := by omega
      have g1 : ¬ (i : Int) < (i : Int) := by omega
      go_wp2_with fail
      refine (join9_at { data := #[32, 124, 32] } SR 10000 HQ.out (by omega) (by decide) (by omega)).mono ?_
      rintro e w3 ⟨rfl, b3⟩
      have BB3 := BB.trans (b3.mono (by have := SR.lt; omega))
      have HT : Hid (joinT i (fun i => rowTxt (N i) (R i)) { data := #[32, 124, 32] } = allTxt i N R ∧ Below w.heap.size w w3) := ⟨rfl, by rw [HG.out]; exact BB3⟩
      clear BB3 b3 BB SR
      generalize joinT i (fun i => rowTxt (N i) (R i)) { data := #[32, 124, 32] } = tt at *
      go_wp2
      go_ret
      exact ⟨by rw [← HT.out.1]; rfl, HT.out.2⟩

theorem txt_bytes (x : Nat) : 0 < (txt x).size ∧ ∀ b ∈ (txt x).data.toList, 48 ≤ b.toNat ∧ b.toNat ≤ 57 := by
  have h := txt_digits x
  simp only [digitsB, decide_eq_true_eq] at h
  refine ⟨h.1, fun b hb => ?_⟩
  obtain ⟨i, hi, e⟩ := List.getElem_of_mem hb
  have hi2 : i < (txt x).size := by simpa using hi
  have := h.2 i hi2
  unfold isDig at this
  have e2 : (txt x).data.toList.getD i 0 = b := by rw [List.getD_eq_getElem?_getD, List.getElem?_eq_getElem hi, e]; rfl
  rw [e2] at this
  exact this
theorem qtxt_bytes (q : Rat) : (qtxt q).data.toList ≠ [] ∧ ∀ b ∈ (qtxt q).data.toList, (48 ≤ b.toNat ∧ b.toNat ≤ 57) ∨ b = 45 ∨ b = 47 := by
  have hz : (ztxt q.num).data.toList ≠ [] ∧ ∀ b ∈ (ztxt q.num).data.toList, (48 ≤ b.toNat ∧ b.toNat ≤ 57) ∨ b = 45 ∨ b = 47 := by
    have ht := txt_bytes q.num.natAbs
    have hne : (txt q.num.natAbs).data.toList ≠ [] := fun e => by
      have : (txt q.num.natAbs).size = 0 := by
        have h9 : (txt q.num.natAbs).data.toList.length = (txt q.num.natAbs).size := by simp
        rw [← h9, e]; rfl
      omega
    unfold ztxt
    split
    · rw [ByteArray.data_append, Array.toList_append]
      refine ⟨by simp, fun b hb => ?_⟩
      rw [List.mem_append] at hb
      rcases hb with hb | hb
      · have : b = 45 := by simpa using hb
        exact .inr (.inl this)
      · exact .inl (ht.2 b hb)
    · exact ⟨hne, fun b hb => .inl (ht.2 b hb)⟩
  unfold qtxt
  split
  · exact hz
  · rw [ByteArray.data_append, ByteArray.data_append, Array.toList_append, Array.toList_append]
    refine ⟨by simp, fun b hb => ?_⟩
    rw [List.mem_append, List.mem_append] at hb
    rcases hb with (hb | hb) | hb
    · exact hz.2 b hb
    · have : b = 47 := by simpa using hb
      exact .inr (.inr this)
    · exact .inl ((txt_bytes q.den).2 b hb)
theorem good_ctxt (d : Cl) : GoodW (ctxt d).data.toList ∧ (ctxt d).data.toList ≠ [124] := by
  unfold ctxt
  split
  · refine ⟨⟨by decide, fun b hb => ?_⟩, by decide⟩
    have : b = 63 := by simpa using hb
    rw [this]; decide
  · have h := qtxt_bytes d.val
    refine ⟨⟨h.1, fun b hb => ?_⟩, fun e => ?_⟩
    · rcases h.2 b hb with h1 | h1 | h1
      · unfold inW; simp; omega
      · rw [h1]; decide
      · rw [h1]; decide
    · have := h.2 124 (by rw [e]; simp)
      rcases this with h1 | h1 | h1
      · have : (124 : UInt8).toNat = 124 := rfl
        omega
      · exact absurd h1 (by decide)
      · exact absurd h1 (by decide)
/-- The words of texts, by their bytes. -/
theorem toks_txt {s : ByteArray} {ps : List (Nat × Nat)} {ws : List (List UInt8)} (h : ps.map (fun p => (s.extract p.1 p.2).data.toList) = ws) (i : Nat) : (tx (toks s 0 0 ps) i).data.toList = ws.getD i [] := by
  unfold tx toks
  rw [← h, List.getD_eq_getElem?_getD, List.getD_eq_getElem?_getD, List.getElem?_map, List.getElem?_map]
  cases ps[i]? <;> rfl
theorem toks_len {s : ByteArray} {ps : List (Nat × Nat)} {ws : List (List UInt8)} (h : ps.map (fun p => (s.extract p.1 p.2).data.toList) = ws) : (toks s 0 0 ps).length = ws.length := by
  rw [← h, toks_length, List.length_map]
theorem bytes_eq {a b : ByteArray} (h : a.data.toList = b.data.toList) : a = b := ByteArray.ext (Array.toList_inj.1 h)
def wordsR (n : Nat) (r : Nat → Cl) : List (List UInt8) := ((List.range n).map (fun i => ctxt (r i))).map (·.data.toList)
theorem wordsR_len (n : Nat) (r : Nat → Cl) : (wordsR n r).length = n := by simp [wordsR]
theorem wordsR_get (n : Nat) (r : Nat → Cl) (i : Nat) (hi : i < n) : (wordsR n r).getD i [] = (ctxt (r i)).data.toList := by
  unfold wordsR
  rw [List.getD_eq_getElem?_getD, List.getElem?_map, List.getElem?_map, List.getElem?_range hi]; rfl
theorem wordsR_good (n : Nat) (r : Nat → Cl) : ∀ u ∈ wordsR n r, GoodW u ∧ u ≠ [124] := fun u hu => by
  simp only [wordsR, List.map_map, List.mem_map] at hu
  obtain ⟨i, _, rfl⟩ := hu
  exact good_ctxt (r i)
theorem rowTxt_bytes (n : Nat) (r : Nat → Cl) : (rowTxt n r).data.toList = Lib.join (wordsR n r) [32] := by
  unfold rowTxt joinT wordsR; simp
/-- A row's text has its words. -/
theorem row_back (n : Nat) (r : Nat → Cl) (hn : n ≤ 1000) : ∃ ps, scan (rowTxt n r) 0 [] = .ok ps ∧ (toks (rowTxt n r) 0 0 ps).length = n ∧ ∀ i, i < n → tx (toks (rowTxt n r) 0 0 ps) i = ctxt (r i) := by
  have h := parsed_join (wordsR n r) [] [] (fun u hu => (wordsR_good n r u hu).1) (fun b hb => by simp at hb) .nil
  rw [List.append_nil, List.append_nil, ← rowTxt_bytes] at h
  obtain ⟨ps, h1, h2⟩ := parsed_all h (by rw [wordsR_len]; omega)
  refine ⟨ps, h1, by rw [toks_len h2, wordsR_len], fun i hi => bytes_eq ?_⟩
  rw [toks_txt h2, wordsR_get n r i hi]
def rowsR (k : Nat) (N : Nat → Nat) (R : Nat → Nat → Cl) : List (List (List UInt8)) := (List.range k).map (fun i => wordsR (N i) (R i))
theorem allTxt_bytes (k : Nat) (N : Nat → Nat) (R : Nat → Nat → Cl) : (allTxt k N R).data.toList = Lib.join ((rowsR k N R).map (fun r => Lib.join r [32])) [32, 124, 32] := by
  unfold allTxt joinT rowsR
  show Lib.join (((List.range k).map (fun i => rowTxt (N i) (R i))).map (·.data.toList)) [32, 124, 32] = _
  congr 1
  rw [List.map_map, List.map_map]
  apply List.map_congr_left
  intro i _
  exact rowTxt_bytes (N i) (R i)
def posOf : Nat → List (List (List UInt8)) → List (Nat × Nat)
  | _, [] => []
  | a, r :: rs => (a, r.length) :: posOf (a + r.length + 1) rs
theorem posOf_len : ∀ (rows : List (List (List UInt8))) (a : Nat), (posOf a rows).length = rows.length
  | [], _ => rfl
  | r :: rs, a => by simp [posOf, posOf_len rs]
theorem spl_stay {τ : Tau} {a : Nat} : ∀ k, (∀ j, j < k → bar τ (a + j) = false) → spl τ (a + k) = spl τ a
  | 0, _ => rfl
  | k + 1, h => by
    show spl τ (a + k + 1) = _
    rw [spl_no (h k (by omega)), spl_stay k (fun j hj => h j (by omega))]
theorem parts_rows {τ : Tau} : ∀ (rows : List (List (List UInt8))) (a : Nat) (D : List (Nat × Nat)), rows ≠ [] → spl τ a = (D, a) → (∀ j, j < (barred rows).length → bar τ (a + j) = decide ((barred rows).getD j [] = [124])) → (∀ r ∈ rows, ∀ u ∈ r, u ≠ [124]) → partsT τ (a + (barred rows).length) = D ++ posOf a rows
  | [], _, _, h, _, _, _ => absurd rfl h
  | [r], a, D, _, hs, hb, hg => by
    have h1 : spl τ (a + r.length) = (D, a) := by
      rw [spl_stay r.length (fun j hj => ?_), hs]
      rw [hb j hj]
      refine decide_eq_false (fun e => hg r (by simp) _ ?_ e)
      show r.getD j [] ∈ r
      rw [List.getD_eq_getElem?_getD, List.getElem?_eq_getElem hj]; exact List.getElem_mem hj
    show partsT τ (a + r.length) = _
    unfold partsT
    rw [h1]
    simp [posOf]
  | r :: s :: rs, a, D, _, hs, hb, hg => by
    have hlen : (barred (r :: s :: rs)).length = r.length + 1 + (barred (s :: rs)).length := by simp [barred]; omega
    have get1 : ∀ j, j < r.length → (barred (r :: s :: rs)).getD j [] = r.getD j [] := fun j hj => by
      simp only [barred, List.getD_eq_getElem?_getD]
      rw [List.getElem?_append_left hj]
    have get2 : (barred (r :: s :: rs)).getD r.length [] = [124] := by
      simp only [barred, List.getD_eq_getElem?_getD]
      rw [List.getElem?_append_right (Nat.le_refl _), Nat.sub_self]; rfl
    have get3 : ∀ j, (barred (r :: s :: rs)).getD (r.length + 1 + j) [] = (barred (s :: rs)).getD j [] := fun j => by
      simp only [barred, List.getD_eq_getElem?_getD]
      rw [List.getElem?_append_right (by omega), show r.length + 1 + j - r.length = j + 1 by omega, List.getElem?_cons_succ]
    have h1 : spl τ (a + r.length) = (D, a) := by
      rw [spl_stay r.length (fun j hj => ?_), hs]
      rw [hb j (by omega), get1 j hj]
      refine decide_eq_false (fun e => hg r (by simp) _ ?_ e)
      rw [List.getD_eq_getElem?_getD, List.getElem?_eq_getElem hj]; exact List.getElem_mem hj
    have h2 : bar τ (a + r.length) = true := by rw [hb r.length (by omega), get2]; rfl
    have h3 : spl τ (a + r.length + 1) = (D ++ [(a, r.length)], a + r.length + 1) := by
      rw [spl_bar h2, h1]; simp
    have ih := parts_rows (s :: rs) (a + r.length + 1) (D ++ [(a, r.length)]) (by simp) h3 (fun j hj => by
      rw [show a + r.length + 1 + j = a + (r.length + 1 + j) by omega, hb _ (by omega), get3]) (fun x hx => hg x (by simp at hx ⊢; exact .inr hx))
    rw [hlen, show a + (r.length + 1 + (barred (s :: rs)).length) = a + r.length + 1 + (barred (s :: rs)).length by omega, ih]
    simp [posOf]
theorem rows_get : ∀ (rows : List (List (List UInt8))) (a i : Nat) (r : List (List UInt8)), rows[i]? = some r → ∃ q, (posOf a rows)[i]? = some (a + q, r.length) ∧ ∀ j, j < r.length → (barred rows).getD (q + j) [] = r.getD j []
  | [], _, _, _, h => by simp at h
  | [s], a, i, r, h => by
    have hi : i = 0 := by have := (List.getElem?_eq_some_iff.1 h).1; simp at this; omega
    subst hi
    cases h
    exact ⟨0, rfl, fun j hj => by rw [Nat.zero_add]; rfl⟩
  | s :: t :: rs, a, 0, r, h => by
    cases h
    refine ⟨0, rfl, fun j hj => ?_⟩
    simp only [barred, List.getD_eq_getElem?_getD, Nat.zero_add]
    rw [List.getElem?_append_left hj]
  | s :: t :: rs, a, i + 1, r, h => by
    obtain ⟨q, h1, h2⟩ := rows_get (t :: rs) (a + s.length + 1) i r (by simpa using h)
    refine ⟨s.length + 1 + q, ?_, fun j hj => ?_⟩
    · show (posOf (a + s.length + 1) (t :: rs))[i]? = _
      rw [h1]; congr 2; omega
    · rw [← h2 j hj]
      simp only [barred, List.getD_eq_getElem?_getD]
      rw [List.getElem?_append_right (by omega), show s.length + 1 + q + j - s.length = q + j + 1 by omega, List.getElem?_cons_succ]
theorem barred_len : ∀ rows : List (List (List UInt8)), (∀ r ∈ rows, r.length ≤ 12) → (barred rows).length ≤ rows.length * 13
  | [], _ => by simp [barred]
  | [r], h => by have := h r (by simp); simp [barred]; omega
  | r :: s :: rs, h => by
    have h1 := h r (by simp)
    have h2 := barred_len (s :: rs) (fun x hx => h x (by simp at hx ⊢; exact .inr hx))
    simp [barred] at h2 ⊢
    omega
theorem barred_none : ∀ rows : List (List (List UInt8)), barred rows = [] → rows = [] ∨ rows = [[]]
  | [], _ => .inl rfl
  | [r], h => .inr (by simp [barred] at h; rw [h])
  | r :: s :: rs, h => by simp [barred] at h
theorem sameC_back (d : Cl) : sameC (cval (ctxt d)) d = true := by
  have h9 := ctxt_val d (fun _ => rfl)
  unfold sameC
  rw [h9.1]
  cases e : d.miss
  · simp [h9.2 e]
  · simp
/-- Rows' text has their words: which parts it has. -/
theorem rows_back (k : Nat) (N : Nat → Nat) (R : Nat → Nat → Cl) (hk : k ≤ 12) (hN : ∀ i, i < k → N i ≤ 12) (hne : ¬ (k = 1 ∧ N 0 = 0)) : ∃ ps, scan (allTxt k N R) 0 [] = .ok ps ∧ (partsOf (toks (allTxt k N R) 0 0 ps)).length = k ∧ ∀ i, i < k → (pAt (toks (allTxt k N R) 0 0 ps) i).2 = N i ∧ ∀ j, j < N i → tx (toks (allTxt k N R) 0 0 ps) ((pAt (toks (allTxt k N R) 0 0 ps) i).1 + j) = ctxt (R i j) := by
  have hg : ∀ r ∈ rowsR k N R, ∀ u ∈ r, GoodW u ∧ u ≠ [124] := fun r hr u hu => by
    simp only [rowsR, List.mem_map] at hr
    obtain ⟨i, _, rfl⟩ := hr
    exact wordsR_good _ _ u hu
  have hlen : (rowsR k N R).length = k := by simp [rowsR]
  have hget : ∀ i, i < k → (rowsR k N R)[i]? = some (wordsR (N i) (R i)) := fun i hi => by
    unfold rowsR; rw [List.getElem?_map, List.getElem?_range hi]; rfl
  have h := parsed_rows (rowsR k N R) (fun r hr u hu => (hg r hr u hu).1)
  rw [← allTxt_bytes] at h
  have hbl : (barred (rowsR k N R)).length ≤ 156 := by
    have := barred_len (rowsR k N R) (fun r hr => by
      simp only [rowsR, List.mem_map, List.mem_range] at hr
      obtain ⟨i, hi, rfl⟩ := hr
      rw [wordsR_len]; exact hN i hi)
    rw [hlen] at this; omega
  obtain ⟨ps, h1, h2⟩ := parsed_all h (by omega)
  refine ⟨ps, h1, ?_⟩
  generalize hl : toks (allTxt k N R) 0 0 ps = l
  have hln : l.length = (barred (rowsR k N R)).length := by rw [← hl]; exact toks_len h2
  have htx : ∀ i, (tx l i).data.toList = (barred (rowsR k N R)).getD i [] := fun i => by rw [← hl]; exact toks_txt h2 i
  have hparts : partsOf l = posOf 0 (rowsR k N R) := by
    unfold partsOf
    by_cases e : l.length = 0
    · rw [if_pos e]
      rw [hln] at e
      rcases barred_none _ (List.eq_nil_of_length_eq_zero e) with h9 | h9
      · rw [h9]; rfl
      · exfalso
        have hk1 : k = 1 := by rw [← hlen, h9]; rfl
        subst hk1
        have h8 := hget 0 (by omega)
        rw [h9] at h8
        have h7 : wordsR (N 0) (R 0) = [] := by simpa using h8.symm
        have h6 := wordsR_len (N 0) (R 0)
        rw [h7] at h6
        exact hne ⟨rfl, by simpa using h6.symm⟩
    · rw [if_neg e]
      have hp := parts_rows (τ := tauL l) (rowsR k N R) 0 [] (fun h9 => e (by rw [hln, h9]; rfl)) rfl (fun j hj => by
        rw [Nat.zero_add]
        unfold bar
        show ((tauL l j).2.2.toList == [124]) = _
        have e9 : (tauL l j).2.2 = tx l j := rfl
        rw [e9, Lib.toList_data, htx]
        by_cases e8 : (barred (rowsR k N R)).getD j [] = [124]
        · rw [e8]; rfl
        · rw [decide_eq_false e8]; simpa using e8) (fun r hr u hu => (hg r hr u hu).2)
      rw [Nat.zero_add, ← hln] at hp
      simpa using hp
  refine ⟨by rw [hparts, posOf_len, hlen], fun i hi => ?_⟩
  obtain ⟨q, q1, q2⟩ := rows_get (rowsR k N R) 0 i _ (hget i hi)
  rw [Nat.zero_add, wordsR_len] at q1
  have hpa : pAt l i = (q, N i) := pAt_get (by rw [hparts]; exact q1)
  rw [hpa]
  refine ⟨rfl, fun j hj => bytes_eq ?_⟩
  show (tx l (q + j)).data.toList = _
  rw [htx, q2 j (by rw [wordsR_len]; exact hj), wordsR_get _ _ _ hj]

end Go.Proofs.YtianfjidbeineaaGreatDoor
