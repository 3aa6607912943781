/-
  Texts of mine.
-/
import Derived.Test.YtbelnhpjhpoacaaDoorJa29c81921c
import Derived.Test.YtbelnhpjhpoacaaDoorJ1a777f22da
import Derived.Lib.Join
import Derived.Lib.AppendIntMem
import Derived.Lib.SmallJoins
namespace Go.Proofs.YtbelnhpjhpoacaaDoor
open Go.RowKit
set_option linter.unusedVariables false
set_option linter.unusedSimpArgs false

/-- A builder of the call's own that holds these bytes. -/
def Bld (B : Nat) (w : World) (b : Nat) (l : List UInt8) : Prop := Lib.IsBuilder 52 5 B b (Lib.byteCells l) w
theorem Bld.below {B : Nat} {w w' : World} {b : Nat} {l : List UInt8} (h : Bld B w b l) (hb : Below w.heap.size w w') : Bld B w' b l := by
  have one : ∀ p, Lib.BuilderAt 52 5 B b p (Lib.byteCells l) w → Lib.BuilderAt 52 5 B b p (Lib.byteCells l) w' := fun p ⟨h1, v, h2, h3, h4⟩ => by
    refine ⟨h1, v, ?_, owns_later h3 hb, h4⟩
    rw [hb.block b (by
      rcases Nat.lt_or_ge b w.heap.size with h | h
      · exact h
      · rw [Array.getElem?_eq_none h] at h2; simp at h2)]
    exact h2
  exact h.elim (fun x => .inl (one _ x)) (fun x => .inr (one _ x))
theorem Bld.lt {B : Nat} {w : World} {b : Nat} {l : List UInt8} (h : Bld B w b l) : B ≤ b ∧ b < w.heap.size := by
  have one : ∀ p, Lib.BuilderAt 52 5 B b p (Lib.byteCells l) w → B ≤ b ∧ b < w.heap.size := fun p ⟨h1, v, h2, h3, h4⟩ => ⟨h1, by
      rcases Nat.lt_or_ge b w.heap.size with h | h
      · exact h
      · rw [Array.getElem?_eq_none h] at h2; simp at h2⟩
  exact h.elim (one _) (one _)
theorem byteCells_app (l m : List UInt8) : Lib.byteCells (l ++ m) = Lib.byteCells l ++ Lib.byteCells m := by
  unfold Lib.byteCells
  rw [List.map_append]
theorem byteCells_len (l : List UInt8) : (Lib.byteCells l).length = l.length := by
  unfold Lib.byteCells
  rw [List.length_map]
theorem lays166 : Go.Proofs.Lays.n166 Tryd.prog Tryd.lays156_ren := { Tryd.lays156 with }
def ren167 : Go.Shelf.Ren := ⟨fun | 167 => 31 | n => Tryd.lays156_ren.f n, Tryd.lays156_ren.t, Tryd.lays156_ren.g⟩
set_option maxRecDepth 100000 in
theorem lays167 : Go.Proofs.Lays.n167 Tryd.prog ren167 := {
  mixed := Tryd.lays156.mixed
  f167 := Tryd.func31.trans (congrArg some (by kernel_rfl))
  f240 := Tryd.lays156.f240.trans (congrArg some (by kernel_rfl))
  f276 := Tryd.lays156.f276.trans (congrArg some (by kernel_rfl))
  t0 := Tryd.lays156.t0
  a0 := Tryd.lays156.a0
  z0 := Tryd.lays156.z0
  v0 := Tryd.lays156.v0
  t4 := Tryd.lays156.t4
  a4 := Tryd.lays156.a4
  z4 := Tryd.lays156.z4
  v4 := Tryd.lays156.v4
  t5 := Tryd.Builder_Extra_156.t5
  a5 := Tryd.Builder_Extra_156.a5
  z5 := Tryd.Builder_Extra_156.z5
  v5 := Tryd.Builder_Extra_156.v5
  t9 := Tryd.lays156.t9
  a9 := Tryd.lays156.a9
  z9 := Tryd.lays156.z9
  v9 := Tryd.lays156.v9
  t20 := Tryd.lays156.t20
  a20 := Tryd.lays156.a20
  z20 := Tryd.lays156.z20
  v20 := Tryd.lays156.v20
  t37 := Tryd.lays156.t37
  a37 := Tryd.lays156.a37
  z37 := Tryd.lays156.z37
  v37 := Tryd.lays156.v37
  t70 := Tryd.lays156.t70
  a70 := Tryd.lays156.a70
  z70 := Tryd.lays156.z70
  v70 := Tryd.lays156.v70
  t72 := Tryd.lays156.t72
  a72 := Tryd.lays156.a72
  z72 := Tryd.lays156.z72
  v72 := Tryd.lays156.v72
  t75 := Tryd.lays156.t75
  a75 := Tryd.lays156.a75
  z75 := Tryd.lays156.z75
  v75 := Tryd.lays156.v75
  t164 := Tryd.lays156.t164
  a164 := Tryd.lays156.a164
  z164 := Tryd.lays156.z164
  v164 := Tryd.lays156.v164 }
set_option maxRecDepth 100000 in
theorem extra167 : Go.Proofs.Builder.Extra Tryd.prog ren167 := {
  sizeBuilder := by kernel_rfl
  liesBuilder := by kernel_rfl
  t5 := Tryd.Builder_Extra_156.t5
  a5 := Tryd.Builder_Extra_156.a5
  z5 := Tryd.Builder_Extra_156.z5
  v5 := Tryd.Builder_Extra_156.v5
  infoByte := by kernel_rfl
  cellsByte := by kernel_rfl
  sizeByte := by kernel_rfl
  neB5 := by decide }
theorem wstr_at {B : Nat} {w : World} {b : Nat} {l : List UInt8} (s : ByteArray) (h : Bld B w b l) (hl : l.length + s.size ≤ 140737488355328) :
    Calls Tryd.prog 29 #[.pointer (some ⟨b, 0, none⟩), .string s] w fun e w' => e = .returned (.tuple #[.int .i64 s.size, .nilIface]) ∧ Bld B w' b (l ++ s.data.toList) ∧ Below B w w' := by
  have hlt := h.lt
  refine (Any.Builder_WriteString lays166 Tryd.Builder_Extra_156 B b (Lib.byteCells l) s w h (by rw [byteCells_len]; exact hl) (by omega)).mono ?_
  rintro e w' ⟨he, h1, h2⟩
  refine ⟨he, Or.inr ?_, h2⟩
  rw [byteCells_app]
  exact h1
theorem wbyte_at {B : Nat} {w : World} {b : Nat} {l : List UInt8} (c : UInt8) (h : Bld B w b l) (hl : l.length + 1 ≤ 140737488355328) :
    Calls Tryd.prog 31 #[.pointer (some ⟨b, 0, none⟩), .int .u8 (c.toNat : Int)] w fun e w' => e = .returned .nilIface ∧ Bld B w' b (l ++ [c]) ∧ Below B w w' := by
  have hlt := h.lt
  refine (Any.Builder_WriteByte lays167 extra167 B b (Lib.byteCells l) (c.toNat : Int) w h (by rw [byteCells_len]; exact hl) (by omega)).mono ?_
  rintro e w' ⟨he, h1, h2⟩
  refine ⟨he, Or.inr ?_, h2⟩
  rw [byteCells_app]
  exact h1
theorem bstr_at {B : Nat} {w : World} {b : Nat} {l : List UInt8} (h : Bld B w b l) :
    Calls Tryd.prog 21 #[.pointer (some ⟨b, 0, none⟩)] w fun e w' => e = .returned (.string ⟨l.toArray⟩) ∧ Below B w w' := by
  have hlt := h.lt
  exact Tryd.Builder_String_any B b l w h (by omega)

/-- Texts side by side. -/
def StrC (w : World) (g n : Nat) (f : Nat → ByteArray) : Prop := g < w.heap.size ∧ ∀ j, j < n → w.cell? ⟨g, j, none⟩ = some (.string (f j))
theorem StrC.below {w w' : World} {g n : Nat} {f : Nat → ByteArray} (h : StrC w g n f) (hb : Below w.heap.size w w') : StrC w' g n f := ⟨by have := hb.size; have := h.1; omega, fun j hj => cell_later hb (h.2 j hj)⟩
/-- A new row of texts. -/
theorem strs_lay (w : World) (t : TypeId) (l : List ByteArray) (xs : Array Value) (hx : xs = (l.map Value.string).toArray) : ∃ W, W = w.alloc (.cells xs t) ∧ W.heap.size = w.heap.size + 1 ∧ Below w.heap.size w W ∧ StrC W w.heap.size l.length (fun i => l.getD i ByteArray.empty) := by
  have hb := heap_alloc_new w (.cells xs t)
  refine ⟨_, rfl, by simp, (Below.refl _ _).alloc (Nat.le_refl _) _, by simp, fun j hj => ?_⟩
  rw [cell_of_row _ _ _ _ _ _ hb, hx]
  simp [List.getD_eq_getElem?_getD, List.getElem?_eq_getElem hj]
/-- The texts, joined by a blank. -/
def lineT (n : Nat) (f : Nat → ByteArray) : List UInt8 := Lib.join (((List.range n).map f).map (·.data.toList)) [32]
theorem lineT_len (n K : Nat) (f : Nat → ByteArray) (h : ∀ i, i < n → (f i).size ≤ K) : (lineT n f).length ≤ n * (K + 1) := by
  have key : ∀ xs : List (List UInt8), (∀ x ∈ xs, x.length ≤ K) → (Lib.join xs [32]).length ≤ xs.length * (K + 1) := fun xs hx => by
    cases xs with
    | nil => simp [Lib.join_nil]
    | cons x xs =>
      rw [Lib.join_cons, List.length_append]
      have h1 := hx x (by simp)
      have h2 : ∀ ys : List (List UInt8), (∀ y ∈ ys, y.length ≤ K) → (Lib.joinTail [32] ys).length ≤ ys.length * (K + 1) := fun ys => by
        induction ys with
        | nil => intro _; simp [Lib.joinTail]
        | cons y ys ih =>
          intro hy
          have h3 := ih (fun z hz => hy z (by simp [hz]))
          have h4 := hy y (by simp)
          have e : Lib.joinTail [32] (y :: ys) = ([32] ++ y) ++ Lib.joinTail [32] ys := by simp [Lib.joinTail]
          rw [e, List.length_append, List.length_append, List.length_cons, List.length_cons, List.length_nil, Nat.add_mul]
          omega
      have h5 := h2 xs (fun y hy => hx y (by simp [hy]))
      rw [List.length_cons, Nat.add_mul]
      omega
  have := key (((List.range n).map f).map (·.data.toList)) (fun x hx => by
    simp only [List.map_map, List.mem_map, List.mem_range] at hx
    obtain ⟨i, hi, rfl⟩ := hx
    simpa using h i hi)
  simpa [lineT] using this
theorem join7_at {w : World} {g n c : Nat} {f : Nat → ByteArray} (h : StrC w g n f) (K : Nat) (hf : ∀ i, i < n → (f i).size ≤ K) (hn : n ≤ 1000) (hc : n ≤ c) (hK : K ≤ 1000000) :
    Calls Tryd.prog 30 #[.slice (some ⟨g, 0, none⟩) n c, .string { data := #[32] }] w fun e w' => e = .returned (.string ⟨(lineT n f).toArray⟩) ∧ Below w.heap.size w w' := by
  have hsz := lineT_len n K f hf
  have hb : n * (K + 1) ≤ 1000 * (1000000 + 1) := Nat.mul_le_mul hn (by omega)
  have hlen : ((List.range n).map f).length = n := by simp
  have := Tryd.strings_Join g 0 c ((List.range n).map f) { data := #[32] } w (fun j x hj => by
    have hjn : j < n := by have := (List.getElem?_eq_some_iff.1 hj).1; omega
    rw [List.getElem?_map, List.getElem?_range hjn] at hj
    cases hj
    rw [Nat.zero_add]
    exact h.2 j hjn) h.1 (by omega) (by omega) (by
    show (lineT n f).length ≤ _
    omega)
  rw [hlen] at this
  exact this

/-- strconv's table of powers of ten lies in its variable. -/
def Pow (w : World) : Prop := Lib.TabIs Tryd.prog w "internal/strconv.uint64pow10" .u64 Lib.pow10Tab
theorem Pow.below {w w' : World} (h : Pow w) (hb : Below w.heap.size w w') : Pow w' := Joins.tab_stays (g := 1) (by kernel_rfl) h hb (Nat.le_refl _)
theorem itoa_at (x : Nat) (w : World) (hx : x ≤ 1000000) (h : Pow w) : Calls Tryd.prog 19 #[.int .i64 (x : Int)] w fun e w' => e = .returned (.string ⟨(Lib.decDigits x).toArray⟩) ∧ Below w.heap.size w w' := by
  refine (Tryd.strconv_Itoa (x : Int) (by omega) (by omega) w h).mono ?_
  rintro e w' ⟨rfl, k, os, rfl⟩
  have e1 : Lib.itoa (x : Int) = Lib.decDigits x := by
    unfold Lib.itoa
    rw [if_neg (by omega), Int.toNat_natCast]
  rw [e1]
  exact ⟨rfl, Lib.below_grow _ w (Nat.le_refl _) k os⟩

end Go.Proofs.YtbelnhpjhpoacaaDoor
