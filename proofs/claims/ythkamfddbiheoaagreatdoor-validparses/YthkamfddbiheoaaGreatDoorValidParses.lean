/-
 Proves that valid's Parse tells which model any text of up to 4000 bytes is, or its first fault, as the document says, whatever comes in (the statement ValidParses, its tied card); the tables of math/bits and of strconv, the table of unicode/utf8 and strconv's two errors lie as the program's text lays them; no other condition.
-/
import Derived.Test.YthkamfddbiheoaaGreatDoorRows
import Derived.Test.YthkamfddbiheoaaGreatDoorJ144601eb74
import Derived.Test.YthkamfddbiheoaaGreatDoorJ0f71ddbfb2
import Derived.Test.YthkamfddbiheoaaGreatDoorJa3f7135d0b
import Derived.WalkKit
import Derived.ProofKit
import Derived.OpenShut
import Derived.ShutString
import Derived.ChangeOld
import Derived.Below
import Derived.Test.YthkamfddbiheoaaGreatDoorTie
import Derived.Test.YthkamfddbiheoaaGreatDoorCards
import Derived.LaidByTextLater
import Derived.LaidHandle
import Derived.Lib.LaidTab
import Derived.SevenTiedAt
import Derived.Lay
import Derived.Stop.Joined
import Derived.Stop.LaidErr
namespace Go.Proofs.YthkamfddbiheoaaGreatDoor.validParses
open Go.ChangeShapes Go.WideShapes Go.ChangeAt Go.RowKit
open Go.ChangeMaps (open_string shut_string)
set_option linter.unusedVariables false
set_option linter.unusedSimpArgs false

theorem named : True := by
 have _ := @vparse_at
 have _ := @mread_at
 have _ := @lcheck_at
 have _ := @awake8_at
 have _ := @same7_at
 have _ := @TMo.mrowG
 have _ := @mrT_good
 have _ := @rd0_fine
 have _ := @ChkOut.one
 have _ := @ChkOut.open
 have _ := @V2.lay
 have _ := @V4.lay
 have _ := @V2.blk
 have _ := @V4.blk
 have _ := @V2.below
 have _ := @V4.below
 have _ := @V2.same
 have _ := @V4.same
 have _ := @TMo.nil
 have _ := @TMo.le
 have _ := @TMo.form
 have _ := @TMo.below
 have _ := @TMo.sd
 have _ := @Sd.set
 have _ := @Sd.below
 have _ := @TMo.set
 have _ := @mrT_len
 have _ := @mrT_all
 have _ := @Erg.below
 have _ := @Tab.below
 have _ := @keepL_set
 have _ := @limb_int
 have _ := @limb_slice
 have _ := @cell_set_by
 have _ := @cell_set_at
 have _ := @cell_later
 have _ := @C6.below
 have _ := @Exit.then
 trivial

set_option maxRecDepth 100000 in
set_option maxHeartbeats 8000000 in
theorem walk (s : ByteArray) (w : World) (hs : s.size ≤ maxLen) (ht : Tab w) (hp : Pow w) (hE : Erg w) :
  Calls Tryz.prog 6 #[.string s] w fun e w' => e = .returned (.bool true) ∧ Below w.heap.size w w' := by
 sorry
theorem own : ownKnob Tryz.prog.godebug = none := by kernel_rfl

abbrev laid1 : List (String × DataW Unit) := Rows.validParsesRow.laid
/-- The tables that the road reads lie in their cells, and ErrRange is an error. -/
theorem tabs_of {W : World} (h : laidMetH Tryz.prog laid1 W) : Tab W ∧ Pow W ∧ Erg W := by
 rw [MakeChecks.laidMetH_plain _ _ _ (by kernel_rfl)] at h
 have hd : laid1 = [("math/bits.deBruijn32tab", Rows.laid_math_bits_deBruijn32tab), ("math/bits.deBruijn64tab", Lib.tabData .u8 (Lib.deBruijn64tab.map fun (n : Nat) => Int.ofNat n)), ("internal/strconv.uint64pow10", Lib.tabData .u64 Lib.pow10Tab), ("unicode/utf8.acceptRanges", Rows.laid_unicode_utf8_acceptRanges), ("strconv.ErrRange", Rows.laid_strconv_ErrRange), ("strconv.ErrSyntax", Rows.laid_strconv_ErrSyntax), ("unicode/utf8.first", Rows.laid_unicode_utf8_first)] := rfl
 rw [hd] at h
 have gTab : Tryz.prog.globalNamed "math/bits.deBruijn64tab" = some 4 := by kernel_rfl
 have hT := Lib.tabIs_of_head (t := 224) (e := 5) (n := 64) gTab (by kernel_rfl) (by kernel_rfl) (by kernel_rfl) (by kernel_rfl) (by kernel_rfl) h.tail
 have hP := Lib.tabIs_of_head (g := 0) (t := 192) (e := 90) (n := 20) (by kernel_rfl) (by kernel_rfl) (by kernel_rfl) (by kernel_rfl) (by kernel_rfl) (by kernel_rfl) h.tail.tail
 have hE := h.tail.tail.tail.tail
 refine ⟨fun i hi => ?_, hP, ?_⟩
 ·have hc := hT.cell gTab i (by rw [List.length_map]; exact hi)
  rw [hc]
  congr 2
  rw [List.getD_eq_getElem?_getD, List.getElem?_map, List.getD_eq_getElem?_getD]
  cases Lib.deBruijn64tab[i]? <;> rfl
 ·obtain ⟨ps, ⟨g, t, cs, fuel, p, q, hg, ht, hvar, hd2, _, _⟩, _⟩ := hE
  have hg2 : Tryz.prog.globalNamed "strconv.ErrRange" = some 2 := by kernel_rfl
  have ht2 : (Tryz.prog.globals[2]?).map (·.type) = some 76 := by kernel_rfl
  obtain rfl := Option.some.inj (hg2.symm.trans hg)
  obtain rfl := Option.some.inj (ht2.symm.trans ht)
  obtain ⟨f2, u, v, hcs, _, _⟩ := iface_of_trod (name := "*errors.errorString") (d := .ptr (.agg [.lit (.string [118, 97, 108, 117, 101, 32, 111, 117, 116, 32, 111, 102, 32, 114, 97, 110, 103, 101])])) Tryz.underlying76 hd2
  refine ⟨u, v, ?_⟩
  rw [World.var?_cell hg2 hvar 0]
  have := congrArg (fun l : List Value => l[0]?) hcs
  simpa using this

set_option maxRecDepth 100000 in
theorem lifted (os : Os) (started : os.Started) (H : Type) (enc : TypeId × Value → H) :
  ReturnsInHanded {} Tryz.checked os 6 .any (fun w args => (Rows.validParsesSpec.pre enc Tryz.prog Tryz.f6 [] false w args ∧ laidMetH Tryz.prog laid1 w) ∧ sizedMet enc Tryz.prog Tryz.f6 (OpenSpec.ofChange Rows.validParsesSpec) false w args) (Rows.validParsesSpec.post enc Tryz.prog Tryz.f6 false true false false) := by
 refine returnsInHanded_of_change_and (C := Tryz.checked) (X := fun w _ => laidMetH Tryz.prog laid1 w) (fun _ _ _ hh h => h.of_heap hh) own started (by kernel_rfl) Tryz.func6
  (ChangeSpec.witness_shaped (enc := enc) (C := Tryz.checked) (os := os) (X := fun w _ => laidMetH Tryz.prog laid1 w) false (World.laidAll Tryz.prog os laid1) #[.string ByteArray.empty] 8 (World.laidAll_os _ _ _) (World.shaped_of_ZipB (by kernel_rfl) (by kernel_rfl)) (by kernel_rfl) (by kernel_rfl) (by kernel_rfl) (by rw [MakeChecks.laidMetH_plain _ _ _ (by kernel_rfl)]; exact laidMet_laidAll _ (by kernel_rfl) (by kernel_rfl))) ?_
 intro W base args ds gs before hval0 hW _ _ hL _
 have hval : ∀ (j : Nat) t v, Tryz.f6.params[j]? = some t → args[j]? = some v → Value.okWide Tryz.prog W .any base t v := hval0
 have hW' := hW
 obtain ⟨p, q, hA0, hV, rfl, hfz, hnd⟩ := hW
 have hA : DataW.TrodAll enc Tryz.prog W 0 (fun _ => true) true Tryz.f6.params.toList args.toList ds p := hA0
 rw [Tryz.params6] at hA hval
 obtain ⟨v0, vs0, d0, ds0, p0, q0, hargs, rfl, rfl, h0, r0⟩ := trodAll_cons hA
 obtain ⟨rfl, rfl, rfl⟩ := trodAll_nil r0
 obtain rfl : args = #[v0] := by cases args; simp_all
 obtain ⟨rfl, rfl⟩ := trodVars_none hV
 obtain ⟨s0, rfl, rfl, rfl, w0⟩ := open_string Tryz.underlying9 (hval 0 9 v0 rfl rfl) h0
 clear hA0 hval0
 refine (walk s0 W w0 (tabs_of hL).1 (tabs_of hL).2.1 (tabs_of hL).2.2).mono fun e W' ⟨he, bel⟩ => ?_
 subst he
 exact ⟨_, rfl, _, _, _, [], _, [], hW', trodAll_mk1 (shut_bool Tryz.underlying4 _), (trodAll_cons_mk (shut_string Tryz.underlying9 w0) trodAll_mk0), rfl, bel.frame _, fun h => by cases h⟩

theorem over : Rows.validParsesRow.holds Tryz.pinned (OpenSpec.ofChange Rows.validParsesSpec) :=
 OpenClaim.holds_of_wide 6 Tryz.f6 rfl rfl rfl rfl rfl rfl rfl ⟨rfl, rfl, rfl, rfl, rfl⟩ rfl rfl rfl rfl rfl (by kernel_rfl) Tryz.func6 (by kernel_rfl)
  (of_decide_eq_true (by kernel_rfl)) (by unfold Func.isWrapper; first | (rw [if_pos (by decide +kernel)]; kernel_rfl) | (rw [if_neg (by decide +kernel)]; exact ⟨rfl, rfl⟩))
  (fun os started H enc _ => lifted os started H enc)

end Go.Proofs.YthkamfddbiheoaaGreatDoor.validParses
namespace Go.Proofs.YthkamfddbiheoaaGreatDoor
/-- The statement: the row, tied to the text of the program. -/
theorem validParses_holds : Rows.ValidParsesCardSaid :=
 Claim7.holds_tied_plain_at .later [] [.data, .data, .data, .data, .sentinel, .sentinel, .pinned] true (true, "c4aa1b5b3cc03d14c9beeb154ff1ffac97d59de215b5ec5e8041e2ff0ef8fb50") true
  validParses.over (fun _ h => by cases h) (by kernel_rfl) (fun _ h => by cases h) validParses_row_tie rfl ⟨rfl, rfl⟩ (by kernel_rfl) rfl
  (fun f fn hf hfn => by
   obtain rfl : f = 6 := Option.some.inj ((show Tryz.prog.funcNamed "dendron/dendronlaw08.ValidParses" = some 6 by kernel_rfl).symm.trans hf) |>.symm
   obtain rfl : fn = Tryz.f6 := (Option.some.inj (Tryz.func6.symm.trans hfn)).symm
   exact ⟨by kernel_rfl, fun j t ht => by
    rw [Tryz.params6] at ht
    have hm : t ∈ [9] := by simpa using Array.mem_of_getElem? ht
    have hall : ([9].all fun u => !Tryz.prog.wantsStandIn u) = true := by kernel_rfl
    exact (show Tryz.prog.wantsStandIn t = false by simpa using List.all_eq_true.1 hall t hm)⟩)
  (by kernel_rfl)
end Go.Proofs.YthkamfddbiheoaaGreatDoor
