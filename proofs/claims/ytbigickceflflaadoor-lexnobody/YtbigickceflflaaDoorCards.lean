/-
  DERIVED. GIVEN WITH THE SEED: THE CARDS: each row of YtbigickceflflaaDoorRows.lean that lists a variable, with what it lists TIED to the program's text (the seventh form; the later family's looks); each row that meets fmt, with fmt's text TOLD by the authors' own Lean function (tested against real Go, not proved from fmt's source: count such statements apart). THE CARD IS WHAT COUNTS. Prove the row's statement (the work); the ties are given (YtbigickceflflaaDoorTie.lean); close each card by the builder's one call (the guide's Derived/Test/ToyasCard.lean, 'card_holds'). Laid BY PROGRAM, IN A SANDBOX (cutbox-door.mjs). By AI agents, Wed Nov 11 2026. No macro, syntax, notation, axiom, sorry.
-/
import Derived.Test.YtbigickceflflaaDoorRows
import GoSem.ClaimSeven
namespace Go.Proofs.YtbigickceflflaaDoor
namespace Rows

/-- THE TIED CARD OF 'dendronlaw06.LexReads'. -/
def lexReadsCard : Claim7 := { stood := { row := lexReadsRow, standIns := [], harness := (true, "f9c0b3c9c593c2f6892db5e48c4eaea2116871807d245247f7015185539257d0"), looks := true }, kinds := [], alts := [], laidByText := true, laidKinds := [.data, .data, .data, .data, .sentinel, .sentinel, .pinned], laidTests := true, laidLooks := .later }
def LexReadsCardSaid : Prop := Claim7.holds Tryd.pinned (.plain (OpenSpec.ofChange lexReadsSpec)) lexReadsCard

/-- THE TIED CARD OF 'dendronlaw06.LexNobody'. -/
def lexNobodyCard : Claim7 := { stood := { row := lexNobodyRow, standIns := [], harness := (true, "f9c0b3c9c593c2f6892db5e48c4eaea2116871807d245247f7015185539257d0"), looks := true }, kinds := [], alts := [], laidByText := true, laidKinds := [.data, .data, .data, .data, .sentinel, .sentinel, .pinned], laidTests := true, laidLooks := .later }
def LexNobodyCardSaid : Prop := Claim7.holds Tryd.pinned (.plain (OpenSpec.ofChange lexNobodySpec)) lexNobodyCard

/-- THE SECOND FORM's CARD OF 'dendronlaw06.LexReads'. -/
def lexReadsUptoCard : Claim7 := { stood := { row := lexReadsUptoRow, standIns := [], harness := (true, "f9c0b3c9c593c2f6892db5e48c4eaea2116871807d245247f7015185539257d0"), looks := true }, kinds := [], alts := [], laidByText := true, laidKinds := [.data, .data, .data, .data, .sentinel, .sentinel, .pinned], laidTests := true, laidLooks := .later }
def LexReadsUptoCardSaid : Prop := Claim7.holds Tryd.pinned (.plain (OpenSpec.upto lexReadsSpec)) lexReadsUptoCard

/-- THE SECOND FORM's CARD OF 'dendronlaw06.LexNobody'. -/
def lexNobodyUptoCard : Claim7 := { stood := { row := lexNobodyUptoRow, standIns := [], harness := (true, "f9c0b3c9c593c2f6892db5e48c4eaea2116871807d245247f7015185539257d0"), looks := true }, kinds := [], alts := [], laidByText := true, laidKinds := [.data, .data, .data, .data, .sentinel, .sentinel, .pinned], laidTests := true, laidLooks := .later }
def LexNobodyUptoCardSaid : Prop := Claim7.holds Tryd.pinned (.plain (OpenSpec.upto lexNobodySpec)) lexNobodyUptoCard
end Rows
end Go.Proofs.YtbigickceflflaaDoor
