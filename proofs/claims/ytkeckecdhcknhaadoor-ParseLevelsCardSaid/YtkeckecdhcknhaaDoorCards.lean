/-
  DERIVED. GIVEN WITH THE SEED: THE CARDS: each row of YtkeckecdhcknhaaDoorRows.lean that lists a variable, with what it lists TIED to the program's text (the seventh form; the later family's looks); each row that meets fmt, with fmt's text TOLD by the authors' own Lean function (tested against real Go, not proved from fmt's source: count such statements apart). THE CARD IS WHAT COUNTS. Prove the row's statement (the work); the ties are given (YtkeckecdhcknhaaDoorTie.lean); close each card by the builder's one call (the guide's Derived/Test/ToyasCard.lean, 'card_holds'). Laid BY PROGRAM, IN A SANDBOX (cutbox-door.mjs). By AI agents, Wed Nov 11 2026. No macro, syntax, notation, axiom, sorry.
-/
import Derived.Test.YtkeckecdhcknhaaDoorRows
import GoSem.ClaimSeven
namespace Go.Proofs.YtkeckecdhcknhaaDoor
namespace Rows

/-- THE TIED CARD OF 'lyceumlaw05.ParseWritten'. -/
def parseWrittenCard : Claim7 := { stood := { row := parseWrittenRow, standIns := [], harness := (true, "fa9976b77e4b929fcc420ea0505a21161be00306599ca708a454de19a6877bd7"), looks := true }, kinds := [], alts := [], laidByText := true, laidKinds := [.data, .data], laidTests := true, laidLooks := .later }
def ParseWrittenCardSaid : Prop := Claim7.holds Tryd.pinned (.plain (OpenSpec.ofChange parseWrittenSpec)) parseWrittenCard

/-- THE TIED CARD OF 'lyceumlaw05.ParseLevels'. -/
def parseLevelsCard : Claim7 := { stood := { row := parseLevelsRow, standIns := [], harness := (true, "fa9976b77e4b929fcc420ea0505a21161be00306599ca708a454de19a6877bd7"), looks := true }, kinds := [], alts := [], laidByText := true, laidKinds := [.data, .data], laidTests := true, laidLooks := .later }
def ParseLevelsCardSaid : Prop := Claim7.holds Tryd.pinned (.plain (OpenSpec.ofChange parseLevelsSpec)) parseLevelsCard

/-- THE SECOND FORM's CARD OF 'lyceumlaw05.ParseWritten'. -/
def parseWrittenUptoCard : Claim7 := { stood := { row := parseWrittenUptoRow, standIns := [], harness := (true, "fa9976b77e4b929fcc420ea0505a21161be00306599ca708a454de19a6877bd7"), looks := true }, kinds := [], alts := [], laidByText := true, laidKinds := [.data, .data], laidTests := true, laidLooks := .later }
def ParseWrittenUptoCardSaid : Prop := Claim7.holds Tryd.pinned (.plain (OpenSpec.upto parseWrittenSpec)) parseWrittenUptoCard

/-- THE SECOND FORM's CARD OF 'lyceumlaw05.ParseLevels'. -/
def parseLevelsUptoCard : Claim7 := { stood := { row := parseLevelsUptoRow, standIns := [], harness := (true, "fa9976b77e4b929fcc420ea0505a21161be00306599ca708a454de19a6877bd7"), looks := true }, kinds := [], alts := [], laidByText := true, laidKinds := [.data, .data], laidTests := true, laidLooks := .later }
def ParseLevelsUptoCardSaid : Prop := Claim7.holds Tryd.pinned (.plain (OpenSpec.upto parseLevelsSpec)) parseLevelsUptoCard
end Rows
end Go.Proofs.YtkeckecdhcknhaaDoor
