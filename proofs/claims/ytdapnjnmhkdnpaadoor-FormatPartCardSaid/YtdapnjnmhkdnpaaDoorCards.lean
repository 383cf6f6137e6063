/-
  DERIVED. GIVEN WITH THE SEED: THE CARDS: each row of YtdapnjnmhkdnpaaDoorRows.lean that lists a variable, with what it lists TIED to the program's text (the seventh form; the later family's looks); each row that meets fmt, with fmt's text TOLD by the authors' own Lean function (tested against real Go, not proved from fmt's source: count such statements apart). THE CARD IS WHAT COUNTS. Prove the row's statement (the work); the ties are given (YtdapnjnmhkdnpaaDoorTie.lean); close each card by the builder's one call (the guide's Derived/Test/ToyasCard.lean, 'card_holds'). Laid BY PROGRAM, IN A SANDBOX (cutbox-door.mjs). By AI agents, Wed Nov 11 2026. No macro, syntax, notation, axiom, sorry.
-/
import Derived.Test.YtdapnjnmhkdnpaaDoorRows
import GoSem.ClaimSeven
namespace Go.Proofs.YtdapnjnmhkdnpaaDoor
namespace Rows

/-- THE TIED CARD OF 'lyceumlaw06.FormatApart'. -/
def formatApartCard : Claim7 := { stood := { row := formatApartRow, standIns := [], harness := (true, "074be2df9415536b29e91e5cb02a1cda8176f9f5f3f40ce0b9d42ae6b2aeb023"), looks := false }, kinds := [], alts := [], laidByText := true, laidKinds := [.data, .data], laidTests := true, laidLooks := .later }
def FormatApartCardSaid : Prop := Claim7.holds Tryd.pinned (.plain (OpenSpec.ofChange formatApartSpec)) formatApartCard

/-- THE TIED CARD OF 'lyceumlaw06.FormatPart'. -/
def formatPartCard : Claim7 := { stood := { row := formatPartRow, standIns := [], harness := (true, "074be2df9415536b29e91e5cb02a1cda8176f9f5f3f40ce0b9d42ae6b2aeb023"), looks := false }, kinds := [], alts := [], laidByText := true, laidKinds := [.data, .data], laidTests := true, laidLooks := .later }
def FormatPartCardSaid : Prop := Claim7.holds Tryd.pinned (.plain (OpenSpec.ofChange formatPartSpec)) formatPartCard

/-- THE TIED CARD OF 'lyceumlaw06.FormatWrong'. -/
def formatWrongCard : Claim7 := { stood := { row := formatWrongRow, standIns := [], harness := (true, "074be2df9415536b29e91e5cb02a1cda8176f9f5f3f40ce0b9d42ae6b2aeb023"), looks := false }, kinds := [], alts := [], laidByText := true, laidKinds := [.data, .data], laidTests := true, laidLooks := .later }
def FormatWrongCardSaid : Prop := Claim7.holds Tryd.pinned (.plain (OpenSpec.ofChange formatWrongSpec)) formatWrongCard

/-- THE SECOND FORM's CARD OF 'lyceumlaw06.FormatApart'. -/
def formatApartUptoCard : Claim7 := { stood := { row := formatApartUptoRow, standIns := [], harness := (true, "074be2df9415536b29e91e5cb02a1cda8176f9f5f3f40ce0b9d42ae6b2aeb023"), looks := false }, kinds := [], alts := [], laidByText := true, laidKinds := [.data, .data], laidTests := true, laidLooks := .later }
def FormatApartUptoCardSaid : Prop := Claim7.holds Tryd.pinned (.plain (OpenSpec.upto formatApartSpec)) formatApartUptoCard

/-- THE SECOND FORM's CARD OF 'lyceumlaw06.FormatPart'. -/
def formatPartUptoCard : Claim7 := { stood := { row := formatPartUptoRow, standIns := [], harness := (true, "074be2df9415536b29e91e5cb02a1cda8176f9f5f3f40ce0b9d42ae6b2aeb023"), looks := false }, kinds := [], alts := [], laidByText := true, laidKinds := [.data, .data], laidTests := true, laidLooks := .later }
def FormatPartUptoCardSaid : Prop := Claim7.holds Tryd.pinned (.plain (OpenSpec.upto formatPartSpec)) formatPartUptoCard

/-- THE SECOND FORM's CARD OF 'lyceumlaw06.FormatWrong'. -/
def formatWrongUptoCard : Claim7 := { stood := { row := formatWrongUptoRow, standIns := [], harness := (true, "074be2df9415536b29e91e5cb02a1cda8176f9f5f3f40ce0b9d42ae6b2aeb023"), looks := false }, kinds := [], alts := [], laidByText := true, laidKinds := [.data, .data], laidTests := true, laidLooks := .later }
def FormatWrongUptoCardSaid : Prop := Claim7.holds Tryd.pinned (.plain (OpenSpec.upto formatWrongSpec)) formatWrongUptoCard
end Rows
end Go.Proofs.YtdapnjnmhkdnpaaDoor
