/-
  NARROWER THAN 'FOR EVERY INPUT', by the rows' own cells (each row's printed sentence says how): FormatApart: loops, laid · FormatPart: loops, laid · FormatWrong: loops, laid.
  DERIVED. THE GIVEN ROWS OF THIS SEAT. 3 by the template 'for every input the law returns true; each argument reads behind the call as it read before'; 0 by the template 'total and deterministic' (their statements: YtdapnjnmhkdnpaaDoorTotals.lean).
  GIVEN WITH THE SEED: the statements are not yours to turn. If you find one false, say at which input.
  Laid BY PROGRAM, IN A SANDBOX (cutbox-rows.mjs): the forced cells as the released guide's own fill.sh prints them over the translation 62db2e00615c2446… (all of the seat's roots in one cut). By AI agents, Wed Nov 11 2026. No macro, syntax, notation, axiom, sorry.
-/
import Derived.Test.YtdapnjnmhkdnpaaDoorChecked
import GoSem.Claim
import GoSem.ClaimJoined
import GoSem.ClaimMapViews
import Derived.JoinedTies
import Derived.KernelRfl
namespace Go.Proofs.YtdapnjnmhkdnpaaDoor
/- THE CELL 'sum', in the pinned program and in every row, IS THE sha256 OF THE DUMP (.gsa) THAT YtdapnjnmhkdnpaaDoorProg.lean LOADS. Nothing in Lean hashes anything: it is a label: what it is worth is what the hold of that sum in a sandbox is worth. -/
noncomputable def Tryd.pinned : Pinned := { name := "ytdapnjnmhkdnpaadoor", sum := "62db2e00615c24466d41c2309d1f4026e46def08ddfa2e8e0bb64390b95968f2", checked := Tryd.checked }
namespace Rows
def none {H : Type} : Left H := { results := [], args := [] }

/- WHAT THE LISTED PACKAGE-LEVEL VARIABLES READ AS WHEN THE CALL BEGINS. Each datum BY PROGRAM (the guide's laid-datum.mjs) off the statement by which the dump's own 'gosem.cut.vars' lays the variable. In a bare row this is a premise. The card (YtdapnjnmhkdnpaaDoorCards.lean) ties it to the program's text. -/
def laid_lyceum_syntax_rows {H : Type} : DataW H := .agg [.agg [.lit (.int .u8 0), .lit (.int .i64 0), .lit (.int .i64 0), .lit (.int .i64 0), .lit (.bool false)], .agg [.lit (.int .u8 3), .lit (.int .i64 0), .lit (.int .i64 4), .lit (.int .i64 0), .lit (.bool false)], .agg [.lit (.int .u8 1), .lit (.int .i64 0), .lit (.int .i64 0), .lit (.int .i64 0), .lit (.bool false)], .agg [.lit (.int .u8 1), .lit (.int .i64 0), .lit (.int .i64 0), .lit (.int .i64 1), .lit (.bool false)], .agg [.lit (.int .u8 1), .lit (.int .i64 0), .lit (.int .i64 0), .lit (.int .i64 2), .lit (.bool false)], .agg [.lit (.int .u8 1), .lit (.int .i64 0), .lit (.int .i64 0), .lit (.int .i64 2), .lit (.bool false)], .agg [.lit (.int .u8 1), .lit (.int .i64 0), .lit (.int .i64 0), .lit (.int .i64 2), .lit (.bool false)], .agg [.lit (.int .u8 1), .lit (.int .i64 0), .lit (.int .i64 0), .lit (.int .i64 2), .lit (.bool false)], .agg [.lit (.int .u8 2), .lit (.int .i64 0), .lit (.int .i64 0), .lit (.int .i64 1), .lit (.bool false)], .agg [.lit (.int .u8 2), .lit (.int .i64 0), .lit (.int .i64 0), .lit (.int .i64 1), .lit (.bool false)], .agg [.lit (.int .u8 1), .lit (.int .i64 0), .lit (.int .i64 0), .lit (.int .i64 1), .lit (.bool false)], .agg [.lit (.int .u8 1), .lit (.int .i64 0), .lit (.int .i64 0), .lit (.int .i64 1), .lit (.bool false)], .agg [.lit (.int .u8 1), .lit (.int .i64 0), .lit (.int .i64 0), .lit (.int .i64 1), .lit (.bool false)], .agg [.lit (.int .u8 1), .lit (.int .i64 0), .lit (.int .i64 0), .lit (.int .i64 1), .lit (.bool false)], .agg [.lit (.int .u8 1), .lit (.int .i64 0), .lit (.int .i64 0), .lit (.int .i64 2), .lit (.bool false)], .agg [.lit (.int .u8 4), .lit (.int .i64 0), .lit (.int .i64 0), .lit (.int .i64 0), .lit (.bool true)], .agg [.lit (.int .u8 4), .lit (.int .i64 2), .lit (.int .i64 2), .lit (.int .i64 0), .lit (.bool true)]]
def laid_lyceum_format_signs {H : Type} : DataW H := .agg [.agg [.lit (.string []), .lit (.bool false), .lit (.int .i64 0), .lit (.bool false)], .agg [.lit (.string []), .lit (.bool false), .lit (.int .i64 6), .lit (.bool false)], .agg [.lit (.string []), .lit (.bool false), .lit (.int .i64 6), .lit (.bool false)], .agg [.lit (.string [126]), .lit (.bool false), .lit (.int .i64 6), .lit (.bool false)], .agg [.lit (.string [38]), .lit (.bool false), .lit (.int .i64 5), .lit (.bool false)], .agg [.lit (.string [124]), .lit (.bool false), .lit (.int .i64 4), .lit (.bool false)], .agg [.lit (.string [45, 62]), .lit (.bool false), .lit (.int .i64 2), .lit (.bool true)], .agg [.lit (.string [60, 45, 62]), .lit (.bool false), .lit (.int .i64 1), .lit (.bool false)], .agg [.lit (.string [97, 108, 108]), .lit (.bool true), .lit (.int .i64 6), .lit (.bool false)], .agg [.lit (.string [115, 111, 109, 101]), .lit (.bool true), .lit (.int .i64 6), .lit (.bool false)], .agg [.lit (.string [91, 93]), .lit (.bool false), .lit (.int .i64 6), .lit (.bool false)], .agg [.lit (.string [60, 62]), .lit (.bool false), .lit (.int .i64 6), .lit (.bool false)], .agg [.lit (.string [110, 101, 120, 116]), .lit (.bool true), .lit (.int .i64 6), .lit (.bool false)], .agg [.lit (.string [97, 108, 119, 97, 121, 115]), .lit (.bool true), .lit (.int .i64 6), .lit (.bool false)], .agg [.lit (.string [117, 110, 116, 105, 108]), .lit (.bool false), .lit (.int .i64 3), .lit (.bool true)], .agg [.lit (.string []), .lit (.bool false), .lit (.int .i64 6), .lit (.bool false)], .agg [.lit (.string []), .lit (.bool false), .lit (.int .i64 6), .lit (.bool false)]]

/-- 'lyceumlaw06.FormatApart': WHATEVER THE INPUT: true; the input reads as it did. -/
def formatApartSpec : ChangeSpec := { name := "formatApart", fn := fun _ => fun
  | [d1, d2] => { results := [.lit (.bool true)], args := [d1, d2] }
  | _ => none }
def formatApartRow : OpenClaim := { program := "ytdapnjnmhkdnpaadoor", sum := "62db2e00615c24466d41c2309d1f4026e46def08ddfa2e8e0bb64390b95968f2", func := "lyceum/lyceumlaw06.FormatApart", spec := "formatApart", inPlace := ["internal/abi.NoEscape"], unfollowed := true, recurses := true, named := ["lyceum/syntax.rows", "lyceum/format.signs"], loops := true, apart := false, laid := [("lyceum/syntax.rows", laid_lyceum_syntax_rows), ("lyceum/format.signs", laid_lyceum_format_signs)] }
def FormatApartSaid : Prop := formatApartRow.holds Tryd.pinned (OpenSpec.ofChange formatApartSpec)

/-- ITS FALSE NEIGHBOUR: 'it returns false'. Refute it at one input. -/
def formatApartWrong : ChangeSpec := { name := "formatApart", fn := fun _ => fun
  | [d1, d2] => { results := [.lit (.bool false)], args := [d1, d2] }
  | _ => none }
def FormatApartWrongFalsely : Prop := formatApartRow.holds Tryd.pinned (OpenSpec.ofChange formatApartWrong)

/-- 'lyceumlaw06.FormatPart': WHATEVER THE INPUT: true; the input reads as it did. -/
def formatPartSpec : ChangeSpec := { name := "formatPart", fn := fun _ => fun
  | [d1, d2] => { results := [.lit (.bool true)], args := [d1, d2] }
  | _ => none }
def formatPartRow : OpenClaim := { program := "ytdapnjnmhkdnpaadoor", sum := "62db2e00615c24466d41c2309d1f4026e46def08ddfa2e8e0bb64390b95968f2", func := "lyceum/lyceumlaw06.FormatPart", spec := "formatPart", inPlace := ["internal/abi.NoEscape", "internal/bytealg.IndexByteString", "internal/bytealg.IndexString"], unfollowed := true, recurses := true, named := ["lyceum/syntax.rows", "lyceum/format.signs", "internal/bytealg.MaxLen"], loops := true, apart := false, laid := [("lyceum/syntax.rows", laid_lyceum_syntax_rows), ("lyceum/format.signs", laid_lyceum_format_signs)] }
def FormatPartSaid : Prop := formatPartRow.holds Tryd.pinned (OpenSpec.ofChange formatPartSpec)

/-- ITS FALSE NEIGHBOUR: 'it returns false'. Refute it at one input. -/
def formatPartWrong : ChangeSpec := { name := "formatPart", fn := fun _ => fun
  | [d1, d2] => { results := [.lit (.bool false)], args := [d1, d2] }
  | _ => none }
def FormatPartWrongFalsely : Prop := formatPartRow.holds Tryd.pinned (OpenSpec.ofChange formatPartWrong)

/-- 'lyceumlaw06.FormatWrong': WHATEVER THE INPUT: true; the input reads as it did. -/
def formatWrongSpec : ChangeSpec := { name := "formatWrong", fn := fun _ => fun
  | [d1, d2, d3] => { results := [.lit (.bool true)], args := [d1, d2, d3] }
  | _ => none }
def formatWrongRow : OpenClaim := { program := "ytdapnjnmhkdnpaadoor", sum := "62db2e00615c24466d41c2309d1f4026e46def08ddfa2e8e0bb64390b95968f2", func := "lyceum/lyceumlaw06.FormatWrong", spec := "formatWrong", inPlace := ["internal/abi.NoEscape"], unfollowed := true, recurses := true, named := ["lyceum/syntax.rows", "lyceum/format.signs"], loops := true, apart := false, laid := [("lyceum/syntax.rows", laid_lyceum_syntax_rows), ("lyceum/format.signs", laid_lyceum_format_signs)] }
def FormatWrongSaid : Prop := formatWrongRow.holds Tryd.pinned (OpenSpec.ofChange formatWrongSpec)

/-- ITS FALSE NEIGHBOUR: 'it returns false'. Refute it at one input. -/
def formatWrongWrong : ChangeSpec := { name := "formatWrong", fn := fun _ => fun
  | [d1, d2, d3] => { results := [.lit (.bool false)], args := [d1, d2, d3] }
  | _ => none }
def FormatWrongWrongFalsely : Prop := formatWrongRow.holds Tryd.pinned (OpenSpec.ofChange formatWrongWrong)

/- THE SECOND FORM. 'bulk': how many values and letters a reading holds, each counted each time it is reached (what is shared counts as often as it is met; a slice's spare places count too). A statement '..UptoSaid' is the law's where the arguments, and the package variables that the reading takes, are together of bulk at most 1048576: NARROWER than '..Said'. Prove '..Said' where nothing that the law and all that it calls make is longer than what came in: it says more and counts as full. Else prove '..UptoSaid'. A law counts once. -/
mutual
def uptoBulk {H : Type} : DataW H → Nat
  | .lit (.string bytes) => bytes.length + 1
  | .lit _ => 1
  | .nil => 1
  | .ptr d => uptoBulk d + 1
  | .slice elems spare => uptoBulkAll elems + uptoBulkAll spare + 1
  | .agg parts => uptoBulkAll parts + 1
  | .iface _ d => uptoBulk d + 1
  | .map entries => uptoBulkEntries entries + 1
  | .held _ => 1
def uptoBulkAll {H : Type} : List (DataW H) → Nat
  | [] => 0
  | d :: r => uptoBulk d + uptoBulkAll r
def uptoBulkEntries {H : Type} : List (Lit × DataW H) → Nat
  | [] => 0
  | x :: r => uptoBulkEntry x + uptoBulkEntries r
def uptoBulkEntry {H : Type} : Lit × DataW H → Nat
  | (.string bytes, d) => bytes.length + uptoBulk d + 1
  | (_, d) => uptoBulk d + 1
 end
def uptoSmall : (H : Type) → List (DataW H) → Bool := fun _ ds => decide (uptoBulkAll ds ≤ 1048576)
def OpenSpec.upto (s : _root_.Go.ChangeSpec) : _root_.Go.OpenSpec := { _root_.Go.OpenSpec.ofChange s with cond := some uptoSmall }

/-- 'lyceumlaw06.FormatApart', WHERE WHAT IT READS IS OF BULK AT MOST 1048576: true; the input reads as it did. -/
def formatApartUptoRow : OpenClaim := { program := "ytdapnjnmhkdnpaadoor", sum := "62db2e00615c24466d41c2309d1f4026e46def08ddfa2e8e0bb64390b95968f2", func := "lyceum/lyceumlaw06.FormatApart", spec := "formatApart", inPlace := ["internal/abi.NoEscape"], unfollowed := true, recurses := true, named := ["lyceum/syntax.rows", "lyceum/format.signs"], loops := true, apart := false, laid := [("lyceum/syntax.rows", laid_lyceum_syntax_rows), ("lyceum/format.signs", laid_lyceum_format_signs)], narrowed := true }
def FormatApartUptoSaid : Prop := formatApartUptoRow.holds Tryd.pinned (OpenSpec.upto formatApartSpec)

/-- 'lyceumlaw06.FormatPart', WHERE WHAT IT READS IS OF BULK AT MOST 1048576: true; the input reads as it did. -/
def formatPartUptoRow : OpenClaim := { program := "ytdapnjnmhkdnpaadoor", sum := "62db2e00615c24466d41c2309d1f4026e46def08ddfa2e8e0bb64390b95968f2", func := "lyceum/lyceumlaw06.FormatPart", spec := "formatPart", inPlace := ["internal/abi.NoEscape", "internal/bytealg.IndexByteString", "internal/bytealg.IndexString"], unfollowed := true, recurses := true, named := ["lyceum/syntax.rows", "lyceum/format.signs", "internal/bytealg.MaxLen"], loops := true, apart := false, laid := [("lyceum/syntax.rows", laid_lyceum_syntax_rows), ("lyceum/format.signs", laid_lyceum_format_signs)], narrowed := true }
def FormatPartUptoSaid : Prop := formatPartUptoRow.holds Tryd.pinned (OpenSpec.upto formatPartSpec)

/-- 'lyceumlaw06.FormatWrong', WHERE WHAT IT READS IS OF BULK AT MOST 1048576: true; the input reads as it did. -/
def formatWrongUptoRow : OpenClaim := { program := "ytdapnjnmhkdnpaadoor", sum := "62db2e00615c24466d41c2309d1f4026e46def08ddfa2e8e0bb64390b95968f2", func := "lyceum/lyceumlaw06.FormatWrong", spec := "formatWrong", inPlace := ["internal/abi.NoEscape"], unfollowed := true, recurses := true, named := ["lyceum/syntax.rows", "lyceum/format.signs"], loops := true, apart := false, laid := [("lyceum/syntax.rows", laid_lyceum_syntax_rows), ("lyceum/format.signs", laid_lyceum_format_signs)], narrowed := true }
def FormatWrongUptoSaid : Prop := formatWrongUptoRow.holds Tryd.pinned (OpenSpec.upto formatWrongSpec)

end Rows
end Go.Proofs.YtdapnjnmhkdnpaaDoor
