/-
  DERIVED. GIVEN WITH THE SEED: THE CARDS: each row of YtkigddankkoahaaGreatDoorRows.lean that lists a variable, with what it lists TIED to the program's text (the seventh form; the later family's looks); each row that meets fmt, with fmt's text TOLD by the authors' own Lean function (tested against real Go, not proved from fmt's source: count such statements apart). THE CARD IS WHAT COUNTS. Prove the row's statement (the work); the ties are given (YtkigddankkoahaaGreatDoorTie.lean); close each card by the builder's one call (the guide's Derived/Test/ToyasCard.lean, 'card_holds'). Laid BY PROGRAM, IN A SANDBOX (cutbox-door.mjs). By AI agents, Wed Nov 11 2026. No macro, syntax, notation, axiom, sorry.
-/
import Derived.Test.YtkigddankkoahaaGreatDoorRows
import GoSem.ClaimSeven
namespace Go.Proofs.YtkigddankkoahaaGreatDoor
namespace Rows

/-- THE TIED CARD OF 'boscagelaw11.RowsKinds'. -/
def rowsKindsCard : Claim7 := { stood := { row := rowsKindsRow, standIns := [], harness := (true, "845e5b7411cb8d1ee28d2c481412623dfadab5fb9e7d5d57217866828600cbdf"), looks := false }, kinds := [], alts := [], laidByText := true, laidKinds := [.data, .data, .data, .data, .pinned], laidTests := true, laidLooks := .later }
def RowsKindsCardSaid : Prop := Claim7.holds Tryz.pinned (.plain (OpenSpec.ofChange rowsKindsSpec)) rowsKindsCard

/-- THE TIED CARD OF 'boscagelaw11.RowsBags'. -/
def rowsBagsCard : Claim7 := { stood := { row := rowsBagsRow, standIns := [], harness := (true, "845e5b7411cb8d1ee28d2c481412623dfadab5fb9e7d5d57217866828600cbdf"), looks := false }, kinds := [], alts := [], laidByText := true, laidKinds := [.data, .data, .data, .data, .pinned], laidTests := true, laidLooks := .later }
def RowsBagsCardSaid : Prop := Claim7.holds Tryz.pinned (.plain (OpenSpec.ofChange rowsBagsSpec)) rowsBagsCard

/-- THE TIED CARD OF 'boscagelaw11.RowsOrder'. -/
def rowsOrderCard : Claim7 := { stood := { row := rowsOrderRow, standIns := [], harness := (true, "845e5b7411cb8d1ee28d2c481412623dfadab5fb9e7d5d57217866828600cbdf"), looks := false }, kinds := [], alts := [], laidByText := true, laidKinds := [.data, .data, .data, .data, .pinned], laidTests := true, laidLooks := .later }
def RowsOrderCardSaid : Prop := Claim7.holds Tryz.pinned (.plain (OpenSpec.ofChange rowsOrderSpec)) rowsOrderCard

/-- THE SECOND FORM's CARD OF 'boscagelaw11.RowsKinds'. -/
def rowsKindsUptoCard : Claim7 := { stood := { row := rowsKindsUptoRow, standIns := [], harness := (true, "845e5b7411cb8d1ee28d2c481412623dfadab5fb9e7d5d57217866828600cbdf"), looks := false }, kinds := [], alts := [], laidByText := true, laidKinds := [.data, .data, .data, .data, .pinned], laidTests := true, laidLooks := .later }
def RowsKindsUptoCardSaid : Prop := Claim7.holds Tryz.pinned (.plain (OpenSpec.upto rowsKindsSpec)) rowsKindsUptoCard

/-- THE SECOND FORM's CARD OF 'boscagelaw11.RowsBags'. -/
def rowsBagsUptoCard : Claim7 := { stood := { row := rowsBagsUptoRow, standIns := [], harness := (true, "845e5b7411cb8d1ee28d2c481412623dfadab5fb9e7d5d57217866828600cbdf"), looks := false }, kinds := [], alts := [], laidByText := true, laidKinds := [.data, .data, .data, .data, .pinned], laidTests := true, laidLooks := .later }
def RowsBagsUptoCardSaid : Prop := Claim7.holds Tryz.pinned (.plain (OpenSpec.upto rowsBagsSpec)) rowsBagsUptoCard

/-- THE SECOND FORM's CARD OF 'boscagelaw11.RowsOrder'. -/
def rowsOrderUptoCard : Claim7 := { stood := { row := rowsOrderUptoRow, standIns := [], harness := (true, "845e5b7411cb8d1ee28d2c481412623dfadab5fb9e7d5d57217866828600cbdf"), looks := false }, kinds := [], alts := [], laidByText := true, laidKinds := [.data, .data, .data, .data, .pinned], laidTests := true, laidLooks := .later }
def RowsOrderUptoCardSaid : Prop := Claim7.holds Tryz.pinned (.plain (OpenSpec.upto rowsOrderSpec)) rowsOrderUptoCard
end Rows
end Go.Proofs.YtkigddankkoahaaGreatDoor
