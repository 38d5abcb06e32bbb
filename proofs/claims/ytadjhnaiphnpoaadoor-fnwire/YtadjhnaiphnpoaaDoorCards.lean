/-
  DERIVED. GIVEN WITH THE SEED: THE CARDS: each row of YtadjhnaiphnpoaaDoorRows.lean that lists a variable, with what it lists TIED to the program's text (the seventh form; the later family's looks); each row that meets fmt, with fmt's text TOLD by the authors' own Lean function (tested against real Go, not proved from fmt's source: count such statements apart). THE CARD IS WHAT COUNTS. Prove the row's statement (the work); the ties are given (YtadjhnaiphnpoaaDoorTie.lean); close each card by the builder's one call (the guide's Derived/Test/ToyasCard.lean, 'card_holds'). Laid BY PROGRAM, IN A SANDBOX (cutbox-door.mjs). By AI agents, Wed Nov 11 2026. No macro, syntax, notation, axiom, sorry.
-/
import Derived.Test.YtadjhnaiphnpoaaDoorRows
import GoSem.ClaimSeven
namespace Go.Proofs.YtadjhnaiphnpoaaDoor
namespace Rows

/-- THE TIED CARD OF 'laws.FnExactPutMessage'. -/
def fnExactPutMessageCard : Claim7 := { stood := { row := fnExactPutMessageRow, standIns := [], harness := (true, "0402b29b63241b80c66097c336ffa2d465ecc555f064baf27106359368db294f"), looks := true }, kinds := [], alts := [], laidByText := true, laidKinds := [.data, .data, .data], laidTests := true, laidLooks := .later }
def FnExactPutMessageCardSaid : Prop := Claim7.holds Tryd.pinned (.plain (OpenSpec.ofChange fnExactPutMessageSpec)) fnExactPutMessageCard

/-- THE TIED CARD OF 'laws.FnExactNextMessage'. -/
def fnExactNextMessageCard : Claim7 := { stood := { row := fnExactNextMessageRow, standIns := [], harness := (true, "0402b29b63241b80c66097c336ffa2d465ecc555f064baf27106359368db294f"), looks := true }, kinds := [], alts := [], laidByText := true, laidKinds := [.data, .data, .data, .data, .sentinel, .sentinel, .pinned], laidTests := true, laidLooks := .later }
def FnExactNextMessageCardSaid : Prop := Claim7.holds Tryd.pinned (.plain (OpenSpec.ofChange fnExactNextMessageSpec)) fnExactNextMessageCard

/-- THE TIED CARD OF 'laws.FnExactMessages'. -/
def fnExactMessagesCard : Claim7 := { stood := { row := fnExactMessagesRow, standIns := [], harness := (true, "0402b29b63241b80c66097c336ffa2d465ecc555f064baf27106359368db294f"), looks := true }, kinds := [], alts := [], laidByText := true, laidKinds := [.data, .data, .data, .data, .sentinel, .sentinel, .pinned], laidTests := true, laidLooks := .later }
def FnExactMessagesCardSaid : Prop := Claim7.holds Tryd.pinned (.plain (OpenSpec.ofChange fnExactMessagesSpec)) fnExactMessagesCard

/-- THE TIED CARD OF 'laws.FnExactCmdText'. -/
def fnExactCmdTextCard : Claim7 := { stood := { row := fnExactCmdTextRow, standIns := [], harness := (true, "0402b29b63241b80c66097c336ffa2d465ecc555f064baf27106359368db294f"), looks := true }, kinds := [], alts := [], laidByText := true, laidKinds := [.data, .data, .data], laidTests := true, laidLooks := .later }
def FnExactCmdTextCardSaid : Prop := Claim7.holds Tryd.pinned (.plain (OpenSpec.ofChange fnExactCmdTextSpec)) fnExactCmdTextCard

/-- THE TIED CARD OF 'laws.FnExactReadCmd'. -/
def fnExactReadCmdCard : Claim7 := { stood := { row := fnExactReadCmdRow, standIns := [], harness := (true, "0402b29b63241b80c66097c336ffa2d465ecc555f064baf27106359368db294f"), looks := true }, kinds := [], alts := [], laidByText := true, laidKinds := [.data, .data, .data, .sentinel, .sentinel], laidTests := true, laidLooks := .later }
def FnExactReadCmdCardSaid : Prop := Claim7.holds Tryd.pinned (.plain (OpenSpec.ofChange fnExactReadCmdSpec)) fnExactReadCmdCard

/-- THE TIED CARD OF 'laws.FnWire'. -/
def fnWireCard : Claim7 := { stood := { row := fnWireRow, standIns := [], harness := (true, "0402b29b63241b80c66097c336ffa2d465ecc555f064baf27106359368db294f"), looks := true }, kinds := [], alts := [], laidByText := true, laidKinds := [.data, .data, .data, .data, .sentinel, .sentinel, .pinned], laidTests := true, laidLooks := .later }
def FnWireCardSaid : Prop := Claim7.holds Tryd.pinned (.plain (OpenSpec.ofChange fnWireSpec)) fnWireCard

/-- THE TIED CARD OF 'laws.FnCmd'. -/
def fnCmdCard : Claim7 := { stood := { row := fnCmdRow, standIns := [], harness := (true, "0402b29b63241b80c66097c336ffa2d465ecc555f064baf27106359368db294f"), looks := true }, kinds := [], alts := [], laidByText := true, laidKinds := [.data, .data, .data, .sentinel, .sentinel], laidTests := true, laidLooks := .later }
def FnCmdCardSaid : Prop := Claim7.holds Tryd.pinned (.plain (OpenSpec.ofChange fnCmdSpec)) fnCmdCard

/-- THE SECOND FORM's CARD OF 'laws.FnExactPutMessage'. -/
def fnExactPutMessageUptoCard : Claim7 := { stood := { row := fnExactPutMessageUptoRow, standIns := [], harness := (true, "0402b29b63241b80c66097c336ffa2d465ecc555f064baf27106359368db294f"), looks := true }, kinds := [], alts := [], laidByText := true, laidKinds := [.data, .data, .data], laidTests := true, laidLooks := .later }
def FnExactPutMessageUptoCardSaid : Prop := Claim7.holds Tryd.pinned (.plain (OpenSpec.upto fnExactPutMessageSpec)) fnExactPutMessageUptoCard

/-- THE SECOND FORM's CARD OF 'laws.FnExactNextMessage'. -/
def fnExactNextMessageUptoCard : Claim7 := { stood := { row := fnExactNextMessageUptoRow, standIns := [], harness := (true, "0402b29b63241b80c66097c336ffa2d465ecc555f064baf27106359368db294f"), looks := true }, kinds := [], alts := [], laidByText := true, laidKinds := [.data, .data, .data, .data, .sentinel, .sentinel, .pinned], laidTests := true, laidLooks := .later }
def FnExactNextMessageUptoCardSaid : Prop := Claim7.holds Tryd.pinned (.plain (OpenSpec.upto fnExactNextMessageSpec)) fnExactNextMessageUptoCard

/-- THE SECOND FORM's CARD OF 'laws.FnExactMessages'. -/
def fnExactMessagesUptoCard : Claim7 := { stood := { row := fnExactMessagesUptoRow, standIns := [], harness := (true, "0402b29b63241b80c66097c336ffa2d465ecc555f064baf27106359368db294f"), looks := true }, kinds := [], alts := [], laidByText := true, laidKinds := [.data, .data, .data, .data, .sentinel, .sentinel, .pinned], laidTests := true, laidLooks := .later }
def FnExactMessagesUptoCardSaid : Prop := Claim7.holds Tryd.pinned (.plain (OpenSpec.upto fnExactMessagesSpec)) fnExactMessagesUptoCard

/-- THE SECOND FORM's CARD OF 'laws.FnExactCmdText'. -/
def fnExactCmdTextUptoCard : Claim7 := { stood := { row := fnExactCmdTextUptoRow, standIns := [], harness := (true, "0402b29b63241b80c66097c336ffa2d465ecc555f064baf27106359368db294f"), looks := true }, kinds := [], alts := [], laidByText := true, laidKinds := [.data, .data, .data], laidTests := true, laidLooks := .later }
def FnExactCmdTextUptoCardSaid : Prop := Claim7.holds Tryd.pinned (.plain (OpenSpec.upto fnExactCmdTextSpec)) fnExactCmdTextUptoCard

/-- THE SECOND FORM's CARD OF 'laws.FnExactReadCmd'. -/
def fnExactReadCmdUptoCard : Claim7 := { stood := { row := fnExactReadCmdUptoRow, standIns := [], harness := (true, "0402b29b63241b80c66097c336ffa2d465ecc555f064baf27106359368db294f"), looks := true }, kinds := [], alts := [], laidByText := true, laidKinds := [.data, .data, .data, .sentinel, .sentinel], laidTests := true, laidLooks := .later }
def FnExactReadCmdUptoCardSaid : Prop := Claim7.holds Tryd.pinned (.plain (OpenSpec.upto fnExactReadCmdSpec)) fnExactReadCmdUptoCard

/-- THE SECOND FORM's CARD OF 'laws.FnWire'. -/
def fnWireUptoCard : Claim7 := { stood := { row := fnWireUptoRow, standIns := [], harness := (true, "0402b29b63241b80c66097c336ffa2d465ecc555f064baf27106359368db294f"), looks := true }, kinds := [], alts := [], laidByText := true, laidKinds := [.data, .data, .data, .data, .sentinel, .sentinel, .pinned], laidTests := true, laidLooks := .later }
def FnWireUptoCardSaid : Prop := Claim7.holds Tryd.pinned (.plain (OpenSpec.upto fnWireSpec)) fnWireUptoCard

/-- THE SECOND FORM's CARD OF 'laws.FnCmd'. -/
def fnCmdUptoCard : Claim7 := { stood := { row := fnCmdUptoRow, standIns := [], harness := (true, "0402b29b63241b80c66097c336ffa2d465ecc555f064baf27106359368db294f"), looks := true }, kinds := [], alts := [], laidByText := true, laidKinds := [.data, .data, .data, .sentinel, .sentinel], laidTests := true, laidLooks := .later }
def FnCmdUptoCardSaid : Prop := Claim7.holds Tryd.pinned (.plain (OpenSpec.upto fnCmdSpec)) fnCmdUptoCard
end Rows
end Go.Proofs.YtadjhnaiphnpoaaDoor
