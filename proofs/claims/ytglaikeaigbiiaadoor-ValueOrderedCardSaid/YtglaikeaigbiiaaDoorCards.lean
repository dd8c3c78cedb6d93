/-
  DERIVED. GIVEN WITH THE SEED: THE CARDS: each row of YtglaikeaigbiiaaDoorRows.lean that lists a variable, with what it lists TIED to the program's text (the seventh form; the later family's looks); each row that meets fmt, with fmt's text TOLD by the authors' own Lean function (tested against real Go, not proved from fmt's source: count such statements apart). THE CARD IS WHAT COUNTS. Prove the row's statement (the work); the ties are given (YtglaikeaigbiiaaDoorTie.lean); close each card by the builder's one call (the guide's Derived/Test/ToyasCard.lean, 'card_holds'). Laid BY PROGRAM, IN A SANDBOX (cutbox-door.mjs). By AI agents, Wed Nov 11 2026. No macro, syntax, notation, axiom, sorry.
-/
import Derived.Test.YtglaikeaigbiiaaDoorRows
import GoSem.ClaimSeven
namespace Go.Proofs.YtglaikeaigbiiaaDoor
namespace Rows

/-- THE TIED CARD OF 'colonnadelaw02.ValueTests'. -/
def valueTestsCard : Claim7 := { stood := { row := valueTestsRow, standIns := [], harness := (true, "428a2baee3fcfbe88c7a1fd6b61efeaeebff9b1f01e77f89deae2a2c1652a1d6"), looks := false }, kinds := [], alts := [], laidByText := true, laidKinds := [.data, .data, .data, .data, .data, .pinned], laidTests := true, laidLooks := .later }
def ValueTestsCardSaid : Prop := Claim7.holds Tryd.pinned (.plain (OpenSpec.ofChange valueTestsSpec)) valueTestsCard

/-- THE TIED CARD OF 'colonnadelaw02.ValueTruths'. -/
def valueTruthsCard : Claim7 := { stood := { row := valueTruthsRow, standIns := [], harness := (true, "428a2baee3fcfbe88c7a1fd6b61efeaeebff9b1f01e77f89deae2a2c1652a1d6"), looks := false }, kinds := [], alts := [], laidByText := true, laidKinds := [.data, .data, .data, .data, .data, .pinned], laidTests := true, laidLooks := .later }
def ValueTruthsCardSaid : Prop := Claim7.holds Tryd.pinned (.plain (OpenSpec.ofChange valueTruthsSpec)) valueTruthsCard

/-- THE TIED CARD OF 'colonnadelaw02.ValueOrdered'. -/
def valueOrderedCard : Claim7 := { stood := { row := valueOrderedRow, standIns := [], harness := (true, "428a2baee3fcfbe88c7a1fd6b61efeaeebff9b1f01e77f89deae2a2c1652a1d6"), looks := false }, kinds := [], alts := [], laidByText := true, laidKinds := [.data, .data, .data, .data, .data, .pinned], laidTests := true, laidLooks := .later }
def ValueOrderedCardSaid : Prop := Claim7.holds Tryd.pinned (.plain (OpenSpec.ofChange valueOrderedSpec)) valueOrderedCard

/-- THE SECOND FORM's CARD OF 'colonnadelaw02.ValueTests'. -/
def valueTestsUptoCard : Claim7 := { stood := { row := valueTestsUptoRow, standIns := [], harness := (true, "428a2baee3fcfbe88c7a1fd6b61efeaeebff9b1f01e77f89deae2a2c1652a1d6"), looks := false }, kinds := [], alts := [], laidByText := true, laidKinds := [.data, .data, .data, .data, .data, .pinned], laidTests := true, laidLooks := .later }
def ValueTestsUptoCardSaid : Prop := Claim7.holds Tryd.pinned (.plain (OpenSpec.upto valueTestsSpec)) valueTestsUptoCard

/-- THE SECOND FORM's CARD OF 'colonnadelaw02.ValueTruths'. -/
def valueTruthsUptoCard : Claim7 := { stood := { row := valueTruthsUptoRow, standIns := [], harness := (true, "428a2baee3fcfbe88c7a1fd6b61efeaeebff9b1f01e77f89deae2a2c1652a1d6"), looks := false }, kinds := [], alts := [], laidByText := true, laidKinds := [.data, .data, .data, .data, .data, .pinned], laidTests := true, laidLooks := .later }
def ValueTruthsUptoCardSaid : Prop := Claim7.holds Tryd.pinned (.plain (OpenSpec.upto valueTruthsSpec)) valueTruthsUptoCard

/-- THE SECOND FORM's CARD OF 'colonnadelaw02.ValueOrdered'. -/
def valueOrderedUptoCard : Claim7 := { stood := { row := valueOrderedUptoRow, standIns := [], harness := (true, "428a2baee3fcfbe88c7a1fd6b61efeaeebff9b1f01e77f89deae2a2c1652a1d6"), looks := false }, kinds := [], alts := [], laidByText := true, laidKinds := [.data, .data, .data, .data, .data, .pinned], laidTests := true, laidLooks := .later }
def ValueOrderedUptoCardSaid : Prop := Claim7.holds Tryd.pinned (.plain (OpenSpec.upto valueOrderedSpec)) valueOrderedUptoCard
end Rows
end Go.Proofs.YtglaikeaigbiiaaDoor
