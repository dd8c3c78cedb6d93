/-
  DERIVED. GIVEN WITH THE SEED: THE CARDS: each row of YtflkljenkhjnfaaDoorRows.lean that lists a variable, with what it lists TIED to the program's text (the seventh form; the later family's looks); each row that meets fmt, with fmt's text TOLD by the authors' own Lean function (tested against real Go, not proved from fmt's source: count such statements apart). THE CARD IS WHAT COUNTS. Prove the row's statement (the work); the ties are given (YtflkljenkhjnfaaDoorTie.lean); close each card by the builder's one call (the guide's Derived/Test/ToyasCard.lean, 'card_holds'). Laid BY PROGRAM, IN A SANDBOX (cutbox-door.mjs). By AI agents, Wed Nov 11 2026. No macro, syntax, notation, axiom, sorry.
-/
import Derived.Test.YtflkljenkhjnfaaDoorRows
import GoSem.ClaimSeven
namespace Go.Proofs.YtflkljenkhjnfaaDoor
namespace Rows

/-- THE TIED CARD OF 'colonnadelaw01.NumSums'. -/
def numSumsCard : Claim7 := { stood := { row := numSumsRow, standIns := [], harness := (true, "483b253fee31ce423c083fae782006b3f147502cba2ebfdcb9e3959cdbe685eb"), looks := true }, kinds := [], alts := [], laidByText := true, laidKinds := [.data, .data, .data, .data], laidTests := true, laidLooks := .later }
def NumSumsCardSaid : Prop := Claim7.holds Tryd.pinned (.plain (OpenSpec.ofChange numSumsSpec)) numSumsCard

/-- THE TIED CARD OF 'colonnadelaw01.NumProducts'. -/
def numProductsCard : Claim7 := { stood := { row := numProductsRow, standIns := [], harness := (true, "483b253fee31ce423c083fae782006b3f147502cba2ebfdcb9e3959cdbe685eb"), looks := true }, kinds := [], alts := [], laidByText := true, laidKinds := [.data, .data, .data, .data], laidTests := true, laidLooks := .later }
def NumProductsCardSaid : Prop := Claim7.holds Tryd.pinned (.plain (OpenSpec.ofChange numProductsSpec)) numProductsCard

/-- THE TIED CARD OF 'colonnadelaw01.NumScales'. -/
def numScalesCard : Claim7 := { stood := { row := numScalesRow, standIns := [], harness := (true, "483b253fee31ce423c083fae782006b3f147502cba2ebfdcb9e3959cdbe685eb"), looks := true }, kinds := [], alts := [], laidByText := true, laidKinds := [.data, .data, .data, .data], laidTests := true, laidLooks := .later }
def NumScalesCardSaid : Prop := Claim7.holds Tryd.pinned (.plain (OpenSpec.ofChange numScalesSpec)) numScalesCard

/-- THE TIED CARD OF 'colonnadelaw01.NumReads'. -/
def numReadsCard : Claim7 := { stood := { row := numReadsRow, standIns := [], harness := (true, "483b253fee31ce423c083fae782006b3f147502cba2ebfdcb9e3959cdbe685eb"), looks := true }, kinds := [], alts := [], laidByText := true, laidKinds := [.data, .data, .data, .sentinel, .sentinel, .data], laidTests := true, laidLooks := .later }
def NumReadsCardSaid : Prop := Claim7.holds Tryd.pinned (.plain (OpenSpec.ofChange numReadsSpec)) numReadsCard

/-- THE TIED CARD OF 'colonnadelaw01.NumWrites'. -/
def numWritesCard : Claim7 := { stood := { row := numWritesRow, standIns := [], harness := (true, "483b253fee31ce423c083fae782006b3f147502cba2ebfdcb9e3959cdbe685eb"), looks := true }, kinds := [], alts := [], laidByText := true, laidKinds := [.data, .data, .data, .data], laidTests := true, laidLooks := .later }
def NumWritesCardSaid : Prop := Claim7.holds Tryd.pinned (.plain (OpenSpec.ofChange numWritesSpec)) numWritesCard

/-- THE TIED CARD OF 'colonnadelaw01.NumDays'. -/
def numDaysCard : Claim7 := { stood := { row := numDaysRow, standIns := [], harness := (true, "483b253fee31ce423c083fae782006b3f147502cba2ebfdcb9e3959cdbe685eb"), looks := true }, kinds := [], alts := [], laidByText := true, laidKinds := [.data, .data, .data, .data], laidTests := true, laidLooks := .later }
def NumDaysCardSaid : Prop := Claim7.holds Tryd.pinned (.plain (OpenSpec.ofChange numDaysSpec)) numDaysCard

/-- THE TIED CARD OF 'colonnadelaw01.NumWide'. -/
def numWideCard : Claim7 := { stood := { row := numWideRow, standIns := [], harness := (true, "483b253fee31ce423c083fae782006b3f147502cba2ebfdcb9e3959cdbe685eb"), looks := true }, kinds := [], alts := [], laidByText := true, laidKinds := [.data, .data, .data, .data], laidTests := true, laidLooks := .later }
def NumWideCardSaid : Prop := Claim7.holds Tryd.pinned (.plain (OpenSpec.ofChange numWideSpec)) numWideCard

/-- THE TIED CARD OF 'colonnadelaw01.NumBack'. -/
def numBackCard : Claim7 := { stood := { row := numBackRow, standIns := [], harness := (true, "483b253fee31ce423c083fae782006b3f147502cba2ebfdcb9e3959cdbe685eb"), looks := true }, kinds := [], alts := [], laidByText := true, laidKinds := [.data, .data, .data, .sentinel, .sentinel, .data], laidTests := true, laidLooks := .later }
def NumBackCardSaid : Prop := Claim7.holds Tryd.pinned (.plain (OpenSpec.ofChange numBackSpec)) numBackCard

/-- THE TIED CARD OF 'colonnadelaw01.NumFollows'. -/
def numFollowsCard : Claim7 := { stood := { row := numFollowsRow, standIns := [], harness := (true, "483b253fee31ce423c083fae782006b3f147502cba2ebfdcb9e3959cdbe685eb"), looks := true }, kinds := [], alts := [], laidByText := true, laidKinds := [.data, .data, .data, .data], laidTests := true, laidLooks := .later }
def NumFollowsCardSaid : Prop := Claim7.holds Tryd.pinned (.plain (OpenSpec.ofChange numFollowsSpec)) numFollowsCard

/-- THE TIED CARD OF 'colonnadelaw01.NumGathers'. -/
def numGathersCard : Claim7 := { stood := { row := numGathersRow, standIns := [], harness := (true, "483b253fee31ce423c083fae782006b3f147502cba2ebfdcb9e3959cdbe685eb"), looks := true }, kinds := [], alts := [], laidByText := true, laidKinds := [.data, .data, .data, .data], laidTests := true, laidLooks := .later }
def NumGathersCardSaid : Prop := Claim7.holds Tryd.pinned (.plain (OpenSpec.ofChange numGathersSpec)) numGathersCard

/-- THE SECOND FORM's CARD OF 'colonnadelaw01.NumSums'. -/
def numSumsUptoCard : Claim7 := { stood := { row := numSumsUptoRow, standIns := [], harness := (true, "483b253fee31ce423c083fae782006b3f147502cba2ebfdcb9e3959cdbe685eb"), looks := true }, kinds := [], alts := [], laidByText := true, laidKinds := [.data, .data, .data, .data], laidTests := true, laidLooks := .later }
def NumSumsUptoCardSaid : Prop := Claim7.holds Tryd.pinned (.plain (OpenSpec.upto numSumsSpec)) numSumsUptoCard

/-- THE SECOND FORM's CARD OF 'colonnadelaw01.NumProducts'. -/
def numProductsUptoCard : Claim7 := { stood := { row := numProductsUptoRow, standIns := [], harness := (true, "483b253fee31ce423c083fae782006b3f147502cba2ebfdcb9e3959cdbe685eb"), looks := true }, kinds := [], alts := [], laidByText := true, laidKinds := [.data, .data, .data, .data], laidTests := true, laidLooks := .later }
def NumProductsUptoCardSaid : Prop := Claim7.holds Tryd.pinned (.plain (OpenSpec.upto numProductsSpec)) numProductsUptoCard

/-- THE SECOND FORM's CARD OF 'colonnadelaw01.NumScales'. -/
def numScalesUptoCard : Claim7 := { stood := { row := numScalesUptoRow, standIns := [], harness := (true, "483b253fee31ce423c083fae782006b3f147502cba2ebfdcb9e3959cdbe685eb"), looks := true }, kinds := [], alts := [], laidByText := true, laidKinds := [.data, .data, .data, .data], laidTests := true, laidLooks := .later }
def NumScalesUptoCardSaid : Prop := Claim7.holds Tryd.pinned (.plain (OpenSpec.upto numScalesSpec)) numScalesUptoCard

/-- THE SECOND FORM's CARD OF 'colonnadelaw01.NumReads'. -/
def numReadsUptoCard : Claim7 := { stood := { row := numReadsUptoRow, standIns := [], harness := (true, "483b253fee31ce423c083fae782006b3f147502cba2ebfdcb9e3959cdbe685eb"), looks := true }, kinds := [], alts := [], laidByText := true, laidKinds := [.data, .data, .data, .sentinel, .sentinel, .data], laidTests := true, laidLooks := .later }
def NumReadsUptoCardSaid : Prop := Claim7.holds Tryd.pinned (.plain (OpenSpec.upto numReadsSpec)) numReadsUptoCard

/-- THE SECOND FORM's CARD OF 'colonnadelaw01.NumWrites'. -/
def numWritesUptoCard : Claim7 := { stood := { row := numWritesUptoRow, standIns := [], harness := (true, "483b253fee31ce423c083fae782006b3f147502cba2ebfdcb9e3959cdbe685eb"), looks := true }, kinds := [], alts := [], laidByText := true, laidKinds := [.data, .data, .data, .data], laidTests := true, laidLooks := .later }
def NumWritesUptoCardSaid : Prop := Claim7.holds Tryd.pinned (.plain (OpenSpec.upto numWritesSpec)) numWritesUptoCard

/-- THE SECOND FORM's CARD OF 'colonnadelaw01.NumDays'. -/
def numDaysUptoCard : Claim7 := { stood := { row := numDaysUptoRow, standIns := [], harness := (true, "483b253fee31ce423c083fae782006b3f147502cba2ebfdcb9e3959cdbe685eb"), looks := true }, kinds := [], alts := [], laidByText := true, laidKinds := [.data, .data, .data, .data], laidTests := true, laidLooks := .later }
def NumDaysUptoCardSaid : Prop := Claim7.holds Tryd.pinned (.plain (OpenSpec.upto numDaysSpec)) numDaysUptoCard

/-- THE SECOND FORM's CARD OF 'colonnadelaw01.NumWide'. -/
def numWideUptoCard : Claim7 := { stood := { row := numWideUptoRow, standIns := [], harness := (true, "483b253fee31ce423c083fae782006b3f147502cba2ebfdcb9e3959cdbe685eb"), looks := true }, kinds := [], alts := [], laidByText := true, laidKinds := [.data, .data, .data, .data], laidTests := true, laidLooks := .later }
def NumWideUptoCardSaid : Prop := Claim7.holds Tryd.pinned (.plain (OpenSpec.upto numWideSpec)) numWideUptoCard

/-- THE SECOND FORM's CARD OF 'colonnadelaw01.NumBack'. -/
def numBackUptoCard : Claim7 := { stood := { row := numBackUptoRow, standIns := [], harness := (true, "483b253fee31ce423c083fae782006b3f147502cba2ebfdcb9e3959cdbe685eb"), looks := true }, kinds := [], alts := [], laidByText := true, laidKinds := [.data, .data, .data, .sentinel, .sentinel, .data], laidTests := true, laidLooks := .later }
def NumBackUptoCardSaid : Prop := Claim7.holds Tryd.pinned (.plain (OpenSpec.upto numBackSpec)) numBackUptoCard

/-- THE SECOND FORM's CARD OF 'colonnadelaw01.NumFollows'. -/
def numFollowsUptoCard : Claim7 := { stood := { row := numFollowsUptoRow, standIns := [], harness := (true, "483b253fee31ce423c083fae782006b3f147502cba2ebfdcb9e3959cdbe685eb"), looks := true }, kinds := [], alts := [], laidByText := true, laidKinds := [.data, .data, .data, .data], laidTests := true, laidLooks := .later }
def NumFollowsUptoCardSaid : Prop := Claim7.holds Tryd.pinned (.plain (OpenSpec.upto numFollowsSpec)) numFollowsUptoCard

/-- THE SECOND FORM's CARD OF 'colonnadelaw01.NumGathers'. -/
def numGathersUptoCard : Claim7 := { stood := { row := numGathersUptoRow, standIns := [], harness := (true, "483b253fee31ce423c083fae782006b3f147502cba2ebfdcb9e3959cdbe685eb"), looks := true }, kinds := [], alts := [], laidByText := true, laidKinds := [.data, .data, .data, .data], laidTests := true, laidLooks := .later }
def NumGathersUptoCardSaid : Prop := Claim7.holds Tryd.pinned (.plain (OpenSpec.upto numGathersSpec)) numGathersUptoCard
end Rows
end Go.Proofs.YtflkljenkhjnfaaDoor
