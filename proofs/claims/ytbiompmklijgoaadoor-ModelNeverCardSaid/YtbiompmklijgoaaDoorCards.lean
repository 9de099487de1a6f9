/-
  DERIVED. GIVEN WITH THE SEED: THE CARDS: each row of YtbiompmklijgoaaDoorRows.lean that lists a variable, with what it lists TIED to the program's text (the seventh form; the later family's looks); each row that meets fmt, with fmt's text TOLD by the authors' own Lean function (tested against real Go, not proved from fmt's source: count such statements apart). THE CARD IS WHAT COUNTS. Prove the row's statement (the work); the ties are given (YtbiompmklijgoaaDoorTie.lean); close each card by the builder's one call (the guide's Derived/Test/ToyasCard.lean, 'card_holds'). Laid BY PROGRAM, IN A SANDBOX (cutbox-door.mjs). By AI agents, Wed Nov 11 2026. No macro, syntax, notation, axiom, sorry.
-/
import Derived.Test.YtbiompmklijgoaaDoorRows
import GoSem.ClaimSeven
namespace Go.Proofs.YtbiompmklijgoaaDoor
namespace Rows

/-- THE TIED CARD OF 'dustcartlaw04.ModelPlays'. -/
def modelPlaysCard : Claim7 := { stood := { row := modelPlaysRow, standIns := [], harness := (true, "810aab0bfd4ba803efd5b47c3bfc2085c6cf45ebffc582549cf0f4131f699aee"), looks := false }, kinds := [], alts := [], laidByText := true, laidKinds := [.data], laidTests := true, laidLooks := .later }
def ModelPlaysCardSaid : Prop := Claim7.holds Tryd.pinned (.plain (OpenSpec.ofChange modelPlaysSpec)) modelPlaysCard

/-- THE TIED CARD OF 'dustcartlaw04.ModelNone'. -/
def modelNoneCard : Claim7 := { stood := { row := modelNoneRow, standIns := [], harness := (true, "810aab0bfd4ba803efd5b47c3bfc2085c6cf45ebffc582549cf0f4131f699aee"), looks := false }, kinds := [], alts := [], laidByText := true, laidKinds := [.data], laidTests := true, laidLooks := .later }
def ModelNoneCardSaid : Prop := Claim7.holds Tryd.pinned (.plain (OpenSpec.ofChange modelNoneSpec)) modelNoneCard

/-- THE TIED CARD OF 'dustcartlaw04.ModelNever'. -/
def modelNeverCard : Claim7 := { stood := { row := modelNeverRow, standIns := [], harness := (true, "810aab0bfd4ba803efd5b47c3bfc2085c6cf45ebffc582549cf0f4131f699aee"), looks := false }, kinds := [], alts := [], laidByText := true, laidKinds := [.data], laidTests := true, laidLooks := .later }
def ModelNeverCardSaid : Prop := Claim7.holds Tryd.pinned (.plain (OpenSpec.ofChange modelNeverSpec)) modelNeverCard

/-- THE TIED CARD OF 'dustcartlaw04.ModelLeast'. -/
def modelLeastCard : Claim7 := { stood := { row := modelLeastRow, standIns := [], harness := (true, "810aab0bfd4ba803efd5b47c3bfc2085c6cf45ebffc582549cf0f4131f699aee"), looks := false }, kinds := [], alts := [], laidByText := true, laidKinds := [.data], laidTests := true, laidLooks := .later }
def ModelLeastCardSaid : Prop := Claim7.holds Tryd.pinned (.plain (OpenSpec.ofChange modelLeastSpec)) modelLeastCard

/-- THE TIED CARD OF 'dustcartlaw04.ModelMore'. -/
def modelMoreCard : Claim7 := { stood := { row := modelMoreRow, standIns := [], harness := (true, "810aab0bfd4ba803efd5b47c3bfc2085c6cf45ebffc582549cf0f4131f699aee"), looks := false }, kinds := [], alts := [], laidByText := true, laidKinds := [.data], laidTests := true, laidLooks := .later }
def ModelMoreCardSaid : Prop := Claim7.holds Tryd.pinned (.plain (OpenSpec.ofChange modelMoreSpec)) modelMoreCard

/-- THE TIED CARD OF 'dustcartlaw04.ModelCollects'. -/
def modelCollectsCard : Claim7 := { stood := { row := modelCollectsRow, standIns := [], harness := (true, "810aab0bfd4ba803efd5b47c3bfc2085c6cf45ebffc582549cf0f4131f699aee"), looks := false }, kinds := [], alts := [], laidByText := true, laidKinds := [.data], laidTests := true, laidLooks := .later }
def ModelCollectsCardSaid : Prop := Claim7.holds Tryd.pinned (.plain (OpenSpec.ofChange modelCollectsSpec)) modelCollectsCard

/-- THE TIED CARD OF 'dustcartlaw04.ModelTold'. -/
def modelToldCard : Claim7 := { stood := { row := modelToldRow, standIns := [], harness := (true, "810aab0bfd4ba803efd5b47c3bfc2085c6cf45ebffc582549cf0f4131f699aee"), looks := false }, kinds := [], alts := [], laidByText := true, laidKinds := [.data], laidTests := true, laidLooks := .later }
def ModelToldCardSaid : Prop := Claim7.holds Tryd.pinned (.plain (OpenSpec.ofChange modelToldSpec)) modelToldCard

/-- THE TIED CARD OF 'dustcartlaw04.ModelRefused'. -/
def modelRefusedCard : Claim7 := { stood := { row := modelRefusedRow, standIns := [], harness := (true, "810aab0bfd4ba803efd5b47c3bfc2085c6cf45ebffc582549cf0f4131f699aee"), looks := false }, kinds := [], alts := [], laidByText := true, laidKinds := [.data], laidTests := true, laidLooks := .later }
def ModelRefusedCardSaid : Prop := Claim7.holds Tryd.pinned (.plain (OpenSpec.ofChange modelRefusedSpec)) modelRefusedCard

/-- THE TIED CARD OF 'dustcartlaw04.ModelClones'. -/
def modelClonesCard : Claim7 := { stood := { row := modelClonesRow, standIns := [], harness := (true, "810aab0bfd4ba803efd5b47c3bfc2085c6cf45ebffc582549cf0f4131f699aee"), looks := false }, kinds := [], alts := [], laidByText := true, laidKinds := [.data], laidTests := true, laidLooks := .later }
def ModelClonesCardSaid : Prop := Claim7.holds Tryd.pinned (.plain (OpenSpec.ofChange modelClonesSpec)) modelClonesCard

/-- THE SECOND FORM's CARD OF 'dustcartlaw04.ModelPlays'. -/
def modelPlaysUptoCard : Claim7 := { stood := { row := modelPlaysUptoRow, standIns := [], harness := (true, "810aab0bfd4ba803efd5b47c3bfc2085c6cf45ebffc582549cf0f4131f699aee"), looks := false }, kinds := [], alts := [], laidByText := true, laidKinds := [.data], laidTests := true, laidLooks := .later }
def ModelPlaysUptoCardSaid : Prop := Claim7.holds Tryd.pinned (.plain (OpenSpec.upto modelPlaysSpec)) modelPlaysUptoCard

/-- THE SECOND FORM's CARD OF 'dustcartlaw04.ModelNone'. -/
def modelNoneUptoCard : Claim7 := { stood := { row := modelNoneUptoRow, standIns := [], harness := (true, "810aab0bfd4ba803efd5b47c3bfc2085c6cf45ebffc582549cf0f4131f699aee"), looks := false }, kinds := [], alts := [], laidByText := true, laidKinds := [.data], laidTests := true, laidLooks := .later }
def ModelNoneUptoCardSaid : Prop := Claim7.holds Tryd.pinned (.plain (OpenSpec.upto modelNoneSpec)) modelNoneUptoCard

/-- THE SECOND FORM's CARD OF 'dustcartlaw04.ModelNever'. -/
def modelNeverUptoCard : Claim7 := { stood := { row := modelNeverUptoRow, standIns := [], harness := (true, "810aab0bfd4ba803efd5b47c3bfc2085c6cf45ebffc582549cf0f4131f699aee"), looks := false }, kinds := [], alts := [], laidByText := true, laidKinds := [.data], laidTests := true, laidLooks := .later }
def ModelNeverUptoCardSaid : Prop := Claim7.holds Tryd.pinned (.plain (OpenSpec.upto modelNeverSpec)) modelNeverUptoCard

/-- THE SECOND FORM's CARD OF 'dustcartlaw04.ModelLeast'. -/
def modelLeastUptoCard : Claim7 := { stood := { row := modelLeastUptoRow, standIns := [], harness := (true, "810aab0bfd4ba803efd5b47c3bfc2085c6cf45ebffc582549cf0f4131f699aee"), looks := false }, kinds := [], alts := [], laidByText := true, laidKinds := [.data], laidTests := true, laidLooks := .later }
def ModelLeastUptoCardSaid : Prop := Claim7.holds Tryd.pinned (.plain (OpenSpec.upto modelLeastSpec)) modelLeastUptoCard

/-- THE SECOND FORM's CARD OF 'dustcartlaw04.ModelMore'. -/
def modelMoreUptoCard : Claim7 := { stood := { row := modelMoreUptoRow, standIns := [], harness := (true, "810aab0bfd4ba803efd5b47c3bfc2085c6cf45ebffc582549cf0f4131f699aee"), looks := false }, kinds := [], alts := [], laidByText := true, laidKinds := [.data], laidTests := true, laidLooks := .later }
def ModelMoreUptoCardSaid : Prop := Claim7.holds Tryd.pinned (.plain (OpenSpec.upto modelMoreSpec)) modelMoreUptoCard

/-- THE SECOND FORM's CARD OF 'dustcartlaw04.ModelCollects'. -/
def modelCollectsUptoCard : Claim7 := { stood := { row := modelCollectsUptoRow, standIns := [], harness := (true, "810aab0bfd4ba803efd5b47c3bfc2085c6cf45ebffc582549cf0f4131f699aee"), looks := false }, kinds := [], alts := [], laidByText := true, laidKinds := [.data], laidTests := true, laidLooks := .later }
def ModelCollectsUptoCardSaid : Prop := Claim7.holds Tryd.pinned (.plain (OpenSpec.upto modelCollectsSpec)) modelCollectsUptoCard

/-- THE SECOND FORM's CARD OF 'dustcartlaw04.ModelTold'. -/
def modelToldUptoCard : Claim7 := { stood := { row := modelToldUptoRow, standIns := [], harness := (true, "810aab0bfd4ba803efd5b47c3bfc2085c6cf45ebffc582549cf0f4131f699aee"), looks := false }, kinds := [], alts := [], laidByText := true, laidKinds := [.data], laidTests := true, laidLooks := .later }
def ModelToldUptoCardSaid : Prop := Claim7.holds Tryd.pinned (.plain (OpenSpec.upto modelToldSpec)) modelToldUptoCard

/-- THE SECOND FORM's CARD OF 'dustcartlaw04.ModelRefused'. -/
def modelRefusedUptoCard : Claim7 := { stood := { row := modelRefusedUptoRow, standIns := [], harness := (true, "810aab0bfd4ba803efd5b47c3bfc2085c6cf45ebffc582549cf0f4131f699aee"), looks := false }, kinds := [], alts := [], laidByText := true, laidKinds := [.data], laidTests := true, laidLooks := .later }
def ModelRefusedUptoCardSaid : Prop := Claim7.holds Tryd.pinned (.plain (OpenSpec.upto modelRefusedSpec)) modelRefusedUptoCard

/-- THE SECOND FORM's CARD OF 'dustcartlaw04.ModelClones'. -/
def modelClonesUptoCard : Claim7 := { stood := { row := modelClonesUptoRow, standIns := [], harness := (true, "810aab0bfd4ba803efd5b47c3bfc2085c6cf45ebffc582549cf0f4131f699aee"), looks := false }, kinds := [], alts := [], laidByText := true, laidKinds := [.data], laidTests := true, laidLooks := .later }
def ModelClonesUptoCardSaid : Prop := Claim7.holds Tryd.pinned (.plain (OpenSpec.upto modelClonesSpec)) modelClonesUptoCard
end Rows
end Go.Proofs.YtbiompmklijgoaaDoor
