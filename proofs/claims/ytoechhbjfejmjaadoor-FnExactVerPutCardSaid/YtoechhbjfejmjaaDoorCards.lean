/-
  DERIVED. GIVEN WITH THE SEED: THE CARDS: each row of YtoechhbjfejmjaaDoorRows.lean that lists a variable, with what it lists TIED to the program's text (the seventh form; the later family's looks); each row that meets fmt, with fmt's text TOLD by the authors' own Lean function (tested against real Go, not proved from fmt's source: count such statements apart). THE CARD IS WHAT COUNTS. Prove the row's statement (the work); the ties are given (YtoechhbjfejmjaaDoorTie.lean); close each card by the builder's one call (the guide's Derived/Test/ToyasCard.lean, 'card_holds'). Laid BY PROGRAM, IN A SANDBOX (cutbox-door.mjs). By AI agents, Wed Nov 11 2026. No macro, syntax, notation, axiom, sorry.
-/
import Derived.Test.YtoechhbjfejmjaaDoorRows
import GoSem.ClaimSeven
namespace Go.Proofs.YtoechhbjfejmjaaDoor
namespace Rows

/-- THE TIED CARD OF 'laws.FnExactVerPut'. -/
def fnExactVerPutCard : Claim7 := { stood := { row := fnExactVerPutRow, standIns := [], harness := (true, "967cb751bef1b7079015ca3c7bb4f2a23bf11e7901829ebdd0c0fccc2fe922a2"), looks := true }, kinds := [], alts := [], laidByText := true, laidKinds := [.data, .data, .data], laidTests := true, laidLooks := .later }
def FnExactVerPutCardSaid : Prop := Claim7.holds Tryd.pinned (.plain (OpenSpec.ofChange fnExactVerPutSpec)) fnExactVerPutCard

/-- THE TIED CARD OF 'laws.FnExactVerGet'. -/
def fnExactVerGetCard : Claim7 := { stood := { row := fnExactVerGetRow, standIns := [], harness := (true, "967cb751bef1b7079015ca3c7bb4f2a23bf11e7901829ebdd0c0fccc2fe922a2"), looks := true }, kinds := [], alts := [], laidByText := true, laidKinds := [.data, .data, .data, .data, .sentinel, .sentinel, .pinned], laidTests := true, laidLooks := .later }
def FnExactVerGetCardSaid : Prop := Claim7.holds Tryd.pinned (.plain (OpenSpec.ofChange fnExactVerGetSpec)) fnExactVerGetCard

/-- THE SECOND FORM's CARD OF 'laws.FnExactVerPut'. -/
def fnExactVerPutUptoCard : Claim7 := { stood := { row := fnExactVerPutUptoRow, standIns := [], harness := (true, "967cb751bef1b7079015ca3c7bb4f2a23bf11e7901829ebdd0c0fccc2fe922a2"), looks := true }, kinds := [], alts := [], laidByText := true, laidKinds := [.data, .data, .data], laidTests := true, laidLooks := .later }
def FnExactVerPutUptoCardSaid : Prop := Claim7.holds Tryd.pinned (.plain (OpenSpec.upto fnExactVerPutSpec)) fnExactVerPutUptoCard

/-- THE SECOND FORM's CARD OF 'laws.FnExactVerGet'. -/
def fnExactVerGetUptoCard : Claim7 := { stood := { row := fnExactVerGetUptoRow, standIns := [], harness := (true, "967cb751bef1b7079015ca3c7bb4f2a23bf11e7901829ebdd0c0fccc2fe922a2"), looks := true }, kinds := [], alts := [], laidByText := true, laidKinds := [.data, .data, .data, .data, .sentinel, .sentinel, .pinned], laidTests := true, laidLooks := .later }
def FnExactVerGetUptoCardSaid : Prop := Claim7.holds Tryd.pinned (.plain (OpenSpec.upto fnExactVerGetSpec)) fnExactVerGetUptoCard
end Rows
end Go.Proofs.YtoechhbjfejmjaaDoor
