/-
  DERIVED. GIVEN WITH THE SEED: THE CARDS: each row of YtighpjhipgobiaaGreatDoorRows.lean that lists a variable, with what it lists TIED to the program's text (the seventh form; the later family's looks); each row that meets fmt, with fmt's text TOLD by the authors' own Lean function (tested against real Go, not proved from fmt's source: count such statements apart). THE CARD IS WHAT COUNTS. Prove the row's statement (the work); the ties are given (YtighpjhipgobiaaGreatDoorTie.lean); close each card by the builder's one call (the guide's Derived/Test/ToyasCard.lean, 'card_holds'). Laid BY PROGRAM, IN A SANDBOX (cutbox-door.mjs). By AI agents, Wed Nov 11 2026. No macro, syntax, notation, axiom, sorry.
-/
import Derived.Test.YtighpjhipgobiaaGreatDoorRows
import GoSem.ClaimSeven
namespace Go.Proofs.YtighpjhipgobiaaGreatDoor
namespace Rows

/-- THE TIED CARD OF 'dancestudiolaw21.BalanceStable'. -/
def balanceStableCard : Claim7 := { stood := { row := balanceStableRow, standIns := [], harness := (true, "630ff5476beebe4567d987f3ad1edb6045677f1c8876f1f42542516d8969eccf"), looks := false }, kinds := [], alts := [], laidByText := true, laidKinds := [.data, .data, .data], laidTests := true, laidLooks := .later }
def BalanceStableCardSaid : Prop := Claim7.holds Tryz.pinned (.plain (OpenSpec.ofChange balanceStableSpec)) balanceStableCard

/-- THE TIED CARD OF 'dancestudiolaw21.BalanceFirst'. -/
def balanceFirstCard : Claim7 := { stood := { row := balanceFirstRow, standIns := [], harness := (true, "630ff5476beebe4567d987f3ad1edb6045677f1c8876f1f42542516d8969eccf"), looks := false }, kinds := [], alts := [], laidByText := true, laidKinds := [.data, .data, .data], laidTests := true, laidLooks := .later }
def BalanceFirstCardSaid : Prop := Claim7.holds Tryz.pinned (.plain (OpenSpec.ofChange balanceFirstSpec)) balanceFirstCard

/-- THE SECOND FORM's CARD OF 'dancestudiolaw21.BalanceStable'. -/
def balanceStableUptoCard : Claim7 := { stood := { row := balanceStableUptoRow, standIns := [], harness := (true, "630ff5476beebe4567d987f3ad1edb6045677f1c8876f1f42542516d8969eccf"), looks := false }, kinds := [], alts := [], laidByText := true, laidKinds := [.data, .data, .data], laidTests := true, laidLooks := .later }
def BalanceStableUptoCardSaid : Prop := Claim7.holds Tryz.pinned (.plain (OpenSpec.upto balanceStableSpec)) balanceStableUptoCard

/-- THE SECOND FORM's CARD OF 'dancestudiolaw21.BalanceFirst'. -/
def balanceFirstUptoCard : Claim7 := { stood := { row := balanceFirstUptoRow, standIns := [], harness := (true, "630ff5476beebe4567d987f3ad1edb6045677f1c8876f1f42542516d8969eccf"), looks := false }, kinds := [], alts := [], laidByText := true, laidKinds := [.data, .data, .data], laidTests := true, laidLooks := .later }
def BalanceFirstUptoCardSaid : Prop := Claim7.holds Tryz.pinned (.plain (OpenSpec.upto balanceFirstSpec)) balanceFirstUptoCard
end Rows
end Go.Proofs.YtighpjhipgobiaaGreatDoor
