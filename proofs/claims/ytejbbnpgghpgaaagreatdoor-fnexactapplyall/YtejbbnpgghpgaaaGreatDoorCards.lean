/-
  DERIVED. GIVEN WITH THE SEED: THE CARDS: each row of YtejbbnpgghpgaaaGreatDoorRows.lean that lists a variable, with what it lists TIED to the program's text (the seventh form; the later family's looks); each row that meets fmt, with fmt's text TOLD by the authors' own Lean function (tested against real Go, not proved from fmt's source: count such statements apart). THE CARD IS WHAT COUNTS. Prove the row's statement (the work); the ties are given (YtejbbnpgghpgaaaGreatDoorTie.lean); close each card by the builder's one call (the guide's Derived/Test/ToyasCard.lean, 'card_holds'). Laid BY PROGRAM, IN A SANDBOX (cutbox-door.mjs). By AI agents, Wed Nov 11 2026. No macro, syntax, notation, axiom, sorry.
-/
import Derived.Test.YtejbbnpgghpgaaaGreatDoorRows
import GoSem.ClaimSeven
namespace Go.Proofs.YtejbbnpgghpgaaaGreatDoor
namespace Rows

/-- THE TIED CARD OF 'laws.FnExactApplyOp'. -/
def fnExactApplyOpCard : Claim7 := { stood := { row := fnExactApplyOpRow, standIns := [], harness := (true, "b6d2278e993848310ff7faa8851009827e48f770d7936ffcccf0e2a9834cd44c"), looks := false }, kinds := [], alts := [], laidByText := true, laidKinds := [.data], laidTests := true, laidLooks := .later }
def FnExactApplyOpCardSaid : Prop := Claim7.holds Tryz.pinned (.plain (OpenSpec.ofChange fnExactApplyOpSpec)) fnExactApplyOpCard

/-- THE TIED CARD OF 'laws.FnExactApplyAll'. -/
def fnExactApplyAllCard : Claim7 := { stood := { row := fnExactApplyAllRow, standIns := [], harness := (true, "b6d2278e993848310ff7faa8851009827e48f770d7936ffcccf0e2a9834cd44c"), looks := false }, kinds := [], alts := [], laidByText := true, laidKinds := [.data], laidTests := true, laidLooks := .later }
def FnExactApplyAllCardSaid : Prop := Claim7.holds Tryz.pinned (.plain (OpenSpec.ofChange fnExactApplyAllSpec)) fnExactApplyAllCard

/-- THE TIED CARD OF 'laws.FnExactVaultFault'. -/
def fnExactVaultFaultCard : Claim7 := { stood := { row := fnExactVaultFaultRow, standIns := [], harness := (true, "b6d2278e993848310ff7faa8851009827e48f770d7936ffcccf0e2a9834cd44c"), looks := false }, kinds := [], alts := [], laidByText := true, laidKinds := [.data], laidTests := true, laidLooks := .later }
def FnExactVaultFaultCardSaid : Prop := Claim7.holds Tryz.pinned (.plain (OpenSpec.ofChange fnExactVaultFaultSpec)) fnExactVaultFaultCard

/-- THE TIED CARD OF 'laws.FnExactDoVault'. -/
def fnExactDoVaultCard : Claim7 := { stood := { row := fnExactDoVaultRow, standIns := [], harness := (true, "b6d2278e993848310ff7faa8851009827e48f770d7936ffcccf0e2a9834cd44c"), looks := false }, kinds := [], alts := [], laidByText := true, laidKinds := [.data], laidTests := true, laidLooks := .later }
def FnExactDoVaultCardSaid : Prop := Claim7.holds Tryz.pinned (.plain (OpenSpec.ofChange fnExactDoVaultSpec)) fnExactDoVaultCard

/-- THE TIED CARD OF 'laws.FnExactWriteVault'. -/
def fnExactWriteVaultCard : Claim7 := { stood := { row := fnExactWriteVaultRow, standIns := [], harness := (true, "b6d2278e993848310ff7faa8851009827e48f770d7936ffcccf0e2a9834cd44c"), looks := false }, kinds := [], alts := [], laidByText := true, laidKinds := [.data], laidTests := true, laidLooks := .later }
def FnExactWriteVaultCardSaid : Prop := Claim7.holds Tryz.pinned (.plain (OpenSpec.ofChange fnExactWriteVaultSpec)) fnExactWriteVaultCard

/-- THE TIED CARD OF 'laws.FnExactFlushVault'. -/
def fnExactFlushVaultCard : Claim7 := { stood := { row := fnExactFlushVaultRow, standIns := [], harness := (true, "b6d2278e993848310ff7faa8851009827e48f770d7936ffcccf0e2a9834cd44c"), looks := false }, kinds := [], alts := [], laidByText := true, laidKinds := [.data], laidTests := true, laidLooks := .later }
def FnExactFlushVaultCardSaid : Prop := Claim7.holds Tryz.pinned (.plain (OpenSpec.ofChange fnExactFlushVaultSpec)) fnExactFlushVaultCard

/-- THE TIED CARD OF 'laws.FnExactCrashVault'. -/
def fnExactCrashVaultCard : Claim7 := { stood := { row := fnExactCrashVaultRow, standIns := [], harness := (true, "b6d2278e993848310ff7faa8851009827e48f770d7936ffcccf0e2a9834cd44c"), looks := false }, kinds := [], alts := [], laidByText := true, laidKinds := [.data], laidTests := true, laidLooks := .later }
def FnExactCrashVaultCardSaid : Prop := Claim7.holds Tryz.pinned (.plain (OpenSpec.ofChange fnExactCrashVaultSpec)) fnExactCrashVaultCard

/-- THE TIED CARD OF 'laws.FnExactRecoverVault'. -/
def fnExactRecoverVaultCard : Claim7 := { stood := { row := fnExactRecoverVaultRow, standIns := [], harness := (true, "b6d2278e993848310ff7faa8851009827e48f770d7936ffcccf0e2a9834cd44c"), looks := false }, kinds := [], alts := [], laidByText := true, laidKinds := [.data], laidTests := true, laidLooks := .later }
def FnExactRecoverVaultCardSaid : Prop := Claim7.holds Tryz.pinned (.plain (OpenSpec.ofChange fnExactRecoverVaultSpec)) fnExactRecoverVaultCard

/-- THE TIED CARD OF 'laws.FnExactTidyVault'. -/
def fnExactTidyVaultCard : Claim7 := { stood := { row := fnExactTidyVaultRow, standIns := [], harness := (true, "b6d2278e993848310ff7faa8851009827e48f770d7936ffcccf0e2a9834cd44c"), looks := false }, kinds := [], alts := [], laidByText := true, laidKinds := [.data], laidTests := true, laidLooks := .later }
def FnExactTidyVaultCardSaid : Prop := Claim7.holds Tryz.pinned (.plain (OpenSpec.ofChange fnExactTidyVaultSpec)) fnExactTidyVaultCard

/-- THE SECOND FORM's CARD OF 'laws.FnExactApplyOp'. -/
def fnExactApplyOpUptoCard : Claim7 := { stood := { row := fnExactApplyOpUptoRow, standIns := [], harness := (true, "b6d2278e993848310ff7faa8851009827e48f770d7936ffcccf0e2a9834cd44c"), looks := false }, kinds := [], alts := [], laidByText := true, laidKinds := [.data], laidTests := true, laidLooks := .later }
def FnExactApplyOpUptoCardSaid : Prop := Claim7.holds Tryz.pinned (.plain (OpenSpec.upto fnExactApplyOpSpec)) fnExactApplyOpUptoCard

/-- THE SECOND FORM's CARD OF 'laws.FnExactApplyAll'. -/
def fnExactApplyAllUptoCard : Claim7 := { stood := { row := fnExactApplyAllUptoRow, standIns := [], harness := (true, "b6d2278e993848310ff7faa8851009827e48f770d7936ffcccf0e2a9834cd44c"), looks := false }, kinds := [], alts := [], laidByText := true, laidKinds := [.data], laidTests := true, laidLooks := .later }
def FnExactApplyAllUptoCardSaid : Prop := Claim7.holds Tryz.pinned (.plain (OpenSpec.upto fnExactApplyAllSpec)) fnExactApplyAllUptoCard

/-- THE SECOND FORM's CARD OF 'laws.FnExactVaultFault'. -/
def fnExactVaultFaultUptoCard : Claim7 := { stood := { row := fnExactVaultFaultUptoRow, standIns := [], harness := (true, "b6d2278e993848310ff7faa8851009827e48f770d7936ffcccf0e2a9834cd44c"), looks := false }, kinds := [], alts := [], laidByText := true, laidKinds := [.data], laidTests := true, laidLooks := .later }
def FnExactVaultFaultUptoCardSaid : Prop := Claim7.holds Tryz.pinned (.plain (OpenSpec.upto fnExactVaultFaultSpec)) fnExactVaultFaultUptoCard

/-- THE SECOND FORM's CARD OF 'laws.FnExactDoVault'. -/
def fnExactDoVaultUptoCard : Claim7 := { stood := { row := fnExactDoVaultUptoRow, standIns := [], harness := (true, "b6d2278e993848310ff7faa8851009827e48f770d7936ffcccf0e2a9834cd44c"), looks := false }, kinds := [], alts := [], laidByText := true, laidKinds := [.data], laidTests := true, laidLooks := .later }
def FnExactDoVaultUptoCardSaid : Prop := Claim7.holds Tryz.pinned (.plain (OpenSpec.upto fnExactDoVaultSpec)) fnExactDoVaultUptoCard

/-- THE SECOND FORM's CARD OF 'laws.FnExactWriteVault'. -/
def fnExactWriteVaultUptoCard : Claim7 := { stood := { row := fnExactWriteVaultUptoRow, standIns := [], harness := (true, "b6d2278e993848310ff7faa8851009827e48f770d7936ffcccf0e2a9834cd44c"), looks := false }, kinds := [], alts := [], laidByText := true, laidKinds := [.data], laidTests := true, laidLooks := .later }
def FnExactWriteVaultUptoCardSaid : Prop := Claim7.holds Tryz.pinned (.plain (OpenSpec.upto fnExactWriteVaultSpec)) fnExactWriteVaultUptoCard

/-- THE SECOND FORM's CARD OF 'laws.FnExactFlushVault'. -/
def fnExactFlushVaultUptoCard : Claim7 := { stood := { row := fnExactFlushVaultUptoRow, standIns := [], harness := (true, "b6d2278e993848310ff7faa8851009827e48f770d7936ffcccf0e2a9834cd44c"), looks := false }, kinds := [], alts := [], laidByText := true, laidKinds := [.data], laidTests := true, laidLooks := .later }
def FnExactFlushVaultUptoCardSaid : Prop := Claim7.holds Tryz.pinned (.plain (OpenSpec.upto fnExactFlushVaultSpec)) fnExactFlushVaultUptoCard

/-- THE SECOND FORM's CARD OF 'laws.FnExactCrashVault'. -/
def fnExactCrashVaultUptoCard : Claim7 := { stood := { row := fnExactCrashVaultUptoRow, standIns := [], harness := (true, "b6d2278e993848310ff7faa8851009827e48f770d7936ffcccf0e2a9834cd44c"), looks := false }, kinds := [], alts := [], laidByText := true, laidKinds := [.data], laidTests := true, laidLooks := .later }
def FnExactCrashVaultUptoCardSaid : Prop := Claim7.holds Tryz.pinned (.plain (OpenSpec.upto fnExactCrashVaultSpec)) fnExactCrashVaultUptoCard

/-- THE SECOND FORM's CARD OF 'laws.FnExactRecoverVault'. -/
def fnExactRecoverVaultUptoCard : Claim7 := { stood := { row := fnExactRecoverVaultUptoRow, standIns := [], harness := (true, "b6d2278e993848310ff7faa8851009827e48f770d7936ffcccf0e2a9834cd44c"), looks := false }, kinds := [], alts := [], laidByText := true, laidKinds := [.data], laidTests := true, laidLooks := .later }
def FnExactRecoverVaultUptoCardSaid : Prop := Claim7.holds Tryz.pinned (.plain (OpenSpec.upto fnExactRecoverVaultSpec)) fnExactRecoverVaultUptoCard

/-- THE SECOND FORM's CARD OF 'laws.FnExactTidyVault'. -/
def fnExactTidyVaultUptoCard : Claim7 := { stood := { row := fnExactTidyVaultUptoRow, standIns := [], harness := (true, "b6d2278e993848310ff7faa8851009827e48f770d7936ffcccf0e2a9834cd44c"), looks := false }, kinds := [], alts := [], laidByText := true, laidKinds := [.data], laidTests := true, laidLooks := .later }
def FnExactTidyVaultUptoCardSaid : Prop := Claim7.holds Tryz.pinned (.plain (OpenSpec.upto fnExactTidyVaultSpec)) fnExactTidyVaultUptoCard
end Rows
end Go.Proofs.YtejbbnpgghpgaaaGreatDoor
