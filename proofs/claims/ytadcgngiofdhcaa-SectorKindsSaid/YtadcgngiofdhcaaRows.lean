/-
  No cell of these rows narrows 'for every input' (looked for: loops, veiled, ifaces, maps, wideKeys, modest, calm, conditions, laid).
  DERIVED. THE GIVEN ROWS OF THIS SEAT. 3 by the template 'for every input the law returns true; each argument reads behind the call as it read before'; 0 by the template 'total and deterministic' (their statements: YtadcgngiofdhcaaTotals.lean).
  GIVEN WITH THE SEED: the statements are not yours to turn. If you find one false, say at which input.
  Laid BY PROGRAM, IN A SANDBOX (cutbox-rows.mjs): the forced cells as the released guide's own fill.sh prints them over the translation 563803108551887d… (all of the seat's roots in one cut). By AI agents, Wed Nov 11 2026. No macro, syntax, notation, axiom, sorry.
-/
import Derived.Test.YtadcgngiofdhcaaChecked
import GoSem.Claim
import GoSem.ClaimJoined
import GoSem.ClaimMapViews
import Derived.JoinedTies
import Derived.KernelRfl
namespace Go.Proofs.Ytadcgngiofdhcaa
/- THE CELL 'sum', in the pinned program and in every row, IS THE sha256 OF THE DUMP (.gsa) THAT YtadcgngiofdhcaaProg.lean LOADS. Nothing in Lean hashes anything: it is a label: what it is worth is what the hold of that sum in a sandbox is worth. -/
noncomputable def Try.pinned : Pinned := { name := "ytadcgngiofdhcaa", sum := "563803108551887d16ae0e2a150c968f7105ece43f87dc54cdff68e7acd525b5", checked := Try.checked }
namespace Rows
def none {H : Type} : Left H := { results := [], args := [] }

/-- 'largesselaw14.SectorKinds': WHATEVER THE INPUT: true; the input reads as it did. -/
def sectorKindsSpec : ChangeSpec := { name := "sectorKinds", fn := fun _ => fun
  | [d1, d2] => { results := [.lit (.bool true)], args := [d1, d2] }
  | _ => none }
def sectorKindsRow : OpenClaim := { program := "ytadcgngiofdhcaa", sum := "563803108551887d16ae0e2a150c968f7105ece43f87dc54cdff68e7acd525b5", func := "largesse/largesselaw14.SectorKinds", spec := "sectorKinds", unfollowed := true, recurses := true, apart := false }
def SectorKindsSaid : Prop := sectorKindsRow.holds Try.pinned (OpenSpec.ofChange sectorKindsSpec)

/-- ITS FALSE NEIGHBOUR: 'it returns false'. Refute it at one input. -/
def sectorKindsWrong : ChangeSpec := { name := "sectorKinds", fn := fun _ => fun
  | [d1, d2] => { results := [.lit (.bool false)], args := [d1, d2] }
  | _ => none }
def SectorKindsWrongFalsely : Prop := sectorKindsRow.holds Try.pinned (OpenSpec.ofChange sectorKindsWrong)

/-- 'largesselaw14.SectorShares': WHATEVER THE INPUT: true; the input reads as it did. -/
def sectorSharesSpec : ChangeSpec := { name := "sectorShares", fn := fun _ => fun
  | [d1, d2, d3, d4, d5, d6, d7] => { results := [.lit (.bool true)], args := [d1, d2, d3, d4, d5, d6, d7] }
  | _ => none }
def sectorSharesRow : OpenClaim := { program := "ytadcgngiofdhcaa", sum := "563803108551887d16ae0e2a150c968f7105ece43f87dc54cdff68e7acd525b5", func := "largesse/largesselaw14.SectorShares", spec := "sectorShares", unfollowed := true, recurses := true, apart := false }
def SectorSharesSaid : Prop := sectorSharesRow.holds Try.pinned (OpenSpec.ofChange sectorSharesSpec)

/-- ITS FALSE NEIGHBOUR: 'it returns false'. Refute it at one input. -/
def sectorSharesWrong : ChangeSpec := { name := "sectorShares", fn := fun _ => fun
  | [d1, d2, d3, d4, d5, d6, d7] => { results := [.lit (.bool false)], args := [d1, d2, d3, d4, d5, d6, d7] }
  | _ => none }
def SectorSharesWrongFalsely : Prop := sectorSharesRow.holds Try.pinned (OpenSpec.ofChange sectorSharesWrong)

/-- 'largesselaw14.SectorCommits': WHATEVER THE INPUT: true; the input reads as it did. -/
def sectorCommitsSpec : ChangeSpec := { name := "sectorCommits", fn := fun _ => fun
  | [d1, d2, d3, d4, d5] => { results := [.lit (.bool true)], args := [d1, d2, d3, d4, d5] }
  | _ => none }
def sectorCommitsRow : OpenClaim := { program := "ytadcgngiofdhcaa", sum := "563803108551887d16ae0e2a150c968f7105ece43f87dc54cdff68e7acd525b5", func := "largesse/largesselaw14.SectorCommits", spec := "sectorCommits", unfollowed := true, recurses := true, apart := false }
def SectorCommitsSaid : Prop := sectorCommitsRow.holds Try.pinned (OpenSpec.ofChange sectorCommitsSpec)

/-- ITS FALSE NEIGHBOUR: 'it returns false'. Refute it at one input. -/
def sectorCommitsWrong : ChangeSpec := { name := "sectorCommits", fn := fun _ => fun
  | [d1, d2, d3, d4, d5] => { results := [.lit (.bool false)], args := [d1, d2, d3, d4, d5] }
  | _ => none }
def SectorCommitsWrongFalsely : Prop := sectorCommitsRow.holds Try.pinned (OpenSpec.ofChange sectorCommitsWrong)

/- THE SECOND FORM. 'bulk': how many values and letters a reading holds, each counted each time it is reached (what is shared counts as often as it is met; a slice's spare places count too). A statement '..UptoSaid' is the law's where the arguments, and the package variables that the reading takes, are together of bulk at most 1048576: NARROWER than '..Said'. Prove '..Said' where nothing that the law and all that it calls make is longer than what came in: it says more and counts as full. Else prove '..UptoSaid'. A law counts once. -/
mutual
def uptoBulk {H : Type} : DataW H → Nat
  | .lit (.string bytes) => bytes.length + 1
  | .lit _ => 1
  | .nil => 1
  | .ptr d => uptoBulk d + 1
  | .slice elems spare => uptoBulkAll elems + uptoBulkAll spare + 1
  | .agg parts => uptoBulkAll parts + 1
  | .iface _ d => uptoBulk d + 1
  | .map entries => uptoBulkEntries entries + 1
  | .held _ => 1
def uptoBulkAll {H : Type} : List (DataW H) → Nat
  | [] => 0
  | d :: r => uptoBulk d + uptoBulkAll r
def uptoBulkEntries {H : Type} : List (Lit × DataW H) → Nat
  | [] => 0
  | x :: r => uptoBulkEntry x + uptoBulkEntries r
def uptoBulkEntry {H : Type} : Lit × DataW H → Nat
  | (.string bytes, d) => bytes.length + uptoBulk d + 1
  | (_, d) => uptoBulk d + 1
 end
def uptoSmall : (H : Type) → List (DataW H) → Bool := fun _ ds => decide (uptoBulkAll ds ≤ 1048576)
def OpenSpec.upto (s : _root_.Go.ChangeSpec) : _root_.Go.OpenSpec := { _root_.Go.OpenSpec.ofChange s with cond := some uptoSmall }

/-- 'largesselaw14.SectorKinds', WHERE WHAT IT READS IS OF BULK AT MOST 1048576: true; the input reads as it did. -/
def sectorKindsUptoRow : OpenClaim := { program := "ytadcgngiofdhcaa", sum := "563803108551887d16ae0e2a150c968f7105ece43f87dc54cdff68e7acd525b5", func := "largesse/largesselaw14.SectorKinds", spec := "sectorKinds", unfollowed := true, recurses := true, apart := false, narrowed := true }
def SectorKindsUptoSaid : Prop := sectorKindsUptoRow.holds Try.pinned (OpenSpec.upto sectorKindsSpec)

/-- 'largesselaw14.SectorShares', WHERE WHAT IT READS IS OF BULK AT MOST 1048576: true; the input reads as it did. -/
def sectorSharesUptoRow : OpenClaim := { program := "ytadcgngiofdhcaa", sum := "563803108551887d16ae0e2a150c968f7105ece43f87dc54cdff68e7acd525b5", func := "largesse/largesselaw14.SectorShares", spec := "sectorShares", unfollowed := true, recurses := true, apart := false, narrowed := true }
def SectorSharesUptoSaid : Prop := sectorSharesUptoRow.holds Try.pinned (OpenSpec.upto sectorSharesSpec)

/-- 'largesselaw14.SectorCommits', WHERE WHAT IT READS IS OF BULK AT MOST 1048576: true; the input reads as it did. -/
def sectorCommitsUptoRow : OpenClaim := { program := "ytadcgngiofdhcaa", sum := "563803108551887d16ae0e2a150c968f7105ece43f87dc54cdff68e7acd525b5", func := "largesse/largesselaw14.SectorCommits", spec := "sectorCommits", unfollowed := true, recurses := true, apart := false, narrowed := true }
def SectorCommitsUptoSaid : Prop := sectorCommitsUptoRow.holds Try.pinned (OpenSpec.upto sectorCommitsSpec)

end Rows
end Go.Proofs.Ytadcgngiofdhcaa
