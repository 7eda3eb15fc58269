/-
  No cell of these rows narrows 'for every input' (looked for: loops, veiled, ifaces, maps, wideKeys, modest, calm, conditions, laid).
  DERIVED. THE GIVEN ROWS OF THIS SEAT. 7 by the template 'for every input the law returns true; each argument reads behind the call as it read before'; 0 by the template 'total and deterministic' (their statements: YtmcdbhlpmlcjpaaTotals.lean).
  GIVEN WITH THE SEED: the statements are not yours to turn. If you find one false, say at which input.
  Laid BY PROGRAM, IN A SANDBOX (cutbox-rows.mjs): the forced cells as the released guide's own fill.sh prints them over the translation 46ba7c3e28592416… (all of the seat's roots in one cut). By AI agents, Wed Nov 11 2026. No macro, syntax, notation, axiom, sorry.
-/
import Derived.Test.YtmcdbhlpmlcjpaaChecked
import GoSem.Claim
import GoSem.ClaimJoined
import GoSem.ClaimMapViews
import Derived.JoinedTies
import Derived.KernelRfl
namespace Go.Proofs.Ytmcdbhlpmlcjpaa
/- THE CELL 'sum', in the pinned program and in every row, IS THE sha256 OF THE DUMP (.gsa) THAT YtmcdbhlpmlcjpaaProg.lean LOADS. Nothing in Lean hashes anything: it is a label: what it is worth is what the hold of that sum in a sandbox is worth. -/
noncomputable def Try.pinned : Pinned := { name := "ytmcdbhlpmlcjpaa", sum := "46ba7c3e28592416d068c95bf9c5d7ebefa35086a61be2d20c8ea44bdec544b4", checked := Try.checked }
namespace Rows
def none {H : Type} : Left H := { results := [], args := [] }

/-- 'laws.FnExactIdentityOf': WHATEVER THE INPUT: true; the input reads as it did. -/
def fnExactIdentityOfSpec : ChangeSpec := { name := "fnExactIdentityOf", fn := fun _ => fun
  | [d1, d2] => { results := [.lit (.bool true)], args := [d1, d2] }
  | _ => none }
def fnExactIdentityOfRow : OpenClaim := { program := "ytmcdbhlpmlcjpaa", sum := "46ba7c3e28592416d068c95bf9c5d7ebefa35086a61be2d20c8ea44bdec544b4", func := "loop.example/g01082/laws.FnExactIdentityOf", spec := "fnExactIdentityOf", unfollowed := true, recurses := true, apart := false }
def FnExactIdentityOfSaid : Prop := fnExactIdentityOfRow.holds Try.pinned (OpenSpec.ofChange fnExactIdentityOfSpec)

/-- ITS FALSE NEIGHBOUR: 'it returns false'. Refute it at one input. -/
def fnExactIdentityOfWrong : ChangeSpec := { name := "fnExactIdentityOf", fn := fun _ => fun
  | [d1, d2] => { results := [.lit (.bool false)], args := [d1, d2] }
  | _ => none }
def FnExactIdentityOfWrongFalsely : Prop := fnExactIdentityOfRow.holds Try.pinned (OpenSpec.ofChange fnExactIdentityOfWrong)

/-- 'laws.FnExactSubstitutionOf': WHATEVER THE INPUT: true; the input reads as it did. -/
def fnExactSubstitutionOfSpec : ChangeSpec := { name := "fnExactSubstitutionOf", fn := fun _ => fun
  | [d1, d2] => { results := [.lit (.bool true)], args := [d1, d2] }
  | _ => none }
def fnExactSubstitutionOfRow : OpenClaim := { program := "ytmcdbhlpmlcjpaa", sum := "46ba7c3e28592416d068c95bf9c5d7ebefa35086a61be2d20c8ea44bdec544b4", func := "loop.example/g01082/laws.FnExactSubstitutionOf", spec := "fnExactSubstitutionOf", unfollowed := true, recurses := true, apart := false }
def FnExactSubstitutionOfSaid : Prop := fnExactSubstitutionOfRow.holds Try.pinned (OpenSpec.ofChange fnExactSubstitutionOfSpec)

/-- ITS FALSE NEIGHBOUR: 'it returns false'. Refute it at one input. -/
def fnExactSubstitutionOfWrong : ChangeSpec := { name := "fnExactSubstitutionOf", fn := fun _ => fun
  | [d1, d2] => { results := [.lit (.bool false)], args := [d1, d2] }
  | _ => none }
def FnExactSubstitutionOfWrongFalsely : Prop := fnExactSubstitutionOfRow.holds Try.pinned (OpenSpec.ofChange fnExactSubstitutionOfWrong)

/-- 'laws.FnExactIonOf': WHATEVER THE INPUT: true; the input reads as it did. -/
def fnExactIonOfSpec : ChangeSpec := { name := "fnExactIonOf", fn := fun _ => fun
  | [d1, d2, d3] => { results := [.lit (.bool true)], args := [d1, d2, d3] }
  | _ => none }
def fnExactIonOfRow : OpenClaim := { program := "ytmcdbhlpmlcjpaa", sum := "46ba7c3e28592416d068c95bf9c5d7ebefa35086a61be2d20c8ea44bdec544b4", func := "loop.example/g01082/laws.FnExactIonOf", spec := "fnExactIonOf", unfollowed := true, recurses := true, apart := false }
def FnExactIonOfSaid : Prop := fnExactIonOfRow.holds Try.pinned (OpenSpec.ofChange fnExactIonOfSpec)

/-- ITS FALSE NEIGHBOUR: 'it returns false'. Refute it at one input. -/
def fnExactIonOfWrong : ChangeSpec := { name := "fnExactIonOf", fn := fun _ => fun
  | [d1, d2, d3] => { results := [.lit (.bool false)], args := [d1, d2, d3] }
  | _ => none }
def FnExactIonOfWrongFalsely : Prop := fnExactIonOfRow.holds Try.pinned (OpenSpec.ofChange fnExactIonOfWrong)

/-- 'laws.FnExactAtomOf': WHATEVER THE INPUT: true; the input reads as it did. -/
def fnExactAtomOfSpec : ChangeSpec := { name := "fnExactAtomOf", fn := fun _ => fun
  | [d1, d2, d3] => { results := [.lit (.bool true)], args := [d1, d2, d3] }
  | _ => none }
def fnExactAtomOfRow : OpenClaim := { program := "ytmcdbhlpmlcjpaa", sum := "46ba7c3e28592416d068c95bf9c5d7ebefa35086a61be2d20c8ea44bdec544b4", func := "loop.example/g01082/laws.FnExactAtomOf", spec := "fnExactAtomOf", unfollowed := true, recurses := true, apart := false }
def FnExactAtomOfSaid : Prop := fnExactAtomOfRow.holds Try.pinned (OpenSpec.ofChange fnExactAtomOfSpec)

/-- ITS FALSE NEIGHBOUR: 'it returns false'. Refute it at one input. -/
def fnExactAtomOfWrong : ChangeSpec := { name := "fnExactAtomOf", fn := fun _ => fun
  | [d1, d2, d3] => { results := [.lit (.bool false)], args := [d1, d2, d3] }
  | _ => none }
def FnExactAtomOfWrongFalsely : Prop := fnExactAtomOfRow.holds Try.pinned (OpenSpec.ofChange fnExactAtomOfWrong)

/-- 'laws.FnExactIsIdentity': WHATEVER THE INPUT: true; the input reads as it did. -/
def fnExactIsIdentitySpec : ChangeSpec := { name := "fnExactIsIdentity", fn := fun _ => fun
  | [d1, d2] => { results := [.lit (.bool true)], args := [d1, d2] }
  | _ => none }
def fnExactIsIdentityRow : OpenClaim := { program := "ytmcdbhlpmlcjpaa", sum := "46ba7c3e28592416d068c95bf9c5d7ebefa35086a61be2d20c8ea44bdec544b4", func := "loop.example/g01082/laws.FnExactIsIdentity", spec := "fnExactIsIdentity", unfollowed := true, recurses := true, apart := false }
def FnExactIsIdentitySaid : Prop := fnExactIsIdentityRow.holds Try.pinned (OpenSpec.ofChange fnExactIsIdentitySpec)

/-- ITS FALSE NEIGHBOUR: 'it returns false'. Refute it at one input. -/
def fnExactIsIdentityWrong : ChangeSpec := { name := "fnExactIsIdentity", fn := fun _ => fun
  | [d1, d2] => { results := [.lit (.bool false)], args := [d1, d2] }
  | _ => none }
def FnExactIsIdentityWrongFalsely : Prop := fnExactIsIdentityRow.holds Try.pinned (OpenSpec.ofChange fnExactIsIdentityWrong)

/-- 'laws.FnExactOpenName': WHATEVER THE INPUT: true; the input reads as it did. -/
def fnExactOpenNameSpec : ChangeSpec := { name := "fnExactOpenName", fn := fun _ => fun
  | [d1, d2, d3, d4] => { results := [.lit (.bool true)], args := [d1, d2, d3, d4] }
  | _ => none }
def fnExactOpenNameRow : OpenClaim := { program := "ytmcdbhlpmlcjpaa", sum := "46ba7c3e28592416d068c95bf9c5d7ebefa35086a61be2d20c8ea44bdec544b4", func := "loop.example/g01082/laws.FnExactOpenName", spec := "fnExactOpenName", unfollowed := true, recurses := true, apart := false }
def FnExactOpenNameSaid : Prop := fnExactOpenNameRow.holds Try.pinned (OpenSpec.ofChange fnExactOpenNameSpec)

/-- ITS FALSE NEIGHBOUR: 'it returns false'. Refute it at one input. -/
def fnExactOpenNameWrong : ChangeSpec := { name := "fnExactOpenName", fn := fun _ => fun
  | [d1, d2, d3, d4] => { results := [.lit (.bool false)], args := [d1, d2, d3, d4] }
  | _ => none }
def FnExactOpenNameWrongFalsely : Prop := fnExactOpenNameRow.holds Try.pinned (OpenSpec.ofChange fnExactOpenNameWrong)

/-- 'laws.FnExactPointsOf': WHATEVER THE INPUT: true; the input reads as it did. -/
def fnExactPointsOfSpec : ChangeSpec := { name := "fnExactPointsOf", fn := fun _ => fun
  | [d1, d2, d3] => { results := [.lit (.bool true)], args := [d1, d2, d3] }
  | _ => none }
def fnExactPointsOfRow : OpenClaim := { program := "ytmcdbhlpmlcjpaa", sum := "46ba7c3e28592416d068c95bf9c5d7ebefa35086a61be2d20c8ea44bdec544b4", func := "loop.example/g01082/laws.FnExactPointsOf", spec := "fnExactPointsOf", unfollowed := true, recurses := true, apart := false }
def FnExactPointsOfSaid : Prop := fnExactPointsOfRow.holds Try.pinned (OpenSpec.ofChange fnExactPointsOfSpec)

/-- ITS FALSE NEIGHBOUR: 'it returns false'. Refute it at one input. -/
def fnExactPointsOfWrong : ChangeSpec := { name := "fnExactPointsOf", fn := fun _ => fun
  | [d1, d2, d3] => { results := [.lit (.bool false)], args := [d1, d2, d3] }
  | _ => none }
def FnExactPointsOfWrongFalsely : Prop := fnExactPointsOfRow.holds Try.pinned (OpenSpec.ofChange fnExactPointsOfWrong)

/- THE SECOND FORM. 'bulk': how many values and letters a reading holds, each counted each time it is reached (what is shared counts as often as it is met; a slice's spare places count too). A statement '..UptoSaid' is the law's where the arguments, and the package variables that the reading takes, are together of bulk at most 1048576: NARROWER than '..Said'. Prove '..Said' where nothing that the law and all that it calls make is longer than what came in: it says more and counts as full. Else prove '..UptoSaid'. A law counts once. -/
mutual
def uptoBulk {H : Type} : DataW H → Nat
  | .lit (.string bytes) => bytes.length + 1
  | .lit _ => 1
  | .nil => 1
  | .ptr d => uptoBulk d + 1
  | .slice elems spare => uptoBulkAll elems + uptoBulkAll spare + 1
  | .agg parts => uptoBulkAll parts + 1
  | .iface _ d => uptoBulk d + 1
  | .map entries => uptoBulkEntries entries + 1
  | .held _ => 1
def uptoBulkAll {H : Type} : List (DataW H) → Nat
  | [] => 0
  | d :: r => uptoBulk d + uptoBulkAll r
def uptoBulkEntries {H : Type} : List (Lit × DataW H) → Nat
  | [] => 0
  | x :: r => uptoBulkEntry x + uptoBulkEntries r
def uptoBulkEntry {H : Type} : Lit × DataW H → Nat
  | (.string bytes, d) => bytes.length + uptoBulk d + 1
  | (_, d) => uptoBulk d + 1
 end
def uptoSmall : (H : Type) → List (DataW H) → Bool := fun _ ds => decide (uptoBulkAll ds ≤ 1048576)
def OpenSpec.upto (s : _root_.Go.ChangeSpec) : _root_.Go.OpenSpec := { _root_.Go.OpenSpec.ofChange s with cond := some uptoSmall }

/-- 'laws.FnExactIdentityOf', WHERE WHAT IT READS IS OF BULK AT MOST 1048576: true; the input reads as it did. -/
def fnExactIdentityOfUptoRow : OpenClaim := { program := "ytmcdbhlpmlcjpaa", sum := "46ba7c3e28592416d068c95bf9c5d7ebefa35086a61be2d20c8ea44bdec544b4", func := "loop.example/g01082/laws.FnExactIdentityOf", spec := "fnExactIdentityOf", unfollowed := true, recurses := true, apart := false, narrowed := true }
def FnExactIdentityOfUptoSaid : Prop := fnExactIdentityOfUptoRow.holds Try.pinned (OpenSpec.upto fnExactIdentityOfSpec)

/-- 'laws.FnExactSubstitutionOf', WHERE WHAT IT READS IS OF BULK AT MOST 1048576: true; the input reads as it did. -/
def fnExactSubstitutionOfUptoRow : OpenClaim := { program := "ytmcdbhlpmlcjpaa", sum := "46ba7c3e28592416d068c95bf9c5d7ebefa35086a61be2d20c8ea44bdec544b4", func := "loop.example/g01082/laws.FnExactSubstitutionOf", spec := "fnExactSubstitutionOf", unfollowed := true, recurses := true, apart := false, narrowed := true }
def FnExactSubstitutionOfUptoSaid : Prop := fnExactSubstitutionOfUptoRow.holds Try.pinned (OpenSpec.upto fnExactSubstitutionOfSpec)

/-- 'laws.FnExactIonOf', WHERE WHAT IT READS IS OF BULK AT MOST 1048576: true; the input reads as it did. -/
def fnExactIonOfUptoRow : OpenClaim := { program := "ytmcdbhlpmlcjpaa", sum := "46ba7c3e28592416d068c95bf9c5d7ebefa35086a61be2d20c8ea44bdec544b4", func := "loop.example/g01082/laws.FnExactIonOf", spec := "fnExactIonOf", unfollowed := true, recurses := true, apart := false, narrowed := true }
def FnExactIonOfUptoSaid : Prop := fnExactIonOfUptoRow.holds Try.pinned (OpenSpec.upto fnExactIonOfSpec)

/-- 'laws.FnExactAtomOf', WHERE WHAT IT READS IS OF BULK AT MOST 1048576: true; the input reads as it did. -/
def fnExactAtomOfUptoRow : OpenClaim := { program := "ytmcdbhlpmlcjpaa", sum := "46ba7c3e28592416d068c95bf9c5d7ebefa35086a61be2d20c8ea44bdec544b4", func := "loop.example/g01082/laws.FnExactAtomOf", spec := "fnExactAtomOf", unfollowed := true, recurses := true, apart := false, narrowed := true }
def FnExactAtomOfUptoSaid : Prop := fnExactAtomOfUptoRow.holds Try.pinned (OpenSpec.upto fnExactAtomOfSpec)

/-- 'laws.FnExactIsIdentity', WHERE WHAT IT READS IS OF BULK AT MOST 1048576: true; the input reads as it did. -/
def fnExactIsIdentityUptoRow : OpenClaim := { program := "ytmcdbhlpmlcjpaa", sum := "46ba7c3e28592416d068c95bf9c5d7ebefa35086a61be2d20c8ea44bdec544b4", func := "loop.example/g01082/laws.FnExactIsIdentity", spec := "fnExactIsIdentity", unfollowed := true, recurses := true, apart := false, narrowed := true }
def FnExactIsIdentityUptoSaid : Prop := fnExactIsIdentityUptoRow.holds Try.pinned (OpenSpec.upto fnExactIsIdentitySpec)

/-- 'laws.FnExactOpenName', WHERE WHAT IT READS IS OF BULK AT MOST 1048576: true; the input reads as it did. -/
def fnExactOpenNameUptoRow : OpenClaim := { program := "ytmcdbhlpmlcjpaa", sum := "46ba7c3e28592416d068c95bf9c5d7ebefa35086a61be2d20c8ea44bdec544b4", func := "loop.example/g01082/laws.FnExactOpenName", spec := "fnExactOpenName", unfollowed := true, recurses := true, apart := false, narrowed := true }
def FnExactOpenNameUptoSaid : Prop := fnExactOpenNameUptoRow.holds Try.pinned (OpenSpec.upto fnExactOpenNameSpec)

/-- 'laws.FnExactPointsOf', WHERE WHAT IT READS IS OF BULK AT MOST 1048576: true; the input reads as it did. -/
def fnExactPointsOfUptoRow : OpenClaim := { program := "ytmcdbhlpmlcjpaa", sum := "46ba7c3e28592416d068c95bf9c5d7ebefa35086a61be2d20c8ea44bdec544b4", func := "loop.example/g01082/laws.FnExactPointsOf", spec := "fnExactPointsOf", unfollowed := true, recurses := true, apart := false, narrowed := true }
def FnExactPointsOfUptoSaid : Prop := fnExactPointsOfUptoRow.holds Try.pinned (OpenSpec.upto fnExactPointsOfSpec)

end Rows
end Go.Proofs.Ytmcdbhlpmlcjpaa
