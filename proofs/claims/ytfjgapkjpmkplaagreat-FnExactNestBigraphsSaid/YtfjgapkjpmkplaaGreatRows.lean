/-
  No cell of these rows narrows 'for every input' (looked for: loops, veiled, ifaces, maps, wideKeys, modest, calm, conditions, laid).
  DERIVED. THE GIVEN ROWS OF THIS SEAT. 11 by the template 'for every input the law returns true; each argument reads behind the call as it read before'; 0 by the template 'total and deterministic' (their statements: YtfjgapkjpmkplaaGreatTotals.lean).
  GIVEN WITH THE SEED: the statements are not yours to turn. If you find one false, say at which input.
  Laid BY PROGRAM, IN A SANDBOX (cutbox-rows.mjs): the forced cells as the released guide's own fill.sh prints them over the translation 426680c4002cd838… (all of the seat's roots in one cut). By AI agents, Wed Nov 11 2026. No macro, syntax, notation, axiom, sorry.
-/
import Derived.Test.YtfjgapkjpmkplaaGreatChecked
import GoSem.Claim
import GoSem.ClaimJoined
import GoSem.ClaimMapViews
import Derived.JoinedTies
import Derived.KernelRfl
namespace Go.Proofs.YtfjgapkjpmkplaaGreat
/- THE CELL 'sum', in the pinned program and in every row, IS THE sha256 OF THE DUMP (.gsa) THAT YtfjgapkjpmkplaaGreatProg.lean LOADS. Nothing in Lean hashes anything: it is a label: what it is worth is what the hold of that sum in a sandbox is worth. -/
noncomputable def Tryz.pinned : Pinned := { name := "ytfjgapkjpmkplaagreat", sum := "426680c4002cd838923ea74b14a2ade053aac8db99a734c6ce40839d60174366", checked := Tryz.checked }
namespace Rows
def none {H : Type} : Left H := { results := [], args := [] }

/-- 'laws.FnExactInverseRule': WHATEVER THE INPUT: true; the input reads as it did. -/
def fnExactInverseRuleSpec : ChangeSpec := { name := "fnExactInverseRule", fn := fun _ => fun
  | [d1, d2] => { results := [.lit (.bool true)], args := [d1, d2] }
  | _ => none }
def fnExactInverseRuleRow : OpenClaim := { program := "ytfjgapkjpmkplaagreat", sum := "426680c4002cd838923ea74b14a2ade053aac8db99a734c6ce40839d60174366", func := "loop.example/g01082/laws.FnExactInverseRule", spec := "fnExactInverseRule", unfollowed := true, recurses := true, apart := false }
def FnExactInverseRuleSaid : Prop := fnExactInverseRuleRow.holds Tryz.pinned (OpenSpec.ofChange fnExactInverseRuleSpec)

/-- ITS FALSE NEIGHBOUR: 'it returns false'. Refute it at one input. -/
def fnExactInverseRuleWrong : ChangeSpec := { name := "fnExactInverseRule", fn := fun _ => fun
  | [d1, d2] => { results := [.lit (.bool false)], args := [d1, d2] }
  | _ => none }
def FnExactInverseRuleWrongFalsely : Prop := fnExactInverseRuleRow.holds Tryz.pinned (OpenSpec.ofChange fnExactInverseRuleWrong)

/-- 'laws.FnExactInstanceOf': WHATEVER THE INPUT: true; the input reads as it did. -/
def fnExactInstanceOfSpec : ChangeSpec := { name := "fnExactInstanceOf", fn := fun _ => fun
  | [d1, d2, d3] => { results := [.lit (.bool true)], args := [d1, d2, d3] }
  | _ => none }
def fnExactInstanceOfRow : OpenClaim := { program := "ytfjgapkjpmkplaagreat", sum := "426680c4002cd838923ea74b14a2ade053aac8db99a734c6ce40839d60174366", func := "loop.example/g01082/laws.FnExactInstanceOf", spec := "fnExactInstanceOf", unfollowed := true, recurses := true, apart := false }
def FnExactInstanceOfSaid : Prop := fnExactInstanceOfRow.holds Tryz.pinned (OpenSpec.ofChange fnExactInstanceOfSpec)

/-- ITS FALSE NEIGHBOUR: 'it returns false'. Refute it at one input. -/
def fnExactInstanceOfWrong : ChangeSpec := { name := "fnExactInstanceOf", fn := fun _ => fun
  | [d1, d2, d3] => { results := [.lit (.bool false)], args := [d1, d2, d3] }
  | _ => none }
def FnExactInstanceOfWrongFalsely : Prop := fnExactInstanceOfRow.holds Tryz.pinned (OpenSpec.ofChange fnExactInstanceOfWrong)

/-- 'laws.FnExactInverseOf': WHATEVER THE INPUT: true; the input reads as it did. -/
def fnExactInverseOfSpec : ChangeSpec := { name := "fnExactInverseOf", fn := fun _ => fun
  | [d1, d2] => { results := [.lit (.bool true)], args := [d1, d2] }
  | _ => none }
def fnExactInverseOfRow : OpenClaim := { program := "ytfjgapkjpmkplaagreat", sum := "426680c4002cd838923ea74b14a2ade053aac8db99a734c6ce40839d60174366", func := "loop.example/g01082/laws.FnExactInverseOf", spec := "fnExactInverseOf", unfollowed := true, recurses := true, apart := false }
def FnExactInverseOfSaid : Prop := fnExactInverseOfRow.holds Tryz.pinned (OpenSpec.ofChange fnExactInverseOfSpec)

/-- ITS FALSE NEIGHBOUR: 'it returns false'. Refute it at one input. -/
def fnExactInverseOfWrong : ChangeSpec := { name := "fnExactInverseOf", fn := fun _ => fun
  | [d1, d2] => { results := [.lit (.bool false)], args := [d1, d2] }
  | _ => none }
def FnExactInverseOfWrongFalsely : Prop := fnExactInverseOfRow.holds Tryz.pinned (OpenSpec.ofChange fnExactInverseOfWrong)

/-- 'laws.FnExactComposeBigraphs': WHATEVER THE INPUT: true; the input reads as it did. -/
def fnExactComposeBigraphsSpec : ChangeSpec := { name := "fnExactComposeBigraphs", fn := fun _ => fun
  | [d1, d2, d3] => { results := [.lit (.bool true)], args := [d1, d2, d3] }
  | _ => none }
def fnExactComposeBigraphsRow : OpenClaim := { program := "ytfjgapkjpmkplaagreat", sum := "426680c4002cd838923ea74b14a2ade053aac8db99a734c6ce40839d60174366", func := "loop.example/g01082/laws.FnExactComposeBigraphs", spec := "fnExactComposeBigraphs", unfollowed := true, recurses := true, apart := false }
def FnExactComposeBigraphsSaid : Prop := fnExactComposeBigraphsRow.holds Tryz.pinned (OpenSpec.ofChange fnExactComposeBigraphsSpec)

/-- ITS FALSE NEIGHBOUR: 'it returns false'. Refute it at one input. -/
def fnExactComposeBigraphsWrong : ChangeSpec := { name := "fnExactComposeBigraphs", fn := fun _ => fun
  | [d1, d2, d3] => { results := [.lit (.bool false)], args := [d1, d2, d3] }
  | _ => none }
def FnExactComposeBigraphsWrongFalsely : Prop := fnExactComposeBigraphsRow.holds Tryz.pinned (OpenSpec.ofChange fnExactComposeBigraphsWrong)

/-- 'laws.FnExactComposeAll': WHATEVER THE INPUT: true; the input reads as it did. -/
def fnExactComposeAllSpec : ChangeSpec := { name := "fnExactComposeAll", fn := fun _ => fun
  | [d1, d2] => { results := [.lit (.bool true)], args := [d1, d2] }
  | _ => none }
def fnExactComposeAllRow : OpenClaim := { program := "ytfjgapkjpmkplaagreat", sum := "426680c4002cd838923ea74b14a2ade053aac8db99a734c6ce40839d60174366", func := "loop.example/g01082/laws.FnExactComposeAll", spec := "fnExactComposeAll", unfollowed := true, recurses := true, apart := false }
def FnExactComposeAllSaid : Prop := fnExactComposeAllRow.holds Tryz.pinned (OpenSpec.ofChange fnExactComposeAllSpec)

/-- ITS FALSE NEIGHBOUR: 'it returns false'. Refute it at one input. -/
def fnExactComposeAllWrong : ChangeSpec := { name := "fnExactComposeAll", fn := fun _ => fun
  | [d1, d2] => { results := [.lit (.bool false)], args := [d1, d2] }
  | _ => none }
def FnExactComposeAllWrongFalsely : Prop := fnExactComposeAllRow.holds Tryz.pinned (OpenSpec.ofChange fnExactComposeAllWrong)

/-- 'laws.FnExactRecomposeMatch': WHATEVER THE INPUT: true; the input reads as it did. -/
def fnExactRecomposeMatchSpec : ChangeSpec := { name := "fnExactRecomposeMatch", fn := fun _ => fun
  | [d1, d2, d3, d4] => { results := [.lit (.bool true)], args := [d1, d2, d3, d4] }
  | _ => none }
def fnExactRecomposeMatchRow : OpenClaim := { program := "ytfjgapkjpmkplaagreat", sum := "426680c4002cd838923ea74b14a2ade053aac8db99a734c6ce40839d60174366", func := "loop.example/g01082/laws.FnExactRecomposeMatch", spec := "fnExactRecomposeMatch", unfollowed := true, recurses := true, apart := false }
def FnExactRecomposeMatchSaid : Prop := fnExactRecomposeMatchRow.holds Tryz.pinned (OpenSpec.ofChange fnExactRecomposeMatchSpec)

/-- ITS FALSE NEIGHBOUR: 'it returns false'. Refute it at one input. -/
def fnExactRecomposeMatchWrong : ChangeSpec := { name := "fnExactRecomposeMatch", fn := fun _ => fun
  | [d1, d2, d3, d4] => { results := [.lit (.bool false)], args := [d1, d2, d3, d4] }
  | _ => none }
def FnExactRecomposeMatchWrongFalsely : Prop := fnExactRecomposeMatchRow.holds Tryz.pinned (OpenSpec.ofChange fnExactRecomposeMatchWrong)

/-- 'laws.FnExactParallelProduct': WHATEVER THE INPUT: true; the input reads as it did. -/
def fnExactParallelProductSpec : ChangeSpec := { name := "fnExactParallelProduct", fn := fun _ => fun
  | [d1, d2, d3] => { results := [.lit (.bool true)], args := [d1, d2, d3] }
  | _ => none }
def fnExactParallelProductRow : OpenClaim := { program := "ytfjgapkjpmkplaagreat", sum := "426680c4002cd838923ea74b14a2ade053aac8db99a734c6ce40839d60174366", func := "loop.example/g01082/laws.FnExactParallelProduct", spec := "fnExactParallelProduct", unfollowed := true, recurses := true, apart := false }
def FnExactParallelProductSaid : Prop := fnExactParallelProductRow.holds Tryz.pinned (OpenSpec.ofChange fnExactParallelProductSpec)

/-- ITS FALSE NEIGHBOUR: 'it returns false'. Refute it at one input. -/
def fnExactParallelProductWrong : ChangeSpec := { name := "fnExactParallelProduct", fn := fun _ => fun
  | [d1, d2, d3] => { results := [.lit (.bool false)], args := [d1, d2, d3] }
  | _ => none }
def FnExactParallelProductWrongFalsely : Prop := fnExactParallelProductRow.holds Tryz.pinned (OpenSpec.ofChange fnExactParallelProductWrong)

/-- 'laws.FnExactJuxtapose': WHATEVER THE INPUT: true; the input reads as it did. -/
def fnExactJuxtaposeSpec : ChangeSpec := { name := "fnExactJuxtapose", fn := fun _ => fun
  | [d1, d2, d3] => { results := [.lit (.bool true)], args := [d1, d2, d3] }
  | _ => none }
def fnExactJuxtaposeRow : OpenClaim := { program := "ytfjgapkjpmkplaagreat", sum := "426680c4002cd838923ea74b14a2ade053aac8db99a734c6ce40839d60174366", func := "loop.example/g01082/laws.FnExactJuxtapose", spec := "fnExactJuxtapose", unfollowed := true, recurses := true, apart := false }
def FnExactJuxtaposeSaid : Prop := fnExactJuxtaposeRow.holds Tryz.pinned (OpenSpec.ofChange fnExactJuxtaposeSpec)

/-- ITS FALSE NEIGHBOUR: 'it returns false'. Refute it at one input. -/
def fnExactJuxtaposeWrong : ChangeSpec := { name := "fnExactJuxtapose", fn := fun _ => fun
  | [d1, d2, d3] => { results := [.lit (.bool false)], args := [d1, d2, d3] }
  | _ => none }
def FnExactJuxtaposeWrongFalsely : Prop := fnExactJuxtaposeRow.holds Tryz.pinned (OpenSpec.ofChange fnExactJuxtaposeWrong)

/-- 'laws.FnExactMergeProduct': WHATEVER THE INPUT: true; the input reads as it did. -/
def fnExactMergeProductSpec : ChangeSpec := { name := "fnExactMergeProduct", fn := fun _ => fun
  | [d1, d2, d3] => { results := [.lit (.bool true)], args := [d1, d2, d3] }
  | _ => none }
def fnExactMergeProductRow : OpenClaim := { program := "ytfjgapkjpmkplaagreat", sum := "426680c4002cd838923ea74b14a2ade053aac8db99a734c6ce40839d60174366", func := "loop.example/g01082/laws.FnExactMergeProduct", spec := "fnExactMergeProduct", unfollowed := true, recurses := true, apart := false }
def FnExactMergeProductSaid : Prop := fnExactMergeProductRow.holds Tryz.pinned (OpenSpec.ofChange fnExactMergeProductSpec)

/-- ITS FALSE NEIGHBOUR: 'it returns false'. Refute it at one input. -/
def fnExactMergeProductWrong : ChangeSpec := { name := "fnExactMergeProduct", fn := fun _ => fun
  | [d1, d2, d3] => { results := [.lit (.bool false)], args := [d1, d2, d3] }
  | _ => none }
def FnExactMergeProductWrongFalsely : Prop := fnExactMergeProductRow.holds Tryz.pinned (OpenSpec.ofChange fnExactMergeProductWrong)

/-- 'laws.FnExactAddName': WHATEVER THE INPUT: true; the input reads as it did. -/
def fnExactAddNameSpec : ChangeSpec := { name := "fnExactAddName", fn := fun _ => fun
  | [d1, d2, d3] => { results := [.lit (.bool true)], args := [d1, d2, d3] }
  | _ => none }
def fnExactAddNameRow : OpenClaim := { program := "ytfjgapkjpmkplaagreat", sum := "426680c4002cd838923ea74b14a2ade053aac8db99a734c6ce40839d60174366", func := "loop.example/g01082/laws.FnExactAddName", spec := "fnExactAddName", unfollowed := true, recurses := true, apart := false }
def FnExactAddNameSaid : Prop := fnExactAddNameRow.holds Tryz.pinned (OpenSpec.ofChange fnExactAddNameSpec)

/-- ITS FALSE NEIGHBOUR: 'it returns false'. Refute it at one input. -/
def fnExactAddNameWrong : ChangeSpec := { name := "fnExactAddName", fn := fun _ => fun
  | [d1, d2, d3] => { results := [.lit (.bool false)], args := [d1, d2, d3] }
  | _ => none }
def FnExactAddNameWrongFalsely : Prop := fnExactAddNameRow.holds Tryz.pinned (OpenSpec.ofChange fnExactAddNameWrong)

/-- 'laws.FnExactNestBigraphs': WHATEVER THE INPUT: true; the input reads as it did. -/
def fnExactNestBigraphsSpec : ChangeSpec := { name := "fnExactNestBigraphs", fn := fun _ => fun
  | [d1, d2, d3] => { results := [.lit (.bool true)], args := [d1, d2, d3] }
  | _ => none }
def fnExactNestBigraphsRow : OpenClaim := { program := "ytfjgapkjpmkplaagreat", sum := "426680c4002cd838923ea74b14a2ade053aac8db99a734c6ce40839d60174366", func := "loop.example/g01082/laws.FnExactNestBigraphs", spec := "fnExactNestBigraphs", unfollowed := true, recurses := true, apart := false }
def FnExactNestBigraphsSaid : Prop := fnExactNestBigraphsRow.holds Tryz.pinned (OpenSpec.ofChange fnExactNestBigraphsSpec)

/-- ITS FALSE NEIGHBOUR: 'it returns false'. Refute it at one input. -/
def fnExactNestBigraphsWrong : ChangeSpec := { name := "fnExactNestBigraphs", fn := fun _ => fun
  | [d1, d2, d3] => { results := [.lit (.bool false)], args := [d1, d2, d3] }
  | _ => none }
def FnExactNestBigraphsWrongFalsely : Prop := fnExactNestBigraphsRow.holds Tryz.pinned (OpenSpec.ofChange fnExactNestBigraphsWrong)

/- THE SECOND FORM. 'bulk': how many values and letters a reading holds, each counted each time it is reached (what is shared counts as often as it is met; a slice's spare places count too). A statement '..UptoSaid' is the law's where the arguments, and the package variables that the reading takes, are together of bulk at most 1048576: NARROWER than '..Said'. Prove '..Said' where nothing that the law and all that it calls make is longer than what came in: it says more and counts as full. Else prove '..UptoSaid'. A law counts once. -/
mutual
def uptoBulk {H : Type} : DataW H → Nat
  | .lit (.string bytes) => bytes.length + 1
  | .lit _ => 1
  | .nil => 1
  | .ptr d => uptoBulk d + 1
  | .slice elems spare => uptoBulkAll elems + uptoBulkAll spare + 1
  | .agg parts => uptoBulkAll parts + 1
  | .iface _ d => uptoBulk d + 1
  | .map entries => uptoBulkEntries entries + 1
  | .held _ => 1
def uptoBulkAll {H : Type} : List (DataW H) → Nat
  | [] => 0
  | d :: r => uptoBulk d + uptoBulkAll r
def uptoBulkEntries {H : Type} : List (Lit × DataW H) → Nat
  | [] => 0
  | x :: r => uptoBulkEntry x + uptoBulkEntries r
def uptoBulkEntry {H : Type} : Lit × DataW H → Nat
  | (.string bytes, d) => bytes.length + uptoBulk d + 1
  | (_, d) => uptoBulk d + 1
 end
def uptoSmall : (H : Type) → List (DataW H) → Bool := fun _ ds => decide (uptoBulkAll ds ≤ 1048576)
def OpenSpec.upto (s : _root_.Go.ChangeSpec) : _root_.Go.OpenSpec := { _root_.Go.OpenSpec.ofChange s with cond := some uptoSmall }

/-- 'laws.FnExactInverseRule', WHERE WHAT IT READS IS OF BULK AT MOST 1048576: true; the input reads as it did. -/
def fnExactInverseRuleUptoRow : OpenClaim := { program := "ytfjgapkjpmkplaagreat", sum := "426680c4002cd838923ea74b14a2ade053aac8db99a734c6ce40839d60174366", func := "loop.example/g01082/laws.FnExactInverseRule", spec := "fnExactInverseRule", unfollowed := true, recurses := true, apart := false, narrowed := true }
def FnExactInverseRuleUptoSaid : Prop := fnExactInverseRuleUptoRow.holds Tryz.pinned (OpenSpec.upto fnExactInverseRuleSpec)

/-- 'laws.FnExactInstanceOf', WHERE WHAT IT READS IS OF BULK AT MOST 1048576: true; the input reads as it did. -/
def fnExactInstanceOfUptoRow : OpenClaim := { program := "ytfjgapkjpmkplaagreat", sum := "426680c4002cd838923ea74b14a2ade053aac8db99a734c6ce40839d60174366", func := "loop.example/g01082/laws.FnExactInstanceOf", spec := "fnExactInstanceOf", unfollowed := true, recurses := true, apart := false, narrowed := true }
def FnExactInstanceOfUptoSaid : Prop := fnExactInstanceOfUptoRow.holds Tryz.pinned (OpenSpec.upto fnExactInstanceOfSpec)

/-- 'laws.FnExactInverseOf', WHERE WHAT IT READS IS OF BULK AT MOST 1048576: true; the input reads as it did. -/
def fnExactInverseOfUptoRow : OpenClaim := { program := "ytfjgapkjpmkplaagreat", sum := "426680c4002cd838923ea74b14a2ade053aac8db99a734c6ce40839d60174366", func := "loop.example/g01082/laws.FnExactInverseOf", spec := "fnExactInverseOf", unfollowed := true, recurses := true, apart := false, narrowed := true }
def FnExactInverseOfUptoSaid : Prop := fnExactInverseOfUptoRow.holds Tryz.pinned (OpenSpec.upto fnExactInverseOfSpec)

/-- 'laws.FnExactComposeBigraphs', WHERE WHAT IT READS IS OF BULK AT MOST 1048576: true; the input reads as it did. -/
def fnExactComposeBigraphsUptoRow : OpenClaim := { program := "ytfjgapkjpmkplaagreat", sum := "426680c4002cd838923ea74b14a2ade053aac8db99a734c6ce40839d60174366", func := "loop.example/g01082/laws.FnExactComposeBigraphs", spec := "fnExactComposeBigraphs", unfollowed := true, recurses := true, apart := false, narrowed := true }
def FnExactComposeBigraphsUptoSaid : Prop := fnExactComposeBigraphsUptoRow.holds Tryz.pinned (OpenSpec.upto fnExactComposeBigraphsSpec)

/-- 'laws.FnExactComposeAll', WHERE WHAT IT READS IS OF BULK AT MOST 1048576: true; the input reads as it did. -/
def fnExactComposeAllUptoRow : OpenClaim := { program := "ytfjgapkjpmkplaagreat", sum := "426680c4002cd838923ea74b14a2ade053aac8db99a734c6ce40839d60174366", func := "loop.example/g01082/laws.FnExactComposeAll", spec := "fnExactComposeAll", unfollowed := true, recurses := true, apart := false, narrowed := true }
def FnExactComposeAllUptoSaid : Prop := fnExactComposeAllUptoRow.holds Tryz.pinned (OpenSpec.upto fnExactComposeAllSpec)

/-- 'laws.FnExactRecomposeMatch', WHERE WHAT IT READS IS OF BULK AT MOST 1048576: true; the input reads as it did. -/
def fnExactRecomposeMatchUptoRow : OpenClaim := { program := "ytfjgapkjpmkplaagreat", sum := "426680c4002cd838923ea74b14a2ade053aac8db99a734c6ce40839d60174366", func := "loop.example/g01082/laws.FnExactRecomposeMatch", spec := "fnExactRecomposeMatch", unfollowed := true, recurses := true, apart := false, narrowed := true }
def FnExactRecomposeMatchUptoSaid : Prop := fnExactRecomposeMatchUptoRow.holds Tryz.pinned (OpenSpec.upto fnExactRecomposeMatchSpec)

/-- 'laws.FnExactParallelProduct', WHERE WHAT IT READS IS OF BULK AT MOST 1048576: true; the input reads as it did. -/
def fnExactParallelProductUptoRow : OpenClaim := { program := "ytfjgapkjpmkplaagreat", sum := "426680c4002cd838923ea74b14a2ade053aac8db99a734c6ce40839d60174366", func := "loop.example/g01082/laws.FnExactParallelProduct", spec := "fnExactParallelProduct", unfollowed := true, recurses := true, apart := false, narrowed := true }
def FnExactParallelProductUptoSaid : Prop := fnExactParallelProductUptoRow.holds Tryz.pinned (OpenSpec.upto fnExactParallelProductSpec)

/-- 'laws.FnExactJuxtapose', WHERE WHAT IT READS IS OF BULK AT MOST 1048576: true; the input reads as it did. -/
def fnExactJuxtaposeUptoRow : OpenClaim := { program := "ytfjgapkjpmkplaagreat", sum := "426680c4002cd838923ea74b14a2ade053aac8db99a734c6ce40839d60174366", func := "loop.example/g01082/laws.FnExactJuxtapose", spec := "fnExactJuxtapose", unfollowed := true, recurses := true, apart := false, narrowed := true }
def FnExactJuxtaposeUptoSaid : Prop := fnExactJuxtaposeUptoRow.holds Tryz.pinned (OpenSpec.upto fnExactJuxtaposeSpec)

/-- 'laws.FnExactMergeProduct', WHERE WHAT IT READS IS OF BULK AT MOST 1048576: true; the input reads as it did. -/
def fnExactMergeProductUptoRow : OpenClaim := { program := "ytfjgapkjpmkplaagreat", sum := "426680c4002cd838923ea74b14a2ade053aac8db99a734c6ce40839d60174366", func := "loop.example/g01082/laws.FnExactMergeProduct", spec := "fnExactMergeProduct", unfollowed := true, recurses := true, apart := false, narrowed := true }
def FnExactMergeProductUptoSaid : Prop := fnExactMergeProductUptoRow.holds Tryz.pinned (OpenSpec.upto fnExactMergeProductSpec)

/-- 'laws.FnExactAddName', WHERE WHAT IT READS IS OF BULK AT MOST 1048576: true; the input reads as it did. -/
def fnExactAddNameUptoRow : OpenClaim := { program := "ytfjgapkjpmkplaagreat", sum := "426680c4002cd838923ea74b14a2ade053aac8db99a734c6ce40839d60174366", func := "loop.example/g01082/laws.FnExactAddName", spec := "fnExactAddName", unfollowed := true, recurses := true, apart := false, narrowed := true }
def FnExactAddNameUptoSaid : Prop := fnExactAddNameUptoRow.holds Tryz.pinned (OpenSpec.upto fnExactAddNameSpec)

/-- 'laws.FnExactNestBigraphs', WHERE WHAT IT READS IS OF BULK AT MOST 1048576: true; the input reads as it did. -/
def fnExactNestBigraphsUptoRow : OpenClaim := { program := "ytfjgapkjpmkplaagreat", sum := "426680c4002cd838923ea74b14a2ade053aac8db99a734c6ce40839d60174366", func := "loop.example/g01082/laws.FnExactNestBigraphs", spec := "fnExactNestBigraphs", unfollowed := true, recurses := true, apart := false, narrowed := true }
def FnExactNestBigraphsUptoSaid : Prop := fnExactNestBigraphsUptoRow.holds Tryz.pinned (OpenSpec.upto fnExactNestBigraphsSpec)

end Rows
end Go.Proofs.YtfjgapkjpmkplaaGreat
