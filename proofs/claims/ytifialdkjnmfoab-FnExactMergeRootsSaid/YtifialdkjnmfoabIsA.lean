/- Whether a Bigraph is valid or an agent: spec.IsBigraph, spec.l2Agent, spec.IsAgent and impl.IsAgent. -/
import Derived.Test.YtifialdkjnmfoabIb
namespace Go.Proofs.Ytifialdkjnmfoab.isa
open kit bg sg sig isig only un hb opn over gn nm inn ht gd im pt cf lf ib
open Go.RowKit
set_option linter.unusedVariables false

/-- whether a Bigraph is an agent -/
noncomputable def agentB (cs : List Ctl) (b : Big) : Bool := bigB cs b && decide (b.sites.length = 0) && decide (b.inner.length = 0)

theorem agent_of {cs : List Ctl} {b : Big} {q : Bool} (h : bigB cs b = q) {n2 n5 : Nat} (h2 : b.sites.length = n2) (h5 : b.inner.length = n5) : agentB cs b = (q && decide (n2 = 0) && decide (n5 = 0)) := by
  unfold agentB
  rw [h, h2, h5]

end Go.Proofs.Ytifialdkjnmfoab.isa

