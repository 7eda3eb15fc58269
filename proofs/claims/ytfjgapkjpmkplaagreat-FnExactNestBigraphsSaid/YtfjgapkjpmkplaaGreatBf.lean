/- Psp Lep. -/
import Derived.Test.YtfjgapkjpmkplaaGreatBa
import Derived.Test.YtfjgapkjpmkplaaGreatBb
import Derived.Test.YtfjgapkjpmkplaaGreatBc
import Derived.Test.YtfjgapkjpmkplaaGreatRows
import Derived.WalkKit
import Derived.WalkSpells
import Derived.WalkLawsBesides
import Derived.ProofKit
import Derived.OpenShut
import Derived.ShutString
import Derived.Deep.OwnRows
import Derived.Deep.Draws
import Derived.SliceStrings
import Derived.ChangeOld
import Derived.Below
import Derived.Lib.Hide
import Derived.Lib.ItoaNum
import Derived.Deep.QuietTactic
import Derived.BigQuiet
import Derived.Outline
import Derived.StillTailTactics
import Derived.Deep.RegionWith
import Derived.Deep.RegionHeld3
import Derived.Deep.Slices
import Derived.Deep.Fields
import Derived.ChangeSame
import Derived.Lib.SmallJoins
import Derived.Maps.OwnOps
import Derived.Maps.OwnIn
import Derived.Maps.Views
import Derived.Maps.AppendAt
import Derived.RangeFuncBox
import Derived.RangeFuncLeaves
import Derived.Shelf.Abstract
import Derived.OwnWalkIn
import Derived.TacticsInMore
import Derived.LoopNIn
import Derived.LoopIn
import Derived.RangeFuncWrites
import Derived.RangeFuncNested
import Derived.JoinedOf
import Derived.Deep.AppendLies
import Derived.Deep.RegionLaw
import Derived.Laws.AppendOwnNone
import Derived.Lib.SliceRun
import Derived.Deep.Cut
import Derived.Deep.CutRange
import Derived.Lib.Walk
import Derived.Deep.LoopGhost
import Derived.OrdersHeld
import Derived.StillTail
set_option linter.unusedSimpArgs false
set_option linter.unusedVariables false
section
namespace Go.Proofs.YtfjgapkjpmkplaaGreat.psp
open kit bg opn strs only hb sg sig isig un gd inn ht hi cf pt ib rs rt
open Go.RowKit
set_option linter.unusedVariables false
theorem links3 {cs : List Ctl} {b : Big} (h : bigB cs b = true) : ∀ x ∈ b.nodes, x.links.length ≤ 3 := fun x hx => by
  obtain ⟨k, hk⟩ := List.getElem?_of_mem hx
  have h1 := ((big_of h).2.2.2.2.1 k x hk).2.1
  unfold portsB at h1
  cases hc : cs[x.control.toNat]? with
  | none => rw [hc] at h1; cases h1
  | some c =>
    rw [hc] at h1
    have h2 : (x.links.length : Int) = c.ports := by simpa using h1
    have h3 := (big_of h).1.1 _ c hc
    unfold ctlB at h3
    simp only [Bool.and_eq_true] at h3
    have h4 := inb_true h3.1.2
    omega
end Go.Proofs.YtfjgapkjpmkplaaGreat.psp
end
section
namespace Go.Proofs.YtfjgapkjpmkplaaGreat.lep
open kit bg sg opn strs only hb sig isig un over gn nm inn ht gd im pt marks eqs hc hi hw hn rs br cf lf ib rt psp
set_option linter.unusedVariables false
theorem big_mk {cs : List Ctl} {b : Big} (h : bigB cs b = true) : bigMk b ≤ 1048576 := by
  have z := sizes_of (big_of h).2.1
  have hl := links3 h
  unfold bigMk ndMk
  have hs : sumBy (fun c : Nd => c.links.length) b.nodes ≤ b.nodes.length * 3 := by
    revert hl
    generalize b.nodes = ns
    intro hl
    induction ns with
    | nil => simp [sumBy]
    | cons x r ih =>
      have e : ∀ (y : Nd) (l : List Nd), sumBy (fun c : Nd => c.links.length) (y :: l) = y.links.length + sumBy (fun c : Nd => c.links.length) l := fun y l => by simp [sumBy]
      rw [e, List.length_cons]
      have h1 := hl x (List.mem_cons_self ..)
      have h2 := ih (fun y hy => hl y (List.mem_cons_of_mem _ hy))
      omega
  omega
end Go.Proofs.YtfjgapkjpmkplaaGreat.lep
end
