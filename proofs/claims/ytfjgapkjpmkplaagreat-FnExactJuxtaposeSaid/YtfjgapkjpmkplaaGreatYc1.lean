/- Jx. -/
import Derived.Test.YtfjgapkjpmkplaaGreatXa
import Derived.Test.YtfjgapkjpmkplaaGreatXb
import Derived.Test.YtfjgapkjpmkplaaGreatXc
import Derived.Test.YtfjgapkjpmkplaaGreatXd
import Derived.Test.YtfjgapkjpmkplaaGreatXf
import Derived.Test.YtfjgapkjpmkplaaGreatYa012
import Derived.Test.YtfjgapkjpmkplaaGreatYc012
import Derived.Test.YtfjgapkjpmkplaaGreatRows
import Derived.WalkKit
import Derived.WalkSpells
import Derived.WalkLawsBesides
import Derived.ProofKit
import Derived.OpenShut
import Derived.ShutString
import Derived.Deep.OwnRows
import Derived.Deep.Draws
import Derived.SliceStrings
import Derived.ChangeOld
import Derived.Below
import Derived.Lib.Hide
import Derived.Lib.ItoaNum
import Derived.Deep.QuietTactic
import Derived.BigQuiet
import Derived.Outline
import Derived.StillTailTactics
import Derived.Deep.RegionWith
import Derived.Deep.RegionHeld3
import Derived.Deep.Slices
import Derived.Deep.Fields
import Derived.ChangeSame
import Derived.Lib.SmallJoins
import Derived.Maps.OwnOps
import Derived.Maps.OwnIn
import Derived.Maps.Views
import Derived.Maps.AppendAt
import Derived.RangeFuncBox
import Derived.RangeFuncLeaves
import Derived.Shelf.Abstract
import Derived.OwnWalkIn
import Derived.TacticsInMore
import Derived.LoopNIn
import Derived.LoopIn
import Derived.RangeFuncWrites
import Derived.RangeFuncNested
import Derived.JoinedOf
import Derived.Deep.AppendLies
import Derived.Deep.RegionLaw
import Derived.Laws.AppendOwnNone
import Derived.Lib.SliceRun
import Derived.Deep.Cut
import Derived.Deep.CutRange
import Derived.OrdersHeld
import Derived.StillTail
import Derived.Handy
import Derived.Lib.Walk
import Derived.Deep.LoopGhost
import Derived.Lib.LazyBuf
import Derived.Lib.AppendZerosOnto
import Derived.Sort.OwnSorted
import Derived.Lib.SlicesCompact
import Derived.Sort.KeysCollected
import Derived.Test.YtfjgapkjpmkplaaGreatSfl
import Derived.Shelf.SlSortCmp.NoneTotal
import Derived.WalkMore
import Derived.ScopeJumps
set_option linter.unusedSimpArgs false
set_option linter.unusedVariables false
namespace Go.Proofs.YtfjgapkjpmkplaaGreat.jx
open kit bg sg opn strs only hb sig isig un over gn nm inn ht gd im pt marks eqs hc hi hw hn rs br bm bw cf lf ib lw cl rt ix tg rl ed tp rtg lep rnp pm pl mb sb wb jo ek wk rk gv tm psp mrp mrs mri nd co ft uw nj sf mg sd
set_option linter.unusedVariables false
noncomputable def jxP (cs : List Ctl) (a b : Big) : Bool := bigB cs a && bigB cs b && apB a.outer b.outer && apB (nms a.inner) (nms b.inner)
noncomputable def jxQ (cs : List Ctl) (a b : Big) : Bool := jxP cs a b && bigB cs (sdB a b (sdW a b))
noncomputable def jxR (cs : List Ctl) (a b : Big) : Big := if jxP cs a b = true then giveR cs (sdB a b (sdW a b)) else zeroBig
theorem jx_no {cs : List Ctl} {a b : Big} (h : jxP cs a b = false) : jxQ cs a b = false ∧ jxR cs a b = zeroBig := by
  unfold jxQ jxR
  rw [h]
  exact ⟨rfl, if_neg (by decide)⟩
theorem jx_yes {cs : List Ctl} {a b : Big} (h : jxP cs a b = true) : jxQ cs a b = bigB cs (sdB a b (sdW a b)) ∧ jxR cs a b = giveR cs (sdB a b (sdW a b)) := by
  unfold jxQ jxR
  rw [h]
  exact ⟨rfl, if_pos rfl⟩
theorem jxR_len (cs : List Ctl) (a b : Big) : bigMk (jxR cs a b) ≤ 1048576 := by
  unfold jxR
  split
  · exact give_len (fun h => big_mk h)
  · exact zero_len
theorem jxP_eq (cs : List Ctl) (a b : Big) : jxP cs a b = (ppP cs a b && apB a.outer b.outer) := by
  unfold jxP ppP
  cases bigB cs a <;> cases bigB cs b <;> cases apB a.outer b.outer <;> cases apB (nms a.inner) (nms b.inner) <;> rfl
theorem jx_bad {cs : List Ctl} {a b : Big} (h : ppQ cs a b = false) : jxQ cs a b = false ∧ jxR cs a b = zeroBig := by
  cases hp : jxP cs a b with
  | false => exact jx_no hp
  | true =>
    have hpp : ppP cs a b = true := by
      rw [jxP_eq] at hp
      cases hq : ppP cs a b with
      | true => rfl
      | false => rw [hq] at hp; cases hp
    rw [(pp_yes hpp).1] at h
    rw [(jx_yes hp).1, (jx_yes hp).2, h]
    refine ⟨rfl, ?_⟩
    unfold giveR
    rw [h]
    exact if_neg (by decide)
theorem jx_out {cs : List Ctl} {a b : Big} (h : apB a.outer b.outer = false) : jxQ cs a b = false ∧ jxR cs a b = zeroBig := jx_no (by rw [jxP_eq, h, Bool.and_false])
theorem jx_good {cs : List Ctl} {a b : Big} (h : ppQ cs a b = true) (ho : apB a.outer b.outer = true) : jxQ cs a b = true ∧ jxR cs a b = ppR cs a b := by
  have hpp : ppP cs a b = true := by
    unfold ppQ at h
    cases hq : ppP cs a b with
    | true => rfl
    | false => rw [hq] at h; cases h
  have hp : jxP cs a b = true := by rw [jxP_eq, hpp, ho]; rfl
  rw [(jx_yes hp).1, (jx_yes hp).2, (pp_yes hpp).2]
  rw [(pp_yes hpp).1] at h
  exact ⟨h, rfl⟩
theorem pp_names {cs : List Ctl} {a b : Big} (h : ppQ cs a b = true) : bigB cs a = true ∧ bigB cs b = true := by
  unfold ppQ ppP at h
  cases ha : bigB cs a with
  | false => rw [ha] at h; cases h
  | true =>
    cases hb : bigB cs b with
    | true => exact ⟨rfl, rfl⟩
    | false => rw [ha, hb] at h; cases h
end Go.Proofs.YtfjgapkjpmkplaaGreat.jx
