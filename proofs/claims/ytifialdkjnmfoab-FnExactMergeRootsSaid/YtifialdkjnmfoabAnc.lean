/- The places above a node: spec.AncestorsOf, impl.AncestorsOf. -/
import Derived.Test.YtifialdkjnmfoabAbv
namespace Go.Proofs.Ytifialdkjnmfoab.anc
open kit bg opn strs only hb sg sig isig un gd inn ht hi cf ib rs abv
open Go.RowKit
set_option linter.unusedVariables false

/-- whether there is an answer, and which -/
noncomputable def ancQ (cs : List Ctl) (b : Big) (z : Int) : Bool := bigB cs b && inb z 0 (b.nodes.length - 1)
noncomputable def ancR (cs : List Ctl) (b : Big) (z : Int) : List Int := if ancQ cs b z = true then abv b.nodes b.nodes.length z else []
theorem ancR_no {cs : List Ctl} {b : Big} {z : Int} (h : ancQ cs b z = false) : ancR cs b z = [] := by unfold ancR; rw [h]; rfl
theorem ancR_yes {cs : List Ctl} {b : Big} {z : Int} (h : ancQ cs b z = true) : ancR cs b z = abv b.nodes b.nodes.length z := by unfold ancR; rw [if_pos h]
theorem ancR_len {cs : List Ctl} {b : Big} {z : Int} (h : BigS b) : (ancR cs b z).length ≤ 1048576 := by
  cases hq : ancQ cs b z with
  | false => rw [ancR_no hq]; simp
  | true => rw [ancR_yes hq]; exact Nat.le_trans (abv_len _ _ _) h.1

end Go.Proofs.Ytifialdkjnmfoab.anc
