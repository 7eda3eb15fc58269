/- The points of a link: spec.PointsOf. -/
import Derived.Test.YtifialdkjnmfoabRp
import Derived.Test.YtifialdkjnmfoabAnc
import Derived.Deep.RegionHeld3
namespace Go.Proofs.Ytifialdkjnmfoab.psp
open kit bg opn strs only hb sg sig isig un gd inn ht hi cf pt ib rs rt pts ha rp
open Go.RowKit
set_option linter.unusedVariables false

noncomputable def ptQ (cs : List Ctl) (b : Big) (z : Int) : Bool := bigB cs b && linkB b z
noncomputable def ptA (cs : List Ctl) (b : Big) (z : Int) : List Port := if ptQ cs b z = true then onL z (ports b.nodes) else []
noncomputable def ptB (cs : List Ctl) (b : Big) (z : Int) : List ByteArray := if ptQ cs b z = true then ends b.inner z b.inner.length else []
theorem ptA_no {cs : List Ctl} {b : Big} {z : Int} (h : ptQ cs b z = false) : ptA cs b z = [] := by unfold ptA; rw [h]; rfl
theorem ptA_yes {cs : List Ctl} {b : Big} {z : Int} (h : ptQ cs b z = true) : ptA cs b z = onL z (ports b.nodes) := by unfold ptA; rw [if_pos h]
theorem ptB_no {cs : List Ctl} {b : Big} {z : Int} (h : ptQ cs b z = false) : ptB cs b z = [] := by unfold ptB; rw [h]; rfl
theorem ptB_yes {cs : List Ctl} {b : Big} {z : Int} (h : ptQ cs b z = true) : ptB cs b z = ends b.inner z b.inner.length := by unfold ptB; rw [if_pos h]
theorem big8 {cs : List Ctl} {b : Big} (h : bigB cs b = true) : b.nodes.length ≤ 8 ∧ (0 ≤ b.edges ∧ b.edges ≤ 8) ∧ b.outer.length ≤ 16 ∧ b.inner.length ≤ 16 := by
  have := sizes_of (big_of h).2.1
  exact ⟨this.2.2.1, this.2.1, this.2.2.2.2.1, this.2.2.2.2.2⟩
theorem links3 {cs : List Ctl} {b : Big} (h : bigB cs b = true) : ∀ x ∈ b.nodes, x.links.length ≤ 3 := fun x hx => by
  obtain ⟨k, hk⟩ := List.getElem?_of_mem hx
  have h1 := ((big_of h).2.2.2.2.1 k x hk).2.1
  unfold portsB at h1
  cases hc : cs[x.control.toNat]? with
  | none => rw [hc] at h1; cases h1
  | some c =>
    rw [hc] at h1
    have h2 : (x.links.length : Int) = c.ports := by simpa using h1
    have h3 := (big_of h).1.1 _ c hc
    unfold ctlB at h3
    simp only [Bool.and_eq_true] at h3
    have h4 := inb_true h3.1.2
    omega
theorem ptQ_big {cs : List Ctl} {b : Big} {z : Int} (h : ptQ cs b z = true) : bigB cs b = true := by
  unfold ptQ at h
  simp only [Bool.and_eq_true] at h
  exact h.1
theorem ptA_len {cs : List Ctl} {b : Big} {z : Int} : (ptA cs b z).length ≤ 24 := by
  cases hq : ptQ cs b z with
  | false => rw [ptA_no hq]; simp
  | true =>
    rw [ptA_yes hq]
    have h8 := big8 (ptQ_big hq)
    have h1 := onL_len z (ports b.nodes)
    have h2 := prtsTo_len (links3 (ptQ_big hq)) b.nodes.length
    have h3 : b.nodes.length * 3 ≤ 8 * 3 := Nat.mul_le_mul_right _ h8.1
    unfold ports at h1 ⊢
    omega
theorem ptB_len {cs : List Ctl} {b : Big} {z : Int} (h : BigS b) : (ptB cs b z).length ≤ 1048576 := by
  cases hq : ptQ cs b z with
  | false => rw [ptB_no hq]; simp
  | true => rw [ptB_yes hq]; exact Nat.le_trans (ends_len _ _ _) h.2.2.2.2.2.1

end Go.Proofs.Ytifialdkjnmfoab.psp

