/- The children of a place: spec.ChildrenOf, impl.ChildrenOf. -/
import Derived.Test.YtifialdkjnmfoabRt
import Derived.Test.YtifialdkjnmfoabAnc
import Derived.Maps.AppendAt
import Derived.Deep.RegionHeld3
namespace Go.Proofs.Ytifialdkjnmfoab.chd
open kit bg opn strs only hb sg sig isig un gd inn ht hi cf ib rs rt abv anc
open Go.RowKit
set_option linter.unusedVariables false

/-- the numbers below k that a test takes, in ascending order -/
def sel (P : Nat → Bool) : Nat → List Int
  | 0 => []
  | k + 1 => if P k = true then sel P k ++ [(k : Int)] else sel P k
theorem sel_yes {P : Nat → Bool} {k : Nat} (h : P k = true) : sel P (k + 1) = sel P k ++ [(k : Int)] := by rw [sel, if_pos h]
theorem sel_no {P : Nat → Bool} {k : Nat} (h : P k = false) : sel P (k + 1) = sel P k := by rw [sel, if_neg (by simp [h])]
theorem sel_len (P : Nat → Bool) : ∀ k, (sel P k).length ≤ k
  | 0 => Nat.le_refl _
  | k + 1 => by
    have := sel_len P k
    cases h : P k with
    | true => rw [sel_yes h, List.length_append, List.length_singleton]; omega
    | false => rw [sel_no h]; omega
def kidP (ns : List Nd) (p : Int) (i : Nat) : Bool := match ns[i]? with
  | some x => decide (x.parent = p)
  | none => false
def siteP (zs : List Int) (p : Int) (i : Nat) : Bool := match zs[i]? with
  | some u => decide (u = p)
  | none => false
theorem kid_at {ns : List Nd} {p : Int} {i : Nat} {x : Nd} (h : ns[i]? = some x) : kidP ns p i = decide (x.parent = p) := by unfold kidP; rw [h]
theorem site_at {zs : List Int} {p : Int} {i : Nat} {u : Int} (h : zs[i]? = some u) : siteP zs p i = decide (u = p) := by unfold siteP; rw [h]

noncomputable def chQ (cs : List Ctl) (b : Big) (p : Int) : Bool := bigB cs b && (inb p (-b.roots) (-1) || inb p 0 (b.nodes.length - 1))
noncomputable def chA (cs : List Ctl) (b : Big) (p : Int) : List Int := if chQ cs b p = true then sel (kidP b.nodes p) b.nodes.length else []
noncomputable def chB (cs : List Ctl) (b : Big) (p : Int) : List Int := if chQ cs b p = true then sel (siteP b.sites p) b.sites.length else []
theorem chA_no {cs : List Ctl} {b : Big} {p : Int} (h : chQ cs b p = false) : chA cs b p = [] := by unfold chA; rw [h]; rfl
theorem chA_yes {cs : List Ctl} {b : Big} {p : Int} (h : chQ cs b p = true) : chA cs b p = sel (kidP b.nodes p) b.nodes.length := by unfold chA; rw [if_pos h]
theorem chB_no {cs : List Ctl} {b : Big} {p : Int} (h : chQ cs b p = false) : chB cs b p = [] := by unfold chB; rw [h]; rfl
theorem chB_yes {cs : List Ctl} {b : Big} {p : Int} (h : chQ cs b p = true) : chB cs b p = sel (siteP b.sites p) b.sites.length := by unfold chB; rw [if_pos h]
theorem chA_len {cs : List Ctl} {b : Big} {p : Int} (h : BigS b) : (chA cs b p).length ≤ 1048576 := by
  cases hq : chQ cs b p with
  | false => rw [chA_no hq]; simp
  | true => rw [chA_yes hq]; exact Nat.le_trans (sel_len _ _) h.1
theorem chB_len {cs : List Ctl} {b : Big} {p : Int} (h : BigS b) : (chB cs b p).length ≤ 1048576 := by
  cases hq : chQ cs b p with
  | false => rw [chB_no hq]; simp
  | true => rw [chB_yes hq]; exact Nat.le_trans (sel_len _ _) h.2.2.1
theorem place_eq (p R : Int) (m : Nat) (hR : 0 ≤ R) : inb p (-R) ((m : Int) - 1) = (inb p (-R) (-1) || inb p 0 ((m : Int) - 1)) := by
  unfold inb
  rw [← Bool.decide_or]
  congr 1
  exact propext ⟨fun h => by omega, fun h => by omega⟩
theorem roots_of {cs : List Ctl} {b : Big} (h : bigB cs b = true) : 0 ≤ b.roots ∧ b.roots ≤ 4 := (sizes_of (big_of h).2.1).1
theorem sites_of {cs : List Ctl} {b : Big} (h : bigB cs b = true) : b.sites.length ≤ 4 := (sizes_of (big_of h).2.1).2.2.2.1

end Go.Proofs.Ytifialdkjnmfoab.chd

