/- The places above a node: spec.l2Above, impl.ancestorsOf. -/
import Derived.Test.YtifialdkjnmfoabRs
import Derived.Maps.AppendAt
namespace Go.Proofs.Ytifialdkjnmfoab.abv
open kit bg opn strs only hb sig isig gd inn ht hi cf ib rs
open Go.RowKit
set_option linter.unusedVariables false

/-- the parents from a node up, at most so many -/
def abv (ns : List Nd) : Nat → Int → List Int
  | 0, _ => []
  | f + 1, k => if k < 0 then [] else match ns[k.toNat]? with
    | some x => x.parent :: abv ns f x.parent
    | none => []
theorem abv_neg {ns : List Nd} {f : Nat} {k : Int} (h : k < 0) : abv ns f k = [] := by
  cases f with
  | zero => rfl
  | succ f => unfold abv; rw [if_pos h]
theorem abv_step {ns : List Nd} {f k : Nat} {x : Nd} (h : ns[k]? = some x) : abv ns (f + 1) (k : Int) = x.parent :: abv ns f x.parent := by
  rw [abv, if_neg (by omega)]
  simp only [Int.toNat_natCast, h]
theorem abv_len (ns : List Nd) : ∀ (f : Nat) (k : Int), (abv ns f k).length ≤ f
  | 0, _ => Nat.le_refl _
  | f + 1, k => by
    unfold abv
    split
    · simp
    · split
      · have := abv_len ns f ‹Nd›.parent; simp only [List.length_cons]; omega
      · simp
/-- a node's parent comes before it, and is no root but one of the few -/
def Up (ns : List Nd) : Prop := ∀ (j : Nat) x, ns[j]? = some x → x.parent < j
theorem up_of {cs : List Ctl} {b : Big} (h : bigB cs b = true) : Up b.nodes := fun j x hx => by
  have h1 := ((big_of h).2.2.2.2.1 j x hx).1
  unfold seatB underB at h1
  simp only [Bool.and_eq_true] at h1
  have h2 := h1.2
  by_cases hn : x.parent < 0
  · omega
  · rw [if_neg hn] at h2
    simp only [Bool.and_eq_true, decide_eq_true_eq] at h2
    exact h2.1
theorem size_nodes {cs : List Ctl} {b : Big} (h : bigB cs b = true) : b.nodes.length ≤ 8 := (sizes_of (big_of h).2.1).2.2.1

end Go.Proofs.Ytifialdkjnmfoab.abv
