/- slices.Grow from nil and slices.Concat, at strings. -/
import Derived.Test.YtlpgldejmdiceabGreatQd
import Derived.Lib.AppendZerosOnto
namespace Go.Proofs.YtlpgldejmdiceabGreat.cc
open kit bg opn strs only hb sig inn ht marks eqs hc hi hw hn rs br bm bw cl
open Go.RowKit
set_option linter.unusedVariables false
set_option linter.unusedSimpArgs false
/-- slices in a row: their cells -/
def PartsAt (w : World) (L : Nat) (vs : List Value) (ps : List (List Value)) : Prop := ∀ (k : Nat) v, vs[k]? = some v → ∃ xs A n c, ps[k]? = some xs ∧ v = .slice A n c ∧ SR w L A n xs ∧ (A = none → c = 0) ∧ ∀ u ∈ xs, u.oneCell' = true
theorem PartsAt.below {w w' : World} {L : Nat} {vs : List Value} {ps : List (List Value)} (h : PartsAt w L vs ps) (hb : Below L w w') : PartsAt w' L vs ps := fun k v hk => by
  obtain ⟨xs, A, n, c, h1, h2, h3, h4, h5⟩ := h k v hk
  exact ⟨xs, A, n, c, h1, h2, h3.below hb, h4, h5⟩
theorem flat_snoc {ps : List (List Value)} {k : Nat} {xs : List Value} (h : ps[k]? = some xs) : (ps.take (k + 1)).flatten = (ps.take k).flatten ++ xs := by
  rw [List.take_add_one, h]; simp
theorem flat_le (ps : List (List Value)) (k : Nat) : (ps.take k).flatten.length ≤ ps.flatten.length := by
  have h : ps.flatten = (ps.take k).flatten ++ (ps.drop k).flatten := by rw [← List.flatten_append, List.take_append_drop]
  rw [h, List.length_append]; omega
end Go.Proofs.YtlpgldejmdiceabGreat.cc
