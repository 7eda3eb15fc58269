/- impl.JoinNames. -/
import Derived.Test.YtmcdbhlpmlcjpaaJo
import Derived.Test.YtmcdbhlpmlcjpaaRta
import Derived.Test.YtmcdbhlpmlcjpaaDl
import Derived.Test.YtmcdbhlpmlcjpaaQe
import Derived.Test.YtmcdbhlpmlcjpaaGv
namespace Go.Proofs.Ytmcdbhlpmlcjpaa.joi
open kit bg sg opn strs only hb sig isig un over gn nm inn ht gd im pt marks eqs hc hi hw hn rs br bm bw cf lf ib isa lawb lw cl rt ix tg rl ed tp rtg rta nl dl lo jo
open Go.RowKit
set_option linter.unusedVariables false
set_option linter.unusedSimpArgs false
open Classical in
theorem in_of {ss : List ByteArray} {s : ByteArray} (h : inB ss s = true) : s ∈ ss := by unfold inB at h; exact of_decide_eq_true h
theorem rowR_nil0 {w : World} {lo hi n c sz : Nat} {t : TypeId} {A : Option Addr} {M : Nat → Value} (h : RowR w lo hi t sz A n c M) : A = none → c = 0 := fun e => by
  rcases h with ⟨-, h, -⟩ | ⟨g, f, e2, -⟩
  · exact h
  · rw [e] at e2; cases e2
end Go.Proofs.Ytmcdbhlpmlcjpaa.joi
