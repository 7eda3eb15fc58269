/- impl.namesWithout: a copy without one of the names. -/
import Derived.Test.YtmcdbhlpmlcjpaaNl
namespace Go.Proofs.Ytmcdbhlpmlcjpaa.dl
open kit bg sg opn strs only hb sig inn ht marks eqs hc hi hw hn rs br bm bw cf lawb lw cl wb ix nl
open Go.RowKit
set_option linter.unusedVariables false
theorem zero_str (w : World) : (zeroValue 9).run Try.prog w = .ok (.string ⟨#[]⟩) w := by kernel_rfl
end Go.Proofs.Ytmcdbhlpmlcjpaa.dl
