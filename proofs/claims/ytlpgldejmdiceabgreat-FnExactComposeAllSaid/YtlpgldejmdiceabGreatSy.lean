/- spec.l3Substitution; SubstitutionOf of spec and impl. -/
import Derived.Test.YtlpgldejmdiceabGreatSx
import Derived.Test.YtlpgldejmdiceabGreatSo
import Derived.Test.YtlpgldejmdiceabGreatQe
namespace Go.Proofs.YtlpgldejmdiceabGreat.sy
open kit bg sg opn strs only hb sig isig un over gn nm inn ht gd im pt marks eqs hc hi hw hn rs br bm bw cf lf ib lawb lw cl pl mb wb nw cz ix su asc so sx
open Go.RowKit
set_option linter.unusedVariables false
set_option linter.unusedSimpArgs false
end Go.Proofs.YtlpgldejmdiceabGreat.sy
