/- spec.JoinNames. -/
import Derived.Test.YtmcdbhlpmlcjpaaJoi
namespace Go.Proofs.Ytmcdbhlpmlcjpaa.jos
open kit bg sg opn strs only hb sig isig un over gn nm inn ht gd im pt marks eqs hc hi hw hn rs br bm bw cf lf ib isa lawb lw cl rt ix tg rl ed tp rtg rta nl dl lo jo joi sb wb mb lep
open Go.RowKit
set_option linter.unusedVariables false
set_option linter.unusedSimpArgs false
open Classical in
theorem in_no {ss : List ByteArray} {s : ByteArray} (h : s ∉ ss) : inB ss s = false := by unfold inB; exact decide_eq_false h
open Classical in
theorem in_yes {ss : List ByteArray} {s : ByteArray} (h : s ∈ ss) : inB ss s = true := by unfold inB; exact decide_eq_true h
end Go.Proofs.Ytmcdbhlpmlcjpaa.jos
