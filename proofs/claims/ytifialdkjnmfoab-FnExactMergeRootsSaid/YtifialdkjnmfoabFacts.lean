/- Facts of the whole program that each row asks: shown once, each by itself (together they are too much for one check). -/
import Derived.Test.YtifialdkjnmfoabKit
import Derived.JoinedOf
namespace Go.Proofs.Ytifialdkjnmfoab.facts
theorem heard : Try.checked.prog.stopsHeard = true := by kernel_rfl
theorem enter : Try.checked.prog.mayEnter = true := by kernel_rfl
theorem lifts : Try.checked.prog.liftsFinal = false := by kernel_rfl
theorem laid : laidOutB Try.checked.prog = true := by kernel_rfl
theorem maps : mapsRowed Try.checked.prog = true := by kernel_rfl
theorem make : Try.checked.prog.make = some .cut := by kernel_rfl
theorem keys : Try.checked.prog.plainKeys = true := by kernel_rfl
end Go.Proofs.Ytifialdkjnmfoab.facts
