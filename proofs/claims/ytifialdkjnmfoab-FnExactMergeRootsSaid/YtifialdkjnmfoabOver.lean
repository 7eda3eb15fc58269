/- A region that draws its order, whose operations read and whose callees make memory: one walk serves every order. The worlds over a world: what lay below its heap's end is as it was. -/
import Derived.Test.YtifialdkjnmfoabKit
import Derived.Deep.QuietTactic
import Derived.BigQuiet
namespace Go.Proofs.Ytifialdkjnmfoab.over
open Go.RowKit
set_option linter.unusedVariables false

/-- the worlds over W -/
def Over (W : World) : Type := { w' : World // Below W.heap.size W w' }
def Over.w {W : World} (y : Over W) : World := y.1
theorem Over.below {W : World} (y : Over W) : Below W.heap.size W y.w := y.2
theorem Over.cell {W : World} (y : Over W) {p : Addr} (hp : p.block < W.heap.size) : y.w.cell? p = W.cell? p := y.2.cell hp
theorem Over.get {W : World} {b o : Nat} {v : Value} (h : W.cell? ⟨b, o, none⟩ = some v) (hb : b < W.heap.size) (y : Over W) : y.w.cell? ⟨b, o, none⟩ = some v := (y.cell (p := ⟨b, o, none⟩) hb).trans h
def Over.mk {W w' : World} (h : Below W.heap.size W w') : Over W := ⟨w', h⟩

instance Over.some_ {W : World} : Nonempty (Over W) := ⟨Over.mk (Below.refl _ W)⟩

theorem wp_region_over {P : Program} {id : Nat} {Q : Exit → Act → World → Prop} {a : Act} {w : World} {l : List Oper} (hm : P.follows .mixedOrders = true) (hB : Region.lexB .any l.toArray = true)
    (h : wpQuiet P l.toArray (fun w' => ∃ y : Over w, w' = y.w) (fun a' => ∀ w', (∃ y : Over w, w' = y.w) → Q .normal a' w') l a) : (Code.region id l.toArray true).wp P Q a w :=
  wp_region_quiet (C := fun w' => ∃ y : Over w, w' = y.w) hm hB ⟨Over.mk ((Below.refl _ w).drew), rfl⟩ (by simpa using h)

theorem over_call {P : Program} {W : World} {y : Over W} {f : FuncId} {args : Array Value} {v : Value} (h : Calls P f args y.w fun e w' => e = .returned v ∧ Below y.w.heap.size y.w w') :
    Calls P f args y.w fun e w'' => e = .returned v ∧ ∃ y' : Over W, w'' = y'.w :=
  h.mono fun _ w' ⟨he, hb⟩ => ⟨he, Over.mk (y.below.trans (hb.mono y.below.size)), rfl⟩
theorem over_same {P : Program} {W : World} {y : Over W} {f : FuncId} {args : Array Value} {v : Value} (h : Calls P f args y.w fun e w' => e = .returned v ∧ y.w = w') :
    Calls P f args y.w fun e w'' => e = .returned v ∧ ∃ y' : Over W, w'' = y'.w :=
  h.mono fun _ w' ⟨he, hb⟩ => ⟨he, y, hb.symm⟩
end Go.Proofs.Ytifialdkjnmfoab.over
