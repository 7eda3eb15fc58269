/- What the laws over a signature and a Bigraph share: the copy of a Bigraph in a variable of its own. -/
import Derived.Test.YtifialdkjnmfoabIsA
import Derived.Deep.RegionHeld3
namespace Go.Proofs.Ytifialdkjnmfoab.lawb
open kit bg opn sig isig hc only hb gd cf ht
open Go.RowKit
set_option linter.unusedVariables false

/-- a variable of a Bigraph's own, and its six parts stored -/
def put6 (t : TypeId) (w : World) (a b c d e f : Value) : World :=
  ((((((w.alloc (.cells #[.int .i64 0, .slice none 0 0, .slice none 0 0, .int .i64 0, .slice none 0 0, .slice none 0 0] t)).setCell ⟨w.heap.size, 0, none⟩ a).setCell ⟨w.heap.size, 1, none⟩ b).setCell ⟨w.heap.size, 2, none⟩ c).setCell ⟨w.heap.size, 3, none⟩ d).setCell ⟨w.heap.size, 4, none⟩ e).setCell ⟨w.heap.size, 5, none⟩ f
theorem put6_at (t : TypeId) (w : World) (a b c d e f : Value) : BoxAt (put6 t w a b c d e f) w.heap.size t a b c d e f ∧ Below w.heap.size w (put6 t w a b c d e f) ∧ (put6 t w a b c d e f).heap.size = w.heap.size + 1 := by
  refine ⟨?_, ?_, by simp [put6, World.setCell]⟩
  · have h := six_new w (.int .i64 0) (.slice none 0 0) (.slice none 0 0) (.int .i64 0) (.slice none 0 0) (.slice none 0 0) t
    have h6 : (put6 t w a b c d e f).rowIs w.heap.size t 6 _ := World.rowIs.set (World.rowIs.set (World.rowIs.set (World.rowIs.set (World.rowIs.set (World.rowIs.set h 0 a) 1 b) 2 c) 3 d) 4 e) 5 f
    unfold BoxAt
    refine h6.congr ?_
    intro i hi
    match i, hi with
    | 0, _ => rfl
    | 1, _ => rfl
    | 2, _ => rfl
    | 3, _ => rfl
    | 4, _ => rfl
    | 5, _ => rfl
  · unfold put6
    exact (((((((Below.refl w.heap.size w).alloc (Nat.le_refl _) _).setCell (p := ⟨w.heap.size, 0, none⟩) (Nat.le_refl _) a).setCell (p := ⟨w.heap.size, 1, none⟩) (Nat.le_refl _) b).setCell (p := ⟨w.heap.size, 2, none⟩) (Nat.le_refl _) c).setCell (p := ⟨w.heap.size, 3, none⟩) (Nat.le_refl _) d).setCell (p := ⟨w.heap.size, 4, none⟩) (Nat.le_refl _) e).setCell (p := ⟨w.heap.size, 5, none⟩) (Nat.le_refl _) f
end Go.Proofs.Ytifialdkjnmfoab.lawb
