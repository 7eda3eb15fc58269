/- The laws' own helpers on [][2]int: eqIntA2S, markIntA2S, heldIntA2S; a slice of ports that a function gives back. -/
import Derived.Test.YtifialdkjnmfoabPts
import Derived.StillTailTactics
namespace Go.Proofs.Ytifialdkjnmfoab.ha
open kit bg opn strs only hb hi marks rs pt pts
open Go.RowKit
set_option linter.unusedVariables false

/-- ports in memory -/
def PtsAt (w : World) (B : Nat) (A : Option Addr) (n : Nat) (ps : List Port) : Prop :=
  ps.length = n ∧ (0 < n → ∃ b off, A = some ⟨b, off, none⟩ ∧ b < B ∧ ∀ (k : Nat) p, ps[k]? = some p → w.cell? ⟨b, off + k * 2, none⟩ = some (.int .i64 (p.1 : Nat)) ∧ w.cell? ⟨b, off + k * 2 + 1, none⟩ = some (.int .i64 (p.2.1 : Nat)))
theorem PtsAt.get {w : World} {B : Nat} {A : Option Addr} {n : Nat} {ps : List Port} {k : Nat} (h : PtsAt w B A n ps) (hk : k < n) : ∃ b off p, A = some ⟨b, off, none⟩ ∧ b < B ∧ ps[k]? = some p ∧ w.cell? ⟨b, off + k * 2, none⟩ = some (.int .i64 (p.1 : Nat)) ∧ w.cell? ⟨b, off + k * 2 + 1, none⟩ = some (.int .i64 (p.2.1 : Nat)) := by
  obtain ⟨b, off, e, hb, hc⟩ := h.2 (by omega)
  have hx : ps[k]? = some (ps[k]'(by have := h.1; omega)) := List.getElem?_eq_getElem _
  exact ⟨b, off, _, e, hb, hx, hc k _ hx⟩

end Go.Proofs.Ytifialdkjnmfoab.ha
