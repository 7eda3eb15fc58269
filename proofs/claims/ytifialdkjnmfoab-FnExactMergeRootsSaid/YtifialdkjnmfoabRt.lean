/- Two slices that a function gives back, in two rows of the call's own. -/
import Derived.Test.YtifialdkjnmfoabRs
namespace Go.Proofs.Ytifialdkjnmfoab.rs
open kit bg strs only hb sig inn ht marks eqs hi
open Go.RowKit
set_option linter.unusedVariables false

section
variable {w w' : World} {lo hi n g : Nat} {t : TypeId} {v : Value} {ys : List Value} {M : Nat → Value}
theorem Res.stay (h : Res w lo hi t v ys) (hb : ∀ b f c, w.rowIs b t c f → lo ≤ b → b < hi → w'.heap[b]? = w.heap[b]?) : Res w' lo hi t v ys := by
  obtain ⟨A, c, rfl, hs, hq⟩ := h
  refine ⟨A, c, rfl, ⟨hs.1, fun hp => ?_⟩, hq.imp id ?_⟩
  · obtain ⟨b, off, e, hbb, hc⟩ := hs.2 hp
    rcases hq with ⟨e2, -, e3⟩ | ⟨g, f, e2, h1, h2, h3, h4⟩
    · rw [e3] at hp; exact absurd hp (by simp)
    · rw [e2] at e
      injection e with e
      injection e with e5 e6 _
      subst e5
      refine ⟨g, off, by rw [e2, e6], hbb, fun k u hu => ?_⟩
      exact (World.cell?_of_block (w := w) (hb g f c h4 h1 h2)).trans (hc k u hu)
  · rintro ⟨g, f, e, h1, h2, h3, h4⟩
    exact ⟨g, f, e, h1, h2, h3, h4.of_block (hb g f c h4 h1 h2)⟩
theorem Res.on (h : Res w lo hi t v ys) (hb : Below w.heap.size w w') : Res w' lo hi t v ys := h.stay fun b f c hr _ _ => hb.block b hr.lt
theorem Res.far {l r : Nat} (h : Res w lo hi t v ys) (ho : Only l r w w') (hr : r ≤ lo ∨ hi ≤ l) : Res w' lo hi t v ys := h.stay fun b f c hb h1 h2 => ho.block b hb.lt (by omega)
theorem Mkd.on (h : Mkd w lo hi t v n M) (hb : Below w.heap.size w w') : Mkd w' lo hi t v n M := by
  obtain ⟨A, c, rfl, hr⟩ := h
  refine ⟨A, c, rfl, hr.imp id ?_⟩
  rintro ⟨g, f, e, h1, h2, h3, h4, h5⟩
  exact ⟨g, f, e, h1, h2, h3, h4.of_block (hb.block g h4.lt), h5⟩
theorem Res.one (h : Owns w lo t v ys) : ∃ g, lo ≤ g ∧ v.ownBlock = some g ∧ g < w.heap.size ∧ Res w g (g + 1) t v ys := by
  obtain ⟨g, cap, f, rfl, hb, hc, hr, hf⟩ := h.row
  exact ⟨g, hb, rfl, hr.lt, _, _, rfl, SR.of_row2 hr hc (Nat.lt_succ_self _) (fun k u hu => ⟨(List.getElem?_eq_some_iff.1 hu).1, hf k u hu⟩) rfl, .inr ⟨g, f, rfl, Nat.le_refl _, Nat.lt_succ_self _, hc, hr⟩⟩
theorem Res.one_empty (w : World) (t : TypeId) : Res (w.alloc (.cells #[] t)) w.heap.size (w.heap.size + 1) t (.slice (some ⟨w.heap.size, 0, none⟩) 0 0) [] :=
  ⟨_, 0, rfl, SR.nil_, .inr ⟨_, _, rfl, Nat.le_refl _, Nat.lt_succ_self _, Nat.le_refl _, row_new w #[] t 0 rfl⟩⟩
end
end Go.Proofs.Ytifialdkjnmfoab.rs
namespace Go.Proofs.Ytifialdkjnmfoab.rt
open Go.RowKit
open kit bg strs only hb sig inn ht marks eqs hi rs
/-- two slices in two rows from block lo on -/
def Two (w : World) (lo : Nat) (t t' : TypeId) (v v' : Value) (ys ys' : List Value) : Prop :=
  ∃ g g', g ≠ g' ∧ lo ≤ g ∧ lo ≤ g' ∧ Res w g (g + 1) t v ys ∧ Res w g' (g' + 1) t' v' ys'
theorem Two.nil {w : World} {lo : Nat} {t t' : TypeId} : Two w lo t t' (.slice none 0 0) (.slice none 0 0) [] [] := ⟨lo, lo + 1, by omega, Nat.le_refl _, Nat.le_succ _, Res.nil, Res.nil⟩
theorem Two.low {w : World} {lo lo' : Nat} {t t' : TypeId} {v v' : Value} {ys ys' : List Value} (h : Two w lo t t' v v' ys ys') (hl : lo' ≤ lo) : Two w lo' t t' v v' ys ys' := by
  obtain ⟨g, g', a, b, c, d⟩ := h
  exact ⟨g, g', a, by omega, by omega, d⟩
def Res2Post (t t' : TypeId) (q : Bool) (ys ys' : List Value) (w : World) (e : Ending) (w' : World) : Prop :=
  ∃ v v', e = .returned (.tuple #[v, v', .bool q]) ∧ Two w' w.heap.size t t' v v' ys ys' ∧ Below w.heap.size w w'
end Go.Proofs.Ytifialdkjnmfoab.rt
