/- Rn. -/
import Derived.Test.YtfjgapkjpmkplaaGreatBa
import Derived.Test.YtfjgapkjpmkplaaGreatBc
import Derived.Test.YtfjgapkjpmkplaaGreatBd
import Derived.Test.YtfjgapkjpmkplaaGreatRows
import Derived.WalkKit
import Derived.WalkSpells
import Derived.WalkLawsBesides
import Derived.ProofKit
import Derived.OpenShut
import Derived.ShutString
import Derived.Deep.OwnRows
import Derived.Deep.Draws
import Derived.SliceStrings
import Derived.ChangeOld
import Derived.Below
import Derived.Lib.Hide
import Derived.Lib.ItoaNum
import Derived.Deep.QuietTactic
import Derived.BigQuiet
import Derived.Outline
import Derived.StillTailTactics
import Derived.Deep.RegionWith
import Derived.Deep.RegionHeld3
import Derived.Deep.Slices
import Derived.Deep.Fields
import Derived.ChangeSame
import Derived.Lib.SmallJoins
import Derived.Maps.OwnOps
import Derived.Maps.OwnIn
import Derived.Maps.Views
import Derived.Maps.AppendAt
import Derived.RangeFuncBox
import Derived.RangeFuncLeaves
import Derived.Shelf.Abstract
import Derived.OwnWalkIn
import Derived.TacticsInMore
import Derived.LoopNIn
import Derived.LoopIn
import Derived.RangeFuncWrites
import Derived.RangeFuncNested
import Derived.JoinedOf
import Derived.Deep.AppendLies
import Derived.Deep.RegionLaw
import Derived.Laws.AppendOwnNone
import Derived.Lib.SliceRun
import Derived.Deep.Cut
import Derived.Deep.CutRange
import Derived.OrdersHeld
import Derived.StillTail
import Derived.Lib.Walk
import Derived.Deep.LoopGhost
import Derived.Handy
set_option linter.unusedSimpArgs false
set_option linter.unusedVariables false
namespace Go.Proofs.YtfjgapkjpmkplaaGreat.rn
open kit bg sg opn strs only hb sig isig un over gn nm inn ht gd im pt marks eqs hc hi hw hn rs br bm bw cf lf ib lw cl rt has sb wb mb tp
open Go.RowKit
set_option linter.unusedVariables false
theorem nil_at {w : World} {g B : Nat} {t : TypeId} {sz : Nat} (h : w.heap[g]? = some (.cells #[] t)) (hB : B ≤ g) : w.ownsRow B t sz (.slice (some ⟨g, 0, none⟩) 0 0) 0 [] := by
  exact ⟨by simp, .inr ⟨g, 0, #[], rfl, hB, h, Nat.le_refl _, Nat.zero_le _, by simp, by simp⟩⟩
theorem owned_strs2 {w : World} {lo n c : Nat} {A : Option Addr} {ss : List ByteArray} (h : w.ownsRow lo 9 1 (.slice A n c) n (ss.map Value.string)) (hl : ss.length = n) : RowR w lo w.heap.size 9 1 A n c (at_ ss) := by
  obtain ⟨A', c', hv, hr⟩ := strs_owned h
  injection hv with h1 h2 h3
  subst h1 h3
  rw [hl] at hr
  exact hr
theorem cells_two_new (w : World) (a b : Value) (t : TypeId) : ∀ (j : Nat) u, [a, b][j]? = some u → (w.alloc (.cells #[a, b] t)).cell? ((⟨w.heap.size, 0, none⟩ : Addr).add j) = some u := by
  have hr := row_new w #[a, b] t 2 rfl
  intro j u hu
  rw [cl.add_none]
  match j, hu with
  | 0, hu =>
    simp at hu
    subst hu
    exact (hr.cell (show 0 < 2 by omega) : _)
  | 1, hu =>
    simp at hu
    subst hu
    exact (hr.cell (show 1 < 2 by omega) : _)
  | j + 2, hu => simp at hu
theorem owns_on {w w' : World} {base sz n : Nat} {e : TypeId} {v : Value} {xs : List Value} (h : w.ownsRow base e sz v n xs) (hb : Below w.heap.size w w') : w'.ownsRow base e sz v n xs := by
  obtain ⟨h1, h2⟩ := h
  refine ⟨h1, h2.imp id ?_⟩
  rintro ⟨g, cap, cur, e1, hbb, hh, r⟩
  exact ⟨g, cap, cur, e1, hbb, (hb.block g (Array.getElem?_eq_some_iff.1 hh).1).trans hh, r⟩
end Go.Proofs.YtfjgapkjpmkplaaGreat.rn
