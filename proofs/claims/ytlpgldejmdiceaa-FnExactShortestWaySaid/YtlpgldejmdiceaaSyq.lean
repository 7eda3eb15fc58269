/- Rows of one's own as lists; what the laws' texts over Systems share. -/
import Derived.Test.YtlpgldejmdiceaaSyl
import Derived.Test.YtlpgldejmdiceaaQd
namespace Go.Proofs.Ytlpgldejmdiceaa.syq
open kit bg sg opn strs only hb sig isig un over gn nm inn ht gd im pt marks eqs hc hi hw hn rs br bm bw cf lf ib isa lawb lw cl bgs cz syx sya syh syi syc syg syl
open Go.RowKit
theorem ints_row {w : World} {g m : Nat} {zs : List Int} (hl : zs.length = m) (h : w.rowIs g 3 m (iat zs)) : IntsAt w w.heap.size (some ⟨g, 0, none⟩) m zs := by
  refine ⟨by simpa using hl, fun _ => ⟨g, 0, rfl, h.lt, fun k u hk => ?_⟩⟩
  rw [List.getElem?_map] at hk
  obtain ⟨z, hz, rfl⟩ := Option.map_eq_some_iff.1 hk
  have hlt := (List.getElem?_eq_some_iff.1 hz).1
  rw [Nat.zero_add, h.cell (by omega), iat_of hz]
theorem tri_rowN {w : World} {g m : Nat} {ts : List Tri} (hl : ts.length = m) (h : w.rowIs g 76 (m * 3) (trc ts)) : TriAt w w.heap.size (some ⟨g, 0, none⟩) m ts := by
  subst hl
  exact tri_row h (Nat.le_refl _)
end Go.Proofs.Ytlpgldejmdiceaa.syq
