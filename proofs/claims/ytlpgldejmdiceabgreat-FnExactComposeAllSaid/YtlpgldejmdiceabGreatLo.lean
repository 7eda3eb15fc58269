/- spec.l2Outer: other outer names. -/
import Derived.Test.YtlpgldejmdiceabGreatQh
import Derived.Test.YtlpgldejmdiceabGreatEdp
import Derived.Test.YtlpgldejmdiceabGreatIx
import Derived.Test.YtlpgldejmdiceabGreatTg
import Derived.Test.YtlpgldejmdiceabGreatQe
import Derived.Test.YtlpgldejmdiceabGreatQf
import Derived.Handy
namespace Go.Proofs.YtlpgldejmdiceabGreat.lo
open kit bg sg opn strs only hb sig isig un over gn nm inn ht gd im pt marks eqs hc hi hw hn rs br bm bw cf lf ib isa lawb lw cl rt chd pts psp idl has pm sb wb mb rl ed rnp lep rnm tp rn ow ix tg edp
open Go.RowKit
set_option linter.unusedVariables false
set_option linter.unusedSimpArgs false
/-- the link that a link becomes where outer names become others -/
noncomputable def ouF (b : Big) (nm ou : List ByteArray) (l : Int) : Int := if l < b.edges then l else b.edges + ixF ou ((nm[(l - b.edges).toNat]?).getD noS)
noncomputable def ouB (b : Big) (nm ou : List ByteArray) : Big := ⟨b.roots, (relB (ouF b nm ou) b).nodes, b.sites, b.edges, ou, (relB (ouF b nm ou) b).inner⟩
theorem ouF_edge {b : Big} {nm ou : List ByteArray} {l : Int} (h : l < b.edges) : ouF b nm ou l = l := if_pos h
theorem ouF_name {b : Big} {nm ou : List ByteArray} {l : Int} {k : Nat} {s : ByteArray} (h : ¬ l < b.edges) (hk : l - b.edges = k) (hs : nm[k]? = some s) : ouF b nm ou l = b.edges + ixF ou s := by
  unfold ouF
  rw [if_neg h, hk, Int.toNat_natCast, hs]
  rfl
theorem ou_mix (b : Big) (nm ou : List ByteArray) : (⟨(mixW (fun _ l => ouF b nm ou l) b.inner.length (mixL (fun _ _ l => ouF b nm ou l) b.nodes.length 0 b)).roots, (mixW (fun _ l => ouF b nm ou l) b.inner.length (mixL (fun _ _ l => ouF b nm ou l) b.nodes.length 0 b)).nodes, (mixW (fun _ l => ouF b nm ou l) b.inner.length (mixL (fun _ _ l => ouF b nm ou l) b.nodes.length 0 b)).sites, b.edges, ou, (mixW (fun _ l => ouF b nm ou l) b.inner.length (mixL (fun _ _ l => ouF b nm ou l) b.nodes.length 0 b)).inner⟩ : Big) = ouB b nm ou := by
  have h1 := mixL_all (ouF b nm ou) b
  have h2 := mixW_all (ouF b nm ou) b
  unfold ouB
  rw [← h1, ← h2]
  rfl
theorem laid_outer {w : World} {lo hi c : Nat} {P : Plan} {b : Big} {A : Option Addr} {ss : List ByteArray} (h : Laid w lo hi P b) (hr : RowR w lo hi 9 1 A ss.length c (at_ ss)) (E : Int) : Laid w lo hi ⟨P.A1, P.c1, P.A2, P.c2, A, c, P.A5, P.c5, P.LA, P.LC⟩ ⟨b.roots, b.nodes, b.sites, E, ss, b.inner⟩ := ⟨h.1, h.2.1, h.2.2.1, hr, h.2.2.2.2⟩
theorem put4' {w : World} {β : Nat} {t : TypeId} {v0 v1 v2 v3 v4 v5 : Value} (h : BoxAt w β t v0 v1 v2 v3 v4 v5) (u : Value) : BoxAt (w.setCell ⟨β, 4, none⟩ u) β t v0 v1 v2 v3 u v5 := by
  have h6 : (w.setCell ⟨β, 4, none⟩ u).rowIs β t 6 _ := World.rowIs.set h 4 u
  unfold BoxAt
  refine h6.congr ?_
  intro i hi
  match i, hi with
  | 0, _ => rfl
  | 1, _ => rfl
  | 2, _ => rfl
  | 3, _ => rfl
  | 4, _ => rfl
  | 5, _ => rfl
end Go.Proofs.YtlpgldejmdiceabGreat.lo
