/- Names without one of them: spec.l4Less, impl.namesWithout. -/
import Derived.Test.YtlpgldejmdiceabGreatIx
import Derived.Test.YtlpgldejmdiceabGreatQd
import Derived.Lib.LazyBuf
namespace Go.Proofs.YtlpgldejmdiceabGreat.nl
open kit bg sg opn strs only hb sig inn ht marks eqs hc hi hw hn rs br bm bw cf lawb lw cl wb ix
open Go.RowKit
set_option linter.unusedVariables false
open Classical in
/-- the names but one -/
noncomputable def lessL (ss : List ByteArray) (s : ByteArray) : List ByteArray := ss.filter (fun x => decide (x ≠ s))
open Classical in
theorem less_in {x s : ByteArray} (h : x ≠ s) (l : List ByteArray) : lessL (l ++ [x]) s = lessL l s ++ [x] := by
  unfold lessL
  rw [List.filter_append, List.filter_cons_of_pos (by exact decide_eq_true h)]
  rfl
open Classical in
theorem less_out {x s : ByteArray} (h : x = s) (l : List ByteArray) : lessL (l ++ [x]) s = lessL l s := by
  unfold lessL
  rw [List.filter_append, List.filter_cons_of_neg (by intro e; exact of_decide_eq_true e h)]
  simp
open Classical in
theorem less_le (l : List ByteArray) (s : ByteArray) : (lessL l s).length ≤ l.length := List.length_filter_le ..
open Classical in
theorem less_all {l : List ByteArray} {s : ByteArray} (h : s ∉ l) : lessL l s = l := by
  unfold lessL
  exact List.filter_eq_self.2 (fun x hx => decide_eq_true (fun e => h (e ▸ hx)))
theorem take_snoc' {l : List ByteArray} {k : Nat} {x : ByteArray} (hx : l[k]? = some x) : l.take (k + 1) = l.take k ++ [x] := by rw [List.take_add_one, hx]; rfl
end Go.Proofs.YtlpgldejmdiceabGreat.nl
