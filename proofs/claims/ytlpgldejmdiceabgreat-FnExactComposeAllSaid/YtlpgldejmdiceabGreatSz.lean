/- SubstitutionOf of spec and impl. -/
import Derived.Test.YtlpgldejmdiceabGreatSy
namespace Go.Proofs.YtlpgldejmdiceabGreat.sz
open kit bg sg opn strs only hb sig isig un over gn nm inn ht gd im pt marks eqs hc hi hw hn rs br bm bw cf lf ib lawb lw cl pl mb wb nw cz ix su asc so sx sy
open Go.RowKit
set_option linter.unusedVariables false
set_option linter.unusedSimpArgs false
noncomputable def subQ (fr tt : List ByteArray) : Bool := faceB fr 16 && decide (tt.length = fr.length) && allB tt
noncomputable def subR (fr tt : List ByteArray) : Big := if subQ fr tt = true then subB fr tt else zeroBig
theorem subR_no {fr tt : List ByteArray} (h : subQ fr tt = false) : subR fr tt = zeroBig := by unfold subR; rw [h]; rfl
theorem subR_yes {fr tt : List ByteArray} (h : subQ fr tt = true) : subR fr tt = subB fr tt := by unfold subR; rw [if_pos h]
theorem sub_no1 {fr tt : List ByteArray} (h : faceB fr 16 = false) : subQ fr tt = false := by unfold subQ; rw [h]; rfl
theorem sub_no2 {fr tt : List ByteArray} (h : ¬ tt.length = fr.length) : subQ fr tt = false := by unfold subQ; rw [decide_eq_false h, Bool.and_false]; rfl
theorem sub_no3 {fr tt : List ByteArray} (h : allB tt = false) : subQ fr tt = false := by unfold subQ; rw [h, Bool.and_false]
theorem sub_yes {fr tt : List ByteArray} (h1 : faceB fr 16 = true) (h2 : tt.length = fr.length) (h3 : allB tt = true) : subQ fr tt = true := by unfold subQ; rw [h1, decide_eq_true h2, h3]; rfl
theorem sub_len (fr tt : List ByteArray) : bigMk (subR fr tt) ≤ 1048576 := by
  cases h : subQ fr tt with
  | false => rw [subR_no h]; exact zero_len
  | true =>
    rw [subR_yes h]
    unfold subQ at h
    simp only [Bool.and_eq_true, decide_eq_true_eq] at h
    have h1 := face_le h.1.1
    have h2 := sortU_len tt
    exact wiring_len (by have := h.1.2; omega) (by rw [sub_tied fr tt h.1.2]; omega)
end Go.Proofs.YtlpgldejmdiceabGreat.sz
