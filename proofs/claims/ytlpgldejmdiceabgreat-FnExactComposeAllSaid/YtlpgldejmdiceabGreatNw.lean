/- Lists of names: impl.isFace, spec.l3Names; NewNames of spec and impl. -/
import Derived.Test.YtlpgldejmdiceabGreatQd
namespace Go.Proofs.YtlpgldejmdiceabGreat.nw
open kit bg sg opn strs only hb sig isig un over gn nm inn ht gd im pt marks eqs hc hi hw hn rs br bm bw cf lf ib lawb lw cl pl mb wb
open Go.RowKit
set_option linter.unusedVariables false

/-- whether a list is of names, and not too long -/
noncomputable def faceB (ss : List ByteArray) (M : Int) : Bool := namesB ss && decide ((ss.length : Int) ≤ M)
theorem face_le {ss : List ByteArray} {M : Int} (h : faceB ss M = true) : (ss.length : Int) ≤ M := by
  unfold faceB at h
  simp only [Bool.and_eq_true, decide_eq_true_eq] at h
  exact h.2
set_option maxHeartbeats 800000 in
theorem isFace_any (A : Option Addr) (n c : Nat) (ss : List ByteArray) (M : Int) (w : World) (h : SR w w.heap.size A n (ss.map Value.string)) (hn : n ≤ 1048576) (hs : ∀ s ∈ ss, s.size ≤ 1048576) :
    Calls Tryz.prog 60 #[.slice A n c, .int .i64 M] w fun e w' => e = .returned (.bool (faceB ss M)) ∧ w = w' := by
  have C := areNames_any A n c ss w w.heap.size h hn hs
  have hl := h.strlen
  have hF : faceB ss M = (namesB ss && decide ((n : Int) ≤ M)) := by unfold faceB; rw [hl]
  rw [hF]
  obtain ⟨q, hq⟩ : ∃ q, namesB ss = q := ⟨_, rfl⟩
  rw [hq] at C ⊢
  clear hF hq hl
  by_cases hle : (n : Int) ≤ M
  · go_enter Tryz.func60, Tryz.ntmps60
    go_wp2_with fail
    refine C.mono ?_
    rintro e w1 ⟨rfl, rfl⟩
    cases q with
    | false =>
      go_wp2_with fail
      go_ret
      exact ⟨rfl, rfl⟩
    | true =>
      go_wp2_with fail
      go_ret
      exact ⟨by simp [hle], rfl⟩
  · go_enter Tryz.func60, Tryz.ntmps60
    go_wp2_with fail
    go_ret
    exact ⟨by simp [hle], rfl⟩
noncomputable def nwR (ss : List ByteArray) : Big := if faceB ss 16 = true then wiring 0 ss [] else zeroBig
theorem nwR_no {ss : List ByteArray} (h : faceB ss 16 = false) : nwR ss = zeroBig := by unfold nwR; rw [h]; rfl
theorem nwR_yes {ss : List ByteArray} (h : faceB ss 16 = true) : nwR ss = wiring 0 ss [] := by unfold nwR; rw [if_pos h]
theorem nw_len (ss : List ByteArray) : bigMk (nwR ss) ≤ 1048576 := by
  cases h : faceB ss 16 with
  | false => rw [nwR_no h]; exact zero_len
  | true => rw [nwR_yes h]; exact wiring_len (by have := face_le h; omega) (by simp)

end Go.Proofs.YtlpgldejmdiceabGreat.nw
