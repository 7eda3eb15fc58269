/- spec.l1Num writes a number as strconv does (Lib.itoa), for every number of at most 18 digits. -/
import Derived.Test.YtlddkechmkjdeaaDoorKit
import Derived.Lib.ItoaNum
import Derived.Deep.QuietTactic
import Derived.BigQuiet
namespace Go.Proofs.YtlddkechmkjdeaaDoor.num
open kit
open Go.RowKit

theorem digit_cut : ∀ r : Nat, r < 10 → (ByteArray.mk #[48, 49, 50, 51, 52, 53, 54, 55, 56, 57]).extract r (r + 1) = ⟨#[UInt8.ofNat (48 + r)]⟩ := by decide

theorem ret_str {a b : ByteArray} (h : a = b) : Ending.returned (.string a) = .returned (.string b) := by rw [h]
theorem join_str (a : List UInt8) (b : UInt8) : (ByteArray.mk a.toArray) ++ ⟨#[b]⟩ = ⟨(a ++ [b]).toArray⟩ := by
  apply ByteArray.ext
  simp

/-- the digits of a number that is not below 0, as a string -/
def digs (n : Int) : ByteArray := ⟨(Lib.decDigits n.toNat).toArray⟩
theorem digs_small {n : Int} (h0 : 0 ≤ n) (h : n < 10) : digs n = (ByteArray.mk #[48, 49, 50, 51, 52, 53, 54, 55, 56, 57]).extract n.toNat (n + 1).toNat := by
  have e : (n + 1).toNat = n.toNat + 1 := by omega
  rw [e, digit_cut _ (by omega), digs, dec_small (by omega)]
theorem digs_big {n : Int} (_ : 0 ≤ n) (h : ¬ n < 10) : digs n = digs (n / 10) ++ (ByteArray.mk #[48, 49, 50, 51, 52, 53, 54, 55, 56, 57]).extract (n % 10).toNat (n % 10 + 1).toNat := by
  have e : (n % 10 + 1).toNat = (n % 10).toNat + 1 := by omega
  rw [e, digit_cut _ (by omega), digs, dec_big (by omega), digs, join_str]
  have e1 : (n / 10).toNat = n.toNat / 10 := by omega
  have e2 : (n % 10).toNat = n.toNat % 10 := by omega
  rw [e1, e2]

theorem cut_run (w : World) (r : Int) (h0 : 0 ≤ r) (h1 : r < 10) :
    (Instr.slice 9 (.string ⟨#[48, 49, 50, 51, 52, 53, 54, 55, 56, 57]⟩) (some (.int .i64 r)) (some (.int .i64 (r + 1))) none).run Tryd.prog w = .ok (.string ((ByteArray.mk #[48, 49, 50, 51, 52, 53, 54, 55, 56, 57]).extract r.toNat (r + 1).toNat)) w := by
  have hs : ((ByteArray.mk #[48, 49, 50, 51, 52, 53, 54, 55, 56, 57]).size : Int) = 10 := rfl
  rw [run_slice_string_if w _ _ _ _ _ _ Tryd.underlying9, if_pos (by rw [hs]; omega), if_pos (by omega)]

theorem digs_size {n : Int} (h : n ≤ 1000000000) : (digs n).size ≤ 1000000001 := by
  have e : (digs n).size = (Lib.decDigits n.toNat).length := by simp [digs, ByteArray.size]
  have := dec_len n.toNat n.toNat (Nat.le_refl _)
  omega

set_option maxHeartbeats 400000 in
theorem nat_any (N : Nat) : ∀ (n : Int) (w : World), 0 ≤ n → n ≤ N → n ≤ 1000000000 →
    Calls Tryd.prog 25 #[.int .i64 n] w fun e w' => e = .returned (.string (digs n)) ∧ ∃ m, w' = w.drewN m := by
  induction N with
  | zero =>
    intro n w h0 hN hb
    have h10 : n < 10 := by omega
    rw [digs_small h0 h10]
    go_enter Tryd.func25, Tryd.ntmps25
    go_wp2_with fail
    go_ret
    exact ⟨rfl, 0, rfl⟩
  | succ N ih =>
    intro n w h0 hN hb
    by_cases h10 : n < 10
    · rw [digs_small h0 h10]
      go_enter Tryd.func25, Tryd.ntmps25
      go_wp2_with fail
      go_ret
      exact ⟨rfl, 0, rfl⟩
    · rw [digs_big h0 h10]
      go_enter Tryd.func25, Tryd.ntmps25
      have p1 : 0 ≤ n / 10 := by omega
      have p2 : n / 10 ≤ N := by omega
      have p3 : n / 10 ≤ 1000000000 := by omega
      have p4 : 0 ≤ n % 10 := by omega
      have p5 : n % 10 < 10 := by omega
      have p6 : n % 10 + 1 ≤ 10 := by omega
      go_wp2_with fail
      have p7 : 0 ≤ n % 10 + 1 := by omega
      have p9 : n % 10 ≤ n % 10 + 1 := by omega
      have hz := digs_size p3
      have hcat : ¬ 9223372036854775807 < (digs (n / 10)).size + ((n % 10 + 1).toNat - (n % 10).toNat) := by omega
      have q3 : IntKind.i64.wrap (n / 10) = n / 10 := IntWalk.i64_in _ (by omega)
      have q4 : IntKind.i64.wrap (n % 10 + 1) = n % 10 + 1 := IntWalk.i64_in _ (by omega)
      have q1 : n.tdiv 10 = n / 10 := Int.tdiv_eq_ediv_of_nonneg h0
      have q2 : n.tmod 10 = n % 10 := Int.tmod_eq_emod_of_nonneg h0
      go_quiet ((go_at_call 25; exact Calls.quiet_of (ih (n / 10) _ p1 p2 p3)))
      clear q1 q2 q3 q4 hcat
      go_wp2_with fail
      go_ret
      exact ⟨rfl, _, rfl⟩

theorem num_any (n : Int) (w : World) (h0 : -1000000000 ≤ n) (h1 : n ≤ 1000000000) :
    Calls Tryd.prog 25 #[.int .i64 n] w fun e w' => e = .returned (.string ⟨(Lib.itoa n).toArray⟩) ∧ Dr w w' := by
  by_cases hn : n < 0
  · have e : (ByteArray.mk (Lib.itoa n).toArray) = ⟨#[45]⟩ ++ digs (-n) := by
      unfold Lib.itoa digs
      rw [if_pos hn]
      have e2 : (-n).toNat = n.natAbs := by omega
      rw [e2]
      apply ByteArray.ext
      simp
    rw [e]
    go_enter Tryd.func25, Tryd.ntmps25
    go_wp2_with fail
    refine (nat_any (-n).toNat (-n) _ (by omega) (by omega) (by omega)).mono ?_
    rintro e w' ⟨rfl, m, rfl⟩
    have hz := digs_size (n := -n) (by omega)
    go_wp2_with fail
    go_ret
    exact ⟨rfl, m, rfl⟩
  · have e : (ByteArray.mk (Lib.itoa n).toArray) = digs n := by
      unfold Lib.itoa digs
      rw [if_neg hn]
    rw [e]
    exact nat_any n.toNat n w (by omega) (by omega) h1
end Go.Proofs.YtlddkechmkjdeaaDoor.num
