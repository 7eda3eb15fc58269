/- Whether a number is in a list: spec.l1Has, slices.Index and slices.Contains on []int. -/
import Derived.Test.YtifialdkjnmfoaaRs
namespace Go.Proofs.Ytifialdkjnmfoaa.has
open kit bg hi sig
open Go.RowKit
set_option linter.unusedVariables false

/-- whether a number is in a list -/
def hasB (zs : List Int) (z : Int) : Bool := decide (z ∈ zs)
theorem has_yes {zs : List Int} {z : Int} {k : Nat} (h : zs[k]? = some z) : hasB zs z = true := decide_eq_true (List.mem_of_getElem? h)
theorem has_no {zs : List Int} {z : Int} {n : Nat} (hn : zs.length = n) (h : ∀ (j : Nat) u, j < n → zs[j]? = some u → u ≠ z) : hasB zs z = false := decide_eq_false fun hm => by
  obtain ⟨j, hj⟩ := List.getElem?_of_mem hm
  exact h j z (by have := (List.getElem?_eq_some_iff.1 hj).1; omega) hj rfl

set_option maxHeartbeats 800000 in
theorem l1Has_any (A : Option Addr) (n c : Nat) (zs : List Int) (z : Int) (w : World) (B : Nat) (h : IntsAt w B A n zs) (hn : n ≤ 1048576) :
    Calls Try.prog 160 #[.slice A n c, .int .i64 z] w fun e w' => e = .returned (.bool (hasB zs z)) ∧ w = w' := by
  have HL := Lib.hid h.len
  go_enter Try.func160, Try.ntmps160
  go_wp2_with fail
  go_loopw [5] (fun i wr => ∃ k : Nat, k ≤ n ∧ i = .int .i64 k ∧ (∀ (j : Nat) u, j < k → zs[j]? = some u → u ≠ z) ∧ w = wr) (fun i _ => n - (intOf i).toNat)
  case atStart => exact ⟨0, Nat.zero_le _, rfl, fun j u hj => absurd hj (by omega), rfl⟩
  case round =>
    obtain ⟨k, hk, rfl, hno, rfl⟩ := hrel
    have HNo := Lib.hid hno
    clear hno
    by_cases hlt : k < n
    · obtain ⟨b, off, u, rfl, hb, hx, hc⟩ := IntsAt.get h hlt
      by_cases heq : u = z
      · have HY := Lib.hid (has_yes (heq ▸ hx))
        clear hx
        go_wp2_with fail
        go_ret
        exact ⟨by rw [HY.out]; rfl, rfl⟩
      · have HN : Hid (∀ (j : Nat) v, j < k + 1 → zs[j]? = some v → v ≠ z) := Lib.hid fun j v hj hv => by
          by_cases e : j = k
          · subst e
            rw [hx] at hv
            injection hv with hv
            exact hv ▸ heq
          · exact HNo.out j v (by omega) hv
        clear hx
        go_wp2_with fail
        go_roundw
        case rel => exact ⟨k + 1, by omega, by go_num, HN.out, by first | trivial | rfl⟩
        case measure => simp [intOf]; omega
    · have HF := Lib.hid (has_no (by have := HL.out; simpa using this) (show ∀ (j : Nat) u, j < n → zs[j]? = some u → u ≠ z from fun j u hj hu => HNo.out j u (by omega) hu))
      obtain rfl : k = n := by omega
      go_wp2_with fail
      go_ret
      exact ⟨by rw [HF.out]; rfl, rfl⟩

/-- what Index gives -/
def IxPost (zs : List Int) (z : Int) (w : World) (e : Ending) (w' : World) : Prop := ∃ r : Int, e = .returned (.int .i64 r) ∧ (decide (r ≥ 0)) = hasB zs z ∧ w = w'
end Go.Proofs.Ytifialdkjnmfoaa.has
