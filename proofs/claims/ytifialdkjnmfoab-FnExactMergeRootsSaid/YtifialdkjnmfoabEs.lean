/- laws.eqStringS at two rows of the same strings. -/
import Derived.Test.YtifialdkjnmfoabStrs
import Derived.Deep.QuietTactic
import Derived.BigQuiet
namespace Go.Proofs.Ytifialdkjnmfoab.eqs
open kit strs
open Go.RowKit

set_option maxHeartbeats 800000 in
theorem eq_any (A A' : Option Addr) (n c c' : Nat) (ss : List ByteArray) (w : World) (B B' : Nat) (h : SR w B A n (ss.map Value.string)) (h' : SR w B' A' n (ss.map Value.string)) (hn : n ≤ 1048576) :
    Calls Try.prog 47 #[.slice A n c, .slice A' n c'] w fun e w' => e = .returned (.bool true) ∧ Dr w w' := by
  go_enter Try.func47, Try.ntmps47
  go_wp2_with fail
  go_loopw [5] (fun i wr => ∃ k : Nat, k ≤ n ∧ i = .int .i64 k ∧ Dr w wr) (fun i _ => n - (intOf i).toNat)
  case atStart => exact ⟨0, Nat.zero_le _, rfl, Dr.refl w⟩
  case round =>
    obtain ⟨k, hk, rfl, hdr⟩ := hrel
    by_cases hlt : k < n
    · obtain ⟨b, off, s, rfl, hb, hsk, hc⟩ := h.str hlt
      obtain ⟨b', off', s', rfl, hb', hsk', hc'⟩ := h'.str hlt
      rw [hsk] at hsk'
      injection hsk' with e
      subst e
      have hcell : wr.cell? ⟨b, off + k, none⟩ = some (.string s) := (hdr.cell _).trans hc
      have hcell' : wr.cell? ⟨b', off' + k, none⟩ = some (.string s) := (hdr.cell _).trans hc'
      clear hsk hc hc'
      go_wp2_with fail
      go_quiet (fail)
      go_wp2_with fail
      go_roundw
      case rel => exact ⟨k + 1, by omega, by go_num, hdr.more _⟩
      case measure => simp [intOf]; omega
    · go_wp2_with fail
      go_ret
      exact ⟨rfl, hdr⟩
end Go.Proofs.Ytifialdkjnmfoab.eqs
