/- spec.l1Stands: whether a byte stands in a string. -/
import Derived.Test.YtlddkechmkjdeaaDoorKit
import Derived.Deep.QuietTactic
import Derived.BigQuiet
namespace Go.Proofs.YtlddkechmkjdeaaDoor.hs
open kit
open Go.RowKit

/-- a byte stands in a string -/
def has (s : ByteArray) (c : Int) : Bool := s.data.toList.any fun x => (x.toNat : Int) == c
theorem has_take {s : ByteArray} {c : Int} {k : Nat} (hk : k < s.size) (h : (s.data.toList.take k).any (fun x => (x.toNat : Int) == c) = false) (hc : ((s[k].toNat : Int) == c) = false) :
    (s.data.toList.take (k + 1)).any (fun x => (x.toNat : Int) == c) = false := by
  have e : s.data.toList[k]? = some s[k] := by
    have : k < s.data.toList.length := by simpa using hk
    rw [List.getElem?_eq_getElem this]; rfl
  rw [take_snoc e, List.any_append, h]
  simpa using hc
theorem has_yes {s : ByteArray} {c : Int} {k : Nat} (hk : k < s.size) (hc : ((s[k].toNat : Int) == c) = true) : has s c = true := by
  unfold has
  rw [List.any_eq_true]
  exact ⟨s[k], by
    have : k < s.data.toList.length := by simpa using hk
    exact List.mem_of_getElem? (i := k) (by rw [List.getElem?_eq_getElem this]; rfl), hc⟩

def boolPost (b : Bool) (w : World) (e : Ending) (w' : World) : Prop := e = .returned (.bool b) ∧ w' = w

set_option maxHeartbeats 400000 in
theorem stands_any (s : ByteArray) (c : Int) (w : World) (hs : s.size ≤ maxLen) :
    Calls Tryd.prog 33 #[.string s, .int .u8 c] w (boolPost (has s c) w) := by
  unfold maxLen at hs
  go_enter Tryd.func33, Tryd.ntmps33
  go_wp2
  go_loop [5] (fun i => ∃ k : Nat, k ≤ s.size ∧ i = .int .i64 k ∧ (s.data.toList.take k).any (fun x => (x.toNat : Int) == c) = false) (fun i => s.size - (intOf i).toNat)
  case atStart => exact ⟨0, Nat.zero_le _, rfl, by simp⟩
  case round =>
    obtain ⟨k, hk, rfl, hno⟩ := hrel
    have HN := Lib.hid hno
    clear hno
    by_cases hlt : k < s.size
    · cases hq : ((s[k].toNat : Int) == c) with
      | true =>
        have HQ := Lib.hid hq
        go_wp2
        go_ret
        exact ⟨by rw [has_yes hlt HQ.out]; rfl, rfl⟩
      | false =>
        have HQ := Lib.hid hq
        go_wp2
        go_round
        case rel => exact ⟨k + 1, by omega, by go_num, has_take hlt HN.out HQ.out⟩
        case measure => simp [intOf]; omega
    · go_wp2
      go_ret
      refine ⟨?_, rfl⟩
      have e := HN.out
      rw [List.take_of_length_le (by simp; omega)] at e
      unfold has
      rw [e]
      rfl

theorem stands_q (s : ByteArray) (c : Int) (w : World) (hs : s.size ≤ maxLen) :
    Calls Tryd.prog 33 #[.string s, .int .u8 c] w fun e w' => e = .returned (.bool (has s c)) ∧ w' = w := stands_any s c w hs
end Go.Proofs.YtlddkechmkjdeaaDoor.hs
