/- Small functions of both programs: numbers within bounds, names. -/
import Derived.Test.YtifialdkjnmfoabBig
import Derived.Outline
import Derived.WalkLawsBesides
namespace Go.Proofs.Ytifialdkjnmfoab.sg
open kit bg
open Go.RowKit
set_option linter.unusedVariables false

theorem in_any (x a b : Int) (w : World) : Calls Try.prog 74 #[.int .i64 x, .int .i64 a, .int .i64 b] w fun e w' => e = .returned (.bool (inb x a b)) ∧ w = w' := by
  by_cases h1 : a ≤ x
  · by_cases h2 : x ≤ b
    · go_enter Try.func74, Try.ntmps74
      go_wp2
      go_ret
      exact ⟨by rw [inb_mk ⟨h1, h2⟩]; rfl, rfl⟩
    · have h2' : b < x := by omega
      go_enter Try.func74, Try.ntmps74
      go_wp2
      go_ret
      exact ⟨by rw [inb_not (fun h => absurd h.2 (by omega))]; rfl, rfl⟩
  · have h1' : x < a := by omega
    go_enter Try.func74, Try.ntmps74
    go_wp2
    go_ret
    exact ⟨by rw [inb_not (fun h => absurd h.1 (by omega))]; rfl, rfl⟩
theorem win_any (x a b : Int) (w : World) : Calls Try.prog 109 #[.int .i64 x, .int .i64 a, .int .i64 b] w fun e w' => e = .returned (.bool (inb x a b)) ∧ w = w' := by
  by_cases h1 : a ≤ x
  · by_cases h2 : x ≤ b
    · go_enter Try.func109, Try.ntmps109
      go_wp2
      go_ret
      exact ⟨by rw [inb_mk ⟨h1, h2⟩]; rfl, rfl⟩
    · have h2' : b < x := by omega
      go_enter Try.func109, Try.ntmps109
      go_wp2
      go_ret
      exact ⟨by rw [inb_not (fun h => absurd h.2 (by omega))]; rfl, rfl⟩
  · have h1' : x < a := by omega
    go_enter Try.func109, Try.ntmps109
    go_wp2
    go_ret
    exact ⟨by rw [inb_not (fun h => absurd h.1 (by omega))]; rfl, rfl⟩

theorem let_of {c : UInt8} (h1 : ¬ (c.toNat : Int) < 97) (h2 : ¬ (122 : Int) < (c.toNat : Int)) : letB c = true := decide_eq_true ⟨by omega, by omega⟩
theorem all_take {s : ByteArray} {k : Nat} (hk : k < s.size) (h : (s.data.toList.take k).all letB = true) (hc : letB s[k] = true) : (s.data.toList.take (k + 1)).all letB = true := by
  have e : s.data.toList[k]? = some s[k] := by
    have : k < s.data.toList.length := by simpa using hk
    rw [List.getElem?_eq_getElem this]; rfl
  rw [take_snoc e, List.all_append, h]
  simpa using hc
theorem name_no {s : ByteArray} {k : Nat} (hk : k < s.size) (hc : letB s[k] = false) : nameB s = false := by
  have h : s.data.toList.all letB = false := by
    rw [List.all_eq_false]
    exact ⟨s[k], by
      have : k < s.data.toList.length := by simpa using hk
      exact List.mem_of_getElem? (i := k) (by rw [List.getElem?_eq_getElem this]; rfl), by rw [hc]; decide⟩
  unfold nameB
  rw [h]; rfl
theorem name_all {s : ByteArray} {k : Nat} (hk : s.size ≤ k) (h : (s.data.toList.take k).all letB = true) : nameB s = inb s.size 1 4 := by
  rw [List.take_of_length_le (by simpa using hk)] at h
  unfold nameB
  rw [h]; simp

set_option maxHeartbeats 800000 in
theorem nm_any (s : ByteArray) (w : World) (hs : s.size ≤ maxLen) : Calls Try.prog 107 #[.string s] w fun e w' => e = .returned (.bool (nameB s)) ∧ w = w' := by
  unfold maxLen at hs
  go_enter Try.func107, Try.ntmps107
  go_wp2_with fail
  go_loop [3] (fun i => ∃ k : Nat, k ≤ s.size ∧ i = .int .i64 k ∧ (s.data.toList.take k).all letB = true) (fun i => s.size - (intOf i).toNat)
  case atStart => exact ⟨0, Nat.zero_le _, rfl, by simp⟩
  case round =>
    obtain ⟨k, hk, rfl, hall⟩ := hrel
    have HA := Lib.hid hall
    clear hall
    by_cases hlt : k < s.size
    · by_cases h1 : (s[k].toNat : Int) < 97
      · have HN := Lib.hid (name_no hlt (decide_eq_false (fun h => absurd h.1 (by omega))))
        go_wp2_with fail
        go_ret
        exact ⟨by rw [HN.out]; rfl, rfl⟩
      · by_cases h2 : (122 : Int) < (s[k].toNat : Int)
        · have HN := Lib.hid (name_no hlt (decide_eq_false (fun h => absurd h.2 (by omega))))
          go_wp2_with fail
          go_ret
          exact ⟨by rw [HN.out]; rfl, rfl⟩
        · have HN := Lib.hid (all_take hlt HA.out (let_of h1 h2))
          go_wp2_with fail
          go_round
          case rel => exact ⟨k + 1, by omega, by go_num, HN.out⟩
          case measure => simp [intOf]; omega
    · have HN := Lib.hid (name_all (s := s) (k := k) (by omega) HA.out)
      go_wp2_with (go_at_call 74; refine (in_any _ _ _ _).mono ?_; rintro e w' ⟨rfl, rfl⟩)
      go_ret
      exact ⟨by rw [HN.out]; rfl, rfl⟩

set_option maxHeartbeats 800000 in
theorem inm_any (s : ByteArray) (w : World) (hs : s.size ≤ maxLen) : Calls Try.prog 115 #[.string s] w fun e w' => e = .returned (.bool (nameB s)) ∧ w = w' := by
  unfold maxLen at hs
  cases hq : inb (s.size : Int) 1 4 with
  | false =>
    have HN : Hid (nameB s = false) := Lib.hid (by unfold nameB; rw [hq]; simp)
    go_enter Try.func115, Try.ntmps115
    go_wp2_with (go_at_call 109; refine (win_any _ _ _ _).mono ?_; rintro e w' ⟨rfl, rfl⟩)
    go_ret
    exact ⟨by rw [HN.out]; rfl, rfl⟩
  | true =>
    have HQ := Lib.hid hq
    go_enter Try.func115, Try.ntmps115
    go_wp2_with (go_at_call 109; refine (win_any _ _ _ _).mono ?_; rintro e w' ⟨rfl, rfl⟩)
    clear hq
    go_loop [3, 10] (fun _ i => ∃ k : Nat, k ≤ s.size ∧ i = .int .i64 k ∧ (s.data.toList.take k).all letB = true) (fun _ i => s.size - (intOf i).toNat)
    case atStart => exact ⟨0, Nat.zero_le _, rfl, by simp⟩
    case round =>
      obtain ⟨k, hk, rfl, hall⟩ := hrel
      have HA := Lib.hid hall
      clear hall
      by_cases hlt : k < s.size
      · by_cases h1 : (s[k].toNat : Int) < 97
        · have HN := Lib.hid (name_no hlt (decide_eq_false (fun h => absurd h.1 (by omega))))
          go_wp2_with fail
          go_ret
          exact ⟨by rw [HN.out]; rfl, rfl⟩
        · by_cases h2 : (122 : Int) < (s[k].toNat : Int)
          · have HN := Lib.hid (name_no hlt (decide_eq_false (fun h => absurd h.2 (by omega))))
            go_wp2_with fail
            go_ret
            exact ⟨by rw [HN.out]; rfl, rfl⟩
          · have HN := Lib.hid (all_take hlt HA.out (let_of h1 h2))
            go_wp2_with fail
            go_round
            case rel => exact ⟨k + 1, by omega, by go_num, HN.out⟩
            case measure => simp [intOf]; omega
      · have HN := Lib.hid (name_all (s := s) (k := k) (by omega) HA.out)
        go_wp2_with fail
        go_ret
        exact ⟨by rw [HN.out, HQ.out]; rfl, rfl⟩
end Go.Proofs.Ytifialdkjnmfoab.sg
