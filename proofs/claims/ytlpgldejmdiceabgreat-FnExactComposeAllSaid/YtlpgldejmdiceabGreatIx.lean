/- Names in lists of names: spec.l2At, slices.Index and slices.Contains at strings. -/
import Derived.Test.YtlpgldejmdiceabGreatQd
namespace Go.Proofs.YtlpgldejmdiceabGreat.ix
open kit bg sg opn strs only hb sig inn ht marks eqs hc hi hw hn rs br bm bw cf lawb lw
open Go.RowKit
set_option linter.unusedVariables false
open Classical in
/-- where a name stands in a list, or -1 -/
noncomputable def ixF (ss : List ByteArray) (s : ByteArray) : Int := if ss.findIdx (fun y => decide (y = s)) < ss.length then (ss.findIdx (fun y => decide (y = s)) : Nat) else -1
open Classical in
theorem ixF_no {ss : List ByteArray} {s : ByteArray} (h : ∀ (j : Nat) u, ss[j]? = some u → u ≠ s) : ixF ss s = -1 := by
  unfold ixF
  rw [if_neg]
  intro hlt
  have h1 := List.findIdx_getElem (w := hlt)
  exact h _ _ (List.getElem?_eq_getElem hlt) (of_decide_eq_true h1)
open Classical in
theorem ixF_at {ss : List ByteArray} {s : ByteArray} {k : Nat} (hk : ss[k]? = some s) (h : ∀ (j : Nat) u, j < k → ss[j]? = some u → u ≠ s) : ixF ss s = k := by
  have hkl := (List.getElem?_eq_some_iff.1 hk).1
  have e : ss.findIdx (fun y => decide (y = s)) = k := by
    refine (List.findIdx_eq hkl).2 ⟨?_, fun j hj => ?_⟩
    · have := (List.getElem?_eq_some_iff.1 hk).2
      rw [this]
      exact decide_eq_true rfl
    · exact decide_eq_false (h j _ hj (List.getElem?_eq_getElem (by omega)))
  unfold ixF
  rw [e, if_pos hkl]
/-- an index, with what it tells -/
theorem ixF_cases (ss : List ByteArray) (s : ByteArray) : (ixF ss s = -1 ∧ s ∉ ss) ∨ ∃ k : Nat, ixF ss s = k ∧ ss[k]? = some s ∧ ∀ (j : Nat) u, j < k → ss[j]? = some u → u ≠ s := by
  by_cases h : s ∈ ss
  · right
    have hex : ∃ k : Nat, ss[k]? = some s := List.getElem?_of_mem h
    have key : ∀ n, (∃ k : Nat, k ≤ n ∧ ss[k]? = some s) → ∃ k : Nat, ss[k]? = some s ∧ ∀ (j : Nat) u, j < k → ss[j]? = some u → u ≠ s := by
      intro n
      induction n with
      | zero =>
        rintro ⟨k, hk, hs⟩
        exact ⟨k, hs, fun j u hj => by omega⟩
      | succ n ih =>
        rintro ⟨k, hk, hs⟩
        by_cases h2 : ∃ k : Nat, k ≤ n ∧ ss[k]? = some s
        · exact ih h2
        · refine ⟨k, hs, fun j u hj hu e => h2 ⟨j, by omega, ?_⟩⟩
          rw [hu, e]
    obtain ⟨k, hk⟩ := hex
    obtain ⟨k, hk, hm⟩ := key k ⟨k, Nat.le_refl _, hk⟩
    exact ⟨k, ixF_at hk hm, hk, hm⟩
  · exact .inl ⟨ixF_no (fun j u hu e => h (e ▸ List.mem_of_getElem? hu)), h⟩
theorem ixF_in (ss : List ByteArray) (s : ByteArray) : -1 ≤ ixF ss s ∧ ixF ss s < ss.length := by
  rcases ixF_cases ss s with ⟨h, _⟩ | ⟨k, h, hk, _⟩
  · rw [h]; omega
  · have := (List.getElem?_eq_some_iff.1 hk).1
    rw [h]; omega
open Classical in
/-- a name is in a list -/
noncomputable def inB (ss : List ByteArray) (s : ByteArray) : Bool := decide (s ∈ ss)
open Classical in
theorem ixF_inB (ss : List ByteArray) (s : ByteArray) : (decide (ixF ss s ≥ 0)) = inB ss s := by
  unfold inB
  rcases ixF_cases ss s with ⟨h, h2⟩ | ⟨k, h, hk, _⟩
  · rw [h, decide_eq_false h2]; rfl
  · rw [h, decide_eq_true (List.mem_of_getElem? hk)]; exact decide_eq_true (by omega)
open Classical in
theorem ixF_lt (ss : List ByteArray) (s : ByteArray) : (decide (ixF ss s < 0)) = !inB ss s := by
  rw [← ixF_inB]
  by_cases h : ixF ss s < 0
  · rw [decide_eq_true h, decide_eq_false (by omega)]; rfl
  · rw [decide_eq_false h, decide_eq_true (by omega)]; rfl
set_option maxHeartbeats 800000 in
theorem l2At_any (A : Option Addr) (n c : Nat) (ss : List ByteArray) (s : ByteArray) (w : World) (B : Nat) (h : SR w B A n (ss.map Value.string)) (hn : n ≤ 1048576) :
    Calls Tryz.prog 99 #[.slice A n c, .string s] w fun e w' => e = .returned (.int .i64 (ixF ss s)) ∧ w = w' := by
  have HL := Lib.hid h.strlen
  go_enter Tryz.func99, Tryz.ntmps99
  go_wp2_with fail
  go_loopw [5] (fun i wr => ∃ k : Nat, k ≤ n ∧ i = .int .i64 k ∧ (∀ (j : Nat) u, j < k → ss[j]? = some u → u ≠ s) ∧ w = wr) (fun i _ => n - (intOf i).toNat)
  case atStart => exact ⟨0, Nat.zero_le _, rfl, fun j u hj => absurd hj (by omega), rfl⟩
  case round =>
    obtain ⟨k, hk, rfl, hno, rfl⟩ := hrel
    have HNo := Lib.hid hno
    clear hno
    by_cases hlt : k < n
    · obtain ⟨b, off, u, rfl, hb, hx, hc⟩ := h.str hlt
      cases heq : (u.toList == s.toList) with
      | true =>
        have HY := Lib.hid (ixF_at (by rw [hx]; first | rw [str_eq heq] | rw [← str_eq heq]) HNo.out)
        clear hx
        go_wp2_with fail
        go_ret
        exact ⟨by rw [HY.out]; rfl, rfl⟩
      | false =>
        have HN : Hid (∀ (j : Nat) v, j < k + 1 → ss[j]? = some v → v ≠ s) := Lib.hid fun j v hj hv => by
          by_cases e : j = k
          · subst e
            rw [hx] at hv
            injection hv with hv
            subst hv; first | exact str_ne heq | exact fun e => str_ne heq e.symm
          · exact HNo.out j v (by omega) hv
        clear hx
        go_wp2_with fail
        go_roundw
        case rel => exact ⟨k + 1, by omega, by go_num, HN.out, by first | trivial | rfl⟩
        case measure => simp [intOf]; omega
    · have HF := Lib.hid (ixF_no (ss := ss) (s := s) (fun j u hu => HNo.out j u (by have := (List.getElem?_eq_some_iff.1 hu).1; have := HL.out; omega) hu))
      obtain rfl : n = k := by omega
      go_wp2_with fail
      go_ret
      exact ⟨by rw [HF.out]; rfl, rfl⟩
set_option maxHeartbeats 800000 in
theorem index_any (A : Option Addr) (n c : Nat) (ss : List ByteArray) (s : ByteArray) (w : World) (B : Nat) (h : SR w B A n (ss.map Value.string)) (hn : n ≤ 1048576) :
    Calls Tryz.prog 95 #[.slice A n c, .string s] w fun e w' => e = .returned (.int .i64 (ixF ss s)) ∧ w = w' := by
  have HL := Lib.hid h.strlen
  go_enter Tryz.func95, Tryz.ntmps95
  go_wp2_with fail
  go_loopw [8] (fun i wr => ∃ k : Nat, k ≤ n ∧ i = .int .i64 k ∧ (∀ (j : Nat) u, j < k → ss[j]? = some u → u ≠ s) ∧ w = wr) (fun i _ => n - (intOf i).toNat)
  case atStart => exact ⟨0, Nat.zero_le _, rfl, fun j u hj => absurd hj (by omega), rfl⟩
  case round =>
    obtain ⟨k, hk, rfl, hno, rfl⟩ := hrel
    have HNo := Lib.hid hno
    clear hno
    by_cases hlt : k < n
    · obtain ⟨b, off, u, rfl, hb, hx, hc⟩ := h.str hlt
      cases heq : (s.toList == u.toList) with
      | true =>
        have HY := Lib.hid (ixF_at (by rw [hx]; first | rw [str_eq heq] | rw [← str_eq heq]) HNo.out)
        clear hx
        go_wp2_with fail
        go_ret
        exact ⟨by rw [HY.out]; rfl, rfl⟩
      | false =>
        have HN : Hid (∀ (j : Nat) v, j < k + 1 → ss[j]? = some v → v ≠ s) := Lib.hid fun j v hj hv => by
          by_cases e : j = k
          · subst e
            rw [hx] at hv
            injection hv with hv
            subst hv; first | exact str_ne heq | exact fun e => str_ne heq e.symm
          · exact HNo.out j v (by omega) hv
        clear hx
        go_wp2_with fail
        go_roundw
        case rel => exact ⟨k + 1, by omega, by go_num, HN.out, by first | trivial | rfl⟩
        case measure => simp [intOf]; omega
    · have HF := Lib.hid (ixF_no (ss := ss) (s := s) (fun j u hu => HNo.out j u (by have := (List.getElem?_eq_some_iff.1 hu).1; have := HL.out; omega) hu))
      obtain rfl : n = k := by omega
      go_wp2_with fail
      go_ret
      exact ⟨by rw [HF.out]; rfl, rfl⟩
end Go.Proofs.YtlpgldejmdiceabGreat.ix
