/- Equal lists of names: spec.l3SameNames, slices.Equal at strings. -/
import Derived.Test.YtfjgapkjpmkplaaQd
namespace Go.Proofs.Ytfjgapkjpmkplaa.smn
open kit bg sg opn strs only hb sig isig un over gn nm inn ht gd im pt marks eqs hc hi hw hn rs br bm bw cf lf ib isa lawb lw cl
open Go.RowKit
set_option linter.unusedVariables false
set_option maxHeartbeats 1600000 in
theorem sameN_any (A : Option Addr) (n c : Nat) (xs : List ByteArray) (B : Option Addr) (m d : Nat) (ys : List ByteArray) (w : World) (L M : Nat) (h : SR w L A n (xs.map Value.string)) (h' : SR w M B m (ys.map Value.string)) (hL : L ≤ w.heap.size) (hM : M ≤ w.heap.size) (hn : n ≤ 1048576) (hm : m ≤ 1048576) :
    Calls Try.prog 89 #[.slice A n c, .slice B m d] w (Post (decide (xs = ys)) w) := by
  have HX := Lib.hid h.strlen
  have HY := Lib.hid h'.strlen
  go_enter Try.func89, Try.ntmps89
  go_wp2_with fail
  go_loopw [5] (fun i wr => ∃ k : Nat, k ≤ n ∧ k ≤ m ∧ i = .int .i64 k ∧ (∀ (j : Nat) x y, j < k → xs[j]? = some x → ys[j]? = some y → x = y) ∧ Dr w wr) (fun i _ => n - (intOf i).toNat)
  case atStart => exact ⟨0, Nat.zero_le _, Nat.zero_le _, rfl, fun j x y hj => absurd hj (Nat.not_lt_zero j), Dr.refl _⟩
  case round =>
    obtain ⟨k, hk, hkm, rfl, hall, hdr⟩ := hrel
    have HA := Lib.hid hall
    clear hall
    by_cases hlt : k < n
    · by_cases hltm : k < m
      · obtain ⟨b1, o1, x, rfl, hb1, hx, cx⟩ := h.str hlt
        obtain ⟨b2, o2, y, rfl, hb2, hy, cy⟩ := h'.str hltm
        have ex := (hdr.cell ⟨b1, o1 + k, none⟩).trans cx
        have ey := (hdr.cell ⟨b2, o2 + k, none⟩).trans cy
        have hbb1 : b1 < wr.heap.size := by rw [hdr.size]; omega
        have hbb2 : b2 < wr.heap.size := by rw [hdr.size]; omega
        have HXx := Lib.hid hx
        have HYy := Lib.hid hy
        clear hx hy cx cy
        cases he : (x.toList == y.toList) with
        | true =>
          have HE := Lib.hid (str_eq he)
          have he2 : (x.toList != y.toList) = false := by rw [bne, he]; rfl
          go_wp2_with fail
          go_quiet (fail)
          go_wp2_with fail
          go_roundw
          case rel => exact ⟨k + 1, by omega, by omega, by go_num, fun j x' y' hj hx' hy' => by
            by_cases e : j = k
            · subst e; rw [HXx.out] at hx'; rw [HYy.out] at hy'; injection hx' with e1; injection hy' with e2; rw [← e1, ← e2]; exact HE.out
            · exact HA.out j x' y' (by omega) hx' hy', hdr.more _⟩
          case measure => simp [intOf]; omega
        | false =>
          have HE := Lib.hid (str_ne he)
          have he2 : (x.toList != y.toList) = true := by rw [bne, he]; rfl
          have HN : Hid (decide (xs = ys) = false) := Lib.hid (decide_eq_false fun e => HE.out (by
            have h1 := HXx.out; rw [e, HYy.out] at h1; injection h1 with h1; exact h1.symm))
          go_wp2_with fail
          go_quiet (fail)
          go_wp2_with fail
          go_ret
          exact ⟨by rw [HN.out]; rfl, (hdr.more _).below _⟩
      · have HN : Hid (decide (xs = ys) = false) := Lib.hid (decide_eq_false fun e => by have := HX.out; have := HY.out; rw [e] at *; omega)
        have hne : ¬ (n : Int) = m := by omega
        go_wp2_with fail
        go_ret
        exact ⟨by rw [HN.out]; simp [hne], hdr.below _⟩
    · obtain rfl : k = n := by omega
      by_cases hkm2 : k = m
      · subst hkm2
        have HYs : Hid (decide (xs = ys) = true) := Lib.hid (decide_eq_true (by
          refine List.ext_getElem? (fun j => ?_)
          by_cases hj : j < k
          · have ex : xs[j]? = some (xs[j]'(by rw [HX.out]; exact hj)) := List.getElem?_eq_getElem _
            have ey : ys[j]? = some (ys[j]'(by rw [HY.out]; exact hj)) := List.getElem?_eq_getElem _
            rw [ex, ey, HA.out j _ _ hj ex ey]
          · rw [List.getElem?_eq_none (by rw [HX.out]; omega), List.getElem?_eq_none (by rw [HY.out]; omega)]))
        go_wp2_with fail
        go_ret
        exact ⟨by rw [HYs.out]; simp, hdr.below _⟩
      · have HN : Hid (decide (xs = ys) = false) := Lib.hid (decide_eq_false fun e => hkm2 (by rw [← HX.out, ← HY.out, e]))
        have hne : ¬ (k : Int) = m := by omega
        go_wp2_with fail
        go_ret
        exact ⟨by rw [HN.out]; simp [hne], hdr.below _⟩

/-- the result's box behind its outer names -/
def MadeO (U : World) (E : Int) (outer : List ByteArray) (n4 : Nat) (s8 : Value) (wx : World) : Prop :=
  ∃ β A4 c4, s8 = .pointer (some ⟨β, 0, none⟩) ∧ U.heap.size ≤ β ∧ BoxAt wx β 39 (.int .i64 0) (.slice none 0 0) (.slice none 0 0) (.int .i64 E) (.slice A4 n4 c4) (.slice none 0 0) ∧ RowR wx U.heap.size wx.heap.size 9 1 A4 n4 c4 (at_ outer) ∧ Below U.heap.size U wx

set_option maxHeartbeats 1600000 in
theorem eqStr_any (A : Option Addr) (n c : Nat) (xs : List ByteArray) (B : Option Addr) (m d : Nat) (ys : List ByteArray) (w : World) (L M : Nat) (h : SR w L A n (xs.map Value.string)) (h' : SR w M B m (ys.map Value.string)) (hL : L ≤ w.heap.size) (hM : M ≤ w.heap.size) (hn : n ≤ 1048576) (hm : m ≤ 1048576) :
    Calls Try.prog 43 #[.slice A n c, .slice B m d] w (Post (decide (xs = ys)) w) := by
  have HX := Lib.hid h.strlen
  have HY := Lib.hid h'.strlen
  by_cases hq : n = m
  · subst hq
    go_enter Try.func43, Try.ntmps43
    go_wp2_with fail
    go_loopw [5, 13] (fun _ i wr => ∃ k : Nat, k ≤ n ∧ i = .int .i64 k ∧ (∀ (j : Nat) x y, j < k → xs[j]? = some x → ys[j]? = some y → x = y) ∧ Dr w wr) (fun _ i _ => n - (intOf i).toNat)
    case atStart => exact ⟨0, Nat.zero_le _, rfl, fun j x y hj => absurd hj (Nat.not_lt_zero j), Dr.refl _⟩
    case round =>
      obtain ⟨k, hk, rfl, hall, hdr⟩ := hrel
      have HA := Lib.hid hall
      clear hall
      by_cases hlt : k < n
      · obtain ⟨b1, o1, x, rfl, hb1, hx, cx⟩ := h.str hlt
        obtain ⟨b2, o2, y, rfl, hb2, hy, cy⟩ := h'.str hlt
        have ex := (hdr.cell ⟨b1, o1 + k, none⟩).trans cx
        have ey := (hdr.cell ⟨b2, o2 + k, none⟩).trans cy
        have hbb1 : b1 < wr.heap.size := by rw [hdr.size]; omega
        have hbb2 : b2 < wr.heap.size := by rw [hdr.size]; omega
        have HXx := Lib.hid hx
        have HYy := Lib.hid hy
        clear hx hy cx cy
        cases he : (x.toList == y.toList) with
        | true =>
          have HE := Lib.hid (str_eq he)
          have he2 : (x.toList != y.toList) = false := by rw [bne, he]; rfl
          go_wp2_with fail
          go_quiet (fail)
          go_wp2_with fail
          go_roundw
          case rel => exact ⟨k + 1, by omega, by go_num, fun j x' y' hj hx' hy' => by
            by_cases e : j = k
            · subst e; rw [HXx.out] at hx'; rw [HYy.out] at hy'; injection hx' with e1; injection hy' with e2; rw [← e1, ← e2]; exact HE.out
            · exact HA.out j x' y' (by omega) hx' hy', hdr.more _⟩
          case measure => simp [intOf]; omega
        | false =>
          have HE := Lib.hid (str_ne he)
          have he2 : (x.toList != y.toList) = true := by rw [bne, he]; rfl
          have HN : Hid (decide (xs = ys) = false) := Lib.hid (decide_eq_false fun e => HE.out (by
            have h1 := HXx.out; rw [e, HYy.out] at h1; injection h1 with h1; exact h1.symm))
          go_wp2_with fail
          go_quiet (fail)
          go_wp2_with fail
          go_ret
          exact ⟨by rw [HN.out]; rfl, (hdr.more _).below _⟩
      · obtain rfl : k = n := by omega
        have HYs : Hid (decide (xs = ys) = true) := Lib.hid (decide_eq_true (by
          refine List.ext_getElem? (fun j => ?_)
          by_cases hj : j < k
          · have ex : xs[j]? = some (xs[j]'(by rw [HX.out]; exact hj)) := List.getElem?_eq_getElem _
            have ey : ys[j]? = some (ys[j]'(by rw [HY.out]; exact hj)) := List.getElem?_eq_getElem _
            rw [ex, ey, HA.out j _ _ hj ex ey]
          · rw [List.getElem?_eq_none (by rw [HX.out]; omega), List.getElem?_eq_none (by rw [HY.out]; omega)]))
        go_wp2_with fail
        go_ret
        exact ⟨by rw [HYs.out]; rfl, hdr.below _⟩
  · have HN : Hid (decide (xs = ys) = false) := Lib.hid (decide_eq_false fun e => hq (by rw [← HX.out, ← HY.out, e]))
    have hq' : ¬ (n : Int) = m := by omega
    go_enter Try.func43, Try.ntmps43
    go_wp2_with fail
    go_ret
    exact ⟨by rw [HN.out]; rfl, Below.refl _ _⟩

end Go.Proofs.Ytfjgapkjpmkplaa.smn
