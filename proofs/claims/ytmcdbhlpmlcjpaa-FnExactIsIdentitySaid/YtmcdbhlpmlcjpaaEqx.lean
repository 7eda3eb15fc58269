/- Equal lists: spec.l1Same and slices.Equal at ints, slices.Equal at wires. -/
import Derived.Test.YtmcdbhlpmlcjpaaQd
import Derived.BigQuiet
namespace Go.Proofs.Ytmcdbhlpmlcjpaa.eqx
open kit bg sg opn strs only hb sig isig un over gn nm inn ht gd im pt marks eqs hc hi hw hn rs br bm bw cf lf ib isa lawb lw
open Go.RowKit
set_option linter.unusedVariables false
set_option linter.unusedSimpArgs false
set_option maxHeartbeats 1600000 in
theorem l1Same_any (A : Option Addr) (n c : Nat) (xs : List Int) (B : Option Addr) (m d : Nat) (ys : List Int) (w : World) (L M : Nat) (h : IntsAt w L A n xs) (h' : IntsAt w M B m ys) (hL : L ≤ w.heap.size) (hM : M ≤ w.heap.size) (hn : n ≤ 1048576) (hm : m ≤ 1048576) :
    Calls Try.prog 115 #[.slice A n c, .slice B m d] w (Post (decide (xs = ys)) w) := by
  have HX := Lib.hid h.len
  have HY := Lib.hid h'.len
  by_cases hq : n = m
  · subst hq
    go_enter Try.func115, Try.ntmps115
    go_wp2_with fail
    go_loopw [5] (fun i wr => ∃ k : Nat, k ≤ n ∧ i = .int .i64 k ∧ (∀ (j : Nat) x y, j < k → xs[j]? = some x → ys[j]? = some y → x = y) ∧ Dr w wr) (fun i _ => n - (intOf i).toNat)
    case atStart => exact ⟨0, Nat.zero_le _, rfl, fun j x y hj => absurd hj (Nat.not_lt_zero j), Dr.refl _⟩
    case round =>
      obtain ⟨k, hk, rfl, hall, hdr⟩ := hrel
      have HA := Lib.hid hall
      clear hall
      by_cases hlt : k < n
      · obtain ⟨b1, o1, x, rfl, hb1, hx, cx⟩ := h.get hlt
        obtain ⟨b2, o2, y, rfl, hb2, hy, cy⟩ := h'.get hlt
        have ex := (hdr.cell ⟨b1, o1 + k, none⟩).trans cx
        have ey := (hdr.cell ⟨b2, o2 + k, none⟩).trans cy
        have hbb1 : b1 < wr.heap.size := by rw [hdr.size]; omega
        have hbb2 : b2 < wr.heap.size := by rw [hdr.size]; omega
        have HXx := Lib.hid hx
        have HYy := Lib.hid hy
        clear hx hy cx cy
        cases he : (x == y) with
        | true =>
          have HE := Lib.hid (show x = y from eq_of_beq he)
          have he2 : (x != y) = false := by rw [bne, he]; rfl
          go_wp2_with fail
          go_quiet (fail)
          go_wp2_with fail
          go_roundw
          case rel => exact ⟨k + 1, by omega, by go_num, fun j x' y' hj hx' hy' => by
            by_cases e : j = k
            · subst e; rw [HXx.out] at hx'; rw [HYy.out] at hy'; injection hx' with e1; injection hy' with e2; rw [← e1, ← e2]; exact HE.out
            · exact HA.out j x' y' (by omega) hx' hy', hdr.more _⟩
          case measure => simp [intOf]; omega
        | false =>
          have HE := Lib.hid (show x ≠ y from fun e => by subst e; simp at he)
          have he2 : (x != y) = true := by rw [bne, he]; rfl
          have HN : Hid (decide (xs = ys) = false) := Lib.hid (decide_eq_false fun e => HE.out (by
            have h1 := HXx.out; rw [e, HYy.out] at h1; injection h1 with h1; exact h1.symm))
          go_wp2_with fail
          go_quiet (fail)
          go_wp2_with fail
          go_ret
          exact ⟨by rw [HN.out]; rfl, (hdr.more _).below _⟩
      · obtain rfl : k = n := by omega
        have HYs : Hid (decide (xs = ys) = true) := Lib.hid (decide_eq_true (by
          refine List.ext_getElem? (fun j => ?_)
          by_cases hj : j < k
          · have ex : xs[j]? = some (xs[j]'(by rw [HX.out]; exact hj)) := List.getElem?_eq_getElem _
            have ey : ys[j]? = some (ys[j]'(by rw [HY.out]; exact hj)) := List.getElem?_eq_getElem _
            rw [ex, ey, HA.out j _ _ hj ex ey]
          · rw [List.getElem?_eq_none (by rw [HX.out]; omega), List.getElem?_eq_none (by rw [HY.out]; omega)]))
        go_wp2_with fail
        go_ret
        exact ⟨by rw [HYs.out]; rfl, hdr.below _⟩
  · have HN : Hid (decide (xs = ys) = false) := Lib.hid (decide_eq_false fun e => hq (by rw [← HX.out, ← HY.out, e]))
    have hq' : ¬ (n : Int) = m := by omega
    go_enter Try.func115, Try.ntmps115
    go_wp2_with fail
    go_ret
    exact ⟨by rw [HN.out]; rfl, Below.refl _ _⟩
set_option maxHeartbeats 1600000 in
theorem eqInt_any (A : Option Addr) (n c : Nat) (xs : List Int) (B : Option Addr) (m d : Nat) (ys : List Int) (w : World) (L M : Nat) (h : IntsAt w L A n xs) (h' : IntsAt w M B m ys) (hL : L ≤ w.heap.size) (hM : M ≤ w.heap.size) (hn : n ≤ 1048576) (hm : m ≤ 1048576) :
    Calls Try.prog 80 #[.slice A n c, .slice B m d] w (Post (decide (xs = ys)) w) := by
  have HX := Lib.hid h.len
  have HY := Lib.hid h'.len
  by_cases hq : n = m
  · subst hq
    go_enter Try.func80, Try.ntmps80
    go_wp2_with fail
    go_loopw [5, 13] (fun _ i wr => ∃ k : Nat, k ≤ n ∧ i = .int .i64 k ∧ (∀ (j : Nat) x y, j < k → xs[j]? = some x → ys[j]? = some y → x = y) ∧ Dr w wr) (fun _ i _ => n - (intOf i).toNat)
    case atStart => exact ⟨0, Nat.zero_le _, rfl, fun j x y hj => absurd hj (Nat.not_lt_zero j), Dr.refl _⟩
    case round =>
      obtain ⟨k, hk, rfl, hall, hdr⟩ := hrel
      have HA := Lib.hid hall
      clear hall
      by_cases hlt : k < n
      · obtain ⟨b1, o1, x, rfl, hb1, hx, cx⟩ := h.get hlt
        obtain ⟨b2, o2, y, rfl, hb2, hy, cy⟩ := h'.get hlt
        have ex := (hdr.cell ⟨b1, o1 + k, none⟩).trans cx
        have ey := (hdr.cell ⟨b2, o2 + k, none⟩).trans cy
        have hbb1 : b1 < wr.heap.size := by rw [hdr.size]; omega
        have hbb2 : b2 < wr.heap.size := by rw [hdr.size]; omega
        have HXx := Lib.hid hx
        have HYy := Lib.hid hy
        clear hx hy cx cy
        cases he : (x == y) with
        | true =>
          have HE := Lib.hid (show x = y from eq_of_beq he)
          have he2 : (x != y) = false := by rw [bne, he]; rfl
          go_wp2_with fail
          go_quiet (fail)
          go_wp2_with fail
          go_roundw
          case rel => exact ⟨k + 1, by omega, by go_num, fun j x' y' hj hx' hy' => by
            by_cases e : j = k
            · subst e; rw [HXx.out] at hx'; rw [HYy.out] at hy'; injection hx' with e1; injection hy' with e2; rw [← e1, ← e2]; exact HE.out
            · exact HA.out j x' y' (by omega) hx' hy', hdr.more _⟩
          case measure => simp [intOf]; omega
        | false =>
          have HE := Lib.hid (show x ≠ y from fun e => by subst e; simp at he)
          have he2 : (x != y) = true := by rw [bne, he]; rfl
          have HN : Hid (decide (xs = ys) = false) := Lib.hid (decide_eq_false fun e => HE.out (by
            have h1 := HXx.out; rw [e, HYy.out] at h1; injection h1 with h1; exact h1.symm))
          go_wp2_with fail
          go_quiet (fail)
          go_wp2_with fail
          go_ret
          exact ⟨by rw [HN.out]; rfl, (hdr.more _).below _⟩
      · obtain rfl : k = n := by omega
        have HYs : Hid (decide (xs = ys) = true) := Lib.hid (decide_eq_true (by
          refine List.ext_getElem? (fun j => ?_)
          by_cases hj : j < k
          · have ex : xs[j]? = some (xs[j]'(by rw [HX.out]; exact hj)) := List.getElem?_eq_getElem _
            have ey : ys[j]? = some (ys[j]'(by rw [HY.out]; exact hj)) := List.getElem?_eq_getElem _
            rw [ex, ey, HA.out j _ _ hj ex ey]
          · rw [List.getElem?_eq_none (by rw [HX.out]; omega), List.getElem?_eq_none (by rw [HY.out]; omega)]))
        go_wp2_with fail
        go_ret
        exact ⟨by rw [HYs.out]; rfl, hdr.below _⟩
  · have HN : Hid (decide (xs = ys) = false) := Lib.hid (decide_eq_false fun e => hq (by rw [← HX.out, ← HY.out, e]))
    have hq' : ¬ (n : Int) = m := by omega
    go_enter Try.func80, Try.ntmps80
    go_wp2_with fail
    go_ret
    exact ⟨by rw [HN.out]; rfl, Below.refl _ _⟩
instance : DecidableEq Wr := fun a b => if h : a.name = b.name ∧ a.link = b.link then isTrue (by cases a; cases b; simp at h; rw [h.1, h.2]) else isFalse (fun e => h (by rw [e]; exact ⟨rfl, rfl⟩))
set_option maxHeartbeats 3200000 in
theorem eqWr_any (A : Option Addr) (n c : Nat) (xs : List Wr) (B : Option Addr) (m d : Nat) (ys : List Wr) (w : World) (L M : Nat) (h : WrsAt w L A n xs) (h' : WrsAt w M B m ys) (hL : L ≤ w.heap.size) (hM : M ≤ w.heap.size) (hn : n ≤ 1048576) (hm : m ≤ 1048576) :
    Calls Try.prog 81 #[.slice A n c, .slice B m d] w (Post (decide (xs = ys)) w) := by
  have HX := Lib.hid h.1
  have HY := Lib.hid h'.1
  by_cases hq : n = m
  · subst hq
    go_enter Try.func81, Try.ntmps81
    go_wp2_with fail
    go_loopw [5, 13] (fun _ i wr => ∃ k : Nat, k ≤ n ∧ i = .int .i64 k ∧ (∀ (j : Nat) x y, j < k → xs[j]? = some x → ys[j]? = some y → x = y) ∧ Dr w wr) (fun _ i _ => n - (intOf i).toNat)
    case atStart => exact ⟨0, Nat.zero_le _, rfl, fun j x y hj => absurd hj (Nat.not_lt_zero j), Dr.refl _⟩
    case round =>
      obtain ⟨k, hk, rfl, hall, hdr⟩ := hrel
      have HA := Lib.hid hall
      clear hall
      by_cases hlt : k < n
      · obtain ⟨b1, o1, x, rfl, hb1, hx, cx0, cx1⟩ := h.get hlt
        obtain ⟨b2, o2, y, rfl, hb2, hy, cy0, cy1⟩ := h'.get hlt
        have ex0 := (hdr.cell ⟨b1, o1 + k * 2, none⟩).trans cx0
        have ex1 := (hdr.cell ⟨b1, o1 + k * 2 + 1, none⟩).trans cx1
        have ey0 := (hdr.cell ⟨b2, o2 + k * 2, none⟩).trans cy0
        have ey1 := (hdr.cell ⟨b2, o2 + k * 2 + 1, none⟩).trans cy1
        have hbb1 : b1 < wr.heap.size := by rw [hdr.size]; omega
        have hbb2 : b2 < wr.heap.size := by rw [hdr.size]; omega
        have HXx := Lib.hid hx
        have HYy := Lib.hid hy
        obtain ⟨xn, xl⟩ := x
        obtain ⟨yn, yl⟩ := y
        dsimp only at ex0 ex1 ey0 ey1
        clear hx hy cx0 cx1 cy0 cy1
        cases he : (xn.toList == yn.toList) with
        | true =>
          by_cases hl : xl = yl
          · subst hl
            have HE := Lib.hid (show (⟨xn, xl⟩ : Wr) = ⟨yn, xl⟩ by rw [str_eq he])
            have he2 : (xn.toList != yn.toList) = false := by rw [bne, he]; rfl
            go_wp2_with fail
            go_quiet (fail)
            go_wp2_with fail
            go_roundw
            case rel => exact ⟨k + 1, by omega, by go_num, fun j x' y' hj hx' hy' => by
              by_cases e : j = k
              · subst e; rw [HXx.out] at hx'; rw [HYy.out] at hy'; injection hx' with e1; injection hy' with e2; rw [← e1, ← e2]; exact HE.out
              · exact HA.out j x' y' (by omega) hx' hy', hdr.more _⟩
            case measure => simp [intOf]; omega
          · have hl2 : (xl == yl) = false := beq_eq_false_iff_ne.2 hl
            have HE := Lib.hid (show (⟨xn, xl⟩ : Wr) ≠ ⟨yn, yl⟩ from fun e => hl (by injection e))
            have HN : Hid (decide (xs = ys) = false) := Lib.hid (decide_eq_false fun e => HE.out (by
              have h1 := HXx.out; rw [e, HYy.out] at h1; injection h1 with h1; exact h1.symm))
            go_wp2_with fail
            go_quiet (fail)
            go_wp2_with fail
            go_ret
            exact ⟨by rw [HN.out]; rfl, (hdr.more _).below _⟩
        | false =>
          have HE := Lib.hid (show (⟨xn, xl⟩ : Wr) ≠ ⟨yn, yl⟩ from fun e => str_ne he (by injection e))
          have he2 : (xn.toList != yn.toList) = true := by rw [bne, he]; rfl
          have HN : Hid (decide (xs = ys) = false) := Lib.hid (decide_eq_false fun e => HE.out (by
            have h1 := HXx.out; rw [e, HYy.out] at h1; injection h1 with h1; exact h1.symm))
          go_wp2_with fail
          go_quiet (fail)
          go_wp2_with fail
          go_ret
          exact ⟨by rw [HN.out]; rfl, (hdr.more _).below _⟩
      · obtain rfl : k = n := by omega
        have HYs : Hid (decide (xs = ys) = true) := Lib.hid (decide_eq_true (by
          refine List.ext_getElem? (fun j => ?_)
          by_cases hj : j < k
          · have ex : xs[j]? = some (xs[j]'(by rw [HX.out]; exact hj)) := List.getElem?_eq_getElem _
            have ey : ys[j]? = some (ys[j]'(by rw [HY.out]; exact hj)) := List.getElem?_eq_getElem _
            rw [ex, ey, HA.out j _ _ hj ex ey]
          · rw [List.getElem?_eq_none (by rw [HX.out]; omega), List.getElem?_eq_none (by rw [HY.out]; omega)]))
        go_wp2_with fail
        go_ret
        exact ⟨by rw [HYs.out]; rfl, hdr.below _⟩
  · have HN : Hid (decide (xs = ys) = false) := Lib.hid (decide_eq_false fun e => hq (by rw [← HX.out, ← HY.out, e]))
    have hq' : ¬ (n : Int) = m := by omega
    go_enter Try.func81, Try.ntmps81
    go_wp2_with fail
    go_ret
    exact ⟨by rw [HN.out]; rfl, Below.refl _ _⟩
end Go.Proofs.Ytmcdbhlpmlcjpaa.eqx
