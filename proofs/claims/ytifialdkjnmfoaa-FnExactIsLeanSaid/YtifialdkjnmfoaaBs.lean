/- slices.BinarySearch at []int, of an ascending slice. -/
import Derived.Test.YtifialdkjnmfoaaRs
import Derived.Lib.Walk
import Derived.Deep.LoopGhost
import Derived.Deep.Draws
namespace Go.Proofs.Ytifialdkjnmfoaa.bs
open kit bg hi sig
open Go.RowKit
set_option linter.unusedVariables false
theorem nan1_any (x : Int) (w : World) : Calls Try.prog 198 #[.int .i64 x] w fun e w' => e = .returned (.bool false) ∧ w = w' := by
  go_enter Try.func198, Try.ntmps198
  go_wp2_with fail
  go_ret
  exact ⟨by simp, rfl⟩
theorem nan2_any (x : Int) (w : World) : Calls Try.prog 202 #[.int .i64 x] w fun e w' => e = .returned (.bool false) ∧ w = w' := by
  go_enter Try.func202, Try.ntmps202
  go_wp2_with fail
  go_ret
  exact ⟨by simp, rfl⟩
theorem less_any (x y : Int) (w : World) : Calls Try.prog 197 #[.int .i64 x, .int .i64 y] w fun e w' => e = .returned (.bool (decide (x < y))) ∧ w = w' := by
  go_enter Try.func197, Try.ntmps197
  go_wp2_with (go_at_call 202; refine (nan2_any _ _).mono ?_; rintro e w' ⟨rfl, rfl⟩)
  go_ret
  exact ⟨rfl, rfl⟩
def Asc (zs : List Int) : Prop := ∀ (i j : Nat) a b, i ≤ j → zs[i]? = some a → zs[j]? = some b → a ≤ b
/-- the first place from which on all elements are at least x -/
def PosP (zs : List Int) (x : Int) (m : Nat) : Prop := m ≤ zs.length ∧ (∀ (t : Nat) a, t < m → zs[t]? = some a → a < x) ∧ ∀ (t : Nat) a, m ≤ t → zs[t]? = some a → x ≤ a

set_option maxRecDepth 20000 in
set_option maxHeartbeats 4000000 in
theorem bins_any (A : Option Addr) (n c : Nat) (zs : List Int) (x : Int) (w : World) (B : Nat) (h : IntsAt w B A n zs) (hn : n ≤ 1048576) (hs : Asc zs) :
    Calls Try.prog 187 #[.slice A n c, .int .i64 x] w fun e w' => (∃ (m : Nat) (q : Bool), e = .returned (.tuple #[.int .i64 m, .bool q]) ∧ PosP zs x m) ∧ Below w.heap.size w w' := by
  have HL := Lib.hid h.len
  have HS := Lib.hid hs
  clear hs
  go_enter Try.func187, Try.ntmps187
  go_wp2_with fail
  go_loopg [7, 8] n (fun g s7 s8 wr => ∃ lo hi : Nat, s7 = .int .i64 lo ∧ s8 = .int .i64 hi ∧ lo ≤ hi ∧ hi ≤ n ∧ hi - lo ≤ g ∧ w = wr ∧ Hid ((∀ (t : Nat) a, t < lo → zs[t]? = some a → a < x) ∧ ∀ (t : Nat) a, hi ≤ t → zs[t]? = some a → x ≤ a))
  case atStart => exact ⟨0, n, rfl, rfl, Nat.zero_le _, Nat.le_refl _, by omega, rfl, Lib.hid ⟨fun t a ht => absurd ht (Nat.not_lt_zero _), fun t a h1 h2 => by have := (List.getElem?_eq_some_iff.1 h2).1; have := HL.out; omega⟩⟩
  case round =>
    obtain ⟨lo, hi, rfl, rfl, hlh, hin, hg, rfl, I⟩ := hrel
    by_cases hlt : lo < hi
    · obtain ⟨b, off, y, rfl, hb, hy, cm⟩ := h.get (show (lo + hi) / 2 < n by omega)
      have Y := Lib.hid hy
      clear hy
      by_cases hyx : y < x
      · go_wp2_with (first | (go_at_call 197; refine (less_any _ _ _).mono ?_; rintro e w' ⟨rfl, rfl⟩))
        go_roundg (hi - ((lo + hi) / 2 + 1))
        case measure => omega
        case rel =>
          refine ⟨(lo + hi) / 2 + 1, hi, by rw [show ((lo : Int) + (hi : Int)) / 2 + 1 = (((lo + hi) / 2 + 1 : Nat) : Int) by omega], rfl, by omega, hin, Nat.le_refl _, by first | trivial | rfl, Lib.hid ⟨fun t a ht ha => ?_, I.out.2⟩⟩
          have := HS.out t ((lo + hi) / 2) a y (by omega) ha Y.out
          omega
      · go_wp2_with (first | (go_at_call 197; refine (less_any _ _ _).mono ?_; rintro e w' ⟨rfl, rfl⟩))
        go_roundg ((lo + hi) / 2 - lo)
        case measure => omega
        case rel =>
          refine ⟨lo, (lo + hi) / 2, rfl, by rw [show ((lo : Int) + (hi : Int)) / 2 = (((lo + hi) / 2 : Nat) : Int) by omega], by omega, by omega, Nat.le_refl _, by first | trivial | rfl, Lib.hid ⟨I.out.1, fun t a ht ha => ?_⟩⟩
          have := HS.out ((lo + hi) / 2) t y a ht Y.out ha
          omega
    · have : hi = lo := by omega
      subst this
      have HP : Hid (PosP zs x hi) := Lib.hid ⟨by rw [HL.out]; exact hin, I.out.1, I.out.2⟩
      by_cases hn2 : hi < n
      · obtain ⟨b, off, y, rfl, hb, hy, cm⟩ := h.get hn2
        clear hy
        by_cases hyx : y = x
        · go_wp2_with fail
          go_ret2
          exact ⟨⟨hi, _, rfl, HP.out⟩, Below.refl _ _⟩
        · go_wp2_with (go_at_call 198; refine (nan1_any _ _).mono ?_; rintro e w' ⟨rfl, rfl⟩)
          go_ret2
          exact ⟨⟨hi, _, rfl, HP.out⟩, Below.refl _ _⟩
      · go_wp2_with fail
        go_ret2
        exact ⟨⟨hi, _, rfl, HP.out⟩, Below.refl _ _⟩
end Go.Proofs.Ytifialdkjnmfoaa.bs
