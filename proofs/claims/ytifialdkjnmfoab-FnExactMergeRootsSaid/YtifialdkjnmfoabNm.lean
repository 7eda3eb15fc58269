/- Lists of names: spec.l2Names, impl.areNames. -/
import Derived.Test.YtifialdkjnmfoabSig
import Derived.Test.YtifialdkjnmfoabOnly
namespace Go.Proofs.Ytifialdkjnmfoab.nm
open kit bg sg sig only
open Go.RowKit
set_option linter.unusedVariables false

theorem less_tri (a b : List UInt8) : Op.bytesLess a b = !(Op.bytesLess b a || b == a) := by
  induction a generalizing b with
  | nil => cases b <;> simp [Op.bytesLess]
  | cons x a ih =>
    cases b with
    | nil => simp [Op.bytesLess]
    | cons y b =>
      simp only [Op.bytesLess]
      have e1 : (y == x) = (x == y) := by
        cases hxy : (x == y) with
        | true => rw [eq_of_beq hxy]; simp
        | false =>
          cases hyx : (y == x) with
          | true => rw [eq_of_beq hyx] at hxy; simp at hxy
          | false => rfl
      have e2 : (y :: b == x :: a) = ((x == y) && (b == a)) := by
        rw [← e1]; rfl
      rw [e2, e1, ih b]
      cases hxy : (x == y) with
      | true =>
        have := eq_of_beq hxy
        subst this
        simp [UInt8.lt_irrefl]
      | false =>
        have hne : x ≠ y := fun e => by subst e; simp at hxy
        have hlt : decide (x < y) = !decide (y < x) := by
          rcases UInt8.lt_or_lt_of_ne hne with h | h
          · rw [decide_eq_true h, decide_eq_false (UInt8.lt_asymm h)]; rfl
          · rw [decide_eq_true h, decide_eq_false (UInt8.lt_asymm h)]; rfl
        simp [hlt]
theorem less_not {p s : ByteArray} : lessB p s = !(Op.bytesLess s.toList p.toList || s.toList == p.toList) := less_tri _ _

/-- the first k strings are names, strictly ascending -/
def NamesK (ss : List ByteArray) (k : Nat) : Prop :=
  (∀ (j : Nat) s, j < k → ss[j]? = some s → nameB s = true) ∧ (∀ (j : Nat) a b, j + 1 < k → ss[j]? = some a → ss[j + 1]? = some b → lessB a b = true)
open Classical in
/-- whether they are names -/
noncomputable def namesB (ss : List ByteArray) : Bool := decide (NamesP ss)
open Classical in
theorem names_true {ss : List ByteArray} (h : NamesP ss) : namesB ss = true := by unfold namesB; exact decide_eq_true h
open Classical in
theorem names_false {ss : List ByteArray} (h : ¬ NamesP ss) : namesB ss = false := by unfold namesB; exact decide_eq_false h
open Classical in
theorem names_of {ss : List ByteArray} (h : namesB ss = true) : NamesP ss := by unfold namesB at h; exact of_decide_eq_true h
theorem namesK_zero (ss : List ByteArray) : NamesK ss 0 := ⟨fun j s h => absurd h (Nat.not_lt_zero j), fun j a b h => absurd h (by omega)⟩
theorem namesK_one {ss : List ByteArray} {s : ByteArray} (hx : ss[0]? = some s) (hc : nameB s = true) : NamesK ss (0 + 1) :=
  ⟨fun j x hj hx' => by
    obtain rfl : j = 0 := by omega
    rw [hx] at hx'; injection hx' with e; subst e; exact hc, fun j a b h => absurd h (by omega)⟩
theorem namesK_next {ss : List ByteArray} {k : Nat} {p s : ByteArray} (h : NamesK ss (k + 1)) (hp : ss[k]? = some p) (hx : ss[k + 1]? = some s) (hc : nameB s = true) (hl : lessB p s = true) : NamesK ss (k + 1 + 1) := by
  refine ⟨fun j x hj hx' => ?_, fun j a b hj ha hb => ?_⟩
  · by_cases e : j = k + 1
    · subst e; rw [hx] at hx'; injection hx' with e; subst e; exact hc
    · exact h.1 j x (by omega) hx'
  · by_cases e : j = k
    · subst e
      rw [hp] at ha
      rw [hx] at hb
      injection ha with ha
      injection hb with hb
      subst ha hb
      exact hl
    · exact h.2 j a b (by omega) ha hb
theorem namesK_all {ss : List ByteArray} {k : Nat} (h : NamesK ss k) (hk : ss.length ≤ k) : NamesP ss :=
  ⟨fun j s hs => h.1 j s (by have := (List.getElem?_eq_some_iff.1 hs).1; omega) hs, fun j a b ha hb => h.2 j a b (by have := (List.getElem?_eq_some_iff.1 hb).1; omega) ha hb⟩
theorem names_bad {ss : List ByteArray} {k : Nat} {s : ByteArray} (hx : ss[k]? = some s) (hc : nameB s = false) : namesB ss = false := names_false (fun hp => by rw [hp.1 k s hx] at hc; cases hc)
theorem names_down {ss : List ByteArray} {k : Nat} {p s : ByteArray} (hp : ss[k]? = some p) (hx : ss[k + 1]? = some s) (hl : lessB p s = false) : namesB ss = false := names_false (fun h => by rw [h.2 k p s hp hx] at hl; cases hl)

set_option maxRecDepth 20000 in
set_option maxHeartbeats 1600000 in
theorem l2Names_any (A : Option Addr) (n c : Nat) (ss : List ByteArray) (w : World) (B : Nat) (h : SR w B A n (ss.map Value.string)) (hn : n ≤ 1048576) (hs : ∀ s ∈ ss, s.size ≤ 1048576) :
    Calls Try.prog 75 #[.slice A n c] w (Post (namesB ss && decide ((n : Int) ≤ 16)) w) := by
  have HL := Lib.hid h.strlen
  have HS := Lib.hid hs
  clear hs
  go_enter Try.func75, Try.ntmps75
  go_wp2_with fail
  go_loopw [3] (fun i wr => ∃ k : Nat, k ≤ n ∧ i = .int .i64 k ∧ NamesK ss k ∧ Dr w wr) (fun i _ => n - (intOf i).toNat)
  case atStart => exact ⟨0, Nat.zero_le _, rfl, namesK_zero ss, Dr.refl w⟩
  case round =>
    obtain ⟨k, hk, rfl, hsk, hdr⟩ := hrel
    have HK := Lib.hid hsk
    clear hsk
    by_cases hlt : k < n
    · obtain ⟨b, off, x, rfl, hbb, hx, c0⟩ := h.str hlt
      have hxs : x.size ≤ maxLen := by have := HS.out x (List.mem_of_getElem? hx); unfold maxLen; omega
      have d0 := (hdr.cell ⟨b, off + k, none⟩).trans c0
      have HX := Lib.hid hx
      clear hx c0
      cases q0 : nameB x with
      | false =>
        have HB := Lib.hid (names_bad HX.out q0)
        go_wp2_with fail
        go_quiet ((go_at_call 107; exact Calls.quiet_of_same ((nm_any x _ hxs).mono fun _ _ h => ⟨h.1, h.2.symm⟩)))
        simp only [q0]
        go_wp2_with fail
        go_ret
        exact ⟨by rw [HB.out]; rfl, (hdr.more _).below _⟩
      | true =>
        by_cases hk0 : 0 < k
        · obtain ⟨b', off', p, e', -, hp, c1⟩ := h.str (show k - 1 < n by omega)
          injection e' with e'
          injection e' with e1 e2
          subst e1 e2
          have hps : ss[(k - 1) + 1]? = some x := by rw [show k - 1 + 1 = k by omega]; exact HX.out
          have d1 := (hdr.cell ⟨b, off + (k - 1), none⟩).trans c1
          have hw : IntKind.i64.wrap ((k : Int) - 1) = (k : Int) - 1 := IntWalk.i64_in _ (by omega)
          have hw1 : (0 : Int) ≤ (k : Int) - 1 := by omega
          have hw2 : (k : Int) - 1 < (n : Int) := by omega
          have hw3 : ((k : Int) - 1).toNat = k - 1 := by omega
          have hw4 : (1 : Int) ≤ (k : Int) := by omega
          have HP := Lib.hid hp
          have HPS := Lib.hid hps
          clear hp hps c1
          cases hq : Op.bytesLess p.toList x.toList with
          | true =>
            have HQ := Lib.hid hq
            go_wp2_with fail
            go_quiet ((go_at_call 107; exact Calls.quiet_of_same ((nm_any x _ hxs).mono fun _ _ h => ⟨h.1, h.2.symm⟩)))
            simp only [q0]
            have HN := Lib.hid (namesK_next (show NamesK ss (k - 1 + 1) by rw [show k - 1 + 1 = k by omega]; exact HK.out) HP.out HPS.out q0 HQ.out)
            go_wp2_with fail
            go_roundw
            case rel => exact ⟨k + 1, by omega, by go_num, by have := HN.out; rw [show k - 1 + 1 + 1 = k + 1 by omega] at this; exact this, hdr.more _⟩
            case measure => simp [intOf]; omega
          | false =>
            have HQ := Lib.hid hq
            go_wp2_with fail
            go_quiet ((go_at_call 107; exact Calls.quiet_of_same ((nm_any x _ hxs).mono fun _ _ h => ⟨h.1, h.2.symm⟩)))
            simp only [q0]
            have HB := Lib.hid (names_down HP.out HPS.out HQ.out)
            go_wp2_with fail
            go_ret
            exact ⟨by rw [HB.out]; rfl, (hdr.more _).below _⟩
        · have HN := Lib.hid (show NamesK ss (k + 1) by
            obtain rfl : k = 0 := by omega
            exact namesK_one HX.out q0)
          have hd : decide ((0 : Int) < (k : Int)) = false := by simp; omega
          have hd2 : decide (0 < k) = false := by simp; omega
          go_wp2_with fail
          go_quiet ((go_at_call 107; exact Calls.quiet_of_same ((nm_any x _ hxs).mono fun _ _ h => ⟨h.1, h.2.symm⟩)))
          simp only [q0]
          go_wp2_with fail
          go_roundw
          case rel => exact ⟨k + 1, by omega, by go_num, HN.out, hdr.more _⟩
          case measure => simp [intOf]; omega
    · have hP : NamesP ss := namesK_all HK.out (by rw [HL.out]; omega)
      have HB := Lib.hid (names_true hP)
      clear hP
      go_wp2_with fail
      go_ret
      exact ⟨by rw [HB.out]; rfl, hdr.below _⟩

set_option maxRecDepth 20000 in
set_option maxHeartbeats 1600000 in
theorem areNames_any (A : Option Addr) (n c : Nat) (ss : List ByteArray) (w : World) (B : Nat) (h : SR w B A n (ss.map Value.string)) (hn : n ≤ 1048576) (hs : ∀ s ∈ ss, s.size ≤ 1048576) :
    Calls Try.prog 87 #[.slice A n c] w fun e w' => e = .returned (.bool (namesB ss)) ∧ w = w' := by
  have HL := Lib.hid h.strlen
  have HS := Lib.hid hs
  clear hs
  go_enter Try.func87, Try.ntmps87
  go_wp2_with fail
  go_loop [7] (fun i => ∃ k : Nat, k ≤ n ∧ i = .int .i64 k ∧ NamesK ss k) (fun i => n - (intOf i).toNat)
  case atStart => exact ⟨0, Nat.zero_le _, rfl, namesK_zero ss⟩
  case round =>
    obtain ⟨k, hk, rfl, hsk⟩ := hrel
    have HK := Lib.hid hsk
    clear hsk
    by_cases hlt : k < n
    · obtain ⟨b, off, x, rfl, hbb, hx, d0⟩ := h.str hlt
      have hxs : x.size ≤ maxLen := by have := HS.out x (List.mem_of_getElem? hx); unfold maxLen; omega
      have HX := Lib.hid hx
      clear hx
      cases q0 : nameB x with
      | false =>
        have HB := Lib.hid (names_bad HX.out q0)
        go_wp2_with (go_at_call 115; refine (inm_any _ _ hxs).mono ?_; rintro e w' ⟨rfl, rfl⟩)
        go_ret
        exact ⟨by rw [HB.out]; rfl, rfl⟩
      | true =>
        by_cases hk0 : 0 < k
        · obtain ⟨b', off', p, e', -, hp, d1⟩ := h.str (show k - 1 < n by omega)
          injection e' with e'
          injection e' with e1 e2
          subst e1 e2
          have hps : ss[(k - 1) + 1]? = some x := by rw [show k - 1 + 1 = k by omega]; exact HX.out
          have hw1 : (0 : Int) ≤ (k : Int) - 1 := by omega
          have hw2 : (k : Int) - 1 < (n : Int) := by omega
          have hw3 : ((k : Int) - 1).toNat = k - 1 := by omega
          have hw4 : (1 : Int) ≤ (k : Int) := by omega
          have HP := Lib.hid hp
          have HPS := Lib.hid hps
          clear hp hps
          have HLN := Lib.hid (less_not (p := p) (s := x))
          cases hq : Op.bytesLess x.toList p.toList with
          | true =>
            have HB := Lib.hid (names_down HP.out HPS.out (by rw [HLN.out, hq]; rfl))
            go_wp2_with (go_at_call 115; refine (inm_any _ _ hxs).mono ?_; rintro e w' ⟨rfl, rfl⟩)
            go_ret
            exact ⟨by rw [HB.out]; rfl, rfl⟩
          | false =>
            cases hq2 : (x.toList == p.toList) with
            | true =>
              have HB := Lib.hid (names_down HP.out HPS.out (by rw [HLN.out, hq, hq2]; rfl))
              go_wp2_with (go_at_call 115; refine (inm_any _ _ hxs).mono ?_; rintro e w' ⟨rfl, rfl⟩)
              go_ret
              exact ⟨by rw [HB.out]; rfl, rfl⟩
            | false =>
              have HN := Lib.hid (namesK_next (show NamesK ss (k - 1 + 1) by rw [show k - 1 + 1 = k by omega]; exact HK.out) HP.out HPS.out q0 (by rw [HLN.out, hq, hq2]; rfl))
              go_wp2_with (go_at_call 115; refine (inm_any _ _ hxs).mono ?_; rintro e w' ⟨rfl, rfl⟩)
              go_round
              case rel => exact ⟨k + 1, by omega, by go_num, by have := HN.out; rw [show k - 1 + 1 + 1 = k + 1 by omega] at this; exact this⟩
              case measure => simp [intOf]; omega
        · have HN := Lib.hid (show NamesK ss (k + 1) by
            obtain rfl : k = 0 := by omega
            exact namesK_one HX.out q0)
          have hd : decide ((0 : Int) < (k : Int)) = false := by simp; omega
          have hd2 : decide (0 < k) = false := by simp; omega
          go_wp2_with (go_at_call 115; refine (inm_any _ _ hxs).mono ?_; rintro e w' ⟨rfl, rfl⟩)
          go_round
          case rel => exact ⟨k + 1, by omega, by go_num, HN.out⟩
          case measure => simp [intOf]; omega
    · have HB := Lib.hid (names_true (namesK_all HK.out (by rw [HL.out]; omega)))
      go_wp2_with fail
      go_ret
      exact ⟨by rw [HB.out]; rfl, rfl⟩
end Go.Proofs.Ytifialdkjnmfoab.nm
