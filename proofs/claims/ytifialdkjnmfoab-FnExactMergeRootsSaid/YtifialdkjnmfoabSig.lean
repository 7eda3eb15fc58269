/- Whether a list is a signature: spec.IsSignature. -/
import Derived.Test.YtifialdkjnmfoabSg
import Derived.Test.YtifialdkjnmfoabMapB
import Derived.Deep.QuietTactic
import Derived.BigQuiet
namespace Go.Proofs.Ytifialdkjnmfoab.sig
open kit bg sg
open Go.RowKit
set_option linter.unusedVariables false

/-- the first k Controls are those of a signature -/
def SigK (cs : List Ctl) (k : Nat) : Prop :=
  (∀ (j : Nat) c, j < k → cs[j]? = some c → ctlB c = true) ∧ (∀ (i j : Nat) a b, i < k → j < i → cs[i]? = some a → cs[j]? = some b → b.name ≠ a.name)
theorem sigK_zero (cs : List Ctl) : SigK cs 0 := ⟨fun j c h => absurd h (Nat.not_lt_zero j), fun i j a b h => absurd h (Nat.not_lt_zero i)⟩
theorem sigK_next {cs : List Ctl} {k : Nat} {x : Ctl} (h : SigK cs k) (hx : cs[k]? = some x) (hc : ctlB x = true) (hd : ∀ (j : Nat) b, j < k → cs[j]? = some b → b.name ≠ x.name) : SigK cs (k + 1) := by
  refine ⟨fun j c hj hc' => ?_, fun i j a b hi hj ha hb => ?_⟩
  · by_cases e : j = k
    · subst e; rw [hx] at hc'; injection hc' with e; subst e; exact hc
    · exact h.1 j c (by omega) hc'
  · by_cases e : i = k
    · subst e; rw [hx] at ha; injection ha with e; subst e; exact hd j b hj hb
    · exact h.2 i j a b (by omega) hj ha hb
theorem sigK_all {cs : List Ctl} {k : Nat} (h : SigK cs k) (hk : cs.length ≤ k) : sigB cs = inb cs.length 1 6 := by
  cases hq : inb cs.length 1 6 with
  | true => exact sig_true ⟨fun j c hc => h.1 j c (by have := (List.getElem?_eq_some_iff.1 hc).1; omega) hc, fun i j a b hj ha hb => h.2 i j a b (by have := (List.getElem?_eq_some_iff.1 ha).1; omega) hj ha hb, hq⟩
  | false => exact sig_false (fun hp => by rw [hp.2.2] at hq; cases hq)
theorem sig_bad {cs : List Ctl} {k : Nat} {x : Ctl} (hx : cs[k]? = some x) (hc : ctlB x = false) : sigB cs = false := sig_false (fun hp => by rw [hp.1 k x hx] at hc; cases hc)
theorem sig_twice {cs : List Ctl} {i j : Nat} {a b : Ctl} (hj : j < i) (ha : cs[i]? = some a) (hb : cs[j]? = some b) (e : b.name = a.name) : sigB cs = false := sig_false (fun hp => hp.2.1 i j a b hj ha hb e)

def Post (b : Bool) (w : World) (e : Ending) (w' : World) : Prop := e = .returned (.bool b) ∧ Below w.heap.size w w'

set_option maxRecDepth 20000 in
set_option maxHeartbeats 1600000 in
theorem l2Sig_any (A : Option Addr) (n c : Nat) (cs : List Ctl) (w : World) (B : Nat) (h : CtlsAt w B A n cs) (hn : n ≤ 1048576) (hs : ∀ c ∈ cs, c.name.size ≤ 1048576) :
    Calls Try.prog 73 #[.slice A n c] w (Post (sigB cs) w) := by
  have HL := Lib.hid h.1
  have HS := Lib.hid hs
  clear hs
  go_enter Try.func73, Try.ntmps73
  go_wp2_with fail
  go_loopw [3, 4] (fun i _ wr => ∃ k : Nat, k ≤ n ∧ i = .int .i64 k ∧ SigK cs k ∧ Dr w wr) (fun i _ _ => n - (intOf i).toNat)
  case atStart => exact ⟨0, Nat.zero_le _, rfl, sigK_zero cs, Dr.refl w⟩
  case round =>
    obtain ⟨k, hk, rfl, hsk, hdr⟩ := hrel
    obtain ⟨wo, rfl⟩ : ∃ wo : World, wo = wr := ⟨_, rfl⟩
    have HK := Lib.hid hsk
    clear hsk
    by_cases hlt : k < n
    · obtain ⟨b, off, x, rfl, hbb, hx, c0, c1, c2⟩ := h.get hlt
      have hxs : x.name.size ≤ maxLen := by have := HS.out x (List.mem_of_getElem? hx); unfold maxLen; omega
      have d0 := (hdr.cell ⟨b, off + k * 3, none⟩).trans c0
      have d1 := (hdr.cell ⟨b, off + k * 3 + 1, none⟩).trans c1
      have d2 := (hdr.cell ⟨b, off + k * 3 + 2, none⟩).trans c2
      have HX := Lib.hid hx
      clear hx c0 c1 c2
      cases q0 : nameB x.name with
      | false =>
        have HB := Lib.hid (sig_bad HX.out (show ctlB x = false by unfold ctlB; rw [q0]; rfl))
        go_wp2_with (first | (go_at_call 107; refine (nm_any _ _ hxs).mono ?_; rintro e w' ⟨rfl, rfl⟩) | (go_at_call 74; refine (in_any _ _ _ _).mono ?_; rintro e w' ⟨rfl, rfl⟩))
        go_ret
        exact ⟨by rw [HB.out]; rfl, hdr.below _⟩
      | true =>
        cases q1 : inb x.ports 0 3 with
        | false =>
          have HB := Lib.hid (sig_bad HX.out (show ctlB x = false by unfold ctlB; rw [q0, q1]; rfl))
          go_wp2_with (first | (go_at_call 107; refine (nm_any _ _ hxs).mono ?_; rintro e w' ⟨rfl, rfl⟩) | (go_at_call 74; refine (in_any _ _ _ _).mono ?_; rintro e w' ⟨rfl, rfl⟩))
          go_ret
          exact ⟨by rw [HB.out]; rfl, hdr.below _⟩
        | true =>
          cases q2 : inb x.kind 0 2 with
          | false =>
            have HB := Lib.hid (sig_bad HX.out (show ctlB x = false by unfold ctlB; rw [q0, q1, q2]; rfl))
            go_wp2_with (first | (go_at_call 107; refine (nm_any _ _ hxs).mono ?_; rintro e w' ⟨rfl, rfl⟩) | (go_at_call 74; refine (in_any _ _ _ _).mono ?_; rintro e w' ⟨rfl, rfl⟩))
            go_ret
            exact ⟨by rw [HB.out]; rfl, hdr.below _⟩
          | true =>
            have HB := Lib.hid (show ctlB x = true by unfold ctlB; rw [q0, q1, q2]; rfl)
            go_wp2_with (first | (go_at_call 107; refine (nm_any _ _ hxs).mono ?_; rintro e w' ⟨rfl, rfl⟩) | (go_at_call 74; refine (in_any _ _ _ _).mono ?_; rintro e w' ⟨rfl, rfl⟩))
            go_loopw [4] (fun i wi => ∃ j : Nat, j ≤ k ∧ i = .int .i64 j ∧ (∀ (j' : Nat) b, j' < j → cs[j']? = some b → b.name ≠ x.name) ∧ Dr w wi) (fun i _ => k - (intOf i).toNat)
            case atStart => exact ⟨0, Nat.zero_le _, rfl, fun j b hj => absurd hj (Nat.not_lt_zero j), hdr⟩
            case round =>
              obtain ⟨j, hj, rfl, hdj, hdri⟩ := hrel
              have HD := Lib.hid hdj
              clear hdj
              by_cases hjk : j < k
              · obtain ⟨b', off', y, e', hbb', hy, c0', _, _⟩ := h.get (show j < n by omega)
                injection e' with e'
                injection e' with e1 e2
                subst e1 e2
                have g0 := (hdri.cell ⟨b, off + j * 3, none⟩).trans c0'
                have g1 := (hdri.cell ⟨b, off + k * 3, none⟩).trans ((hdr.cell ⟨b, off + k * 3, none⟩).symm.trans d0)
                have HY := Lib.hid hy
                clear hy c0'
                cases hq : (y.name.toList == x.name.toList) with
                | true =>
                  have HT := Lib.hid (sig_twice hjk HX.out HY.out (str_eq hq))
                  go_wp2_with fail
                  go_quiet (fail)
                  go_wp2_with fail
                  go_ret
                  exact ⟨by rw [HT.out]; rfl, (hdri.more _).below _⟩
                | false =>
                  have HE := Lib.hid (str_ne hq)
                  go_wp2_with fail
                  go_quiet (fail)
                  go_wp2_with fail
                  go_roundw
                  case rel => exact ⟨j + 1, by omega, by go_num, fun j' b' hj' hb' => by
                    by_cases e : j' = j
                    · subst e; rw [HY.out] at hb'; injection hb' with e; subst e; exact HE.out
                    · exact HD.out j' b' (by omega) hb', hdri.more _⟩
                  case measure => simp [intOf]; omega
              · obtain rfl : j = k := by omega
                go_wp2_with fail
                go_roundw
                case rel => exact ⟨j + 1, by omega, by go_num, sigK_next HK.out HX.out HB.out HD.out, hdri⟩
                case measure => simp [intOf]; omega
    · have HB := Lib.hid (sigK_all HK.out (by rw [HL.out]; omega))
      go_wp2_with (go_at_call 74; refine (in_any _ _ _ _).mono ?_; rintro e w' ⟨rfl, rfl⟩)
      go_ret
      exact ⟨by rw [HB.out, HL.out]; rfl, hdr.below _⟩
end Go.Proofs.Ytifialdkjnmfoab.sig
