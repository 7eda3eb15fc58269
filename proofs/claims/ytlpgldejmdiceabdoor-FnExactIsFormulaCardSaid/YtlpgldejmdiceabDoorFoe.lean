/- spec.l11End, spec.l11Formula, spec.IsFormula. -/
import Derived.Test.YtlpgldejmdiceabDoorQb
import Derived.Test.YtlpgldejmdiceabDoorFox
namespace Go.Proofs.YtlpgldejmdiceabDoor.foe
open kit bg opn strs only hb sg sig isig fox
open Go.RowKit
set_option linter.unusedVariables false
set_option linter.unusedSimpArgs false
def endI (n : Nat) (f : List Int) (a : Int) : Int := if a < 0 then -1 else match rdF n (f.drop a.toNat) with | none => -1 | some r => (f.length : Int) - r.length
theorem endI_neg {n : Nat} {f : List Int} {a : Int} (h : a < 0) : endI n f a = -1 := by unfold endI; rw [if_pos h]
theorem endI_nat {n : Nat} {f : List Int} {a : Nat} : endI n f (a : Int) = match rdF n (f.drop a) with | none => -1 | some r => (f.length : Int) - r.length := by
  unfold endI
  rw [if_neg (by omega), Int.toNat_natCast]
theorem endI_out {n : Nat} {f : List Int} {a : Nat} (h : f.length ≤ a) : endI n f (a : Int) = -1 := by
  rw [endI_nat, List.drop_eq_nil_of_le h]
  cases n <;> rfl
theorem drop_at {f : List Int} {a : Nat} {z : Int} (h : f[a]? = some z) : f.drop a = z :: f.drop (a + 1) := by
  obtain ⟨hl, he⟩ := List.getElem?_eq_some_iff.1 h
  rw [List.drop_eq_getElem_cons hl, he]
theorem endI_le {n : Nat} {f : List Int} {a : Nat} (ha : a ≤ f.length) : endI n f (a : Int) = -1 ∨ ∃ (r : List Int) (k : Nat), rdF n (f.drop a) = some r ∧ r = f.drop k ∧ a < k ∧ k ≤ f.length ∧ endI n f (a : Int) = (k : Int) := by
  rw [endI_nat]
  cases h : rdF n (f.drop a) with
  | none => exact .inl rfl
  | some r =>
    obtain ⟨k, h1, h2, rfl⟩ := rd_drop n _ _ h
    rw [List.length_drop] at h2
    refine .inr ⟨_, a + k, rfl, by rw [List.drop_drop], by omega, by omega, ?_⟩
    simp only [List.length_drop]
    omega
theorem endI_three {n : Nat} {f : List Int} {a : Nat} (h : f[a]? = some 3) : endI (n + 1) f (a : Int) = endI n f (endI n f ((a + 1 : Nat) : Int)) := by
  have hl := (List.getElem?_eq_some_iff.1 h).1
  rw [endI_nat, drop_at h]
  simp only [rdF, if_neg (show ¬ (3 : Int) = 0 by omega), if_neg (show ¬ (3 : Int) = 1 by omega), if_neg (show ¬ (3 : Int) = 2 by omega), if_pos]
  rcases endI_le (n := n) (f := f) (a := a + 1) (by omega) with e | ⟨r, k, h1, h2, h3, h4, e⟩
  · rw [e, endI_neg (by omega)]
    rw [endI_nat] at e
    cases h1 : rdF n (f.drop (a + 1)) with
    | none => rfl
    | some r =>
      rw [h1] at e
      simp only at e
      obtain ⟨k, h2, h3, rfl⟩ := rd_drop n _ _ h1
      simp only [List.length_drop] at e h3
      omega
  · rw [e, endI_nat, h1, h2]
theorem endI_two {n : Nat} {f : List Int} {a : Nat} (h : f[a]? = some 2) : endI (n + 1) f (a : Int) = endI n f ((a + 1 : Nat) : Int) := by
  rw [endI_nat, endI_nat, drop_at h]
  simp only [rdF, if_neg (show ¬ (2 : Int) = 0 by omega), if_neg (show ¬ (2 : Int) = 1 by omega), if_pos]
theorem endI_zero {n : Nat} {f : List Int} {a : Nat} (h : f[a]? = some 0) : endI (n + 1) f (a : Int) = (a : Int) + 1 := by
  have hl := (List.getElem?_eq_some_iff.1 h).1
  rw [endI_nat, drop_at h]
  simp only [rdF, if_pos]
  show (f.length : Int) - ((f.drop (a + 1)).length : Nat) = (a : Int) + 1
  rw [List.length_drop]
  omega
theorem endI_one {n : Nat} {f : List Int} {a : Nat} (h : f[a]? = some 1) : endI (n + 1) f (a : Int) = match f[a + 1]? with | none => -1 | some m => if 0 ≤ m ∧ m ≤ 7 then (a : Int) + 2 else -1 := by
  rw [endI_nat, drop_at h]
  simp only [rdF, if_neg (show ¬ (1 : Int) = 0 by omega), if_pos]
  cases h1 : f[a + 1]? with
  | none =>
    rw [List.drop_eq_nil_of_le (List.getElem?_eq_none_iff.1 h1)]
  | some m =>
    have hl := (List.getElem?_eq_some_iff.1 h1).1
    rw [drop_at h1]
    simp only
    by_cases hm : 0 ≤ m ∧ m ≤ 7
    · rw [if_pos hm, if_pos hm]
      simp only [List.length_drop]
      omega
    · rw [if_neg hm, if_neg hm]
theorem endI_four {n : Nat} {f : List Int} {a : Nat} (h : f[a]? = some 4) : endI (n + 1) f (a : Int) = match f[a + 1]? with | none => -1 | some m => if 0 ≤ m ∧ m ≤ 7 then endI n f ((a + 2 : Nat) : Int) else -1 := by
  rw [endI_nat, drop_at h]
  simp only [rdF, if_neg (show ¬ (4 : Int) = 0 by omega), if_neg (show ¬ (4 : Int) = 1 by omega), if_neg (show ¬ (4 : Int) = 2 by omega), if_neg (show ¬ (4 : Int) = 3 by omega), if_pos]
  cases h1 : f[a + 1]? with
  | none =>
    rw [List.drop_eq_nil_of_le (List.getElem?_eq_none_iff.1 h1)]
  | some m =>
    rw [drop_at h1]
    simp only
    by_cases hm : 0 ≤ m ∧ m ≤ 7
    · rw [if_pos hm, if_pos hm, endI_nat]
    · rw [if_neg hm, if_neg hm]
theorem endI_else {n : Nat} {f : List Int} {a : Nat} {z : Int} (h : f[a]? = some z) (h0 : z ≠ 0) (h1 : z ≠ 1) (h2 : z ≠ 2) (h3 : z ≠ 3) (h4 : z ≠ 4) : endI (n + 1) f (a : Int) = -1 := by
  rw [endI_nat, drop_at h]
  simp only [rdF, if_neg h0, if_neg h1, if_neg h2, if_neg h3, if_neg h4]
theorem inb_iff {m : Int} : inb m 0 7 = decide (0 ≤ m ∧ m ≤ 7) := by
  cases h : inb m 0 7 with
  | true => have := inb_true h; exact (decide_eq_true this).symm
  | false => exact (decide_eq_false (fun hc => by rw [inb_mk hc] at h; cases h)).symm
set_option maxRecDepth 20000 in
set_option maxHeartbeats 6400000 in
theorem end_any (A : Option Addr) (nf cf : Nat) (f : List Int) (w : World) (h : IntsAt w w.heap.size A nf f) (hn : nf ≤ 1048576) : ∀ (n : Nat) (a : Int), -1 ≤ a → a ≤ nf → (nf : Int) - a ≤ n + (nf + 2) * (if a < 0 then 1 else 0) →
    Calls Tryd.prog 86 #[.slice A nf cf, .int .i64 a] w fun e w' => e = .returned (.int .i64 (endI n f a)) ∧ w = w' := by
  have hlen := h.len
  have HL := Lib.hid hlen
  intro n
  induction n with
  | zero =>
    intro a ha1 ha2 ha3
    have he : endI 0 f a = -1 := by
      by_cases h0 : a < 0
      · exact endI_neg h0
      · obtain ⟨k, rfl⟩ : ∃ k : Nat, a = k := ⟨a.toNat, by omega⟩
        rw [if_neg h0] at ha3
        exact endI_out (by omega)
    rw [he]
    by_cases h0 : a < 0
    · go_enter Tryd.func86, Tryd.ntmps86
      go_wp2_with fail
      go_ret
      exact ⟨rfl, rfl⟩
    · have h1 : (nf : Int) ≤ a := by rw [if_neg h0] at ha3; omega
      go_enter Tryd.func86, Tryd.ntmps86
      go_wp2_with fail
      go_ret
      exact ⟨rfl, rfl⟩
  | succ n ih =>
    intro a ha1 ha2 ha3
    have HIh := Lib.hid ih
    clear ih
    by_cases h0 : a < 0
    · rw [endI_neg h0]
      go_enter Tryd.func86, Tryd.ntmps86
      go_wp2_with fail
      go_ret
      exact ⟨rfl, rfl⟩
    · rw [if_neg h0] at ha3
      obtain ⟨k, rfl⟩ : ∃ k : Nat, a = k := ⟨a.toNat, by omega⟩
      by_cases h1 : nf ≤ k
      · rw [endI_out (by omega)]
        have h1' : (nf : Int) ≤ (k : Int) := by omega
        go_enter Tryd.func86, Tryd.ntmps86
        go_wp2_with fail
        go_ret
        exact ⟨rfl, rfl⟩
      · have hk : k < nf := by omega
        have h1' : ¬ (nf : Int) ≤ (k : Int) := by omega
        obtain ⟨b, off, z, rfl, hb, hx, c0⟩ := IntsAt.get h hk
        have hw1 : IntKind.i64.wrap ((k : Int) + 1) = ((k + 1 : Nat) : Int) := by rw [IntWalk.i64_in _ (by omega)]; omega
        have hw2 : IntKind.i64.wrap ((k : Int) + 2) = ((k + 2 : Nat) : Int) := by rw [IntWalk.i64_in _ (by omega)]; omega
        by_cases z0 : z = 0
        · subst z0
          rw [endI_zero hx]
          clear hx
          go_enter Tryd.func86, Tryd.ntmps86
          go_wp2_with fail
          go_ret
          exact ⟨by first | rfl | (congr 2), rfl⟩
        by_cases z1 : z = 1
        · subst z1
          rw [endI_one hx]
          clear hx
          by_cases hk2 : k + 1 < nf
          · obtain ⟨_, _, m, eA, _, hm, c1⟩ := IntsAt.get h hk2
            injection eA with eA
            injection eA with eg eo
            subst eg eo
            rw [hm]
            have c1' : w.cell? ⟨b, off + (k + 1), none⟩ = some (.int .i64 m) := c1
            have hlt : ((k + 1 : Nat) : Int) < (nf : Int) := by omega
            clear hm c1
            cases hq : inb m 0 7 with
            | true =>
              have hq2 := of_decide_eq_true (inb_iff.symm.trans hq)
              simp only [if_pos hq2]
              go_enter Tryd.func86, Tryd.ntmps86
              go_wp2_with fail
              refine (in_any m 0 7 w).mono ?_
              rintro e w1 ⟨rfl, rfl⟩
              rw [hq]
              clear hq2
              go_wp2_with fail
              go_ret
              exact ⟨by first | rfl | (congr 2), rfl⟩
            | false =>
              have hq2 := of_decide_eq_false (inb_iff.symm.trans hq)
              simp only [if_neg hq2]
              go_enter Tryd.func86, Tryd.ntmps86
              go_wp2_with fail
              refine (in_any m 0 7 w).mono ?_
              rintro e w1 ⟨rfl, rfl⟩
              rw [hq]
              clear hq2
              go_wp2_with fail
              go_ret
              exact ⟨rfl, rfl⟩
          · rw [List.getElem?_eq_none (by omega)]
            have hlt : ¬ ((k + 1 : Nat) : Int) < (nf : Int) := by omega
            go_enter Tryd.func86, Tryd.ntmps86
            go_wp2_with fail
            go_ret
            exact ⟨rfl, rfl⟩
        by_cases z2 : z = 2
        · subst z2
          rw [endI_two hx]
          have C := HIh.out ((k + 1 : Nat) : Int) (by omega) (by omega) (by rw [if_neg (by omega)]; omega)
          clear hx
          go_enter Tryd.func86, Tryd.ntmps86
          go_wp2_with fail
          refine C.mono ?_
          rintro e w1 ⟨rfl, rfl⟩
          clear C
          go_wp2_with fail
          go_ret
          exact ⟨rfl, rfl⟩
        by_cases z3 : z = 3
        · subst z3
          rw [endI_three hx]
          have C := HIh.out ((k + 1 : Nat) : Int) (by omega) (by omega) (by rw [if_neg (by omega)]; omega)
          have hv : -1 ≤ endI n f ((k + 1 : Nat) : Int) ∧ endI n f ((k + 1 : Nat) : Int) ≤ nf ∧ (nf : Int) - endI n f ((k + 1 : Nat) : Int) ≤ n + (nf + 2) * (if endI n f ((k + 1 : Nat) : Int) < 0 then 1 else 0) := by
            rcases endI_le (n := n) (f := f) (a := k + 1) (by omega) with e | ⟨r, i, _, _, h3, h4, e⟩
            · rw [e, if_pos (by omega)]; omega
            · rw [e, if_neg (by omega)]; omega
          obtain ⟨v, hve⟩ : ∃ v, endI n f ((k + 1 : Nat) : Int) = v := ⟨_, rfl⟩
          rw [hve] at C hv ⊢
          have C2 := HIh.out v hv.1 hv.2.1 hv.2.2
          clear hx hv hve
          go_enter Tryd.func86, Tryd.ntmps86
          go_wp2_with fail
          refine C.mono ?_
          rintro e w1 ⟨rfl, rfl⟩
          clear C
          go_wp2_with fail
          refine C2.mono ?_
          rintro e w1 ⟨rfl, rfl⟩
          clear C2
          go_wp2_with fail
          go_ret
          exact ⟨rfl, rfl⟩
        by_cases z4 : z = 4
        · subst z4
          rw [endI_four hx]
          clear hx
          by_cases hk2 : k + 1 < nf
          · obtain ⟨_, _, m, eA, _, hm, c1⟩ := IntsAt.get h hk2
            injection eA with eA
            injection eA with eg eo
            subst eg eo
            rw [hm]
            have c1' : w.cell? ⟨b, off + (k + 1), none⟩ = some (.int .i64 m) := c1
            have hlt : ((k + 1 : Nat) : Int) < (nf : Int) := by omega
            have C := HIh.out ((k + 2 : Nat) : Int) (by omega) (by omega) (by rw [if_neg (by omega)]; omega)
            clear hm c1
            cases hq : inb m 0 7 with
            | true =>
              have hq2 := of_decide_eq_true (inb_iff.symm.trans hq)
              simp only [if_pos hq2]
              go_enter Tryd.func86, Tryd.ntmps86
              go_wp2_with fail
              refine (in_any m 0 7 w).mono ?_
              rintro e w1 ⟨rfl, rfl⟩
              rw [hq]
              clear hq2
              go_wp2_with fail
              refine C.mono ?_
              rintro e w1 ⟨rfl, rfl⟩
              clear C
              go_wp2_with fail
              go_ret
              exact ⟨rfl, rfl⟩
            | false =>
              have hq2 := of_decide_eq_false (inb_iff.symm.trans hq)
              simp only [if_neg hq2]
              go_enter Tryd.func86, Tryd.ntmps86
              go_wp2_with fail
              refine (in_any m 0 7 w).mono ?_
              rintro e w1 ⟨rfl, rfl⟩
              rw [hq]
              clear hq2
              go_wp2_with fail
              go_ret
              exact ⟨rfl, rfl⟩
          · rw [List.getElem?_eq_none (by omega)]
            have hlt : ¬ ((k + 1 : Nat) : Int) < (nf : Int) := by omega
            go_enter Tryd.func86, Tryd.ntmps86
            go_wp2_with fail
            go_ret
            exact ⟨rfl, rfl⟩
        · rw [endI_else hx z0 z1 z2 z3 z4]
          clear hx
          go_enter Tryd.func86, Tryd.ntmps86
          go_wp2_with fail
          go_ret
          exact ⟨rfl, rfl⟩
theorem isF_long {f : List Int} (h : ¬ f.length ≤ 200) : isF f = false := by unfold isF; rw [decide_eq_false h]; rfl
theorem isF_end {f : List Int} (h : f.length ≤ 200) : isF f = decide (endI 201 f 0 = (f.length : Int)) := by
  unfold isF
  rw [decide_eq_true h, Bool.true_and, show (0 : Int) = ((0 : Nat) : Int) from rfl, endI_nat, List.drop_zero]
  cases h1 : rdF 201 f with
  | none =>
    rw [decide_eq_false (fun e => by cases e), decide_eq_false (fun e => by simp only at e; omega)]
  | some r =>
    cases r with
    | nil => rw [decide_eq_true rfl]; exact (decide_eq_true (by simp)).symm
    | cons x r => rw [decide_eq_false (fun e => by cases e)]; exact (decide_eq_false (fun e => by simp only [List.length_cons] at e; omega)).symm
theorem end_pos {f : List Int} (h : endI 201 f 0 = (f.length : Int)) : 0 < f.length := by
  cases f with
  | nil => cases h
  | cons z r => simp
set_option maxRecDepth 20000 in
set_option maxHeartbeats 1600000 in
theorem form_any (A : Option Addr) (nf cf : Nat) (f : List Int) (w : World) (h : IntsAt w w.heap.size A nf f) (hn : nf ≤ 1048576) :
    Calls Tryd.prog 42 #[.slice A nf cf] w fun e w' => e = .returned (.bool (isF f)) ∧ w = w' := by
  have hlen := h.len
  by_cases h2 : nf ≤ 200
  · have C := end_any A nf cf f w h hn 201 0 (by omega) (by omega) (by simp; omega)
    rw [isF_end (by omega), hlen]
    have h2' : (nf : Int) ≤ 200 := by omega
    obtain ⟨v, hv⟩ : ∃ v, endI 201 f 0 = v := ⟨_, rfl⟩
    rw [hv] at C ⊢
    by_cases he : v = (nf : Int)
    · have hp : 0 < nf := by rw [← hlen]; exact end_pos (by rw [hv, he, hlen])
      have hp' : (0 : Int) < (nf : Int) := by omega
      rw [decide_eq_true he]
      subst he
      clear hv
      go_enter Tryd.func42, Tryd.ntmps42
      go_wp2_with fail
      refine C.mono ?_
      rintro e w1 ⟨rfl, rfl⟩
      clear C
      go_wp2_with fail
      go_ret
      exact ⟨by first | rfl | simp, rfl⟩
    · rw [decide_eq_false he]
      clear hv
      go_enter Tryd.func42, Tryd.ntmps42
      go_wp2_with fail
      refine C.mono ?_
      rintro e w1 ⟨rfl, rfl⟩
      clear C
      go_wp2_with fail
      go_ret
      exact ⟨by first | rfl | simp, rfl⟩
  · rw [isF_long (by omega)]
    have h2' : ¬ (nf : Int) ≤ 200 := by omega
    go_enter Tryd.func42, Tryd.ntmps42
    go_wp2_with fail
    go_ret
    exact ⟨by first | rfl | simp, rfl⟩
set_option maxRecDepth 20000 in
set_option maxHeartbeats 1600000 in
theorem sIsf_any (A : Option Addr) (nf cf : Nat) (f : List Int) (w : World) (h : IntsAt w w.heap.size A nf f) (hn : nf ≤ 1048576) :
    Calls Tryd.prog 12 #[.slice A nf cf] w fun e w' => e = .returned (.bool (isF f)) ∧ w = w' := by
  have C := form_any A nf cf f w h hn
  go_enter Tryd.func12, Tryd.ntmps12
  go_wp2_with fail
  refine C.mono ?_
  rintro e w1 ⟨rfl, rfl⟩
  clear C
  go_wp2_with fail
  go_ret
  exact ⟨rfl, rfl⟩
end Go.Proofs.YtlpgldejmdiceabDoor.foe
