/- Formulas as lists of numbers, in plain Lean: what is behind the first formula of a list; no program. -/
import Derived.Test.YtlpgldejmdiceabDoorQa
namespace Go.Proofs.YtlpgldejmdiceabDoor.fox

set_option linter.unusedVariables false
/-- what is behind the formula with which a list begins; n bounds the depth -/
def rdF : Nat → List Int → Option (List Int)
  | 0, _ => none
  | _ + 1, [] => none
  | n + 1, z :: r =>
    if z = 0 then some r
    else if z = 1 then (match r with | [] => none | m :: r' => if 0 ≤ m ∧ m ≤ 7 then some r' else none)
    else if z = 2 then rdF n r
    else if z = 3 then (match rdF n r with | none => none | some r' => rdF n r')
    else if z = 4 then (match r with | [] => none | m :: r' => if 0 ≤ m ∧ m ≤ 7 then rdF n r' else none)
    else none
theorem rd_drop : ∀ (n : Nat) (l r : List Int), rdF n l = some r → ∃ k, 0 < k ∧ k ≤ l.length ∧ r = l.drop k
  | 0, _, _, h => by cases h
  | _ + 1, [], _, h => by cases h
  | n + 1, z :: t, r, h => by
    unfold rdF at h
    split at h
    · injection h with h
      subst h
      exact ⟨1, by omega, by simp, rfl⟩
    · split at h
      · cases t with
        | nil => cases h
        | cons m t' =>
          simp only at h
          split at h
          · injection h with h
            subst h
            exact ⟨2, by omega, by simp, rfl⟩
          · cases h
      · split at h
        · obtain ⟨k, h1, h2, rfl⟩ := rd_drop n t r h
          exact ⟨k + 1, by omega, by simpa using h2, by simp⟩
        · split at h
          · cases h1 : rdF n t with
            | none => rw [h1] at h; cases h
            | some r1 =>
              rw [h1] at h
              simp only at h
              obtain ⟨k, a1, a2, rfl⟩ := rd_drop n t r1 h1
              obtain ⟨k2, b1, b2, rfl⟩ := rd_drop n _ r h
              rw [List.length_drop] at b2
              refine ⟨k + k2 + 1, by omega, by simp; omega, ?_⟩
              rw [List.drop_drop]
              simp
          · split at h
            · cases t with
              | nil => cases h
              | cons m t' =>
                simp only at h
                split at h
                · obtain ⟨k, h1, h2, rfl⟩ := rd_drop n t' r h
                  exact ⟨k + 2, by omega, by simpa using h2, by simp⟩
                · cases h
            · cases h
/-- the heads that formulas have, and how many parts each has -/
def hdN (k : Nat) : List Int := if k = 0 then [0] else if k = 1 then [2] else if k = 2 then [3] else if k < 11 then [1, ((k - 3 : Nat) : Int)] else [4, ((k - 11 : Nat) : Int)]
def hdP (k : Nat) : Nat := if k = 0 then 0 else if k = 1 then 1 else if k = 2 then 2 else if k < 11 then 0 else 1
def preB (h f : List Int) : Bool := decide (f.take h.length = h)
/-- so many formulas one after another -/
def repF (n : Nat) : Nat → List Int → Option (List Int)
  | 0, l => some l
  | k + 1, l => match rdF n l with | none => none | some r => repF n k r
theorem pre_cut {h f : List Int} (hp : preB h f = true) : f = h ++ f.drop h.length := by
  have := of_decide_eq_true hp
  conv => lhs; rw [← List.take_append_drop h.length f, this]
theorem rd_head {n k : Nat} {f : List Int} (hk : k < 19) (hp : preB (hdN k) f = true) : rdF (n + 1) f = repF n (hdP k) (f.drop (hdN k).length) := by
  have e := pre_cut hp
  obtain ⟨r, hr⟩ : ∃ r, f.drop (hdN k).length = r := ⟨_, rfl⟩
  rw [hr] at e ⊢
  rw [e]
  unfold hdN hdP
  by_cases h0 : k = 0
  · simp [h0, rdF, repF]
  · by_cases h1 : k = 1
    · simp only [h1, if_neg (show ¬ (1 : Nat) = 0 by omega), if_pos]
      show rdF (n + 1) (2 :: r) = match rdF n r with | none => none | some r => some r
      simp only [rdF, if_neg (show ¬ (2 : Int) = 0 by omega), if_neg (show ¬ (2 : Int) = 1 by omega), if_pos]
      cases rdF n r <;> rfl
    · by_cases h2 : k = 2
      · simp only [h2, if_neg (show ¬ (2 : Nat) = 0 by omega), if_neg (show ¬ (2 : Nat) = 1 by omega), if_pos]
        show rdF (n + 1) (3 :: r) = match rdF n r with | none => none | some r => match rdF n r with | none => none | some r => some r
        simp only [rdF, if_neg (show ¬ (3 : Int) = 0 by omega), if_neg (show ¬ (3 : Int) = 1 by omega), if_neg (show ¬ (3 : Int) = 2 by omega), if_pos]
        cases rdF n r with
        | none => rfl
        | some r' => simp only; cases rdF n r' <;> rfl
      · by_cases h3 : k < 11
        · rw [if_neg h0, if_neg h1, if_neg h2, if_pos h3, if_neg h0, if_neg h1, if_neg h2, if_pos h3]
          show rdF (n + 1) (1 :: ((k - 3 : Nat) : Int) :: r) = some r
          simp only [rdF, if_neg (show ¬ (1 : Int) = 0 by omega), if_pos]
          rw [if_pos (by omega)]
        · rw [if_neg h0, if_neg h1, if_neg h2, if_neg h3, if_neg h0, if_neg h1, if_neg h2, if_neg h3]
          show rdF (n + 1) (4 :: ((k - 11 : Nat) : Int) :: r) = match rdF n r with | none => none | some r => some r
          simp only [rdF, if_neg (show ¬ (4 : Int) = 0 by omega), if_neg (show ¬ (4 : Int) = 1 by omega), if_neg (show ¬ (4 : Int) = 2 by omega), if_neg (show ¬ (4 : Int) = 3 by omega), if_pos]
          rw [if_pos (by omega)]
          cases rdF n r <;> rfl
theorem pre_of {h r : List Int} : preB h (h ++ r) = true := by unfold preB; simp
theorem rd_nohead {n : Nat} {f : List Int} (hp : ∀ k, k < 19 → preB (hdN k) f = false) : rdF (n + 1) f = none := by
  cases f with
  | nil => rfl
  | cons z r =>
    have h0 : z ≠ 0 := fun e => by
      have := hp 0 (by omega)
      rw [e, show (0 : Int) :: r = hdN 0 ++ r from rfl, pre_of] at this
      cases this
    have h2 : z ≠ 2 := fun e => by
      have := hp 1 (by omega)
      rw [e, show (2 : Int) :: r = hdN 1 ++ r from rfl, pre_of] at this
      cases this
    have h3 : z ≠ 3 := fun e => by
      have := hp 2 (by omega)
      rw [e, show (3 : Int) :: r = hdN 2 ++ r from rfl, pre_of] at this
      cases this
    simp only [rdF, if_neg h0, if_neg h2, if_neg h3]
    by_cases h1 : z = 1
    · rw [if_pos h1]
      cases r with
      | nil => rfl
      | cons m r' =>
        simp only
        by_cases hm : 0 ≤ m ∧ m ≤ 7
        · exfalso
          have := hp (m.toNat + 3) (by omega)
          have e : hdN (m.toNat + 3) = [1, m] := by
            unfold hdN
            rw [if_neg (by omega), if_neg (by omega), if_neg (by omega), if_pos (by omega)]
            congr 2
            omega
          rw [e, h1, show (1 : Int) :: m :: r' = [1, m] ++ r' from rfl, pre_of] at this
          cases this
        · rw [if_neg hm]
    · rw [if_neg h1]
      by_cases h4 : z = 4
      · rw [if_pos h4]
        cases r with
        | nil => rfl
        | cons m r' =>
          simp only
          by_cases hm : 0 ≤ m ∧ m ≤ 7
          · exfalso
            have := hp (m.toNat + 11) (by omega)
            have e : hdN (m.toNat + 11) = [4, m] := by
              unfold hdN
              rw [if_neg (by omega), if_neg (by omega), if_neg (by omega), if_neg (by omega)]
              congr 2
              omega
            rw [e, h4, show (4 : Int) :: m :: r' = [4, m] ++ r' from rfl, pre_of] at this
            cases this
          · rw [if_neg hm]
      · rw [if_neg h4]
def isF (f : List Int) : Bool := decide (f.length ≤ 200) && decide (rdF 201 f = some [])
end Go.Proofs.YtlpgldejmdiceabDoor.fox
