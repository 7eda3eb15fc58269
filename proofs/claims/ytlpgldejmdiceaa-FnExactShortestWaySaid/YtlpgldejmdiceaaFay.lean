/- The way that goes down the numbers of steps to the goals, in plain Lean; no program. -/
import Derived.Test.YtlpgldejmdiceaaFax
import Derived.Test.YtlpgldejmdiceaaSyt
namespace Go.Proofs.Ytlpgldejmdiceaa.fay
open has syx rea rkx fax syt
set_option linter.unusedVariables false
theorem first_ex {α : Type} (p : α → Bool) : ∀ (l : List α), (∃ s ∈ l, p s = true) → ∃ (k : Nat) (s : α), l[k]? = some s ∧ p s = true ∧ ∀ (j : Nat) t, j < k → l[j]? = some t → p t = false
  | [], h => by obtain ⟨_, h, _⟩ := h; cases h
  | a :: l, h => by
    by_cases ha : p a = true
    · exact ⟨0, a, rfl, ha, fun j t hj => absurd hj (Nat.not_lt_zero j)⟩
    · obtain ⟨k, s, h1, h2, h3⟩ := first_ex p l (by
        obtain ⟨s, hs, hp⟩ := h
        rcases List.mem_cons.1 hs with rfl | hs
        · exact absurd hp ha
        · exact ⟨s, hs, hp⟩)
      refine ⟨k + 1, s, h1, h2, fun j t hj ht => ?_⟩
      cases j with
      | zero =>
        rw [List.getElem?_cons_zero] at ht
        injection ht with ht
        subst ht
        simpa using ha
      | succ j => exact h3 j t (by omega) ht
theorem find_of {α : Type} {p : α → Bool} : ∀ {l : List α} {k : Nat} {s : α}, l[k]? = some s → p s = true → (∀ (j : Nat) t, j < k → l[j]? = some t → p t = false) → l.find? p = some s
  | [], k, s, h, _, _ => by simp at h
  | a :: l, 0, s, h, hp, _ => by
    rw [List.getElem?_cons_zero] at h
    injection h with h
    subst h
    exact List.find?_cons_of_pos hp
  | a :: l, k + 1, s, h, hp, hn => by
    have ha : p a = false := hn 0 a (Nat.succ_pos k) rfl
    rw [List.find?_cons_of_neg (by simp [ha])]
    exact find_of (l := l) (k := k) (by simpa using h) hp (fun j t hj ht => hn (j + 1) t (by omega) (by simpa using ht))
/-- r steps from z, each the first in order whose target has one less -/
def wayF (ts : List Tri) (δ : List Int) : Nat → Int → List Tri
  | 0, _ => []
  | r + 1, z => match (outOf ts z).find? (fun s => decide (at' δ s = r)) with
    | none => []
    | some s => s :: wayF ts δ r s.2.2
theorem way_len (ts : List Tri) (δ : List Int) : ∀ (r : Nat) (z : Int), (wayF ts δ r z).length ≤ r
  | 0, _ => Nat.le_refl _
  | r + 1, z => by
    unfold wayF
    split
    · exact Nat.zero_le _
    · simp only [List.length_cons]
      have := way_len ts δ r
      rename_i s _
      have := this s.2.2
      omega
theorem way_step {ts : List Tri} {δ : List Int} {r : Nat} {z : Int} {k : Nat} {s : Tri} (h : (outOf ts z)[k]? = some s) (hs : at' δ s = r) (hn : ∀ (j : Nat) t, j < k → (outOf ts z)[j]? = some t → at' δ t ≠ r) : wayF ts δ (r + 1) z = s :: wayF ts δ r s.2.2 := by
  have e := find_of (p := fun s => decide (at' δ s = r)) h (decide_eq_true hs) (fun j t hj ht => decide_eq_false (hn j t hj ht))
  show (match (outOf ts z).find? (fun s => decide (at' δ s = r)) with | none => [] | some s => s :: wayF ts δ r s.2.2) = _
  rw [e]
theorem out_mem' {ts : List Tri} {z : Int} {s : Tri} (h : s ∈ outOf ts z) : s ∈ ts ∧ s.1 = z := by
  have := List.mem_filter.1 h
  exact ⟨this.1, by simpa using this.2⟩
theorem way_next {n : Nat} {ts : List Tri} {gs : List Int} {δ : List Int} (ht : ∀ t ∈ ts, (0 ≤ t.1 ∧ t.1 < (n : Int)) ∧ 0 ≤ t.2.2 ∧ t.2.2 < (n : Int)) (h : Wit n ts gs δ) (hs : Stab ts δ) {z : Int} {r : Nat} (hz : 0 ≤ z ∧ z < (n : Int)) (hr : δ[z.toNat]? = some ((r : Int) + 1)) :
    ∃ (k : Nat) (s : Tri), (outOf ts z)[k]? = some s ∧ at' δ s = r ∧ ∀ (j : Nat) t, j < k → (outOf ts z)[j]? = some t → at' δ t ≠ r := by
  obtain ⟨k, s, h1, h2, h3⟩ := first_ex (fun s => decide (at' δ s = r)) (outOf ts z) (by
    rcases h.all z.toNat _ hr (by omega) with hg | ⟨s, hs1, hsi, h0, h1⟩
    · have := h.goal z.toNat (by omega) hg
      rw [hr] at this
      injection this with this
      omega
    · refine ⟨s, List.mem_filter.2 ⟨hs1, ?_⟩, ?_⟩
      · simp only [decide_eq_true_eq]; omega
      · obtain ⟨a, b⟩ := hs s hs1 h0
        have hf := fr_get (ρ := δ) (s := s) (by rw [h.len]; exact (ht s hs1).1)
        have e : s.1.toNat = z.toNat := by omega
        rw [e, hr] at hf
        injection hf with hf
        simp only [decide_eq_true_eq]
        omega)
  exact ⟨k, s, h1, of_decide_eq_true h2, fun j t hj ht => of_decide_eq_false (h3 j t hj ht)⟩
theorem fal_wit {n : Nat} {ts : List Tri} {gs : List Int} (ht : ∀ t ∈ ts, (0 ≤ t.1 ∧ t.1 < (n : Int)) ∧ 0 ≤ t.2.2 ∧ t.2.2 < (n : Int)) : Wit n ts gs (faL n ts gs) ∧ Stab ts (faL n ts gs) ∧ Bnd n (faL n ts gs) :=
  ⟨(lvls_lev ht n).wit, lev_stab ht (lvls_lev ht n), (lvls_lev ht n).bnd⟩
end Go.Proofs.Ytlpgldejmdiceaa.fay
