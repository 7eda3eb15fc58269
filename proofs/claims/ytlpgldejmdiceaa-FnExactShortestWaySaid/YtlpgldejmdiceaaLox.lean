/- The least state of each loop, in plain Lean; no program. -/
import Derived.Test.YtlpgldejmdiceaaRea
namespace Go.Proofs.Ytlpgldejmdiceaa.lox
open has syx rea
set_option linter.unusedVariables false
/-- each of the two is reached from the other -/
def bothB (n : Nat) (ts : List Tri) (i k : Nat) : Bool := hasB (rcL n ts i) k && hasB (rcL n ts k) i
def lpF (P : Nat → Bool) (i j : Nat) : Nat := ((List.range' j (i - j)).find? P).getD i
theorem lpF_end (P : Nat → Bool) (i : Nat) : lpF P i i = i := by unfold lpF; simp
theorem lpF_yes {P : Nat → Bool} {i j : Nat} (hj : j < i) (h : P j = true) : lpF P i j = j := by
  unfold lpF
  rw [show i - j = (i - (j + 1)) + 1 by omega, List.range'_succ, List.find?_cons, h]
  rfl
theorem lpF_no {P : Nat → Bool} {i j : Nat} (hj : j < i) (h : P j = false) : lpF P i j = lpF P i (j + 1) := by
  unfold lpF
  rw [show i - j = (i - (j + 1)) + 1 by omega, List.range'_succ, List.find?_cons, h]
theorem lpF_le {P : Nat → Bool} {i : Nat} : ∀ (d j : Nat), i = j + d → lpF P i j ≤ i
  | 0, j, h => by rw [show j = i by omega, lpF_end]; exact Nat.le_refl _
  | d + 1, j, h => by
    cases hp : P j with
    | true => rw [lpF_yes (by omega) hp]; omega
    | false => rw [lpF_no (by omega) hp]; exact lpF_le d (j + 1) (by omega)
theorem lpF_of {P : Nat → Bool} {i m : Nat} (hm : m ≤ i) (h1 : m < i → P m = true) : ∀ (d j : Nat), m = j + d → (∀ k, j ≤ k → k < m → P k = false) → lpF P i j = m
  | 0, j, h, h2 => by
    obtain rfl : m = j := by omega
    by_cases e : m < i
    · exact lpF_yes e (h1 e)
    · rw [show m = i by omega, lpF_end]
  | d + 1, j, h, h2 => by
    rw [lpF_no (by omega) (h2 j (Nat.le_refl _) (by omega))]
    exact lpF_of hm h1 d (j + 1) (by omega) (fun k a b => h2 k (by omega) b)
def loOf (n : Nat) (ts : List Tri) (i : Nat) : Nat := lpF (bothB n ts i) i 0
def loL (n : Nat) (ts : List Tri) (k : Nat) : List Int := (List.range k).map (fun i => (loOf n ts i : Int))
theorem loL_succ (n : Nat) (ts : List Tri) (k : Nat) : loL n ts (k + 1) = loL n ts k ++ [(loOf n ts k : Int)] := by unfold loL; rw [List.range_succ, List.map_append]; rfl
theorem loL_len (n : Nat) (ts : List Tri) (k : Nat) : (loL n ts k).length = k := by unfold loL; simp
theorem asc_lt {L : List Int} (h : Asc L) {a b : Nat} {x y : Int} (ha : L[a]? = some x) (hb : L[b]? = some y) (hxy : x < y) : a < b := by
  rcases Nat.lt_or_ge a b with e | e
  · exact e
  · obtain ⟨la, ea⟩ := List.getElem?_eq_some_iff.1 ha
    obtain ⟨lb, eb⟩ := List.getElem?_eq_some_iff.1 hb
    rcases Nat.lt_or_ge b a with e2 | e2
    · have := (List.pairwise_iff_getElem.1 h) b a lb la e2
      omega
    · obtain rfl : a = b := by omega
      rw [ha] at hb
      injection hb with hb
      omega
/-- the first in the list that leads back -/
theorem loOf_first {n : Nat} {ts : List Tri} {i q : Nat} {x : Int} (hn : ∀ a ∈ rcL n ts i, 0 ≤ a) (hx : (rcL n ts i)[q]? = some x) (hp : hasB (rcL n ts x) i = true) (hf : ∀ (j : Nat) y, j < q → (rcL n ts i)[j]? = some y → hasB (rcL n ts y) i = false) : x = (loOf n ts i : Int) := by
  have h0 := hn x (List.mem_of_getElem? hx)
  obtain ⟨m, rfl⟩ : ∃ m : Nat, x = (m : Int) := ⟨x.toNat, by omega⟩
  have hmi : m ≤ i := by
    rcases Nat.lt_or_ge i m with e | e
    · have hi : (i : Int) ∈ rcL n ts i := rnds_here ts i n
      obtain ⟨j, hj⟩ := List.getElem?_of_mem hi
      have := hf j i (asc_lt rcL_asc hj hx (by omega)) hj
      have hh : hasB (rcL n ts i) i = true := decide_eq_true hi
      rw [hh] at this
      cases this
    · exact e
  have e : loOf n ts i = m := lpF_of hmi (fun _ => by
    unfold bothB
    rw [show hasB (rcL n ts i) m = true from decide_eq_true (List.mem_of_getElem? hx), hp]
    rfl) m 0 (by omega) (fun k _ hk => by
    unfold bothB
    cases hb : hasB (rcL n ts i) k with
    | false => rfl
    | true =>
      obtain ⟨j, hj⟩ := List.getElem?_of_mem (of_decide_eq_true hb)
      rw [hf j k (asc_lt rcL_asc hj hx (by omega)) hj]
      rfl)
  rw [e]
end Go.Proofs.Ytlpgldejmdiceaa.lox
