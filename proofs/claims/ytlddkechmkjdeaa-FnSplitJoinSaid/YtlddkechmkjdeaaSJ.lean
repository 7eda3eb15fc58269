/- Splitting and joining are inverse; of two strings not both are less than the other. -/
import Derived.Test.YtlddkechmkjdeaaSplit
import Derived.Test.YtlddkechmkjdeaaJn
namespace Go.Proofs.Ytlddkechmkjdeaa.sj
open kit hs strs jn split
open Go.WideShapes (bytes_inj)

theorem ext_snoc {s : ByteArray} {a k : Nat} (ha : a ≤ k) (hk : k < s.size) : (s.extract a (k + 1)).data.toList = (s.extract a k).data.toList ++ [s[k]] := by
  have e : ∀ b, (s.extract a b).data.toList = (s.data.toList.take b).drop a := by
    intro b
    simp [List.drop_take]
  rw [e, e]
  have hl : k < s.data.toList.length := by simpa using hk
  rw [List.take_succ_eq_append_getElem hl, List.drop_append_of_le_length (by simp; omega)]
  rfl
theorem ext_same (s : ByteArray) (k : Nat) : (s.extract k k).data.toList = [] := by simp
theorem join_snoc (xs : List (List UInt8)) (y sep : List UInt8) (h : xs ≠ []) : Lib.join (xs ++ [y]) sep = Lib.join xs sep ++ sep ++ y := by
  obtain ⟨x, r, rfl⟩ : ∃ x r, xs = x :: r := by
    cases xs with
    | nil => exact absurd rfl h
    | cons x r => exact ⟨x, r, rfl⟩
  rw [List.cons_append, Lib.join_cons, Lib.join_cons]
  unfold Lib.joinTail
  simp
theorem join_last (xs : List (List UInt8)) (y z sep : List UInt8) : Lib.join (xs ++ [y ++ z]) sep = Lib.join (xs ++ [y]) sep ++ z := by
  by_cases h : xs = []
  · subst h; simp [Lib.join_one]
  · rw [join_snoc _ _ _ h, join_snoc _ _ _ h]; simp

/-- the closed parts and the open one -/
def upto (s : ByteArray) (c : Int) (k : Nat) : List ByteArray := done s c k ++ [s.extract (frm s c k) k]
theorem byte_eq {b c : UInt8} : ((b.toNat : Int) == (c.toNat : Int)) = true ↔ b = c := by
  rw [beq_iff_eq]
  constructor
  · intro h; exact UInt8.toNat_inj.1 (by omega)
  · intro h; rw [h]
theorem join_upto (s : ByteArray) (c : UInt8) : ∀ k, k ≤ s.size → Lib.join ((upto s c.toNat k).map (·.data.toList)) [c] = s.data.toList.take k := by
  intro k
  induction k with
  | zero => intro _; simp [upto, done, frm, Lib.join_one]
  | succ k ih =>
    intro hk
    have hi := ih (by omega)
    have hl : k < s.data.toList.length := by simp; omega
    have ht : s.data.toList.take (k + 1) = s.data.toList.take k ++ [s[k]] := by rw [List.take_succ_eq_append_getElem hl]; rfl
    have hf := frm_le s c.toNat k
    rw [ht, ← hi]
    cases hq : ((s[k].toNat : Int) == (c.toNat : Int)) with
    | true =>
      obtain ⟨e1, e2⟩ := hit (by omega) hq
      have hc : s[k] = c := byte_eq.1 hq
      unfold upto
      rw [e1, e2, hc, List.map_append, List.map_cons, List.map_nil, ext_same, join_snoc _ _ _ (by simp)]
      simp
    | false =>
      obtain ⟨e1, e2⟩ := miss (by omega) hq
      unfold upto
      rw [e1, e2, List.map_append, List.map_cons, List.map_nil, ext_snoc hf (by omega), join_last]
      simp
theorem join_parts (s : ByteArray) (c : UInt8) : jn c (parts s c.toNat) (parts s c.toNat).length = s := by
  rw [jn_all]
  have h := join_upto s c s.size (Nat.le_refl _)
  rw [List.take_of_length_le (by simp)] at h
  have e : parts s c.toNat = upto s c.toNat s.size := rfl
  rw [e, h]

theorem has_ext {s : ByteArray} {c : Int} {a k : Nat} (ha : a ≤ k) (hk : k < s.size) (h : has (s.extract a k) c = false) (hq : ((s[k].toNat : Int) == c) = false) : has (s.extract a (k + 1)) c = false := by
  unfold has at h ⊢
  rw [ext_snoc ha hk, List.any_append, h]
  simpa using hq
theorem none_upto (s : ByteArray) (c : UInt8) : ∀ k, k ≤ s.size → ∀ t ∈ upto s c.toNat k, has t c.toNat = false := by
  intro k
  induction k with
  | zero =>
    intro _ t ht
    have : t = s.extract 0 0 := by simpa [upto, done, frm] using ht
    subst this
    unfold has
    rw [ext_same]; rfl
  | succ k ih =>
    intro hk t ht
    have hf := frm_le s c.toNat k
    have hi := ih (by omega)
    unfold upto at ht hi
    cases hq : ((s[k].toNat : Int) == (c.toNat : Int)) with
    | true =>
      obtain ⟨e1, e2⟩ := hit (by omega) hq
      rw [e1, e2] at ht
      rcases List.mem_append.1 ht with h1 | h1
      · exact hi t h1
      · obtain rfl : t = s.extract (k + 1) (k + 1) := by simpa using h1
        unfold has
        rw [ext_same]; rfl
    | false =>
      obtain ⟨e1, e2⟩ := miss (by omega) hq
      rw [e1, e2] at ht
      rcases List.mem_append.1 ht with h1 | h1
      · exact hi t (List.mem_append_left _ h1)
      · obtain rfl : t = s.extract (frm s c.toNat k) (k + 1) := by simpa using h1
        exact has_ext hf (by omega) (hi _ (List.mem_append_right _ (by simp))) hq
/-- the parts can be joined again, and give the string -/
theorem back (s : ByteArray) (c : UInt8) (h : s.size ≤ 4000) : res (parts s c.toNat) ⟨#[c]⟩ = #[.string s, .bool true] := by
  have hj := join_parts s c
  have hsz := jn_size c (parts s c.toNat) (parts s c.toNat).length (Nat.le_refl _)
  rw [hj, List.take_length] at hsz
  have hok : ok c (parts s c.toNat) := by
    refine ⟨by unfold parts; simp, fun k t hk => none_upto s c s.size (Nat.le_refl _) t (List.mem_of_getElem? hk), by omega⟩
  rw [res_ok hok, hj]

theorem less_not (a b : List UInt8) : Op.bytesLess a b = true → Op.bytesLess b a = false := by
  induction a generalizing b with
  | nil =>
    cases b with
    | nil => intro h; simp [Op.bytesLess] at h
    | cons y b => intro _; simp [Op.bytesLess]
  | cons x a ih =>
    cases b with
    | nil => intro h; simp [Op.bytesLess] at h
    | cons y b =>
      intro h
      simp only [Op.bytesLess, Bool.or_eq_true, Bool.and_eq_true, decide_eq_true_eq] at h
      simp only [Op.bytesLess]
      rw [Bool.or_eq_false_iff]
      rcases h with h | ⟨h1, h2⟩
      · refine ⟨?_, ?_⟩
        · rw [decide_eq_false_iff_not]
          intro h3
          exact absurd (UInt8.lt_trans h h3) (UInt8.lt_irrefl _)
        · have : (y == x) = false := by
            rw [beq_eq_false_iff_ne]
            rintro rfl
            exact absurd h (UInt8.lt_irrefl _)
          rw [this]; rfl
      · have e : x = y := by simpa using h1
        subst e
        refine ⟨?_, ?_⟩
        · rw [decide_eq_false_iff_not]; exact UInt8.lt_irrefl _
        · rw [ih b h2]; simp
end Go.Proofs.Ytlddkechmkjdeaa.sj
