/- Mathematics of seals: ParseInt after FormatInt, VerifyChecksum after AppendChecksum, and a changed byte of a sealed string is seen. -/
import Derived.Test.YtlddkechmkjdeaaDoorVer
import Derived.Test.YtlddkechmkjdeaaDoorPrs
namespace Go.Proofs.YtlddkechmkjdeaaDoor.tams
open kit hs sums num dec fmts prs seals vers

theorem is_of {n : Int} (h : -999999 ≤ n ∧ n ≤ 999999) : Is ⟨(Lib.itoa n).toArray⟩ n := ⟨h.1, h.2, by simp⟩
/-- ParseInt of the text of FormatInt -/
theorem prs_fmt {n : Int} (h : -999999 ≤ n ∧ n ≤ 999999) : prsV ⟨(Lib.itoa n).toArray⟩ = #[.int .i64 n, .bool true] := prs_yes (is_of h)

theorem list_seal (s : ByteArray) : (seal_ s).data.toList = s.data.toList ++ 35 :: Lib.itoa (ck s.data.toList) := by
  simp [seal_, dgt]
theorem no_mark {s : ByteArray} (h : has s 35 = false) : ∀ k : Nat, s.data.toList[k]? ≠ some 35 := by
  intro k hk
  have hm := List.mem_of_getElem? hk
  unfold has at h
  rw [List.any_eq_false] at h
  exact h 35 hm (by decide)
theorem pre_seal {s : ByteArray} (h : has s 35 = false) : pre (seal_ s) = s := by
  have e : (seal_ s).data.toList.takeWhile (· != 35) = (seal_ s).data.toList.take s.data.toList.length := by
    refine tw_at (o := s.data.toList.length) ?_ ?_
    · rw [list_seal, List.getElem?_append_right (Nat.le_refl _)]; simp
    · intro k hk
      rw [list_seal, List.getElem?_append_left hk]
      exact no_mark h k
  unfold pre
  rw [e, list_seal, List.take_left]
/-- VerifyChecksum of the text of AppendChecksum -/
theorem ver_apd {s : ByteArray} (h : okS s) : verV (seal_ s) = #[.string s, .bool true] := by
  have hp := pre_seal h.2.1
  rw [ver_yes ⟨h.2.2, by rw [hp]⟩, hp]

theorem dig_no {c : UInt8} (h : dig c) : c ≠ 35 := by
  intro e; subst e; exact absurd h.1 (by decide)
theorem itoa_no (n : Int) (h0 : 0 ≤ n) : ∀ c ∈ Lib.itoa n, c ≠ 35 := by
  have h : Lib.itoa n = Lib.decDigits n.toNat := by
    unfold Lib.itoa; rw [if_neg (by omega)]
  rw [h]
  exact fun c hc => dig_no (dec_dig _ _ (Nat.le_refl _) c hc)

/-- two sums that were different stay so -/
theorem sum_keep (l : List UInt8) : ∀ a b : Int, 0 ≤ a → a ≤ 999978 → 0 ≤ b → b ≤ 999978 → a ≠ b → l.foldl (fun h c => (41 * h + (c.toNat : Int) + 1) % 999979) a ≠ l.foldl (fun h c => (41 * h + (c.toNat : Int) + 1) % 999979) b := by
  induction l with
  | nil => intro a b _ _ _ _ h; exact h
  | cons c l ih =>
    intro a b ha ha2 hb hb2 h
    rw [List.foldl_cons, List.foldl_cons]
    exact ih _ _ (by omega) (by omega) (by omega) (by omega) (by omega)
theorem ck_change (p q : List UInt8) (x y : UInt8) (h : x ≠ y) : ck (p ++ x :: q) ≠ ck (p ++ y :: q) := by
  unfold ck
  rw [List.foldl_append, List.foldl_append, List.foldl_cons, List.foldl_cons]
  have hx : x.toNat ≠ y.toNat := fun e => h (UInt8.toNat_inj.1 e)
  have h1 := x.toNat_lt
  have h2 := y.toNat_lt
  have h3 := ck_bd p
  unfold ck at h3
  exact sum_keep q _ _ (by omega) (by omega) (by omega) (by omega) (by omega)

/-- a sealed list with one byte changed is not sealed -/
theorem tamper (s t : List UInt8) (k : Nat) (x : UInt8) (hk : k < (s ++ 35 :: Lib.itoa (ck s)).length) (hx : (s ++ 35 :: Lib.itoa (ck s))[k]? ≠ some x) (hs : ∀ k : Nat, s[k]? ≠ some 35) (ht : ∀ k : Nat, t[k]? ≠ some 35) :
    (s ++ 35 :: Lib.itoa (ck s)).set k x ≠ t ++ 35 :: Lib.itoa (ck t) := by
  intro he
  have hat : ∀ j : Nat, ((s ++ 35 :: Lib.itoa (ck s)).set k x)[j]? = if k = j then some x else (s ++ 35 :: Lib.itoa (ck s))[j]? := by
    intro j
    rw [List.getElem?_set]
    by_cases e : k = j
    · subst e; simp; simpa using hk
    · simp [e]
  have hS : (s ++ 35 :: Lib.itoa (ck s))[s.length]? = some 35 := by rw [List.getElem?_append_right (Nat.le_refl _)]; simp
  have hT : (t ++ 35 :: Lib.itoa (ck t))[t.length]? = some 35 := by rw [List.getElem?_append_right (Nat.le_refl _)]; simp
  have only : ∀ (l : List UInt8), (∀ k : Nat, l[k]? ≠ some 35) → ∀ j : Nat, (l ++ 35 :: Lib.itoa (ck l))[j]? = some 35 → j = l.length := by
    intro l hl j hj
    by_cases h1 : j < l.length
    · rw [List.getElem?_append_left h1] at hj; exact absurd hj (hl j)
    · rw [List.getElem?_append_right (by omega)] at hj
      by_cases h2 : j = l.length
      · exact h2
      · rw [show j - l.length = (j - l.length - 1) + 1 by omega, List.getElem?_cons_succ] at hj
        exact absurd rfl (itoa_no _ (ck_bd l).1 35 (List.mem_of_getElem? hj))
  by_cases hlen : s.length = t.length
  · by_cases h1 : k < s.length
    · -- a byte of the text
      have hsplit : ∃ p q y, s = p ++ y :: q ∧ p.length = k := ⟨s.take k, s.drop (k + 1), s[k], by simp, by simp; omega⟩
      obtain ⟨p, q, y, rfl, hpk⟩ := hsplit
      have hy : y ≠ x := by
        intro e; subst e
        apply hx
        rw [List.getElem?_append_left h1, List.getElem?_append_right (by omega), hpk]; simp
      rw [List.set_append_left _ _ h1] at he
      have hset : (p ++ y :: q).set k x = p ++ x :: q := by
        rw [List.set_append_right _ _ (by omega), hpk]; simp
      rw [hset] at he
      have hi := List.append_inj he (by simp at hlen ⊢; omega)
      obtain ⟨e1, e2⟩ := hi
      injection e2 with _ e2
      have e3 := itoa_inj e2
      rw [← e1] at e3
      exact ck_change p q y x hy e3
    · by_cases h2 : k = s.length
      · have h3 := hat t.length
        rw [he, hT, if_pos (by omega)] at h3
        injection h3 with h3
        apply hx
        rw [h2, hS, h3]
      · have hset : (s ++ 35 :: Lib.itoa (ck s)).set k x = s ++ (35 :: Lib.itoa (ck s)).set (k - s.length) x := List.set_append_right _ _ (by omega)
        have he2 := he
        rw [hset] at he2
        obtain ⟨e1, _⟩ := List.append_inj he2 hlen
        subst e1
        have h3 := hat k
        rw [he, if_pos rfl] at h3
        exact hx h3
  · have h3 := hat t.length
    rw [he, hT] at h3
    have h4 := hat s.length
    rw [he] at h4
    by_cases hkt : k = t.length
    · rw [if_neg (by omega), hS] at h4
      exact hlen (only t ht _ h4)
    · rw [if_neg hkt] at h3
      exact hlen (only s hs _ h3.symm).symm
/-- VerifyChecksum of a sealed string with one byte changed -/
theorem ver_bad {s y : ByteArray} (k : Nat) (x : UInt8) (h : okS s) (hk : k < (seal_ s).size) (hx : (seal_ s).data.toList[k]? ≠ some x) (hy : y.data.toList = (seal_ s).data.toList.set k x) : verV y = #[.string ⟨#[]⟩, .bool false] := by
  refine ver_no fun ⟨_, hv⟩ => ?_
  have h1 : y.data.toList = (seal_ (pre y)).data.toList := by rw [hv]
  rw [hy, list_seal, list_seal] at h1
  rw [list_seal] at hx
  refine tamper _ _ k x ?_ hx (no_mark h.2.1) (no_mark (has_pre y)) h1
  rw [← list_seal]; simpa using hk
end Go.Proofs.YtlddkechmkjdeaaDoor.tams
