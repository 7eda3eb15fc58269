/- Joining, in plain Lean: what JoinStrings of both programs comes to. -/
import Derived.Test.YtlddkechmkjdeaaStrs
import Derived.Test.YtlddkechmkjdeaaHas
import Derived.Lib.Join
namespace Go.Proofs.Ytlddkechmkjdeaa.jn
open kit strs hs

/-- the first k strings, joined -/
def jn (c : UInt8) (ss : List ByteArray) : Nat → ByteArray
  | 0 => ⟨#[]⟩
  | k + 1 => (if 0 < k then jn c ss k ++ ⟨#[c]⟩ else jn c ss k) ++ ss.getD k ⟨#[]⟩
/-- no string holds the separator, and the result is short enough -/
def ok (c : UInt8) (ss : List ByteArray) : Prop := 0 < ss.length ∧ (∀ (k : Nat) (s : ByteArray), ss[k]? = some s → has s c.toNat = false) ∧ tot ss + (ss.length - 1) ≤ 4000
open Classical in
noncomputable def res (ss : List ByteArray) (sep : ByteArray) : Array Value :=
  if ∃ c, sep = ⟨#[c]⟩ ∧ ok c ss then #[.string (jn (sep.data.toList.headD 0) ss ss.length), .bool true] else #[.string ⟨#[]⟩, .bool false]

theorem res_none (sep : ByteArray) : res [] sep = #[.string ⟨#[]⟩, .bool false] := by
  unfold res; rw [if_neg]; rintro ⟨c, _, h, _⟩; exact absurd h (by simp)
theorem res_sep (ss : List ByteArray) {sep : ByteArray} (h : ¬ sep.size = 1) : res ss sep = #[.string ⟨#[]⟩, .bool false] := by
  unfold res; rw [if_neg]; rintro ⟨c, rfl, _⟩; exact h rfl
theorem res_has {ss : List ByteArray} {c : UInt8} {k : Nat} {s : ByteArray} (h : ss[k]? = some s) (hh : has s c.toNat = true) : res ss ⟨#[c]⟩ = #[.string ⟨#[]⟩, .bool false] := by
  unfold res; rw [if_neg]
  rintro ⟨c', e, _, h2, _⟩
  have e' : c = c' := by injection e with e; simpa using e
  subst e'
  rw [h2 k s h] at hh
  cases hh
theorem res_long {ss : List ByteArray} {c : UInt8} (h : 4000 < tot ss + (ss.length - 1)) : res ss ⟨#[c]⟩ = #[.string ⟨#[]⟩, .bool false] := by
  unfold res; rw [if_neg]
  rintro ⟨c', e, _, _, h3⟩
  omega
theorem res_ok {ss : List ByteArray} {c : UInt8} (h : ok c ss) : res ss ⟨#[c]⟩ = #[.string (jn c ss ss.length), .bool true] := by
  unfold res; rw [if_pos ⟨c, rfl, h⟩]; rfl
theorem one_of {sep : ByteArray} (h : sep.size = 1) : ∃ c, sep = ⟨#[c]⟩ := by
  obtain ⟨⟨l⟩⟩ := sep
  match l, h with
  | [c], _ => exact ⟨c, rfl⟩

theorem jn_size (c : UInt8) (ss : List ByteArray) : ∀ k, k ≤ ss.length → (jn c ss k).size = tot (ss.take k) + (k - 1) := by
  intro k
  induction k with
  | zero => intro _; simp [jn, tot]; rfl
  | succ k ih =>
    intro hk
    have hg : ss[k]? = some (ss[k]'(by omega)) := List.getElem?_eq_getElem _
    have ht := tot_snoc hg
    have hi := ih (by omega)
    rw [ht]
    unfold jn
    by_cases h0 : 0 < k
    · rw [if_pos h0]
      simp only [ByteArray.size_append, List.getD, hg, Option.getD_some]
      have : (ByteArray.mk #[c]).size = 1 := rfl
      omega
    · have hz : k = 0 := by omega
      subst hz
      simp only [Nat.lt_irrefl, if_false, ByteArray.size_append, List.getD, hg, Option.getD_some]
      omega
theorem tot_rest {ss : List ByteArray} {k : Nat} {s : ByteArray} (h : ss[k]? = some s) : tot (ss.take k) + s.size ≤ tot ss ∧ k + 1 ≤ ss.length := by
  have h1 := tot_snoc h
  have h2 := tot_take_le ss (k + 1)
  have h3 := (List.getElem?_eq_some_iff.1 h).1
  omega

theorem toList_append (a b : ByteArray) : (a ++ b).data.toList = a.data.toList ++ b.data.toList := by
  simp
theorem jn_list (c : UInt8) (ss : List ByteArray) : ∀ k, k ≤ ss.length → (jn c ss k).data.toList = Lib.join ((ss.take k).map (·.data.toList)) [c] := by
  intro k
  induction k with
  | zero => intro _; rfl
  | succ k ih =>
    intro hk
    have hg : ss[k]? = some (ss[k]'(by omega)) := List.getElem?_eq_getElem _
    have hi := ih (by omega)
    have hs : ss.take (k + 1) = ss.take k ++ [ss[k]'(by omega)] := take_snoc hg
    rw [hs]
    unfold jn
    simp only [List.getD, hg, Option.getD_some, toList_append, List.map_append, List.map_cons, List.map_nil]
    by_cases h0 : 0 < k
    · rw [if_pos h0, toList_append, hi]
      obtain ⟨x, r, hxr⟩ : ∃ x r, (ss.take k).map (·.data.toList) = x :: r := by
        cases h : (ss.take k).map (·.data.toList) with
        | nil => have := congrArg List.length h; rw [List.length_map, List.length_take] at this; simp only [List.length_nil] at this; omega
        | cons x r => exact ⟨x, r, rfl⟩
      rw [hxr, List.cons_append, Lib.join_cons, Lib.join_cons]
      unfold Lib.joinTail
      simp
    · have hz : k = 0 := by omega
      subst hz
      simp [jn, Lib.join_one]
theorem jn_all (c : UInt8) (ss : List ByteArray) : jn c ss ss.length = ⟨(Lib.join (ss.map (·.data.toList)) [c]).toArray⟩ := by
  have h := jn_list c ss ss.length (Nat.le_refl _)
  rw [List.take_length] at h
  rw [← h]
end Go.Proofs.Ytlddkechmkjdeaa.jn
