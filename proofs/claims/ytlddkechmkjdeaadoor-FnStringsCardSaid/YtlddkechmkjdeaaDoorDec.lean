/- Decimal texts, in plain Lean: the value of a row of digits; that of a number's own text. -/
import Derived.Test.YtlddkechmkjdeaaDoorNum
import Derived.Lib.AtoiTie
import Derived.Lib.AtoiAllCases
namespace Go.Proofs.YtlddkechmkjdeaaDoor.dec
open kit num

/-- a row of digits, as a number -/
def val (l : List UInt8) : Int := l.foldl (fun a c => 10 * a + ((c.toNat : Int) - 48)) 0
def dig (c : UInt8) : Prop := 48 ≤ c.toNat ∧ c.toNat ≤ 57
theorem val_snoc (l : List UInt8) (c : UInt8) : val (l ++ [c]) = 10 * val l + ((c.toNat : Int) - 48) := by
  unfold val; rw [List.foldl_append]; rfl
def digsOk (l : List UInt8) : Prop := ∀ c ∈ l, dig c
theorem ok_snoc {l : List UInt8} {c : UInt8} (h : digsOk l) (hc : dig c) : digsOk (l ++ [c]) := by
  intro x hx
  rcases List.mem_append.1 hx with h1 | h1
  · exact h x h1
  · obtain rfl : x = c := by simpa using h1
    exact hc
theorem byte_of {m : Nat} (h : m < 10) : (UInt8.ofNat (48 + m)).toNat = 48 + m := by
  rw [UInt8.toNat_ofNat']; omega
theorem dec_dig (N : Nat) : ∀ n : Nat, n ≤ N → digsOk (Lib.decDigits n) := by
  induction N with
  | zero =>
    intro n h; rw [dec_small (by omega)]
    intro c hc
    obtain rfl : c = UInt8.ofNat (48 + n) := by simpa using hc
    unfold dig; rw [byte_of (by omega)]; omega
  | succ N ih =>
    intro n h
    by_cases h10 : n < 10
    · rw [dec_small h10]
      intro c hc
      obtain rfl : c = UInt8.ofNat (48 + n) := by simpa using hc
      unfold dig; rw [byte_of (by omega)]; omega
    · rw [dec_big h10]
      refine ok_snoc (ih (n / 10) (by omega)) ?_
      unfold dig; rw [byte_of (by omega)]; omega
theorem dec_val (N : Nat) : ∀ n : Nat, n ≤ N → val (Lib.decDigits n) = n := by
  induction N with
  | zero =>
    intro n h; rw [dec_small (by omega)]
    have := byte_of (m := n) (by omega)
    simp only [val, List.foldl]; omega
  | succ N ih =>
    intro n h
    by_cases h10 : n < 10
    · rw [dec_small h10]
      have := byte_of (m := n) (by omega)
      simp only [val, List.foldl]; omega
    · rw [dec_big h10, val_snoc, ih (n / 10) (by omega), byte_of (by omega)]
      omega
theorem dec_pos (n : Nat) : 1 ≤ (Lib.decDigits n).length := by
  by_cases h10 : n < 10
  · rw [dec_small h10]; simp
  · rw [dec_big h10]; simp
theorem dec_six {n : Nat} (h : n ≤ 999999) : (Lib.decDigits n).length ≤ 6 := by
  have step : ∀ (k m : Nat), (m / 10 < 10 ^ k → (Lib.decDigits (m / 10)).length ≤ k) → 1 ≤ k → m < 10 ^ (k + 1) → (Lib.decDigits m).length ≤ k + 1 := by
    intro k m ih hk hm
    by_cases h10 : m < 10
    · rw [dec_small h10]; simp
    · rw [dec_big h10, List.length_append, List.length_singleton]
      have hp : (10 : Nat) ^ (k + 1) = 10 ^ k * 10 := by rw [Nat.pow_succ]
      have := ih (by omega)
      omega
  have h1 : ∀ m, m < 10 ^ 1 → (Lib.decDigits m).length ≤ 1 := by
    intro m hm
    rw [dec_small (by omega)]; simp
  have h2 := fun m hm => step 1 m (h1 _) (by omega) hm
  have h3 := fun m hm => step 2 m (h2 _) (by omega) hm
  have h4 := fun m hm => step 3 m (h3 _) (by omega) hm
  have h5 := fun m hm => step 4 m (h4 _) (by omega) hm
  exact step 5 n (h5 _) (by omega) (by omega)
theorem val_bd (l : List UInt8) : digsOk l → 0 ≤ val l ∧ val l < (10 ^ l.length : Nat) := by
  have gen : ∀ (l : List UInt8) (a : Int) (k : Nat), digsOk l → 0 ≤ a → a < (10 ^ k : Nat) → 0 ≤ l.foldl (fun a c => 10 * a + ((c.toNat : Int) - 48)) a ∧ l.foldl (fun a c => 10 * a + ((c.toNat : Int) - 48)) a < (10 ^ (k + l.length) : Nat) := by
    intro l
    induction l with
    | nil => intro a k _ h0 h1; exact ⟨h0, h1⟩
    | cons c l ih =>
      intro a k hok h0 h1
      have hc := hok c (List.mem_cons_self ..)
      unfold dig at hc
      have hp : (10 : Nat) ^ (k + 1) = 10 ^ k * 10 := by rw [Nat.pow_succ]
      have := ih (10 * a + ((c.toNat : Int) - 48)) (k + 1) (fun x hx => hok x (List.mem_cons_of_mem _ hx)) (by omega) (by omega)
      rw [List.length_cons, show k + (l.length + 1) = k + 1 + l.length by omega]
      exact this
  intro h
  have := gen l 0 0 h (by omega) (by decide)
  simpa [val] using this
theorem val_six {l : List UInt8} (h : digsOk l) (hl : l.length ≤ 6) : 0 ≤ val l ∧ val l ≤ 999999 := by
  have h1 := val_bd l h
  have h2 : 10 ^ l.length ≤ 10 ^ 6 := Nat.pow_le_pow_right (by omega) hl
  omega

/-- the library's reader at a number's own text -/
theorem from_val (l : List UInt8) : ∀ a : Nat, digsOk l → ∃ n : Nat, Lib.decFrom a l = some n ∧ (n : Int) = l.foldl (fun a c => 10 * a + ((c.toNat : Int) - 48)) (a : Int) := by
  induction l with
  | nil => intro a _; exact ⟨a, rfl, rfl⟩
  | cons c l ih =>
    intro a h
    have hc := h c (List.mem_cons_self ..)
    unfold dig at hc
    obtain ⟨n, h1, h2⟩ := ih (a * 10 + (c.toNat - 48)) (fun x hx => h x (List.mem_cons_of_mem _ hx))
    refine ⟨n, ?_, ?_⟩
    · simp only [Lib.decFrom, Lib.digitVal, if_pos hc]; exact h1
    · rw [h2]
      simp only [List.foldl]
      congr 1
      omega
theorem decNat_dec (n : Nat) : Lib.decNat (Lib.decDigits n) = some n := by
  have hne : (Lib.decDigits n).isEmpty = false := by
    cases h : Lib.decDigits n with
    | nil => have := dec_pos n; rw [h] at this; simp at this
    | cons c l => rfl
  unfold Lib.decNat
  rw [hne]
  obtain ⟨m, h1, h2⟩ := from_val (Lib.decDigits n) 0 (dec_dig n n (Nat.le_refl _))
  have h3 := dec_val n n (Nat.le_refl _)
  unfold val at h3
  have : m = n := by have := h2.trans h3; omega
  subst this
  simpa using h1
theorem head_dig (n : Nat) : ∃ c r, Lib.decDigits n = c :: r ∧ dig c := by
  cases h : Lib.decDigits n with
  | nil => have := dec_pos n; rw [h] at this; simp at this
  | cons c r => exact ⟨c, r, rfl, dec_dig n n (Nat.le_refl _) c (by rw [h]; exact List.mem_cons_self ..)⟩
theorem atoi_itoa (n : Int) : Lib.atoi (Lib.itoa n) = some n := by
  unfold Lib.itoa
  by_cases hn : n < 0
  · rw [if_pos hn]
    simp only [Lib.atoi, beq_self_eq_true, if_true, decNat_dec, Option.map_some]
    congr 1
    omega
  · rw [if_neg hn]
    obtain ⟨c, r, h, hc⟩ := head_dig n.toNat
    have hd := decNat_dec n.toNat
    rw [h] at hd ⊢
    unfold dig at hc
    have e1 : (c == 45) = false := by
      rw [beq_eq_false_iff_ne]; rintro rfl; exact absurd hc.1 (by decide)
    have e2 : (c == 43) = false := by
      rw [beq_eq_false_iff_ne]; rintro rfl; exact absurd hc.1 (by decide)
    simp only [Lib.atoi, e1, e2, hd, Option.map_some]
    simp
    omega
theorem itoa_len {n : Int} (h0 : -999999 ≤ n) (h1 : n ≤ 999999) : (Lib.itoa n).length ≤ 7 := by
  unfold Lib.itoa
  by_cases hn : n < 0
  · rw [if_pos hn, List.length_cons]
    have := dec_six (n := n.natAbs) (by omega)
    omega
  · rw [if_neg hn]
    have := dec_six (n := n.toNat) (by omega)
    omega
theorem all_itoa {n : Int} (h0 : -999999 ≤ n) (h1 : n ≤ 999999) : Lib.atoiAll (Lib.itoa n) = .ok n := by
  rw [Lib.atoiAll_short _ (by have := itoa_len h0 h1; omega), atoi_itoa]
  rfl
theorem itoa_inj {a b : Int} (h : Lib.itoa a = Lib.itoa b) : a = b := by
  have h1 := atoi_itoa a
  rw [h, atoi_itoa b] at h1
  injection h1 with h1
  exact h1.symm

/-- a text that FormatInt writes -/
def Is (s : ByteArray) (n : Int) : Prop := -999999 ≤ n ∧ n ≤ 999999 ∧ Lib.itoa n = s.data.toList
open Classical in
/-- what ParseInt comes to -/
noncomputable def prsV (s : ByteArray) : Array Value := if h : ∃ n, Is s n then #[.int .i64 (Classical.choose h), .bool true] else #[.int .i64 0, .bool false]
theorem prs_yes {s : ByteArray} {n : Int} (h : Is s n) : prsV s = #[.int .i64 n, .bool true] := by
  have hx : ∃ n, Is s n := ⟨n, h⟩
  unfold prsV
  rw [dif_pos hx]
  have e : Classical.choose hx = n := itoa_inj ((Classical.choose_spec hx).2.2.trans h.2.2.symm)
  rw [e]
theorem prs_no {s : ByteArray} (h : ∀ n, ¬ Is s n) : prsV s = #[.int .i64 0, .bool false] := by
  unfold prsV
  rw [dif_neg (fun ⟨n, hn⟩ => h n hn)]
theorem prs_form (s : ByteArray) : ∃ n b, prsV s = #[.int .i64 n, .bool b] := by
  by_cases h : ∃ n, Is s n
  · obtain ⟨n, hn⟩ := h
    exact ⟨n, true, prs_yes hn⟩
  · exact ⟨0, false, prs_no (fun n hn => h ⟨n, hn⟩)⟩
end Go.Proofs.YtlddkechmkjdeaaDoor.dec
