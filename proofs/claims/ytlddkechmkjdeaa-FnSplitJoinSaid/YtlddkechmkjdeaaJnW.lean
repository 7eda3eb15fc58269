/- JoinStrings: spec.l1Stands, spec.JoinStrings. -/
import Derived.Test.YtlddkechmkjdeaaJn
import Derived.Deep.QuietTactic
import Derived.BigQuiet
namespace Go.Proofs.Ytlddkechmkjdeaa.jnw
open kit strs hs jn
open Go.RowKit

/-- what JoinStrings of both programs tells -/
def joinPost (ss : List ByteArray) (sep : ByteArray) (w : World) (e : Ending) (w' : World) : Prop := e = .returned (.tuple (res ss sep)) ∧ Below w.heap.size w w'

def NoneHas (c : UInt8) (ss : List ByteArray) (k : Nat) : Prop := ∀ (j : Nat) (s : ByteArray), j < k → ss[j]? = some s → has s c.toNat = false

theorem none_more {c : UInt8} {ss : List ByteArray} {k : Nat} {s : ByteArray} (h : NoneHas c ss k) (hk : ss[k]? = some s) (hq : has s c.toNat = false) : NoneHas c ss (k + 1) := by
  intro j x hj hx
  by_cases e : j = k
  · subst e; rw [hk] at hx; injection hx with hx; subst hx; exact hq
  · exact h j x (by omega) hx
theorem round_rel {c : UInt8} {ss : List ByteArray} {k n : Nat} {s o : ByteArray} {w wr : World} (h : NoneHas c ss k) (hk : ss[k]? = some s) (hq : has s c.toNat = false)
    (hm : o.size = tot (ss.take k) + (k - 1) ∧ tot (ss.take (k + 1)) = tot (ss.take k) + s.size ∧ tot (ss.take k) + s.size ≤ tot ss ∧ k + 1 ≤ ss.length) (ho : jn c ss k = o) (h0 : 0 < k) (hf : o.size + 1 + s.size ≤ 4000) (hlt : k < n) (hd : Dr w wr) :
    ∃ k_1 : Nat, k_1 ≤ n ∧ Value.int .i64 ((k : Int) + 1) = Value.int .i64 (k_1 : Int) ∧ Value.string (o ++ ⟨#[c]⟩ ++ s) = Value.string (jn c ss k_1) ∧ NoneHas c ss k_1 ∧ tot (ss.take k_1) + (k_1 - 1) ≤ 4000 ∧ Dr w wr :=
  ⟨k + 1, by omega, by go_num, by rw [jn, if_pos h0, ho]; simp [List.getD, hk], none_more h hk hq, by omega, hd⟩
theorem round_rel0 {c : UInt8} {ss : List ByteArray} {k n : Nat} {s o : ByteArray} {w wr : World} (hk : ss[k]? = some s) (hq : has s c.toNat = false)
    (hm : o.size = tot (ss.take k) + (k - 1) ∧ tot (ss.take (k + 1)) = tot (ss.take k) + s.size ∧ tot (ss.take k) + s.size ≤ tot ss ∧ k + 1 ≤ ss.length) (ho : jn c ss k = o) (h0 : ¬ 0 < k) (hf : o.size + s.size ≤ 4000) (hlt : k < n) (hd : Dr w wr) :
    ∃ k_1 : Nat, k_1 ≤ n ∧ Value.int .i64 ((k : Int) + 1) = Value.int .i64 (k_1 : Int) ∧ Value.string (o ++ s) = Value.string (jn c ss k_1) ∧ NoneHas c ss k_1 ∧ tot (ss.take k_1) + (k_1 - 1) ≤ 4000 ∧ Dr w wr :=
  ⟨k + 1, by omega, by go_num, by rw [jn, if_neg h0, ho]; simp [List.getD, hk], none_more (fun j _ hj => absurd hj (by omega)) hk hq, by omega, hd⟩

set_option maxHeartbeats 1600000 in
theorem specJoin_any (A : Option Addr) (n cap : Nat) (ss : List ByteArray) (sep : ByteArray) (w : World) (B : Nat) (h : SR w B A n (ss.map Value.string)) (hn : n ≤ maxLen) (hs : ∀ s ∈ ss, s.size ≤ 1048576) (hsep : sep.size ≤ maxLen) :
    Calls Try.prog 13 #[.slice A n cap, .string sep] w (joinPost ss sep w) := by
  have HL : Hid (ss.length = n) := Lib.hid h.strlen
  have HS := Lib.hid hs
  clear hs
  unfold maxLen at hn hsep
  by_cases h1 : sep.size = 1
  · obtain ⟨c, rfl⟩ := one_of h1
    clear h1 hsep
    by_cases h0 : n = 0
    · subst h0
      have hnil : ss = [] := List.eq_nil_of_length_eq_zero HL.out
      subst hnil
      go_enter Try.func13, Try.ntmps13
      go_wp2_with fail
      go_ret2
      exact ⟨by rw [res_none]; rfl, Below.refl _ _⟩
    · have h0' : ((n : Int) == 0) = false := by simp; omega
      have hsz1 : (((ByteArray.mk #[c]).size : Int) == 1) = true := rfl
      have hsz2 : (((ByteArray.mk #[c]).size : Int) != 1) = false := rfl
      go_enter Try.func13, Try.ntmps13
      go_wp2_with fail
      clear hsz1 hsz2 h0'
      go_loopw [6, 7] (fun o i wr => ∃ k : Nat, k ≤ n ∧ i = .int .i64 k ∧ o = .string (jn c ss k) ∧ NoneHas c ss k ∧ tot (ss.take k) + (k - 1) ≤ 4000 ∧ Dr w wr) (fun _ i _ => n - (intOf i).toNat)
      case atStart => exact ⟨0, Nat.zero_le _, rfl, rfl, fun j s hj => absurd hj (by omega), by simp [tot], Dr.refl w⟩
      case round =>
        obtain ⟨k, hk, rfl, rfl, hno, htot, hdr⟩ := hrel
        have HN := Lib.hid hno
        have HT := Lib.hid htot
        clear hno htot
        by_cases hlt : k < n
        · obtain ⟨b, off, s, rfl, hb, hsk, hc⟩ := h.str hlt
          have hssz := HS.out s (List.mem_of_getElem? hsk)
          have HK := Lib.hid hsk
          have hcell : wr.cell? ⟨b, off + k, none⟩ = some (.string s) := (hdr.cell _).trans hc
          obtain ⟨o, ho⟩ : ∃ o, jn c ss k = o := ⟨_, rfl⟩
          have hosz : o.size = tot (ss.take k) + (k - 1) := by rw [← ho]; exact jn_size c ss k (by rw [HL.out]; omega)
          have hole : o.size ≤ 4000 := by rw [hosz]; exact HT.out
          have HM := Lib.hid (And.intro hosz (And.intro (tot_snoc hsk) (tot_rest hsk)))
          have HO := Lib.hid ho
          rw [ho]
          clear hosz ho hsk hc
          cases hq : has s c.toNat with
          | true =>
            have HQ := Lib.hid hq
            go_wp2_with fail
            go_quiet ((go_at_call 31; exact Calls.quiet_of_same (stands_q s c.toNat _ (by unfold maxLen; omega))))
            simp only [hq]
            go_wp2_with fail
            go_ret2
            exact ⟨by rw [res_has HK.out HQ.out]; rfl, (hdr.more _).below _⟩
          | false =>
            have HQ := Lib.hid hq
            by_cases hk0 : 0 < k
            · by_cases hfit : o.size + 1 + s.size ≤ 4000
              · go_wp2_with fail
                go_quiet ((go_at_call 31; exact Calls.quiet_of_same (stands_q s c.toNat _ (by unfold maxLen; omega))))
                simp only [hq]
                go_wp2_with fail
                go_roundw
                case rel => exact round_rel HN.out HK.out HQ.out HM.out HO.out hk0 hfit hlt (hdr.more _)
                case measure => simp [intOf]; omega
              · have hfit' : 4000 < o.size + 1 + s.size := by omega
                go_wp2_with fail
                go_quiet ((go_at_call 31; exact Calls.quiet_of_same (stands_q s c.toNat _ (by unfold maxLen; omega))))
                simp only [hq]
                go_wp2_with fail
                go_ret2
                exact ⟨by rw [res_long (by have := HM.out; omega)]; rfl, (hdr.more _).below _⟩
            · by_cases hfit : o.size + s.size ≤ 4000
              · go_wp2_with fail
                go_quiet ((go_at_call 31; exact Calls.quiet_of_same (stands_q s c.toNat _ (by unfold maxLen; omega))))
                simp only [hq]
                go_wp2_with fail
                go_roundw
                case rel => exact round_rel0 HK.out HQ.out HM.out HO.out hk0 hfit hlt (hdr.more _)
                case measure => simp [intOf]; omega
              · have hfit' : 4000 < o.size + s.size := by omega
                go_wp2_with fail
                go_quiet ((go_at_call 31; exact Calls.quiet_of_same (stands_q s c.toNat _ (by unfold maxLen; omega))))
                simp only [hq]
                go_wp2_with fail
                go_ret2
                exact ⟨by rw [res_long (by have := HM.out; omega)]; rfl, (hdr.more _).below _⟩
        · obtain rfl : k = n := by omega
          go_wp2_with fail
          go_ret2
          have hfull : ss.take k = ss := List.take_of_length_le (by rw [HL.out]; omega)
          have hok : ok c ss := ⟨by rw [HL.out]; omega, fun j s hj => HN.out j s (by have := (List.getElem?_eq_some_iff.1 hj).1; rw [HL.out] at this; exact this) hj, by have := HT.out; rw [hfull] at this; rw [HL.out]; exact this⟩
          exact ⟨by rw [res_ok hok, HL.out]; rfl, hdr.below _⟩
  · have h1' : ((sep.size : Int) != 1) = true := by simp; omega
    go_enter Try.func13, Try.ntmps13
    go_wp2_with fail
    go_ret2
    exact ⟨by rw [res_sep _ h1]; rfl, Below.refl _ _⟩
end Go.Proofs.Ytlddkechmkjdeaa.jnw
