/- JoinStrings: impl.JoinStrings. -/
import Derived.Test.YtlddkechmkjdeaaJnW
import Derived.Test.YtlddkechmkjdeaaShelf
import Derived.Deep.LoopGhost
import Derived.Deep.Cut
import Derived.Deep.CutBlock
import Derived.Deep.DeepCutAuto
namespace Go.Proofs.Ytlddkechmkjdeaa.jni
open kit strs hs jn jnw
open Go.RowKit

set_option maxHeartbeats 800000 in
theorem implJoin_any (A : Option Addr) (n cap : Nat) (ss : List ByteArray) (sep : ByteArray) (w : World) (h : SR w w.heap.size A n (ss.map Value.string)) (hn : n ≤ 1048576) (hcap : n ≤ cap) (hs : ∀ s ∈ ss, s.size ≤ 1048576) (hsep : sep.size ≤ maxLen) :
    Calls Try.prog 12 #[.slice A n cap, .string sep] w (joinPost ss sep w) := by
  have HL : Hid (ss.length = n) := Lib.hid h.strlen
  have HS := Lib.hid hs
  clear hs
  unfold maxLen at hsep
  by_cases h0 : n = 0
  · subst h0
    have hnil : ss = [] := List.eq_nil_of_length_eq_zero HL.out
    subst hnil
    go_enter Try.func12, Try.ntmps12
    go_wp2_with fail
    go_step3
    go_wp2_with fail
    try rw [Exit.noGoto_ret]
    go_ret2
    exact ⟨by rw [res_none]; rfl, Below.refl _ _⟩
  · have h0' : ((n : Int) == 0) = false := by simp; omega
    by_cases h1 : sep.size = 1
    · obtain ⟨c, rfl⟩ := one_of h1
      clear h1 hsep
      go_enter Try.func12, Try.ntmps12
      have hsz2 : (((ByteArray.mk #[c]).size : Int) != 1) = false := rfl
      go_wp2_with fail
      go_step3
      go_wp2_with fail
      clear h0' hsz2
      go_step3
      go_wp2_with fail
      go_loopw [6, 7, 24] (fun l t i wr => ∃ k : Nat, k ≤ n ∧ i = .int .i64 k ∧ t = .bool true ∧ l = .int .i64 ((n : Int) - 1 + tot (ss.take k)) ∧ NoneHas c ss k ∧ n - 1 + tot (ss.take k) ≤ 4000 + 1048576 ∧ (0 < k → n - 1 + tot (ss.take k) ≤ 4000) ∧ Dr w wr) (fun _ _ i _ => n - (intOf i).toNat)
      case atStart => exact ⟨0, Nat.zero_le _, rfl, rfl, by simp [tot], fun j s hj => absurd hj (by omega), by simp [tot]; omega, fun hh => absurd hh (by omega), Dr.refl w⟩
      case round =>
        obtain ⟨k, hk, rfl, rfl, rfl, hno, htot1, htot2, hdr⟩ := hrel
        obtain ⟨wo, rfl⟩ : ∃ wo : World, wo = wr := ⟨_, rfl⟩
        have HN := Lib.hid hno
        have HT2 := Lib.hid htot2
        clear hno htot2
        by_cases hlt : k < n
        · obtain ⟨b, off, s, rfl, hb, hsk, hc⟩ := h.str hlt
          have hssz := HS.out s (List.mem_of_getElem? hsk)
          have HK := Lib.hid hsk
          have hcell : wo.cell? ⟨b, off + k, none⟩ = some (.string s) := (hdr.cell _).trans hc
          have HM := Lib.hid (And.intro (tot_snoc hsk) (tot_rest hsk))
          have HTT : tot (ss.take k) ≤ 4000 + 1048576 := by omega
          obtain ⟨T, hT⟩ : ∃ T, tot (ss.take k) = T := ⟨_, rfl⟩
          have HTe := Lib.hid hT
          rw [hT] at htot1 HTT ⊢
          clear hsk hc hT
          by_cases hfit : n - 1 + T + s.size ≤ 4000
          · have hfit2 : (n : Int) - 1 + T + s.size ≤ 4000 := by omega
            go_wp2_with fail
            go_loopw [7, 36] (fun t i wi => ∃ j : Nat, j ≤ s.size ∧ i = .int .i64 j ∧ t = .bool true ∧ (s.data.toList.take j).any (fun x => (x.toNat : Int) == (c.toNat : Int)) = false ∧ Dr wo wi) (fun _ i _ => s.size - (intOf i).toNat)
            case atStart => exact ⟨0, Nat.zero_le _, rfl, rfl, by simp, Dr.refl wo⟩
            case round =>
              obtain ⟨j, hj, rfl, rfl, hnj, hdri⟩ := hrel
              have HNJ := Lib.hid hnj
              clear hnj
              by_cases hjs : j < s.size
              · have hcr : (ByteArray.mk #[c])[0]'(by show 0 < 1; omega) = c := rfl
                cases hq : ((s[j].toNat : Int) == (c.toNat : Int)) with
                | true =>
                  have HQ := Lib.hid hq
                  go_wp2_with fail
                  go_quiet (fail)
                  go_wp2_with fail
                  try rw [Exit.noGoto_ret]
                  go_ret2
                  exact ⟨by rw [res_has HK.out (has_yes hjs HQ.out)]; rfl, (hdr.trans (hdri.more _)).below _⟩
                | false =>
                  have HQ := Lib.hid hq
                  go_wp2_with fail
                  go_quiet (fail)
                  go_wp2_with fail
                  go_roundw
                  case rel => exact ⟨j + 1, by omega, by go_num, rfl, has_take hjs HNJ.out HQ.out, hdri.more _⟩
                  case measure => simp [intOf]; omega
              · go_wp2_with fail
                go_roundw
                case rel =>
                  have e := HNJ.out
                  rw [List.take_of_length_le (by simp; omega)] at e
                  refine ⟨k + 1, by omega, by go_num, rfl, by have := HM.out; have := HTe.out; go_num, none_more HN.out HK.out e, by have := HM.out; have := HTe.out; omega, fun _ => by have := HM.out; have := HTe.out; omega, hdr.trans hdri⟩
                case measure => simp [intOf]; omega
          · have hfit2 : 4000 < (n : Int) - 1 + T + s.size := by omega
            go_wp2_with fail
            try rw [Exit.noGoto_ret]
            go_ret2
            exact ⟨by rw [res_long (by have := HM.out; have := HTe.out; have := HL.out; omega)]; rfl, hdr.below _⟩
        · obtain rfl : k = n := by omega
          obtain ⟨b, off, rfl, hb, hc⟩ := h.2 (by omega)
          obtain rfl := HL.out
          have HC := Lib.hid hc
          have hfull : ss.take ss.length = ss := List.take_of_length_le (Nat.le_refl _)
          have hok : ok c ss := ⟨by omega, fun j s hj => HN.out j s (List.getElem?_eq_some_iff.1 hj).1 hj, by have := HT2.out (by omega); rw [hfull] at this; omega⟩
          have HOK := Lib.hid hok
          have hjl : (Lib.join (ss.map (·.data.toList)) [c]).length ≤ 4000 := by
            have e := congrArg ByteArray.size (jn_all c ss)
            have e2 := jn_size c ss ss.length (Nat.le_refl _)
            rw [hfull] at e2
            have e3 : (ByteArray.mk (Lib.join (ss.map (·.data.toList)) [c]).toArray).size = (Lib.join (ss.map (·.data.toList)) [c]).length := by simp [ByteArray.size]
            have := hok.2.2
            omega
          have HJ := Lib.hid hjl
          have hsz := hdr.size
          have HZ := Lib.hid hsz
          clear hc hfull hok hjl hsz
          go_wp2_with fail
          refine (Try.strings_Join b off cap ss ⟨#[c]⟩ _ (fun j x hj => (hdr.cell _).trans (HC.out j _ (by rw [List.getElem?_map, hj]; rfl))) (by rw [HZ.out]; exact hb) (by omega) hcap (by have := HJ.out; exact Nat.le_trans this (by omega))).mono ?_
          rintro e w2 ⟨rfl, hbel⟩
          go_wp2_with fail
          try rw [Exit.noGoto_ret]
          go_ret2
          refine ⟨?_, (hdr.below _).trans (by rw [← HZ.out]; exact hbel)⟩
          rw [res_ok HOK.out, jn_all]
          rfl
    · have h1' : ((sep.size : Int) != 1) = true := by simp; omega
      go_enter Try.func12, Try.ntmps12
      go_wp2_with fail
      go_step3
      go_wp2_with fail
      try rw [Exit.noGoto_ret]
      go_ret2
      exact ⟨by rw [res_sep _ h1]; rfl, Below.refl _ _⟩
end Go.Proofs.Ytlddkechmkjdeaa.jni
