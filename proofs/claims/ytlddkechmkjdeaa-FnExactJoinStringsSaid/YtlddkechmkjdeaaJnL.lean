/- FnExactJoinStrings: for every list of strings and every separator, impl.JoinStrings answers as spec.JoinStrings does and leaves the list as it was. No condition. -/
import Derived.Test.YtlddkechmkjdeaaJnI
import Derived.Test.YtlddkechmkjdeaaEqs
namespace Go.Proofs.Ytlddkechmkjdeaa.fnExactJoinStrings
open kit strs jn jnw jni eqs
open Go.ChangeShapes Go.WideShapes Go.ChangeAt Go.RowKit
open Go.ChangeMaps (open_string shut_string)
set_option linter.unusedVariables false

theorem own : ownKnob Try.prog.godebug = none := by kernel_rfl
theorem laidOut : laidOutB Try.prog = true := by kernel_rfl


theorem res_form (ss : List ByteArray) (sep : ByteArray) : ∃ o b, res ss sep = #[.string o, .bool b] := by
  unfold res
  split
  · exact ⟨_, _, rfl⟩
  · exact ⟨_, _, rfl⟩

/-- a new row of these strings, in a world where it still stands -/
theorem sr_row {w : World} {b B : Nat} {ss : List ByteArray} (h : w.rowIs b 9 ss.length (at_ ss)) (hB : b < B) : SR w B (some ⟨b, 0, none⟩) ss.length (ss.map Value.string) :=
  SR.of_row h hB (fun k u hu => by
    rw [List.getElem?_map] at hu
    obtain ⟨s, hs, rfl⟩ := Option.map_eq_some_iff.1 hu
    exact ⟨(List.getElem?_eq_some_iff.1 hs).1, at_of hs⟩) (by simp)

set_option maxHeartbeats 1600000 in
theorem walk (A : Option Addr) (n cap : Nat) (sep : ByteArray) (ss : List ByteArray) (w : World) (h : SR w w.heap.size A n (ss.map Value.string)) (hn : n ≤ maxLen) (hs : ∀ s ∈ ss, s.size ≤ maxLen) (hsep : sep.size ≤ maxLen) :
    Calls Try.prog 5 #[.slice A n cap, .string sep] w fun e w' => e = .returned (.bool true) ∧ Below w.heap.size w w' := by
  have hl := h.strlen
  subst hl
  by_cases hsp : sep.size ≤ 1048576
  · go_enter Try.func5, Try.ntmps5
    go_wp2_with fail
    refine (sz_any _ _ _ ss 1048576 _ _ h (by omega) (by omega) hn hs).mono ?_
    rintro e w1 ⟨r, rfl, hr, hr2, rfl⟩
    by_cases hneg : r < 0
    · go_wp2_with fail
      go_ret
      exact ⟨rfl, Below.refl _ _⟩
    · have hr' : r = 1048576 - (ss.length : Int) - (tot ss : Int) := by omega
      have hlen : ss.length ≤ 1048576 := by omega
      have htt : tot ss ≤ 1048576 := by omega
      have hs2 : ∀ s ∈ ss, s.size ≤ 1048576 := by
        intro s hs
        obtain ⟨k, hk⟩ := List.getElem?_of_mem hs
        have := tot_rest hk
        omega
      have HS2 := Lib.hid hs2
      clear hr hr2 hr' hs hs2
      go_wp2_with fail
      refine (to_any A ss.length cap ss _ h hlen).mono ?_
      rintro e w2 ⟨b2, rfl, hb2, hlt2, hrow2, hbel2⟩
      go_wp2_with fail
      refine (specJoin_any _ _ _ ss sep _ w2.heap.size (sr_row hrow2 hlt2) hn HS2.out hsep).mono ?_
      obtain ⟨o, bb, ho⟩ := res_form ss sep
      unfold joinPost
      rw [ho]
      have HO := Lib.hid ho
      clear ho
      rintro e w3 ⟨rfl, hbel3⟩
      have hbel03 := hbel2.trans (hbel3.mono hbel2.size)
      go_wp2_with fail
      refine (to_any A ss.length cap ss _ ((h.below hbel03).wide hbel03.size) hlen).mono ?_
      rintro e w4 ⟨b4, rfl, hb4, hlt4, hrow4, hbel4⟩
      have hbel04 := hbel03.trans (hbel4.mono hbel03.size)
      go_wp2_with fail
      refine (implJoin_any _ _ _ ss sep _ (sr_row hrow4 hlt4) hlen (Nat.le_refl _) HS2.out hsep).mono ?_
      unfold joinPost
      rw [HO.out]
      rintro e w5 ⟨rfl, hbel5⟩
      have hbel05 := hbel04.trans (hbel5.mono hbel04.size)
      have hsr5 := (sr_row hrow4 hlt4).below hbel5
      clear hrow4 hrow2
      go_wp2_with fail
      refine (to_any A ss.length cap ss _ ((h.below hbel05).wide hbel05.size) hlen).mono ?_
      rintro e w6 ⟨b6, rfl, hb6, hlt6, hrow6, hbel6⟩
      have hbel06 := hbel05.trans (hbel6.mono hbel05.size)
      have hsr6 := (hsr5.wide hbel5.size).below hbel6
      go_wp2_with fail
      refine (eq_any _ _ _ _ _ ss _ _ _ hsr6 (sr_row hrow6 hlt6) hlen).mono ?_
      rintro e w7 ⟨rfl, hdr⟩
      have hbel07 := hbel06.trans (hdr.below _)
      go_wp2_with fail
      go_ret
      exact ⟨rfl, hbel07⟩
  · have hsp' : 1048576 < sep.size := by omega
    go_enter Try.func5, Try.ntmps5
    go_wp2_with fail
    go_ret
    exact ⟨rfl, Below.refl _ _⟩

set_option maxRecDepth 100000 in
theorem lifted (os : Os) (started : os.Started) (H : Type) (enc : TypeId × Value → H) :
    ReturnsInHanded {} Try.checked os 5 .any (Rows.fnExactJoinStringsSpec.pre6 enc Try.prog Try.f5 Rows.fnExactJoinStringsRow.domain false) (Rows.fnExactJoinStringsSpec.post enc Try.prog Try.f5 false true false false) := by
  refine returnsInHanded_of_change (C := Try.checked) own started (by kernel_rfl) Try.func5
    (ChangeSpec.witness6 (enc := enc) (C := Try.checked) false ⟨#[], #[.slice none 0 0, .string ByteArray.empty], []⟩ 8 (by kernel_rfl) (by kernel_rfl) (by kernel_rfl) (by kernel_rfl)) ?_
  intro W base args ds gs before hval0 hW hcnd _
  have hval : ∀ (j : Nat) t v, Try.f5.params[j]? = some t → args[j]? = some v → Value.okWide Try.prog W .any base t v := hval0
  have hW' := hW
  obtain ⟨p, q, hA0, hV, rfl, hfz, hnd⟩ := hW
  have hA : DataW.TrodAll enc Try.prog W 0 (fun _ => true) true Try.f5.params.toList args.toList ds p := hA0
  rw [Try.params5] at hA hval
  obtain ⟨v0, vs0, d0, ds0, p0, q0, hargs, rfl, rfl, h0, r0⟩ := trodAll_cons hA
  obtain ⟨v1, vs1, d1, ds1, p1, q1, rfl, rfl, rfl, h1, r1⟩ := trodAll_cons r0
  obtain ⟨rfl, rfl, rfl⟩ := trodAll_nil r1
  obtain rfl : args = #[v0, v1] := by cases args; simp_all
  obtain ⟨rfl, rfl⟩ := trodVars_none hV
  obtain ⟨a0, n0, cap0, rfl⟩ := okWide_slice Try.underlying26 (hval 0 26 v0 rfl rfl)
  have k0 := h0
  have lt0 : ∀ x ∈ p0, x.block < W.heap.size := by obtain ⟨m, hm⟩ := k0; exact DataW.trod_lt m _ _ _ hm
  obtain ⟨ss, hsr, hn, hss⟩ := sr_strings Try.underlying26 Try.underlying9 (by kernel_rfl) h0 lt0
  obtain ⟨a1, rfl, rfl, rfl, w1⟩ := open_string Try.underlying9 (hval 1 9 v1 rfl rfl) h1
  clear hA0 hval0
  refine (walk a0 n0 cap0 a1 ss W hsr hn hss w1).mono fun e W' ⟨he, bel⟩ => ?_
  subst he
  exact ⟨_, rfl, _, _, _, [], _, [], hW', trodAll_mk1 (shut_bool Try.underlying4 _), (trodAll_cons_mk (Below.trod laidOut (by kernel_rfl) (of_decide_eq_true (by kernel_rfl)) k0 bel lt0) (trodAll_cons_mk (shut_string Try.underlying9 w1) trodAll_mk0)), rfl, bel.frame _, fun h => by cases h⟩

theorem over : Rows.fnExactJoinStringsRow.holds Try.pinned (OpenSpec.ofChange Rows.fnExactJoinStringsSpec) :=
  OpenClaim.holds_of_wide 5 Try.f5 rfl rfl rfl rfl rfl rfl rfl ⟨rfl, rfl, rfl, rfl, rfl⟩ rfl rfl rfl rfl rfl (by kernel_rfl) Try.func5 (by kernel_rfl)
    (of_decide_eq_true (by kernel_rfl)) (by unfold Func.isWrapper; first | (rw [if_pos (by decide +kernel)]; kernel_rfl) | (rw [if_neg (by decide +kernel)]; exact ⟨rfl, rfl⟩))
    (fun os started H enc _ => lifted os started H enc)

theorem proved : Rows.FnExactJoinStringsSaid := over
#print axioms proved
end Go.Proofs.Ytlddkechmkjdeaa.fnExactJoinStrings
