/- FnSplitJoin: whatever the code, SplitString and JoinStrings of impl are inverse at the drawn strings, JoinStrings answers as spec's, and LessString is strict. No condition. -/
import Derived.Test.YtlddkechmkjdeaaSJ
import Derived.Test.YtlddkechmkjdeaaDrawJ
import Derived.Test.YtlddkechmkjdeaaSplS
import Derived.Test.YtlddkechmkjdeaaJnI
import Derived.Deep.AppendLies
namespace Go.Proofs.Ytlddkechmkjdeaa.fnSplitJoin
open kit strs hs jn jnw jni split spls curs draws drawj sj
open Go.ChangeShapes Go.WideShapes Go.ChangeAt Go.RowKit
open Go.ChangeMaps (open_string shut_string)
set_option linter.unusedVariables false

theorem own_row {w : World} {B : Nat} {v : Value} {ss : List ByteArray} (h : OwnS w B v ss) (hn : v ≠ .slice none 0 0) :
    ∃ g cap, v = .slice (some ⟨g, 0, none⟩) ss.length cap ∧ ss.length ≤ cap ∧ SR w w.heap.size (some ⟨g, 0, none⟩) ss.length (ss.map Value.string) := by
  obtain ⟨h1, h2⟩ := h
  rcases h2 with ⟨e, _⟩ | ⟨g, cap, cur, rfl, hb, hh, hc, hm, hs, ht⟩
  · exact absurd e hn
  · have hrow : w.rowIs g 9 cap (fun i => (cur[i]?).getD undef) := ⟨cur, hh, by simpa using hs, fun i hi => by
      show cur[i]? = some ((cur[i]?).getD undef)
      rw [Array.getElem?_eq_getElem (show i < cur.size by omega)]; rfl⟩
    refine ⟨g, cap, rfl, hc, SR.of_row2 hrow hc hrow.lt (fun k u hu => ?_) (by simp)⟩
    have hk : k < ss.length := by
      have := (List.getElem?_eq_some_iff.1 hu).1
      simpa using this
    refine ⟨hk, ?_⟩
    rw [← ht, List.getElem?_take_of_lt (by omega)] at hu
    have hu2 : cur[k]? = some u := by simpa using hu
    show (cur[k]?).getD undef = u
    rw [hu2]; rfl
theorem big_any (A : Option Addr) (n c : Nat) (w : World) : Calls Try.prog 8 #[.slice A n c] w fun e w' => e = .returned (.bool (decide (65536 < n))) ∧ w = w' := by
  by_cases h : 65536 < n
  · rw [decide_eq_true h]
    have h' : (65536 : Int) < n := by omega
    have hd : decide ((65536 : Int) < (n : Int)) = true := decide_eq_true h'
    go_enter Try.func8, Try.ntmps8
    go_wp2_with fail
    go_ret
    exact ⟨by first | rfl | rw [hd], rfl⟩
  · rw [decide_eq_false h]
    have h' : (n : Int) ≤ 65536 := by omega
    have hd : decide ((65536 : Int) < (n : Int)) = false := decide_eq_false (by omega)
    go_enter Try.func8, Try.ntmps8
    go_wp2_with fail
    go_ret
    exact ⟨by first | rfl | rw [hd], rfl⟩
theorem less_i (a b : ByteArray) (w : World) : Calls Try.prog 15 #[.string a, .string b] w fun e w' => e = .returned (.bool (Op.bytesLess a.toList b.toList)) ∧ w = w' := by
  go_enter Try.func15, Try.ntmps15
  go_wp2_with fail
  go_ret
  exact ⟨rfl, rfl⟩
theorem less_s (a b : ByteArray) (w : World) : Calls Try.prog 16 #[.string a, .string b] w fun e w' => e = .returned (.bool (Op.bytesLess a.toList b.toList)) ∧ w = w' := by
  go_enter Try.func16, Try.ntmps16
  go_wp2_with fail
  go_ret
  exact ⟨rfl, rfl⟩
theorem res_form (ss : List ByteArray) (sep : ByteArray) : ∃ o b, res ss sep = #[.string o, .bool b] := by
  unfold res
  split
  · exact ⟨_, _, rfl⟩
  · exact ⟨_, _, rfl⟩

theorem parts_tot (s : ByteArray) (d : UInt8) : s.size = tot (parts s d.toNat) + ((parts s d.toNat).length - 1) := by
  have hj := join_parts s d
  have hsz := jn_size d (parts s d.toNat) (parts s d.toNat).length (Nat.le_refl _)
  rwa [hj, List.take_length] at hsz
theorem parts_len (s : ByteArray) (d : UInt8) : (parts s d.toNat).length ≤ s.size + 1 := by
  have := parts_tot s d
  omega
theorem parts_size (s : ByteArray) (d : UInt8) (t : ByteArray) (ht : t ∈ parts s d.toNat) : t.size ≤ s.size := by
  have h1 := parts_tot s d
  obtain ⟨k, hk⟩ := List.getElem?_of_mem ht
  have := (tot_rest hk).1
  omega

theorem own : ownKnob Try.prog.godebug = none := by kernel_rfl
theorem laidOut : laidOutB Try.prog = true := by kernel_rfl

set_option maxHeartbeats 6400000 in
theorem walk (A : Option Addr) (n c : Nat) (zs : List Int) (w : World) (h : SRB .u8 w A n zs) :
    Calls Try.prog 3 #[.slice A n c] w fun e w' => e = .returned (.bool true) ∧ Below w.heap.size w w' := by
  have hz := h.bytes
  obtain ⟨hsr, hn, -⟩ := h
  have HZ := Lib.hid hz
  clear hz
  by_cases hbig : 65536 < n
  · go_enter Try.func3, Try.ntmps3
    go_wp2_with fail
    refine (big_any _ _ _ _).mono ?_
    rw [decide_eq_true hbig]
    rintro e w1 ⟨rfl, rfl⟩
    go_wp2_with fail
    go_ret
    exact ⟨rfl, Below.refl _ _⟩
  · have hn2 : n ≤ 65536 := by omega
    go_enter Try.func3, Try.ntmps3
    go_wp2_with fail
    refine (big_any _ _ _ _).mono ?_
    rw [decide_eq_false hbig]
    rintro e w1 ⟨rfl, rfl⟩
    go_wp2_with fail
    refine (drawSplit_any _ _ _ zs _ hsr HZ.out hn2).mono ?_
    rintro e w1 ⟨s, sep, rfl, hs, hsp, hb1⟩
    go_wp2_with fail
    refine (implSplit_any s sep (by unfold maxLen; omega) _).mono ?_
    rintro e w2 ⟨v2, rfl, hown2, hn2', hb2⟩
    have hb02 := hb1.trans (hb2.mono hb1.size)
    obtain ⟨g2, c2, rfl, hc2, hsr2⟩ := own_row hown2 hn2'
    clear hown2 hn2'
    obtain ⟨ok, hok⟩ : ∃ ok, spOk s sep = ok := ⟨_, rfl⟩
    obtain ⟨L, hL⟩ : ∃ L, spL s sep = L := ⟨_, rfl⟩
    obtain ⟨ln, hln⟩ : ∃ ln, L.length = ln := ⟨_, rfl⟩
    rw [hL, hln] at hsr2 hc2
    rw [hok, hL, hln]
    have HOK := Lib.hid (And.intro hok (And.intro hL hln))
    clear hok hL hln
    go_wp2_with fail
    refine (drawJoin_any _ _ _ zs _ ((hsr.below hb02).wide hb02.size) HZ.out hn2).mono ?_
    rintro e w3 ⟨v3, ss, mark, rfl, hown3, hn3, hl3, hss3, hmk3, hb3⟩
    have hb03 := hb02.trans (hb3.mono hb02.size)
    have hsr23 := (hsr2.below hb3).wide hb3.size
    obtain ⟨g3, c3, rfl, hc3, hsr3⟩ := own_row hown3 hn3
    have HSS : Hid (∀ t ∈ ss, t.size ≤ 1048576) := fun t ht => by have := hss3 t ht; omega
    obtain ⟨o, b, ho⟩ := res_form ss mark
    have HO := Lib.hid ho
    clear hown3 hn3 hss3 ho hsr2
    go_wp2_with fail
    refine (implJoin_any _ _ _ ss mark _ hsr3 (by omega) hc3 HSS.out (by unfold maxLen; omega)).mono ?_
    unfold joinPost
    rw [HO.out]
    rintro e w4 ⟨rfl, hb4⟩
    have hb04 := hb03.trans (hb4.mono hb03.size)
    have hsr24 := (hsr23.below hb4).wide hb4.size
    have hsr34 := (hsr3.below hb4).wide hb4.size
    clear hsr23 hsr3
    go_wp2_with fail
    refine (specJoin_any _ _ _ ss mark _ _ hsr34 (by unfold maxLen; omega) HSS.out (by unfold maxLen; omega)).mono ?_
    unfold joinPost
    rw [HO.out]
    rintro e w5 ⟨rfl, hb5⟩
    have hb05 := hb04.trans (hb5.mono hb04.size)
    have hsr25 := (hsr24.below hb5).wide hb5.size
    clear hsr24 hsr34
    go_wp2_with fail
    refine (drawLess_any _ _ _ zs _ ((hsr.below hb05).wide hb05.size) HZ.out hn2).mono ?_
    rintro e w6 ⟨x, y, rfl, -, -, hb6⟩
    have hb06 := hb05.trans (hb6.mono hb05.size)
    have hsr26 := (hsr25.below hb6).wide hb6.size
    have hless := less_not x.toList y.toList
    clear hsr25
    obtain ⟨P, hP⟩ : ∃ P, Op.bytesLess x.toList y.toList = P := ⟨_, rfl⟩
    obtain ⟨Q, hQ⟩ : ∃ Q, Op.bytesLess y.toList x.toList = Q := ⟨_, rfl⟩
    rw [hP, hQ] at hless
    have CI := fun w => less_i x y w
    have CS := fun w => less_s x y w
    have CR := fun w => less_i y x w
    rw [hP] at CI CS
    rw [hQ] at CR
    have HPQ := Lib.hid (And.intro hP hQ)
    clear hP hQ
    have hcase : (sep.size ≠ 1 ∧ ok = false ∧ ln = 0) ∨ (∃ d, sep = ⟨#[d]⟩ ∧ ok = true ∧ L = parts s d.toNat) := by
      obtain ⟨e1, e2, e3⟩ := HOK.out
      by_cases h1 : sep.size = 1
      · obtain ⟨d, rfl⟩ := spls.one_of h1
        have ht : spOk s ⟨#[d]⟩ = true := by unfold spOk; exact decide_eq_true ⟨by omega, rfl⟩
        refine .inr ⟨d, rfl, by rw [← e1, ht], ?_⟩
        rw [← e2]; unfold spL; rw [if_pos ht]; rfl
      · have ht : spOk s sep = false := by unfold spOk; exact decide_eq_false (fun h => h1 h.2)
        refine .inl ⟨h1, by rw [← e1, ht], ?_⟩
        rw [← e3, ← e2]; unfold spL; rw [ht]; rfl
    rcases hcase with ⟨hsz, rfl, rfl⟩ | ⟨d, rfl, rfl, rfl⟩
    · have hq : ((sep.size : Int) != 1) = true := by rw [bne_iff_ne]; omega
      cases P with
      | false =>
        go_wp2_with fail
        refine (CI _).mono ?_
        rintro e w7 ⟨rfl, rfl⟩
        go_wp2_with fail
        refine (CS _).mono ?_
        rintro e w7 ⟨rfl, rfl⟩
        go_wp2_with fail
        refine (CI _).mono ?_
        rintro e w7 ⟨rfl, rfl⟩
        go_wp2_with fail
        go_ret
        exact ⟨rfl, hb06⟩
      | true =>
        obtain rfl : Q = false := hless rfl
        go_wp2_with fail
        refine (CI _).mono ?_
        rintro e w7 ⟨rfl, rfl⟩
        go_wp2_with fail
        refine (CS _).mono ?_
        rintro e w7 ⟨rfl, rfl⟩
        go_wp2_with fail
        refine (CI _).mono ?_
        rintro e w7 ⟨rfl, rfl⟩
        go_wp2_with fail
        refine (CR _).mono ?_
        rintro e w7 ⟨rfl, rfl⟩
        go_wp2_with fail
        go_ret
        exact ⟨rfl, hb06⟩
    · have hbk := back s d (by omega)
      obtain ⟨e1, e2, e3⟩ := HOK.out
      have hln : ln ≤ 1048576 := by
        have : (parts s d.toNat).length ≤ s.size + 1 := parts_len s d
        omega
      have hps : ∀ t ∈ parts s d.toNat, t.size ≤ 1048576 := fun t ht => by
        have := parts_size s d t ht
        omega
      clear HOK e1 e2
      subst e3
      have CJ := implJoin_any (some ⟨g2, 0, none⟩) (parts s d.toNat).length c2 (parts s d.toNat) ⟨#[d]⟩ w6 hsr26 hln hc2 hps (by unfold maxLen; show 1 ≤ _; omega)
      unfold joinPost at CJ
      rw [hbk] at CJ
      have HHP := Lib.hid hps
      clear hps hbk
      obtain ⟨LL, hLL⟩ : ∃ LL, parts s d.toNat = LL := ⟨_, rfl⟩
      rw [hLL] at CJ hsr26 hc2 hln HHP
      cases P with
      | false =>
        go_wp2_with fail
        refine (CI _).mono ?_
        rintro e w7 ⟨rfl, rfl⟩
        go_wp2_with fail
        refine (CS _).mono ?_
        rintro e w7 ⟨rfl, rfl⟩
        go_wp2_with fail
        refine (CI _).mono ?_
        rintro e w7 ⟨rfl, rfl⟩
        go_wp2_with fail
        refine CJ.mono ?_
        rintro e w7 ⟨rfl, hb7⟩
        have hb07 := hb06.trans (hb7.mono hb06.size)
        go_wp2_with fail
        go_ret
        exact ⟨by simp, hb07⟩
      | true =>
        obtain rfl : Q = false := hless rfl
        go_wp2_with fail
        refine (CI _).mono ?_
        rintro e w7 ⟨rfl, rfl⟩
        go_wp2_with fail
        refine (CS _).mono ?_
        rintro e w7 ⟨rfl, rfl⟩
        go_wp2_with fail
        refine (CI _).mono ?_
        rintro e w7 ⟨rfl, rfl⟩
        go_wp2_with fail
        refine (CR _).mono ?_
        rintro e w7 ⟨rfl, rfl⟩
        go_wp2_with fail
        refine CJ.mono ?_
        rintro e w7 ⟨rfl, hb7⟩
        have hb07 := hb06.trans (hb7.mono hb06.size)
        go_wp2_with fail
        go_ret
        exact ⟨by simp, hb07⟩

set_option maxRecDepth 100000 in
theorem lifted (os : Os) (started : os.Started) (H : Type) (enc : TypeId × Value → H) :
    ReturnsInHanded {} Try.checked os 3 .any (Rows.fnSplitJoinSpec.pre6 enc Try.prog Try.f3 Rows.fnSplitJoinRow.domain false) (Rows.fnSplitJoinSpec.post enc Try.prog Try.f3 false true false false) := by
  refine returnsInHanded_of_change (C := Try.checked) own started (by kernel_rfl) Try.func3
    (ChangeSpec.witness6 (enc := enc) (C := Try.checked) false ⟨#[], #[.slice none 0 0], []⟩ 8 (by kernel_rfl) (by kernel_rfl) (by kernel_rfl) (by kernel_rfl)) ?_
  intro W base args ds gs before hval0 hW hcnd _
  have hval : ∀ (j : Nat) t v, Try.f3.params[j]? = some t → args[j]? = some v → Value.okWide Try.prog W .any base t v := hval0
  have hW' := hW
  obtain ⟨p, q, hA0, hV, rfl, hfz, hnd⟩ := hW
  have hA : DataW.TrodAll enc Try.prog W 0 (fun _ => true) true Try.f3.params.toList args.toList ds p := hA0
  rw [Try.params3] at hA hval
  obtain ⟨v0, vs0, d0, ds0, p0, q0, hargs, rfl, rfl, h0, r0⟩ := trodAll_cons hA
  obtain ⟨rfl, rfl, rfl⟩ := trodAll_nil r0
  obtain rfl : args = #[v0] := by cases args; simp_all
  obtain ⟨rfl, rfl⟩ := trodVars_none hV
  obtain ⟨a0, n0, cap0, rfl⟩ := okWide_slice Try.underlying22 (hval 0 22 v0 rfl rfl)
  have k0 := h0
  have lt0 : ∀ x ∈ p0, x.block < W.heap.size := by obtain ⟨m, hm⟩ := k0; exact DataW.trod_lt m _ _ _ hm
  obtain ⟨zs, hsr⟩ := sr_ints Try.underlying22 Try.underlying5 (by kernel_rfl) h0 lt0
  clear hA0 hval0
  refine (walk a0 n0 cap0 zs W hsr).mono fun e W' ⟨he, bel⟩ => ?_
  subst he
  exact ⟨_, rfl, _, _, _, [], _, [], hW', trodAll_mk1 (shut_bool Try.underlying4 _), (trodAll_cons_mk (Below.trod laidOut (by kernel_rfl) (of_decide_eq_true (by kernel_rfl)) k0 bel lt0) trodAll_mk0), rfl, bel.frame _, fun h => by cases h⟩

theorem over : Rows.fnSplitJoinRow.holds Try.pinned (OpenSpec.ofChange Rows.fnSplitJoinSpec) :=
  OpenClaim.holds_of_wide 3 Try.f3 rfl rfl rfl rfl rfl rfl rfl ⟨rfl, rfl, rfl, rfl, rfl⟩ rfl rfl rfl rfl rfl (by kernel_rfl) Try.func3 (by kernel_rfl)
    (of_decide_eq_true (by kernel_rfl)) (by unfold Func.isWrapper; first | (rw [if_pos (by decide +kernel)]; kernel_rfl) | (rw [if_neg (by decide +kernel)]; exact ⟨rfl, rfl⟩))
    (fun os started H enc _ => lifted os started H enc)

theorem proved : Rows.FnSplitJoinSaid := over
#print axioms proved
end Go.Proofs.Ytlddkechmkjdeaa.fnSplitJoin
