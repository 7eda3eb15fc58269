/- FnExactIsSignature: for every list of Controls, impl.IsSignature answers as spec.IsSignature does and leaves the list as it was. No condition. -/
import Derived.Test.YtdejbacfgcahlaaISig
import Derived.Test.YtdejbacfgcahlaaHc
namespace Go.Proofs.Ytdejbacfgcahlaa.fnExactIsSignature
open kit bg opn sig isig hc only
open Go.ChangeShapes Go.WideShapes Go.ChangeAt Go.RowKit
open Go.ChangeMaps (open_string shut_string)
set_option linter.unusedVariables false

theorem sigS_any (A : Option Addr) (n c : Nat) (cs : List Ctl) (w : World) (B : Nat) (h : CtlsAt w B A n cs) (hn : n ≤ 1048576) (hs : ∀ c ∈ cs, c.name.size ≤ 1048576) :
    Calls Try.prog 17 #[.slice A n c] w (Post (sigB cs) w) := by
  have C := l2Sig_any A n c cs w B h hn hs
  obtain ⟨q, hq⟩ : ∃ q, sigB cs = q := ⟨_, rfl⟩
  rw [hq] at C ⊢
  clear hq
  go_enter Try.func17, Try.ntmps17
  go_wp2_with fail
  refine C.mono ?_
  rintro e w1 ⟨rfl, hb⟩
  go_wp2_with fail
  go_ret
  exact ⟨rfl, hb⟩

set_option maxHeartbeats 1600000 in
theorem walk (A : Option Addr) (n c : Nat) (cs : List Ctl) (w : World) (h : CtlsAt w w.heap.size A n cs) (hw : CtlsW cs) :
    Calls Try.prog 3 #[.slice A n c] w fun e w' => e = .returned (.bool true) ∧ Below w.heap.size w w' := by
  have HL := Lib.hid h.1
  go_enter Try.func3, Try.ntmps3
  go_wp2_with fail
  refine (szCS_any A n c cs 1048576 _ _ h (Nat.le_refl _) (by omega) (by omega) hw).mono ?_
  rintro e w1 ⟨r, rfl, hr, hr1, hr2, hb1⟩
  by_cases hneg : r < 0
  · go_wp2_with fail
    go_ret
    exact ⟨rfl, hb1⟩
  · have hlen : n ≤ 1048576 := by have := HL.out; unfold ctlsWt at hr; omega
    have hs2 : ∀ c ∈ cs, c.name.size ≤ 1048576 := fun c hc => by have := sumBy_mem (fun c : Ctl => c.name.size) hc; unfold ctlsWt at hr; omega
    have HS := Lib.hid hs2
    obtain ⟨q, hq⟩ : ∃ q, sigB cs = q := ⟨_, rfl⟩
    have HC := Lib.hid (fun A n c w B h hn hs => hq ▸ sigS_any A n c cs w B h hn hs)
    have HI := Lib.hid (fun A n c w B h hB hn hs => hq ▸ isSig_any A n c cs w B h hB hn hs)
    clear hr hr1 hr2 hs2 hq
    go_wp2_with fail
    refine (toCS_any A n c cs _ ((h.below hb1).wide hb1.size) hlen).mono ?_
    rintro e w2 ⟨g2, rfl, ho2, hb2⟩
    have hb02 := hb1.trans (hb2.mono hb1.size)
    go_wp2_with fail
    refine (HC.out _ _ _ _ _ ho2.at hlen HS.out).mono ?_
    rintro e w3 ⟨rfl, hb3⟩
    have hb03 := hb02.trans (hb3.mono hb02.size)
    clear hb1 hb2 hb3 ho2 hb02
    go_wp2_with fail
    refine (toCS_any A n c cs _ ((h.below hb03).wide hb03.size) hlen).mono ?_
    rintro e w4 ⟨g4, rfl, ho4, hb4⟩
    have hb04 := hb03.trans (hb4.mono hb03.size)
    go_wp2_with fail
    refine (HI.out _ _ _ _ _ ho4.at (Nat.le_refl _) hlen HS.out).mono ?_
    rintro e w5 ⟨rfl, hb5⟩
    have hb05 := hb04.trans (hb5.mono hb04.size)
    have ho5 := (ho4.below hb5 (Nat.le_refl _)).at.wide hb5.size
    clear hb03 hb4 hb04 hb5 ho4
    go_wp2_with fail
    refine (toCS_any A n c cs _ ((h.below hb05).wide hb05.size) hlen).mono ?_
    rintro e w6 ⟨g6, rfl, ho6, hb6⟩
    have hb06 := hb05.trans (hb6.mono hb05.size)
    have ho56 := (ho5.below hb6).wide hb6.size
    clear hb05 hb6 ho5
    go_wp2_with fail
    refine (eqCS_any _ _ _ _ _ cs _ _ _ ho56 ho6.at (Nat.le_refl _) (Nat.le_refl _) hlen).mono ?_
    rintro e w7 ⟨rfl, hb7⟩
    have hb07 := hb06.trans (hb7.mono hb06.size)
    go_wp2_with fail
    go_ret
    exact ⟨rfl, hb07⟩

theorem own : ownKnob Try.prog.godebug = none := by kernel_rfl
theorem laidOut : laidOutB Try.prog = true := by kernel_rfl

set_option maxRecDepth 100000 in
theorem lifted (os : Os) (started : os.Started) (H : Type) (enc : TypeId × Value → H) :
    ReturnsInHanded {} Try.checked os 3 .any (Rows.fnExactIsSignatureSpec.pre6 enc Try.prog Try.f3 Rows.fnExactIsSignatureRow.domain false) (Rows.fnExactIsSignatureSpec.post enc Try.prog Try.f3 false true false false) := by
  refine returnsInHanded_of_change (C := Try.checked) own started (by kernel_rfl) Try.func3
    (ChangeSpec.witness6 (enc := enc) (C := Try.checked) false ⟨#[], #[.slice none 0 0], []⟩ 8 (by kernel_rfl) (by kernel_rfl) (by kernel_rfl) (by kernel_rfl)) ?_
  intro W base args ds gs before hval0 hW hcnd _
  have hval : ∀ (j : Nat) t v, Try.f3.params[j]? = some t → args[j]? = some v → Value.okWide Try.prog W .any base t v := hval0
  have hW' := hW
  obtain ⟨p, q, hA0, hV, rfl, hfz, hnd⟩ := hW
  have hA : DataW.TrodAll enc Try.prog W 0 (fun _ => true) true Try.f3.params.toList args.toList ds p := hA0
  rw [Try.params3] at hA hval
  obtain ⟨v0, vs0, d0, ds0, p0, q0, hargs, rfl, rfl, h0, r0⟩ := trodAll_cons hA
  obtain ⟨rfl, rfl, rfl⟩ := trodAll_nil r0
  obtain rfl : args = #[v0] := by cases args; simp_all
  obtain ⟨rfl, rfl⟩ := trodVars_none hV
  have k0 := h0
  have lt0 : ∀ x ∈ p0, x.block < W.heap.size := by obtain ⟨m, hm⟩ := k0; exact DataW.trod_lt m _ _ _ hm
  obtain ⟨A0, n0, c0, cs0, rfl, s0, w0⟩ := open_sig (hval 0 22 v0 rfl rfl) h0 lt0
  clear hA0 hval0
  refine (walk A0 n0 c0 cs0 W s0 w0).mono fun e W' ⟨he, bel⟩ => ?_
  subst he
  exact ⟨_, rfl, _, _, _, [], _, [], hW', trodAll_mk1 (shut_bool Try.underlying4 _), (trodAll_cons_mk (Below.trod laidOut (by kernel_rfl) (of_decide_eq_true (by kernel_rfl)) k0 bel lt0) trodAll_mk0), rfl, bel.frame _, fun h => by cases h⟩

theorem over : Rows.fnExactIsSignatureRow.holds Try.pinned (OpenSpec.ofChange Rows.fnExactIsSignatureSpec) :=
  OpenClaim.holds_of_wide 3 Try.f3 rfl rfl rfl rfl rfl rfl rfl ⟨rfl, rfl, rfl, rfl, rfl⟩ rfl rfl rfl rfl rfl (by kernel_rfl) Try.func3 (by kernel_rfl)
    (of_decide_eq_true (by kernel_rfl)) (by unfold Func.isWrapper; first | (rw [if_pos (by decide +kernel)]; kernel_rfl) | (rw [if_neg (by decide +kernel)]; exact ⟨rfl, rfl⟩))
    (fun os started H enc _ => lifted os started H enc)

theorem proved : Rows.FnExactIsSignatureSaid := over
#print axioms proved
end Go.Proofs.Ytdejbacfgcahlaa.fnExactIsSignature
