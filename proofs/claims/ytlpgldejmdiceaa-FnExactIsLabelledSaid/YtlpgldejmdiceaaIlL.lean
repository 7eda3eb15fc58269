/- FnExactIsLabelled: for every Labelled system and all other arguments, impl's function answers as spec's does and leaves them as they were. No condition. -/
import Derived.Test.YtlpgldejmdiceaaLgd
import Derived.Test.YtlpgldejmdiceaaSyq
import Derived.Deep.RegionHeld3
namespace Go.Proofs.Ytlpgldejmdiceaa.fnExactIsLabelled
open kit bg opn sig isig hc only hb ht gd cf lawb hi syx sya syh syi syc syg syq iss lab lgd
open Go.ChangeShapes Go.WideShapes Go.ChangeAt Go.RowKit
open Go.ChangeMaps (open_string shut_string)
set_option linter.unusedVariables false
set_option linter.unusedSimpArgs false

set_option maxRecDepth 20000 in
set_option maxHeartbeats 6400000 in
theorem walk (v : Value) (x : Lab) (w : World) (hv : LabAt w w.heap.size v x) (hvw : LabW x) :
    Calls Try.prog 14 #[v] w fun e w' => e = .returned (.bool true) ∧ Below w.heap.size w w' := by
  obtain ⟨A1, n1, c1, A2, n2, c2, rfl, h1, h2⟩ := hv
  have HBx := Lib.hid (BoxN.new w #[.slice A1 n1 c1, .slice A2 n2 c2] 64)
  have HB0 := Lib.hid ((Below.refl w.heap.size w).alloc (Nat.le_refl _) (.cells #[.slice A1 n1 c1, .slice A2 n2 c2] 64))
  obtain ⟨W, hW⟩ : ∃ W, w.alloc (.cells #[.slice A1 n1 c1, .slice A2 n2 c2] 64) = W := ⟨_, rfl⟩
  rw [hW] at HBx HB0
  have HWq := Lib.hid hW
  have hWs : w.heap.size < W.heap.size := HBx.out.lt
  have HX : Hid (LabAt W W.heap.size (.agg #[.slice A1 n1 c1, .slice A2 n2 c2]) x) := Lib.hid (((show LabAt w w.heap.size _ x from ⟨A1, n1, c1, A2, n2, c2, rfl, h1, h2⟩).below HB0.out).wide HB0.out.size)
  have HXW := Lib.hid hvw
  obtain ⟨x0, x1⟩ := box2 HBx.out
  clear hW h1 h2 hvw 
  go_enter Try.func14, Try.ntmps14
  go_wp2_with fail
  rw [HWq.out]
  try go_wp2_with fail
  refine (szLab_any _ x 1048576 W HX.out (by omega) (by omega) HXW.out).mono ?_
  rintro e w1 ⟨r, rfl, hr, hr1, hr2, hk1⟩
  clear x0 x1
  obtain ⟨x0, x1⟩ := box2 (HBx.out.below hk1 hWs)
  by_cases hneg : r < 0
  · go_wp2_with fail
    go_ret
    exact ⟨rfl, HB0.out.trans (hk1.mono HB0.out.size)⟩
  have HWt : Hid (labWt x ≤ 1048576) := Lib.hid (by omega)
  obtain ⟨vb, hvb⟩ : ∃ vb, labB x.shows.length x.shows x.steps = vb := ⟨_, rfl⟩
  have HSp := Lib.hid (fun (u : Value) (y : World) (hu : LabAt y y.heap.size u x) => sIsl_any u x y hu HWt.out)
  simp only [hvb] at HSp
  have HIm := Lib.hid (fun (u : Value) (y : World) (hu : LabAt y y.heap.size u x) => iIsl_any u x y hu HWt.out)
  simp only [hvb] at HIm
  clear hvb hr hr1 hr2
  go_wp2_with fail
  refine (toLab_any _ x _ ((HX.out.below hk1).wide hk1.size) HWt.out).mono ?_
  rintro e w2 ⟨v2, rfl, ho2, hb2⟩
  have hk2 := hk1.trans (hb2.mono hk1.size)
  have hu := ho2.at
  clear x0 x1 
  obtain ⟨x0, x1⟩ := box2 (HBx.out.below hk2 hWs)
  go_wp2_with fail
  refine (HSp.out _ _ hu).mono ?_
  rintro e w3 ⟨rfl, hb3⟩
  have hk3 := hk2.trans (hb3.mono hk2.size)
  clear x0 x1 hu
  obtain ⟨x0, x1⟩ := box2 (HBx.out.below hk3 hWs)
  go_wp2_with fail
  refine (toLab_any _ x _ ((HX.out.below hk3).wide hk3.size) HWt.out).mono ?_
  rintro e w4 ⟨v4, rfl, ho4, hb4⟩
  have hk4 := hk3.trans (hb4.mono hk3.size)
  have HO4 := Lib.hid ho4.at
  obtain ⟨g1, g2, rfl, -⟩ := ho4
  clear x0 x1
  obtain ⟨x0, x1⟩ := box2 (HBx.out.below hk4 hWs)
  go_wp2_with fail
  have hBy := BoxN.new w4 #[.slice (some ⟨g1, 0, none⟩) x.shows.length x.shows.length, .slice (some ⟨g2, 0, none⟩) x.steps.length x.steps.length] 67
  have hb5 := (Below.refl w4.heap.size w4).alloc (Nat.le_refl _) (.cells #[.slice (some ⟨g1, 0, none⟩) x.shows.length x.shows.length, .slice (some ⟨g2, 0, none⟩) x.steps.length x.steps.length] 67)
  obtain ⟨w5, hw5⟩ : ∃ w5, w4.alloc (.cells #[.slice (some ⟨g1, 0, none⟩) x.shows.length x.shows.length, .slice (some ⟨g2, 0, none⟩) x.steps.length x.steps.length] 67) = w5 := ⟨_, rfl⟩
  rw [hw5] at hBy hb5 ⊢
  have HBy5 := Lib.hid hBy
  have hs5 : w4.heap.size < w5.heap.size := hBy.lt
  have hk5 := hk4.trans (hb5.mono hk4.size)
  have HU5 := Lib.hid (HO4.out.on hb5)
  clear hw5 hBy x0 x1
  obtain ⟨x0, x1⟩ := box2 (HBx.out.below hk5 hWs)
  obtain ⟨y0, y1⟩ := box2 HBy5.out
  try go_wp2_with fail
  refine (HIm.out _ _ HU5.out).mono ?_
  rintro e w6 ⟨rfl, hb6⟩
  have hk6 := hk5.trans (hb6.mono hk5.size)
  have HU6 := Lib.hid (HU5.out.on hb6)
  have HBy6 := Lib.hid (HBy5.out.below hb6 hs5)
  have hs6 : w4.heap.size < w6.heap.size := Nat.lt_of_lt_of_le hs5 hb6.size
  clear x0 x1 y0 y1
  obtain ⟨x0, x1⟩ := box2 (HBx.out.below hk6 hWs)
  obtain ⟨y0, y1⟩ := box2 HBy6.out
  go_wp2_with fail
  have hbD : Below w6.heap.size w6 w6.drew := (Below.refl _ _).drew
  go_region_held3 (fun w' => (w'.cell? ⟨w.heap.size, 0, none⟩ = some (.slice A1 n1 c1) ∧ w'.cell? ⟨w.heap.size, 1, none⟩ = some (.slice A2 n2 c2)) ∧ (w'.cell? ⟨w4.heap.size, 0, none⟩ = some (.slice (some ⟨g1, 0, none⟩) x.shows.length x.shows.length) ∧ w'.cell? ⟨w4.heap.size, 1, none⟩ = some (.slice (some ⟨g2, 0, none⟩) x.steps.length x.steps.length))) (first | exact ⟨box2 (HBx.out.below hk8 hWs), box2 (HBy7.out.below hb8 hs7)⟩ | exact ⟨box2 (HBx.out.below hk7 hWs), box2 HBy7.out⟩ | exact ⟨box2 (HBx.out.below hk6.drew hWs), box2 (HBy6.out.below hbD hs6)⟩)
    (first
     | (go_at_call 52; refine (toLab_any _ x _ ((HX.out.below hk6.drew).wide hk6.drew.size) HWt.out).mono ?_; rintro e w7 ⟨v7, rfl, ho7, hb7⟩; have hk7 := hk6.drew.trans (hb7.mono hk6.drew.size); have hbb7 := hbD.trans (hb7.mono hbD.size); have HBy7 := Lib.hid (HBy6.out.below hbb7 hs6); have hs7 : w4.heap.size < w7.heap.size := Nat.lt_of_lt_of_le hs6 hbb7.size; have hxo7 := HU6.out.on hbb7)
     | (go_at_call 54; refine (eqLab_any _ _ x _ hxo7 ho7.at HXW.out HWt.out).mono ?_; rintro e w8 ⟨rfl, hb8⟩; have hk8 := hk7.trans (hb8.mono hk7.size)))
  clear x0 x1 y0 y1
  go_wp2_with fail
  go_ret
  exact ⟨rfl, HB0.out.trans (hk8.mono HB0.out.size)⟩

theorem own : ownKnob Try.prog.godebug = none := by kernel_rfl
theorem laidOut : laidOutB Try.prog = true := facts.laid

set_option maxRecDepth 100000 in
theorem lifted (os : Os) (started : os.Started) (H : Type) (enc : TypeId × Value → H) :
    ReturnsInHanded {} Try.checked os 14 .any (Rows.fnExactIsLabelledSpec.pre6 enc Try.prog Try.f14 Rows.fnExactIsLabelledRow.domain false) (Rows.fnExactIsLabelledSpec.post enc Try.prog Try.f14 false true false false) := by
  refine returnsInHanded_of_change (C := Try.checked) own started (by kernel_rfl) Try.func14
    (ChangeSpec.witness6 (enc := enc) (C := Try.checked) false ⟨#[], #[.agg #[.slice none 0 0, .slice none 0 0]], []⟩ 8 (by kernel_rfl) (by kernel_rfl) (by kernel_rfl) (by kernel_rfl)) ?_
  intro W base args ds gs before hval0 hW hcnd _
  have hval : ∀ (j : Nat) t v, Try.f14.params[j]? = some t → args[j]? = some v → Value.okWide Try.prog W .any base t v := hval0
  have hW' := hW
  obtain ⟨p, q, hA0, hV, rfl, hfz, hnd⟩ := hW
  have hA : DataW.TrodAll enc Try.prog W 0 (fun _ => true) true Try.f14.params.toList args.toList ds p := hA0
  rw [Try.params14] at hA hval
  obtain ⟨v0, vs0, d0, ds0, p0, q0, hargs, rfl, rfl, h0, r0⟩ := trodAll_cons hA
  obtain ⟨rfl, rfl, rfl⟩ := trodAll_nil r0
  obtain rfl : args = #[v0] := by cases args; simp_all
  obtain ⟨rfl, rfl⟩ := trodVars_none hV
  have k0 := h0
  have lt0 : ∀ x ∈ p0, x.block < W.heap.size := by obtain ⟨m, hm⟩ := k0; exact DataW.trod_lt m _ _ _ hm
  obtain ⟨b0, s0, w0⟩ := open_lab (hval 0 64 v0 rfl rfl) h0 lt0
  clear hA0 hval0
  refine (walk v0 b0 W s0 w0).mono fun e W' ⟨he, bel⟩ => ?_
  subst he
  exact ⟨_, rfl, _, _, _, [], _, [], hW', trodAll_mk1 (shut_bool Try.underlying4 _), (trodAll_cons_mk (Below.trod laidOut (by kernel_rfl) (of_decide_eq_true (by kernel_rfl)) k0 bel lt0) trodAll_mk0), rfl, bel.frame _, fun h => by cases h⟩

theorem closed : joinedFacts Try.checked.prog 14 Try.f14 Rows.fnExactIsLabelledSpec Rows.fnExactIsLabelledRow = true := by
  unfold joinedFacts
  rw [facts.laid, facts.maps, facts.heard, facts.enter, facts.lifts, facts.make, facts.keys]
  kernel_rfl

theorem over : Rows.fnExactIsLabelledRow.holds Try.pinned (OpenSpec.ofChange Rows.fnExactIsLabelledSpec) :=
  OpenClaim.holds_of_wide 14 Try.f14 rfl rfl rfl rfl rfl rfl rfl ⟨rfl, rfl, rfl, rfl, rfl⟩ rfl rfl rfl rfl rfl (by kernel_rfl) Try.func14 closed
    (of_decide_eq_true (by kernel_rfl)) (by unfold Func.isWrapper; first | (rw [if_pos (by decide +kernel)]; kernel_rfl) | (rw [if_neg (by decide +kernel)]; exact ⟨rfl, rfl⟩))
    (fun os started H enc _ => lifted os started H enc)

theorem proved : Rows.FnExactIsLabelledSaid := over
#print axioms proved
end Go.Proofs.Ytlpgldejmdiceaa.fnExactIsLabelled
