/- FnExactIsWay: for every System and all other arguments, impl's function answers as spec's does and leaves them as they were. No condition. -/
import Derived.Test.YtlpgldejmdiceaaSyw
import Derived.Test.YtlpgldejmdiceaaSyq
import Derived.Deep.RegionHeld3
namespace Go.Proofs.Ytlpgldejmdiceaa.fnExactIsWay
open kit bg opn sig isig hc only hb ht gd cf lawb hi syx sya syh syi syc syg syq syw sye
open Go.ChangeShapes Go.WideShapes Go.ChangeAt Go.RowKit
open Go.ChangeMaps (open_string shut_string)
set_option linter.unusedVariables false
set_option linter.unusedSimpArgs false

set_option maxRecDepth 20000 in
set_option maxHeartbeats 6400000 in
theorem walk (v : Value) (x : Sysm) (z0 : Int) (B1 : Option Addr) (m1 d1 : Nat) (ts1 : List Tri) (w : World) (hv : SysAt w w.heap.size v x) (hvw : SysW x) (hz0 : (Lit.int .i64 z0).wf = true) (hs1 : TriAt w w.heap.size B1 m1 ts1) (hzw1 : TriW ts1) :
    Calls Try.prog 3 #[v, .int .i64 z0, .slice B1 m1 d1] w fun e w' => e = .returned (.bool true) ∧ Below w.heap.size w w' := by
  obtain ⟨A1, n1, c1, A2, n2, c2, rfl, h1, h2⟩ := hv
  have HBx := Lib.hid (BoxN.new w #[.slice A1 n1 c1, .slice A2 n2 c2] 25)
  have HB0 := Lib.hid ((Below.refl w.heap.size w).alloc (Nat.le_refl _) (.cells #[.slice A1 n1 c1, .slice A2 n2 c2] 25))
  obtain ⟨W, hW⟩ : ∃ W, w.alloc (.cells #[.slice A1 n1 c1, .slice A2 n2 c2] 25) = W := ⟨_, rfl⟩
  rw [hW] at HBx HB0
  have HWq := Lib.hid hW
  have hWs : w.heap.size < W.heap.size := HBx.out.lt
  have HX : Hid (SysAt W W.heap.size (.agg #[.slice A1 n1 c1, .slice A2 n2 c2]) x) := Lib.hid (((show SysAt w w.heap.size _ x from ⟨A1, n1, c1, A2, n2, c2, rfl, h1, h2⟩).below HB0.out).wide HB0.out.size)
  have HXW := Lib.hid hvw
  have HS1 := Lib.hid ((hs1.below HB0.out).wide HB0.out.size)
  have HTW1 := Lib.hid hzw1
  have hm1 : m1 ≤ maxLen := by have := hs1.1; have := hzw1.1; omega
  have hmm1 := hm1
  unfold maxLen at hmm1
  obtain ⟨x0, x1⟩ := box2 HBx.out
  clear hW h1 h2 hvw hs1 hzw1
  go_enter Try.func3, Try.ntmps3
  go_wp2_with fail
  rw [HWq.out]
  try go_wp2_with fail
  refine (szSys_any _ x 1048576 W HX.out (by omega) (by omega) HXW.out).mono ?_
  rintro e w1 ⟨r, rfl, hr, hr1, hr2, hk1⟩
  clear x0 x1
  obtain ⟨x0, x1⟩ := box2 (HBx.out.below hk1 hWs)
  by_cases hneg : r < 0
  · go_wp2_with fail
    go_ret
    exact ⟨rfl, HB0.out.trans (hk1.mono HB0.out.size)⟩
  have HWt : Hid (sysWt x ≤ 1048576) := Lib.hid (by omega)
  go_wp2_with fail
  refine (szA3S_any B1 m1 d1 r w1 hr1 hr2 hm1).mono ?_
  have hrt2 := hr2
  clear hr hr1 hr2
  rintro e w2 ⟨r2, rfl, hr, hr1, hr2, hb⟩
  have hk2 := hk1.trans (hb.mono hk1.size)
  clear x0 x1 hb
  obtain ⟨x0, x1⟩ := box2 (HBx.out.below hk2 hWs)
  by_cases hneg2 : r2 < 0
  · go_wp2_with fail
    go_ret
    exact ⟨rfl, HB0.out.trans (hk2.mono HB0.out.size)⟩
  have HM1 : Hid (m1 ≤ 1048576) := Lib.hid (by omega)
  obtain ⟨vb, hvb⟩ : ∃ vb, wyV x.states.length x.steps z0 ts1 = vb := ⟨_, rfl⟩
  obtain ⟨q, hq⟩ : ∃ q, wyQ x.states.length x.steps z0 = q := ⟨_, rfl⟩
  have HSp := Lib.hid (fun (u : Value) (y : World) (hu : SysAt y y.heap.size u x) (C1 : Option Addr) (e1 : Nat) (hc1 : TriAt y y.heap.size C1 m1 ts1) => sWay_any u x z0 C1 m1 e1 ts1 y hu HWt.out hc1 HM1.out)
  simp only [hvb, hq] at HSp
  have HIm := Lib.hid (fun (u : Value) (y : World) (hu : SysAt y y.heap.size u x) (C1 : Option Addr) (e1 : Nat) (hc1 : TriAt y y.heap.size C1 m1 ts1) => iWay_any u x z0 C1 m1 e1 ts1 y hu HWt.out hc1 HM1.out)
  simp only [hvb, hq] at HIm
  clear hvb hq hr hr1 hr2
  go_wp2_with fail
  refine (toSys_any _ x _ ((HX.out.below hk2).wide hk2.size) HWt.out).mono ?_
  rintro e w3 ⟨v3, rfl, ho3, hb3⟩
  have hk3 := hk2.trans (hb3.mono hk2.size)
  have hu := ho3.at
  clear x0 x1 
  obtain ⟨x0, x1⟩ := box2 (HBx.out.below hk3 hWs)
  go_wp2_with fail
  refine (toA3S_any B1 m1 d1 ts1 _ ((HS1.out.below hk3).wide hk3.size) HM1.out).mono ?_
  rintro e w4 ⟨rfl, hrow4, hb4⟩
  have hk4 := hk3.trans (hb4.mono hk3.size)
  have hu := hu.on hb4
  have hi1 := tri_rowN HS1.out.len hrow4
  clear x0 x1
  obtain ⟨x0, x1⟩ := box2 (HBx.out.below hk4 hWs)
  go_wp2_with fail
  refine (HSp.out _ _ hu _ _ hi1).mono ?_
  rintro e w5 ⟨rfl, hb5⟩
  have hk5 := hk4.trans (hb5.mono hk4.size)
  clear x0 x1 hu hi1
  obtain ⟨x0, x1⟩ := box2 (HBx.out.below hk5 hWs)
  go_wp2_with fail
  refine (toSys_any _ x _ ((HX.out.below hk5).wide hk5.size) HWt.out).mono ?_
  rintro e w6 ⟨v6, rfl, ho6, hb6⟩
  have hk6 := hk5.trans (hb6.mono hk5.size)
  have HO6 := Lib.hid ho6.at
  obtain ⟨g1, g2, rfl, -⟩ := ho6
  clear x0 x1
  obtain ⟨x0, x1⟩ := box2 (HBx.out.below hk6 hWs)
  go_wp2_with fail
  have hBy := BoxN.new w6 #[.slice (some ⟨g1, 0, none⟩) x.states.length x.states.length, .slice (some ⟨g2, 0, none⟩) x.steps.length x.steps.length] 32
  have hb7 := (Below.refl w6.heap.size w6).alloc (Nat.le_refl _) (.cells #[.slice (some ⟨g1, 0, none⟩) x.states.length x.states.length, .slice (some ⟨g2, 0, none⟩) x.steps.length x.steps.length] 32)
  obtain ⟨w7, hw7⟩ : ∃ w7, w6.alloc (.cells #[.slice (some ⟨g1, 0, none⟩) x.states.length x.states.length, .slice (some ⟨g2, 0, none⟩) x.steps.length x.steps.length] 32) = w7 := ⟨_, rfl⟩
  rw [hw7] at hBy hb7 ⊢
  have HBy7 := Lib.hid hBy
  have hs7 : w6.heap.size < w7.heap.size := hBy.lt
  have hk7 := hk6.trans (hb7.mono hk6.size)
  have HU7 := Lib.hid (HO6.out.on hb7)
  clear hw7 hBy x0 x1
  obtain ⟨x0, x1⟩ := box2 (HBx.out.below hk7 hWs)
  obtain ⟨y0, y1⟩ := box2 HBy7.out
  try go_wp2_with fail
  refine (toA3S_any B1 m1 d1 ts1 _ ((HS1.out.below hk7).wide hk7.size) HM1.out).mono ?_
  rintro e w8 ⟨rfl, hrow8, hb8⟩
  have hk8 := hk7.trans (hb8.mono hk7.size)
  have HU8 := Lib.hid (HU7.out.on hb8)
  have HBy8 := Lib.hid (HBy7.out.below hb8 hs7)
  have hs8 : w6.heap.size < w8.heap.size := Nat.lt_of_lt_of_le hs7 hb8.size
  have HI1 := Lib.hid (tri_rowN HS1.out.len hrow8)
  clear x0 x1 y0 y1 hrow8
  obtain ⟨x0, x1⟩ := box2 (HBx.out.below hk8 hWs)
  obtain ⟨y0, y1⟩ := box2 HBy8.out
  go_wp2_with fail
  refine (HIm.out _ _ HU8.out _ _ HI1.out).mono ?_
  rintro e w9 ⟨rfl, hb9⟩
  have hk9 := hk8.trans (hb9.mono hk8.size)
  have HU9 := Lib.hid (HU8.out.on hb9)
  have HBy9 := Lib.hid (HBy8.out.below hb9 hs8)
  have hs9 : w6.heap.size < w9.heap.size := Nat.lt_of_lt_of_le hs8 hb9.size
  have HI1 := Lib.hid (HI1.out.on hb9)
  clear x0 x1 y0 y1
  obtain ⟨x0, x1⟩ := box2 (HBx.out.below hk9 hWs)
  obtain ⟨y0, y1⟩ := box2 HBy9.out
  go_wp2_with fail
  have hbD : Below w9.heap.size w9 w9.drew := (Below.refl _ _).drew
  go_region_held3 (fun w' => (w'.cell? ⟨w.heap.size, 0, none⟩ = some (.slice A1 n1 c1) ∧ w'.cell? ⟨w.heap.size, 1, none⟩ = some (.slice A2 n2 c2)) ∧ (w'.cell? ⟨w6.heap.size, 0, none⟩ = some (.slice (some ⟨g1, 0, none⟩) x.states.length x.states.length) ∧ w'.cell? ⟨w6.heap.size, 1, none⟩ = some (.slice (some ⟨g2, 0, none⟩) x.steps.length x.steps.length))) (first | exact ⟨box2 (HBx.out.below hk11 hWs), box2 (HBy10.out.below hb11 hs10)⟩ | exact ⟨box2 (HBx.out.below hk10 hWs), box2 HBy10.out⟩ | exact ⟨box2 (HBx.out.below hk9.drew hWs), box2 (HBy9.out.below hbD hs9)⟩)
    (first
     | (go_at_call 18; refine (toSys_any _ x _ ((HX.out.below hk9.drew).wide hk9.drew.size) HWt.out).mono ?_; rintro e w10 ⟨v10, rfl, ho10, hb10⟩; have hk10 := hk9.drew.trans (hb10.mono hk9.drew.size); have hbb10 := hbD.trans (hb10.mono hbD.size); have HBy10 := Lib.hid (HBy9.out.below hbb10 hs9); have hs10 : w6.heap.size < w10.heap.size := Nat.lt_of_lt_of_le hs9 hbb10.size; have hxo10 := HU9.out.on hbb10)
     | (go_at_call 21; refine (eqSys_any _ _ x _ hxo10 ho10.at HXW.out HWt.out).mono ?_; rintro e w11 ⟨rfl, hb11⟩; have hk11 := hk10.trans (hb11.mono hk10.size)))
  have hb11x := hbb10.trans (hb11.mono hbb10.size)
  have HI1 := Lib.hid (HI1.out.on hb11x)
  clear x0 x1 y0 y1
  go_wp2_with fail
  refine (toA3S_any B1 m1 d1 ts1 _ ((HS1.out.below hk11).wide hk11.size) HM1.out).mono ?_
  rintro e w12 ⟨rfl, hrow12, hb12⟩
  have hk12 := hk11.trans (hb12.mono hk11.size)
  have hj1 := tri_rowN HS1.out.len hrow12
  go_wp2_with fail
  refine (eqA3S_any _ _ m1 _ _ ts1 _ _ _ (HI1.out.on hb12) hj1 (Nat.le_refl _) (Nat.le_refl _) hm1).mono ?_
  rintro e w13 ⟨rfl, hb13⟩
  have hk13 := hk12.trans (hb13.mono hk12.size)
  go_wp2_with fail
  go_ret
  exact ⟨rfl, HB0.out.trans (hk13.mono HB0.out.size)⟩

theorem own : ownKnob Try.prog.godebug = none := by kernel_rfl
theorem laidOut : laidOutB Try.prog = true := facts.laid

set_option maxRecDepth 100000 in
theorem lifted (os : Os) (started : os.Started) (H : Type) (enc : TypeId × Value → H) :
    ReturnsInHanded {} Try.checked os 3 .any (Rows.fnExactIsWaySpec.pre6 enc Try.prog Try.f3 Rows.fnExactIsWayRow.domain false) (Rows.fnExactIsWaySpec.post enc Try.prog Try.f3 false true false false) := by
  refine returnsInHanded_of_change (C := Try.checked) own started (by kernel_rfl) Try.func3
    (ChangeSpec.witness6 (enc := enc) (C := Try.checked) false ⟨#[], #[.agg #[.slice none 0 0, .slice none 0 0], .int .i64 0, .slice none 0 0], []⟩ 8 (by kernel_rfl) (by kernel_rfl) (by kernel_rfl) (by kernel_rfl)) ?_
  intro W base args ds gs before hval0 hW hcnd _
  have hval : ∀ (j : Nat) t v, Try.f3.params[j]? = some t → args[j]? = some v → Value.okWide Try.prog W .any base t v := hval0
  have hW' := hW
  obtain ⟨p, q, hA0, hV, rfl, hfz, hnd⟩ := hW
  have hA : DataW.TrodAll enc Try.prog W 0 (fun _ => true) true Try.f3.params.toList args.toList ds p := hA0
  rw [Try.params3] at hA hval
  obtain ⟨v0, vs0, d0, ds0, p0, q0, hargs, rfl, rfl, h0, r0⟩ := trodAll_cons hA
  obtain ⟨v1, vs1, d1, ds1, p1, q1, rfl, rfl, rfl, h1, r1⟩ := trodAll_cons r0
  obtain ⟨v2, vs2, d2, ds2, p2, q2, rfl, rfl, rfl, h2, r2⟩ := trodAll_cons r1
  obtain ⟨rfl, rfl, rfl⟩ := trodAll_nil r2
  obtain rfl : args = #[v0, v1, v2] := by cases args; simp_all
  obtain ⟨rfl, rfl⟩ := trodVars_none hV
  have k0 := h0
  have lt0 : ∀ x ∈ p0, x.block < W.heap.size := by obtain ⟨m, hm⟩ := k0; exact DataW.trod_lt m _ _ _ hm
  obtain ⟨b0, s0, w0⟩ := open_sys (hval 0 25 v0 rfl rfl) h0 lt0
  obtain ⟨a1, rfl, rfl, rfl, w1⟩ := open_int Try.underlying3 (hval 1 3 v1 rfl rfl) h1
  have k2 := h2
  have lt2 : ∀ x ∈ p2, x.block < W.heap.size := by obtain ⟨m, hm⟩ := k2; exact DataW.trod_lt m _ _ _ hm
  obtain ⟨A2, n2, c2, ts2, rfl, s2, w2⟩ := open_tris (hval 2 23 v2 rfl rfl) h2 lt2
  clear hA0 hval0
  refine (walk v0 b0 a1 A2 n2 c2 ts2 W s0 w0 w1 s2 w2).mono fun e W' ⟨he, bel⟩ => ?_
  subst he
  exact ⟨_, rfl, _, _, _, [], _, [], hW', trodAll_mk1 (shut_bool Try.underlying4 _), (trodAll_cons_mk (Below.trod laidOut (by kernel_rfl) (of_decide_eq_true (by kernel_rfl)) k0 bel lt0) (trodAll_cons_mk (shut_int Try.underlying3 w1) (trodAll_cons_mk (Below.trod laidOut (by kernel_rfl) (of_decide_eq_true (by kernel_rfl)) k2 bel lt2) trodAll_mk0))), rfl, bel.frame _, fun h => by cases h⟩

theorem closed : joinedFacts Try.checked.prog 3 Try.f3 Rows.fnExactIsWaySpec Rows.fnExactIsWayRow = true := by
  unfold joinedFacts
  rw [facts.laid, facts.maps, facts.heard, facts.enter, facts.lifts, facts.make, facts.keys]
  kernel_rfl

theorem over : Rows.fnExactIsWayRow.holds Try.pinned (OpenSpec.ofChange Rows.fnExactIsWaySpec) :=
  OpenClaim.holds_of_wide 3 Try.f3 rfl rfl rfl rfl rfl rfl rfl ⟨rfl, rfl, rfl, rfl, rfl⟩ rfl rfl rfl rfl rfl (by kernel_rfl) Try.func3 closed
    (of_decide_eq_true (by kernel_rfl)) (by unfold Func.isWrapper; first | (rw [if_pos (by decide +kernel)]; kernel_rfl) | (rw [if_neg (by decide +kernel)]; exact ⟨rfl, rfl⟩))
    (fun os started H enc _ => lifted os started H enc)

theorem proved : Rows.FnExactIsWaySaid := over
#print axioms proved
end Go.Proofs.Ytlpgldejmdiceaa.fnExactIsWay
