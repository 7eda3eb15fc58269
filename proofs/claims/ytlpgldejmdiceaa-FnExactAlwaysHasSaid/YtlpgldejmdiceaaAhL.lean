/- FnExactAlwaysHas: for every System and all other arguments, impl's function answers as spec's does and leaves them as they were. No condition. -/
import Derived.Test.YtlpgldejmdiceaaRcf
import Derived.Test.YtlpgldejmdiceaaSyq
import Derived.Deep.RegionHeld3
namespace Go.Proofs.Ytlpgldejmdiceaa.fnExactAlwaysHas
open kit bg opn sig isig hc only hb ht gd cf lawb hi syx sya syh syi syc syg syq syz rcf
open Go.ChangeShapes Go.WideShapes Go.ChangeAt Go.RowKit
open Go.ChangeMaps (open_string shut_string)
set_option linter.unusedVariables false
set_option linter.unusedSimpArgs false

set_option maxRecDepth 20000 in
set_option maxHeartbeats 6400000 in
theorem walk (v : Value) (x : Sysm) (z0 : Int) (B1 : Option Addr) (m1 d1 : Nat) (zs1 : List Int) (w : World) (hv : SysAt w w.heap.size v x) (hvw : SysW x) (hz0 : (Lit.int .i64 z0).wf = true) (hs1 : IntsAt w w.heap.size B1 m1 zs1) (hm1 : m1 ≤ maxLen) (hzw1 : ∀ z ∈ zs1, (Lit.int .i64 z).wf = true) :
    Calls Try.prog 7 #[v, .int .i64 z0, .slice B1 m1 d1] w fun e w' => e = .returned (.bool true) ∧ Below w.heap.size w w' := by
  obtain ⟨A1, n1, c1, A2, n2, c2, rfl, h1, h2⟩ := hv
  have HBx := Lib.hid (BoxN.new w #[.slice A1 n1 c1, .slice A2 n2 c2] 25)
  have HB0 := Lib.hid ((Below.refl w.heap.size w).alloc (Nat.le_refl _) (.cells #[.slice A1 n1 c1, .slice A2 n2 c2] 25))
  obtain ⟨W, hW⟩ : ∃ W, w.alloc (.cells #[.slice A1 n1 c1, .slice A2 n2 c2] 25) = W := ⟨_, rfl⟩
  rw [hW] at HBx HB0
  have HWq := Lib.hid hW
  have hWs : w.heap.size < W.heap.size := HBx.out.lt
  have HX : Hid (SysAt W W.heap.size (.agg #[.slice A1 n1 c1, .slice A2 n2 c2]) x) := Lib.hid (((show SysAt w w.heap.size _ x from ⟨A1, n1, c1, A2, n2, c2, rfl, h1, h2⟩).below HB0.out).wide HB0.out.size)
  have HXW := Lib.hid hvw
  have HS1 := Lib.hid ((hs1.below HB0.out).wide HB0.out.size)
  have hmm1 := hm1
  unfold maxLen at hmm1
  obtain ⟨x0, x1⟩ := box2 HBx.out
  clear hW h1 h2 hvw hs1 hzw1
  by_cases hbig1 : 1048576 < m1
  · have hbi1 : (1048576 : Int) < (m1 : Int) := by omega
    go_enter Try.func7, Try.ntmps7
    go_wp2_with fail
    try rw [HWq.out]
    try go_wp2_with fail
    go_ret
    exact ⟨rfl, by first | exact HB0.out | (rw [HWq.out]; exact HB0.out)⟩
  have hbi1 : ¬ (1048576 : Int) < (m1 : Int) := by omega
  go_enter Try.func7, Try.ntmps7
  go_wp2_with fail
  rw [HWq.out]
  try go_wp2_with fail
  refine (szSys_any _ x 1048576 W HX.out (by omega) (by omega) HXW.out).mono ?_
  rintro e w1 ⟨r, rfl, hr, hr1, hr2, hk1⟩
  clear x0 x1
  obtain ⟨x0, x1⟩ := box2 (HBx.out.below hk1 hWs)
  by_cases hneg : r < 0
  · go_wp2_with fail
    go_ret
    exact ⟨rfl, HB0.out.trans (hk1.mono HB0.out.size)⟩
  have HWt : Hid (sysWt x ≤ 1048576) := Lib.hid (by omega)
  have HM1 : Hid (m1 ≤ 1048576) := Lib.hid (by omega)
  obtain ⟨vb, hvb⟩ : ∃ vb, ahV x.states.length x.steps z0 zs1 = vb := ⟨_, rfl⟩
  obtain ⟨q, hq⟩ : ∃ q, ahQ x.states.length x.steps z0 zs1 = q := ⟨_, rfl⟩
  have HSp := Lib.hid (fun (u : Value) (y : World) (hu : SysAt y y.heap.size u x) (C1 : Option Addr) (e1 : Nat) (hc1 : IntsAt y y.heap.size C1 m1 zs1) => sAh_any u x z0 C1 m1 e1 zs1 y hu HWt.out hc1 HM1.out)
  simp only [hvb, hq] at HSp
  have HIm := Lib.hid (fun (u : Value) (y : World) (hu : SysAt y y.heap.size u x) (C1 : Option Addr) (e1 : Nat) (hc1 : IntsAt y y.heap.size C1 m1 zs1) (he1 : e1 = m1) (hcap : CapS u) => iAh_any u x z0 C1 m1 e1 zs1 y hu HWt.out hc1 HM1.out he1 hcap)
  simp only [hvb, hq] at HIm
  clear hvb hq hr hr1 hr2
  go_wp2_with fail
  refine (toSys_any _ x _ ((HX.out.below hk1).wide hk1.size) HWt.out).mono ?_
  rintro e w2 ⟨v2, rfl, ho2, hb2⟩
  have hk2 := hk1.trans (hb2.mono hk1.size)
  have hu := ho2.at
  clear x0 x1 
  obtain ⟨x0, x1⟩ := box2 (HBx.out.below hk2 hWs)
  go_wp2_with fail
  refine (toIS_any B1 m1 d1 zs1 _ ((HS1.out.below hk2).wide hk2.size) HM1.out).mono ?_
  rintro e w3 ⟨rfl, hrow3, hb3⟩
  have hk3 := hk2.trans (hb3.mono hk2.size)
  have hu := hu.on hb3
  have hi1 := ints_row HS1.out.len hrow3
  clear x0 x1
  obtain ⟨x0, x1⟩ := box2 (HBx.out.below hk3 hWs)
  go_wp2_with fail
  refine (HSp.out _ _ hu _ _ hi1).mono ?_
  rintro e w4 ⟨rfl, hb4⟩
  have hk4 := hk3.trans (hb4.mono hk3.size)
  clear x0 x1 hu hi1
  obtain ⟨x0, x1⟩ := box2 (HBx.out.below hk4 hWs)
  go_wp2_with fail
  refine (toSys_any _ x _ ((HX.out.below hk4).wide hk4.size) HWt.out).mono ?_
  rintro e w5 ⟨v5, rfl, ho5, hb5⟩
  have hk5 := hk4.trans (hb5.mono hk4.size)
  have HO5 := Lib.hid ho5.at
  have HCap := Lib.hid (CapS.of_own ho5)
  obtain ⟨g1, g2, rfl, -⟩ := ho5
  clear x0 x1
  obtain ⟨x0, x1⟩ := box2 (HBx.out.below hk5 hWs)
  go_wp2_with fail
  have hBy := BoxN.new w5 #[.slice (some ⟨g1, 0, none⟩) x.states.length x.states.length, .slice (some ⟨g2, 0, none⟩) x.steps.length x.steps.length] 32
  have hb6 := (Below.refl w5.heap.size w5).alloc (Nat.le_refl _) (.cells #[.slice (some ⟨g1, 0, none⟩) x.states.length x.states.length, .slice (some ⟨g2, 0, none⟩) x.steps.length x.steps.length] 32)
  obtain ⟨w6, hw6⟩ : ∃ w6, w5.alloc (.cells #[.slice (some ⟨g1, 0, none⟩) x.states.length x.states.length, .slice (some ⟨g2, 0, none⟩) x.steps.length x.steps.length] 32) = w6 := ⟨_, rfl⟩
  rw [hw6] at hBy hb6 ⊢
  have HBy6 := Lib.hid hBy
  have hs6 : w5.heap.size < w6.heap.size := hBy.lt
  have hk6 := hk5.trans (hb6.mono hk5.size)
  have HU6 := Lib.hid (HO5.out.on hb6)
  clear hw6 hBy x0 x1
  obtain ⟨x0, x1⟩ := box2 (HBx.out.below hk6 hWs)
  obtain ⟨y0, y1⟩ := box2 HBy6.out
  try go_wp2_with fail
  refine (toIS_any B1 m1 d1 zs1 _ ((HS1.out.below hk6).wide hk6.size) HM1.out).mono ?_
  rintro e w7 ⟨rfl, hrow7, hb7⟩
  have hk7 := hk6.trans (hb7.mono hk6.size)
  have HU7 := Lib.hid (HU6.out.on hb7)
  have HBy7 := Lib.hid (HBy6.out.below hb7 hs6)
  have hs7 : w5.heap.size < w7.heap.size := Nat.lt_of_lt_of_le hs6 hb7.size
  have HI1 := Lib.hid (ints_row HS1.out.len hrow7)
  clear x0 x1 y0 y1 hrow7
  obtain ⟨x0, x1⟩ := box2 (HBx.out.below hk7 hWs)
  obtain ⟨y0, y1⟩ := box2 HBy7.out
  go_wp2_with fail
  refine (HIm.out _ _ HU7.out _ _ HI1.out rfl HCap.out).mono ?_
  rintro e w8 ⟨rfl, hb8⟩
  have hk8 := hk7.trans (hb8.mono hk7.size)
  have HU8 := Lib.hid (HU7.out.on hb8)
  have HBy8 := Lib.hid (HBy7.out.below hb8 hs7)
  have hs8 : w5.heap.size < w8.heap.size := Nat.lt_of_lt_of_le hs7 hb8.size
  have HI1 := Lib.hid ((HI1.out.below hb8).wide hb8.size)
  clear x0 x1 y0 y1
  obtain ⟨x0, x1⟩ := box2 (HBx.out.below hk8 hWs)
  obtain ⟨y0, y1⟩ := box2 HBy8.out
  go_wp2_with fail
  have hbD : Below w8.heap.size w8 w8.drew := (Below.refl _ _).drew
  go_region_held3 (fun w' => (w'.cell? ⟨w.heap.size, 0, none⟩ = some (.slice A1 n1 c1) ∧ w'.cell? ⟨w.heap.size, 1, none⟩ = some (.slice A2 n2 c2)) ∧ (w'.cell? ⟨w5.heap.size, 0, none⟩ = some (.slice (some ⟨g1, 0, none⟩) x.states.length x.states.length) ∧ w'.cell? ⟨w5.heap.size, 1, none⟩ = some (.slice (some ⟨g2, 0, none⟩) x.steps.length x.steps.length))) (first | exact ⟨box2 (HBx.out.below hk10 hWs), box2 (HBy9.out.below hb10 hs9)⟩ | exact ⟨box2 (HBx.out.below hk9 hWs), box2 HBy9.out⟩ | exact ⟨box2 (HBx.out.below hk8.drew hWs), box2 (HBy8.out.below hbD hs8)⟩)
    (first
     | (go_at_call 18; refine (toSys_any _ x _ ((HX.out.below hk8.drew).wide hk8.drew.size) HWt.out).mono ?_; rintro e w9 ⟨v9, rfl, ho9, hb9⟩; have hk9 := hk8.drew.trans (hb9.mono hk8.drew.size); have hbb9 := hbD.trans (hb9.mono hbD.size); have HBy9 := Lib.hid (HBy8.out.below hbb9 hs8); have hs9 : w5.heap.size < w9.heap.size := Nat.lt_of_lt_of_le hs8 hbb9.size; have hxo9 := HU8.out.on hbb9)
     | (go_at_call 21; refine (eqSys_any _ _ x _ hxo9 ho9.at HXW.out HWt.out).mono ?_; rintro e w10 ⟨rfl, hb10⟩; have hk10 := hk9.trans (hb10.mono hk9.size)))
  have hb10x := hbb9.trans (hb10.mono hbb9.size)
  have HI1 := Lib.hid ((HI1.out.below hb10x).wide hb10x.size)
  clear x0 x1 y0 y1
  go_wp2_with fail
  refine (toIS_any B1 m1 d1 zs1 _ ((HS1.out.below hk10).wide hk10.size) HM1.out).mono ?_
  rintro e w11 ⟨rfl, hrow11, hb11⟩
  have hk11 := hk10.trans (hb11.mono hk10.size)
  have hj1 := ints_row HS1.out.len hrow11
  go_wp2_with fail
  refine (eqIS_any _ _ m1 _ _ zs1 _ _ _ ((HI1.out.below hb11).wide hb11.size) hj1 hm1).mono ?_
  rintro e w12 ⟨rfl, hd12⟩
  have hb12 := hd12.below w11.heap.size
  have hk12 := hk11.trans (hb12.mono hk11.size)
  go_wp2_with fail
  go_ret
  exact ⟨rfl, HB0.out.trans (hk12.mono HB0.out.size)⟩

theorem own : ownKnob Try.prog.godebug = none := by kernel_rfl
theorem laidOut : laidOutB Try.prog = true := facts.laid

set_option maxRecDepth 100000 in
theorem lifted (os : Os) (started : os.Started) (H : Type) (enc : TypeId × Value → H) :
    ReturnsInHanded {} Try.checked os 7 .any (Rows.fnExactAlwaysHasSpec.pre6 enc Try.prog Try.f7 Rows.fnExactAlwaysHasRow.domain false) (Rows.fnExactAlwaysHasSpec.post enc Try.prog Try.f7 false true false false) := by
  refine returnsInHanded_of_change (C := Try.checked) own started (by kernel_rfl) Try.func7
    (ChangeSpec.witness6 (enc := enc) (C := Try.checked) false ⟨#[], #[.agg #[.slice none 0 0, .slice none 0 0], .int .i64 0, .slice none 0 0], []⟩ 8 (by kernel_rfl) (by kernel_rfl) (by kernel_rfl) (by kernel_rfl)) ?_
  intro W base args ds gs before hval0 hW hcnd _
  have hval : ∀ (j : Nat) t v, Try.f7.params[j]? = some t → args[j]? = some v → Value.okWide Try.prog W .any base t v := hval0
  have hW' := hW
  obtain ⟨p, q, hA0, hV, rfl, hfz, hnd⟩ := hW
  have hA : DataW.TrodAll enc Try.prog W 0 (fun _ => true) true Try.f7.params.toList args.toList ds p := hA0
  rw [Try.params7] at hA hval
  obtain ⟨v0, vs0, d0, ds0, p0, q0, hargs, rfl, rfl, h0, r0⟩ := trodAll_cons hA
  obtain ⟨v1, vs1, d1, ds1, p1, q1, rfl, rfl, rfl, h1, r1⟩ := trodAll_cons r0
  obtain ⟨v2, vs2, d2, ds2, p2, q2, rfl, rfl, rfl, h2, r2⟩ := trodAll_cons r1
  obtain ⟨rfl, rfl, rfl⟩ := trodAll_nil r2
  obtain rfl : args = #[v0, v1, v2] := by cases args; simp_all
  obtain ⟨rfl, rfl⟩ := trodVars_none hV
  have k0 := h0
  have lt0 : ∀ x ∈ p0, x.block < W.heap.size := by obtain ⟨m, hm⟩ := k0; exact DataW.trod_lt m _ _ _ hm
  obtain ⟨b0, s0, w0⟩ := open_sys (hval 0 25 v0 rfl rfl) h0 lt0
  obtain ⟨a1, rfl, rfl, rfl, w1⟩ := open_int Try.underlying3 (hval 1 3 v1 rfl rfl) h1
  have k2 := h2
  have lt2 : ∀ x ∈ p2, x.block < W.heap.size := by obtain ⟨m, hm⟩ := k2; exact DataW.trod_lt m _ _ _ hm
  obtain ⟨A2, n2, c2, rfl⟩ := okWide_slice Try.underlying38 (hval 2 38 v2 rfl rfl)
  obtain ⟨zs2, s2, b2, w2⟩ := sr_ints Try.underlying38 Try.underlying3 (by kernel_rfl) h2 lt2
  clear hA0 hval0
  refine (walk v0 b0 a1 A2 n2 c2 zs2 W s0 w0 w1 s2 b2 w2).mono fun e W' ⟨he, bel⟩ => ?_
  subst he
  exact ⟨_, rfl, _, _, _, [], _, [], hW', trodAll_mk1 (shut_bool Try.underlying4 _), (trodAll_cons_mk (Below.trod laidOut (by kernel_rfl) (of_decide_eq_true (by kernel_rfl)) k0 bel lt0) (trodAll_cons_mk (shut_int Try.underlying3 w1) (trodAll_cons_mk (Below.trod laidOut (by kernel_rfl) (of_decide_eq_true (by kernel_rfl)) k2 bel lt2) trodAll_mk0))), rfl, bel.frame _, fun h => by cases h⟩

theorem closed : joinedFacts Try.checked.prog 7 Try.f7 Rows.fnExactAlwaysHasSpec Rows.fnExactAlwaysHasRow = true := by
  unfold joinedFacts
  rw [facts.laid, facts.maps, facts.heard, facts.enter, facts.lifts, facts.make, facts.keys]
  kernel_rfl

theorem over : Rows.fnExactAlwaysHasRow.holds Try.pinned (OpenSpec.ofChange Rows.fnExactAlwaysHasSpec) :=
  OpenClaim.holds_of_wide 7 Try.f7 rfl rfl rfl rfl rfl rfl rfl ⟨rfl, rfl, rfl, rfl, rfl⟩ rfl rfl rfl rfl rfl (by kernel_rfl) Try.func7 closed
    (of_decide_eq_true (by kernel_rfl)) (by unfold Func.isWrapper; first | (rw [if_pos (by decide +kernel)]; kernel_rfl) | (rw [if_neg (by decide +kernel)]; exact ⟨rfl, rfl⟩))
    (fun os started H enc _ => lifted os started H enc)

theorem proved : Rows.FnExactAlwaysHasSaid := over
#print axioms proved
end Go.Proofs.Ytlpgldejmdiceaa.fnExactAlwaysHas
