/- FnExactEndStates: for every System and all other arguments, impl's function answers as spec's does and leaves them as they were. No condition. -/
import Derived.Test.YtlpgldejmdiceaaEds
import Derived.Test.YtlpgldejmdiceaaSyq
import Derived.Test.YtlpgldejmdiceaaSys
import Derived.Deep.RegionHeld3
namespace Go.Proofs.Ytlpgldejmdiceaa.fnExactEndStates
open kit bg opn strs eqs inn marks sig isig hc only hb ht gd cf lawb hi syx sya syh syi syc syg rs rt br sys syq syz bgs eds
open Go.ChangeShapes Go.WideShapes Go.ChangeAt Go.RowKit
open Go.ChangeMaps (open_string shut_string)
set_option linter.unusedVariables false
set_option linter.unusedSimpArgs false

set_option maxRecDepth 20000 in
set_option maxHeartbeats 6400000 in
theorem walk (v : Value) (x : Sysm) (w : World) (hv : SysAt w w.heap.size v x) (hvw : SysW x) :
    Calls Try.prog 10 #[v] w fun e w' => e = .returned (.bool true) ∧ Below w.heap.size w w' := by
  obtain ⟨A1, n1, c1, A2, n2, c2, rfl, h1, h2⟩ := hv
  have HBx := Lib.hid (BoxN.new w #[.slice A1 n1 c1, .slice A2 n2 c2] 25)
  have HB0 := Lib.hid ((Below.refl w.heap.size w).alloc (Nat.le_refl _) (.cells #[.slice A1 n1 c1, .slice A2 n2 c2] 25))
  obtain ⟨W, hW⟩ : ∃ W, w.alloc (.cells #[.slice A1 n1 c1, .slice A2 n2 c2] 25) = W := ⟨_, rfl⟩
  rw [hW] at HBx HB0
  have HWq := Lib.hid hW
  have hWs : w.heap.size < W.heap.size := HBx.out.lt
  have HX : Hid (SysAt W W.heap.size (.agg #[.slice A1 n1 c1, .slice A2 n2 c2]) x) := Lib.hid (((show SysAt w w.heap.size _ x from ⟨A1, n1, c1, A2, n2, c2, rfl, h1, h2⟩).below HB0.out).wide HB0.out.size)
  have HXW := Lib.hid hvw
  obtain ⟨x0, x1⟩ := box2 HBx.out
  clear hW h1 h2 hvw 
  go_enter Try.func10, Try.ntmps10
  go_wp2_with fail
  rw [HWq.out]
  try go_wp2_with fail
  refine (szSys_any _ x 1048576 W HX.out (by omega) (by omega) HXW.out).mono ?_
  rintro e w1 ⟨r, rfl, hr, hr1, hr2, hk1⟩
  clear x0 x1
  obtain ⟨x0, x1⟩ := box2 (HBx.out.below hk1 hWs)
  by_cases hneg : r < 0
  · go_wp2_with fail
    go_ret
    exact ⟨rfl, HB0.out.trans (hk1.mono HB0.out.size)⟩
  have HWt : Hid (sysWt x ≤ 1048576) := Lib.hid (by omega)
  obtain ⟨vb, hvb⟩ : ∃ vb, esA x.states.length x.steps = vb := ⟨_, rfl⟩
  obtain ⟨q, hq⟩ : ∃ q, esQ x.states.length x.steps = q := ⟨_, rfl⟩
  have HN := Lib.hid (show vb.length ≤ 1048576 by rw [← hvb]; exact Nat.le_trans esA_len (by have h1 := HWt.out; unfold sysWt bgsWt at h1; omega))
  have HSp := Lib.hid (fun (u : Value) (y : World) (hu : SysAt y y.heap.size u x) => sEs_any u x y hu HWt.out)
  simp only [hvb, hq] at HSp
  have HIm := Lib.hid (fun (u : Value) (y : World) (hu : SysAt y y.heap.size u x) (hcap : CapS u) => iEs_any u x y hu HWt.out hcap)
  simp only [hvb, hq] at HIm
  clear hvb hq hr hr1 hr2
  go_wp2_with fail
  refine (toSys_any _ x _ ((HX.out.below hk1).wide hk1.size) HWt.out).mono ?_
  rintro e w2 ⟨v2, rfl, ho2, hb2⟩
  have hk2 := hk1.trans (hb2.mono hk1.size)
  have hu := ho2.at
  clear x0 x1
  obtain ⟨x0, x1⟩ := box2 (HBx.out.below hk2 hWs)
  go_wp2_with fail
  refine (HSp.out _ _ hu).mono ?_
  rintro e w3 ⟨r903, rfl, hR3, hb3⟩
  have hk3 := hk2.trans (hb3.mono hk2.size)
  clear x0 x1 hu
  obtain ⟨x0, x1⟩ := box2 (HBx.out.below hk3 hWs)
  have HR_3 := Lib.hid (hR3.wide (Nat.zero_le _) (Nat.le_refl _))
  clear hR3
  go_wp2_with fail
  refine (toSys_any _ x _ ((HX.out.below hk3).wide hk3.size) HWt.out).mono ?_
  rintro e w4 ⟨v4, rfl, ho4, hb4⟩
  have hk4 := hk3.trans (hb4.mono hk3.size)
  have HR_4 := Lib.hid (HR_3.out.on hb4)
  clear HR_3
  have HU_4 := Lib.hid (ho4.at)
  have HSI_4 := Lib.hid (SysIn.of_own ho4)
  have HCap := Lib.hid (CapS.of_own ho4)
  obtain ⟨g1, g2, rfl, -⟩ := ho4
  clear x0 x1
  obtain ⟨x0, x1⟩ := box2 (HBx.out.below hk4 hWs)
  have HzS := Lib.hid hb4.size
  go_wp2_with fail
  have hBy := BoxN.new w4 #[.slice (some ⟨g1, 0, none⟩) x.states.length x.states.length, .slice (some ⟨g2, 0, none⟩) x.steps.length x.steps.length] 32
  have hb5 := (Below.refl w4.heap.size w4).alloc (Nat.le_refl _) (.cells #[.slice (some ⟨g1, 0, none⟩) x.states.length x.states.length, .slice (some ⟨g2, 0, none⟩) x.steps.length x.steps.length] 32)
  obtain ⟨w5, hw5⟩ : ∃ w5, w4.alloc (.cells #[.slice (some ⟨g1, 0, none⟩) x.states.length x.states.length, .slice (some ⟨g2, 0, none⟩) x.steps.length x.steps.length] 32) = w5 := ⟨_, rfl⟩
  rw [hw5] at hBy hb5 ⊢
  have hk5 := hk4.trans (hb5.mono hk4.size)
  have HR_5 := Lib.hid (HR_4.out.on hb5)
  clear HR_4
  have HU_5 := Lib.hid (HU_4.out.on hb5)
  clear HU_4
  have HSI_5 := Lib.hid (HSI_4.out.on hb5)
  clear HSI_4
  have HBy_5 := Lib.hid (hBy)
  have HzX_5 := Lib.hid (hb5.size)
  have hlX : w4.heap.size < w5.heap.size := hBy.lt
  have HzY_5 := Lib.hid (Nat.succ_le_of_lt hlX)
  clear hw5 hBy x0 x1 hlX
  obtain ⟨x0, x1⟩ := box2 (HBx.out.below hk5 hWs)
  obtain ⟨y0, y1⟩ := box2 HBy_5.out
  try go_wp2_with fail
  refine (HIm.out _ _ HU_5.out HCap.out).mono ?_
  rintro e w6 ⟨r906, rfl, hR6, hb6⟩
  have hk6 := hk5.trans (hb6.mono hk5.size)
  have HlX := Lib.hid HzX_5.out
  clear HzX_5
  clear HzY_5
  have HR_6 := Lib.hid (HR_5.out.on hb6)
  clear HR_5
  have HU_6 := Lib.hid (HU_5.out.on hb6)
  clear HU_5
  have HSI_6 := Lib.hid (HSI_5.out.on hb6)
  clear HSI_5
  have HBy_6 := Lib.hid (HBy_5.out.on hb6)
  clear HBy_5
  have HI_6 := Lib.hid (hR6)
  have HzP_6 := Lib.hid (hb6.size)
  have HzI_6 := Lib.hid (Nat.le_refl w6.heap.size)
  clear x0 x1 y0 y1 hR6
  obtain ⟨x0, x1⟩ := box2 (HBx.out.below hk6 hWs)
  obtain ⟨y0, y1⟩ := box2 HBy_6.out
  go_wp2_with fail
  refine (eqRI_any r906 r903 vb _ _ _ _ _ HI_6.out HR_6.out HN.out).mono ?_
  rintro e w7 ⟨rfl, hb7⟩
  have hk7 := hk6.trans (hb7.mono hk6.size)
  have HR_7 := Lib.hid (HR_6.out.on hb7)
  clear HR_6
  have HU_7 := Lib.hid (HU_6.out.on hb7)
  clear HU_6
  have HSI_7 := Lib.hid (HSI_6.out.on hb7)
  clear HSI_6
  have HBy_7 := Lib.hid (HBy_6.out.on hb7)
  clear HBy_6
  have HI_7 := Lib.hid (HI_6.out.on hb7)
  clear HI_6
  have HzP_7 := Lib.hid (Nat.le_trans HzP_6.out (hb7).size)
  clear HzP_6
  have HzI_7 := Lib.hid (Nat.le_trans HzI_6.out (hb7).size)
  clear HzI_6
  clear x0 x1 y0 y1
  obtain ⟨x0, x1⟩ := box2 (HBx.out.below hk7 hWs)
  obtain ⟨y0, y1⟩ := box2 HBy_7.out
  go_wp2_with fail
  have hbD : Below w7.heap.size w7 w7.drew := (Below.refl _ _).drew
  have hsy : w4.heap.size < w7.heap.size := HBy_7.out.lt
  go_region_held3 (fun w' => (w'.cell? ⟨w.heap.size, 0, none⟩ = some (.slice A1 n1 c1) ∧ w'.cell? ⟨w.heap.size, 1, none⟩ = some (.slice A2 n2 c2)) ∧ (w'.cell? ⟨w4.heap.size, 0, none⟩ = some (.slice (some ⟨g1, 0, none⟩) x.states.length x.states.length) ∧ w'.cell? ⟨w4.heap.size, 1, none⟩ = some (.slice (some ⟨g2, 0, none⟩) x.steps.length x.steps.length))) (first | exact ⟨box2 (HBx.out.below hk9 hWs), box2 (hBq8.below hb9 hsq8)⟩ | exact ⟨box2 (HBx.out.below hk8 hWs), box2 hBq8⟩ | exact ⟨box2 (HBx.out.below hk7.drew hWs), box2 (HBy_7.out.below hbD hsy)⟩)
    (first
     | (go_at_call 18; refine (toSys_any _ x _ ((HX.out.below hk7.drew).wide hk7.drew.size) HWt.out).mono ?_; rintro e w8 ⟨v8, rfl, ho8, hb8⟩; have hk8 := hk7.drew.trans (hb8.mono hk7.drew.size); have hbb8 := hbD.trans (hb8.mono hbD.size); have hBq8 := HBy_7.out.below hbb8 hsy; have hsq8 : w4.heap.size < w8.heap.size := Nat.lt_of_lt_of_le hsy hbb8.size; have hxo8 := HU_7.out.on hbb8)
     | (go_at_call 21; refine (eqSys_any _ _ x _ hxo8 ho8.at HXW.out HWt.out).mono ?_; rintro e w9 ⟨rfl, hb9⟩; have hk9 := hk8.trans (hb9.mono hk8.size)))
  have hb9x := hbb8.trans (hb9.mono hbb8.size)
  clear HU_7
  have HR_9 := Lib.hid (HR_7.out.on hb9x)
  clear HR_7
  have HSI_9 := Lib.hid (HSI_7.out.on hb9x)
  clear HSI_7
  have HBy_9 := Lib.hid (HBy_7.out.on hb9x)
  clear HBy_7
  have HI_9 := Lib.hid (HI_7.out.on hb9x)
  clear HI_7
  have HzP_9 := Lib.hid (Nat.le_trans HzP_7.out (hb9x).size)
  clear HzP_7
  have HzI_9 := Lib.hid (Nat.le_trans HzI_7.out (hb9x).size)
  clear HzI_7
  clear x0 x1 y0 y1 hsy hbD hBq8
  obtain ⟨x0, x1⟩ := box2 (HBx.out.below hk9 hWs)
  obtain ⟨y0, y1⟩ := box2 HBy_9.out
  have HzW := Lib.hid hk3.size
  have hcs : w3.heap.size ≤ w9.heap.size := Nat.le_trans HzS.out (Nat.le_trans HlX.out HzP_9.out)
  go_wp2_with fail
  refine (markSys_any _ x 1 _ _ _ HSI_9.out HWt.out (by omega) (by omega)).mono ?_
  rintro e w10 ⟨k10, rfl, hp10, hq10, hn10⟩
  clear HSI_9
  clear HBy_9
  have hk10 := hk9.trans ((hn10.below (hcs)).mono (HzW.out))
  have HR_10 := Lib.hid (HR_9.out.far hn10 (.inr (Nat.le_refl _)))
  clear HR_9
  have HI_10 := Lib.hid (HI_9.out.far hn10 (.inl HlX.out))
  clear HI_9
  have HzP_10 := Lib.hid (Nat.le_trans HzP_9.out hn10.size)
  clear HzP_9
  have HzI_10 := Lib.hid (Nat.le_trans HzI_9.out hn10.size)
  clear HzI_9
  clear x0 x1 y0 y1 hcs hn10
  obtain ⟨x0, x1⟩ := box2 (HBx.out.below hk10 hWs)
  have hK0 : 0 < k10 := hp10
  have hK1 : k10 ≤ 6400000 := hq10
  clear hp10 hq10
  have hKn : ¬ k10 < 0 := by omega
  go_wp2_with fail
  refine (eqRI_any r906 r903 vb _ _ _ _ _ HI_10.out HR_10.out HN.out).mono ?_
  rintro e w11 ⟨rfl, hb11⟩
  have hk11 := hk10.trans (hb11.mono hk10.size)
  have HR_11 := Lib.hid (HR_10.out.on hb11)
  clear HR_10
  have HI_11 := Lib.hid (HI_10.out.on hb11)
  clear HI_10
  have HzP_11 := Lib.hid (Nat.le_trans HzP_10.out (hb11).size)
  clear HzP_10
  have HzI_11 := Lib.hid (Nat.le_trans HzI_10.out (hb11).size)
  clear HzI_10
  clear x0 x1
  obtain ⟨x0, x1⟩ := box2 (HBx.out.below hk11 hWs)
  have hcs : w5.heap.size ≤ w11.heap.size := HzP_11.out
  have hcw : W.heap.size ≤ w5.heap.size := Nat.le_trans HzW.out (Nat.le_trans HzS.out HlX.out)
  obtain ⟨nn, hnn⟩ : ∃ nn, (vb.map (Value.int .i64)).length = nn := ⟨_, rfl⟩
  have hnn2 : nn ≤ 1048576 := by rw [← hnn]; simpa using HN.out
  go_wp2_with fail
  refine (markRI_any r906 _ 1 _ _ _ HI_11.out (by omega) (by omega) (by rw [hnn]; exact hnn2)).mono ?_
  rw [hnn]
  rintro e w12 ⟨rfl, hM12, hn12⟩
  clear HI_11
  have hk12 := hk11.trans ((hn12.below (hcs)).mono (hcw))
  have HR_12 := Lib.hid (HR_11.out.far hn12 (.inr (Nat.le_trans HzS.out HlX.out)))
  clear HR_11
  have HzP_12 := Lib.hid (Nat.le_trans HzP_11.out hn12.size)
  clear HzP_11
  have HzI_12 := Lib.hid (Nat.le_trans HzI_11.out hn12.size)
  clear HzI_11
  have HM_12 := Lib.hid (hM12)
  clear x0 x1 hcs hcw hM12 hn12 hnn
  obtain ⟨x0, x1⟩ := box2 (HBx.out.below hk12 hWs)
  have HNN := Lib.hid hnn2
  go_wp2_with fail
  refine (heldRI_any r906 nn 1 _ _ _ HM_12.out (by omega) (by omega) HNN.out).mono ?_
  rintro e w13 ⟨rfl, hb13⟩
  have hk13 := hk12.trans (hb13.mono hk12.size)
  have HR_13 := Lib.hid (HR_12.out.on hb13)
  clear HR_12
  have HzP_13 := Lib.hid (Nat.le_trans HzP_12.out (hb13).size)
  clear HzP_12
  have HzI_13 := Lib.hid (Nat.le_trans HzI_12.out (hb13).size)
  clear HzI_12
  have HM_13 := Lib.hid (HM_12.out.on hb13)
  clear HM_12
  clear x0 x1
  obtain ⟨x0, x1⟩ := box2 (HBx.out.below hk13 hWs)
  go_wp2_with fail
  refine (toSys_any _ x _ ((HX.out.below hk13).wide hk13.size) HWt.out).mono ?_
  rintro e w14 ⟨v14, rfl, ho14, hb14⟩
  have hk14 := hk13.trans (hb14.mono hk13.size)
  have hu := ho14.at
  have HCap := Lib.hid (CapS.of_own ho14)
  have HR_14 := Lib.hid (HR_13.out.on hb14)
  clear HR_13
  have HzP_14 := Lib.hid (Nat.le_trans HzP_13.out (hb14).size)
  clear HzP_13
  have HzI_14 := Lib.hid (Nat.le_trans HzI_13.out (hb14).size)
  clear HzI_13
  have HM_14 := Lib.hid (HM_13.out.on hb14)
  clear HM_13
  clear x0 x1
  obtain ⟨x0, x1⟩ := box2 (HBx.out.below hk14 hWs)
  go_wp2_with fail
  refine (HIm.out _ _ hu HCap.out).mono ?_
  rintro e w15 ⟨r915, rfl, hR15, hb15⟩
  have hk15 := hk14.trans (hb15.mono hk14.size)
  have HR_15 := Lib.hid (HR_14.out.on hb15)
  clear HR_14
  have HzP_15 := Lib.hid (Nat.le_trans HzP_14.out (hb15).size)
  clear HzP_14
  have HzI_15 := Lib.hid (Nat.le_trans HzI_14.out (hb15).size)
  clear HzI_14
  have HM_15 := Lib.hid (HM_14.out.on hb15)
  clear HM_14
  clear x0 x1 hu
  obtain ⟨x0, x1⟩ := box2 (HBx.out.below hk15 hWs)
  have HJ_15 := Lib.hid (hR15)
  clear hR15
  go_wp2_with fail
  refine (eqRI_any r915 r903 vb _ _ _ _ _ HJ_15.out HR_15.out HN.out).mono ?_
  rintro e w16 ⟨rfl, hb16⟩
  have hk16 := hk15.trans (hb16.mono hk15.size)
  have HR_16 := Lib.hid (HR_15.out.on hb16)
  clear HR_15
  have HzP_16 := Lib.hid (Nat.le_trans HzP_15.out (hb16).size)
  clear HzP_15
  have HzI_16 := Lib.hid (Nat.le_trans HzI_15.out (hb16).size)
  clear HzI_15
  have HM_16 := Lib.hid (HM_15.out.on hb16)
  clear HM_15
  have HJ_16 := Lib.hid (HJ_15.out.on hb16)
  clear HJ_15
  clear x0 x1
  obtain ⟨x0, x1⟩ := box2 (HBx.out.below hk16 hWs)
  go_wp2_with fail
  refine (heldRI_any r906 nn 1 _ _ _ HM_16.out (by omega) (by omega) HNN.out).mono ?_
  rintro e w17 ⟨rfl, hb17⟩
  have hk17 := hk16.trans (hb17.mono hk16.size)
  have HR_17 := Lib.hid (HR_16.out.on hb17)
  clear HR_16
  have HzP_17 := Lib.hid (Nat.le_trans HzP_16.out (hb17).size)
  clear HzP_16
  have HzI_17 := Lib.hid (Nat.le_trans HzI_16.out (hb17).size)
  clear HzI_16
  have HM_17 := Lib.hid (HM_16.out.on hb17)
  clear HM_16
  have HJ_17 := Lib.hid (HJ_16.out.on hb17)
  clear HJ_16
  clear x0 x1
  obtain ⟨x0, x1⟩ := box2 (HBx.out.below hk17 hWs)
  go_wp2_with fail
  go_ret
  exact ⟨rfl, HB0.out.trans (hk17.mono HB0.out.size)⟩

theorem own : ownKnob Try.prog.godebug = none := by kernel_rfl
theorem laidOut : laidOutB Try.prog = true := facts.laid

set_option maxRecDepth 100000 in
theorem lifted (os : Os) (started : os.Started) (H : Type) (enc : TypeId × Value → H) :
    ReturnsInHanded {} Try.checked os 10 .any (Rows.fnExactEndStatesSpec.pre6 enc Try.prog Try.f10 Rows.fnExactEndStatesRow.domain false) (Rows.fnExactEndStatesSpec.post enc Try.prog Try.f10 false true false false) := by
  refine returnsInHanded_of_change (C := Try.checked) own started (by kernel_rfl) Try.func10
    (ChangeSpec.witness6 (enc := enc) (C := Try.checked) false ⟨#[], #[.agg #[.slice none 0 0, .slice none 0 0]], []⟩ 8 (by kernel_rfl) (by kernel_rfl) (by kernel_rfl) (by kernel_rfl)) ?_
  intro W base args ds gs before hval0 hW hcnd _
  have hval : ∀ (j : Nat) t v, Try.f10.params[j]? = some t → args[j]? = some v → Value.okWide Try.prog W .any base t v := hval0
  have hW' := hW
  obtain ⟨p, q, hA0, hV, rfl, hfz, hnd⟩ := hW
  have hA : DataW.TrodAll enc Try.prog W 0 (fun _ => true) true Try.f10.params.toList args.toList ds p := hA0
  rw [Try.params10] at hA hval
  obtain ⟨v0, vs0, d0, ds0, p0, q0, hargs, rfl, rfl, h0, r0⟩ := trodAll_cons hA
  obtain ⟨rfl, rfl, rfl⟩ := trodAll_nil r0
  obtain rfl : args = #[v0] := by cases args; simp_all
  obtain ⟨rfl, rfl⟩ := trodVars_none hV
  have k0 := h0
  have lt0 : ∀ x ∈ p0, x.block < W.heap.size := by obtain ⟨m, hm⟩ := k0; exact DataW.trod_lt m _ _ _ hm
  obtain ⟨b0, s0, w0⟩ := open_sys (hval 0 25 v0 rfl rfl) h0 lt0
  clear hA0 hval0
  refine (walk v0 b0 W s0 w0).mono fun e W' ⟨he, bel⟩ => ?_
  subst he
  exact ⟨_, rfl, _, _, _, [], _, [], hW', trodAll_mk1 (shut_bool Try.underlying4 _), (trodAll_cons_mk (Below.trod laidOut (by kernel_rfl) (of_decide_eq_true (by kernel_rfl)) k0 bel lt0) trodAll_mk0), rfl, bel.frame _, fun h => by cases h⟩

theorem closed : joinedFacts Try.checked.prog 10 Try.f10 Rows.fnExactEndStatesSpec Rows.fnExactEndStatesRow = true := by
  unfold joinedFacts
  rw [facts.laid, facts.maps, facts.heard, facts.enter, facts.lifts, facts.make, facts.keys]
  kernel_rfl

theorem over : Rows.fnExactEndStatesRow.holds Try.pinned (OpenSpec.ofChange Rows.fnExactEndStatesSpec) :=
  OpenClaim.holds_of_wide 10 Try.f10 rfl rfl rfl rfl rfl rfl rfl ⟨rfl, rfl, rfl, rfl, rfl⟩ rfl rfl rfl rfl rfl (by kernel_rfl) Try.func10 closed
    (of_decide_eq_true (by kernel_rfl)) (by unfold Func.isWrapper; first | (rw [if_pos (by decide +kernel)]; kernel_rfl) | (rw [if_neg (by decide +kernel)]; exact ⟨rfl, rfl⟩))
    (fun os started H enc _ => lifted os started H enc)

theorem proved : Rows.FnExactEndStatesSaid := over
#print axioms proved
end Go.Proofs.Ytlpgldejmdiceaa.fnExactEndStates
