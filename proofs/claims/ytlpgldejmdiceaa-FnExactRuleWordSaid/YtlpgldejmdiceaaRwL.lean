/- FnExactRuleWord: for every System and all other arguments, impl's function answers as spec's does and leaves them as they were. No condition. -/
import Derived.Test.YtlpgldejmdiceaaSyr
import Derived.Test.YtlpgldejmdiceaaSyq
import Derived.Test.YtlpgldejmdiceaaSys
import Derived.Deep.RegionHeld3
namespace Go.Proofs.Ytlpgldejmdiceaa.fnExactRuleWord
open kit bg opn strs eqs inn marks sig isig hc only hb ht gd cf lawb hi syx sya syh syi syc syg rs rt br sys syq syr
open Go.ChangeShapes Go.WideShapes Go.ChangeAt Go.RowKit
open Go.ChangeMaps (open_string shut_string)
set_option linter.unusedVariables false
set_option linter.unusedSimpArgs false

set_option maxRecDepth 20000 in
set_option maxHeartbeats 6400000 in
theorem walk (v : Value) (x : Sysm) (B0 : Option Addr) (m0 d0 : Nat) (ts0 : List Tri) (w : World) (hv : SysAt w w.heap.size v x) (hvw : SysW x) (hs0 : TriAt w w.heap.size B0 m0 ts0) (hzw0 : TriW ts0) :
    Calls Try.prog 13 #[v, .slice B0 m0 d0] w fun e w' => e = .returned (.bool true) ∧ Below w.heap.size w w' := by
  obtain ⟨A1, n1, c1, A2, n2, c2, rfl, h1, h2⟩ := hv
  have HBx := Lib.hid (BoxN.new w #[.slice A1 n1 c1, .slice A2 n2 c2] 25)
  have HB0 := Lib.hid ((Below.refl w.heap.size w).alloc (Nat.le_refl _) (.cells #[.slice A1 n1 c1, .slice A2 n2 c2] 25))
  obtain ⟨W, hW⟩ : ∃ W, w.alloc (.cells #[.slice A1 n1 c1, .slice A2 n2 c2] 25) = W := ⟨_, rfl⟩
  rw [hW] at HBx HB0
  have HWq := Lib.hid hW
  have hWs : w.heap.size < W.heap.size := HBx.out.lt
  have HX : Hid (SysAt W W.heap.size (.agg #[.slice A1 n1 c1, .slice A2 n2 c2]) x) := Lib.hid (((show SysAt w w.heap.size _ x from ⟨A1, n1, c1, A2, n2, c2, rfl, h1, h2⟩).below HB0.out).wide HB0.out.size)
  have HXW := Lib.hid hvw
  have HS0 := Lib.hid ((hs0.below HB0.out).wide HB0.out.size)
  have HTW0 := Lib.hid hzw0
  have hm0 : m0 ≤ maxLen := by have := hs0.1; have := hzw0.1; omega
  have hmm0 := hm0
  unfold maxLen at hmm0
  obtain ⟨x0, x1⟩ := box2 HBx.out
  clear hW h1 h2 hvw hs0 hzw0
  go_enter Try.func13, Try.ntmps13
  go_wp2_with fail
  rw [HWq.out]
  try go_wp2_with fail
  refine (szSys_any _ x 1048576 W HX.out (by omega) (by omega) HXW.out).mono ?_
  rintro e w1 ⟨r, rfl, hr, hr1, hr2, hk1⟩
  clear x0 x1
  obtain ⟨x0, x1⟩ := box2 (HBx.out.below hk1 hWs)
  by_cases hneg : r < 0
  · go_wp2_with fail
    go_ret
    exact ⟨rfl, HB0.out.trans (hk1.mono HB0.out.size)⟩
  have HWt : Hid (sysWt x ≤ 1048576) := Lib.hid (by omega)
  go_wp2_with fail
  refine (szA3S_any B0 m0 d0 r w1 hr1 hr2 hm0).mono ?_
  have hrt2 := hr2
  clear hr hr1 hr2
  rintro e w2 ⟨r2, rfl, hr, hr1, hr2, hb⟩
  have hk2 := hk1.trans (hb.mono hk1.size)
  clear x0 x1 hb
  obtain ⟨x0, x1⟩ := box2 (HBx.out.below hk2 hWs)
  by_cases hneg2 : r2 < 0
  · go_wp2_with fail
    go_ret
    exact ⟨rfl, HB0.out.trans (hk2.mono HB0.out.size)⟩
  have HM0 : Hid (m0 ≤ 1048576) := Lib.hid (by omega)
  obtain ⟨vb, hvb⟩ : ∃ vb, rwA x.states.length x.steps ts0 = vb := ⟨_, rfl⟩
  obtain ⟨q, hq⟩ : ∃ q, rwQ x.states.length x.steps ts0 = q := ⟨_, rfl⟩
  have HN := Lib.hid (show vb.length ≤ 1048576 by rw [← hvb]; exact Nat.le_trans rwA_len (by have h1 := HS0.out.len; have h2 := HM0.out; omega))
  have HSp := Lib.hid (fun (u : Value) (y : World) (hu : SysAt y y.heap.size u x) (C0 : Option Addr) (e0 : Nat) (hc0 : TriAt y y.heap.size C0 m0 ts0) => sRw_any u x C0 m0 e0 ts0 y hu HWt.out hc0 HM0.out)
  simp only [hvb, hq] at HSp
  have HIm := Lib.hid (fun (u : Value) (y : World) (hu : SysAt y y.heap.size u x) (C0 : Option Addr) (e0 : Nat) (hc0 : TriAt y y.heap.size C0 m0 ts0) => iRw_any u x C0 m0 e0 ts0 y hu HWt.out hc0 HM0.out)
  simp only [hvb, hq] at HIm
  clear hvb hq hr hr1 hr2
  go_wp2_with fail
  refine (toSys_any _ x _ ((HX.out.below hk2).wide hk2.size) HWt.out).mono ?_
  rintro e w3 ⟨v3, rfl, ho3, hb3⟩
  have hk3 := hk2.trans (hb3.mono hk2.size)
  have hu := ho3.at
  clear x0 x1
  obtain ⟨x0, x1⟩ := box2 (HBx.out.below hk3 hWs)
  go_wp2_with fail
  refine (toA3S_any B0 m0 d0 ts0 _ ((HS0.out.below hk3).wide hk3.size) HM0.out).mono ?_
  rintro e w4 ⟨rfl, hrow4, hb4⟩
  have hk4 := hk3.trans (hb4.mono hk3.size)
  have hu := hu.on hb4
  have hl0 := hrow4
  clear x0 x1 hrow4
  obtain ⟨x0, x1⟩ := box2 (HBx.out.below hk4 hWs)
  go_wp2_with fail
  refine (HSp.out _ _ hu _ _ (tri_rowN HS0.out.len hl0)).mono ?_
  rintro e w5 ⟨r905, rfl, hR5, hb5⟩
  have hk5 := hk4.trans (hb5.mono hk4.size)
  clear x0 x1 hu hl0
  obtain ⟨x0, x1⟩ := box2 (HBx.out.below hk5 hWs)
  have HR_5 := Lib.hid (hR5.wide (Nat.zero_le _) (Nat.le_refl _))
  clear hR5
  go_wp2_with fail
  refine (toSys_any _ x _ ((HX.out.below hk5).wide hk5.size) HWt.out).mono ?_
  rintro e w6 ⟨v6, rfl, ho6, hb6⟩
  have hk6 := hk5.trans (hb6.mono hk5.size)
  have HR_6 := Lib.hid (HR_5.out.on hb6)
  clear HR_5
  have HU_6 := Lib.hid (ho6.at)
  have HSI_6 := Lib.hid (SysIn.of_own ho6)
  obtain ⟨g1, g2, rfl, -⟩ := ho6
  clear x0 x1
  obtain ⟨x0, x1⟩ := box2 (HBx.out.below hk6 hWs)
  have HzS := Lib.hid hb6.size
  go_wp2_with fail
  have hBy := BoxN.new w6 #[.slice (some ⟨g1, 0, none⟩) x.states.length x.states.length, .slice (some ⟨g2, 0, none⟩) x.steps.length x.steps.length] 32
  have hb7 := (Below.refl w6.heap.size w6).alloc (Nat.le_refl _) (.cells #[.slice (some ⟨g1, 0, none⟩) x.states.length x.states.length, .slice (some ⟨g2, 0, none⟩) x.steps.length x.steps.length] 32)
  obtain ⟨w7, hw7⟩ : ∃ w7, w6.alloc (.cells #[.slice (some ⟨g1, 0, none⟩) x.states.length x.states.length, .slice (some ⟨g2, 0, none⟩) x.steps.length x.steps.length] 32) = w7 := ⟨_, rfl⟩
  rw [hw7] at hBy hb7 ⊢
  have hk7 := hk6.trans (hb7.mono hk6.size)
  have HR_7 := Lib.hid (HR_6.out.on hb7)
  clear HR_6
  have HU_7 := Lib.hid (HU_6.out.on hb7)
  clear HU_6
  have HSI_7 := Lib.hid (HSI_6.out.on hb7)
  clear HSI_6
  have HBy_7 := Lib.hid (hBy)
  have HzX_7 := Lib.hid (hb7.size)
  have hlX : w6.heap.size < w7.heap.size := hBy.lt
  have HzY_7 := Lib.hid (Nat.succ_le_of_lt hlX)
  clear hw7 hBy x0 x1 hlX
  obtain ⟨x0, x1⟩ := box2 (HBx.out.below hk7 hWs)
  obtain ⟨y0, y1⟩ := box2 HBy_7.out
  try go_wp2_with fail
  refine (toA3S_any B0 m0 d0 ts0 _ ((HS0.out.below hk7).wide hk7.size) HM0.out).mono ?_
  rintro e w8 ⟨rfl, hrow8, hb8⟩
  have hk8 := hk7.trans (hb8.mono hk7.size)
  have HqX0 := Lib.hid (Nat.le_trans HzY_7.out (Nat.le_refl _))
  have HR_8 := Lib.hid (HR_7.out.on hb8)
  clear HR_7
  have HU_8 := Lib.hid (HU_7.out.on hb8)
  clear HU_7
  have HSI_8 := Lib.hid (HSI_7.out.on hb8)
  clear HSI_7
  have HBy_8 := Lib.hid (HBy_7.out.on hb8)
  clear HBy_7
  have HzX_8 := Lib.hid (Nat.le_trans HzX_7.out (hb8).size)
  clear HzX_7
  have HzY_8 := Lib.hid (Nat.le_trans HzY_7.out (hb8).size)
  clear HzY_7
  have HC0_8 := Lib.hid (hrow8)
  have Hq0_8 := Lib.hid (Nat.succ_le_of_lt hrow8.lt)
  clear x0 x1 y0 y1 hrow8
  obtain ⟨x0, x1⟩ := box2 (HBx.out.below hk8 hWs)
  obtain ⟨y0, y1⟩ := box2 HBy_8.out
  go_wp2_with fail
  refine (HIm.out _ _ HU_8.out _ _ (tri_rowN HS0.out.len HC0_8.out)).mono ?_
  rintro e w9 ⟨r909, rfl, hR9, hb9⟩
  have hk9 := hk8.trans (hb9.mono hk8.size)
  have HlX := Lib.hid HzX_8.out
  have Hl0 := Lib.hid Hq0_8.out
  clear HzX_8
  clear HzY_8
  clear Hq0_8
  have HR_9 := Lib.hid (HR_8.out.on hb9)
  clear HR_8
  have HU_9 := Lib.hid (HU_8.out.on hb9)
  clear HU_8
  have HSI_9 := Lib.hid (HSI_8.out.on hb9)
  clear HSI_8
  have HBy_9 := Lib.hid (HBy_8.out.on hb9)
  clear HBy_8
  have HC0_9 := Lib.hid (HC0_8.out.of_block ((hb9).block _ HC0_8.out.lt))
  clear HC0_8
  have HI_9 := Lib.hid (hR9)
  have HzP_9 := Lib.hid (hb9.size)
  have HzI_9 := Lib.hid (Nat.le_refl w9.heap.size)
  clear x0 x1 y0 y1 hR9
  obtain ⟨x0, x1⟩ := box2 (HBx.out.below hk9 hWs)
  obtain ⟨y0, y1⟩ := box2 HBy_9.out
  go_wp2_with fail
  refine (eqRI_any r909 r905 vb _ _ _ _ _ HI_9.out HR_9.out HN.out).mono ?_
  rintro e w10 ⟨rfl, hb10⟩
  have hk10 := hk9.trans (hb10.mono hk9.size)
  have HR_10 := Lib.hid (HR_9.out.on hb10)
  clear HR_9
  have HU_10 := Lib.hid (HU_9.out.on hb10)
  clear HU_9
  have HSI_10 := Lib.hid (HSI_9.out.on hb10)
  clear HSI_9
  have HBy_10 := Lib.hid (HBy_9.out.on hb10)
  clear HBy_9
  have HC0_10 := Lib.hid (HC0_9.out.of_block ((hb10).block _ HC0_9.out.lt))
  clear HC0_9
  have HI_10 := Lib.hid (HI_9.out.on hb10)
  clear HI_9
  have HzP_10 := Lib.hid (Nat.le_trans HzP_9.out (hb10).size)
  clear HzP_9
  have HzI_10 := Lib.hid (Nat.le_trans HzI_9.out (hb10).size)
  clear HzI_9
  clear x0 x1 y0 y1
  obtain ⟨x0, x1⟩ := box2 (HBx.out.below hk10 hWs)
  obtain ⟨y0, y1⟩ := box2 HBy_10.out
  go_wp2_with fail
  have hbD : Below w10.heap.size w10 w10.drew := (Below.refl _ _).drew
  have hsy : w6.heap.size < w10.heap.size := HBy_10.out.lt
  go_region_held3 (fun w' => (w'.cell? ⟨w.heap.size, 0, none⟩ = some (.slice A1 n1 c1) ∧ w'.cell? ⟨w.heap.size, 1, none⟩ = some (.slice A2 n2 c2)) ∧ (w'.cell? ⟨w6.heap.size, 0, none⟩ = some (.slice (some ⟨g1, 0, none⟩) x.states.length x.states.length) ∧ w'.cell? ⟨w6.heap.size, 1, none⟩ = some (.slice (some ⟨g2, 0, none⟩) x.steps.length x.steps.length))) (first | exact ⟨box2 (HBx.out.below hk12 hWs), box2 (hBq11.below hb12 hsq11)⟩ | exact ⟨box2 (HBx.out.below hk11 hWs), box2 hBq11⟩ | exact ⟨box2 (HBx.out.below hk10.drew hWs), box2 (HBy_10.out.below hbD hsy)⟩)
    (first
     | (go_at_call 18; refine (toSys_any _ x _ ((HX.out.below hk10.drew).wide hk10.drew.size) HWt.out).mono ?_; rintro e w11 ⟨v11, rfl, ho11, hb11⟩; have hk11 := hk10.drew.trans (hb11.mono hk10.drew.size); have hbb11 := hbD.trans (hb11.mono hbD.size); have hBq11 := HBy_10.out.below hbb11 hsy; have hsq11 : w6.heap.size < w11.heap.size := Nat.lt_of_lt_of_le hsy hbb11.size; have hxo11 := HU_10.out.on hbb11)
     | (go_at_call 21; refine (eqSys_any _ _ x _ hxo11 ho11.at HXW.out HWt.out).mono ?_; rintro e w12 ⟨rfl, hb12⟩; have hk12 := hk11.trans (hb12.mono hk11.size)))
  have hb12x := hbb11.trans (hb12.mono hbb11.size)
  clear HU_10
  have HR_12 := Lib.hid (HR_10.out.on hb12x)
  clear HR_10
  have HSI_12 := Lib.hid (HSI_10.out.on hb12x)
  clear HSI_10
  have HBy_12 := Lib.hid (HBy_10.out.on hb12x)
  clear HBy_10
  have HC0_12 := Lib.hid (HC0_10.out.of_block ((hb12x).block _ HC0_10.out.lt))
  clear HC0_10
  have HI_12 := Lib.hid (HI_10.out.on hb12x)
  clear HI_10
  have HzP_12 := Lib.hid (Nat.le_trans HzP_10.out (hb12x).size)
  clear HzP_10
  have HzI_12 := Lib.hid (Nat.le_trans HzI_10.out (hb12x).size)
  clear HzI_10
  clear x0 x1 y0 y1 hsy hbD hBq11
  obtain ⟨x0, x1⟩ := box2 (HBx.out.below hk12 hWs)
  obtain ⟨y0, y1⟩ := box2 HBy_12.out
  go_wp2_with fail
  refine (toA3S_any B0 m0 d0 ts0 _ ((HS0.out.below hk12).wide hk12.size) HM0.out).mono ?_
  rintro e w13 ⟨rfl, hrow13, hb13⟩
  have hk13 := hk12.trans (hb13.mono hk12.size)
  have HR_13 := Lib.hid (HR_12.out.on hb13)
  clear HR_12
  have HSI_13 := Lib.hid (HSI_12.out.on hb13)
  clear HSI_12
  have HBy_13 := Lib.hid (HBy_12.out.on hb13)
  clear HBy_12
  have HC0_13 := Lib.hid (HC0_12.out.of_block ((hb13).block _ HC0_12.out.lt))
  clear HC0_12
  have HI_13 := Lib.hid (HI_12.out.on hb13)
  clear HI_12
  have HzP_13 := Lib.hid (Nat.le_trans HzP_12.out (hb13).size)
  clear HzP_12
  have HzI_13 := Lib.hid (Nat.le_trans HzI_12.out (hb13).size)
  clear HzI_12
  clear x0 x1 y0 y1
  obtain ⟨x0, x1⟩ := box2 (HBx.out.below hk13 hWs)
  obtain ⟨y0, y1⟩ := box2 HBy_13.out
  have hj := tri_rowN HS0.out.len hrow13
  go_wp2_with fail
  refine (eqA3S_any _ _ m0 _ _ ts0 _ _ _ (tri_rowN HS0.out.len HC0_13.out) hj (Nat.le_refl _) (Nat.le_refl _) hm0).mono ?_
  rintro e w14 ⟨rfl, hb14⟩
  have hk14 := hk13.trans (hb14.mono hk13.size)
  have HR_14 := Lib.hid (HR_13.out.on hb14)
  clear HR_13
  have HSI_14 := Lib.hid (HSI_13.out.on hb14)
  clear HSI_13
  have HBy_14 := Lib.hid (HBy_13.out.on hb14)
  clear HBy_13
  have HC0_14 := Lib.hid (HC0_13.out.of_block ((hb14).block _ HC0_13.out.lt))
  clear HC0_13
  have HI_14 := Lib.hid (HI_13.out.on hb14)
  clear HI_13
  have HzP_14 := Lib.hid (Nat.le_trans HzP_13.out (hb14).size)
  clear HzP_13
  have HzI_14 := Lib.hid (Nat.le_trans HzI_13.out (hb14).size)
  clear HzI_13
  clear x0 x1 y0 y1
  obtain ⟨x0, x1⟩ := box2 (HBx.out.below hk14 hWs)
  obtain ⟨y0, y1⟩ := box2 HBy_14.out
  clear hj
  have HzW := Lib.hid hk5.size
  have hcs : w5.heap.size ≤ w14.heap.size := Nat.le_trans HzS.out (Nat.le_trans HlX.out HzP_14.out)
  go_wp2_with fail
  refine (markSys_any _ x 1 _ _ _ HSI_14.out HWt.out (by omega) (by omega)).mono ?_
  rintro e w15 ⟨k15, rfl, hp15, hq15, hn15⟩
  clear HSI_14
  clear HBy_14
  have hk15 := hk14.trans ((hn15.below (hcs)).mono (HzW.out))
  have HR_15 := Lib.hid (HR_14.out.far hn15 (.inr (Nat.le_refl _)))
  clear HR_14
  have HC0_15 := Lib.hid (HC0_14.out.of_block (hn15.block _ HC0_14.out.lt (.inr (Nat.le_trans (Nat.le_succ _) HqX0.out))))
  clear HC0_14
  have HI_15 := Lib.hid (HI_14.out.far hn15 (.inl HlX.out))
  clear HI_14
  have HzP_15 := Lib.hid (Nat.le_trans HzP_14.out hn15.size)
  clear HzP_14
  have HzI_15 := Lib.hid (Nat.le_trans HzI_14.out hn15.size)
  clear HzI_14
  clear x0 x1 y0 y1 hcs hn15
  obtain ⟨x0, x1⟩ := box2 (HBx.out.below hk15 hWs)
  have hK0 : 0 < k15 := hp15
  have hK1 : k15 ≤ 6400000 := hq15
  clear hp15 hq15
  go_wp2_with fail
  refine (markA3S_any _ m0 m0 _ k15 _ HC0_15.out (Nat.le_refl _) hK0 (by omega) HM0.out).mono ?_
  rintro e w16 ⟨rfl, hrow16, hg16⟩
  have hn16 := Only.of_grown hg16 HC0_15.out hrow16 (Nat.le_refl _) (Nat.lt_succ_self _)
  have hcs : w7.heap.size ≤ w15.heap.size := Nat.le_of_lt HC0_15.out.lt
  have hcw : W.heap.size ≤ w7.heap.size := Nat.le_trans HzW.out (Nat.le_trans HzS.out (Nat.le_trans (Nat.le_succ _) HqX0.out))
  clear HC0_15
  have hk16 := hk15.trans ((hn16.below (hcs)).mono (hcw))
  have HR_16 := Lib.hid (HR_15.out.far hn16 (.inr (Nat.le_trans HzS.out (Nat.le_trans (Nat.le_succ _) HqX0.out))))
  clear HR_15
  have HI_16 := Lib.hid (HI_15.out.far hn16 (.inl Hl0.out))
  clear HI_15
  have HzP_16 := Lib.hid (Nat.le_trans HzP_15.out hn16.size)
  clear HzP_15
  have HzI_16 := Lib.hid (Nat.le_trans HzI_15.out hn16.size)
  clear HzI_15
  obtain ⟨k16, hke⟩ : ∃ k, k15 + 3 * (m0 : Int) = k := ⟨_, rfl⟩
  have hK0 : 0 < k16 := by have := HM0.out; omega
  have hK1 : k16 ≤ 9545728 := by have := HM0.out; omega
  rw [hke]
  clear x0 x1 hcs hcw hn16 hrow16 hg16 hke
  obtain ⟨x0, x1⟩ := box2 (HBx.out.below hk16 hWs)
  have hKn : ¬ k16 < 0 := by omega
  go_wp2_with fail
  refine (eqRI_any r909 r905 vb _ _ _ _ _ HI_16.out HR_16.out HN.out).mono ?_
  rintro e w17 ⟨rfl, hb17⟩
  have hk17 := hk16.trans (hb17.mono hk16.size)
  have HR_17 := Lib.hid (HR_16.out.on hb17)
  clear HR_16
  have HI_17 := Lib.hid (HI_16.out.on hb17)
  clear HI_16
  have HzP_17 := Lib.hid (Nat.le_trans HzP_16.out (hb17).size)
  clear HzP_16
  have HzI_17 := Lib.hid (Nat.le_trans HzI_16.out (hb17).size)
  clear HzI_16
  clear x0 x1
  obtain ⟨x0, x1⟩ := box2 (HBx.out.below hk17 hWs)
  have hcs : w8.heap.size ≤ w17.heap.size := HzP_17.out
  have hcw : W.heap.size ≤ w8.heap.size := Nat.le_trans HzW.out (Nat.le_trans HzS.out HlX.out)
  obtain ⟨nn, hnn⟩ : ∃ nn, (vb.map (Value.int .i64)).length = nn := ⟨_, rfl⟩
  have hnn2 : nn ≤ 1048576 := by rw [← hnn]; simpa using HN.out
  go_wp2_with fail
  refine (markRI_any r909 _ 1 _ _ _ HI_17.out (by omega) (by omega) (by rw [hnn]; exact hnn2)).mono ?_
  rw [hnn]
  rintro e w18 ⟨rfl, hM18, hn18⟩
  clear HI_17
  have hk18 := hk17.trans ((hn18.below (hcs)).mono (hcw))
  have HR_18 := Lib.hid (HR_17.out.far hn18 (.inr (Nat.le_trans HzS.out HlX.out)))
  clear HR_17
  have HzP_18 := Lib.hid (Nat.le_trans HzP_17.out hn18.size)
  clear HzP_17
  have HzI_18 := Lib.hid (Nat.le_trans HzI_17.out hn18.size)
  clear HzI_17
  have HM_18 := Lib.hid (hM18)
  clear x0 x1 hcs hcw hM18 hn18 hnn
  obtain ⟨x0, x1⟩ := box2 (HBx.out.below hk18 hWs)
  have HNN := Lib.hid hnn2
  go_wp2_with fail
  refine (heldRI_any r909 nn 1 _ _ _ HM_18.out (by omega) (by omega) HNN.out).mono ?_
  rintro e w19 ⟨rfl, hb19⟩
  have hk19 := hk18.trans (hb19.mono hk18.size)
  have HR_19 := Lib.hid (HR_18.out.on hb19)
  clear HR_18
  have HzP_19 := Lib.hid (Nat.le_trans HzP_18.out (hb19).size)
  clear HzP_18
  have HzI_19 := Lib.hid (Nat.le_trans HzI_18.out (hb19).size)
  clear HzI_18
  have HM_19 := Lib.hid (HM_18.out.on hb19)
  clear HM_18
  clear x0 x1
  obtain ⟨x0, x1⟩ := box2 (HBx.out.below hk19 hWs)
  go_wp2_with fail
  refine (toSys_any _ x _ ((HX.out.below hk19).wide hk19.size) HWt.out).mono ?_
  rintro e w20 ⟨v20, rfl, ho20, hb20⟩
  have hk20 := hk19.trans (hb20.mono hk19.size)
  have hu := ho20.at
  have HR_20 := Lib.hid (HR_19.out.on hb20)
  clear HR_19
  have HzP_20 := Lib.hid (Nat.le_trans HzP_19.out (hb20).size)
  clear HzP_19
  have HzI_20 := Lib.hid (Nat.le_trans HzI_19.out (hb20).size)
  clear HzI_19
  have HM_20 := Lib.hid (HM_19.out.on hb20)
  clear HM_19
  clear x0 x1
  obtain ⟨x0, x1⟩ := box2 (HBx.out.below hk20 hWs)
  go_wp2_with fail
  refine (toA3S_any B0 m0 d0 ts0 _ ((HS0.out.below hk20).wide hk20.size) HM0.out).mono ?_
  rintro e w21 ⟨rfl, hrow21, hb21⟩
  have hk21 := hk20.trans (hb21.mono hk20.size)
  have hu := hu.on hb21
  have hl0 := hrow21
  have HR_21 := Lib.hid (HR_20.out.on hb21)
  clear HR_20
  have HzP_21 := Lib.hid (Nat.le_trans HzP_20.out (hb21).size)
  clear HzP_20
  have HzI_21 := Lib.hid (Nat.le_trans HzI_20.out (hb21).size)
  clear HzI_20
  have HM_21 := Lib.hid (HM_20.out.on hb21)
  clear HM_20
  clear x0 x1 hrow21
  obtain ⟨x0, x1⟩ := box2 (HBx.out.below hk21 hWs)
  go_wp2_with fail
  refine (HIm.out _ _ hu _ _ (tri_rowN HS0.out.len hl0)).mono ?_
  rintro e w22 ⟨r922, rfl, hR22, hb22⟩
  have hk22 := hk21.trans (hb22.mono hk21.size)
  have HR_22 := Lib.hid (HR_21.out.on hb22)
  clear HR_21
  have HzP_22 := Lib.hid (Nat.le_trans HzP_21.out (hb22).size)
  clear HzP_21
  have HzI_22 := Lib.hid (Nat.le_trans HzI_21.out (hb22).size)
  clear HzI_21
  have HM_22 := Lib.hid (HM_21.out.on hb22)
  clear HM_21
  clear x0 x1 hu hl0
  obtain ⟨x0, x1⟩ := box2 (HBx.out.below hk22 hWs)
  have HJ_22 := Lib.hid (hR22)
  clear hR22
  go_wp2_with fail
  refine (eqRI_any r922 r905 vb _ _ _ _ _ HJ_22.out HR_22.out HN.out).mono ?_
  rintro e w23 ⟨rfl, hb23⟩
  have hk23 := hk22.trans (hb23.mono hk22.size)
  have HR_23 := Lib.hid (HR_22.out.on hb23)
  clear HR_22
  have HzP_23 := Lib.hid (Nat.le_trans HzP_22.out (hb23).size)
  clear HzP_22
  have HzI_23 := Lib.hid (Nat.le_trans HzI_22.out (hb23).size)
  clear HzI_22
  have HM_23 := Lib.hid (HM_22.out.on hb23)
  clear HM_22
  have HJ_23 := Lib.hid (HJ_22.out.on hb23)
  clear HJ_22
  clear x0 x1
  obtain ⟨x0, x1⟩ := box2 (HBx.out.below hk23 hWs)
  go_wp2_with fail
  refine (heldRI_any r909 nn 1 _ _ _ HM_23.out (by omega) (by omega) HNN.out).mono ?_
  rintro e w24 ⟨rfl, hb24⟩
  have hk24 := hk23.trans (hb24.mono hk23.size)
  have HR_24 := Lib.hid (HR_23.out.on hb24)
  clear HR_23
  have HzP_24 := Lib.hid (Nat.le_trans HzP_23.out (hb24).size)
  clear HzP_23
  have HzI_24 := Lib.hid (Nat.le_trans HzI_23.out (hb24).size)
  clear HzI_23
  have HM_24 := Lib.hid (HM_23.out.on hb24)
  clear HM_23
  have HJ_24 := Lib.hid (HJ_23.out.on hb24)
  clear HJ_23
  clear x0 x1
  obtain ⟨x0, x1⟩ := box2 (HBx.out.below hk24 hWs)
  go_wp2_with fail
  go_ret
  exact ⟨rfl, HB0.out.trans (hk24.mono HB0.out.size)⟩

theorem own : ownKnob Try.prog.godebug = none := by kernel_rfl
theorem laidOut : laidOutB Try.prog = true := facts.laid

set_option maxRecDepth 100000 in
theorem lifted (os : Os) (started : os.Started) (H : Type) (enc : TypeId × Value → H) :
    ReturnsInHanded {} Try.checked os 13 .any (Rows.fnExactRuleWordSpec.pre6 enc Try.prog Try.f13 Rows.fnExactRuleWordRow.domain false) (Rows.fnExactRuleWordSpec.post enc Try.prog Try.f13 false true false false) := by
  refine returnsInHanded_of_change (C := Try.checked) own started (by kernel_rfl) Try.func13
    (ChangeSpec.witness6 (enc := enc) (C := Try.checked) false ⟨#[], #[.agg #[.slice none 0 0, .slice none 0 0], .slice none 0 0], []⟩ 8 (by kernel_rfl) (by kernel_rfl) (by kernel_rfl) (by kernel_rfl)) ?_
  intro W base args ds gs before hval0 hW hcnd _
  have hval : ∀ (j : Nat) t v, Try.f13.params[j]? = some t → args[j]? = some v → Value.okWide Try.prog W .any base t v := hval0
  have hW' := hW
  obtain ⟨p, q, hA0, hV, rfl, hfz, hnd⟩ := hW
  have hA : DataW.TrodAll enc Try.prog W 0 (fun _ => true) true Try.f13.params.toList args.toList ds p := hA0
  rw [Try.params13] at hA hval
  obtain ⟨v0, vs0, d0, ds0, p0, q0, hargs, rfl, rfl, h0, r0⟩ := trodAll_cons hA
  obtain ⟨v1, vs1, d1, ds1, p1, q1, rfl, rfl, rfl, h1, r1⟩ := trodAll_cons r0
  obtain ⟨rfl, rfl, rfl⟩ := trodAll_nil r1
  obtain rfl : args = #[v0, v1] := by cases args; simp_all
  obtain ⟨rfl, rfl⟩ := trodVars_none hV
  have k0 := h0
  have lt0 : ∀ x ∈ p0, x.block < W.heap.size := by obtain ⟨m, hm⟩ := k0; exact DataW.trod_lt m _ _ _ hm
  obtain ⟨b0, s0, w0⟩ := open_sys (hval 0 25 v0 rfl rfl) h0 lt0
  have k1 := h1
  have lt1 : ∀ x ∈ p1, x.block < W.heap.size := by obtain ⟨m, hm⟩ := k1; exact DataW.trod_lt m _ _ _ hm
  obtain ⟨A1, n1, c1, ts1, rfl, s1, w1⟩ := open_tris (hval 1 23 v1 rfl rfl) h1 lt1
  clear hA0 hval0
  refine (walk v0 b0 A1 n1 c1 ts1 W s0 w0 s1 w1).mono fun e W' ⟨he, bel⟩ => ?_
  subst he
  exact ⟨_, rfl, _, _, _, [], _, [], hW', trodAll_mk1 (shut_bool Try.underlying4 _), (trodAll_cons_mk (Below.trod laidOut (by kernel_rfl) (of_decide_eq_true (by kernel_rfl)) k0 bel lt0) (trodAll_cons_mk (Below.trod laidOut (by kernel_rfl) (of_decide_eq_true (by kernel_rfl)) k1 bel lt1) trodAll_mk0)), rfl, bel.frame _, fun h => by cases h⟩

theorem closed : joinedFacts Try.checked.prog 13 Try.f13 Rows.fnExactRuleWordSpec Rows.fnExactRuleWordRow = true := by
  unfold joinedFacts
  rw [facts.laid, facts.maps, facts.heard, facts.enter, facts.lifts, facts.make, facts.keys]
  kernel_rfl

theorem over : Rows.fnExactRuleWordRow.holds Try.pinned (OpenSpec.ofChange Rows.fnExactRuleWordSpec) :=
  OpenClaim.holds_of_wide 13 Try.f13 rfl rfl rfl rfl rfl rfl rfl ⟨rfl, rfl, rfl, rfl, rfl⟩ rfl rfl rfl rfl rfl (by kernel_rfl) Try.func13 closed
    (of_decide_eq_true (by kernel_rfl)) (by unfold Func.isWrapper; first | (rw [if_pos (by decide +kernel)]; kernel_rfl) | (rw [if_neg (by decide +kernel)]; exact ⟨rfl, rfl⟩))
    (fun os started H enc _ => lifted os started H enc)

theorem proved : Rows.FnExactRuleWordSaid := over
#print axioms proved
end Go.Proofs.Ytlpgldejmdiceaa.fnExactRuleWord
