/- FnExactShortestWay: for every System and all other arguments, impl's function answers as spec's does and leaves them as they were. No condition. -/
import Derived.Test.YtlpgldejmdiceaaFsw
import Derived.Test.YtlpgldejmdiceaaFsv
import Derived.Test.YtlpgldejmdiceaaSyq
import Derived.Test.YtlpgldejmdiceaaSys
import Derived.Deep.RegionHeld3
namespace Go.Proofs.Ytlpgldejmdiceaa.fnExactShortestWay
open kit bg opn strs eqs inn marks sig isig hc only hb ht gd cf lawb hi syx sya syh syi syc syg rs rt br sys syq syz bgs syt rtt fsp fsw fsv
open Go.ChangeShapes Go.WideShapes Go.ChangeAt Go.RowKit
open Go.ChangeMaps (open_string shut_string)
set_option linter.unusedVariables false
set_option linter.unusedSimpArgs false

set_option maxRecDepth 20000 in
set_option maxHeartbeats 6400000 in
theorem walk (v : Value) (x : Sysm) (z0 : Int) (B1 : Option Addr) (m1 d1 : Nat) (zs1 : List Int) (w : World) (hv : SysAt w w.heap.size v x) (hvw : SysW x) (hz0 : (Lit.int .i64 z0).wf = true) (hs1 : IntsAt w w.heap.size B1 m1 zs1) (hm1 : m1 ≤ maxLen) (hzw1 : ∀ z ∈ zs1, (Lit.int .i64 z).wf = true) :
    Calls Try.prog 4 #[v, .int .i64 z0, .slice B1 m1 d1] w fun e w' => e = .returned (.bool true) ∧ Below w.heap.size w w' := by
  obtain ⟨A1, n1, c1, A2, n2, c2, rfl, h1, h2⟩ := hv
  have HBx := Lib.hid (BoxN.new w #[.slice A1 n1 c1, .slice A2 n2 c2] 25)
  have HB0 := Lib.hid ((Below.refl w.heap.size w).alloc (Nat.le_refl _) (.cells #[.slice A1 n1 c1, .slice A2 n2 c2] 25))
  obtain ⟨W, hW⟩ : ∃ W, w.alloc (.cells #[.slice A1 n1 c1, .slice A2 n2 c2] 25) = W := ⟨_, rfl⟩
  rw [hW] at HBx HB0
  have HWq := Lib.hid hW
  have hWs : w.heap.size < W.heap.size := HBx.out.lt
  have HX : Hid (SysAt W W.heap.size (.agg #[.slice A1 n1 c1, .slice A2 n2 c2]) x) := Lib.hid (((show SysAt w w.heap.size _ x from ⟨A1, n1, c1, A2, n2, c2, rfl, h1, h2⟩).below HB0.out).wide HB0.out.size)
  have HXW := Lib.hid hvw
  have HS1 := Lib.hid ((hs1.below HB0.out).wide HB0.out.size)
  have hmm1 := hm1
  unfold maxLen at hmm1
  obtain ⟨x0, x1⟩ := box2 HBx.out
  clear hW h1 h2 hvw hs1 hzw1
  by_cases hbig1 : 1048576 < m1
  · have hbi1 : (1048576 : Int) < (m1 : Int) := by omega
    go_enter Try.func4, Try.ntmps4
    go_wp2_with fail
    try rw [HWq.out]
    try go_wp2_with fail
    go_ret
    exact ⟨rfl, by first | exact HB0.out | (rw [HWq.out]; exact HB0.out)⟩
  have hbi1 : ¬ (1048576 : Int) < (m1 : Int) := by omega
  go_enter Try.func4, Try.ntmps4
  go_wp2_with fail
  rw [HWq.out]
  try go_wp2_with fail
  refine (szSys_any _ x 1048576 W HX.out (by omega) (by omega) HXW.out).mono ?_
  rintro e w1 ⟨r, rfl, hr, hr1, hr2, hk1⟩
  clear x0 x1
  obtain ⟨x0, x1⟩ := box2 (HBx.out.below hk1 hWs)
  by_cases hneg : r < 0
  · go_wp2_with fail
    go_ret
    exact ⟨rfl, HB0.out.trans (hk1.mono HB0.out.size)⟩
  have HWt : Hid (sysWt x ≤ 1048576) := Lib.hid (by omega)
  have HM1 : Hid (m1 ≤ 1048576) := Lib.hid (by omega)
  obtain ⟨vb, hvb⟩ : ∃ vb, swA x.states.length x.steps z0 zs1 = vb := ⟨_, rfl⟩
  obtain ⟨q, hq⟩ : ∃ q, swQ x.states.length x.steps z0 zs1 = q := ⟨_, rfl⟩
  have HN := Lib.hid (show vb.length ≤ 1048576 by rw [← hvb]; exact Nat.le_trans swA_len (by have h1 := HWt.out; unfold sysWt bgsWt at h1; omega))
  have HSp := Lib.hid (fun (u : Value) (y : World) (hu : SysAt y y.heap.size u x) (C1 : Option Addr) (e1 : Nat) (hc1 : IntsAt y y.heap.size C1 m1 zs1) => sSw_any u x z0 C1 m1 e1 zs1 y hu HWt.out hc1 HM1.out)
  simp only [hvb, hq] at HSp
  have HIm := Lib.hid (fun (u : Value) (y : World) (hu : SysAt y y.heap.size u x) (C1 : Option Addr) (e1 : Nat) (hc1 : IntsAt y y.heap.size C1 m1 zs1) (hcap : CapS u) => iSw_any u x z0 C1 m1 e1 zs1 y hu HWt.out hc1 HM1.out hcap)
  simp only [hvb, hq] at HIm
  clear hvb hq hr hr1 hr2
  go_wp2_with fail
  refine (toSys_any _ x _ ((HX.out.below hk1).wide hk1.size) HWt.out).mono ?_
  rintro e w2 ⟨v2, rfl, ho2, hb2⟩
  have hk2 := hk1.trans (hb2.mono hk1.size)
  have hu := ho2.at
  clear x0 x1
  obtain ⟨x0, x1⟩ := box2 (HBx.out.below hk2 hWs)
  go_wp2_with fail
  refine (toIS_any B1 m1 d1 zs1 _ ((HS1.out.below hk2).wide hk2.size) HM1.out).mono ?_
  rintro e w3 ⟨rfl, hrow3, hb3⟩
  have hk3 := hk2.trans (hb3.mono hk2.size)
  have hu := hu.on hb3
  have hl1 := hrow3
  clear x0 x1 hrow3
  obtain ⟨x0, x1⟩ := box2 (HBx.out.below hk3 hWs)
  go_wp2_with fail
  refine (HSp.out _ _ hu _ _ (ints_row HS1.out.len hl1)).mono ?_
  rintro e w4 ⟨r904, rfl, hR4, hb4⟩
  have hk4 := hk3.trans (hb4.mono hk3.size)
  clear x0 x1 hu hl1
  obtain ⟨x0, x1⟩ := box2 (HBx.out.below hk4 hWs)
  have HR_4 := Lib.hid (hR4.wide (Nat.zero_le _) (Nat.le_refl _))
  clear hR4
  go_wp2_with fail
  refine (toSys_any _ x _ ((HX.out.below hk4).wide hk4.size) HWt.out).mono ?_
  rintro e w5 ⟨v5, rfl, ho5, hb5⟩
  have hk5 := hk4.trans (hb5.mono hk4.size)
  have HR_5 := Lib.hid (HR_4.out.on hb5)
  clear HR_4
  have HU_5 := Lib.hid (ho5.at)
  have HSI_5 := Lib.hid (SysIn.of_own ho5)
  have HCap := Lib.hid (CapS.of_own ho5)
  obtain ⟨g1, g2, rfl, -⟩ := ho5
  clear x0 x1
  obtain ⟨x0, x1⟩ := box2 (HBx.out.below hk5 hWs)
  have HzS := Lib.hid hb5.size
  go_wp2_with fail
  have hBy := BoxN.new w5 #[.slice (some ⟨g1, 0, none⟩) x.states.length x.states.length, .slice (some ⟨g2, 0, none⟩) x.steps.length x.steps.length] 32
  have hb6 := (Below.refl w5.heap.size w5).alloc (Nat.le_refl _) (.cells #[.slice (some ⟨g1, 0, none⟩) x.states.length x.states.length, .slice (some ⟨g2, 0, none⟩) x.steps.length x.steps.length] 32)
  obtain ⟨w6, hw6⟩ : ∃ w6, w5.alloc (.cells #[.slice (some ⟨g1, 0, none⟩) x.states.length x.states.length, .slice (some ⟨g2, 0, none⟩) x.steps.length x.steps.length] 32) = w6 := ⟨_, rfl⟩
  rw [hw6] at hBy hb6 ⊢
  have hk6 := hk5.trans (hb6.mono hk5.size)
  have HR_6 := Lib.hid (HR_5.out.on hb6)
  clear HR_5
  have HU_6 := Lib.hid (HU_5.out.on hb6)
  clear HU_5
  have HSI_6 := Lib.hid (HSI_5.out.on hb6)
  clear HSI_5
  have HBy_6 := Lib.hid (hBy)
  have HzX_6 := Lib.hid (hb6.size)
  have hlX : w5.heap.size < w6.heap.size := hBy.lt
  have HzY_6 := Lib.hid (Nat.succ_le_of_lt hlX)
  clear hw6 hBy x0 x1 hlX
  obtain ⟨x0, x1⟩ := box2 (HBx.out.below hk6 hWs)
  obtain ⟨y0, y1⟩ := box2 HBy_6.out
  try go_wp2_with fail
  refine (toIS_any B1 m1 d1 zs1 _ ((HS1.out.below hk6).wide hk6.size) HM1.out).mono ?_
  rintro e w7 ⟨rfl, hrow7, hb7⟩
  have hk7 := hk6.trans (hb7.mono hk6.size)
  have HqX1 := Lib.hid (Nat.le_trans HzY_6.out (Nat.le_refl _))
  have HR_7 := Lib.hid (HR_6.out.on hb7)
  clear HR_6
  have HU_7 := Lib.hid (HU_6.out.on hb7)
  clear HU_6
  have HSI_7 := Lib.hid (HSI_6.out.on hb7)
  clear HSI_6
  have HBy_7 := Lib.hid (HBy_6.out.on hb7)
  clear HBy_6
  have HzX_7 := Lib.hid (Nat.le_trans HzX_6.out (hb7).size)
  clear HzX_6
  have HzY_7 := Lib.hid (Nat.le_trans HzY_6.out (hb7).size)
  clear HzY_6
  have HC1_7 := Lib.hid (hrow7)
  have Hq1_7 := Lib.hid (Nat.succ_le_of_lt hrow7.lt)
  clear x0 x1 y0 y1 hrow7
  obtain ⟨x0, x1⟩ := box2 (HBx.out.below hk7 hWs)
  obtain ⟨y0, y1⟩ := box2 HBy_7.out
  go_wp2_with fail
  refine (HIm.out _ _ HU_7.out _ _ (ints_row HS1.out.len HC1_7.out) HCap.out).mono ?_
  rintro e w8 ⟨r908, rfl, hR8, hb8⟩
  have hk8 := hk7.trans (hb8.mono hk7.size)
  have HlX := Lib.hid HzX_7.out
  have Hl1 := Lib.hid Hq1_7.out
  clear HzX_7
  clear HzY_7
  clear Hq1_7
  have HR_8 := Lib.hid (HR_7.out.on hb8)
  clear HR_7
  have HU_8 := Lib.hid (HU_7.out.on hb8)
  clear HU_7
  have HSI_8 := Lib.hid (HSI_7.out.on hb8)
  clear HSI_7
  have HBy_8 := Lib.hid (HBy_7.out.on hb8)
  clear HBy_7
  have HC1_8 := Lib.hid (HC1_7.out.of_block ((hb8).block _ HC1_7.out.lt))
  clear HC1_7
  have HI_8 := Lib.hid (hR8)
  have HzP_8 := Lib.hid (hb8.size)
  have HzI_8 := Lib.hid (Nat.le_refl w8.heap.size)
  clear x0 x1 y0 y1 hR8
  obtain ⟨x0, x1⟩ := box2 (HBx.out.below hk8 hWs)
  obtain ⟨y0, y1⟩ := box2 HBy_8.out
  go_wp2_with fail
  refine (eqRT_any r908 r904 vb _ _ _ _ _ HI_8.out HR_8.out HN.out).mono ?_
  rintro e w9 ⟨rfl, hb9⟩
  have hk9 := hk8.trans (hb9.mono hk8.size)
  have HR_9 := Lib.hid (HR_8.out.on hb9)
  clear HR_8
  have HU_9 := Lib.hid (HU_8.out.on hb9)
  clear HU_8
  have HSI_9 := Lib.hid (HSI_8.out.on hb9)
  clear HSI_8
  have HBy_9 := Lib.hid (HBy_8.out.on hb9)
  clear HBy_8
  have HC1_9 := Lib.hid (HC1_8.out.of_block ((hb9).block _ HC1_8.out.lt))
  clear HC1_8
  have HI_9 := Lib.hid (HI_8.out.on hb9)
  clear HI_8
  have HzP_9 := Lib.hid (Nat.le_trans HzP_8.out (hb9).size)
  clear HzP_8
  have HzI_9 := Lib.hid (Nat.le_trans HzI_8.out (hb9).size)
  clear HzI_8
  clear x0 x1 y0 y1
  obtain ⟨x0, x1⟩ := box2 (HBx.out.below hk9 hWs)
  obtain ⟨y0, y1⟩ := box2 HBy_9.out
  go_wp2_with fail
  have hbD : Below w9.heap.size w9 w9.drew := (Below.refl _ _).drew
  have hsy : w5.heap.size < w9.heap.size := HBy_9.out.lt
  go_region_held3 (fun w' => (w'.cell? ⟨w.heap.size, 0, none⟩ = some (.slice A1 n1 c1) ∧ w'.cell? ⟨w.heap.size, 1, none⟩ = some (.slice A2 n2 c2)) ∧ (w'.cell? ⟨w5.heap.size, 0, none⟩ = some (.slice (some ⟨g1, 0, none⟩) x.states.length x.states.length) ∧ w'.cell? ⟨w5.heap.size, 1, none⟩ = some (.slice (some ⟨g2, 0, none⟩) x.steps.length x.steps.length))) (first | exact ⟨box2 (HBx.out.below hk11 hWs), box2 (hBq10.below hb11 hsq10)⟩ | exact ⟨box2 (HBx.out.below hk10 hWs), box2 hBq10⟩ | exact ⟨box2 (HBx.out.below hk9.drew hWs), box2 (HBy_9.out.below hbD hsy)⟩)
    (first
     | (go_at_call 18; refine (toSys_any _ x _ ((HX.out.below hk9.drew).wide hk9.drew.size) HWt.out).mono ?_; rintro e w10 ⟨v10, rfl, ho10, hb10⟩; have hk10 := hk9.drew.trans (hb10.mono hk9.drew.size); have hbb10 := hbD.trans (hb10.mono hbD.size); have hBq10 := HBy_9.out.below hbb10 hsy; have hsq10 : w5.heap.size < w10.heap.size := Nat.lt_of_lt_of_le hsy hbb10.size; have hxo10 := HU_9.out.on hbb10)
     | (go_at_call 21; refine (eqSys_any _ _ x _ hxo10 ho10.at HXW.out HWt.out).mono ?_; rintro e w11 ⟨rfl, hb11⟩; have hk11 := hk10.trans (hb11.mono hk10.size)))
  have hb11x := hbb10.trans (hb11.mono hbb10.size)
  clear HU_9
  have HR_11 := Lib.hid (HR_9.out.on hb11x)
  clear HR_9
  have HSI_11 := Lib.hid (HSI_9.out.on hb11x)
  clear HSI_9
  have HBy_11 := Lib.hid (HBy_9.out.on hb11x)
  clear HBy_9
  have HC1_11 := Lib.hid (HC1_9.out.of_block ((hb11x).block _ HC1_9.out.lt))
  clear HC1_9
  have HI_11 := Lib.hid (HI_9.out.on hb11x)
  clear HI_9
  have HzP_11 := Lib.hid (Nat.le_trans HzP_9.out (hb11x).size)
  clear HzP_9
  have HzI_11 := Lib.hid (Nat.le_trans HzI_9.out (hb11x).size)
  clear HzI_9
  clear x0 x1 y0 y1 hsy hbD hBq10
  obtain ⟨x0, x1⟩ := box2 (HBx.out.below hk11 hWs)
  obtain ⟨y0, y1⟩ := box2 HBy_11.out
  go_wp2_with fail
  refine (toIS_any B1 m1 d1 zs1 _ ((HS1.out.below hk11).wide hk11.size) HM1.out).mono ?_
  rintro e w12 ⟨rfl, hrow12, hb12⟩
  have hk12 := hk11.trans (hb12.mono hk11.size)
  have HR_12 := Lib.hid (HR_11.out.on hb12)
  clear HR_11
  have HSI_12 := Lib.hid (HSI_11.out.on hb12)
  clear HSI_11
  have HBy_12 := Lib.hid (HBy_11.out.on hb12)
  clear HBy_11
  have HC1_12 := Lib.hid (HC1_11.out.of_block ((hb12).block _ HC1_11.out.lt))
  clear HC1_11
  have HI_12 := Lib.hid (HI_11.out.on hb12)
  clear HI_11
  have HzP_12 := Lib.hid (Nat.le_trans HzP_11.out (hb12).size)
  clear HzP_11
  have HzI_12 := Lib.hid (Nat.le_trans HzI_11.out (hb12).size)
  clear HzI_11
  clear x0 x1 y0 y1
  obtain ⟨x0, x1⟩ := box2 (HBx.out.below hk12 hWs)
  obtain ⟨y0, y1⟩ := box2 HBy_12.out
  have hj := ints_row HS1.out.len hrow12
  go_wp2_with fail
  refine (eqIS_any _ _ m1 _ _ zs1 _ _ _ (ints_row HS1.out.len HC1_12.out) hj hm1).mono ?_
  rintro e w13 ⟨rfl, hd13⟩
  have hb13 := hd13.below w12.heap.size
  have hk13 := hk12.trans (hb13.mono hk12.size)
  have HR_13 := Lib.hid (HR_12.out.on hb13)
  clear HR_12
  have HSI_13 := Lib.hid (HSI_12.out.on hb13)
  clear HSI_12
  have HBy_13 := Lib.hid (HBy_12.out.on hb13)
  clear HBy_12
  have HC1_13 := Lib.hid (HC1_12.out.of_block ((hb13).block _ HC1_12.out.lt))
  clear HC1_12
  have HI_13 := Lib.hid (HI_12.out.on hb13)
  clear HI_12
  have HzP_13 := Lib.hid (Nat.le_trans HzP_12.out (hb13).size)
  clear HzP_12
  have HzI_13 := Lib.hid (Nat.le_trans HzI_12.out (hb13).size)
  clear HzI_12
  clear x0 x1 y0 y1
  obtain ⟨x0, x1⟩ := box2 (HBx.out.below hk13 hWs)
  obtain ⟨y0, y1⟩ := box2 HBy_13.out
  clear hj
  have HzW := Lib.hid hk4.size
  have hcs : w4.heap.size ≤ w13.heap.size := Nat.le_trans HzS.out (Nat.le_trans HlX.out HzP_13.out)
  go_wp2_with fail
  refine (markSys_any _ x 1 _ _ _ HSI_13.out HWt.out (by omega) (by omega)).mono ?_
  rintro e w14 ⟨k14, rfl, hp14, hq14, hn14⟩
  clear HSI_13
  clear HBy_13
  have hk14 := hk13.trans ((hn14.below (hcs)).mono (HzW.out))
  have HR_14 := Lib.hid (HR_13.out.far hn14 (.inr (Nat.le_refl _)))
  clear HR_13
  have HC1_14 := Lib.hid (HC1_13.out.of_block (hn14.block _ HC1_13.out.lt (.inr (Nat.le_trans (Nat.le_succ _) HqX1.out))))
  clear HC1_13
  have HI_14 := Lib.hid (HI_13.out.far hn14 (.inl HlX.out))
  clear HI_13
  have HzP_14 := Lib.hid (Nat.le_trans HzP_13.out hn14.size)
  clear HzP_13
  have HzI_14 := Lib.hid (Nat.le_trans HzI_13.out hn14.size)
  clear HzI_13
  clear x0 x1 y0 y1 hcs hn14
  obtain ⟨x0, x1⟩ := box2 (HBx.out.below hk14 hWs)
  have hK0 : 0 < k14 := hp14
  have hK1 : k14 ≤ 6400000 := hq14
  clear hp14 hq14
  go_wp2_with fail
  refine (markI_any _ m1 m1 _ k14 _ HC1_14.out (Nat.le_refl _) hK0 (by omega) (by have := HM1.out; omega)).mono ?_
  rintro e w15 ⟨rfl, hrow15, hg15⟩
  have hn15 := Only.of_grown hg15 HC1_14.out hrow15 (Nat.le_refl _) (Nat.lt_succ_self _)
  have hcs : w6.heap.size ≤ w14.heap.size := Nat.le_of_lt HC1_14.out.lt
  have hcw : W.heap.size ≤ w6.heap.size := Nat.le_trans HzW.out (Nat.le_trans HzS.out (Nat.le_trans (Nat.le_succ _) HqX1.out))
  clear HC1_14
  have hk15 := hk14.trans ((hn15.below (hcs)).mono (hcw))
  have HR_15 := Lib.hid (HR_14.out.far hn15 (.inr (Nat.le_trans HzS.out (Nat.le_trans (Nat.le_succ _) HqX1.out))))
  clear HR_14
  have HI_15 := Lib.hid (HI_14.out.far hn15 (.inl Hl1.out))
  clear HI_14
  have HzP_15 := Lib.hid (Nat.le_trans HzP_14.out hn15.size)
  clear HzP_14
  have HzI_15 := Lib.hid (Nat.le_trans HzI_14.out hn15.size)
  clear HzI_14
  obtain ⟨k15, hke⟩ : ∃ k, k14 + (m1 : Int) = k := ⟨_, rfl⟩
  have hK0 : 0 < k15 := by have := HM1.out; omega
  have hK1 : k15 ≤ 7448576 := by have := HM1.out; omega
  rw [hke]
  clear x0 x1 hcs hcw hn15 hrow15 hg15 hke
  obtain ⟨x0, x1⟩ := box2 (HBx.out.below hk15 hWs)
  have hKn : ¬ k15 < 0 := by omega
  go_wp2_with fail
  refine (eqRT_any r908 r904 vb _ _ _ _ _ HI_15.out HR_15.out HN.out).mono ?_
  rintro e w16 ⟨rfl, hb16⟩
  have hk16 := hk15.trans (hb16.mono hk15.size)
  have HR_16 := Lib.hid (HR_15.out.on hb16)
  clear HR_15
  have HI_16 := Lib.hid (HI_15.out.on hb16)
  clear HI_15
  have HzP_16 := Lib.hid (Nat.le_trans HzP_15.out (hb16).size)
  clear HzP_15
  have HzI_16 := Lib.hid (Nat.le_trans HzI_15.out (hb16).size)
  clear HzI_15
  clear x0 x1
  obtain ⟨x0, x1⟩ := box2 (HBx.out.below hk16 hWs)
  have hcs : w7.heap.size ≤ w16.heap.size := HzP_16.out
  have hcw : W.heap.size ≤ w7.heap.size := Nat.le_trans HzW.out (Nat.le_trans HzS.out HlX.out)
  obtain ⟨nn, hnn⟩ : ∃ nn, vb.length = nn := ⟨_, rfl⟩
  have hnn2 : nn ≤ 1048576 := by rw [← hnn]; exact HN.out
  go_wp2_with fail
  refine (markRT_any r908 _ 1 _ _ _ HI_16.out (by omega) (by omega) (by rw [hnn]; exact hnn2)).mono ?_
  rw [hnn]
  rintro e w17 ⟨rfl, hM17, hn17⟩
  clear HI_16
  have hk17 := hk16.trans ((hn17.below (hcs)).mono (hcw))
  have HR_17 := Lib.hid (HR_16.out.far hn17 (.inr (Nat.le_trans HzS.out HlX.out)))
  clear HR_16
  have HzP_17 := Lib.hid (Nat.le_trans HzP_16.out hn17.size)
  clear HzP_16
  have HzI_17 := Lib.hid (Nat.le_trans HzI_16.out hn17.size)
  clear HzI_16
  have HM_17 := Lib.hid (hM17)
  clear x0 x1 hcs hcw hM17 hn17 hnn
  obtain ⟨x0, x1⟩ := box2 (HBx.out.below hk17 hWs)
  have HNN := Lib.hid hnn2
  go_wp2_with fail
  refine (heldRT_any r908 nn 1 _ _ _ HM_17.out (by omega) (by omega) HNN.out).mono ?_
  rintro e w18 ⟨rfl, hb18⟩
  have hk18 := hk17.trans (hb18.mono hk17.size)
  have HR_18 := Lib.hid (HR_17.out.on hb18)
  clear HR_17
  have HzP_18 := Lib.hid (Nat.le_trans HzP_17.out (hb18).size)
  clear HzP_17
  have HzI_18 := Lib.hid (Nat.le_trans HzI_17.out (hb18).size)
  clear HzI_17
  have HM_18 := Lib.hid (HM_17.out.on hb18)
  clear HM_17
  clear x0 x1
  obtain ⟨x0, x1⟩ := box2 (HBx.out.below hk18 hWs)
  go_wp2_with fail
  refine (toSys_any _ x _ ((HX.out.below hk18).wide hk18.size) HWt.out).mono ?_
  rintro e w19 ⟨v19, rfl, ho19, hb19⟩
  have hk19 := hk18.trans (hb19.mono hk18.size)
  have hu := ho19.at
  have HCap := Lib.hid (CapS.of_own ho19)
  have HR_19 := Lib.hid (HR_18.out.on hb19)
  clear HR_18
  have HzP_19 := Lib.hid (Nat.le_trans HzP_18.out (hb19).size)
  clear HzP_18
  have HzI_19 := Lib.hid (Nat.le_trans HzI_18.out (hb19).size)
  clear HzI_18
  have HM_19 := Lib.hid (HM_18.out.on hb19)
  clear HM_18
  clear x0 x1
  obtain ⟨x0, x1⟩ := box2 (HBx.out.below hk19 hWs)
  go_wp2_with fail
  refine (toIS_any B1 m1 d1 zs1 _ ((HS1.out.below hk19).wide hk19.size) HM1.out).mono ?_
  rintro e w20 ⟨rfl, hrow20, hb20⟩
  have hk20 := hk19.trans (hb20.mono hk19.size)
  have hu := hu.on hb20
  have hl1 := hrow20
  have HR_20 := Lib.hid (HR_19.out.on hb20)
  clear HR_19
  have HzP_20 := Lib.hid (Nat.le_trans HzP_19.out (hb20).size)
  clear HzP_19
  have HzI_20 := Lib.hid (Nat.le_trans HzI_19.out (hb20).size)
  clear HzI_19
  have HM_20 := Lib.hid (HM_19.out.on hb20)
  clear HM_19
  clear x0 x1 hrow20
  obtain ⟨x0, x1⟩ := box2 (HBx.out.below hk20 hWs)
  go_wp2_with fail
  refine (HIm.out _ _ hu _ _ (ints_row HS1.out.len hl1) HCap.out).mono ?_
  rintro e w21 ⟨r921, rfl, hR21, hb21⟩
  have hk21 := hk20.trans (hb21.mono hk20.size)
  have HR_21 := Lib.hid (HR_20.out.on hb21)
  clear HR_20
  have HzP_21 := Lib.hid (Nat.le_trans HzP_20.out (hb21).size)
  clear HzP_20
  have HzI_21 := Lib.hid (Nat.le_trans HzI_20.out (hb21).size)
  clear HzI_20
  have HM_21 := Lib.hid (HM_20.out.on hb21)
  clear HM_20
  clear x0 x1 hu hl1
  obtain ⟨x0, x1⟩ := box2 (HBx.out.below hk21 hWs)
  have HJ_21 := Lib.hid (hR21)
  clear hR21
  go_wp2_with fail
  refine (eqRT_any r921 r904 vb _ _ _ _ _ HJ_21.out HR_21.out HN.out).mono ?_
  rintro e w22 ⟨rfl, hb22⟩
  have hk22 := hk21.trans (hb22.mono hk21.size)
  have HR_22 := Lib.hid (HR_21.out.on hb22)
  clear HR_21
  have HzP_22 := Lib.hid (Nat.le_trans HzP_21.out (hb22).size)
  clear HzP_21
  have HzI_22 := Lib.hid (Nat.le_trans HzI_21.out (hb22).size)
  clear HzI_21
  have HM_22 := Lib.hid (HM_21.out.on hb22)
  clear HM_21
  have HJ_22 := Lib.hid (HJ_21.out.on hb22)
  clear HJ_21
  clear x0 x1
  obtain ⟨x0, x1⟩ := box2 (HBx.out.below hk22 hWs)
  go_wp2_with fail
  refine (heldRT_any r908 nn 1 _ _ _ HM_22.out (by omega) (by omega) HNN.out).mono ?_
  rintro e w23 ⟨rfl, hb23⟩
  have hk23 := hk22.trans (hb23.mono hk22.size)
  have HR_23 := Lib.hid (HR_22.out.on hb23)
  clear HR_22
  have HzP_23 := Lib.hid (Nat.le_trans HzP_22.out (hb23).size)
  clear HzP_22
  have HzI_23 := Lib.hid (Nat.le_trans HzI_22.out (hb23).size)
  clear HzI_22
  have HM_23 := Lib.hid (HM_22.out.on hb23)
  clear HM_22
  have HJ_23 := Lib.hid (HJ_22.out.on hb23)
  clear HJ_22
  clear x0 x1
  obtain ⟨x0, x1⟩ := box2 (HBx.out.below hk23 hWs)
  go_wp2_with fail
  go_ret
  exact ⟨rfl, HB0.out.trans (hk23.mono HB0.out.size)⟩

theorem own : ownKnob Try.prog.godebug = none := by kernel_rfl
theorem laidOut : laidOutB Try.prog = true := facts.laid

set_option maxRecDepth 100000 in
theorem lifted (os : Os) (started : os.Started) (H : Type) (enc : TypeId × Value → H) :
    ReturnsInHanded {} Try.checked os 4 .any (Rows.fnExactShortestWaySpec.pre6 enc Try.prog Try.f4 Rows.fnExactShortestWayRow.domain false) (Rows.fnExactShortestWaySpec.post enc Try.prog Try.f4 false true false false) := by
  refine returnsInHanded_of_change (C := Try.checked) own started (by kernel_rfl) Try.func4
    (ChangeSpec.witness6 (enc := enc) (C := Try.checked) false ⟨#[], #[.agg #[.slice none 0 0, .slice none 0 0], .int .i64 0, .slice none 0 0], []⟩ 8 (by kernel_rfl) (by kernel_rfl) (by kernel_rfl) (by kernel_rfl)) ?_
  intro W base args ds gs before hval0 hW hcnd _
  have hval : ∀ (j : Nat) t v, Try.f4.params[j]? = some t → args[j]? = some v → Value.okWide Try.prog W .any base t v := hval0
  have hW' := hW
  obtain ⟨p, q, hA0, hV, rfl, hfz, hnd⟩ := hW
  have hA : DataW.TrodAll enc Try.prog W 0 (fun _ => true) true Try.f4.params.toList args.toList ds p := hA0
  rw [Try.params4] at hA hval
  obtain ⟨v0, vs0, d0, ds0, p0, q0, hargs, rfl, rfl, h0, r0⟩ := trodAll_cons hA
  obtain ⟨v1, vs1, d1, ds1, p1, q1, rfl, rfl, rfl, h1, r1⟩ := trodAll_cons r0
  obtain ⟨v2, vs2, d2, ds2, p2, q2, rfl, rfl, rfl, h2, r2⟩ := trodAll_cons r1
  obtain ⟨rfl, rfl, rfl⟩ := trodAll_nil r2
  obtain rfl : args = #[v0, v1, v2] := by cases args; simp_all
  obtain ⟨rfl, rfl⟩ := trodVars_none hV
  have k0 := h0
  have lt0 : ∀ x ∈ p0, x.block < W.heap.size := by obtain ⟨m, hm⟩ := k0; exact DataW.trod_lt m _ _ _ hm
  obtain ⟨b0, s0, w0⟩ := open_sys (hval 0 25 v0 rfl rfl) h0 lt0
  obtain ⟨a1, rfl, rfl, rfl, w1⟩ := open_int Try.underlying3 (hval 1 3 v1 rfl rfl) h1
  have k2 := h2
  have lt2 : ∀ x ∈ p2, x.block < W.heap.size := by obtain ⟨m, hm⟩ := k2; exact DataW.trod_lt m _ _ _ hm
  obtain ⟨A2, n2, c2, rfl⟩ := okWide_slice Try.underlying38 (hval 2 38 v2 rfl rfl)
  obtain ⟨zs2, s2, b2, w2⟩ := sr_ints Try.underlying38 Try.underlying3 (by kernel_rfl) h2 lt2
  clear hA0 hval0
  refine (walk v0 b0 a1 A2 n2 c2 zs2 W s0 w0 w1 s2 b2 w2).mono fun e W' ⟨he, bel⟩ => ?_
  subst he
  exact ⟨_, rfl, _, _, _, [], _, [], hW', trodAll_mk1 (shut_bool Try.underlying4 _), (trodAll_cons_mk (Below.trod laidOut (by kernel_rfl) (of_decide_eq_true (by kernel_rfl)) k0 bel lt0) (trodAll_cons_mk (shut_int Try.underlying3 w1) (trodAll_cons_mk (Below.trod laidOut (by kernel_rfl) (of_decide_eq_true (by kernel_rfl)) k2 bel lt2) trodAll_mk0))), rfl, bel.frame _, fun h => by cases h⟩

theorem closed : joinedFacts Try.checked.prog 4 Try.f4 Rows.fnExactShortestWaySpec Rows.fnExactShortestWayRow = true := by
  unfold joinedFacts
  rw [facts.laid, facts.maps, facts.heard, facts.enter, facts.lifts, facts.make, facts.keys]
  kernel_rfl

theorem over : Rows.fnExactShortestWayRow.holds Try.pinned (OpenSpec.ofChange Rows.fnExactShortestWaySpec) :=
  OpenClaim.holds_of_wide 4 Try.f4 rfl rfl rfl rfl rfl rfl rfl ⟨rfl, rfl, rfl, rfl, rfl⟩ rfl rfl rfl rfl rfl (by kernel_rfl) Try.func4 closed
    (of_decide_eq_true (by kernel_rfl)) (by unfold Func.isWrapper; first | (rw [if_pos (by decide +kernel)]; kernel_rfl) | (rw [if_neg (by decide +kernel)]; exact ⟨rfl, rfl⟩))
    (fun os started H enc _ => lifted os started H enc)

theorem proved : Rows.FnExactShortestWaySaid := over
#print axioms proved
end Go.Proofs.Ytlpgldejmdiceaa.fnExactShortestWay
