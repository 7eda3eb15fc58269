/- FnExactSwapOf: at all arguments impl's function answers as spec's does, leaves them as they were, and its answer shares no memory. No condition. -/
import Derived.Test.YtifialdkjnmfoaaSwi
import Derived.Test.YtifialdkjnmfoaaFacts
namespace Go.Proofs.Ytifialdkjnmfoaa.fnExactSwapOf
open kit bg opn strs sig isig hc only hb ht gd cf lawb rs marks hi br bm bw lw sw swi
open Go.ChangeShapes Go.WideShapes Go.ChangeAt Go.RowKit
open Go.ChangeMaps (open_string shut_string)
set_option linter.unusedVariables false

set_option maxRecDepth 20000 in
set_option maxHeartbeats 6400000 in
theorem walk (z0 : Int) (z1 : Int) (w : World) (hw0 : (Lit.int .i64 z0).wf = true) (hw1 : (Lit.int .i64 z1).wf = true) :
    Calls Try.prog 7 #[.int .i64 z0, .int .i64 z1] w fun e w' => e = .returned (.bool true) ∧ Below w.heap.size w w' := by
  have HK0 := Lib.hid (Below.refl w.heap.size w)
  obtain ⟨w0, hWw⟩ : ∃ w0, w = w0 := ⟨_, rfl⟩
  subst hWw
  go_enter Try.func7, Try.ntmps7
  go_wp2_with fail
  obtain ⟨q, hq⟩ : ∃ q, swpB z0 z1 = q := ⟨_, rfl⟩
  obtain ⟨R0, hR0⟩ : ∃ r : Big, swpR z0 z1 = r := ⟨_, rfl⟩
  have hM0 : bigMk R0 ≤ 1048576 := by rw [← hR0]; exact swpR_len z0 z1
  have HSp := Lib.hid (fun (w : World) => hR0 ▸ hq ▸ sSwp_any z0 z1 w hw0 hw1)
  have HIm := Lib.hid (fun (w : World) => hR0 ▸ hq ▸ iSwp_any z0 z1 w hw0 hw1)
  clear hq hR0
  go_wp2_with fail
  refine (HSp.out _ ).mono ?_
  rintro e w1 ⟨vb0, rfl, hrb0, hb⟩; obtain ⟨B1b0, d1b0, B2b0, d2b0, B4b0, d4b0, B5b0, d5b0, rfl⟩ := hrb0.shape
  have HZ_1 : Hid (w.heap.size ≤ w1.heap.size) := Lib.hid hb.size
  have HKn := Lib.hid (HK0.out.trans (hb.mono HK0.out.size))
  clear HK0
  have HK0 := Lib.hid HKn.out
  clear HKn
  clear hb
  have HRb := Lib.hid hrb0
  clear hrb0
  have hbX := (Below.refl w1.heap.size w1).alloc (Nat.le_refl _) (.cells #[.int .i64 R0.roots, .slice B1b0 R0.nodes.length d1b0, .slice B2b0 R0.sites.length d2b0, .int .i64 R0.edges, .slice B4b0 R0.outer.length d4b0, .slice B5b0 R0.inner.length d5b0] 39)
  go_wp2_with fail
  have HBxb : Hid (BoxAt (w1.alloc (.cells #[.int .i64 R0.roots, .slice B1b0 R0.nodes.length d1b0, .slice B2b0 R0.sites.length d2b0, .int .i64 R0.edges, .slice B4b0 R0.outer.length d4b0, .slice B5b0 R0.inner.length d5b0] 39)) w1.heap.size 39 (.int .i64 R0.roots) (.slice B1b0 R0.nodes.length d1b0) (.slice B2b0 R0.sites.length d2b0) (.int .i64 R0.edges) (.slice B4b0 R0.outer.length d4b0) (.slice B5b0 R0.inner.length d5b0)) := Lib.hid (six_new w1 _ _ _ _ _ _ _)
  obtain ⟨w2, hwn⟩ : ∃ x, w1.alloc (.cells #[.int .i64 R0.roots, .slice B1b0 R0.nodes.length d1b0, .slice B2b0 R0.sites.length d2b0, .int .i64 R0.edges, .slice B4b0 R0.outer.length d4b0, .slice B5b0 R0.inner.length d5b0] 39) = x := ⟨_, rfl⟩
  have HZs_2 : Hid (w1.heap.size < w2.heap.size) := Lib.hid (by rw [← hwn]; simp)
  rw [hwn] at HBxb hbX ⊢
  clear hwn
  have HZ_2 : Hid (w1.heap.size ≤ w2.heap.size) := Lib.hid hbX.size
  have HKn := Lib.hid (HK0.out.trans (hbX.mono HK0.out.size))
  clear HK0
  have HK0 := Lib.hid HKn.out
  clear HKn
  have HT := Lib.hid (HRb.out.on hbX)
  clear HRb
  have HRb := Lib.hid HT.out
  clear HT
  clear hbX
  refine (HIm.out _ ).mono ?_
  rintro e w3 ⟨vg0, rfl, hrg0, hb⟩; obtain ⟨B1g0, d1g0, B2g0, d2g0, B4g0, d4g0, B5g0, d5g0, rfl⟩ := hrg0.shape
  have HZ_3 : Hid (w2.heap.size ≤ w3.heap.size) := Lib.hid hb.size
  have HKn := Lib.hid (HK0.out.trans (hb.mono HK0.out.size))
  clear HK0
  have HK0 := Lib.hid HKn.out
  clear HKn
  have HT := Lib.hid (HRb.out.on hb)
  clear HRb
  have HRb := Lib.hid HT.out
  clear HT
  have HT := Lib.hid (HBxb.out.on hb)
  clear HBxb
  have HBxb := Lib.hid HT.out
  clear HT
  clear hb
  have HRg := Lib.hid hrg0
  clear hrg0
  have hbX := (Below.refl w3.heap.size w3).alloc (Nat.le_refl _) (.cells #[.int .i64 R0.roots, .slice B1g0 R0.nodes.length d1g0, .slice B2g0 R0.sites.length d2g0, .int .i64 R0.edges, .slice B4g0 R0.outer.length d4g0, .slice B5g0 R0.inner.length d5g0] 39)
  obtain ⟨y0, y1, y2, y3, y4, y5⟩ := (HBxb.out.on hbX).get
  go_wp2_with fail
  clear y0 y1 y2 y3 y4 y5
  have HBxg : Hid (BoxAt (w3.alloc (.cells #[.int .i64 R0.roots, .slice B1g0 R0.nodes.length d1g0, .slice B2g0 R0.sites.length d2g0, .int .i64 R0.edges, .slice B4g0 R0.outer.length d4g0, .slice B5g0 R0.inner.length d5g0] 39)) w3.heap.size 39 (.int .i64 R0.roots) (.slice B1g0 R0.nodes.length d1g0) (.slice B2g0 R0.sites.length d2g0) (.int .i64 R0.edges) (.slice B4g0 R0.outer.length d4g0) (.slice B5g0 R0.inner.length d5g0)) := Lib.hid (six_new w3 _ _ _ _ _ _ _)
  obtain ⟨w4, hwn⟩ : ∃ x, w3.alloc (.cells #[.int .i64 R0.roots, .slice B1g0 R0.nodes.length d1g0, .slice B2g0 R0.sites.length d2g0, .int .i64 R0.edges, .slice B4g0 R0.outer.length d4g0, .slice B5g0 R0.inner.length d5g0] 39) = x := ⟨_, rfl⟩
  have HZs_4 : Hid (w3.heap.size < w4.heap.size) := Lib.hid (by rw [← hwn]; simp)
  rw [hwn] at HBxg hbX ⊢
  clear hwn
  have HZ_4 : Hid (w3.heap.size ≤ w4.heap.size) := Lib.hid hbX.size
  have HKn := Lib.hid (HK0.out.trans (hbX.mono HK0.out.size))
  clear HK0
  have HK0 := Lib.hid HKn.out
  clear HKn
  have HT := Lib.hid (HRb.out.on hbX)
  clear HRb
  have HRb := Lib.hid HT.out
  clear HT
  have HT := Lib.hid (HBxb.out.on hbX)
  clear HBxb
  have HBxb := Lib.hid HT.out
  clear HT
  have HT := Lib.hid (HRg.out.on hbX)
  clear HRg
  have HRg := Lib.hid HT.out
  clear HT
  clear hbX
  refine (eqBR_any _ _ R0 _ _ _ _ _ HRg.out HRb.out (by have := HZ_1.out; have := HZs_2.out; have := HZ_2.out; have := HZ_3.out; have := HZs_4.out; have := HZ_4.out; omega) (by have := HZ_1.out; have := HZs_2.out; have := HZ_2.out; have := HZ_3.out; have := HZs_4.out; have := HZ_4.out; omega) hM0).mono ?_
  rintro e w5 ⟨rfl, hb⟩
  have HZ_5 : Hid (w4.heap.size ≤ w5.heap.size) := Lib.hid hb.size
  have HKn := Lib.hid (HK0.out.trans (hb.mono HK0.out.size))
  clear HK0
  have HK0 := Lib.hid HKn.out
  clear HKn
  have HT := Lib.hid (HRb.out.on hb)
  clear HRb
  have HRb := Lib.hid HT.out
  clear HT
  have HT := Lib.hid (HBxb.out.on hb)
  clear HBxb
  have HBxb := Lib.hid HT.out
  clear HT
  have HT := Lib.hid (HRg.out.on hb)
  clear HRg
  have HRg := Lib.hid HT.out
  clear HT
  have HT := Lib.hid (HBxg.out.on hb)
  clear HBxg
  have HBxg := Lib.hid HT.out
  clear HT
  clear hb
  obtain ⟨x0, x1, x2, x3, x4, x5⟩ := HBxg.out.get
  go_wp2_with fail
  clear x0 x1 x2 x3 x4 x5
  refine (markBR_any _ R0 1 _ w2.heap.size w3.heap.size HRg.out (by have := HZ_1.out; have := HZs_2.out; have := HZ_2.out; have := HZ_3.out; have := HZs_4.out; have := HZ_4.out; have := HZ_5.out; omega) (by omega) (by omega) hM0).mono ?_
  rintro e w6 ⟨rfl, hm, hq⟩
  clear HRg
  have HZ_6 : Hid (w5.heap.size ≤ w6.heap.size) := Lib.hid hq.size
  have HKn := Lib.hid (HK0.out.trans ((hq.below (show w2.heap.size ≤ w5.heap.size by have := HZ_1.out; have := HZs_2.out; have := HZ_2.out; have := HZ_3.out; have := HZs_4.out; have := HZ_4.out; have := HZ_5.out; have := HZ_6.out; omega)).mono (show w.heap.size ≤ w2.heap.size by have := HZ_1.out; have := HZs_2.out; have := HZ_2.out; have := HZ_3.out; have := HZs_4.out; have := HZ_4.out; have := HZ_5.out; have := HZ_6.out; omega)))
  clear HK0
  have HK0 := Lib.hid HKn.out
  clear HKn
  have HT := Lib.hid (HRb.out.far hq (by have := HZ_1.out; have := HZs_2.out; have := HZ_2.out; have := HZ_3.out; have := HZs_4.out; have := HZ_4.out; have := HZ_5.out; have := HZ_6.out; omega))
  clear HRb
  have HRb := Lib.hid HT.out
  clear HT
  have HT := Lib.hid (HBxb.out.far hq (by have := HZ_1.out; have := HZs_2.out; have := HZ_2.out; have := HZ_3.out; have := HZs_4.out; have := HZ_4.out; have := HZ_5.out; have := HZ_6.out; omega))
  clear HBxb
  have HBxb := Lib.hid HT.out
  clear HT
  have HT := Lib.hid (HBxg.out.far hq (by have := HZ_1.out; have := HZs_2.out; have := HZ_2.out; have := HZ_3.out; have := HZs_4.out; have := HZ_4.out; have := HZ_5.out; have := HZ_6.out; omega))
  clear HBxg
  have HBxg := Lib.hid HT.out
  clear HT
  clear hq
  have HMk := Lib.hid hm
  clear hm
  obtain ⟨mm, hmm⟩ : ∃ k : Int, 1 + (bigMk R0 : Int) = k := ⟨_, rfl⟩
  rw [hmm]
  have Hmm := Lib.hid hmm
  have hmp : 0 < mm := by omega
  clear hmm
  obtain ⟨x0, x1, x2, x3, x4, x5⟩ := HBxg.out.get
  go_wp2_with fail
  clear x0 x1 x2 x3 x4 x5
  refine (heldBR_any _ R0 1 _ w2.heap.size w3.heap.size HMk.out (by omega) (by omega) hM0).mono ?_
  rintro e w7 ⟨rfl, hb⟩
  rw [Hmm.out]
  have HZ_7 : Hid (w6.heap.size ≤ w7.heap.size) := Lib.hid hb.size
  have HKn := Lib.hid (HK0.out.trans (hb.mono HK0.out.size))
  clear HK0
  have HK0 := Lib.hid HKn.out
  clear HKn
  have HT := Lib.hid (HRb.out.on hb)
  clear HRb
  have HRb := Lib.hid HT.out
  clear HT
  have HT := Lib.hid (HBxb.out.on hb)
  clear HBxb
  have HBxb := Lib.hid HT.out
  clear HT
  have HT := Lib.hid (HBxg.out.on hb)
  clear HBxg
  have HBxg := Lib.hid HT.out
  clear HT
  have HT := Lib.hid (HMk.out.on hb)
  clear HMk
  have HMk := Lib.hid HT.out
  clear HT
  clear hb
  go_wp2_with fail
  refine (HIm.out _ ).mono ?_
  rintro e w8 ⟨vc0, rfl, hrc0, hb⟩; obtain ⟨B1c0, d1c0, B2c0, d2c0, B4c0, d4c0, B5c0, d5c0, rfl⟩ := hrc0.shape
  have HZ_8 : Hid (w7.heap.size ≤ w8.heap.size) := Lib.hid hb.size
  have HKn := Lib.hid (HK0.out.trans (hb.mono HK0.out.size))
  clear HK0
  have HK0 := Lib.hid HKn.out
  clear HKn
  have HT := Lib.hid (HRb.out.on hb)
  clear HRb
  have HRb := Lib.hid HT.out
  clear HT
  have HT := Lib.hid (HBxb.out.on hb)
  clear HBxb
  have HBxb := Lib.hid HT.out
  clear HT
  have HT := Lib.hid (HBxg.out.on hb)
  clear HBxg
  have HBxg := Lib.hid HT.out
  clear HT
  have HT := Lib.hid (HMk.out.on hb)
  clear HMk
  have HMk := Lib.hid HT.out
  clear HT
  clear hb
  have HRc := Lib.hid hrc0
  clear hrc0
  have hbX := (Below.refl w8.heap.size w8).alloc (Nat.le_refl _) (.cells #[.int .i64 R0.roots, .slice B1c0 R0.nodes.length d1c0, .slice B2c0 R0.sites.length d2c0, .int .i64 R0.edges, .slice B4c0 R0.outer.length d4c0, .slice B5c0 R0.inner.length d5c0] 39)
  obtain ⟨y0, y1, y2, y3, y4, y5⟩ := (HBxb.out.on hbX).get
  go_wp2_with fail
  clear y0 y1 y2 y3 y4 y5
  have HBxc : Hid (BoxAt (w8.alloc (.cells #[.int .i64 R0.roots, .slice B1c0 R0.nodes.length d1c0, .slice B2c0 R0.sites.length d2c0, .int .i64 R0.edges, .slice B4c0 R0.outer.length d4c0, .slice B5c0 R0.inner.length d5c0] 39)) w8.heap.size 39 (.int .i64 R0.roots) (.slice B1c0 R0.nodes.length d1c0) (.slice B2c0 R0.sites.length d2c0) (.int .i64 R0.edges) (.slice B4c0 R0.outer.length d4c0) (.slice B5c0 R0.inner.length d5c0)) := Lib.hid (six_new w8 _ _ _ _ _ _ _)
  obtain ⟨w9, hwn⟩ : ∃ x, w8.alloc (.cells #[.int .i64 R0.roots, .slice B1c0 R0.nodes.length d1c0, .slice B2c0 R0.sites.length d2c0, .int .i64 R0.edges, .slice B4c0 R0.outer.length d4c0, .slice B5c0 R0.inner.length d5c0] 39) = x := ⟨_, rfl⟩
  have HZs_9 : Hid (w8.heap.size < w9.heap.size) := Lib.hid (by rw [← hwn]; simp)
  rw [hwn] at HBxc hbX ⊢
  clear hwn
  have HZ_9 : Hid (w8.heap.size ≤ w9.heap.size) := Lib.hid hbX.size
  have HKn := Lib.hid (HK0.out.trans (hbX.mono HK0.out.size))
  clear HK0
  have HK0 := Lib.hid HKn.out
  clear HKn
  have HT := Lib.hid (HRb.out.on hbX)
  clear HRb
  have HRb := Lib.hid HT.out
  clear HT
  have HT := Lib.hid (HBxb.out.on hbX)
  clear HBxb
  have HBxb := Lib.hid HT.out
  clear HT
  have HT := Lib.hid (HBxg.out.on hbX)
  clear HBxg
  have HBxg := Lib.hid HT.out
  clear HT
  have HT := Lib.hid (HMk.out.on hbX)
  clear HMk
  have HMk := Lib.hid HT.out
  clear HT
  have HT := Lib.hid (HRc.out.on hbX)
  clear HRc
  have HRc := Lib.hid HT.out
  clear HT
  clear hbX
  refine (eqBR_any _ _ R0 _ _ _ _ _ HRc.out HRb.out (by have := HZ_1.out; have := HZs_2.out; have := HZ_2.out; have := HZ_3.out; have := HZs_4.out; have := HZ_4.out; have := HZ_5.out; have := HZ_6.out; have := HZ_7.out; have := HZ_8.out; have := HZs_9.out; have := HZ_9.out; omega) (by have := HZ_1.out; have := HZs_2.out; have := HZ_2.out; have := HZ_3.out; have := HZs_4.out; have := HZ_4.out; have := HZ_5.out; have := HZ_6.out; have := HZ_7.out; have := HZ_8.out; have := HZs_9.out; have := HZ_9.out; omega) hM0).mono ?_
  rintro e w10 ⟨rfl, hb⟩
  have HZ_10 : Hid (w9.heap.size ≤ w10.heap.size) := Lib.hid hb.size
  have HKn := Lib.hid (HK0.out.trans (hb.mono HK0.out.size))
  clear HK0
  have HK0 := Lib.hid HKn.out
  clear HKn
  have HT := Lib.hid (HRb.out.on hb)
  clear HRb
  have HRb := Lib.hid HT.out
  clear HT
  have HT := Lib.hid (HBxb.out.on hb)
  clear HBxb
  have HBxb := Lib.hid HT.out
  clear HT
  have HT := Lib.hid (HBxg.out.on hb)
  clear HBxg
  have HBxg := Lib.hid HT.out
  clear HT
  have HT := Lib.hid (HMk.out.on hb)
  clear HMk
  have HMk := Lib.hid HT.out
  clear HT
  have HT := Lib.hid (HRc.out.on hb)
  clear HRc
  have HRc := Lib.hid HT.out
  clear HT
  have HT := Lib.hid (HBxc.out.on hb)
  clear HBxc
  have HBxc := Lib.hid HT.out
  clear HT
  clear hb
  obtain ⟨x0, x1, x2, x3, x4, x5⟩ := HBxg.out.get
  go_wp2_with fail
  clear x0 x1 x2 x3 x4 x5
  refine (heldBR_any _ R0 1 _ w2.heap.size w3.heap.size HMk.out (by omega) (by omega) hM0).mono ?_
  rintro e w11 ⟨rfl, hb⟩
  rw [Hmm.out]
  have HZ_11 : Hid (w10.heap.size ≤ w11.heap.size) := Lib.hid hb.size
  have HKn := Lib.hid (HK0.out.trans (hb.mono HK0.out.size))
  clear HK0
  have HK0 := Lib.hid HKn.out
  clear HKn
  have HT := Lib.hid (HRb.out.on hb)
  clear HRb
  have HRb := Lib.hid HT.out
  clear HT
  have HT := Lib.hid (HBxb.out.on hb)
  clear HBxb
  have HBxb := Lib.hid HT.out
  clear HT
  have HT := Lib.hid (HBxg.out.on hb)
  clear HBxg
  have HBxg := Lib.hid HT.out
  clear HT
  have HT := Lib.hid (HMk.out.on hb)
  clear HMk
  have HMk := Lib.hid HT.out
  clear HT
  have HT := Lib.hid (HRc.out.on hb)
  clear HRc
  have HRc := Lib.hid HT.out
  clear HT
  have HT := Lib.hid (HBxc.out.on hb)
  clear HBxc
  have HBxc := Lib.hid HT.out
  clear HT
  clear hb
  go_wp2_with fail
  go_ret
  exact ⟨rfl, HK0.out⟩

theorem own : ownKnob Try.prog.godebug = none := by kernel_rfl
theorem laidOut : laidOutB Try.prog = true := facts.laid

set_option maxRecDepth 100000 in
theorem lifted (os : Os) (started : os.Started) (H : Type) (enc : TypeId × Value → H) :
    ReturnsInHanded {} Try.checked os 7 .any (Rows.fnExactSwapOfSpec.pre6 enc Try.prog Try.f7 Rows.fnExactSwapOfRow.domain false) (Rows.fnExactSwapOfSpec.post enc Try.prog Try.f7 false true false false) := by
  refine returnsInHanded_of_change (C := Try.checked) own started (by kernel_rfl) Try.func7
    (ChangeSpec.witness6 (enc := enc) (C := Try.checked) false ⟨#[], #[.int .i64 0, .int .i64 0], []⟩ 8 (by kernel_rfl) (by kernel_rfl) (by kernel_rfl) (by kernel_rfl)) ?_
  intro W base args ds gs before hval0 hW hcnd _
  have hval : ∀ (j : Nat) t v, Try.f7.params[j]? = some t → args[j]? = some v → Value.okWide Try.prog W .any base t v := hval0
  have hW' := hW
  obtain ⟨p, q, hA0, hV, rfl, hfz, hnd⟩ := hW
  have hA : DataW.TrodAll enc Try.prog W 0 (fun _ => true) true Try.f7.params.toList args.toList ds p := hA0
  rw [Try.params7] at hA hval
  obtain ⟨v0, vs0, d0, ds0, p0, q0, hargs, rfl, rfl, h0, r0⟩ := trodAll_cons hA
  obtain ⟨v1, vs1, d1, ds1, p1, q1, rfl, rfl, rfl, h1, r1⟩ := trodAll_cons r0
  obtain ⟨rfl, rfl, rfl⟩ := trodAll_nil r1
  obtain rfl : args = #[v0, v1] := by cases args; simp_all
  obtain ⟨rfl, rfl⟩ := trodVars_none hV
  obtain ⟨a0, rfl, rfl, rfl, w0⟩ := open_int Try.underlying3 (hval 0 3 v0 rfl rfl) h0
  obtain ⟨a1, rfl, rfl, rfl, w1⟩ := open_int Try.underlying3 (hval 1 3 v1 rfl rfl) h1
  clear hA0 hval0
  refine (walk a0 a1 W w0 w1).mono fun e W' ⟨he, bel⟩ => ?_
  subst he
  exact ⟨_, rfl, _, _, _, [], _, [], hW', trodAll_mk1 (shut_bool Try.underlying4 _), (trodAll_cons_mk (shut_int Try.underlying3 w0) (trodAll_cons_mk (shut_int Try.underlying3 w1) trodAll_mk0)), rfl, bel.frame _, fun h => by cases h⟩

theorem closed : joinedFacts Try.checked.prog 7 Try.f7 Rows.fnExactSwapOfSpec Rows.fnExactSwapOfRow = true := by
  unfold joinedFacts
  rw [facts.laid, facts.maps, facts.heard, facts.enter, facts.lifts, facts.make, facts.keys]
  kernel_rfl

theorem over : Rows.fnExactSwapOfRow.holds Try.pinned (OpenSpec.ofChange Rows.fnExactSwapOfSpec) :=
  OpenClaim.holds_of_wide 7 Try.f7 rfl rfl rfl rfl rfl rfl rfl ⟨rfl, rfl, rfl, rfl, rfl⟩ rfl rfl rfl rfl rfl (by kernel_rfl) Try.func7 closed
    (of_decide_eq_true (by kernel_rfl)) (by unfold Func.isWrapper; first | (rw [if_pos (by decide +kernel)]; kernel_rfl) | (rw [if_neg (by decide +kernel)]; exact ⟨rfl, rfl⟩))
    (fun os started H enc _ => lifted os started H enc)

theorem proved : Rows.FnExactSwapOfSaid := over
#print axioms proved
end Go.Proofs.Ytifialdkjnmfoaa.fnExactSwapOf
