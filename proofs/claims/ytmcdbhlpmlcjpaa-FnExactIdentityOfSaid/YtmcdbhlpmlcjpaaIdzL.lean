/- FnExactIdentityOf: at all arguments impl's function answers as spec's does, leaves them as they were, and its answer shares no memory. No condition. -/
import Derived.Test.YtmcdbhlpmlcjpaaIdz
import Derived.Test.YtmcdbhlpmlcjpaaQd
namespace Go.Proofs.Ytmcdbhlpmlcjpaa.fnExactIdentityOf
open kit bg opn strs sig isig hc only hb ht gd cf lawb rs marks hi br bm bw lw idz
open Go.ChangeShapes Go.WideShapes Go.ChangeAt Go.RowKit
open Go.ChangeMaps (open_string shut_string)
set_option linter.unusedVariables false

set_option maxRecDepth 20000 in
set_option maxHeartbeats 6400000 in
theorem walk (z0 : Int) (A1 : Option Addr) (n1 c1 : Nat) (ss1 : List ByteArray) (w : World) (hw0 : (Lit.int .i64 z0).wf = true) (h1 : SR w w.heap.size A1 n1 (ss1.map Value.string)) (hl1 : n1 ≤ maxLen) (hw1 : ∀ s ∈ ss1, s.size ≤ maxLen) :
    Calls Try.prog 3 #[.int .i64 z0, .slice A1 n1 c1] w fun e w' => e = .returned (.bool true) ∧ Below w.heap.size w w' := by
  have HA1 := Lib.hid h1
  clear h1
  have HK0 := Lib.hid (Below.refl w.heap.size w)
  obtain ⟨w0, hWw⟩ : ∃ w0, w = w0 := ⟨_, rfl⟩
  subst hWw
  go_enter Try.func3, Try.ntmps3
  go_wp2_with fail
  refine (sz_any A1 n1 c1 ss1 1048576 _ _ ((HA1.out.below HK0.out).wide HK0.out.size) (by omega) (by omega) hl1 hw1).mono ?_
  rintro e w1 ⟨r1, rfl, hr, hrb1, rfl⟩
  by_cases hneg : r1 < 0
  · go_wp2_with fail
    go_ret
    exact ⟨rfl, HK0.out⟩
  have hpos1 : 0 ≤ r1 := by omega
  have HWt1 : Hid (r1 = 1048576 - ((ss1.length + tot ss1) : Nat)) := Lib.hid (by push_cast; omega)
  have hup1 : r1 ≤ 1048576 := by omega
  have hn1 : n1 ≤ 1048576 := by have := HA1.out.strlen; omega
  have HS1 := Lib.hid (fun s (hs : s ∈ ss1) => show s.size ≤ 1048576 by have := tot_mem hs; omega)
  clear hr hneg hrb1
  obtain ⟨q, hq⟩ : ∃ q, idQ z0 ss1 = q := ⟨_, rfl⟩
  obtain ⟨R0, hR0⟩ : ∃ r : Big, idR z0 ss1 = r := ⟨_, rfl⟩
  have hM0 : bigMk R0 ≤ 1048576 := by rw [← hR0]; exact id_len z0 ss1
  have HSp := Lib.hid (fun (A1 : Option Addr) (c1 : Nat) (w : World) (h1 : SR w w.heap.size A1 ss1.length (ss1.map Value.string)) (g1 : A1 = none → c1 = 0) => hR0 ▸ hq ▸ sId_any z0 A1 ss1.length c1 ss1 w hw0 h1 (by rw [HA1.out.strlen]; exact hn1) HS1.out g1)
  have HIm := Lib.hid (fun (A1 : Option Addr) (c1 : Nat) (w : World) (h1 : SR w w.heap.size A1 ss1.length (ss1.map Value.string)) (g1 : A1 = none → c1 = 0) => hR0 ▸ hq ▸ iId_any z0 A1 ss1.length c1 ss1 w hw0 h1 (by rw [HA1.out.strlen]; exact hn1) HS1.out g1)
  clear hq hR0
  obtain rfl := HA1.out.strlen
  go_wp2_with fail
  refine (toSR_any A1 _ c1 ss1 _ ((HA1.out.below HK0.out).wide HK0.out.size) hn1).mono ?_
  rintro e w1 ⟨gb1, rfl, ho, hb⟩
  have HZ_1 : Hid (w.heap.size ≤ w1.heap.size) := Lib.hid hb.size
  have HKn := Lib.hid (HK0.out.trans (hb.mono HK0.out.size))
  clear HK0
  have HK0 := Lib.hid HKn.out
  clear HKn
  clear hb
  have HCb1 := Lib.hid ho
  clear ho
  go_wp2_with fail
  refine (HSp.out _ _ _ (strsR_at (rowR_here HCb1.out)) (fun e => by cases e)).mono ?_
  rintro e w2 ⟨vb0, rfl, hrb0, hb⟩; obtain ⟨B1b0, d1b0, B2b0, d2b0, B4b0, d4b0, B5b0, d5b0, rfl⟩ := hrb0.shape
  clear HCb1
  have HZ_2 : Hid (w1.heap.size ≤ w2.heap.size) := Lib.hid hb.size
  have HKn := Lib.hid (HK0.out.trans (hb.mono HK0.out.size))
  clear HK0
  have HK0 := Lib.hid HKn.out
  clear HKn
  clear hb
  have HRb := Lib.hid hrb0
  clear hrb0
  have hbX := (Below.refl w2.heap.size w2).alloc (Nat.le_refl _) (.cells #[.int .i64 R0.roots, .slice B1b0 R0.nodes.length d1b0, .slice B2b0 R0.sites.length d2b0, .int .i64 R0.edges, .slice B4b0 R0.outer.length d4b0, .slice B5b0 R0.inner.length d5b0] 28)
  go_wp2_with fail
  have HBxb : Hid (BoxAt (w2.alloc (.cells #[.int .i64 R0.roots, .slice B1b0 R0.nodes.length d1b0, .slice B2b0 R0.sites.length d2b0, .int .i64 R0.edges, .slice B4b0 R0.outer.length d4b0, .slice B5b0 R0.inner.length d5b0] 28)) w2.heap.size 28 (.int .i64 R0.roots) (.slice B1b0 R0.nodes.length d1b0) (.slice B2b0 R0.sites.length d2b0) (.int .i64 R0.edges) (.slice B4b0 R0.outer.length d4b0) (.slice B5b0 R0.inner.length d5b0)) := Lib.hid (six_new w2 _ _ _ _ _ _ _)
  obtain ⟨w3, hwn⟩ : ∃ x, w2.alloc (.cells #[.int .i64 R0.roots, .slice B1b0 R0.nodes.length d1b0, .slice B2b0 R0.sites.length d2b0, .int .i64 R0.edges, .slice B4b0 R0.outer.length d4b0, .slice B5b0 R0.inner.length d5b0] 28) = x := ⟨_, rfl⟩
  have HZs_3 : Hid (w2.heap.size < w3.heap.size) := Lib.hid (by rw [← hwn]; simp)
  rw [hwn] at HBxb hbX ⊢
  clear hwn
  have HZ_3 : Hid (w2.heap.size ≤ w3.heap.size) := Lib.hid hbX.size
  have HKn := Lib.hid (HK0.out.trans (hbX.mono HK0.out.size))
  clear HK0
  have HK0 := Lib.hid HKn.out
  clear HKn
  have HT := Lib.hid (HRb.out.on hbX)
  clear HRb
  have HRb := Lib.hid HT.out
  clear HT
  clear hbX
  refine (toSR_any A1 _ c1 ss1 _ ((HA1.out.below HK0.out).wide HK0.out.size) hn1).mono ?_
  rintro e w4 ⟨X1, rfl, ho, hb⟩
  have HZ_4 : Hid (w3.heap.size ≤ w4.heap.size) := Lib.hid hb.size
  have HKn := Lib.hid (HK0.out.trans (hb.mono HK0.out.size))
  clear HK0
  have HK0 := Lib.hid HKn.out
  clear HKn
  have HT := Lib.hid (HRb.out.on hb)
  clear HRb
  have HRb := Lib.hid HT.out
  clear HT
  have HT := Lib.hid (HBxb.out.on hb)
  clear HBxb
  have HBxb := Lib.hid HT.out
  clear HT
  clear hb
  have HX1 := Lib.hid ho
  clear ho
  go_wp2_with fail
  refine (HIm.out _ _ _ (strsR_at (rowR_here HX1.out)) (fun e => by cases e)).mono ?_
  rintro e w5 ⟨vg0, rfl, hrg0, hb⟩; obtain ⟨B1g0, d1g0, B2g0, d2g0, B4g0, d4g0, B5g0, d5g0, rfl⟩ := hrg0.shape
  have HZ_5 : Hid (w4.heap.size ≤ w5.heap.size) := Lib.hid hb.size
  have HKn := Lib.hid (HK0.out.trans (hb.mono HK0.out.size))
  clear HK0
  have HK0 := Lib.hid HKn.out
  clear HKn
  have HT := Lib.hid (HRb.out.on hb)
  clear HRb
  have HRb := Lib.hid HT.out
  clear HT
  have HT := Lib.hid (HBxb.out.on hb)
  clear HBxb
  have HBxb := Lib.hid HT.out
  clear HT
  have HT := Lib.hid (HX1.out.on hb)
  clear HX1
  have HX1 := Lib.hid HT.out
  clear HT
  clear hb
  have HRg := Lib.hid hrg0
  clear hrg0
  have hbX := (Below.refl w5.heap.size w5).alloc (Nat.le_refl _) (.cells #[.int .i64 R0.roots, .slice B1g0 R0.nodes.length d1g0, .slice B2g0 R0.sites.length d2g0, .int .i64 R0.edges, .slice B4g0 R0.outer.length d4g0, .slice B5g0 R0.inner.length d5g0] 28)
  obtain ⟨y0, y1, y2, y3, y4, y5⟩ := (HBxb.out.on hbX).get
  go_wp2_with fail
  clear y0 y1 y2 y3 y4 y5
  have HBxg : Hid (BoxAt (w5.alloc (.cells #[.int .i64 R0.roots, .slice B1g0 R0.nodes.length d1g0, .slice B2g0 R0.sites.length d2g0, .int .i64 R0.edges, .slice B4g0 R0.outer.length d4g0, .slice B5g0 R0.inner.length d5g0] 28)) w5.heap.size 28 (.int .i64 R0.roots) (.slice B1g0 R0.nodes.length d1g0) (.slice B2g0 R0.sites.length d2g0) (.int .i64 R0.edges) (.slice B4g0 R0.outer.length d4g0) (.slice B5g0 R0.inner.length d5g0)) := Lib.hid (six_new w5 _ _ _ _ _ _ _)
  obtain ⟨w6, hwn⟩ : ∃ x, w5.alloc (.cells #[.int .i64 R0.roots, .slice B1g0 R0.nodes.length d1g0, .slice B2g0 R0.sites.length d2g0, .int .i64 R0.edges, .slice B4g0 R0.outer.length d4g0, .slice B5g0 R0.inner.length d5g0] 28) = x := ⟨_, rfl⟩
  have HZs_6 : Hid (w5.heap.size < w6.heap.size) := Lib.hid (by rw [← hwn]; simp)
  rw [hwn] at HBxg hbX ⊢
  clear hwn
  have HZ_6 : Hid (w5.heap.size ≤ w6.heap.size) := Lib.hid hbX.size
  have HKn := Lib.hid (HK0.out.trans (hbX.mono HK0.out.size))
  clear HK0
  have HK0 := Lib.hid HKn.out
  clear HKn
  have HT := Lib.hid (HRb.out.on hbX)
  clear HRb
  have HRb := Lib.hid HT.out
  clear HT
  have HT := Lib.hid (HBxb.out.on hbX)
  clear HBxb
  have HBxb := Lib.hid HT.out
  clear HT
  have HT := Lib.hid (HX1.out.on hbX)
  clear HX1
  have HX1 := Lib.hid HT.out
  clear HT
  have HT := Lib.hid (HRg.out.on hbX)
  clear HRg
  have HRg := Lib.hid HT.out
  clear HT
  clear hbX
  refine (eqBR_any _ _ R0 _ _ _ _ _ HRg.out HRb.out (by have := HZ_1.out; have := HZ_2.out; have := HZs_3.out; have := HZ_3.out; have := HZ_4.out; have := HZ_5.out; have := HZs_6.out; have := HZ_6.out; omega) (by have := HZ_1.out; have := HZ_2.out; have := HZs_3.out; have := HZ_3.out; have := HZ_4.out; have := HZ_5.out; have := HZs_6.out; have := HZ_6.out; omega) hM0).mono ?_
  rintro e w7 ⟨rfl, hb⟩
  have HZ_7 : Hid (w6.heap.size ≤ w7.heap.size) := Lib.hid hb.size
  have HKn := Lib.hid (HK0.out.trans (hb.mono HK0.out.size))
  clear HK0
  have HK0 := Lib.hid HKn.out
  clear HKn
  have HT := Lib.hid (HRb.out.on hb)
  clear HRb
  have HRb := Lib.hid HT.out
  clear HT
  have HT := Lib.hid (HBxb.out.on hb)
  clear HBxb
  have HBxb := Lib.hid HT.out
  clear HT
  have HT := Lib.hid (HX1.out.on hb)
  clear HX1
  have HX1 := Lib.hid HT.out
  clear HT
  have HT := Lib.hid (HRg.out.on hb)
  clear HRg
  have HRg := Lib.hid HT.out
  clear HT
  have HT := Lib.hid (HBxg.out.on hb)
  clear HBxg
  have HBxg := Lib.hid HT.out
  clear HT
  clear hb
  go_wp2_with fail
  refine (toSR_any A1 _ c1 ss1 _ ((HA1.out.below HK0.out).wide HK0.out.size) hn1).mono ?_
  rintro e w8 ⟨Y1, rfl, ho, hb⟩
  have HZ_8 : Hid (w7.heap.size ≤ w8.heap.size) := Lib.hid hb.size
  have HKn := Lib.hid (HK0.out.trans (hb.mono HK0.out.size))
  clear HK0
  have HK0 := Lib.hid HKn.out
  clear HKn
  have HT := Lib.hid (HRb.out.on hb)
  clear HRb
  have HRb := Lib.hid HT.out
  clear HT
  have HT := Lib.hid (HBxb.out.on hb)
  clear HBxb
  have HBxb := Lib.hid HT.out
  clear HT
  have HT := Lib.hid (HX1.out.on hb)
  clear HX1
  have HX1 := Lib.hid HT.out
  clear HT
  have HT := Lib.hid (HRg.out.on hb)
  clear HRg
  have HRg := Lib.hid HT.out
  clear HT
  have HT := Lib.hid (HBxg.out.on hb)
  clear HBxg
  have HBxg := Lib.hid HT.out
  clear HT
  clear hb
  have HYc := Lib.hid ho
  clear ho
  go_wp2_with fail
  refine (eqSR_any _ _ _ _ ss1 _ _ _ _ _ HX1.out HYc.out hn1).mono ?_
  rintro e w9 ⟨rfl, hb⟩
  clear HYc
  have HZ_9 : Hid (w8.heap.size ≤ w9.heap.size) := Lib.hid hb.size
  have HKn := Lib.hid (HK0.out.trans (hb.mono HK0.out.size))
  clear HK0
  have HK0 := Lib.hid HKn.out
  clear HKn
  have HT := Lib.hid (HRb.out.on hb)
  clear HRb
  have HRb := Lib.hid HT.out
  clear HT
  have HT := Lib.hid (HBxb.out.on hb)
  clear HBxb
  have HBxb := Lib.hid HT.out
  clear HT
  have HT := Lib.hid (HX1.out.on hb)
  clear HX1
  have HX1 := Lib.hid HT.out
  clear HT
  have HT := Lib.hid (HRg.out.on hb)
  clear HRg
  have HRg := Lib.hid HT.out
  clear HT
  have HT := Lib.hid (HBxg.out.on hb)
  clear HBxg
  have HBxg := Lib.hid HT.out
  clear HT
  clear hb
  have hkp0 : (0 : Int) < 1 := by omega
  go_wp2_with fail
  refine (markSO_any _ _ _ _ 1 _ w3.heap.size w4.heap.size HX1.out (by omega) (by have := HWt1.out; omega) hn1).mono ?_
  rintro e w10 ⟨rfl, hq⟩
  clear HX1
  have HZ_10 : Hid (w9.heap.size ≤ w10.heap.size) := Lib.hid hq.size
  have HKn := Lib.hid (HK0.out.trans ((hq.below (show w3.heap.size ≤ w9.heap.size by have := HZ_1.out; have := HZ_2.out; have := HZs_3.out; have := HZ_3.out; have := HZ_4.out; have := HZ_5.out; have := HZs_6.out; have := HZ_6.out; have := HZ_7.out; have := HZ_8.out; have := HZ_9.out; have := HZ_10.out; omega)).mono (show w.heap.size ≤ w3.heap.size by have := HZ_1.out; have := HZ_2.out; have := HZs_3.out; have := HZ_3.out; have := HZ_4.out; have := HZ_5.out; have := HZs_6.out; have := HZ_6.out; have := HZ_7.out; have := HZ_8.out; have := HZ_9.out; have := HZ_10.out; omega)))
  clear HK0
  have HK0 := Lib.hid HKn.out
  clear HKn
  have HT := Lib.hid (HRb.out.far hq (by have := HZ_1.out; have := HZ_2.out; have := HZs_3.out; have := HZ_3.out; have := HZ_4.out; have := HZ_5.out; have := HZs_6.out; have := HZ_6.out; have := HZ_7.out; have := HZ_8.out; have := HZ_9.out; have := HZ_10.out; omega))
  clear HRb
  have HRb := Lib.hid HT.out
  clear HT
  have HT := Lib.hid (HBxb.out.far hq (by have := HZ_1.out; have := HZ_2.out; have := HZs_3.out; have := HZ_3.out; have := HZ_4.out; have := HZ_5.out; have := HZs_6.out; have := HZ_6.out; have := HZ_7.out; have := HZ_8.out; have := HZ_9.out; have := HZ_10.out; omega))
  clear HBxb
  have HBxb := Lib.hid HT.out
  clear HT
  have HT := Lib.hid (HRg.out.far hq (by have := HZ_1.out; have := HZ_2.out; have := HZs_3.out; have := HZ_3.out; have := HZ_4.out; have := HZ_5.out; have := HZs_6.out; have := HZ_6.out; have := HZ_7.out; have := HZ_8.out; have := HZ_9.out; have := HZ_10.out; omega))
  clear HRg
  have HRg := Lib.hid HT.out
  clear HT
  have HT := Lib.hid (HBxg.out.far hq (by have := HZ_1.out; have := HZ_2.out; have := HZs_3.out; have := HZ_3.out; have := HZ_4.out; have := HZ_5.out; have := HZs_6.out; have := HZ_6.out; have := HZ_7.out; have := HZ_8.out; have := HZ_9.out; have := HZ_10.out; omega))
  clear HBxg
  have HBxg := Lib.hid HT.out
  clear HT
  clear hq
  obtain ⟨kr1, hkr⟩ : ∃ k : Int, 1 + (ss1.length : Int) = k := ⟨_, rfl⟩
  rw [hkr]
  have HKv1 : Hid (kr1 = 1 + (ss1.length : Int)) := Lib.hid hkr.symm
  have hkp1 : 0 < kr1 := by omega
  clear hkr
  obtain ⟨x0, x1, x2, x3, x4, x5⟩ := HBxg.out.get
  obtain ⟨y0, y1, y2, y3, y4, y5⟩ := HBxb.out.get
  go_wp2_with fail
  clear x0 x1 x2 x3 x4 x5 y0 y1 y2 y3 y4 y5
  refine (eqBR_any _ _ R0 _ _ _ _ _ HRg.out HRb.out (by have := HZ_1.out; have := HZ_2.out; have := HZs_3.out; have := HZ_3.out; have := HZ_4.out; have := HZ_5.out; have := HZs_6.out; have := HZ_6.out; have := HZ_7.out; have := HZ_8.out; have := HZ_9.out; have := HZ_10.out; omega) (by have := HZ_1.out; have := HZ_2.out; have := HZs_3.out; have := HZ_3.out; have := HZ_4.out; have := HZ_5.out; have := HZs_6.out; have := HZ_6.out; have := HZ_7.out; have := HZ_8.out; have := HZ_9.out; have := HZ_10.out; omega) hM0).mono ?_
  rintro e w11 ⟨rfl, hb⟩
  have HZ_11 : Hid (w10.heap.size ≤ w11.heap.size) := Lib.hid hb.size
  have HKn := Lib.hid (HK0.out.trans (hb.mono HK0.out.size))
  clear HK0
  have HK0 := Lib.hid HKn.out
  clear HKn
  have HT := Lib.hid (HRb.out.on hb)
  clear HRb
  have HRb := Lib.hid HT.out
  clear HT
  have HT := Lib.hid (HBxb.out.on hb)
  clear HBxb
  have HBxb := Lib.hid HT.out
  clear HT
  have HT := Lib.hid (HRg.out.on hb)
  clear HRg
  have HRg := Lib.hid HT.out
  clear HT
  have HT := Lib.hid (HBxg.out.on hb)
  clear HBxg
  have HBxg := Lib.hid HT.out
  clear HT
  clear hb
  obtain ⟨x0, x1, x2, x3, x4, x5⟩ := HBxg.out.get
  go_wp2_with fail
  clear x0 x1 x2 x3 x4 x5
  refine (markBR_any _ R0 1 _ w4.heap.size w5.heap.size HRg.out (by have := HZ_1.out; have := HZ_2.out; have := HZs_3.out; have := HZ_3.out; have := HZ_4.out; have := HZ_5.out; have := HZs_6.out; have := HZ_6.out; have := HZ_7.out; have := HZ_8.out; have := HZ_9.out; have := HZ_10.out; have := HZ_11.out; omega) (by omega) (by omega) hM0).mono ?_
  rintro e w12 ⟨rfl, hm, hq⟩
  clear HRg
  have HZ_12 : Hid (w11.heap.size ≤ w12.heap.size) := Lib.hid hq.size
  have HKn := Lib.hid (HK0.out.trans ((hq.below (show w4.heap.size ≤ w11.heap.size by have := HZ_1.out; have := HZ_2.out; have := HZs_3.out; have := HZ_3.out; have := HZ_4.out; have := HZ_5.out; have := HZs_6.out; have := HZ_6.out; have := HZ_7.out; have := HZ_8.out; have := HZ_9.out; have := HZ_10.out; have := HZ_11.out; have := HZ_12.out; omega)).mono (show w.heap.size ≤ w4.heap.size by have := HZ_1.out; have := HZ_2.out; have := HZs_3.out; have := HZ_3.out; have := HZ_4.out; have := HZ_5.out; have := HZs_6.out; have := HZ_6.out; have := HZ_7.out; have := HZ_8.out; have := HZ_9.out; have := HZ_10.out; have := HZ_11.out; have := HZ_12.out; omega)))
  clear HK0
  have HK0 := Lib.hid HKn.out
  clear HKn
  have HT := Lib.hid (HRb.out.far hq (by have := HZ_1.out; have := HZ_2.out; have := HZs_3.out; have := HZ_3.out; have := HZ_4.out; have := HZ_5.out; have := HZs_6.out; have := HZ_6.out; have := HZ_7.out; have := HZ_8.out; have := HZ_9.out; have := HZ_10.out; have := HZ_11.out; have := HZ_12.out; omega))
  clear HRb
  have HRb := Lib.hid HT.out
  clear HT
  have HT := Lib.hid (HBxb.out.far hq (by have := HZ_1.out; have := HZ_2.out; have := HZs_3.out; have := HZ_3.out; have := HZ_4.out; have := HZ_5.out; have := HZs_6.out; have := HZ_6.out; have := HZ_7.out; have := HZ_8.out; have := HZ_9.out; have := HZ_10.out; have := HZ_11.out; have := HZ_12.out; omega))
  clear HBxb
  have HBxb := Lib.hid HT.out
  clear HT
  have HT := Lib.hid (HBxg.out.far hq (by have := HZ_1.out; have := HZ_2.out; have := HZs_3.out; have := HZ_3.out; have := HZ_4.out; have := HZ_5.out; have := HZs_6.out; have := HZ_6.out; have := HZ_7.out; have := HZ_8.out; have := HZ_9.out; have := HZ_10.out; have := HZ_11.out; have := HZ_12.out; omega))
  clear HBxg
  have HBxg := Lib.hid HT.out
  clear HT
  clear hq
  have HMk := Lib.hid hm
  clear hm
  obtain ⟨mm, hmm⟩ : ∃ k : Int, 1 + (bigMk R0 : Int) = k := ⟨_, rfl⟩
  rw [hmm]
  have Hmm := Lib.hid hmm
  have hmp : 0 < mm := by omega
  clear hmm
  obtain ⟨x0, x1, x2, x3, x4, x5⟩ := HBxg.out.get
  go_wp2_with fail
  clear x0 x1 x2 x3 x4 x5
  refine (heldBR_any _ R0 1 _ w4.heap.size w5.heap.size HMk.out (by omega) (by omega) hM0).mono ?_
  rintro e w13 ⟨rfl, hb⟩
  rw [Hmm.out]
  have HZ_13 : Hid (w12.heap.size ≤ w13.heap.size) := Lib.hid hb.size
  have HKn := Lib.hid (HK0.out.trans (hb.mono HK0.out.size))
  clear HK0
  have HK0 := Lib.hid HKn.out
  clear HKn
  have HT := Lib.hid (HRb.out.on hb)
  clear HRb
  have HRb := Lib.hid HT.out
  clear HT
  have HT := Lib.hid (HBxb.out.on hb)
  clear HBxb
  have HBxb := Lib.hid HT.out
  clear HT
  have HT := Lib.hid (HBxg.out.on hb)
  clear HBxg
  have HBxg := Lib.hid HT.out
  clear HT
  have HT := Lib.hid (HMk.out.on hb)
  clear HMk
  have HMk := Lib.hid HT.out
  clear HT
  clear hb
  go_wp2_with fail
  refine (toSR_any A1 _ c1 ss1 _ ((HA1.out.below HK0.out).wide HK0.out.size) hn1).mono ?_
  rintro e w14 ⟨gc1, rfl, ho, hb⟩
  have HZ_14 : Hid (w13.heap.size ≤ w14.heap.size) := Lib.hid hb.size
  have HKn := Lib.hid (HK0.out.trans (hb.mono HK0.out.size))
  clear HK0
  have HK0 := Lib.hid HKn.out
  clear HKn
  have HT := Lib.hid (HRb.out.on hb)
  clear HRb
  have HRb := Lib.hid HT.out
  clear HT
  have HT := Lib.hid (HBxb.out.on hb)
  clear HBxb
  have HBxb := Lib.hid HT.out
  clear HT
  have HT := Lib.hid (HBxg.out.on hb)
  clear HBxg
  have HBxg := Lib.hid HT.out
  clear HT
  have HT := Lib.hid (HMk.out.on hb)
  clear HMk
  have HMk := Lib.hid HT.out
  clear HT
  clear hb
  have HCc1 := Lib.hid ho
  clear ho
  go_wp2_with fail
  refine (HIm.out _ _ _ (strsR_at (rowR_here HCc1.out)) (fun e => by cases e)).mono ?_
  rintro e w15 ⟨vc0, rfl, hrc0, hb⟩; obtain ⟨B1c0, d1c0, B2c0, d2c0, B4c0, d4c0, B5c0, d5c0, rfl⟩ := hrc0.shape
  clear HCc1
  have HZ_15 : Hid (w14.heap.size ≤ w15.heap.size) := Lib.hid hb.size
  have HKn := Lib.hid (HK0.out.trans (hb.mono HK0.out.size))
  clear HK0
  have HK0 := Lib.hid HKn.out
  clear HKn
  have HT := Lib.hid (HRb.out.on hb)
  clear HRb
  have HRb := Lib.hid HT.out
  clear HT
  have HT := Lib.hid (HBxb.out.on hb)
  clear HBxb
  have HBxb := Lib.hid HT.out
  clear HT
  have HT := Lib.hid (HBxg.out.on hb)
  clear HBxg
  have HBxg := Lib.hid HT.out
  clear HT
  have HT := Lib.hid (HMk.out.on hb)
  clear HMk
  have HMk := Lib.hid HT.out
  clear HT
  clear hb
  have HRc := Lib.hid hrc0
  clear hrc0
  have hbX := (Below.refl w15.heap.size w15).alloc (Nat.le_refl _) (.cells #[.int .i64 R0.roots, .slice B1c0 R0.nodes.length d1c0, .slice B2c0 R0.sites.length d2c0, .int .i64 R0.edges, .slice B4c0 R0.outer.length d4c0, .slice B5c0 R0.inner.length d5c0] 28)
  obtain ⟨y0, y1, y2, y3, y4, y5⟩ := (HBxb.out.on hbX).get
  go_wp2_with fail
  clear y0 y1 y2 y3 y4 y5
  have HBxc : Hid (BoxAt (w15.alloc (.cells #[.int .i64 R0.roots, .slice B1c0 R0.nodes.length d1c0, .slice B2c0 R0.sites.length d2c0, .int .i64 R0.edges, .slice B4c0 R0.outer.length d4c0, .slice B5c0 R0.inner.length d5c0] 28)) w15.heap.size 28 (.int .i64 R0.roots) (.slice B1c0 R0.nodes.length d1c0) (.slice B2c0 R0.sites.length d2c0) (.int .i64 R0.edges) (.slice B4c0 R0.outer.length d4c0) (.slice B5c0 R0.inner.length d5c0)) := Lib.hid (six_new w15 _ _ _ _ _ _ _)
  obtain ⟨w16, hwn⟩ : ∃ x, w15.alloc (.cells #[.int .i64 R0.roots, .slice B1c0 R0.nodes.length d1c0, .slice B2c0 R0.sites.length d2c0, .int .i64 R0.edges, .slice B4c0 R0.outer.length d4c0, .slice B5c0 R0.inner.length d5c0] 28) = x := ⟨_, rfl⟩
  have HZs_16 : Hid (w15.heap.size < w16.heap.size) := Lib.hid (by rw [← hwn]; simp)
  rw [hwn] at HBxc hbX ⊢
  clear hwn
  have HZ_16 : Hid (w15.heap.size ≤ w16.heap.size) := Lib.hid hbX.size
  have HKn := Lib.hid (HK0.out.trans (hbX.mono HK0.out.size))
  clear HK0
  have HK0 := Lib.hid HKn.out
  clear HKn
  have HT := Lib.hid (HRb.out.on hbX)
  clear HRb
  have HRb := Lib.hid HT.out
  clear HT
  have HT := Lib.hid (HBxb.out.on hbX)
  clear HBxb
  have HBxb := Lib.hid HT.out
  clear HT
  have HT := Lib.hid (HBxg.out.on hbX)
  clear HBxg
  have HBxg := Lib.hid HT.out
  clear HT
  have HT := Lib.hid (HMk.out.on hbX)
  clear HMk
  have HMk := Lib.hid HT.out
  clear HT
  have HT := Lib.hid (HRc.out.on hbX)
  clear HRc
  have HRc := Lib.hid HT.out
  clear HT
  clear hbX
  refine (eqBR_any _ _ R0 _ _ _ _ _ HRc.out HRb.out (by have := HZ_1.out; have := HZ_2.out; have := HZs_3.out; have := HZ_3.out; have := HZ_4.out; have := HZ_5.out; have := HZs_6.out; have := HZ_6.out; have := HZ_7.out; have := HZ_8.out; have := HZ_9.out; have := HZ_10.out; have := HZ_11.out; have := HZ_12.out; have := HZ_13.out; have := HZ_14.out; have := HZ_15.out; have := HZs_16.out; have := HZ_16.out; omega) (by have := HZ_1.out; have := HZ_2.out; have := HZs_3.out; have := HZ_3.out; have := HZ_4.out; have := HZ_5.out; have := HZs_6.out; have := HZ_6.out; have := HZ_7.out; have := HZ_8.out; have := HZ_9.out; have := HZ_10.out; have := HZ_11.out; have := HZ_12.out; have := HZ_13.out; have := HZ_14.out; have := HZ_15.out; have := HZs_16.out; have := HZ_16.out; omega) hM0).mono ?_
  rintro e w17 ⟨rfl, hb⟩
  have HZ_17 : Hid (w16.heap.size ≤ w17.heap.size) := Lib.hid hb.size
  have HKn := Lib.hid (HK0.out.trans (hb.mono HK0.out.size))
  clear HK0
  have HK0 := Lib.hid HKn.out
  clear HKn
  have HT := Lib.hid (HRb.out.on hb)
  clear HRb
  have HRb := Lib.hid HT.out
  clear HT
  have HT := Lib.hid (HBxb.out.on hb)
  clear HBxb
  have HBxb := Lib.hid HT.out
  clear HT
  have HT := Lib.hid (HBxg.out.on hb)
  clear HBxg
  have HBxg := Lib.hid HT.out
  clear HT
  have HT := Lib.hid (HMk.out.on hb)
  clear HMk
  have HMk := Lib.hid HT.out
  clear HT
  have HT := Lib.hid (HRc.out.on hb)
  clear HRc
  have HRc := Lib.hid HT.out
  clear HT
  have HT := Lib.hid (HBxc.out.on hb)
  clear HBxc
  have HBxc := Lib.hid HT.out
  clear HT
  clear hb
  obtain ⟨x0, x1, x2, x3, x4, x5⟩ := HBxg.out.get
  go_wp2_with fail
  clear x0 x1 x2 x3 x4 x5
  refine (heldBR_any _ R0 1 _ w4.heap.size w5.heap.size HMk.out (by omega) (by omega) hM0).mono ?_
  rintro e w18 ⟨rfl, hb⟩
  rw [Hmm.out]
  have HZ_18 : Hid (w17.heap.size ≤ w18.heap.size) := Lib.hid hb.size
  have HKn := Lib.hid (HK0.out.trans (hb.mono HK0.out.size))
  clear HK0
  have HK0 := Lib.hid HKn.out
  clear HKn
  have HT := Lib.hid (HRb.out.on hb)
  clear HRb
  have HRb := Lib.hid HT.out
  clear HT
  have HT := Lib.hid (HBxb.out.on hb)
  clear HBxb
  have HBxb := Lib.hid HT.out
  clear HT
  have HT := Lib.hid (HBxg.out.on hb)
  clear HBxg
  have HBxg := Lib.hid HT.out
  clear HT
  have HT := Lib.hid (HMk.out.on hb)
  clear HMk
  have HMk := Lib.hid HT.out
  clear HT
  have HT := Lib.hid (HRc.out.on hb)
  clear HRc
  have HRc := Lib.hid HT.out
  clear HT
  have HT := Lib.hid (HBxc.out.on hb)
  clear HBxc
  have HBxc := Lib.hid HT.out
  clear HT
  clear hb
  go_wp2_with fail
  go_ret
  exact ⟨rfl, HK0.out⟩

theorem own : ownKnob Try.prog.godebug = none := by kernel_rfl
theorem laidOut : laidOutB Try.prog = true := facts.laid

set_option maxRecDepth 100000 in
theorem lifted (os : Os) (started : os.Started) (H : Type) (enc : TypeId × Value → H) :
    ReturnsInHanded {} Try.checked os 3 .any (Rows.fnExactIdentityOfSpec.pre6 enc Try.prog Try.f3 Rows.fnExactIdentityOfRow.domain false) (Rows.fnExactIdentityOfSpec.post enc Try.prog Try.f3 false true false false) := by
  refine returnsInHanded_of_change (C := Try.checked) own started (by kernel_rfl) Try.func3
    (ChangeSpec.witness6 (enc := enc) (C := Try.checked) false ⟨#[], #[.int .i64 0, .slice none 0 0], []⟩ 8 (by kernel_rfl) (by kernel_rfl) (by kernel_rfl) (by kernel_rfl)) ?_
  intro W base args ds gs before hval0 hW hcnd _
  have hval : ∀ (j : Nat) t v, Try.f3.params[j]? = some t → args[j]? = some v → Value.okWide Try.prog W .any base t v := hval0
  have hW' := hW
  obtain ⟨p, q, hA0, hV, rfl, hfz, hnd⟩ := hW
  have hA : DataW.TrodAll enc Try.prog W 0 (fun _ => true) true Try.f3.params.toList args.toList ds p := hA0
  rw [Try.params3] at hA hval
  obtain ⟨v0, vs0, d0, ds0, p0, q0, hargs, rfl, rfl, h0, r0⟩ := trodAll_cons hA
  obtain ⟨v1, vs1, d1, ds1, p1, q1, rfl, rfl, rfl, h1, r1⟩ := trodAll_cons r0
  obtain ⟨rfl, rfl, rfl⟩ := trodAll_nil r1
  obtain rfl : args = #[v0, v1] := by cases args; simp_all
  obtain ⟨rfl, rfl⟩ := trodVars_none hV
  obtain ⟨a0, rfl, rfl, rfl, w0⟩ := open_int Try.underlying3 (hval 0 3 v0 rfl rfl) h0
  have k1 := h1
  have lt1 : ∀ x ∈ p1, x.block < W.heap.size := by obtain ⟨m, hm⟩ := k1; exact DataW.trod_lt m _ _ _ hm
  obtain ⟨A1, n1, c1, rfl⟩ := okWide_slice Try.underlying22 (hval 1 22 v1 rfl rfl)
  obtain ⟨ss1, s1, b1, w1⟩ := sr_strings Try.underlying22 Try.underlying9 (by kernel_rfl) h1 lt1
  clear hA0 hval0
  refine (walk a0 A1 n1 c1 ss1 W w0 s1 b1 w1).mono fun e W' ⟨he, bel⟩ => ?_
  subst he
  exact ⟨_, rfl, _, _, _, [], _, [], hW', trodAll_mk1 (shut_bool Try.underlying4 _), (trodAll_cons_mk (shut_int Try.underlying3 w0) (trodAll_cons_mk (Below.trod laidOut (by kernel_rfl) (of_decide_eq_true (by kernel_rfl)) k1 bel lt1) trodAll_mk0)), rfl, bel.frame _, fun h => by cases h⟩

theorem closed : joinedFacts Try.checked.prog 3 Try.f3 Rows.fnExactIdentityOfSpec Rows.fnExactIdentityOfRow = true := by
  unfold joinedFacts
  rw [facts.laid, facts.maps, facts.heard, facts.enter, facts.lifts, facts.make, facts.keys]
  kernel_rfl

theorem over : Rows.fnExactIdentityOfRow.holds Try.pinned (OpenSpec.ofChange Rows.fnExactIdentityOfSpec) :=
  OpenClaim.holds_of_wide 3 Try.f3 rfl rfl rfl rfl rfl rfl rfl ⟨rfl, rfl, rfl, rfl, rfl⟩ rfl rfl rfl rfl rfl (by kernel_rfl) Try.func3 closed
    (of_decide_eq_true (by kernel_rfl)) (by unfold Func.isWrapper; first | (rw [if_pos (by decide +kernel)]; kernel_rfl) | (rw [if_neg (by decide +kernel)]; exact ⟨rfl, rfl⟩))
    (fun os started H enc _ => lifted os started H enc)

theorem proved : Rows.FnExactIdentityOfSaid := over
#print axioms proved
end Go.Proofs.Ytmcdbhlpmlcjpaa.fnExactIdentityOf
