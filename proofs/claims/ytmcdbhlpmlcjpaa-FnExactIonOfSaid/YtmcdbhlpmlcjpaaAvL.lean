/- FnExactIonOf: at all arguments impl's function answers as spec's does, leaves them as they were, and its answer shares no memory. No condition. -/
import Derived.Test.YtmcdbhlpmlcjpaaAv
import Derived.Test.YtmcdbhlpmlcjpaaQd
namespace Go.Proofs.Ytmcdbhlpmlcjpaa.fnExactIonOf
open kit bg opn strs sig isig hc only hb ht gd cf lawb rs marks hi br bm bw lw atm au av
open Go.ChangeShapes Go.WideShapes Go.ChangeAt Go.RowKit
open Go.ChangeMaps (open_string shut_string)
set_option linter.unusedVariables false

set_option maxRecDepth 20000 in
set_option maxHeartbeats 6400000 in
theorem walk (A0 : Option Addr) (n0 c0 : Nat) (cs0 : List Ctl) (z1 : Int) (A2 : Option Addr) (n2 c2 : Nat) (ss2 : List ByteArray) (w : World) (h0 : CtlsAt w w.heap.size A0 n0 cs0) (hw0 : CtlsW cs0) (hw1 : (Lit.int .i64 z1).wf = true) (h2 : SR w w.heap.size A2 n2 (ss2.map Value.string)) (hl2 : n2 ≤ maxLen) (hw2 : ∀ s ∈ ss2, s.size ≤ maxLen) :
    Calls Try.prog 5 #[.slice A0 n0 c0, .int .i64 z1, .slice A2 n2 c2] w fun e w' => e = .returned (.bool true) ∧ Below w.heap.size w w' := by
  have HA0 := Lib.hid h0
  clear h0
  have HL0 := Lib.hid HA0.out.1
  have HA2 := Lib.hid h2
  clear h2
  have HK0 := Lib.hid (Below.refl w.heap.size w)
  obtain ⟨w0, hWw⟩ : ∃ w0, w = w0 := ⟨_, rfl⟩
  subst hWw
  go_enter Try.func5, Try.ntmps5
  go_wp2_with fail
  refine (szCS_any A0 n0 c0 cs0 1048576 _ _ ((HA0.out.below HK0.out).wide HK0.out.size) (Nat.le_refl _) (by omega) (by omega) hw0).mono ?_
  rintro e w1 ⟨r0, rfl, hr, hra0, hrb0, hb⟩
  have HZ_1 : Hid (w.heap.size ≤ w1.heap.size) := Lib.hid hb.size
  have HKn := Lib.hid (HK0.out.trans (hb.mono HK0.out.size))
  clear HK0
  have HK0 := Lib.hid HKn.out
  clear HKn
  clear hb
  by_cases hneg : r0 < 0
  · go_wp2_with fail
    go_ret
    exact ⟨rfl, HK0.out⟩
  have hpos0 : 0 ≤ r0 := by omega
  have HWt0 : Hid (r0 = 1048576 - (ctlsWt cs0 : Nat)) := Lib.hid (by omega)
  have hup0 : r0 ≤ 1048576 := by omega
  have hn0 : n0 ≤ 1048576 := by have := HL0.out; unfold ctlsWt at hr; omega
  have HS0 := Lib.hid (fun c (hc : c ∈ cs0) => show c.name.size ≤ 1048576 by have := sumBy_mem (fun c : Ctl => c.name.size) hc; unfold ctlsWt at hr; omega)
  clear hr hneg hra0 hrb0
  go_wp2_with fail
  refine (sz_any A2 n2 c2 ss2 r0 _ _ ((HA2.out.below HK0.out).wide HK0.out.size) (by omega) (by omega) hl2 hw2).mono ?_
  rintro e w2 ⟨r2, rfl, hr, hrb2, rfl⟩
  by_cases hneg : r2 < 0
  · go_wp2_with fail
    go_ret
    exact ⟨rfl, HK0.out⟩
  have hpos2 : 0 ≤ r2 := by omega
  have HWt2 : Hid (r2 = r0 - ((ss2.length + tot ss2) : Nat)) := Lib.hid (by push_cast; omega)
  have hup2 : r2 ≤ 1048576 := by omega
  have hn2 : n2 ≤ 1048576 := by have := HA2.out.strlen; omega
  have HS2 := Lib.hid (fun s (hs : s ∈ ss2) => show s.size ≤ 1048576 by have := tot_mem hs; omega)
  clear hr hneg hrb2
  obtain ⟨q, hq⟩ : ∃ q, ioQ cs0 z1 ss2 = q := ⟨_, rfl⟩
  obtain ⟨R0, hR0⟩ : ∃ r : Big, ioR cs0 z1 ss2 = r := ⟨_, rfl⟩
  have hM0 : bigMk R0 ≤ 1048576 := by rw [← hR0]; exact io_len cs0 z1 ss2
  have HSp := Lib.hid (fun (A0 : Option Addr) (c0 : Nat) (A2 : Option Addr) (c2 : Nat) (w : World) (h0 : CtlsAt w w.heap.size A0 n0 cs0) (h2 : SR w w.heap.size A2 ss2.length (ss2.map Value.string)) (g2 : A2 = none → c2 = 0) => hR0 ▸ hq ▸ sIo_any A0 n0 c0 cs0 z1 A2 ss2.length c2 ss2 w h0 hn0 HS0.out hw1 h2 (by rw [HA2.out.strlen]; exact hn2) HS2.out g2)
  have HIm := Lib.hid (fun (A0 : Option Addr) (c0 : Nat) (A2 : Option Addr) (c2 : Nat) (w : World) (h0 : CtlsAt w w.heap.size A0 n0 cs0) (h2 : SR w w.heap.size A2 ss2.length (ss2.map Value.string)) (g2 : A2 = none → c2 = 0) => hR0 ▸ hq ▸ iIo_any A0 n0 c0 cs0 z1 A2 ss2.length c2 ss2 w h0 hn0 HS0.out hw1 h2 (by rw [HA2.out.strlen]; exact hn2) HS2.out g2)
  clear hq hR0
  obtain rfl := HA2.out.strlen
  go_wp2_with fail
  refine (toCS_any A0 n0 c0 cs0 _ ((HA0.out.below HK0.out).wide HK0.out.size) hn0).mono ?_
  rintro e w2 ⟨gb0, rfl, ho, hb⟩
  have HZ_2 : Hid (w1.heap.size ≤ w2.heap.size) := Lib.hid hb.size
  have HKn := Lib.hid (HK0.out.trans (hb.mono HK0.out.size))
  clear HK0
  have HK0 := Lib.hid HKn.out
  clear HKn
  clear hb
  have HCb0 := Lib.hid ho
  clear ho
  go_wp2_with fail
  refine (toSR_any A2 _ c2 ss2 _ ((HA2.out.below HK0.out).wide HK0.out.size) hn2).mono ?_
  rintro e w3 ⟨gb2, rfl, ho, hb⟩
  have HZ_3 : Hid (w2.heap.size ≤ w3.heap.size) := Lib.hid hb.size
  have HKn := Lib.hid (HK0.out.trans (hb.mono HK0.out.size))
  clear HK0
  have HK0 := Lib.hid HKn.out
  clear HKn
  have HT := Lib.hid (HCb0.out.on hb)
  clear HCb0
  have HCb0 := Lib.hid HT.out
  clear HT
  clear hb
  have HCb2 := Lib.hid ho
  clear ho
  go_wp2_with fail
  refine (HSp.out _ _ _ _ _ HCb0.out.here (strsR_at (rowR_here HCb2.out)) (fun e => by cases e)).mono ?_
  rintro e w4 ⟨vb0, rfl, hrb0, hb⟩; obtain ⟨B1b0, d1b0, B2b0, d2b0, B4b0, d4b0, B5b0, d5b0, rfl⟩ := hrb0.shape
  clear HCb0
  clear HCb2
  have HZ_4 : Hid (w3.heap.size ≤ w4.heap.size) := Lib.hid hb.size
  have HKn := Lib.hid (HK0.out.trans (hb.mono HK0.out.size))
  clear HK0
  have HK0 := Lib.hid HKn.out
  clear HKn
  clear hb
  have HRb := Lib.hid hrb0
  clear hrb0
  have hbX := (Below.refl w4.heap.size w4).alloc (Nat.le_refl _) (.cells #[.int .i64 R0.roots, .slice B1b0 R0.nodes.length d1b0, .slice B2b0 R0.sites.length d2b0, .int .i64 R0.edges, .slice B4b0 R0.outer.length d4b0, .slice B5b0 R0.inner.length d5b0] 28)
  go_wp2_with fail
  have HBxb : Hid (BoxAt (w4.alloc (.cells #[.int .i64 R0.roots, .slice B1b0 R0.nodes.length d1b0, .slice B2b0 R0.sites.length d2b0, .int .i64 R0.edges, .slice B4b0 R0.outer.length d4b0, .slice B5b0 R0.inner.length d5b0] 28)) w4.heap.size 28 (.int .i64 R0.roots) (.slice B1b0 R0.nodes.length d1b0) (.slice B2b0 R0.sites.length d2b0) (.int .i64 R0.edges) (.slice B4b0 R0.outer.length d4b0) (.slice B5b0 R0.inner.length d5b0)) := Lib.hid (six_new w4 _ _ _ _ _ _ _)
  obtain ⟨w5, hwn⟩ : ∃ x, w4.alloc (.cells #[.int .i64 R0.roots, .slice B1b0 R0.nodes.length d1b0, .slice B2b0 R0.sites.length d2b0, .int .i64 R0.edges, .slice B4b0 R0.outer.length d4b0, .slice B5b0 R0.inner.length d5b0] 28) = x := ⟨_, rfl⟩
  have HZs_5 : Hid (w4.heap.size < w5.heap.size) := Lib.hid (by rw [← hwn]; simp)
  rw [hwn] at HBxb hbX ⊢
  clear hwn
  have HZ_5 : Hid (w4.heap.size ≤ w5.heap.size) := Lib.hid hbX.size
  have HKn := Lib.hid (HK0.out.trans (hbX.mono HK0.out.size))
  clear HK0
  have HK0 := Lib.hid HKn.out
  clear HKn
  have HT := Lib.hid (HRb.out.on hbX)
  clear HRb
  have HRb := Lib.hid HT.out
  clear HT
  clear hbX
  refine (toCS_any A0 n0 c0 cs0 _ ((HA0.out.below HK0.out).wide HK0.out.size) hn0).mono ?_
  rintro e w6 ⟨X0, rfl, ho, hb⟩
  have HZ_6 : Hid (w5.heap.size ≤ w6.heap.size) := Lib.hid hb.size
  have HKn := Lib.hid (HK0.out.trans (hb.mono HK0.out.size))
  clear HK0
  have HK0 := Lib.hid HKn.out
  clear HKn
  have HT := Lib.hid (HRb.out.on hb)
  clear HRb
  have HRb := Lib.hid HT.out
  clear HT
  have HT := Lib.hid (HBxb.out.on hb)
  clear HBxb
  have HBxb := Lib.hid HT.out
  clear HT
  clear hb
  have HX0 := Lib.hid ho
  clear ho
  go_wp2_with fail
  refine (toSR_any A2 _ c2 ss2 _ ((HA2.out.below HK0.out).wide HK0.out.size) hn2).mono ?_
  rintro e w7 ⟨X2, rfl, ho, hb⟩
  have HZ_7 : Hid (w6.heap.size ≤ w7.heap.size) := Lib.hid hb.size
  have HKn := Lib.hid (HK0.out.trans (hb.mono HK0.out.size))
  clear HK0
  have HK0 := Lib.hid HKn.out
  clear HKn
  have HT := Lib.hid (HRb.out.on hb)
  clear HRb
  have HRb := Lib.hid HT.out
  clear HT
  have HT := Lib.hid (HBxb.out.on hb)
  clear HBxb
  have HBxb := Lib.hid HT.out
  clear HT
  have HT := Lib.hid (HX0.out.on hb)
  clear HX0
  have HX0 := Lib.hid HT.out
  clear HT
  clear hb
  have HX2 := Lib.hid ho
  clear ho
  go_wp2_with fail
  refine (HIm.out _ _ _ _ _ HX0.out.here (strsR_at (rowR_here HX2.out)) (fun e => by cases e)).mono ?_
  rintro e w8 ⟨vg0, rfl, hrg0, hb⟩; obtain ⟨B1g0, d1g0, B2g0, d2g0, B4g0, d4g0, B5g0, d5g0, rfl⟩ := hrg0.shape
  have HZ_8 : Hid (w7.heap.size ≤ w8.heap.size) := Lib.hid hb.size
  have HKn := Lib.hid (HK0.out.trans (hb.mono HK0.out.size))
  clear HK0
  have HK0 := Lib.hid HKn.out
  clear HKn
  have HT := Lib.hid (HRb.out.on hb)
  clear HRb
  have HRb := Lib.hid HT.out
  clear HT
  have HT := Lib.hid (HBxb.out.on hb)
  clear HBxb
  have HBxb := Lib.hid HT.out
  clear HT
  have HT := Lib.hid (HX0.out.on hb)
  clear HX0
  have HX0 := Lib.hid HT.out
  clear HT
  have HT := Lib.hid (HX2.out.on hb)
  clear HX2
  have HX2 := Lib.hid HT.out
  clear HT
  clear hb
  have HRg := Lib.hid hrg0
  clear hrg0
  have hbX := (Below.refl w8.heap.size w8).alloc (Nat.le_refl _) (.cells #[.int .i64 R0.roots, .slice B1g0 R0.nodes.length d1g0, .slice B2g0 R0.sites.length d2g0, .int .i64 R0.edges, .slice B4g0 R0.outer.length d4g0, .slice B5g0 R0.inner.length d5g0] 28)
  obtain ⟨y0, y1, y2, y3, y4, y5⟩ := (HBxb.out.on hbX).get
  go_wp2_with fail
  clear y0 y1 y2 y3 y4 y5
  have HBxg : Hid (BoxAt (w8.alloc (.cells #[.int .i64 R0.roots, .slice B1g0 R0.nodes.length d1g0, .slice B2g0 R0.sites.length d2g0, .int .i64 R0.edges, .slice B4g0 R0.outer.length d4g0, .slice B5g0 R0.inner.length d5g0] 28)) w8.heap.size 28 (.int .i64 R0.roots) (.slice B1g0 R0.nodes.length d1g0) (.slice B2g0 R0.sites.length d2g0) (.int .i64 R0.edges) (.slice B4g0 R0.outer.length d4g0) (.slice B5g0 R0.inner.length d5g0)) := Lib.hid (six_new w8 _ _ _ _ _ _ _)
  obtain ⟨w9, hwn⟩ : ∃ x, w8.alloc (.cells #[.int .i64 R0.roots, .slice B1g0 R0.nodes.length d1g0, .slice B2g0 R0.sites.length d2g0, .int .i64 R0.edges, .slice B4g0 R0.outer.length d4g0, .slice B5g0 R0.inner.length d5g0] 28) = x := ⟨_, rfl⟩
  have HZs_9 : Hid (w8.heap.size < w9.heap.size) := Lib.hid (by rw [← hwn]; simp)
  rw [hwn] at HBxg hbX ⊢
  clear hwn
  have HZ_9 : Hid (w8.heap.size ≤ w9.heap.size) := Lib.hid hbX.size
  have HKn := Lib.hid (HK0.out.trans (hbX.mono HK0.out.size))
  clear HK0
  have HK0 := Lib.hid HKn.out
  clear HKn
  have HT := Lib.hid (HRb.out.on hbX)
  clear HRb
  have HRb := Lib.hid HT.out
  clear HT
  have HT := Lib.hid (HBxb.out.on hbX)
  clear HBxb
  have HBxb := Lib.hid HT.out
  clear HT
  have HT := Lib.hid (HX0.out.on hbX)
  clear HX0
  have HX0 := Lib.hid HT.out
  clear HT
  have HT := Lib.hid (HX2.out.on hbX)
  clear HX2
  have HX2 := Lib.hid HT.out
  clear HT
  have HT := Lib.hid (HRg.out.on hbX)
  clear HRg
  have HRg := Lib.hid HT.out
  clear HT
  clear hbX
  refine (eqBR_any _ _ R0 _ _ _ _ _ HRg.out HRb.out (by have := HZ_1.out; have := HZ_2.out; have := HZ_3.out; have := HZ_4.out; have := HZs_5.out; have := HZ_5.out; have := HZ_6.out; have := HZ_7.out; have := HZ_8.out; have := HZs_9.out; have := HZ_9.out; omega) (by have := HZ_1.out; have := HZ_2.out; have := HZ_3.out; have := HZ_4.out; have := HZs_5.out; have := HZ_5.out; have := HZ_6.out; have := HZ_7.out; have := HZ_8.out; have := HZs_9.out; have := HZ_9.out; omega) hM0).mono ?_
  rintro e w10 ⟨rfl, hb⟩
  have HZ_10 : Hid (w9.heap.size ≤ w10.heap.size) := Lib.hid hb.size
  have HKn := Lib.hid (HK0.out.trans (hb.mono HK0.out.size))
  clear HK0
  have HK0 := Lib.hid HKn.out
  clear HKn
  have HT := Lib.hid (HRb.out.on hb)
  clear HRb
  have HRb := Lib.hid HT.out
  clear HT
  have HT := Lib.hid (HBxb.out.on hb)
  clear HBxb
  have HBxb := Lib.hid HT.out
  clear HT
  have HT := Lib.hid (HX0.out.on hb)
  clear HX0
  have HX0 := Lib.hid HT.out
  clear HT
  have HT := Lib.hid (HX2.out.on hb)
  clear HX2
  have HX2 := Lib.hid HT.out
  clear HT
  have HT := Lib.hid (HRg.out.on hb)
  clear HRg
  have HRg := Lib.hid HT.out
  clear HT
  have HT := Lib.hid (HBxg.out.on hb)
  clear HBxg
  have HBxg := Lib.hid HT.out
  clear HT
  clear hb
  go_wp2_with fail
  refine (toCS_any A0 n0 c0 cs0 _ ((HA0.out.below HK0.out).wide HK0.out.size) hn0).mono ?_
  rintro e w11 ⟨Y0, rfl, ho, hb⟩
  have HZ_11 : Hid (w10.heap.size ≤ w11.heap.size) := Lib.hid hb.size
  have HKn := Lib.hid (HK0.out.trans (hb.mono HK0.out.size))
  clear HK0
  have HK0 := Lib.hid HKn.out
  clear HKn
  have HT := Lib.hid (HRb.out.on hb)
  clear HRb
  have HRb := Lib.hid HT.out
  clear HT
  have HT := Lib.hid (HBxb.out.on hb)
  clear HBxb
  have HBxb := Lib.hid HT.out
  clear HT
  have HT := Lib.hid (HX0.out.on hb)
  clear HX0
  have HX0 := Lib.hid HT.out
  clear HT
  have HT := Lib.hid (HX2.out.on hb)
  clear HX2
  have HX2 := Lib.hid HT.out
  clear HT
  have HT := Lib.hid (HRg.out.on hb)
  clear HRg
  have HRg := Lib.hid HT.out
  clear HT
  have HT := Lib.hid (HBxg.out.on hb)
  clear HBxg
  have HBxg := Lib.hid HT.out
  clear HT
  clear hb
  have HYc := Lib.hid ho
  clear ho
  go_wp2_with fail
  refine (eqCS_any _ _ _ _ _ cs0 _ _ _ HX0.out.here HYc.out.here (Nat.le_refl _) (Nat.le_refl _) hn0).mono ?_
  rintro e w12 ⟨rfl, hb⟩
  clear HYc
  have HZ_12 : Hid (w11.heap.size ≤ w12.heap.size) := Lib.hid hb.size
  have HKn := Lib.hid (HK0.out.trans (hb.mono HK0.out.size))
  clear HK0
  have HK0 := Lib.hid HKn.out
  clear HKn
  have HT := Lib.hid (HRb.out.on hb)
  clear HRb
  have HRb := Lib.hid HT.out
  clear HT
  have HT := Lib.hid (HBxb.out.on hb)
  clear HBxb
  have HBxb := Lib.hid HT.out
  clear HT
  have HT := Lib.hid (HX0.out.on hb)
  clear HX0
  have HX0 := Lib.hid HT.out
  clear HT
  have HT := Lib.hid (HX2.out.on hb)
  clear HX2
  have HX2 := Lib.hid HT.out
  clear HT
  have HT := Lib.hid (HRg.out.on hb)
  clear HRg
  have HRg := Lib.hid HT.out
  clear HT
  have HT := Lib.hid (HBxg.out.on hb)
  clear HBxg
  have HBxg := Lib.hid HT.out
  clear HT
  clear hb
  go_wp2_with fail
  refine (toSR_any A2 _ c2 ss2 _ ((HA2.out.below HK0.out).wide HK0.out.size) hn2).mono ?_
  rintro e w13 ⟨Y2, rfl, ho, hb⟩
  have HZ_13 : Hid (w12.heap.size ≤ w13.heap.size) := Lib.hid hb.size
  have HKn := Lib.hid (HK0.out.trans (hb.mono HK0.out.size))
  clear HK0
  have HK0 := Lib.hid HKn.out
  clear HKn
  have HT := Lib.hid (HRb.out.on hb)
  clear HRb
  have HRb := Lib.hid HT.out
  clear HT
  have HT := Lib.hid (HBxb.out.on hb)
  clear HBxb
  have HBxb := Lib.hid HT.out
  clear HT
  have HT := Lib.hid (HX0.out.on hb)
  clear HX0
  have HX0 := Lib.hid HT.out
  clear HT
  have HT := Lib.hid (HX2.out.on hb)
  clear HX2
  have HX2 := Lib.hid HT.out
  clear HT
  have HT := Lib.hid (HRg.out.on hb)
  clear HRg
  have HRg := Lib.hid HT.out
  clear HT
  have HT := Lib.hid (HBxg.out.on hb)
  clear HBxg
  have HBxg := Lib.hid HT.out
  clear HT
  clear hb
  have HYc := Lib.hid ho
  clear ho
  go_wp2_with fail
  refine (eqSR_any _ _ _ _ ss2 _ _ _ _ _ HX2.out HYc.out hn2).mono ?_
  rintro e w14 ⟨rfl, hb⟩
  clear HYc
  have HZ_14 : Hid (w13.heap.size ≤ w14.heap.size) := Lib.hid hb.size
  have HKn := Lib.hid (HK0.out.trans (hb.mono HK0.out.size))
  clear HK0
  have HK0 := Lib.hid HKn.out
  clear HKn
  have HT := Lib.hid (HRb.out.on hb)
  clear HRb
  have HRb := Lib.hid HT.out
  clear HT
  have HT := Lib.hid (HBxb.out.on hb)
  clear HBxb
  have HBxb := Lib.hid HT.out
  clear HT
  have HT := Lib.hid (HX0.out.on hb)
  clear HX0
  have HX0 := Lib.hid HT.out
  clear HT
  have HT := Lib.hid (HX2.out.on hb)
  clear HX2
  have HX2 := Lib.hid HT.out
  clear HT
  have HT := Lib.hid (HRg.out.on hb)
  clear HRg
  have HRg := Lib.hid HT.out
  clear HT
  have HT := Lib.hid (HBxg.out.on hb)
  clear HBxg
  have HBxg := Lib.hid HT.out
  clear HT
  clear hb
  have hkp0 : (0 : Int) < 1 := by omega
  go_wp2_with fail
  refine (markCO_any _ _ _ cs0 1 _ w5.heap.size w6.heap.size HX0.out (by omega) (by have := HWt0.out; have := HWt2.out; omega) hn0).mono ?_
  rintro e w15 ⟨rfl, hq⟩
  clear HX0
  have HZ_15 : Hid (w14.heap.size ≤ w15.heap.size) := Lib.hid hq.size
  have HKn := Lib.hid (HK0.out.trans ((hq.below (show w5.heap.size ≤ w14.heap.size by have := HZ_1.out; have := HZ_2.out; have := HZ_3.out; have := HZ_4.out; have := HZs_5.out; have := HZ_5.out; have := HZ_6.out; have := HZ_7.out; have := HZ_8.out; have := HZs_9.out; have := HZ_9.out; have := HZ_10.out; have := HZ_11.out; have := HZ_12.out; have := HZ_13.out; have := HZ_14.out; have := HZ_15.out; omega)).mono (show w.heap.size ≤ w5.heap.size by have := HZ_1.out; have := HZ_2.out; have := HZ_3.out; have := HZ_4.out; have := HZs_5.out; have := HZ_5.out; have := HZ_6.out; have := HZ_7.out; have := HZ_8.out; have := HZs_9.out; have := HZ_9.out; have := HZ_10.out; have := HZ_11.out; have := HZ_12.out; have := HZ_13.out; have := HZ_14.out; have := HZ_15.out; omega)))
  clear HK0
  have HK0 := Lib.hid HKn.out
  clear HKn
  have HT := Lib.hid (HRb.out.far hq (by have := HZ_1.out; have := HZ_2.out; have := HZ_3.out; have := HZ_4.out; have := HZs_5.out; have := HZ_5.out; have := HZ_6.out; have := HZ_7.out; have := HZ_8.out; have := HZs_9.out; have := HZ_9.out; have := HZ_10.out; have := HZ_11.out; have := HZ_12.out; have := HZ_13.out; have := HZ_14.out; have := HZ_15.out; omega))
  clear HRb
  have HRb := Lib.hid HT.out
  clear HT
  have HT := Lib.hid (HBxb.out.far hq (by have := HZ_1.out; have := HZ_2.out; have := HZ_3.out; have := HZ_4.out; have := HZs_5.out; have := HZ_5.out; have := HZ_6.out; have := HZ_7.out; have := HZ_8.out; have := HZs_9.out; have := HZ_9.out; have := HZ_10.out; have := HZ_11.out; have := HZ_12.out; have := HZ_13.out; have := HZ_14.out; have := HZ_15.out; omega))
  clear HBxb
  have HBxb := Lib.hid HT.out
  clear HT
  have HT := Lib.hid (HX2.out.far hq (by have := HZ_1.out; have := HZ_2.out; have := HZ_3.out; have := HZ_4.out; have := HZs_5.out; have := HZ_5.out; have := HZ_6.out; have := HZ_7.out; have := HZ_8.out; have := HZs_9.out; have := HZ_9.out; have := HZ_10.out; have := HZ_11.out; have := HZ_12.out; have := HZ_13.out; have := HZ_14.out; have := HZ_15.out; omega))
  clear HX2
  have HX2 := Lib.hid HT.out
  clear HT
  have HT := Lib.hid (HRg.out.far hq (by have := HZ_1.out; have := HZ_2.out; have := HZ_3.out; have := HZ_4.out; have := HZs_5.out; have := HZ_5.out; have := HZ_6.out; have := HZ_7.out; have := HZ_8.out; have := HZs_9.out; have := HZ_9.out; have := HZ_10.out; have := HZ_11.out; have := HZ_12.out; have := HZ_13.out; have := HZ_14.out; have := HZ_15.out; omega))
  clear HRg
  have HRg := Lib.hid HT.out
  clear HT
  have HT := Lib.hid (HBxg.out.far hq (by have := HZ_1.out; have := HZ_2.out; have := HZ_3.out; have := HZ_4.out; have := HZs_5.out; have := HZ_5.out; have := HZ_6.out; have := HZ_7.out; have := HZ_8.out; have := HZs_9.out; have := HZ_9.out; have := HZ_10.out; have := HZ_11.out; have := HZ_12.out; have := HZ_13.out; have := HZ_14.out; have := HZ_15.out; omega))
  clear HBxg
  have HBxg := Lib.hid HT.out
  clear HT
  clear hq
  obtain ⟨kr0, hkr⟩ : ∃ k : Int, 1 + 3 * (n0 : Int) = k := ⟨_, rfl⟩
  rw [hkr]
  have HKv1 : Hid (kr0 = 1 + 3 * (n0 : Int)) := Lib.hid hkr.symm
  have hkp1 : 0 < kr0 := by omega
  clear hkr
  have HNc0 : Hid (n0 ≤ ctlsWt cs0) := Lib.hid (by have := HL0.out; unfold ctlsWt; omega)
  go_wp2_with fail
  refine (markSO_any _ _ _ _ kr0 _ w6.heap.size w7.heap.size HX2.out (by omega) (by have := HNc0.out; have := HKv1.out; have := HWt0.out; have := HWt2.out; omega) hn2).mono ?_
  rintro e w16 ⟨rfl, hq⟩
  clear HX2
  have HZ_16 : Hid (w15.heap.size ≤ w16.heap.size) := Lib.hid hq.size
  have HKn := Lib.hid (HK0.out.trans ((hq.below (show w6.heap.size ≤ w15.heap.size by have := HZ_1.out; have := HZ_2.out; have := HZ_3.out; have := HZ_4.out; have := HZs_5.out; have := HZ_5.out; have := HZ_6.out; have := HZ_7.out; have := HZ_8.out; have := HZs_9.out; have := HZ_9.out; have := HZ_10.out; have := HZ_11.out; have := HZ_12.out; have := HZ_13.out; have := HZ_14.out; have := HZ_15.out; have := HZ_16.out; omega)).mono (show w.heap.size ≤ w6.heap.size by have := HZ_1.out; have := HZ_2.out; have := HZ_3.out; have := HZ_4.out; have := HZs_5.out; have := HZ_5.out; have := HZ_6.out; have := HZ_7.out; have := HZ_8.out; have := HZs_9.out; have := HZ_9.out; have := HZ_10.out; have := HZ_11.out; have := HZ_12.out; have := HZ_13.out; have := HZ_14.out; have := HZ_15.out; have := HZ_16.out; omega)))
  clear HK0
  have HK0 := Lib.hid HKn.out
  clear HKn
  have HT := Lib.hid (HRb.out.far hq (by have := HZ_1.out; have := HZ_2.out; have := HZ_3.out; have := HZ_4.out; have := HZs_5.out; have := HZ_5.out; have := HZ_6.out; have := HZ_7.out; have := HZ_8.out; have := HZs_9.out; have := HZ_9.out; have := HZ_10.out; have := HZ_11.out; have := HZ_12.out; have := HZ_13.out; have := HZ_14.out; have := HZ_15.out; have := HZ_16.out; omega))
  clear HRb
  have HRb := Lib.hid HT.out
  clear HT
  have HT := Lib.hid (HBxb.out.far hq (by have := HZ_1.out; have := HZ_2.out; have := HZ_3.out; have := HZ_4.out; have := HZs_5.out; have := HZ_5.out; have := HZ_6.out; have := HZ_7.out; have := HZ_8.out; have := HZs_9.out; have := HZ_9.out; have := HZ_10.out; have := HZ_11.out; have := HZ_12.out; have := HZ_13.out; have := HZ_14.out; have := HZ_15.out; have := HZ_16.out; omega))
  clear HBxb
  have HBxb := Lib.hid HT.out
  clear HT
  have HT := Lib.hid (HRg.out.far hq (by have := HZ_1.out; have := HZ_2.out; have := HZ_3.out; have := HZ_4.out; have := HZs_5.out; have := HZ_5.out; have := HZ_6.out; have := HZ_7.out; have := HZ_8.out; have := HZs_9.out; have := HZ_9.out; have := HZ_10.out; have := HZ_11.out; have := HZ_12.out; have := HZ_13.out; have := HZ_14.out; have := HZ_15.out; have := HZ_16.out; omega))
  clear HRg
  have HRg := Lib.hid HT.out
  clear HT
  have HT := Lib.hid (HBxg.out.far hq (by have := HZ_1.out; have := HZ_2.out; have := HZ_3.out; have := HZ_4.out; have := HZs_5.out; have := HZ_5.out; have := HZ_6.out; have := HZ_7.out; have := HZ_8.out; have := HZs_9.out; have := HZ_9.out; have := HZ_10.out; have := HZ_11.out; have := HZ_12.out; have := HZ_13.out; have := HZ_14.out; have := HZ_15.out; have := HZ_16.out; omega))
  clear HBxg
  have HBxg := Lib.hid HT.out
  clear HT
  clear hq
  obtain ⟨kr2, hkr⟩ : ∃ k : Int, kr0 + (ss2.length : Int) = k := ⟨_, rfl⟩
  rw [hkr]
  have HKv2 : Hid (kr2 = kr0 + (ss2.length : Int)) := Lib.hid hkr.symm
  have hkp2 : 0 < kr2 := by omega
  clear hkr
  obtain ⟨x0, x1, x2, x3, x4, x5⟩ := HBxg.out.get
  obtain ⟨y0, y1, y2, y3, y4, y5⟩ := HBxb.out.get
  go_wp2_with fail
  clear x0 x1 x2 x3 x4 x5 y0 y1 y2 y3 y4 y5
  refine (eqBR_any _ _ R0 _ _ _ _ _ HRg.out HRb.out (by have := HZ_1.out; have := HZ_2.out; have := HZ_3.out; have := HZ_4.out; have := HZs_5.out; have := HZ_5.out; have := HZ_6.out; have := HZ_7.out; have := HZ_8.out; have := HZs_9.out; have := HZ_9.out; have := HZ_10.out; have := HZ_11.out; have := HZ_12.out; have := HZ_13.out; have := HZ_14.out; have := HZ_15.out; have := HZ_16.out; omega) (by have := HZ_1.out; have := HZ_2.out; have := HZ_3.out; have := HZ_4.out; have := HZs_5.out; have := HZ_5.out; have := HZ_6.out; have := HZ_7.out; have := HZ_8.out; have := HZs_9.out; have := HZ_9.out; have := HZ_10.out; have := HZ_11.out; have := HZ_12.out; have := HZ_13.out; have := HZ_14.out; have := HZ_15.out; have := HZ_16.out; omega) hM0).mono ?_
  rintro e w17 ⟨rfl, hb⟩
  have HZ_17 : Hid (w16.heap.size ≤ w17.heap.size) := Lib.hid hb.size
  have HKn := Lib.hid (HK0.out.trans (hb.mono HK0.out.size))
  clear HK0
  have HK0 := Lib.hid HKn.out
  clear HKn
  have HT := Lib.hid (HRb.out.on hb)
  clear HRb
  have HRb := Lib.hid HT.out
  clear HT
  have HT := Lib.hid (HBxb.out.on hb)
  clear HBxb
  have HBxb := Lib.hid HT.out
  clear HT
  have HT := Lib.hid (HRg.out.on hb)
  clear HRg
  have HRg := Lib.hid HT.out
  clear HT
  have HT := Lib.hid (HBxg.out.on hb)
  clear HBxg
  have HBxg := Lib.hid HT.out
  clear HT
  clear hb
  obtain ⟨x0, x1, x2, x3, x4, x5⟩ := HBxg.out.get
  go_wp2_with fail
  clear x0 x1 x2 x3 x4 x5
  refine (markBR_any _ R0 1 _ w7.heap.size w8.heap.size HRg.out (by have := HZ_1.out; have := HZ_2.out; have := HZ_3.out; have := HZ_4.out; have := HZs_5.out; have := HZ_5.out; have := HZ_6.out; have := HZ_7.out; have := HZ_8.out; have := HZs_9.out; have := HZ_9.out; have := HZ_10.out; have := HZ_11.out; have := HZ_12.out; have := HZ_13.out; have := HZ_14.out; have := HZ_15.out; have := HZ_16.out; have := HZ_17.out; omega) (by omega) (by omega) hM0).mono ?_
  rintro e w18 ⟨rfl, hm, hq⟩
  clear HRg
  have HZ_18 : Hid (w17.heap.size ≤ w18.heap.size) := Lib.hid hq.size
  have HKn := Lib.hid (HK0.out.trans ((hq.below (show w7.heap.size ≤ w17.heap.size by have := HZ_1.out; have := HZ_2.out; have := HZ_3.out; have := HZ_4.out; have := HZs_5.out; have := HZ_5.out; have := HZ_6.out; have := HZ_7.out; have := HZ_8.out; have := HZs_9.out; have := HZ_9.out; have := HZ_10.out; have := HZ_11.out; have := HZ_12.out; have := HZ_13.out; have := HZ_14.out; have := HZ_15.out; have := HZ_16.out; have := HZ_17.out; have := HZ_18.out; omega)).mono (show w.heap.size ≤ w7.heap.size by have := HZ_1.out; have := HZ_2.out; have := HZ_3.out; have := HZ_4.out; have := HZs_5.out; have := HZ_5.out; have := HZ_6.out; have := HZ_7.out; have := HZ_8.out; have := HZs_9.out; have := HZ_9.out; have := HZ_10.out; have := HZ_11.out; have := HZ_12.out; have := HZ_13.out; have := HZ_14.out; have := HZ_15.out; have := HZ_16.out; have := HZ_17.out; have := HZ_18.out; omega)))
  clear HK0
  have HK0 := Lib.hid HKn.out
  clear HKn
  have HT := Lib.hid (HRb.out.far hq (by have := HZ_1.out; have := HZ_2.out; have := HZ_3.out; have := HZ_4.out; have := HZs_5.out; have := HZ_5.out; have := HZ_6.out; have := HZ_7.out; have := HZ_8.out; have := HZs_9.out; have := HZ_9.out; have := HZ_10.out; have := HZ_11.out; have := HZ_12.out; have := HZ_13.out; have := HZ_14.out; have := HZ_15.out; have := HZ_16.out; have := HZ_17.out; have := HZ_18.out; omega))
  clear HRb
  have HRb := Lib.hid HT.out
  clear HT
  have HT := Lib.hid (HBxb.out.far hq (by have := HZ_1.out; have := HZ_2.out; have := HZ_3.out; have := HZ_4.out; have := HZs_5.out; have := HZ_5.out; have := HZ_6.out; have := HZ_7.out; have := HZ_8.out; have := HZs_9.out; have := HZ_9.out; have := HZ_10.out; have := HZ_11.out; have := HZ_12.out; have := HZ_13.out; have := HZ_14.out; have := HZ_15.out; have := HZ_16.out; have := HZ_17.out; have := HZ_18.out; omega))
  clear HBxb
  have HBxb := Lib.hid HT.out
  clear HT
  have HT := Lib.hid (HBxg.out.far hq (by have := HZ_1.out; have := HZ_2.out; have := HZ_3.out; have := HZ_4.out; have := HZs_5.out; have := HZ_5.out; have := HZ_6.out; have := HZ_7.out; have := HZ_8.out; have := HZs_9.out; have := HZ_9.out; have := HZ_10.out; have := HZ_11.out; have := HZ_12.out; have := HZ_13.out; have := HZ_14.out; have := HZ_15.out; have := HZ_16.out; have := HZ_17.out; have := HZ_18.out; omega))
  clear HBxg
  have HBxg := Lib.hid HT.out
  clear HT
  clear hq
  have HMk := Lib.hid hm
  clear hm
  obtain ⟨mm, hmm⟩ : ∃ k : Int, 1 + (bigMk R0 : Int) = k := ⟨_, rfl⟩
  rw [hmm]
  have Hmm := Lib.hid hmm
  have hmp : 0 < mm := by omega
  clear hmm
  obtain ⟨x0, x1, x2, x3, x4, x5⟩ := HBxg.out.get
  go_wp2_with fail
  clear x0 x1 x2 x3 x4 x5
  refine (heldBR_any _ R0 1 _ w7.heap.size w8.heap.size HMk.out (by omega) (by omega) hM0).mono ?_
  rintro e w19 ⟨rfl, hb⟩
  rw [Hmm.out]
  have HZ_19 : Hid (w18.heap.size ≤ w19.heap.size) := Lib.hid hb.size
  have HKn := Lib.hid (HK0.out.trans (hb.mono HK0.out.size))
  clear HK0
  have HK0 := Lib.hid HKn.out
  clear HKn
  have HT := Lib.hid (HRb.out.on hb)
  clear HRb
  have HRb := Lib.hid HT.out
  clear HT
  have HT := Lib.hid (HBxb.out.on hb)
  clear HBxb
  have HBxb := Lib.hid HT.out
  clear HT
  have HT := Lib.hid (HBxg.out.on hb)
  clear HBxg
  have HBxg := Lib.hid HT.out
  clear HT
  have HT := Lib.hid (HMk.out.on hb)
  clear HMk
  have HMk := Lib.hid HT.out
  clear HT
  clear hb
  go_wp2_with fail
  refine (toCS_any A0 n0 c0 cs0 _ ((HA0.out.below HK0.out).wide HK0.out.size) hn0).mono ?_
  rintro e w20 ⟨gc0, rfl, ho, hb⟩
  have HZ_20 : Hid (w19.heap.size ≤ w20.heap.size) := Lib.hid hb.size
  have HKn := Lib.hid (HK0.out.trans (hb.mono HK0.out.size))
  clear HK0
  have HK0 := Lib.hid HKn.out
  clear HKn
  have HT := Lib.hid (HRb.out.on hb)
  clear HRb
  have HRb := Lib.hid HT.out
  clear HT
  have HT := Lib.hid (HBxb.out.on hb)
  clear HBxb
  have HBxb := Lib.hid HT.out
  clear HT
  have HT := Lib.hid (HBxg.out.on hb)
  clear HBxg
  have HBxg := Lib.hid HT.out
  clear HT
  have HT := Lib.hid (HMk.out.on hb)
  clear HMk
  have HMk := Lib.hid HT.out
  clear HT
  clear hb
  have HCc0 := Lib.hid ho
  clear ho
  go_wp2_with fail
  refine (toSR_any A2 _ c2 ss2 _ ((HA2.out.below HK0.out).wide HK0.out.size) hn2).mono ?_
  rintro e w21 ⟨gc2, rfl, ho, hb⟩
  have HZ_21 : Hid (w20.heap.size ≤ w21.heap.size) := Lib.hid hb.size
  have HKn := Lib.hid (HK0.out.trans (hb.mono HK0.out.size))
  clear HK0
  have HK0 := Lib.hid HKn.out
  clear HKn
  have HT := Lib.hid (HRb.out.on hb)
  clear HRb
  have HRb := Lib.hid HT.out
  clear HT
  have HT := Lib.hid (HBxb.out.on hb)
  clear HBxb
  have HBxb := Lib.hid HT.out
  clear HT
  have HT := Lib.hid (HBxg.out.on hb)
  clear HBxg
  have HBxg := Lib.hid HT.out
  clear HT
  have HT := Lib.hid (HMk.out.on hb)
  clear HMk
  have HMk := Lib.hid HT.out
  clear HT
  have HT := Lib.hid (HCc0.out.on hb)
  clear HCc0
  have HCc0 := Lib.hid HT.out
  clear HT
  clear hb
  have HCc2 := Lib.hid ho
  clear ho
  go_wp2_with fail
  refine (HIm.out _ _ _ _ _ HCc0.out.here (strsR_at (rowR_here HCc2.out)) (fun e => by cases e)).mono ?_
  rintro e w22 ⟨vc0, rfl, hrc0, hb⟩; obtain ⟨B1c0, d1c0, B2c0, d2c0, B4c0, d4c0, B5c0, d5c0, rfl⟩ := hrc0.shape
  clear HCc0
  clear HCc2
  have HZ_22 : Hid (w21.heap.size ≤ w22.heap.size) := Lib.hid hb.size
  have HKn := Lib.hid (HK0.out.trans (hb.mono HK0.out.size))
  clear HK0
  have HK0 := Lib.hid HKn.out
  clear HKn
  have HT := Lib.hid (HRb.out.on hb)
  clear HRb
  have HRb := Lib.hid HT.out
  clear HT
  have HT := Lib.hid (HBxb.out.on hb)
  clear HBxb
  have HBxb := Lib.hid HT.out
  clear HT
  have HT := Lib.hid (HBxg.out.on hb)
  clear HBxg
  have HBxg := Lib.hid HT.out
  clear HT
  have HT := Lib.hid (HMk.out.on hb)
  clear HMk
  have HMk := Lib.hid HT.out
  clear HT
  clear hb
  have HRc := Lib.hid hrc0
  clear hrc0
  have hbX := (Below.refl w22.heap.size w22).alloc (Nat.le_refl _) (.cells #[.int .i64 R0.roots, .slice B1c0 R0.nodes.length d1c0, .slice B2c0 R0.sites.length d2c0, .int .i64 R0.edges, .slice B4c0 R0.outer.length d4c0, .slice B5c0 R0.inner.length d5c0] 28)
  obtain ⟨y0, y1, y2, y3, y4, y5⟩ := (HBxb.out.on hbX).get
  go_wp2_with fail
  clear y0 y1 y2 y3 y4 y5
  have HBxc : Hid (BoxAt (w22.alloc (.cells #[.int .i64 R0.roots, .slice B1c0 R0.nodes.length d1c0, .slice B2c0 R0.sites.length d2c0, .int .i64 R0.edges, .slice B4c0 R0.outer.length d4c0, .slice B5c0 R0.inner.length d5c0] 28)) w22.heap.size 28 (.int .i64 R0.roots) (.slice B1c0 R0.nodes.length d1c0) (.slice B2c0 R0.sites.length d2c0) (.int .i64 R0.edges) (.slice B4c0 R0.outer.length d4c0) (.slice B5c0 R0.inner.length d5c0)) := Lib.hid (six_new w22 _ _ _ _ _ _ _)
  obtain ⟨w23, hwn⟩ : ∃ x, w22.alloc (.cells #[.int .i64 R0.roots, .slice B1c0 R0.nodes.length d1c0, .slice B2c0 R0.sites.length d2c0, .int .i64 R0.edges, .slice B4c0 R0.outer.length d4c0, .slice B5c0 R0.inner.length d5c0] 28) = x := ⟨_, rfl⟩
  have HZs_23 : Hid (w22.heap.size < w23.heap.size) := Lib.hid (by rw [← hwn]; simp)
  rw [hwn] at HBxc hbX ⊢
  clear hwn
  have HZ_23 : Hid (w22.heap.size ≤ w23.heap.size) := Lib.hid hbX.size
  have HKn := Lib.hid (HK0.out.trans (hbX.mono HK0.out.size))
  clear HK0
  have HK0 := Lib.hid HKn.out
  clear HKn
  have HT := Lib.hid (HRb.out.on hbX)
  clear HRb
  have HRb := Lib.hid HT.out
  clear HT
  have HT := Lib.hid (HBxb.out.on hbX)
  clear HBxb
  have HBxb := Lib.hid HT.out
  clear HT
  have HT := Lib.hid (HBxg.out.on hbX)
  clear HBxg
  have HBxg := Lib.hid HT.out
  clear HT
  have HT := Lib.hid (HMk.out.on hbX)
  clear HMk
  have HMk := Lib.hid HT.out
  clear HT
  have HT := Lib.hid (HRc.out.on hbX)
  clear HRc
  have HRc := Lib.hid HT.out
  clear HT
  clear hbX
  refine (eqBR_any _ _ R0 _ _ _ _ _ HRc.out HRb.out (by have := HZ_1.out; have := HZ_2.out; have := HZ_3.out; have := HZ_4.out; have := HZs_5.out; have := HZ_5.out; have := HZ_6.out; have := HZ_7.out; have := HZ_8.out; have := HZs_9.out; have := HZ_9.out; have := HZ_10.out; have := HZ_11.out; have := HZ_12.out; have := HZ_13.out; have := HZ_14.out; have := HZ_15.out; have := HZ_16.out; have := HZ_17.out; have := HZ_18.out; have := HZ_19.out; have := HZ_20.out; have := HZ_21.out; have := HZ_22.out; have := HZs_23.out; have := HZ_23.out; omega) (by have := HZ_1.out; have := HZ_2.out; have := HZ_3.out; have := HZ_4.out; have := HZs_5.out; have := HZ_5.out; have := HZ_6.out; have := HZ_7.out; have := HZ_8.out; have := HZs_9.out; have := HZ_9.out; have := HZ_10.out; have := HZ_11.out; have := HZ_12.out; have := HZ_13.out; have := HZ_14.out; have := HZ_15.out; have := HZ_16.out; have := HZ_17.out; have := HZ_18.out; have := HZ_19.out; have := HZ_20.out; have := HZ_21.out; have := HZ_22.out; have := HZs_23.out; have := HZ_23.out; omega) hM0).mono ?_
  rintro e w24 ⟨rfl, hb⟩
  have HZ_24 : Hid (w23.heap.size ≤ w24.heap.size) := Lib.hid hb.size
  have HKn := Lib.hid (HK0.out.trans (hb.mono HK0.out.size))
  clear HK0
  have HK0 := Lib.hid HKn.out
  clear HKn
  have HT := Lib.hid (HRb.out.on hb)
  clear HRb
  have HRb := Lib.hid HT.out
  clear HT
  have HT := Lib.hid (HBxb.out.on hb)
  clear HBxb
  have HBxb := Lib.hid HT.out
  clear HT
  have HT := Lib.hid (HBxg.out.on hb)
  clear HBxg
  have HBxg := Lib.hid HT.out
  clear HT
  have HT := Lib.hid (HMk.out.on hb)
  clear HMk
  have HMk := Lib.hid HT.out
  clear HT
  have HT := Lib.hid (HRc.out.on hb)
  clear HRc
  have HRc := Lib.hid HT.out
  clear HT
  have HT := Lib.hid (HBxc.out.on hb)
  clear HBxc
  have HBxc := Lib.hid HT.out
  clear HT
  clear hb
  obtain ⟨x0, x1, x2, x3, x4, x5⟩ := HBxg.out.get
  go_wp2_with fail
  clear x0 x1 x2 x3 x4 x5
  refine (heldBR_any _ R0 1 _ w7.heap.size w8.heap.size HMk.out (by omega) (by omega) hM0).mono ?_
  rintro e w25 ⟨rfl, hb⟩
  rw [Hmm.out]
  have HZ_25 : Hid (w24.heap.size ≤ w25.heap.size) := Lib.hid hb.size
  have HKn := Lib.hid (HK0.out.trans (hb.mono HK0.out.size))
  clear HK0
  have HK0 := Lib.hid HKn.out
  clear HKn
  have HT := Lib.hid (HRb.out.on hb)
  clear HRb
  have HRb := Lib.hid HT.out
  clear HT
  have HT := Lib.hid (HBxb.out.on hb)
  clear HBxb
  have HBxb := Lib.hid HT.out
  clear HT
  have HT := Lib.hid (HBxg.out.on hb)
  clear HBxg
  have HBxg := Lib.hid HT.out
  clear HT
  have HT := Lib.hid (HMk.out.on hb)
  clear HMk
  have HMk := Lib.hid HT.out
  clear HT
  have HT := Lib.hid (HRc.out.on hb)
  clear HRc
  have HRc := Lib.hid HT.out
  clear HT
  have HT := Lib.hid (HBxc.out.on hb)
  clear HBxc
  have HBxc := Lib.hid HT.out
  clear HT
  clear hb
  go_wp2_with fail
  go_ret
  exact ⟨rfl, HK0.out⟩

theorem own : ownKnob Try.prog.godebug = none := by kernel_rfl
theorem laidOut : laidOutB Try.prog = true := facts.laid

set_option maxRecDepth 100000 in
theorem lifted (os : Os) (started : os.Started) (H : Type) (enc : TypeId × Value → H) :
    ReturnsInHanded {} Try.checked os 5 .any (Rows.fnExactIonOfSpec.pre6 enc Try.prog Try.f5 Rows.fnExactIonOfRow.domain false) (Rows.fnExactIonOfSpec.post enc Try.prog Try.f5 false true false false) := by
  refine returnsInHanded_of_change (C := Try.checked) own started (by kernel_rfl) Try.func5
    (ChangeSpec.witness6 (enc := enc) (C := Try.checked) false ⟨#[], #[.slice none 0 0, .int .i64 0, .slice none 0 0], []⟩ 8 (by kernel_rfl) (by kernel_rfl) (by kernel_rfl) (by kernel_rfl)) ?_
  intro W base args ds gs before hval0 hW hcnd _
  have hval : ∀ (j : Nat) t v, Try.f5.params[j]? = some t → args[j]? = some v → Value.okWide Try.prog W .any base t v := hval0
  have hW' := hW
  obtain ⟨p, q, hA0, hV, rfl, hfz, hnd⟩ := hW
  have hA : DataW.TrodAll enc Try.prog W 0 (fun _ => true) true Try.f5.params.toList args.toList ds p := hA0
  rw [Try.params5] at hA hval
  obtain ⟨v0, vs0, d0, ds0, p0, q0, hargs, rfl, rfl, h0, r0⟩ := trodAll_cons hA
  obtain ⟨v1, vs1, d1, ds1, p1, q1, rfl, rfl, rfl, h1, r1⟩ := trodAll_cons r0
  obtain ⟨v2, vs2, d2, ds2, p2, q2, rfl, rfl, rfl, h2, r2⟩ := trodAll_cons r1
  obtain ⟨rfl, rfl, rfl⟩ := trodAll_nil r2
  obtain rfl : args = #[v0, v1, v2] := by cases args; simp_all
  obtain ⟨rfl, rfl⟩ := trodVars_none hV
  have k0 := h0
  have lt0 : ∀ x ∈ p0, x.block < W.heap.size := by obtain ⟨m, hm⟩ := k0; exact DataW.trod_lt m _ _ _ hm
  obtain ⟨A0, n0, c0, cs0, rfl, s0, w0⟩ := open_sig (hval 0 37 v0 rfl rfl) h0 lt0
  obtain ⟨a1, rfl, rfl, rfl, w1⟩ := open_int Try.underlying3 (hval 1 3 v1 rfl rfl) h1
  have k2 := h2
  have lt2 : ∀ x ∈ p2, x.block < W.heap.size := by obtain ⟨m, hm⟩ := k2; exact DataW.trod_lt m _ _ _ hm
  obtain ⟨A2, n2, c2, rfl⟩ := okWide_slice Try.underlying22 (hval 2 22 v2 rfl rfl)
  obtain ⟨ss2, s2, b2, w2⟩ := sr_strings Try.underlying22 Try.underlying9 (by kernel_rfl) h2 lt2
  clear hA0 hval0
  refine (walk A0 n0 c0 cs0 a1 A2 n2 c2 ss2 W s0 w0 w1 s2 b2 w2).mono fun e W' ⟨he, bel⟩ => ?_
  subst he
  exact ⟨_, rfl, _, _, _, [], _, [], hW', trodAll_mk1 (shut_bool Try.underlying4 _), (trodAll_cons_mk (Below.trod laidOut (by kernel_rfl) (of_decide_eq_true (by kernel_rfl)) k0 bel lt0) (trodAll_cons_mk (shut_int Try.underlying3 w1) (trodAll_cons_mk (Below.trod laidOut (by kernel_rfl) (of_decide_eq_true (by kernel_rfl)) k2 bel lt2) trodAll_mk0))), rfl, bel.frame _, fun h => by cases h⟩

theorem closed : joinedFacts Try.checked.prog 5 Try.f5 Rows.fnExactIonOfSpec Rows.fnExactIonOfRow = true := by
  unfold joinedFacts
  rw [facts.laid, facts.maps, facts.heard, facts.enter, facts.lifts, facts.make, facts.keys]
  kernel_rfl

theorem over : Rows.fnExactIonOfRow.holds Try.pinned (OpenSpec.ofChange Rows.fnExactIonOfSpec) :=
  OpenClaim.holds_of_wide 5 Try.f5 rfl rfl rfl rfl rfl rfl rfl ⟨rfl, rfl, rfl, rfl, rfl⟩ rfl rfl rfl rfl rfl (by kernel_rfl) Try.func5 closed
    (of_decide_eq_true (by kernel_rfl)) (by unfold Func.isWrapper; first | (rw [if_pos (by decide +kernel)]; kernel_rfl) | (rw [if_neg (by decide +kernel)]; exact ⟨rfl, rfl⟩))
    (fun os started H enc _ => lifted os started H enc)

theorem proved : Rows.FnExactIonOfSaid := over
#print axioms proved
end Go.Proofs.Ytmcdbhlpmlcjpaa.fnExactIonOf
