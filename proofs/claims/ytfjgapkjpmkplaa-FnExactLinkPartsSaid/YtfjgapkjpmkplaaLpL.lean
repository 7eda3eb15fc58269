/- FnExactLinkParts: for every list of Controls and every Bigraph, impl's function answers as spec's does and leaves both as they were. No condition. -/
import Derived.Test.YtfjgapkjpmkplaaLpm
namespace Go.Proofs.Ytfjgapkjpmkplaa.fnExactLinkParts
open kit bg opn strs sig isig hc only hb ht gd cf lawb rs marks hi lpx lps lpi lpm
open Go.ChangeShapes Go.WideShapes Go.ChangeAt Go.RowKit
open Go.ChangeMaps (open_string shut_string)
set_option linter.unusedVariables false

set_option maxRecDepth 20000 in
set_option maxHeartbeats 3200000 in
theorem walk (A : Option Addr) (n c : Nat) (cs : List Ctl) (v : Value) (b : Big) (w : World) (h : CtlsAt w w.heap.size A n cs) (hw : CtlsW cs) (hv : BigAt w w.heap.size v b) (hvw : BigW b) :
    Calls Try.prog 5 #[.slice A n c, v] w fun e w' => e = .returned (.bool true) ∧ Below w.heap.size w w' := by
  obtain ⟨A1, n1, c1, A2, n2, c2, A4, n4, c4, A5, n5, c5, rfl, h1, h2, h4, h5⟩ := hv
  have HBox : Hid (BoxAt (w.alloc (.cells #[.int .i64 b.roots, .slice A1 n1 c1, .slice A2 n2 c2, .int .i64 b.edges, .slice A4 n4 c4, .slice A5 n5 c5] 28)) w.heap.size 28 (.int .i64 b.roots) (.slice A1 n1 c1) (.slice A2 n2 c2) (.int .i64 b.edges) (.slice A4 n4 c4) (.slice A5 n5 c5)) := Lib.hid (six_new w _ _ _ _ _ _ _)
  have HB0 := Lib.hid ((Below.refl w.heap.size w).alloc (Nat.le_refl _) (.cells #[.int .i64 b.roots, .slice A1 n1 c1, .slice A2 n2 c2, .int .i64 b.edges, .slice A4 n4 c4, .slice A5 n5 c5] 28))
  obtain ⟨W, hW⟩ : ∃ W, w.alloc (.cells #[.int .i64 b.roots, .slice A1 n1 c1, .slice A2 n2 c2, .int .i64 b.edges, .slice A4 n4 c4, .slice A5 n5 c5] 28) = W := ⟨_, rfl⟩
  have hWz : W.heap.size = w.heap.size + 1 := by rw [← hW]; simp
  rw [hW] at HBox HB0
  have HWq := Lib.hid hW
  have hWs : w.heap.size < W.heap.size := by omega
  have hVW : BigAt W W.heap.size (.agg #[.int .i64 b.roots, .slice A1 n1 c1, .slice A2 n2 c2, .int .i64 b.edges, .slice A4 n4 c4, .slice A5 n5 c5]) b := BigAt.wide (BigAt.below ⟨_, _, _, _, _, _, _, _, _, _, _, _, rfl, h1, h2, h4, h5⟩ HB0.out) HB0.out.size
  clear hW hWz
  clear h1 h2 h4 h5
  have HVW := Lib.hid hvw
  have HV := Lib.hid hVW
  have HC := Lib.hid (CtlsAt.wide (h.below HB0.out) HB0.out.size)
  have HL := Lib.hid h.1
  clear hVW h
  go_enter Try.func5, Try.ntmps5
  go_wp2_with fail
  rw [HWq.out]
  refine (szCS_any A n c cs 1048576 _ _ HC.out (Nat.le_refl _) (by omega) (by omega) hw).mono ?_
  rintro e w1 ⟨r, rfl, hr, hr1, hr2, hk1⟩
  have hs1 : w.heap.size < w1.heap.size := Nat.lt_of_lt_of_le hWs hk1.size
  obtain ⟨x0, x1, x2, x3, x4, x5⟩ := (HBox.out.below hk1 hWs).get
  by_cases hneg : r < 0
  · go_wp2_with fail
    go_ret
    exact ⟨rfl, HB0.out.trans (hk1.mono HB0.out.size)⟩
  have hlen : n ≤ 1048576 := by have := HL.out; unfold ctlsWt at hr; omega
  have hs2 : ∀ c ∈ cs, c.name.size ≤ 1048576 := fun c hc => by have := sumBy_mem (fun c : Ctl => c.name.size) hc; unfold ctlsWt at hr; omega
  have HS := Lib.hid hs2
  clear hr hs2
  go_wp2_with fail
  refine (szB_any _ b r _ w1.heap.size ((HV.out.below hk1).wide hk1.size) (Nat.le_refl _) hr1 hr2 HVW.out).mono ?_
  rintro e w2 ⟨r', rfl, hr', hr1', hr2', hb2⟩
  have hk2 := hk1.trans (hb2.mono hk1.size)
  clear hk1 hb2 x0 x1 x2 x3 x4 x5
  by_cases hneg' : r' < 0
  · go_wp2_with fail
    go_ret
    exact ⟨rfl, HB0.out.trans (hk2.mono HB0.out.size)⟩
  have hwt : bigWt b ≤ 1048576 := by omega
  have HWT := Lib.hid hwt
  have HBS := Lib.hid (bigS_of hwt)
  obtain ⟨q, hq⟩ : ∃ q, bigB cs b = q := ⟨_, rfl⟩
  obtain ⟨ss, hss⟩ : ∃ ss, lpR cs b = ss := ⟨_, rfl⟩
  have hN : ss.length ≤ 1048576 := by rw [← hss]; exact (lpR_len HBS.out)
  have HSp := Lib.hid (fun A n c v w h1 h2 hn => hss ▸ hq ▸ sLp_any A n c cs v b w h1 h2 hn HS.out HBS.out HVW.out)
  have HIm := Lib.hid (fun A n c v w h1 h2 hn => hss ▸ hq ▸ iLp_any A n c cs v b w h1 h2 hn HS.out HBS.out HVW.out)
  clear hr' hr1' hr2' hr1 hr2 hwt hq hss hneg hs1
  obtain ⟨x0, x1, x2, x3, x4, x5⟩ := (HBox.out.below hk2 hWs).get
  have hs2 : w.heap.size < w2.heap.size := Nat.lt_of_lt_of_le hWs hk2.size
  go_wp2_with fail
  go_region_held3 (fun w' => w'.cell? ⟨w.heap.size, 0, none⟩ = some (.int .i64 b.roots) ∧ w'.cell? ⟨w.heap.size, 1, none⟩ = some (.slice A1 n1 c1) ∧ w'.cell? ⟨w.heap.size, 2, none⟩ = some (.slice A2 n2 c2) ∧ w'.cell? ⟨w.heap.size, 3, none⟩ = some (.int .i64 b.edges) ∧ w'.cell? ⟨w.heap.size, 4, none⟩ = some (.slice A4 n4 c4) ∧ w'.cell? ⟨w.heap.size, 5, none⟩ = some (.slice A5 n5 c5)) (first | exact (HBox.out.below hk5 hWs).get | exact (HBox.out.below hk4 hWs).get | exact (HBox.out.below hk3 hWs).get | exact (HBox.out.below hk2.drew hWs).get)
    (first
     | (go_at_call 11; refine (toCS_any A n c cs _ ((HC.out.below hk2.drew).wide hk2.drew.size) hlen).mono ?_; rintro e w3 ⟨g3, rfl, ho3, hb3⟩; have hk3 := hk2.drew.trans (hb3.mono hk2.drew.size); have hs3 : w.heap.size < w3.heap.size := Nat.lt_of_lt_of_le hWs hk3.size)
     | (go_at_call 23; refine (toB_any _ b _ ((HV.out.below hk3).wide hk3.size) HBS.out).mono ?_; rintro e w4 ⟨v4, rfl, ho4, hb4⟩; have hk4 := hk3.trans (hb4.mono hk3.size); have hs4 : w.heap.size < w4.heap.size := Nat.lt_of_lt_of_le hWs hk4.size; have hc4 := (ho3.at.below hb4).wide hb4.size)
     | (go_at_call 22; refine (HSp.out _ _ _ _ _ hc4 ho4.at hlen).mono ?_; rintro e w5 ⟨v5, rfl, hR5, hb5⟩; have hk5 := hk4.trans (hb5.mono hk4.size)))
  have H5 := Lib.hid hk5
  have HR5 := Lib.hid (hR5.wide (Nat.zero_le _) (Nat.le_refl _))
  have hj5 := Below.refl w5.heap.size w5
  clear hR5 hb3 hb4 hb5 ho3 ho4 hc4 hk2 hk3 hk4 hs2 hs3 hs4 x0 x1 x2 x3 x4 x5
  obtain ⟨x0, x1, x2, x3, x4, x5⟩ := (HBox.out.below hk5 hWs).get
  go_wp2_with fail
  refine (toCS_any A n c cs _ ((HC.out.below hk5).wide hk5.size) hlen).mono ?_
  rintro e w6 ⟨g6, rfl, ho6, hb6⟩
  have hj6 := hj5.trans (hb6.mono hj5.size)
  have hk6 := H5.out.trans (hj6.mono H5.out.size)
  have HO6 := Lib.hid ho6
  clear hj5 hk5 hb6 ho6 x0 x1 x2 x3 x4 x5
  obtain ⟨x0, x1, x2, x3, x4, x5⟩ := (HBox.out.below hk6 hWs).get
  go_wp2_with fail
  refine (toB_any _ b _ ((HV.out.below hk6).wide hk6.size) HBS.out).mono ?_
  rintro e w7 ⟨v7, rfl, ho7, hb7⟩
  have hj7 := hj6.trans (hb7.mono hj6.size)
  have HO7 := Lib.hid ho7
  have HA7 := Lib.hid (HO6.out.below hb7 (Nat.le_refl _))
  have hz7 : w6.heap.size ≤ w7.heap.size := hb7.size
  obtain ⟨y1, y2, y4, y5, rfl, -⟩ := ho7
  have hj6s := hj6.size
  clear hj6 hk6 hb7 HO6 x0 x1 x2 x3 x4 x5
  go_wp2_with fail
  have HBx8 : Hid (BoxAt (w7.alloc (.cells #[.int .i64 b.roots, .slice (some ⟨y1, 0, none⟩) b.nodes.length b.nodes.length, .slice (some ⟨y2, 0, none⟩) b.sites.length b.sites.length, .int .i64 b.edges, .slice (some ⟨y4, 0, none⟩) b.outer.length b.outer.length, .slice (some ⟨y5, 0, none⟩) b.inner.length b.inner.length] 39)) w7.heap.size 39 (.int .i64 b.roots) (.slice (some ⟨y1, 0, none⟩) b.nodes.length b.nodes.length) (.slice (some ⟨y2, 0, none⟩) b.sites.length b.sites.length) (.int .i64 b.edges) (.slice (some ⟨y4, 0, none⟩) b.outer.length b.outer.length) (.slice (some ⟨y5, 0, none⟩) b.inner.length b.inner.length)) := Lib.hid (six_new w7 _ _ _ _ _ _ _)
  have hb78 := (Below.refl w7.heap.size w7).alloc (Nat.le_refl _) (.cells #[.int .i64 b.roots, .slice (some ⟨y1, 0, none⟩) b.nodes.length b.nodes.length, .slice (some ⟨y2, 0, none⟩) b.sites.length b.sites.length, .int .i64 b.edges, .slice (some ⟨y4, 0, none⟩) b.outer.length b.outer.length, .slice (some ⟨y5, 0, none⟩) b.inner.length b.inner.length] 39)
  obtain ⟨w8, hw8⟩ : ∃ w8, w7.alloc (.cells #[.int .i64 b.roots, .slice (some ⟨y1, 0, none⟩) b.nodes.length b.nodes.length, .slice (some ⟨y2, 0, none⟩) b.sites.length b.sites.length, .int .i64 b.edges, .slice (some ⟨y4, 0, none⟩) b.outer.length b.outer.length, .slice (some ⟨y5, 0, none⟩) b.inner.length b.inner.length] 39) = w8 := ⟨_, rfl⟩
  have hs8 : w7.heap.size < w8.heap.size := by rw [← hw8]; simp
  rw [hw8] at HBx8 hb78 ⊢
  have hj8 := hj7.trans (hb78.mono hj7.size)
  have HA8 := Lib.hid (HA7.out.below hb78 hz7)
  have HO8 := Lib.hid (HO7.out.below hb78 (Nat.le_refl _))
  have HZ7 := Lib.hid (And.intro hj7.size hz7)
  have HZ6 := Lib.hid hj6s
  clear hj7 hb78 hw8 HA7 HO7 hz7
  refine (HIm.out _ _ _ _ _ (HA8.out.at.wide (Nat.le_trans HZ7.out.2 (Nat.le_of_lt hs8))) (HO8.out.at.wide (Nat.le_of_lt hs8)) hlen).mono ?_
  rintro e w9 ⟨v9, rfl, hR9, hb9⟩
  have hj9 := hj8.trans (hb9.mono hj8.size)
  have hk9 := H5.out.trans (hj9.mono H5.out.size)
  have HR9 := Lib.hid hR9
  have HR59 := Lib.hid (HR5.out.below hj9 (Nat.le_refl _))
  have HA9 := Lib.hid (HA8.out.below (hb9.mono (Nat.le_of_lt hs8)) HZ7.out.2)
  have HO9 := Lib.hid (HO8.out.below (hb9.mono (Nat.le_of_lt hs8)) (Nat.le_refl _))
  have HBx9 := Lib.hid (HBx8.out.below hb9 hs8)
  have HZ8 := Lib.hid hs8
  have HZ5 := Lib.hid hj8.size
  have HZ9 := Lib.hid hb9.size
  have hs9 : w7.heap.size < w9.heap.size := Nat.lt_of_lt_of_le hs8 hb9.size
  clear hj8 hb9 hs8 HA8 HO8 HBx8 hR9
  go_wp2_with fail
  refine (eqRI_any v9 v5 ss _ _ _ _ _ HR9.out HR59.out hN).mono ?_
  rintro e w10 ⟨rfl, hb10⟩
  have hj10 := hj9.trans (hb10.mono hj9.size)
  have hk10 := H5.out.trans (hj10.mono H5.out.size)
  have HR10 := Lib.hid (HR9.out.below hb10 (Nat.le_refl _))
  have HA10 := Lib.hid (HA9.out.below (hb10.mono (Nat.le_of_lt hs9)) HZ7.out.2)
  have HO10 := Lib.hid (HO9.out.below (hb10.mono (Nat.le_of_lt hs9)) (Nat.le_refl _))
  have HBx10 := Lib.hid (HBx9.out.below hb10 hs9)
  have hz10 : w9.heap.size ≤ w10.heap.size := hb10.size
  have hs10 : w7.heap.size < w10.heap.size := Nat.lt_of_lt_of_le hs9 hb10.size
  clear hj9 hk9 hb10 HA9 HO9 HBx9 HR9 HR59
  go_wp2_with fail
  refine (toCS_any A n c cs _ ((HC.out.below hk10).wide hk10.size) hlen).mono ?_
  rintro e w11 ⟨g11, rfl, ho11, hb11⟩
  have hc11 := (HA10.out.at.below (hb11.mono (Nat.le_trans HZ7.out.2 (Nat.le_of_lt hs10)))).wide (Nat.le_trans HZ7.out.2 (Nat.le_trans (Nat.le_of_lt hs10) hb11.size))
  go_wp2_with fail
  refine (eqCS_any _ _ _ _ _ cs _ _ _ hc11 ho11.at (Nat.le_refl _) (Nat.le_refl _) hlen).mono ?_
  rintro e w12 ⟨rfl, hb12⟩
  have hb1012 := hb11.trans (hb12.mono hb11.size)
  have hj12 := hj10.trans (hb1012.mono hj10.size)
  have hk12 := H5.out.trans (hj12.mono H5.out.size)
  have HR12 := Lib.hid (HR10.out.below hb1012 hz10)
  have HA12 := Lib.hid (HA10.out.below (hb1012.mono (Nat.le_of_lt hs10)) HZ7.out.2)
  have HO12 := Lib.hid (HO10.out.below (hb1012.mono (Nat.le_of_lt hs10)) (Nat.le_refl _))
  have HBx12 := Lib.hid (HBx10.out.below hb1012 hs10)
  have hz12 : w9.heap.size ≤ w12.heap.size := Nat.le_trans hz10 hb1012.size
  have hs12 : w7.heap.size < w12.heap.size := Nat.lt_of_lt_of_le hs10 hb1012.size
  clear hj10 hk10 hb11 hb12 hb1012 HA10 HO10 HBx10 HR10 hz10 hs10 hc11 ho11
  go_wp2_with fail
  have hbD : Below w12.heap.size w12 w12.drew := (Below.refl _ _).drew
  go_region_held3 (fun w' => (w'.cell? ⟨w.heap.size, 0, none⟩ = some (.int .i64 b.roots) ∧ w'.cell? ⟨w.heap.size, 1, none⟩ = some (.slice A1 n1 c1) ∧ w'.cell? ⟨w.heap.size, 2, none⟩ = some (.slice A2 n2 c2) ∧ w'.cell? ⟨w.heap.size, 3, none⟩ = some (.int .i64 b.edges) ∧ w'.cell? ⟨w.heap.size, 4, none⟩ = some (.slice A4 n4 c4) ∧ w'.cell? ⟨w.heap.size, 5, none⟩ = some (.slice A5 n5 c5)) ∧ (w'.cell? ⟨w7.heap.size, 0, none⟩ = some (.int .i64 b.roots) ∧ w'.cell? ⟨w7.heap.size, 1, none⟩ = some (.slice (some ⟨y1, 0, none⟩) b.nodes.length b.nodes.length) ∧ w'.cell? ⟨w7.heap.size, 2, none⟩ = some (.slice (some ⟨y2, 0, none⟩) b.sites.length b.sites.length) ∧ w'.cell? ⟨w7.heap.size, 3, none⟩ = some (.int .i64 b.edges) ∧ w'.cell? ⟨w7.heap.size, 4, none⟩ = some (.slice (some ⟨y4, 0, none⟩) b.outer.length b.outer.length) ∧ w'.cell? ⟨w7.heap.size, 5, none⟩ = some (.slice (some ⟨y5, 0, none⟩) b.inner.length b.inner.length))) (first | exact ⟨(HBox.out.below hk14 hWs).get, (HBx13.out.below hb14 hs13).get⟩ | exact ⟨(HBox.out.below hk13 hWs).get, HBx13.out.get⟩ | exact ⟨(HBox.out.below hk12.drew hWs).get, (HBx12.out.below hbD hs12).get⟩)
    (first
     | (go_at_call 23; refine (toB_any _ b _ ((HV.out.below hk12.drew).wide hk12.drew.size) HBS.out).mono ?_; rintro e w13 ⟨v13, rfl, ho13, hb13⟩; have hk13 := hk12.drew.trans (hb13.mono hk12.drew.size); have hb1213 := hbD.trans (hb13.mono hbD.size); have HBx13 := Lib.hid (HBx12.out.below hb1213 hs12); have hs13 : w7.heap.size < w13.heap.size := Nat.lt_of_lt_of_le hs12 hb1213.size; have ho1213 := (HO12.out.below (hb1213.mono (Nat.le_of_lt hs12)) (Nat.le_refl _)).at.wide (Nat.le_of_lt hs13))
     | (go_at_call 26; refine (eqB_any _ _ b _ _ _ ho1213 ho13.at (Nat.le_refl _) (Nat.le_refl _) HVW.out HBS.out.2.2.2.1).mono ?_; rintro e w14 ⟨rfl, hb14⟩; have hk14 := hk13.trans (hb14.mono hk13.size)))
  have hb1214 := hb1213.trans (hb14.mono hb1213.size)
  have hj14 := hj12.trans (hb1214.mono hj12.size)
  have HR14 := Lib.hid (HR12.out.below hb1214 hz12)
  have HA14 := Lib.hid (HA12.out.below (hb1214.mono (Nat.le_of_lt hs12)) HZ7.out.2)
  have HO14 := Lib.hid (HO12.out.below (hb1214.mono (Nat.le_of_lt hs12)) (Nat.le_refl _))
  have HBx14 := Lib.hid (HBx12.out.below hb1214 hs12)
  have hz14 : w9.heap.size ≤ w14.heap.size := Nat.le_trans hz12 hb1214.size
  have hs14 : w7.heap.size < w14.heap.size := Nat.lt_of_lt_of_le hs12 hb1214.size
  clear hj12 hk12 hk13 hk14 hb13 hb14 hb1213 hb1214 HA12 HO12 HBx12 HBx13 HR12 hz12 hs12 hs13 ho13 ho1213 hbD
  obtain ⟨ga, fa, ea, la1, la2, la3⟩ := HA14.out.rows
  injection ea with ea
  injection ea with ea _
  subst ea
  go_wp2_with fail
  have hk3n : (0 : Int) < 1 + 3 * (n : Int) := by omega
  have hk3m : 1 + 3 * (n : Int) ≤ 3200000 := by omega
  refine (markCS_any g6 n n fa 1 _ w5.heap.size w6.heap.size la3 la1 la2 (by omega) (by omega) hlen).mono ?_
  rintro e w15 ⟨rfl, hq15⟩
  have hj15 := hj14.trans (hq15.below hj14.size)
  have HR15 := Lib.hid (HR14.out.apart hq15 (Nat.le_trans HZ7.out.2 (Nat.le_of_lt HZ8.out)))
  have HO15 := Lib.hid (HO14.out.blocks (fun k h1 h2 => hq15.block k (Nat.lt_trans h2 hs14) (.inr h1)))
  have HBx15 := Lib.hid (show BoxAt w15 _ _ _ _ _ _ _ _ from World.rowIs.of_block HBx14.out (hq15.block _ hs14 (.inr HZ7.out.2)))
  have hz15 : w9.heap.size ≤ w15.heap.size := Nat.le_trans hz14 hq15.size
  have hs15 : w7.heap.size < w15.heap.size := Nat.lt_of_lt_of_le hs14 hq15.size
  clear hj14 hq15 HA14 HO14 HBx14 HR14 hz14 hs14 la1 la2 la3
  obtain ⟨x0, x1, x2, x3, x4, x5⟩ := HBx15.out.get
  obtain ⟨k15, hk15⟩ : ∃ k : Int, 1 + 3 * (n : Int) = k := ⟨_, rfl⟩
  rw [hk15] at hk3n hk3m ⊢
  go_wp2_with fail
  refine (markB_any _ b k15 _ w6.heap.size w7.heap.size HO15.out (Nat.le_of_lt hs15) hk3n hk3m HWT.out).mono ?_
  rintro e w16 ⟨r16, rfl, hr16, hr16', hq16⟩
  have hj16 := hj15.trans ((hq16.below (Nat.le_trans HZ7.out.2 (Nat.le_of_lt hs15))).mono HZ6.out)
  have HR16 := Lib.hid (HR15.out.apart hq16 (Nat.le_of_lt HZ8.out))
  have HR516 := Lib.hid (HR5.out.below hj16 (Nat.le_refl _))
  have hz16 : w9.heap.size ≤ w16.heap.size := Nat.le_trans hz15 hq16.size
  have hr16'' : r16 ≤ 8000000 := by omega
  clear hj15 hq16 HO15 HBx15 HR15 hz15 hs15 x0 x1 x2 x3 x4 x5 hk15 hk3n hk3m hr16'
  go_wp2_with fail
  refine (eqRI_any v9 v5 ss _ _ _ _ _ HR16.out HR516.out hN).mono ?_
  rintro e w17 ⟨rfl, hb17⟩
  have hj17 := hj16.trans (hb17.mono hj16.size)
  have HR17 := Lib.hid (HR16.out.below hb17 hz16)
  have hz17 : w9.heap.size ≤ w17.heap.size := Nat.le_trans hz16 hb17.size
  clear hj16 hb17 HR16 HR516 hz16
  go_wp2_with fail
  refine (markRI_any v9 _ 1 _ _ _ HR17.out (by omega) (by omega) (by simpa using hN)).mono ?_
  rintro e w18 ⟨rfl, hM18, hq18⟩
  have hj18 := hj17.trans ((hq18.below (Nat.le_trans HZ9.out hz17)).mono HZ5.out)
  have HM18 := Lib.hid hM18
  have hz18 : w9.heap.size ≤ w18.heap.size := Nat.le_trans hz17 hq18.size
  obtain ⟨nn, hnn⟩ : ∃ nn, (ss.map (Value.int .i64)).length = nn := ⟨_, rfl⟩
  have hnn2 : nn ≤ 1048576 := by rw [← hnn]; simpa using hN
  rw [hnn] at HM18 ⊢
  clear hM18 hq18 HR17 hz17 hj17 hnn
  go_wp2_with fail
  refine (heldRI_any v9 nn 1 _ _ _ HM18.out (by omega) (by omega) hnn2).mono ?_
  rintro e w19 ⟨rfl, hb19⟩
  have hj19 := hj18.trans (hb19.mono hj18.size)
  have hk19 := H5.out.trans (hj19.mono H5.out.size)
  have HM19 := Lib.hid (HM18.out.below hb19 hz18)
  have hz19 : w9.heap.size ≤ w19.heap.size := Nat.le_trans hz18 hb19.size
  have hs19 : w.heap.size < w19.heap.size := Nat.lt_of_lt_of_le hWs hk19.size
  clear hj18 hb19 HM18 hz18
  obtain ⟨x0, x1, x2, x3, x4, x5⟩ := (HBox.out.below hk19 hWs).get
  go_wp2_with fail
  go_region_held3 (fun w' => w'.cell? ⟨w.heap.size, 0, none⟩ = some (.int .i64 b.roots) ∧ w'.cell? ⟨w.heap.size, 1, none⟩ = some (.slice A1 n1 c1) ∧ w'.cell? ⟨w.heap.size, 2, none⟩ = some (.slice A2 n2 c2) ∧ w'.cell? ⟨w.heap.size, 3, none⟩ = some (.int .i64 b.edges) ∧ w'.cell? ⟨w.heap.size, 4, none⟩ = some (.slice A4 n4 c4) ∧ w'.cell? ⟨w.heap.size, 5, none⟩ = some (.slice A5 n5 c5)) (first | exact (HBox.out.below hk22 hWs).get | exact (HBox.out.below hk21 hWs).get | exact (HBox.out.below hk20 hWs).get | exact (HBox.out.below hk19.drew hWs).get)
    (first
     | (go_at_call 11; refine (toCS_any A n c cs _ ((HC.out.below hk19.drew).wide hk19.drew.size) hlen).mono ?_; rintro e w20 ⟨g20, rfl, ho20, hb20⟩; have hk20 := hk19.drew.trans (hb20.mono hk19.drew.size))
     | (go_at_call 23; refine (toB_any _ b _ ((HV.out.below hk20).wide hk20.size) HBS.out).mono ?_; rintro e w21 ⟨v21, rfl, ho21, hb21⟩; have hk21 := hk20.trans (hb21.mono hk20.size); have hc21 := (ho20.at.below hb21).wide hb21.size)
     | (go_at_call 24; refine (HIm.out _ _ _ _ _ hc21 ho21.at hlen).mono ?_; rintro e w22 ⟨v22, rfl, hR22, hb22⟩; have hk22 := hk21.trans (hb22.mono hk21.size)))
  have hbA := ((Below.refl w19.heap.size w19).drew).trans (hb20.mono (by simp))
  have hbB := hbA.trans (hb21.mono hbA.size)
  have hb1922 := hbB.trans (hb22.mono hbB.size)
  have hj22 := hj19.trans (hb1922.mono hj19.size)
  have HR22 := Lib.hid hR22
  have HR522 := Lib.hid (HR5.out.below hj22 (Nat.le_refl _))
  have HM22 := Lib.hid (HM19.out.below hb1922 hz19)
  have hz22 : w9.heap.size ≤ w22.heap.size := Nat.le_trans hz19 hb1922.size
  clear hbA hbB hb1922 hb20 hb21 hb22 ho20 ho21 hc21 hR22 hk19 hk20 hk21 hk22 hj19 hz19 HM19 x0 x1 x2 x3 x4 x5
  go_wp2_with fail
  refine (eqRI_any v22 v5 ss _ _ _ _ _ HR22.out HR522.out hN).mono ?_
  rintro e w23 ⟨rfl, hb23⟩
  have hj23 := hj22.trans (hb23.mono hj22.size)
  have HM23 := Lib.hid (HM22.out.below hb23 hz22)
  clear hj22 hb23 HM22 HR22 HR522 hz22
  go_wp2_with fail
  refine (heldRI_any v9 nn 1 _ _ _ HM23.out (by omega) (by omega) hnn2).mono ?_
  rintro e w24 ⟨rfl, hb24⟩
  have hj24 := hj23.trans (hb24.mono hj23.size)
  have hk24 := H5.out.trans (hj24.mono H5.out.size)
  go_wp2_with fail
  go_ret
  exact ⟨rfl, HB0.out.trans (hk24.mono HB0.out.size)⟩

theorem own : ownKnob Try.prog.godebug = none := by kernel_rfl
theorem laidOut : laidOutB Try.prog = true := facts.laid

set_option maxRecDepth 100000 in
theorem lifted (os : Os) (started : os.Started) (H : Type) (enc : TypeId × Value → H) :
    ReturnsInHanded {} Try.checked os 5 .any (Rows.fnExactLinkPartsSpec.pre6 enc Try.prog Try.f5 Rows.fnExactLinkPartsRow.domain false) (Rows.fnExactLinkPartsSpec.post enc Try.prog Try.f5 false true false false) := by
  refine returnsInHanded_of_change (C := Try.checked) own started (by kernel_rfl) Try.func5
    (ChangeSpec.witness6 (enc := enc) (C := Try.checked) false ⟨#[], #[.slice none 0 0, .agg #[.int .i64 0, .slice none 0 0, .slice none 0 0, .int .i64 0, .slice none 0 0, .slice none 0 0]], []⟩ 8 (by kernel_rfl) (by kernel_rfl) (by kernel_rfl) (by kernel_rfl)) ?_
  intro W base args ds gs before hval0 hW hcnd _
  have hval : ∀ (j : Nat) t v, Try.f5.params[j]? = some t → args[j]? = some v → Value.okWide Try.prog W .any base t v := hval0
  have hW' := hW
  obtain ⟨p, q, hA0, hV, rfl, hfz, hnd⟩ := hW
  have hA : DataW.TrodAll enc Try.prog W 0 (fun _ => true) true Try.f5.params.toList args.toList ds p := hA0
  rw [Try.params5] at hA hval
  obtain ⟨v0, vs0, d0, ds0, p0, q0, hargs, rfl, rfl, h0, r0⟩ := trodAll_cons hA
  obtain ⟨v1, vs1, d1, ds1, p1, q1, rfl, rfl, rfl, h1, r1⟩ := trodAll_cons r0
  obtain ⟨rfl, rfl, rfl⟩ := trodAll_nil r1
  obtain rfl : args = #[v0, v1] := by cases args; simp_all
  obtain ⟨rfl, rfl⟩ := trodVars_none hV
  have k0 := h0
  have lt0 : ∀ x ∈ p0, x.block < W.heap.size := by obtain ⟨m, hm⟩ := k0; exact DataW.trod_lt m _ _ _ hm
  obtain ⟨A0, n0, c0, cs0, rfl, s0, w0⟩ := open_sig (hval 0 22 v0 rfl rfl) h0 lt0
  have k1 := h1
  have lt1 : ∀ x ∈ p1, x.block < W.heap.size := by obtain ⟨m, hm⟩ := k1; exact DataW.trod_lt m _ _ _ hm
  obtain ⟨b1, s1, w1⟩ := open_big (hval 1 28 v1 rfl rfl) h1 lt1
  clear hA0 hval0
  refine (walk A0 n0 c0 cs0 v1 b1 W s0 w0 s1 w1).mono fun e W' ⟨he, bel⟩ => ?_
  subst he
  exact ⟨_, rfl, _, _, _, [], _, [], hW', trodAll_mk1 (shut_bool Try.underlying4 _), (trodAll_cons_mk (Below.trod laidOut (by kernel_rfl) (of_decide_eq_true (by kernel_rfl)) k0 bel lt0) (trodAll_cons_mk (Below.trod laidOut (by kernel_rfl) (of_decide_eq_true (by kernel_rfl)) k1 bel lt1) trodAll_mk0)), rfl, bel.frame _, fun h => by cases h⟩

theorem closed : joinedFacts Try.checked.prog 5 Try.f5 Rows.fnExactLinkPartsSpec Rows.fnExactLinkPartsRow = true := by
  unfold joinedFacts
  rw [facts.laid, facts.maps, facts.heard, facts.enter, facts.lifts, facts.make, facts.keys]
  kernel_rfl

theorem over : Rows.fnExactLinkPartsRow.holds Try.pinned (OpenSpec.ofChange Rows.fnExactLinkPartsSpec) :=
  OpenClaim.holds_of_wide 5 Try.f5 rfl rfl rfl rfl rfl rfl rfl ⟨rfl, rfl, rfl, rfl, rfl⟩ rfl rfl rfl rfl rfl (by kernel_rfl) Try.func5 closed
    (of_decide_eq_true (by kernel_rfl)) (by unfold Func.isWrapper; first | (rw [if_pos (by decide +kernel)]; kernel_rfl) | (rw [if_neg (by decide +kernel)]; exact ⟨rfl, rfl⟩))
    (fun os started H enc _ => lifted os started H enc)

theorem proved : Rows.FnExactLinkPartsSaid := over
#print axioms proved
end Go.Proofs.Ytfjgapkjpmkplaa.fnExactLinkParts
