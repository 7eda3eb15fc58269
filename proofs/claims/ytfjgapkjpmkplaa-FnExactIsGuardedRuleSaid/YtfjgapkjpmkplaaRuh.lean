/- The law's helpers on Rules: szRule, eqRule. -/
import Derived.Test.YtfjgapkjpmkplaaRui
namespace Go.Proofs.Ytfjgapkjpmkplaa.ruh
open kit bg sg opn strs only hb sig isig un over gn nm inn ht gd im pt marks eqs hc hi hw hn rs br bm bw cf lf ib isa lawb lw cl rub rui
open Go.ChangeShapes Go.WideShapes Go.ChangeAt Go.RowKit
set_option linter.unusedVariables false
set_option linter.unusedSimpArgs false
set_option maxRecDepth 20000 in
set_option maxHeartbeats 1600000 in
theorem szR_any (v : Value) (r : Rul) (left : Int) (w : World) (B : Nat) (h : RulAt w B v r) (hB : B ≤ w.heap.size) (hl0 : -1 ≤ left) (hl : left ≤ 1048576) (hw : RulW r) :
    Calls Try.prog 9 #[v, .int .i64 left] w (szP (rulWt r) left w) := by
  obtain ⟨A1, n1, c1, A2, n2, c2, A4, n4, c4, A5, n5, c5, B1, m1, d1, B2, m2, d2, B4, m4, d4, B5, m5, d5, C7, n7, c7, rfl, h1, h2, h3⟩ := h
  have HBox : BoxN (w.alloc (.cells #[.int .i64 r.redex.roots, .slice A1 n1 c1, .slice A2 n2 c2, .int .i64 r.redex.edges, .slice A4 n4 c4, .slice A5 n5 c5, .int .i64 r.reactum.roots, .slice B1 m1 d1, .slice B2 m2 d2, .int .i64 r.reactum.edges, .slice B4 m4 d4, .slice B5 m5 d5, .slice C7 n7 c7] 30)) w.heap.size 30 [.int .i64 r.redex.roots, .slice A1 n1 c1, .slice A2 n2 c2, .int .i64 r.redex.edges, .slice A4 n4 c4, .slice A5 n5 c5, .int .i64 r.reactum.roots, .slice B1 m1 d1, .slice B2 m2 d2, .int .i64 r.reactum.edges, .slice B4 m4 d4, .slice B5 m5 d5, .slice C7 n7 c7] := BoxN.new w #[.int .i64 r.redex.roots, .slice A1 n1 c1, .slice A2 n2 c2, .int .i64 r.redex.edges, .slice A4 n4 c4, .slice A5 n5 c5, .int .i64 r.reactum.roots, .slice B1 m1 d1, .slice B2 m2 d2, .int .i64 r.reactum.edges, .slice B4 m4 d4, .slice B5 m5 d5, .slice C7 n7 c7] 30
  have hB0 := (Below.refl w.heap.size w).alloc (Nat.le_refl _) (.cells #[.int .i64 r.redex.roots, .slice A1 n1 c1, .slice A2 n2 c2, .int .i64 r.redex.edges, .slice A4 n4 c4, .slice A5 n5 c5, .int .i64 r.reactum.roots, .slice B1 m1 d1, .slice B2 m2 d2, .int .i64 r.reactum.edges, .slice B4 m4 d4, .slice B5 m5 d5, .slice C7 n7 c7] 30)
  obtain ⟨W, hW⟩ : ∃ W, w.alloc (.cells #[.int .i64 r.redex.roots, .slice A1 n1 c1, .slice A2 n2 c2, .int .i64 r.redex.edges, .slice A4 n4 c4, .slice A5 n5 c5, .int .i64 r.reactum.roots, .slice B1 m1 d1, .slice B2 m2 d2, .int .i64 r.reactum.edges, .slice B4 m4 d4, .slice B5 m5 d5, .slice C7 n7 c7] 30) = W := ⟨_, rfl⟩
  rw [hW] at HBox hB0
  have HBox := Lib.hid HBox
  have HB0 := Lib.hid hB0
  have HWq := Lib.hid hW
  have hl7 := h3.len
  have h7 : n7 ≤ maxLen := by have := hw.2.2.1; omega
  have HL7 := Lib.hid hl7
  have HV1 := Lib.hid (fun (Y : World) (hY : Below w.heap.size w Y) => (h1.wide hB).below hY)
  have HV2 := Lib.hid (fun (Y : World) (hY : Below w.heap.size w Y) => (h2.wide hB).below hY)
  have HWT := Lib.hid (show rulWt r = bigWt r.redex + bigWt r.reactum + r.copies.length from rfl)
  obtain ⟨w1', w2', -, -⟩ := hw
  clear hB0 hW h1 h2 h3 hl7
  obtain ⟨x0, x1, x2, x3, x4, x5, x6, x7, x8, x9, x10, x11, x12⟩ := get13 HBox.out
  go_enter Try.func9, Try.ntmps9
  go_wp2_with fail
  rw [HWq.out]
  go_wp2_with fail
  refine (szB_any _ r.redex left W w.heap.size (HV1.out W HB0.out) HB0.out.size hl0 hl w1').mono ?_
  rintro e w6 ⟨z, rfl, hr, hr1, hr2, hb⟩
  have hk := HB0.out.trans (hb.mono HB0.out.size)
  have HBx := HBox.out.on hb
  clear hb x0 x1 x2 x3 x4 x5 x6 x7 x8 x9 x10 x11 x12
  by_cases hneg : z < 0
  · go_wp2_with fail
    go_ret
    exact ⟨-1, rfl, .inl (by omega), by omega, by omega, hk⟩
  have hneg1 : 0 ≤ z := by omega
  have HR1 := Lib.hid (show z = left - (bigWt r.redex : Int) by omega)
  clear hr
  obtain ⟨x0, x1, x2, x3, x4, x5, x6, x7, x8, x9, x10, x11, x12⟩ := get13 HBx
  go_wp2_with fail
  refine (szB_any _ r.reactum z w6 w.heap.size (HV2.out w6 hk) hk.size hr1 (by omega) w2').mono ?_
  rintro e w7 ⟨z2, rfl, hr, hr3, hr4, hb⟩
  have hk := hk.trans (hb.mono hk.size)
  have HBx := HBx.on hb
  clear hb x0 x1 x2 x3 x4 x5 x6 x7 x8 x9 x10 x11 x12
  by_cases hneg2 : z2 < 0
  · go_wp2_with fail
    go_ret
    exact ⟨-1, rfl, .inl (by omega), by omega, by omega, hk⟩
  have hneg3 : 0 ≤ z2 := by omega
  have HR2 := Lib.hid (show z2 = z - (bigWt r.reactum : Int) by omega)
  clear hr
  obtain ⟨x0, x1, x2, x3, x4, x5, x6, x7, x8, x9, x10, x11, x12⟩ := get13 HBx
  go_wp2_with fail
  refine (szI_any C7 n7 c7 z2 w7 hr3 (by omega) h7).mono ?_
  rintro e w8 ⟨z3, rfl, hr, hr5, hr6, hb⟩
  have hk := hk.trans (hb.mono hk.size)
  clear hb x0 x1 x2 x3 x4 x5 x6 x7 x8 x9 x10 x11 x12
  by_cases hneg4 : z3 < 0
  · go_wp2_with fail
    go_ret
    exact ⟨-1, rfl, .inl (by omega), by omega, by omega, hk⟩
  have hneg5 : 0 ≤ z3 := by omega
  have HR3 := Lib.hid (show z3 = z2 - (n7 : Int) by omega)
  clear hr
  go_wp2_with fail
  go_ret
  refine ⟨z3, rfl, .inr ?_, by omega, by omega, hk⟩
  have q1 := HR1.out
  have q2 := HR2.out
  have q3 := HR3.out
  have q4 := HL7.out
  rw [HWT.out]
  push_cast
  omega

set_option maxRecDepth 20000 in
set_option maxHeartbeats 1600000 in
theorem eqR_any (v v' : Value) (r : Rul) (w : World) (B B' : Nat) (h : RulAt w B v r) (h' : RulAt w B' v' r) (hB : B ≤ w.heap.size) (hB' : B' ≤ w.heap.size) (hw : RulW r) (hs : RulS r) :
    Calls Try.prog 15 #[v, v'] w fun e w' => e = .returned (.bool true) ∧ Below w.heap.size w w' := by
  obtain ⟨A1, n1, c1, A2, n2, c2, A4, n4, c4, A5, n5, c5, B1, m1, d1, B2, m2, d2, B4, m4, d4, B5, m5, d5, C7, n7, c7, rfl, h1, h2, h3⟩ := h
  obtain ⟨Y1, p1, q1, Y2, p2, q2, Y4, p4, q4, Y5, p5, q5, Z1, s1, t1, Z2, s2, t2, Z4, s4, t4, Z5, s5, t5, Y7, p7, q7, rfl, k1, k2, k3⟩ := h'
  obtain rfl : n7 = p7 := h3.len.symm.trans k3.len
  have HX0 : BoxN (w.alloc (.cells #[.int .i64 r.redex.roots, .slice A1 n1 c1, .slice A2 n2 c2, .int .i64 r.redex.edges, .slice A4 n4 c4, .slice A5 n5 c5, .int .i64 r.reactum.roots, .slice B1 m1 d1, .slice B2 m2 d2, .int .i64 r.reactum.edges, .slice B4 m4 d4, .slice B5 m5 d5, .slice C7 n7 c7] 41)) w.heap.size 41 [.int .i64 r.redex.roots, .slice A1 n1 c1, .slice A2 n2 c2, .int .i64 r.redex.edges, .slice A4 n4 c4, .slice A5 n5 c5, .int .i64 r.reactum.roots, .slice B1 m1 d1, .slice B2 m2 d2, .int .i64 r.reactum.edges, .slice B4 m4 d4, .slice B5 m5 d5, .slice C7 n7 c7] := BoxN.new w #[.int .i64 r.redex.roots, .slice A1 n1 c1, .slice A2 n2 c2, .int .i64 r.redex.edges, .slice A4 n4 c4, .slice A5 n5 c5, .int .i64 r.reactum.roots, .slice B1 m1 d1, .slice B2 m2 d2, .int .i64 r.reactum.edges, .slice B4 m4 d4, .slice B5 m5 d5, .slice C7 n7 c7] 41
  have hb0 := (Below.refl w.heap.size w).alloc (Nat.le_refl _) (.cells #[.int .i64 r.redex.roots, .slice A1 n1 c1, .slice A2 n2 c2, .int .i64 r.redex.edges, .slice A4 n4 c4, .slice A5 n5 c5, .int .i64 r.reactum.roots, .slice B1 m1 d1, .slice B2 m2 d2, .int .i64 r.reactum.edges, .slice B4 m4 d4, .slice B5 m5 d5, .slice C7 n7 c7] 41)
  obtain ⟨U, hU⟩ : ∃ U, w.alloc (.cells #[.int .i64 r.redex.roots, .slice A1 n1 c1, .slice A2 n2 c2, .int .i64 r.redex.edges, .slice A4 n4 c4, .slice A5 n5 c5, .int .i64 r.reactum.roots, .slice B1 m1 d1, .slice B2 m2 d2, .int .i64 r.reactum.edges, .slice B4 m4 d4, .slice B5 m5 d5, .slice C7 n7 c7] 41) = U := ⟨_, rfl⟩
  have hUz : U.heap.size = w.heap.size + 1 := by rw [← hU]; simp
  rw [hU] at HX0 hb0
  have HY0 : BoxN (U.alloc (.cells #[.int .i64 r.redex.roots, .slice Y1 p1 q1, .slice Y2 p2 q2, .int .i64 r.redex.edges, .slice Y4 p4 q4, .slice Y5 p5 q5, .int .i64 r.reactum.roots, .slice Z1 s1 t1, .slice Z2 s2 t2, .int .i64 r.reactum.edges, .slice Z4 s4 t4, .slice Z5 s5 t5, .slice Y7 n7 q7] 41)) U.heap.size 41 [.int .i64 r.redex.roots, .slice Y1 p1 q1, .slice Y2 p2 q2, .int .i64 r.redex.edges, .slice Y4 p4 q4, .slice Y5 p5 q5, .int .i64 r.reactum.roots, .slice Z1 s1 t1, .slice Z2 s2 t2, .int .i64 r.reactum.edges, .slice Z4 s4 t4, .slice Z5 s5 t5, .slice Y7 n7 q7] := BoxN.new U #[.int .i64 r.redex.roots, .slice Y1 p1 q1, .slice Y2 p2 q2, .int .i64 r.redex.edges, .slice Y4 p4 q4, .slice Y5 p5 q5, .int .i64 r.reactum.roots, .slice Z1 s1 t1, .slice Z2 s2 t2, .int .i64 r.reactum.edges, .slice Z4 s4 t4, .slice Z5 s5 t5, .slice Y7 n7 q7] 41
  have hb1 := (Below.refl U.heap.size U).alloc (Nat.le_refl _) (.cells #[.int .i64 r.redex.roots, .slice Y1 p1 q1, .slice Y2 p2 q2, .int .i64 r.redex.edges, .slice Y4 p4 q4, .slice Y5 p5 q5, .int .i64 r.reactum.roots, .slice Z1 s1 t1, .slice Z2 s2 t2, .int .i64 r.reactum.edges, .slice Z4 s4 t4, .slice Z5 s5 t5, .slice Y7 n7 q7] 41)
  have HX1 := HX0.on hb1
  obtain ⟨W, hW⟩ : ∃ W, U.alloc (.cells #[.int .i64 r.redex.roots, .slice Y1 p1 q1, .slice Y2 p2 q2, .int .i64 r.redex.edges, .slice Y4 p4 q4, .slice Y5 p5 q5, .int .i64 r.reactum.roots, .slice Z1 s1 t1, .slice Z2 s2 t2, .int .i64 r.reactum.edges, .slice Z4 s4 t4, .slice Z5 s5 t5, .slice Y7 n7 q7] 41) = W := ⟨_, rfl⟩
  rw [hW] at HX1 HY0 hb1
  rw [hUz] at HY0
  have HB0 := Lib.hid (hb0.trans (hb1.mono hb0.size))
  have HUq := Lib.hid hU
  have HWq := Lib.hid hW
  have HX := Lib.hid (fun (Y : World) (hY : Below W.heap.size W Y) => get13 (HX1.on hY))
  have HY := Lib.hid (fun (Y : World) (hY : Below W.heap.size W Y) => get13 (HY0.on hY))
  have HV1 := Lib.hid (fun (Y : World) (hY : Below w.heap.size w Y) => (h1.wide hB).below hY)
  have HV2 := Lib.hid (fun (Y : World) (hY : Below w.heap.size w Y) => (h2.wide hB).below hY)
  have HV3 := Lib.hid (fun (Y : World) (hY : Below w.heap.size w Y) => (h3.wide hB).below hY)
  have HK1 := Lib.hid (fun (Y : World) (hY : Below w.heap.size w Y) => (k1.wide hB').below hY)
  have HK2 := Lib.hid (fun (Y : World) (hY : Below w.heap.size w Y) => (k2.wide hB').below hY)
  have HK3 := Lib.hid (fun (Y : World) (hY : Below w.heap.size w Y) => (k3.wide hB').below hY)
  have h7 : n7 ≤ maxLen := by have := hw.2.2.1; have := h3.len; omega
  have HW1 := Lib.hid hw
  have HS1 := Lib.hid hs
  clear HX0 HX1 HY0 hb0 hb1 hU hW h1 h2 h3 k1 k2 k3 hw hs
  have hm := Below.refl W.heap.size W
  obtain ⟨x0, x1, x2, x3, x4, x5, x6, x7, x8, x9, x10, x11, x12⟩ := HX.out W hm
  obtain ⟨y0, y1, y2, y3, y4, y5, y6, y7, y8, y9, y10, y11, y12⟩ := HY.out W hm
  go_enter Try.func15, Try.ntmps15
  go_wp2_with fail
  rw [HUq.out, HWq.out]
  go_wp2_with fail
  refine (eqB_any _ _ r.redex W w.heap.size w.heap.size (HV1.out _ HB0.out) (HK1.out _ HB0.out) HB0.out.size HB0.out.size HW1.out.1 HS1.out.1.2.2.2.1).mono ?_
  rintro e w6 ⟨rfl, hb⟩
  have hm := hm.trans (hb.mono hm.size)
  have hk := HB0.out.trans (hm.mono HB0.out.size)
  clear hb x0 x1 x2 x3 x4 x5 x6 x7 x8 x9 x10 x11 x12 y0 y1 y2 y3 y4 y5 y6 y7 y8 y9 y10 y11 y12
  obtain ⟨x0, x1, x2, x3, x4, x5, x6, x7, x8, x9, x10, x11, x12⟩ := HX.out _ hm
  obtain ⟨y0, y1, y2, y3, y4, y5, y6, y7, y8, y9, y10, y11, y12⟩ := HY.out _ hm
  go_wp2_with fail
  refine (eqB_any _ _ r.reactum w6 w.heap.size w.heap.size (HV2.out _ hk) (HK2.out _ hk) hk.size hk.size HW1.out.2.1 HS1.out.2.1.2.2.2.1).mono ?_
  rintro e w7 ⟨rfl, hb⟩
  have hm := hm.trans (hb.mono hm.size)
  have hk := HB0.out.trans (hm.mono HB0.out.size)
  clear hb x0 x1 x2 x3 x4 x5 x6 x7 x8 x9 x10 x11 x12 y0 y1 y2 y3 y4 y5 y6 y7 y8 y9 y10 y11 y12
  obtain ⟨x0, x1, x2, x3, x4, x5, x6, x7, x8, x9, x10, x11, x12⟩ := HX.out _ hm
  obtain ⟨y0, y1, y2, y3, y4, y5, y6, y7, y8, y9, y10, y11, y12⟩ := HY.out _ hm
  go_wp2_with fail
  refine (eqIS_any C7 Y7 n7 c7 q7 r.copies w7 w.heap.size w.heap.size (HV3.out _ hk) (HK3.out _ hk) h7).mono ?_
  rintro e w8 ⟨rfl, hd⟩
  have hk8 := hk.trans (hd.below _)
  clear hd x0 x1 x2 x3 x4 x5 x6 x7 x8 x9 x10 x11 x12 y0 y1 y2 y3 y4 y5 y6 y7 y8 y9 y10 y11 y12
  go_wp2_with fail
  go_ret
  exact ⟨rfl, hk8⟩
end Go.Proofs.Ytfjgapkjpmkplaa.ruh
