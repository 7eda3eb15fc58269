/- FnExactIsGuardedRule: for every list of Controls and every guarded Rule, impl's function answers as spec's does and leaves both as they were. No condition. -/
import Derived.Test.YtfjgapkjpmkplaaGdi
import Derived.Test.YtfjgapkjpmkplaaQd
namespace Go.Proofs.Ytfjgapkjpmkplaa.fnExactIsGuardedRule
open kit bg sg opn strs only hb sig isig un over gn nm inn ht gd im pt marks eqs hc hi hw hn rs br bm bw cf lf ib isa lawb lw cl rub rui ruh rut gdb gdh gde gdt gdi
open Go.ChangeShapes Go.WideShapes Go.ChangeAt Go.RowKit
open Go.ChangeMaps (open_string shut_string)
set_option linter.unusedVariables false
set_option linter.unusedSimpArgs false
set_option maxRecDepth 20000 in
set_option maxHeartbeats 12800000 in
theorem walk (A : Option Addr) (n c : Nat) (cs : List Ctl) (v : Value) (r : GRul) (w : World) (h : CtlsAt w w.heap.size A n cs) (hw : CtlsW cs) (hv : GRulAt w w.heap.size v r) (hvw : GRulW r) :
    Calls Try.prog 4 #[.slice A n c, v] w fun e w' => e = .returned (.bool true) ∧ Below w.heap.size w w' := by
  have HVY := Lib.hid (fun (Y : World) (hY : Below w.heap.size w Y) => (hv.below hY).wide hY.size)
  obtain ⟨a0, a1, a2, a3, a4, a5, a6, a7, a8, a9, a10, a11, a12, G, m, d, rfl, -, -⟩ := hv
  have HBox : BoxN (w.alloc (.cells #[a0, a1, a2, a3, a4, a5, a6, a7, a8, a9, a10, a11, a12, .slice G m d, .int .i64 r.prio] 48)) w.heap.size 48 [a0, a1, a2, a3, a4, a5, a6, a7, a8, a9, a10, a11, a12, .slice G m d, .int .i64 r.prio] := BoxN.new w #[a0, a1, a2, a3, a4, a5, a6, a7, a8, a9, a10, a11, a12, .slice G m d, .int .i64 r.prio] 48
  have hB0 := (Below.refl w.heap.size w).alloc (Nat.le_refl _) (.cells #[a0, a1, a2, a3, a4, a5, a6, a7, a8, a9, a10, a11, a12, .slice G m d, .int .i64 r.prio] 48)
  obtain ⟨W, hW⟩ : ∃ W, w.alloc (.cells #[a0, a1, a2, a3, a4, a5, a6, a7, a8, a9, a10, a11, a12, .slice G m d, .int .i64 r.prio] 48) = W := ⟨_, rfl⟩
  have hWs : w.heap.size < W.heap.size := by rw [← hW]; simp
  rw [hW] at HBox hB0
  have HBox := Lib.hid HBox
  have HB0 := Lib.hid hB0
  have HWq := Lib.hid hW
  have HVW := Lib.hid hvw
  have HV := Lib.hid (fun (Y : World) (hY : Below W.heap.size W Y) => HVY.out Y (HB0.out.trans (hY.mono HB0.out.size)))
  have HC := Lib.hid (fun (Y : World) (hY : Below W.heap.size W Y) => ((h.below (HB0.out.trans (hY.mono HB0.out.size))).wide (HB0.out.trans (hY.mono HB0.out.size)).size : CtlsAt Y Y.heap.size A n cs))
  have HL := Lib.hid h.1
  clear h hW hB0
  have hk0 := Below.refl W.heap.size W
  go_enter Try.func4, Try.ntmps4
  go_wp2_with fail
  rw [HWq.out]
  refine (szCS_any A n c cs 1048576 _ _ (HC.out W hk0) (Nat.le_refl _) (by omega) (by omega) hw).mono ?_
  rintro e w1 ⟨r1, rfl, hr, hr1, hr2, hk1⟩
  obtain ⟨x0, x1, x2, x3, x4, x5, x6, x7, x8, x9, x10, x11, x12, x13, x14⟩ := get15 (HBox.out.on hk1)
  by_cases hneg : r1 < 0
  · go_wp2_with fail
    go_ret
    exact ⟨rfl, HB0.out.trans (hk1.mono HB0.out.size)⟩
  have hlen : n ≤ 1048576 := by have := HL.out; unfold ctlsWt at hr; omega
  have hs2 : ∀ c ∈ cs, c.name.size ≤ 1048576 := fun c hc => by have := sumBy_mem (fun c : Ctl => c.name.size) hc; unfold ctlsWt at hr; omega
  have HS := Lib.hid hs2
  clear hr hs2
  go_wp2_with fail
  refine (szGR_any _ r r1 w1 w1.heap.size (HV.out w1 hk1) (Nat.le_refl _) hr1 hr2 HVW.out).mono ?_
  rintro e w2 ⟨r2, rfl, hr', hr1', hr2', hb2⟩
  have hk2 := hk1.trans (hb2.mono hk1.size)
  clear hk1 hb2 x0 x1 x2 x3 x4 x5 x6 x7 x8 x9 x10 x11 x12 x13 x14
  by_cases hneg' : r2 < 0
  · go_wp2_with fail
    go_ret
    exact ⟨rfl, HB0.out.trans (hk2.mono HB0.out.size)⟩
  have hwt : gruWt r ≤ 1048576 := by omega
  have HBS := Lib.hid (gruS_of hwt)
  obtain ⟨q, hq⟩ : ∃ q, gruB cs r = q := ⟨_, rfl⟩
  have HSp := Lib.hid (fun A n c v w h1 h2 hn => hq ▸ sGr_any A n c cs v r w h1 h2 hn HS.out HBS.out HVW.out)
  have HIm := Lib.hid (fun A n c v w h1 h2 hn => hq ▸ iGr_any A n c cs v r w h1 h2 hn HS.out HBS.out HVW.out)
  clear hr' hr1' hr2' hr1 hr2 hwt hq hneg
  obtain ⟨x0, x1, x2, x3, x4, x5, x6, x7, x8, x9, x10, x11, x12, x13, x14⟩ := get15 (HBox.out.on hk2)
  go_wp2_with fail
  have HX := Lib.hid (fun (Y : World) (hY : Below W.heap.size W Y) => get15 (HBox.out.on hY))
  go_region_held3 (fun w' => w'.cell? ⟨w.heap.size, 0, none⟩ = some (a0) ∧ w'.cell? ⟨w.heap.size, 1, none⟩ = some (a1) ∧ w'.cell? ⟨w.heap.size, 2, none⟩ = some (a2) ∧ w'.cell? ⟨w.heap.size, 3, none⟩ = some (a3) ∧ w'.cell? ⟨w.heap.size, 4, none⟩ = some (a4) ∧ w'.cell? ⟨w.heap.size, 5, none⟩ = some (a5) ∧ w'.cell? ⟨w.heap.size, 6, none⟩ = some (a6) ∧ w'.cell? ⟨w.heap.size, 7, none⟩ = some (a7) ∧ w'.cell? ⟨w.heap.size, 8, none⟩ = some (a8) ∧ w'.cell? ⟨w.heap.size, 9, none⟩ = some (a9) ∧ w'.cell? ⟨w.heap.size, 10, none⟩ = some (a10) ∧ w'.cell? ⟨w.heap.size, 11, none⟩ = some (a11) ∧ w'.cell? ⟨w.heap.size, 12, none⟩ = some (a12) ∧ w'.cell? ⟨w.heap.size, 13, none⟩ = some (.slice G m d) ∧ w'.cell? ⟨w.heap.size, 14, none⟩ = some (.int .i64 r.prio)) (first | exact HX.out _ hk5 | exact HX.out _ hk4 | exact HX.out _ hk3 | exact HX.out _ hk2.drew)
    (first
     | (go_at_call 11; refine (toCS_any A n c cs _ (HC.out _ hk2.drew) hlen).mono ?_; rintro e w3 ⟨g3, rfl, ho3, hb3⟩; have hk3 := hk2.drew.trans (hb3.mono hk2.drew.size))
     | (go_at_call 18; refine (toGR_any _ r _ (HV.out _ hk3) HBS.out).mono ?_; rintro e w4 ⟨v4, rfl, ho4, hb4⟩; have hk4 := hk3.trans (hb4.mono hk3.size); have hc4 := (ho3.at.below hb4).wide hb4.size)
     | (go_at_call 17; refine (HSp.out _ _ _ _ _ hc4 ho4 hlen).mono ?_; rintro e w5 ⟨rfl, hb5⟩; have hk5 := hk4.trans (hb5.mono hk4.size)))
  clear hb3 hb4 hb5 ho3 ho4 hc4 hk2 hk3 hk4 x0 x1 x2 x3 x4 x5 x6 x7 x8 x9 x10 x11 x12 x13 x14
  obtain ⟨x0, x1, x2, x3, x4, x5, x6, x7, x8, x9, x10, x11, x12, x13, x14⟩ := HX.out _ hk5
  go_wp2_with fail
  refine (toCS_any A n c cs _ (HC.out _ hk5) hlen).mono ?_
  rintro e w6 ⟨g6, rfl, ho6, hb6⟩
  have hk6 := hk5.trans (hb6.mono hk5.size)
  clear hk5 hb6 x0 x1 x2 x3 x4 x5 x6 x7 x8 x9 x10 x11 x12 x13 x14
  obtain ⟨x0, x1, x2, x3, x4, x5, x6, x7, x8, x9, x10, x11, x12, x13, x14⟩ := HX.out _ hk6
  go_wp2_with fail
  refine (toGR_any _ r _ (HV.out _ hk6) HBS.out).mono ?_
  rintro e w7 ⟨v7, rfl, ho7, hb7⟩
  have hk7 := hk6.trans (hb7.mono hk6.size)
  have HC7 := Lib.hid ((ho6.at.below hb7).wide hb7.size)
  have HO7 := Lib.hid ho7
  obtain ⟨b0, b1, b2, b3, b4, b5, b6, b7, b8, b9, b10, b11, b12, G2, m2, d2, rfl, hru7, -⟩ := ho7
  obtain ⟨Y1, p1, q1, Y2, p2, q2, Y4, p4, q4, Y5, p5, q5, Z1, s1, t1, Z2, s2, t2, Z4, s4, t4, Z5, s5, t5, Y7, p7, q7, e7, -, -, -⟩ := hru7
  simp only [Value.agg.injEq, Array.mk.injEq, List.cons.injEq, and_true] at e7
  obtain ⟨rfl, rfl, rfl, rfl, rfl, rfl, rfl, rfl, rfl, rfl, rfl, rfl, rfl⟩ := e7
  clear hk6 hb7 ho6 x0 x1 x2 x3 x4 x5 x6 x7 x8 x9 x10 x11 x12 x13 x14
  go_wp2_with fail
  have HBx8 : BoxN (w7.alloc (.cells #[.int .i64 r.rule.redex.roots, .slice Y1 p1 q1, .slice Y2 p2 q2, .int .i64 r.rule.redex.edges, .slice Y4 p4 q4, .slice Y5 p5 q5, .int .i64 r.rule.reactum.roots, .slice Z1 s1 t1, .slice Z2 s2 t2, .int .i64 r.rule.reactum.edges, .slice Z4 s4 t4, .slice Z5 s5 t5, .slice Y7 p7 q7, .slice G2 m2 d2, .int .i64 r.prio] 53)) w7.heap.size 53 [.int .i64 r.rule.redex.roots, .slice Y1 p1 q1, .slice Y2 p2 q2, .int .i64 r.rule.redex.edges, .slice Y4 p4 q4, .slice Y5 p5 q5, .int .i64 r.rule.reactum.roots, .slice Z1 s1 t1, .slice Z2 s2 t2, .int .i64 r.rule.reactum.edges, .slice Z4 s4 t4, .slice Z5 s5 t5, .slice Y7 p7 q7, .slice G2 m2 d2, .int .i64 r.prio] := BoxN.new w7 #[.int .i64 r.rule.redex.roots, .slice Y1 p1 q1, .slice Y2 p2 q2, .int .i64 r.rule.redex.edges, .slice Y4 p4 q4, .slice Y5 p5 q5, .int .i64 r.rule.reactum.roots, .slice Z1 s1 t1, .slice Z2 s2 t2, .int .i64 r.rule.reactum.edges, .slice Z4 s4 t4, .slice Z5 s5 t5, .slice Y7 p7 q7, .slice G2 m2 d2, .int .i64 r.prio] 53
  have hb78 := (Below.refl w7.heap.size w7).alloc (Nat.le_refl _) (.cells #[.int .i64 r.rule.redex.roots, .slice Y1 p1 q1, .slice Y2 p2 q2, .int .i64 r.rule.redex.edges, .slice Y4 p4 q4, .slice Y5 p5 q5, .int .i64 r.rule.reactum.roots, .slice Z1 s1 t1, .slice Z2 s2 t2, .int .i64 r.rule.reactum.edges, .slice Z4 s4 t4, .slice Z5 s5 t5, .slice Y7 p7 q7, .slice G2 m2 d2, .int .i64 r.prio] 53)
  obtain ⟨w8, hw8⟩ : ∃ w8, w7.alloc (.cells #[.int .i64 r.rule.redex.roots, .slice Y1 p1 q1, .slice Y2 p2 q2, .int .i64 r.rule.redex.edges, .slice Y4 p4 q4, .slice Y5 p5 q5, .int .i64 r.rule.reactum.roots, .slice Z1 s1 t1, .slice Z2 s2 t2, .int .i64 r.rule.reactum.edges, .slice Z4 s4 t4, .slice Z5 s5 t5, .slice Y7 p7 q7, .slice G2 m2 d2, .int .i64 r.prio] 53) = w8 := ⟨_, rfl⟩
  have hs8 : w7.heap.size < w8.heap.size := by rw [← hw8]; simp
  rw [hw8] at HBx8 hb78 ⊢
  have hk8 := hk7.trans (hb78.mono hk7.size)
  have HBx8 := Lib.hid HBx8
  have HC8 := Lib.hid (fun (Y : World) (hY : Below w8.heap.size w8 Y) => ((HC7.out.below (hb78.trans (hY.mono hb78.size))).wide (hb78.trans (hY.mono hb78.size)).size : CtlsAt Y Y.heap.size _ _ _))
  have HO8 := Lib.hid (fun (Y : World) (hY : Below w8.heap.size w8 Y) => ((HO7.out.below (hb78.trans (hY.mono hb78.size))).wide (hb78.trans (hY.mono hb78.size)).size))
  have HY := Lib.hid (fun (Y : World) (hY : Below w8.heap.size w8 Y) => get15 (HBx8.out.on hY))
  clear hk7 hb78 hw8 HC7 HO7
  obtain ⟨y0, y1, y2, y3, y4, y5, y6, y7, y8, y9, y10, y11, y12, y13, y14⟩ := HY.out w8 (Below.refl _ _)
  have hm0 := Below.refl w8.heap.size w8
  go_wp2_with fail
  refine (HIm.out _ _ _ _ _ (HC8.out w8 hm0) (HO8.out w8 hm0) hlen).mono ?_
  rintro e w9 ⟨rfl, hb9⟩
  have hk9 := hk8.trans (hb9.mono hk8.size)
  have hm9 := hb9
  clear hb9 y0 y1 y2 y3 y4 y5 y6 y7 y8 y9 y10 y11 y12 y13 y14
  go_wp2_with fail
  refine (toCS_any A n c cs _ (HC.out _ hk9) hlen).mono ?_
  rintro e w10 ⟨g10, rfl, ho10, hb10⟩
  have hk10 := hk9.trans (hb10.mono hk9.size)
  have hm10 := hm9.trans (hb10.mono hm9.size)
  go_wp2_with fail
  refine (eqCS_any _ _ _ _ _ cs _ _ _ (HC8.out _ hm10) ho10.at (Nat.le_refl _) (Nat.le_refl _) hlen).mono ?_
  rintro e w11 ⟨rfl, hb11⟩
  have hk11 := hk10.trans (hb11.mono hk10.size)
  have hm11 := hm10.trans (hb11.mono hm10.size)
  clear hk9 hb10 hb11 hk10 hm9 hm10 ho10
  obtain ⟨x0, x1, x2, x3, x4, x5, x6, x7, x8, x9, x10, x11, x12, x13, x14⟩ := HX.out _ hk11
  obtain ⟨y0, y1, y2, y3, y4, y5, y6, y7, y8, y9, y10, y11, y12, y13, y14⟩ := HY.out _ hm11
  go_wp2_with fail
  go_region_held3 (fun w' => (w'.cell? ⟨w.heap.size, 0, none⟩ = some (a0) ∧ w'.cell? ⟨w.heap.size, 1, none⟩ = some (a1) ∧ w'.cell? ⟨w.heap.size, 2, none⟩ = some (a2) ∧ w'.cell? ⟨w.heap.size, 3, none⟩ = some (a3) ∧ w'.cell? ⟨w.heap.size, 4, none⟩ = some (a4) ∧ w'.cell? ⟨w.heap.size, 5, none⟩ = some (a5) ∧ w'.cell? ⟨w.heap.size, 6, none⟩ = some (a6) ∧ w'.cell? ⟨w.heap.size, 7, none⟩ = some (a7) ∧ w'.cell? ⟨w.heap.size, 8, none⟩ = some (a8) ∧ w'.cell? ⟨w.heap.size, 9, none⟩ = some (a9) ∧ w'.cell? ⟨w.heap.size, 10, none⟩ = some (a10) ∧ w'.cell? ⟨w.heap.size, 11, none⟩ = some (a11) ∧ w'.cell? ⟨w.heap.size, 12, none⟩ = some (a12) ∧ w'.cell? ⟨w.heap.size, 13, none⟩ = some (.slice G m d) ∧ w'.cell? ⟨w.heap.size, 14, none⟩ = some (.int .i64 r.prio)) ∧ (w'.cell? ⟨w7.heap.size, 0, none⟩ = some (.int .i64 r.rule.redex.roots) ∧ w'.cell? ⟨w7.heap.size, 1, none⟩ = some (.slice Y1 p1 q1) ∧ w'.cell? ⟨w7.heap.size, 2, none⟩ = some (.slice Y2 p2 q2) ∧ w'.cell? ⟨w7.heap.size, 3, none⟩ = some (.int .i64 r.rule.redex.edges) ∧ w'.cell? ⟨w7.heap.size, 4, none⟩ = some (.slice Y4 p4 q4) ∧ w'.cell? ⟨w7.heap.size, 5, none⟩ = some (.slice Y5 p5 q5) ∧ w'.cell? ⟨w7.heap.size, 6, none⟩ = some (.int .i64 r.rule.reactum.roots) ∧ w'.cell? ⟨w7.heap.size, 7, none⟩ = some (.slice Z1 s1 t1) ∧ w'.cell? ⟨w7.heap.size, 8, none⟩ = some (.slice Z2 s2 t2) ∧ w'.cell? ⟨w7.heap.size, 9, none⟩ = some (.int .i64 r.rule.reactum.edges) ∧ w'.cell? ⟨w7.heap.size, 10, none⟩ = some (.slice Z4 s4 t4) ∧ w'.cell? ⟨w7.heap.size, 11, none⟩ = some (.slice Z5 s5 t5) ∧ w'.cell? ⟨w7.heap.size, 12, none⟩ = some (.slice Y7 p7 q7) ∧ w'.cell? ⟨w7.heap.size, 13, none⟩ = some (.slice G2 m2 d2) ∧ w'.cell? ⟨w7.heap.size, 14, none⟩ = some (.int .i64 r.prio)))
    (first | exact ⟨HX.out _ hk13, HY.out _ hm13⟩ | exact ⟨HX.out _ hk12, HY.out _ hm12⟩ | exact ⟨HX.out _ hk11.drew, HY.out _ hm11.drew⟩)
    (first
     | (go_at_call 18; refine (toGR_any _ r _ (HV.out _ hk11.drew) HBS.out).mono ?_; rintro e w12 ⟨v12, rfl, ho12, hb12⟩; have hk12 := hk11.drew.trans (hb12.mono hk11.drew.size); have hm12 := hm11.drew.trans (hb12.mono hm11.drew.size); have hO12 := HO8.out _ hm12)
     | (go_at_call 20; refine (eqGR_any _ _ r _ _ _ hO12 ho12 (Nat.le_refl _) (Nat.le_refl _) HVW.out HBS.out).mono ?_; rintro e w13 ⟨rfl, hb13⟩; have hk13 := hk12.trans (hb13.mono hk12.size); have hm13 := hm12.trans (hb13.mono hm12.size)))
  go_wp2_with fail
  go_ret
  exact ⟨rfl, HB0.out.trans (hk13.mono HB0.out.size)⟩

theorem own : ownKnob Try.prog.godebug = none := by kernel_rfl
theorem laidOut : laidOutB Try.prog = true := facts.laid

set_option maxRecDepth 100000 in
theorem lifted (os : Os) (started : os.Started) (H : Type) (enc : TypeId × Value → H) :
    ReturnsInHanded {} Try.checked os 4 .any (Rows.fnExactIsGuardedRuleSpec.pre6 enc Try.prog Try.f4 Rows.fnExactIsGuardedRuleRow.domain false) (Rows.fnExactIsGuardedRuleSpec.post enc Try.prog Try.f4 false true false false) := by
  refine returnsInHanded_of_change (C := Try.checked) own started (by kernel_rfl) Try.func4
    (ChangeSpec.witness6 (enc := enc) (C := Try.checked) false ⟨#[], #[.slice none 0 0, .agg #[.int .i64 0, .slice none 0 0, .slice none 0 0, .int .i64 0, .slice none 0 0, .slice none 0 0, .int .i64 0, .slice none 0 0, .slice none 0 0, .int .i64 0, .slice none 0 0, .slice none 0 0, .slice none 0 0, .slice none 0 0, .int .i64 0]], []⟩ 8 (by kernel_rfl) (by kernel_rfl) (by kernel_rfl) (by kernel_rfl)) ?_
  intro W base args ds gs before hval0 hW hcnd _
  have hval : ∀ (j : Nat) t v, Try.f4.params[j]? = some t → args[j]? = some v → Value.okWide Try.prog W .any base t v := hval0
  have hW' := hW
  obtain ⟨p, q, hA0, hV, rfl, hfz, hnd⟩ := hW
  have hA : DataW.TrodAll enc Try.prog W 0 (fun _ => true) true Try.f4.params.toList args.toList ds p := hA0
  rw [Try.params4] at hA hval
  obtain ⟨v0, vs0, d0, ds0, p0, q0, hargs, rfl, rfl, h0, r0⟩ := trodAll_cons hA
  obtain ⟨v1, vs1, d1, ds1, p1, q1, rfl, rfl, rfl, h1, r1⟩ := trodAll_cons r0
  obtain ⟨rfl, rfl, rfl⟩ := trodAll_nil r1
  obtain rfl : args = #[v0, v1] := by cases args; simp_all
  obtain ⟨rfl, rfl⟩ := trodVars_none hV
  have k0 := h0
  have lt0 : ∀ x ∈ p0, x.block < W.heap.size := by obtain ⟨m, hm⟩ := k0; exact DataW.trod_lt m _ _ _ hm
  obtain ⟨A0, n0, c0, cs0, rfl, s0, w0⟩ := open_sig (hval 0 22 v0 rfl rfl) h0 lt0
  have k1 := h1
  have lt1 : ∀ x ∈ p1, x.block < W.heap.size := by obtain ⟨m, hm⟩ := k1; exact DataW.trod_lt m _ _ _ hm
  obtain ⟨b1, s1, w1⟩ := open_grule (hval 1 48 v1 rfl rfl) h1 lt1
  clear hA0 hval0
  refine (walk A0 n0 c0 cs0 v1 b1 W s0 w0 s1 w1).mono fun e W' ⟨he, bel⟩ => ?_
  subst he
  exact ⟨_, rfl, _, _, _, [], _, [], hW', trodAll_mk1 (shut_bool Try.underlying4 _), (trodAll_cons_mk (Below.trod laidOut (by kernel_rfl) (of_decide_eq_true (by kernel_rfl)) k0 bel lt0) (trodAll_cons_mk (Below.trod laidOut (by kernel_rfl) (of_decide_eq_true (by kernel_rfl)) k1 bel lt1) trodAll_mk0)), rfl, bel.frame _, fun h => by cases h⟩

theorem closed : joinedFacts Try.checked.prog 4 Try.f4 Rows.fnExactIsGuardedRuleSpec Rows.fnExactIsGuardedRuleRow = true := by
  unfold joinedFacts
  rw [facts.laid, facts.maps, facts.heard, facts.enter, facts.lifts, facts.make, facts.keys]
  kernel_rfl

theorem over : Rows.fnExactIsGuardedRuleRow.holds Try.pinned (OpenSpec.ofChange Rows.fnExactIsGuardedRuleSpec) :=
  OpenClaim.holds_of_wide 4 Try.f4 rfl rfl rfl rfl rfl rfl rfl ⟨rfl, rfl, rfl, rfl, rfl⟩ rfl rfl rfl rfl rfl (by kernel_rfl) Try.func4 closed
    (of_decide_eq_true (by kernel_rfl)) (by unfold Func.isWrapper; first | (rw [if_pos (by decide +kernel)]; kernel_rfl) | (rw [if_neg (by decide +kernel)]; exact ⟨rfl, rfl⟩))
    (fun os started H enc _ => lifted os started H enc)

theorem proved : Rows.FnExactIsGuardedRuleSaid := over
#print axioms proved
end Go.Proofs.Ytfjgapkjpmkplaa.fnExactIsGuardedRule
