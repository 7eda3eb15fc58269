/- FnExactIsDiscrete: for every list of Controls and every Bigraph, impl's function answers as spec's does and leaves both as they were. No condition. -/
import Derived.Test.YtlhickjlcmiknaaDsq
import Derived.Test.YtlhickjlcmiknaaQd
namespace Go.Proofs.Ytlhickjlcmiknaa.fnExactIsDiscrete
open kit bg opn sig isig hc only hb ht gd cf lawb kd lop dsc dsq
open Go.ChangeShapes Go.WideShapes Go.ChangeAt Go.RowKit
open Go.ChangeMaps (open_string shut_string)
set_option linter.unusedVariables false

set_option maxRecDepth 20000 in
set_option maxHeartbeats 3200000 in
theorem walk (A : Option Addr) (n c : Nat) (cs : List Ctl) (v : Value) (b : Big) (w : World) (h : CtlsAt w w.heap.size A n cs) (hw : CtlsW cs) (hv : BigAt w w.heap.size v b) (hvw : BigW b) :
    Calls Try.prog 6 #[.slice A n c, v] w fun e w' => e = .returned (.bool true) ∧ Below w.heap.size w w' := by
  obtain ⟨A1, n1, c1, A2, n2, c2, A4, n4, c4, A5, n5, c5, rfl, h1, h2, h4, h5⟩ := hv
  have HBox : Hid (BoxAt (w.alloc (.cells #[.int .i64 b.roots, .slice A1 n1 c1, .slice A2 n2 c2, .int .i64 b.edges, .slice A4 n4 c4, .slice A5 n5 c5] 28)) w.heap.size 28 (.int .i64 b.roots) (.slice A1 n1 c1) (.slice A2 n2 c2) (.int .i64 b.edges) (.slice A4 n4 c4) (.slice A5 n5 c5)) := Lib.hid (six_new w _ _ _ _ _ _ _)
  have HB0 := Lib.hid ((Below.refl w.heap.size w).alloc (Nat.le_refl _) (.cells #[.int .i64 b.roots, .slice A1 n1 c1, .slice A2 n2 c2, .int .i64 b.edges, .slice A4 n4 c4, .slice A5 n5 c5] 28))
  obtain ⟨W, hW⟩ : ∃ W, w.alloc (.cells #[.int .i64 b.roots, .slice A1 n1 c1, .slice A2 n2 c2, .int .i64 b.edges, .slice A4 n4 c4, .slice A5 n5 c5] 28) = W := ⟨_, rfl⟩
  have hWz : W.heap.size = w.heap.size + 1 := by rw [← hW]; simp
  rw [hW] at HBox HB0
  have HWq := Lib.hid hW
  have hWs : w.heap.size < W.heap.size := by omega
  have hVW : BigAt W W.heap.size (.agg #[.int .i64 b.roots, .slice A1 n1 c1, .slice A2 n2 c2, .int .i64 b.edges, .slice A4 n4 c4, .slice A5 n5 c5]) b := BigAt.wide (BigAt.below ⟨_, _, _, _, _, _, _, _, _, _, _, _, rfl, h1, h2, h4, h5⟩ HB0.out) HB0.out.size
  clear hW hWz
  clear h1 h2 h4 h5
  have HVW := Lib.hid hvw
  have HV := Lib.hid hVW
  have HC := Lib.hid (CtlsAt.wide (h.below HB0.out) HB0.out.size)
  have HL := Lib.hid h.1
  clear hVW h
  go_enter Try.func6, Try.ntmps6
  go_wp2_with fail
  rw [HWq.out]
  refine (szCS_any A n c cs 1048576 _ _ HC.out (Nat.le_refl _) (by omega) (by omega) hw).mono ?_
  rintro e w1 ⟨r, rfl, hr, hr1, hr2, hk1⟩
  have hs1 : w.heap.size < w1.heap.size := Nat.lt_of_lt_of_le hWs hk1.size
  obtain ⟨x0, x1, x2, x3, x4, x5⟩ := (HBox.out.below hk1 hWs).get
  by_cases hneg : r < 0
  · go_wp2_with fail
    go_ret
    exact ⟨rfl, HB0.out.trans (hk1.mono HB0.out.size)⟩
  have hlen : n ≤ 1048576 := by have := HL.out; unfold ctlsWt at hr; omega
  have hs2 : ∀ c ∈ cs, c.name.size ≤ 1048576 := fun c hc => by have := sumBy_mem (fun c : Ctl => c.name.size) hc; unfold ctlsWt at hr; omega
  have HS := Lib.hid hs2
  clear hr hs2
  go_wp2_with fail
  refine (szB_any _ b r _ w1.heap.size ((HV.out.below hk1).wide hk1.size) (Nat.le_refl _) hr1 hr2 HVW.out).mono ?_
  rintro e w2 ⟨r', rfl, hr', hr1', hr2', hb2⟩
  have hk2 := hk1.trans (hb2.mono hk1.size)
  clear hk1 hb2 x0 x1 x2 x3 x4 x5
  by_cases hneg' : r' < 0
  · go_wp2_with fail
    go_ret
    exact ⟨rfl, HB0.out.trans (hk2.mono HB0.out.size)⟩
  have hwt : bigWt b ≤ 1048576 := by omega
  have HWT := Lib.hid hwt
  have HBS := Lib.hid (bigS_of hwt)
  obtain ⟨q, hq⟩ : ∃ q, (bigB cs b && sglB b) = q := ⟨_, rfl⟩
  have HSp := Lib.hid (fun A n c v w h1 h2 hn => hq ▸ sDs_any A n c cs v b w h1 h2 hn HS.out HBS.out HVW.out)
  have HIm := Lib.hid (fun A n c v w h1 h2 hn => hq ▸ iDs_any A n c cs v b w h1 h2 hn HS.out HBS.out HVW.out)
  clear hr' hr1' hr2' hr1 hr2 hwt hq hneg hs1
  obtain ⟨x0, x1, x2, x3, x4, x5⟩ := (HBox.out.below hk2 hWs).get
  have hs2 : w.heap.size < w2.heap.size := Nat.lt_of_lt_of_le hWs hk2.size
  go_wp2_with fail
  go_region_held3 (fun w' => w'.cell? ⟨w.heap.size, 0, none⟩ = some (.int .i64 b.roots) ∧ w'.cell? ⟨w.heap.size, 1, none⟩ = some (.slice A1 n1 c1) ∧ w'.cell? ⟨w.heap.size, 2, none⟩ = some (.slice A2 n2 c2) ∧ w'.cell? ⟨w.heap.size, 3, none⟩ = some (.int .i64 b.edges) ∧ w'.cell? ⟨w.heap.size, 4, none⟩ = some (.slice A4 n4 c4) ∧ w'.cell? ⟨w.heap.size, 5, none⟩ = some (.slice A5 n5 c5)) (first | exact (HBox.out.below hk5 hWs).get | exact (HBox.out.below hk4 hWs).get | exact (HBox.out.below hk3 hWs).get | exact (HBox.out.below hk2.drew hWs).get)
    (first
     | (go_at_call 11; refine (toCS_any A n c cs _ ((HC.out.below hk2.drew).wide hk2.drew.size) hlen).mono ?_; rintro e w3 ⟨g3, rfl, ho3, hb3⟩; have hk3 := hk2.drew.trans (hb3.mono hk2.drew.size); have hs3 : w.heap.size < w3.heap.size := Nat.lt_of_lt_of_le hWs hk3.size)
     | (go_at_call 12; refine (toB_any _ b _ ((HV.out.below hk3).wide hk3.size) HBS.out).mono ?_; rintro e w4 ⟨v4, rfl, ho4, hb4⟩; have hk4 := hk3.trans (hb4.mono hk3.size); have hs4 : w.heap.size < w4.heap.size := Nat.lt_of_lt_of_le hWs hk4.size; have hc4 := (ho3.at.below hb4).wide hb4.size)
     | (go_at_call 31; refine (HSp.out _ _ _ _ _ hc4 ho4.at hlen).mono ?_; rintro e w5 ⟨rfl, hb5⟩; have hk5 := hk4.trans (hb5.mono hk4.size)))
  clear hb3 hb4 hb5 ho3 ho4 hc4 hk2 hk3 hk4 hs2 hs3 hs4 x0 x1 x2 x3 x4 x5
  obtain ⟨x0, x1, x2, x3, x4, x5⟩ := (HBox.out.below hk5 hWs).get
  go_wp2_with fail
  refine (toCS_any A n c cs _ ((HC.out.below hk5).wide hk5.size) hlen).mono ?_
  rintro e w6 ⟨g6, rfl, ho6, hb6⟩
  have hk6 := hk5.trans (hb6.mono hk5.size)
  clear hk5 hb6 x0 x1 x2 x3 x4 x5
  obtain ⟨x0, x1, x2, x3, x4, x5⟩ := (HBox.out.below hk6 hWs).get
  go_wp2_with fail
  refine (toB_any _ b _ ((HV.out.below hk6).wide hk6.size) HBS.out).mono ?_
  rintro e w7 ⟨v7, rfl, ho7, hb7⟩
  have hk7 := hk6.trans (hb7.mono hk6.size)
  have HC7 := Lib.hid ((ho6.at.below hb7).wide hb7.size)
  have HO7 := Lib.hid ho7
  obtain ⟨y1, y2, y4, y5, rfl, -⟩ := ho7
  clear hk6 hb7 ho6 x0 x1 x2 x3 x4 x5
  go_wp2_with fail
  have HBx8 : Hid (BoxAt (w7.alloc (.cells #[.int .i64 b.roots, .slice (some ⟨y1, 0, none⟩) b.nodes.length b.nodes.length, .slice (some ⟨y2, 0, none⟩) b.sites.length b.sites.length, .int .i64 b.edges, .slice (some ⟨y4, 0, none⟩) b.outer.length b.outer.length, .slice (some ⟨y5, 0, none⟩) b.inner.length b.inner.length] 38)) w7.heap.size 38 (.int .i64 b.roots) (.slice (some ⟨y1, 0, none⟩) b.nodes.length b.nodes.length) (.slice (some ⟨y2, 0, none⟩) b.sites.length b.sites.length) (.int .i64 b.edges) (.slice (some ⟨y4, 0, none⟩) b.outer.length b.outer.length) (.slice (some ⟨y5, 0, none⟩) b.inner.length b.inner.length)) := Lib.hid (six_new w7 _ _ _ _ _ _ _)
  have hb78 := (Below.refl w7.heap.size w7).alloc (Nat.le_refl _) (.cells #[.int .i64 b.roots, .slice (some ⟨y1, 0, none⟩) b.nodes.length b.nodes.length, .slice (some ⟨y2, 0, none⟩) b.sites.length b.sites.length, .int .i64 b.edges, .slice (some ⟨y4, 0, none⟩) b.outer.length b.outer.length, .slice (some ⟨y5, 0, none⟩) b.inner.length b.inner.length] 38)
  obtain ⟨w8, hw8⟩ : ∃ w8, w7.alloc (.cells #[.int .i64 b.roots, .slice (some ⟨y1, 0, none⟩) b.nodes.length b.nodes.length, .slice (some ⟨y2, 0, none⟩) b.sites.length b.sites.length, .int .i64 b.edges, .slice (some ⟨y4, 0, none⟩) b.outer.length b.outer.length, .slice (some ⟨y5, 0, none⟩) b.inner.length b.inner.length] 38) = w8 := ⟨_, rfl⟩
  have hs8 : w7.heap.size < w8.heap.size := by rw [← hw8]; simp
  rw [hw8] at HBx8 hb78 ⊢
  have hk8 := hk7.trans (hb78.mono hk7.size)
  have HC8 := Lib.hid ((HC7.out.below hb78).wide hb78.size)
  have HO8 := Lib.hid ((HO7.out.below hb78 (Nat.le_refl _)).wide (Nat.le_refl _) hb78.size)
  clear hk7 hb78 hw8 HC7 HO7
  refine (HIm.out _ _ _ _ _ HC8.out HO8.out.at hlen).mono ?_
  rintro e w9 ⟨rfl, hb9⟩
  have hk9 := hk8.trans (hb9.mono hk8.size)
  have HC9 := Lib.hid ((HC8.out.below hb9).wide hb9.size)
  have HO9 := Lib.hid ((HO8.out.below hb9 (Nat.le_refl _)).wide (Nat.le_refl _) hb9.size)
  have HBx9 := Lib.hid (HBx8.out.below hb9 hs8)
  have hs9 : w7.heap.size < w9.heap.size := Nat.lt_of_lt_of_le hs8 hb9.size
  clear hk8 hb9 hs8 HC8 HO8 HBx8
  go_wp2_with fail
  refine (toCS_any A n c cs _ ((HC.out.below hk9).wide hk9.size) hlen).mono ?_
  rintro e w10 ⟨g10, rfl, ho10, hb10⟩
  have hk10 := hk9.trans (hb10.mono hk9.size)
  have hc10 := (HC9.out.below hb10).wide hb10.size
  go_wp2_with fail
  refine (eqCS_any _ _ _ _ _ cs _ _ _ hc10 ho10.at (Nat.le_refl _) (Nat.le_refl _) hlen).mono ?_
  rintro e w11 ⟨rfl, hb11⟩
  have hb911 := hb10.trans (hb11.mono hb10.size)
  have hk11 := hk9.trans (hb911.mono hk9.size)
  have HO11 := Lib.hid ((HO9.out.below hb911 (Nat.le_refl _)).wide (Nat.le_refl _) hb911.size)
  have HBx11 := Lib.hid (HBx9.out.below hb911 hs9)
  have hs11 : w7.heap.size < w11.heap.size := Nat.lt_of_lt_of_le hs9 hb911.size
  clear hk9 hb10 hs9 HC9 HO9 HBx9 hb11 hb911 hk10 hc10 ho10
  go_wp2_with fail
  have hbD : Below w11.heap.size w11 w11.drew := (Below.refl _ _).drew
  go_region_held3 (fun w' => (w'.cell? ⟨w.heap.size, 0, none⟩ = some (.int .i64 b.roots) ∧ w'.cell? ⟨w.heap.size, 1, none⟩ = some (.slice A1 n1 c1) ∧ w'.cell? ⟨w.heap.size, 2, none⟩ = some (.slice A2 n2 c2) ∧ w'.cell? ⟨w.heap.size, 3, none⟩ = some (.int .i64 b.edges) ∧ w'.cell? ⟨w.heap.size, 4, none⟩ = some (.slice A4 n4 c4) ∧ w'.cell? ⟨w.heap.size, 5, none⟩ = some (.slice A5 n5 c5)) ∧ (w'.cell? ⟨w7.heap.size, 0, none⟩ = some (.int .i64 b.roots) ∧ w'.cell? ⟨w7.heap.size, 1, none⟩ = some (.slice (some ⟨y1, 0, none⟩) b.nodes.length b.nodes.length) ∧ w'.cell? ⟨w7.heap.size, 2, none⟩ = some (.slice (some ⟨y2, 0, none⟩) b.sites.length b.sites.length) ∧ w'.cell? ⟨w7.heap.size, 3, none⟩ = some (.int .i64 b.edges) ∧ w'.cell? ⟨w7.heap.size, 4, none⟩ = some (.slice (some ⟨y4, 0, none⟩) b.outer.length b.outer.length) ∧ w'.cell? ⟨w7.heap.size, 5, none⟩ = some (.slice (some ⟨y5, 0, none⟩) b.inner.length b.inner.length))) (first | exact ⟨(HBox.out.below hk13 hWs).get, (HBx12.out.below hb13 hs12).get⟩ | exact ⟨(HBox.out.below hk12 hWs).get, HBx12.out.get⟩ | exact ⟨(HBox.out.below hk11.drew hWs).get, (HBx11.out.below hbD hs11).get⟩)
    (first
     | (go_at_call 12; refine (toB_any _ b _ ((HV.out.below hk11.drew).wide hk11.drew.size) HBS.out).mono ?_; rintro e w12 ⟨v12, rfl, ho12, hb12⟩; have hk12 := hk11.drew.trans (hb12.mono hk11.drew.size); have hb1112 := hbD.trans (hb12.mono hbD.size); have HBx12 := Lib.hid (HBx11.out.below hb1112 hs11); have hs12 : w7.heap.size < w12.heap.size := Nat.lt_of_lt_of_le hs11 hb1112.size; have ho1112 := (HO11.out.below hb1112 (Nat.le_refl _)).at.wide hb1112.size)
     | (go_at_call 16; refine (eqB_any _ _ b _ _ _ ho1112 ho12.at (Nat.le_refl _) (Nat.le_refl _) HVW.out HBS.out.2.2.2.1).mono ?_; rintro e w13 ⟨rfl, hb13⟩; have hk13 := hk12.trans (hb13.mono hk12.size)))
  go_wp2_with fail
  go_ret
  exact ⟨rfl, HB0.out.trans (hk13.mono HB0.out.size)⟩

theorem own : ownKnob Try.prog.godebug = none := by kernel_rfl
theorem laidOut : laidOutB Try.prog = true := facts.laid

set_option maxRecDepth 100000 in
theorem lifted (os : Os) (started : os.Started) (H : Type) (enc : TypeId × Value → H) :
    ReturnsInHanded {} Try.checked os 6 .any (Rows.fnExactIsDiscreteSpec.pre6 enc Try.prog Try.f6 Rows.fnExactIsDiscreteRow.domain false) (Rows.fnExactIsDiscreteSpec.post enc Try.prog Try.f6 false true false false) := by
  refine returnsInHanded_of_change (C := Try.checked) own started (by kernel_rfl) Try.func6
    (ChangeSpec.witness6 (enc := enc) (C := Try.checked) false ⟨#[], #[.slice none 0 0, .agg #[.int .i64 0, .slice none 0 0, .slice none 0 0, .int .i64 0, .slice none 0 0, .slice none 0 0]], []⟩ 8 (by kernel_rfl) (by kernel_rfl) (by kernel_rfl) (by kernel_rfl)) ?_
  intro W base args ds gs before hval0 hW hcnd _
  have hval : ∀ (j : Nat) t v, Try.f6.params[j]? = some t → args[j]? = some v → Value.okWide Try.prog W .any base t v := hval0
  have hW' := hW
  obtain ⟨p, q, hA0, hV, rfl, hfz, hnd⟩ := hW
  have hA : DataW.TrodAll enc Try.prog W 0 (fun _ => true) true Try.f6.params.toList args.toList ds p := hA0
  rw [Try.params6] at hA hval
  obtain ⟨v0, vs0, d0, ds0, p0, q0, hargs, rfl, rfl, h0, r0⟩ := trodAll_cons hA
  obtain ⟨v1, vs1, d1, ds1, p1, q1, rfl, rfl, rfl, h1, r1⟩ := trodAll_cons r0
  obtain ⟨rfl, rfl, rfl⟩ := trodAll_nil r1
  obtain rfl : args = #[v0, v1] := by cases args; simp_all
  obtain ⟨rfl, rfl⟩ := trodVars_none hV
  have k0 := h0
  have lt0 : ∀ x ∈ p0, x.block < W.heap.size := by obtain ⟨m, hm⟩ := k0; exact DataW.trod_lt m _ _ _ hm
  obtain ⟨A0, n0, c0, cs0, rfl, s0, w0⟩ := open_sig (hval 0 22 v0 rfl rfl) h0 lt0
  have k1 := h1
  have lt1 : ∀ x ∈ p1, x.block < W.heap.size := by obtain ⟨m, hm⟩ := k1; exact DataW.trod_lt m _ _ _ hm
  obtain ⟨b1, s1, w1⟩ := open_big (hval 1 28 v1 rfl rfl) h1 lt1
  clear hA0 hval0
  refine (walk A0 n0 c0 cs0 v1 b1 W s0 w0 s1 w1).mono fun e W' ⟨he, bel⟩ => ?_
  subst he
  exact ⟨_, rfl, _, _, _, [], _, [], hW', trodAll_mk1 (shut_bool Try.underlying4 _), (trodAll_cons_mk (Below.trod laidOut (by kernel_rfl) (of_decide_eq_true (by kernel_rfl)) k0 bel lt0) (trodAll_cons_mk (Below.trod laidOut (by kernel_rfl) (of_decide_eq_true (by kernel_rfl)) k1 bel lt1) trodAll_mk0)), rfl, bel.frame _, fun h => by cases h⟩

theorem closed : joinedFacts Try.checked.prog 6 Try.f6 Rows.fnExactIsDiscreteSpec Rows.fnExactIsDiscreteRow = true := by
  unfold joinedFacts
  rw [facts.laid, facts.maps, facts.heard, facts.enter, facts.lifts, facts.make, facts.keys]
  kernel_rfl

theorem over : Rows.fnExactIsDiscreteRow.holds Try.pinned (OpenSpec.ofChange Rows.fnExactIsDiscreteSpec) :=
  OpenClaim.holds_of_wide 6 Try.f6 rfl rfl rfl rfl rfl rfl rfl ⟨rfl, rfl, rfl, rfl, rfl⟩ rfl rfl rfl rfl rfl (by kernel_rfl) Try.func6 closed
    (of_decide_eq_true (by kernel_rfl)) (by unfold Func.isWrapper; first | (rw [if_pos (by decide +kernel)]; kernel_rfl) | (rw [if_neg (by decide +kernel)]; exact ⟨rfl, rfl⟩))
    (fun os started H enc _ => lifted os started H enc)

theorem proved : Rows.FnExactIsDiscreteSaid := over
#print axioms proved
end Go.Proofs.Ytlhickjlcmiknaa.fnExactIsDiscrete
