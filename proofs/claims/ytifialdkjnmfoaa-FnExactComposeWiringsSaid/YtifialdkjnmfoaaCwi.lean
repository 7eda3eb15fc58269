/- ComposeWirings of impl. -/
import Derived.Test.YtifialdkjnmfoaaCw
namespace Go.Proofs.Ytifialdkjnmfoaa.cwi
open kit bg sg opn strs only hb sig isig un over gn nm inn ht gd im pt marks eqs hc hi hw hn rs br bm bw cf lf ib isa lawb lw cl pl mb sb wb rl ft gv kd abv tp cw
open Go.RowKit
set_option linter.unusedVariables false

set_option maxRecDepth 20000 in
set_option maxHeartbeats 12800000 in
theorem iCw_any (A : Option Addr) (n c : Nat) (cs : List Ctl) (va : Value) (a : Big) (vb : Value) (b : Big) (w : World) (hC : CtlsAt w w.heap.size A n cs) (hn : n ≤ 1048576) (hs : ∀ c ∈ cs, c.name.size ≤ 1048576) (hva : BigAt w w.heap.size va a) (hSa : BigS a) (hwa : BigW a) (hNa : NilV va) (hvb : BigAt w w.heap.size vb b) (hSb : BigS b) (hwb : BigW b) (hNb : NilV vb) :
    Calls Try.prog 68 #[.slice A n c, va, vb] w (BigPost (cwQ cs a b) (cwR cs a b) w) := by
  obtain ⟨A1, n1, c1, A2, n2, c2, A4, n4, c4, A5, n5, c5, rfl, h1, h2, h4, h5⟩ := hva
  obtain ⟨B1, m1, d1, B2, m2, d2, B4, m4, d4, B5, m5, d5, rfl, k1, k2, k4, k5⟩ := hvb
  have hnilA := hNa.get
  have HWa := Lib.hid (fun (w2 : World) (hb2 : Below w.heap.size w w2) => iWir_any A n c cs (.agg #[.int .i64 a.roots, .slice A1 n1 c1, .slice A2 n2 c2, .int .i64 a.edges, .slice A4 n4 c4, .slice A5 n5 c5]) a w2 ((hC.below hb2).wide hb2.size) (BigAt.wide (BigAt.below ⟨_, _, _, _, _, _, _, _, _, _, _, _, rfl, h1, h2, h4, h5⟩ hb2) hb2.size) hn hs hSa hwa)
  have HWb := Lib.hid (fun (w2 : World) (hb2 : Below w.heap.size w w2) => iWir_any A n c cs (.agg #[.int .i64 b.roots, .slice B1 m1 d1, .slice B2 m2 d2, .int .i64 b.edges, .slice B4 m4 d4, .slice B5 m5 d5]) b w2 ((hC.below hb2).wide hb2.size) (BigAt.wide (BigAt.below ⟨_, _, _, _, _, _, _, _, _, _, _, _, rfl, k1, k2, k4, k5⟩ hb2) hb2.size) hn hs hSb hwb)
  have HBa : Hid (BoxAt (w.alloc (.cells #[.int .i64 a.roots, .slice A1 n1 c1, .slice A2 n2 c2, .int .i64 a.edges, .slice A4 n4 c4, .slice A5 n5 c5] 39)) w.heap.size 39 (.int .i64 a.roots) (.slice A1 n1 c1) (.slice A2 n2 c2) (.int .i64 a.edges) (.slice A4 n4 c4) (.slice A5 n5 c5)) := Lib.hid (six_new w _ _ _ _ _ _ _)
  have hb0 := (Below.refl w.heap.size w).alloc (Nat.le_refl _) (.cells #[.int .i64 a.roots, .slice A1 n1 c1, .slice A2 n2 c2, .int .i64 a.edges, .slice A4 n4 c4, .slice A5 n5 c5] 39)
  obtain ⟨U, hU⟩ : ∃ U, w.alloc (.cells #[.int .i64 a.roots, .slice A1 n1 c1, .slice A2 n2 c2, .int .i64 a.edges, .slice A4 n4 c4, .slice A5 n5 c5] 39) = U := ⟨_, rfl⟩
  have hUz : U.heap.size = w.heap.size + 1 := by rw [← hU]; simp
  rw [hU] at HBa hb0
  have HBb : Hid (BoxAt (U.alloc (.cells #[.int .i64 b.roots, .slice B1 m1 d1, .slice B2 m2 d2, .int .i64 b.edges, .slice B4 m4 d4, .slice B5 m5 d5] 39)) U.heap.size 39 (.int .i64 b.roots) (.slice B1 m1 d1) (.slice B2 m2 d2) (.int .i64 b.edges) (.slice B4 m4 d4) (.slice B5 m5 d5)) := Lib.hid (six_new U _ _ _ _ _ _ _)
  have hb1 := (Below.refl U.heap.size U).alloc (Nat.le_refl _) (.cells #[.int .i64 b.roots, .slice B1 m1 d1, .slice B2 m2 d2, .int .i64 b.edges, .slice B4 m4 d4, .slice B5 m5 d5] 39)
  have HBa := Lib.hid (HBa.out.on hb1)
  obtain ⟨W, hW⟩ : ∃ W, U.alloc (.cells #[.int .i64 b.roots, .slice B1 m1 d1, .slice B2 m2 d2, .int .i64 b.edges, .slice B4 m4 d4, .slice B5 m5 d5] 39) = W := ⟨_, rfl⟩
  have hWz : W.heap.size = w.heap.size + 2 := by rw [← hW]; simp; omega
  rw [hW] at HBa HBb hb1
  rw [hUz] at HBb
  have HUq := Lib.hid hU
  have HWq := Lib.hid hW
  have HB0 := Lib.hid (hb0.trans (hb1.mono hb0.size))
  have HWz := Lib.hid hWz
  have ha1 : w.heap.size < W.heap.size := by omega
  have ha2 : w.heap.size + 1 < W.heap.size := by omega
  clear hU hW hb0 hb1 hUz hWz
  have hb3 := (Below.refl W.heap.size W).alloc (Nat.le_refl _) (.cells #[.int .i64 0, .slice none 0 0, .slice none 0 0, .int .i64 0, .slice none 0 0, .slice none 0 0] 39)
  have HBr : Hid (BoxAt (W.alloc (.cells #[.int .i64 0, .slice none 0 0, .slice none 0 0, .int .i64 0, .slice none 0 0, .slice none 0 0] 39)) W.heap.size 39 (.int .i64 0) (.slice none 0 0) (.slice none 0 0) (.int .i64 0) (.slice none 0 0) (.slice none 0 0)) := Lib.hid (six_new W _ _ _ _ _ _ _)
  have HTa := Lib.hid (HBa.out.on hb3)
  have HTb := Lib.hid (HBb.out.on hb3)
  obtain ⟨X, hX⟩ : ∃ X, W.alloc (.cells #[.int .i64 0, .slice none 0 0, .slice none 0 0, .int .i64 0, .slice none 0 0, .slice none 0 0] 39) = X := ⟨_, rfl⟩
  have hXz : X.heap.size = w.heap.size + 3 := by rw [← hX]; simp; exact HWz.out
  rw [hX] at HBr HTa HTb hb3
  rw [show W.heap.size = w.heap.size + 1 + 1 from HWz.out] at HBr
  have HXq := Lib.hid hX
  have hB0 := HB0.out.trans (hb3.mono HB0.out.size)
  have HXz := Lib.hid hXz
  have hx1 : w.heap.size < X.heap.size := by omega
  have hx2 : w.heap.size + 1 < X.heap.size := by omega
  have hx3 : w.heap.size + 2 < X.heap.size := by omega
  have hwβ : w.heap.size ≤ w.heap.size + 1 + 1 := by omega
  clear hX hXz hb3 HBa HBb ha1 ha2
  have HBa := Lib.hid HTa.out
  have HBb := Lib.hid HTb.out
  clear HTa HTb
  have q5 : n5 ≤ 1048576 := by have := hSa.2.2.2.2.2.1; rw [h5.1] at this; exact this
  have q4 : m4 ≤ 1048576 := by have := hSb.2.2.2.1; rw [k4.strlen] at this; exact this
  have r4 : n4 ≤ 1048576 := by have := hSa.2.2.2.1; rw [h4.strlen] at this; exact this
  have HNl : Hid (((nms a.inner).map Value.string).length = n5) := Lib.hid (by rw [List.length_map]; unfold nms; rw [List.length_map]; exact h5.1)
  have HI := Lib.hid (fun (w2 : World) (hb2 : Below w.heap.size w w2) => innerN_any (.int .i64 a.roots) (.slice A1 n1 c1) (.slice A2 n2 c2) (.int .i64 a.edges) (.slice A4 n4 c4) A5 n5 c5 a.inner w w2 h5 hb2 q5)
  have HEq := Lib.hid (fun (A : Option Addr) (c : Nat) (w2 : World) (hs : SR w2 w2.heap.size A n5 ((nms a.inner).map Value.string)) (hb2 : Below w.heap.size w w2) => eqStr_any A n5 c (nms a.inner) B4 m4 d4 b.outer w2 _ _ hs (k4.below hb2) (Nat.le_refl _) hb2.size q5 q4)
  obtain ⟨x0, x1, x2, x3, x4, x5⟩ := HBa.out.get
  obtain ⟨y0, y1, y2, y3, y4, y5⟩ := HBb.out.get
  cases hp1 : (bigB cs a && ofB wirQ a) with
  | false =>
    rw [hp1] at HWa
    have HE : Hid (cwB cs a b = false) := Lib.hid (by unfold cwB; revert hp1; cases bigB cs a <;> cases bigB cs b <;> cases ofB wirQ a <;> simp)
    have HKa := Lib.hid (fun y : Over X => over_call (HWa.out y.w (hB0.trans (y.below.mono hB0.size))))
    rw [(cwR_no HE.out).1, (cwR_no HE.out).2]
    clear hp1 hC hn hs hSa hwa hNa hSb hwb hNb
    go_enter Try.func68, Try.ntmps68
    go_wp2_with fail
    rw [HUq.out, HWq.out, HXq.out]
    go_wp2_with fail
    have z0 := Over.get x0 hx1
    have z1 := Over.get x1 hx1
    have z2 := Over.get x2 hx1
    have z3 := Over.get x3 hx1
    have z4 := Over.get x4 hx1
    have z5 := Over.get x5 hx1
    have t0 := Over.get y0 hx2
    have t1 := Over.get y1 hx2
    have t2 := Over.get y2 hx2
    have t3 := Over.get y3 hx2
    have t4 := Over.get y4 hx2
    have t5 := Over.get y5 hx2
    clear x0 x1 x2 x3 x4 x5 y0 y1 y2 y3 y4 y5
    refine wp_region_over (by kernel_rfl) (by kernel_rfl) ?_
    repeat (go_big_quiet_step (first | (go_at_call 141; exact HKa.out _)))
    refine wpQuiet_nil ?_
    rintro _ ⟨y, rfl⟩
    have hy := y.below
    obtain ⟨w9, hw9⟩ : ∃ w9, y.w = w9 := ⟨_, rfl⟩
    rw [hw9] at hy ⊢
    clear hw9 z0 z1 z2 z3 z4 z5 t0 t1 t2 t3 t4 t5
    have hB9 := hB0.trans (hy.mono hB0.size)
    have HBr9 := Lib.hid (HBr.out.on hy)
    clear hy
    obtain ⟨z0, z1, z2, z3, z4, z5⟩ := HBr9.out.get
    have f0 := World.rowIs.frozen HBr9.out 0
    have f1 := World.rowIs.frozen HBr9.out 1
    have f2 := World.rowIs.frozen HBr9.out 2
    have f3 := World.rowIs.frozen HBr9.out 3
    have f4 := World.rowIs.frozen HBr9.out 4
    have f5 := World.rowIs.frozen HBr9.out 5
    go_wp2_with fail
    exact bodyPost_ret (v := .tuple #[.agg #[.int .i64 0, .slice none 0 0, .slice none 0 0, .int .i64 0, .slice none 0 0, .slice none 0 0], .bool false]) (by simp [results, Try.results68, go_sem, z0, z1, z2, z3, z4, z5]) rfl ⟨_, rfl, BigR.zero, sets6_below hB9 hwβ _ _ _ _ _ _⟩
  | true =>
    rw [hp1] at HWa
    cases hp2 : (bigB cs b && ofB wirQ b) with
    | false =>
      rw [hp2] at HWb
      have HE : Hid (cwB cs a b = false) := Lib.hid (by unfold cwB; revert hp2; cases bigB cs a <;> cases bigB cs b <;> cases ofB wirQ a <;> cases ofB wirQ b <;> simp)
      have HKa := Lib.hid (fun y : Over X => over_call (HWa.out y.w (hB0.trans (y.below.mono hB0.size))))
      have HKb := Lib.hid (fun y : Over X => over_call (HWb.out y.w (hB0.trans (y.below.mono hB0.size))))
      rw [(cwR_no HE.out).1, (cwR_no HE.out).2]
      clear hp1 hp2 hC hn hs hSa hwa hNa hSb hwb hNb
      go_enter Try.func68, Try.ntmps68
      go_wp2_with fail
      rw [HUq.out, HWq.out, HXq.out]
      go_wp2_with fail
      have z0 := Over.get x0 hx1
      have z1 := Over.get x1 hx1
      have z2 := Over.get x2 hx1
      have z3 := Over.get x3 hx1
      have z4 := Over.get x4 hx1
      have z5 := Over.get x5 hx1
      have t0 := Over.get y0 hx2
      have t1 := Over.get y1 hx2
      have t2 := Over.get y2 hx2
      have t3 := Over.get y3 hx2
      have t4 := Over.get y4 hx2
      have t5 := Over.get y5 hx2
      clear x0 x1 x2 x3 x4 x5 y0 y1 y2 y3 y4 y5
      refine wp_region_over (by kernel_rfl) (by kernel_rfl) ?_
      repeat (go_big_quiet_step (first | (go_at_call 141; with_reducible exact HKa.out _) | (go_at_call 141; with_reducible exact HKb.out _)))
      refine wpQuiet_nil ?_
      rintro _ ⟨y, rfl⟩
      have hy := y.below
      obtain ⟨w9, hw9⟩ : ∃ w9, y.w = w9 := ⟨_, rfl⟩
      rw [hw9] at hy ⊢
      clear hw9 z0 z1 z2 z3 z4 z5 t0 t1 t2 t3 t4 t5
      have hB9 := hB0.trans (hy.mono hB0.size)
      have HBr9 := Lib.hid (HBr.out.on hy)
      clear hy
      obtain ⟨z0, z1, z2, z3, z4, z5⟩ := HBr9.out.get
      have f0 := World.rowIs.frozen HBr9.out 0
      have f1 := World.rowIs.frozen HBr9.out 1
      have f2 := World.rowIs.frozen HBr9.out 2
      have f3 := World.rowIs.frozen HBr9.out 3
      have f4 := World.rowIs.frozen HBr9.out 4
      have f5 := World.rowIs.frozen HBr9.out 5
      go_wp2_with fail
      exact bodyPost_ret (v := .tuple #[.agg #[.int .i64 0, .slice none 0 0, .slice none 0 0, .int .i64 0, .slice none 0 0, .slice none 0 0], .bool false]) (by simp [results, Try.results68, go_sem, z0, z1, z2, z3, z4, z5]) rfl ⟨_, rfl, BigR.zero, sets6_below hB9 hwβ _ _ _ _ _ _⟩
    | true =>
      rw [hp2] at HWb
      simp only [Bool.and_eq_true] at hp1 hp2
      have HD : Hid (cwB cs a b = decide (nms a.inner = b.outer)) := Lib.hid (by unfold cwB; rw [hp1.1, hp1.2, hp2.1, hp2.2]; rfl)
      cases hq : decide (nms a.inner = b.outer) with
      | false =>
        rw [hq] at HEq HD
        have HE := Lib.hid HD.out
        rw [(cwR_no HE.out).1, (cwR_no HE.out).2]
        clear hq hp1 hp2 hC hn hs hSa hwa hNa hSb hwb hNb HD
        go_enter Try.func68, Try.ntmps68
        go_wp2_with fail
        rw [HUq.out, HWq.out, HXq.out]
        go_wp2_with fail
        have hkD := (Below.refl X.heap.size X).drew
        go_region_held3 (fun w' => (w'.cell? ⟨w.heap.size, 0, none⟩ = some (.int .i64 a.roots) ∧ w'.cell? ⟨w.heap.size, 1, none⟩ = some (.slice A1 n1 c1) ∧ w'.cell? ⟨w.heap.size, 2, none⟩ = some (.slice A2 n2 c2) ∧ w'.cell? ⟨w.heap.size, 3, none⟩ = some (.int .i64 a.edges) ∧ w'.cell? ⟨w.heap.size, 4, none⟩ = some (.slice A4 n4 c4) ∧ w'.cell? ⟨w.heap.size, 5, none⟩ = some (.slice A5 n5 c5)) ∧ (w'.cell? ⟨w.heap.size + 1, 0, none⟩ = some (.int .i64 b.roots) ∧ w'.cell? ⟨w.heap.size + 1, 1, none⟩ = some (.slice B1 m1 d1) ∧ w'.cell? ⟨w.heap.size + 1, 2, none⟩ = some (.slice B2 m2 d2) ∧ w'.cell? ⟨w.heap.size + 1, 3, none⟩ = some (.int .i64 b.edges) ∧ w'.cell? ⟨w.heap.size + 1, 4, none⟩ = some (.slice B4 m4 d4) ∧ w'.cell? ⟨w.heap.size + 1, 5, none⟩ = some (.slice B5 m5 d5))) (first | exact ⟨(HBa.out.on hk4).get, (HBb.out.on hk4).get⟩ | exact ⟨(HBa.out.on hk3).get, (HBb.out.on hk3).get⟩ | exact ⟨(HBa.out.on hk2).get, (HBb.out.on hk2).get⟩ | exact ⟨(HBa.out.on hk1).get, (HBb.out.on hk1).get⟩ | exact ⟨(HBa.out.on hkD).get, (HBb.out.on hkD).get⟩)
          (first
           | (go_at_call 142; refine (HEq.out _ _ w3 hs3 (hB0.trans (hk3.mono hB0.size))).mono ?_; rintro e w4 ⟨rfl, hb4⟩; have hk4 := hk3.trans (hb4.mono hk3.size))
           | (go_at_call 143; refine (HI.out _ (hB0.trans (hk2.mono hB0.size))).mono ?_; rintro e w3 ⟨v3, rfl, ho, hb3⟩; obtain ⟨g3, cap3, rfl, -, -, -, hs3⟩ := ho.at; rw [HNl.out] at hs3; rw [HNl.out]; have hk3 := hk2.trans (hb3.mono hk2.size))
           | (go_at_call 141; refine (HWb.out _ (hB0.trans (hk1.mono hB0.size))).mono ?_; rintro e w2 ⟨rfl, hb2⟩; have hk2 := hk1.trans (hb2.mono hk1.size))
           | (go_at_call 141; refine (HWa.out _ (hB0.trans (hkD.mono hB0.size))).mono ?_; rintro e w1 ⟨rfl, hb1⟩; have hk1 := hkD.trans (hb1.mono hkD.size)))
        have hB9 := hB0.trans (hk4.mono hB0.size)
        have hX9 := hk4.size
        have HBr9 := Lib.hid (HBr.out.on hk4)
        have HBa9 := Lib.hid (HBa.out.on hk4)
        have HBb9 := Lib.hid (HBb.out.on hk4)
        obtain ⟨w9, hw9⟩ : ∃ x, w4 = x := ⟨_, rfl⟩
        rw [hw9] at hB9 HBr9 HBa9 HBb9 hX9 ⊢
        clear hk1 hk2 hk3 hk4 hkD hb1 hb2 hb3 hb4 ho hs3 hw9 x0 x1 x2 x3 x4 x5 y0 y1 y2 y3 y4 y5
        obtain ⟨z0, z1, z2, z3, z4, z5⟩ := HBr9.out.get
        have f0 := World.rowIs.frozen HBr9.out 0
        have f1 := World.rowIs.frozen HBr9.out 1
        have f2 := World.rowIs.frozen HBr9.out 2
        have f3 := World.rowIs.frozen HBr9.out 3
        have f4 := World.rowIs.frozen HBr9.out 4
        have f5 := World.rowIs.frozen HBr9.out 5
        go_wp2_with fail
        exact bodyPost_ret (v := .tuple #[.agg #[.int .i64 0, .slice none 0 0, .slice none 0 0, .int .i64 0, .slice none 0 0, .slice none 0 0], .bool false]) (by simp [results, Try.results68, go_sem, z0, z1, z2, z3, z4, z5]) rfl ⟨_, rfl, BigR.zero, sets6_below hB9 hwβ _ _ _ _ _ _⟩
      | true =>
        rw [hq] at HEq HD
        rw [(cwR_yes HD.out).1, (cwR_yes HD.out).2]
        have HNm := Lib.hid (of_decide_eq_true hq)
        have HGa := Lib.hid hp1.1
        have HGb := Lib.hid hp2.1
        have HWb2 := Lib.hid hp2.2
        clear hq hp1 hp2
        go_enter Try.func68, Try.ntmps68
        go_wp2_with fail
        rw [HUq.out, HWq.out, HXq.out]
        go_wp2_with fail
        have hkD := (Below.refl X.heap.size X).drew
        go_region_held3 (fun w' => (w'.cell? ⟨w.heap.size, 0, none⟩ = some (.int .i64 a.roots) ∧ w'.cell? ⟨w.heap.size, 1, none⟩ = some (.slice A1 n1 c1) ∧ w'.cell? ⟨w.heap.size, 2, none⟩ = some (.slice A2 n2 c2) ∧ w'.cell? ⟨w.heap.size, 3, none⟩ = some (.int .i64 a.edges) ∧ w'.cell? ⟨w.heap.size, 4, none⟩ = some (.slice A4 n4 c4) ∧ w'.cell? ⟨w.heap.size, 5, none⟩ = some (.slice A5 n5 c5)) ∧ (w'.cell? ⟨w.heap.size + 1, 0, none⟩ = some (.int .i64 b.roots) ∧ w'.cell? ⟨w.heap.size + 1, 1, none⟩ = some (.slice B1 m1 d1) ∧ w'.cell? ⟨w.heap.size + 1, 2, none⟩ = some (.slice B2 m2 d2) ∧ w'.cell? ⟨w.heap.size + 1, 3, none⟩ = some (.int .i64 b.edges) ∧ w'.cell? ⟨w.heap.size + 1, 4, none⟩ = some (.slice B4 m4 d4) ∧ w'.cell? ⟨w.heap.size + 1, 5, none⟩ = some (.slice B5 m5 d5))) (first | exact ⟨(HBa.out.on hk4).get, (HBb.out.on hk4).get⟩ | exact ⟨(HBa.out.on hk3).get, (HBb.out.on hk3).get⟩ | exact ⟨(HBa.out.on hk2).get, (HBb.out.on hk2).get⟩ | exact ⟨(HBa.out.on hk1).get, (HBb.out.on hk1).get⟩ | exact ⟨(HBa.out.on hkD).get, (HBb.out.on hkD).get⟩)
          (first
           | (go_at_call 142; refine (HEq.out _ _ w3 hs3 (hB0.trans (hk3.mono hB0.size))).mono ?_; rintro e w4 ⟨rfl, hb4⟩; have hk4 := hk3.trans (hb4.mono hk3.size))
           | (go_at_call 143; refine (HI.out _ (hB0.trans (hk2.mono hB0.size))).mono ?_; rintro e w3 ⟨v3, rfl, ho, hb3⟩; obtain ⟨g3, cap3, rfl, -, -, -, hs3⟩ := ho.at; rw [HNl.out] at hs3; rw [HNl.out]; have hk3 := hk2.trans (hb3.mono hk2.size))
           | (go_at_call 141; refine (HWb.out _ (hB0.trans (hk1.mono hB0.size))).mono ?_; rintro e w2 ⟨rfl, hb2⟩; have hk2 := hk1.trans (hb2.mono hk1.size))
           | (go_at_call 141; refine (HWa.out _ (hB0.trans (hkD.mono hB0.size))).mono ?_; rintro e w1 ⟨rfl, hb1⟩; have hk1 := hkD.trans (hb1.mono hkD.size)))
        have hB9 := hB0.trans (hk4.mono hB0.size)
        have hX9 := hk4.size
        have HBr9 := Lib.hid (HBr.out.on hk4)
        have HBa9 := Lib.hid (HBa.out.on hk4)
        have HBb9 := Lib.hid (HBb.out.on hk4)
        obtain ⟨w9, hw9⟩ : ∃ x, w4 = x := ⟨_, rfl⟩
        rw [hw9] at hB9 HBr9 HBa9 HBb9 hX9 ⊢
        clear hk1 hk2 hk3 hk4 hkD hb1 hb2 hb3 hb4 ho hs3 hw9 x0 x1 x2 x3 x4 x5 y0 y1 y2 y3 y4 y5
        obtain ⟨hr0, hn0, hs0⟩ := wir_empty HGb.out HWb2.out
        have Hr0 := Lib.hid hr0
        have Hn0 := Lib.hid hn0
        have Hs0 := Lib.hid hs0
        have za := (sizes_of (big_of HGa.out).2.1).2.1
        have zb := (sizes_of (big_of HGb.out).2.1).2.1
        have zn := (sizes_of (big_of HGa.out).2.1).2.2.2.2.2
        have hlen := nms_length HNm.out
        have l5 := h5.1
        have hsum : IntKind.i64.wrap (a.edges + b.edges) = a.edges + b.edges := IntWalk.i64_in _ (by omega)
        have happ : ∀ l : Int, (#[.int .i64 l] ++ #[.pointer (some ⟨w.heap.size + 1, 0, none⟩), .pointer (some ⟨w.heap.size, 0, none⟩)] : Array Value) = #[.int .i64 l, .pointer (some ⟨w.heap.size + 1, 0, none⟩), .pointer (some ⟨w.heap.size, 0, none⟩)] := fun l => by simp
        have HTo : Hid (∀ (l : Int) (W : World), linkB b l = true → Below w9.heap.size w9 W → Calls Try.prog 144 (#[.int .i64 l] ++ #[.pointer (some ⟨w.heap.size + 1, 0, none⟩), .pointer (some ⟨w.heap.size, 0, none⟩)]) W fun e W' => e = .returned (.int .i64 (thr a b l)) ∧ Below W.heap.size W W') := Lib.hid (fun l W hl hbW => by
          have hl2 := link_in hl
          rw [happ l]
          exact thrI_any A5 n5 c5 (.int .i64 a.roots) (.slice A1 n1 c1) (.slice A2 n2 c2) (.slice A4 n4 c4) (.int .i64 b.roots) (.slice B1 m1 d1) (.slice B2 m2 d2) (.slice B4 m4 d4) (.slice B5 m5 d5) a b l w W h5 (hB9.trans (hbW.mono hB9.size)) za zb ⟨hl2.1, by omega⟩ (by omega) (fun x hx => by have := link_in (inner_link HGa.out hx); have := (sizes_of (big_of HGa.out).2.1).2.2.2.2.1; omega) w.heap.size (w.heap.size + 1) (HBa9.out.on hbW) (HBb9.out.on hbW))
        have HRel := Lib.hid (relinked_any 144 #[.pointer (some ⟨w.heap.size + 1, 0, none⟩), .pointer (some ⟨w.heap.size, 0, none⟩)] (thr a b) (fun l => linkB b l = true) (.agg #[.int .i64 b.roots, .slice B1 m1 d1, .slice B2 m2 d2, .int .i64 b.edges, .slice B4 m4 d4, .slice B5 m5 d5]) b w9 (enters_of Try.func144 (by kernel_rfl) rfl) HTo.out (BigAt.wide (BigAt.below ⟨_, _, _, _, _, _, _, _, _, _, _, _, rfl, k1, k2, k4, k5⟩ hB9) hB9.size) hSb hNb (fun x hx => by rw [Hn0.out] at hx; cases hx) (fun x hx => inner_link HGb.out hx))
        have HCl := Lib.hid (fun (w2 : World) (hb2 : Below w.heap.size w w2) => cloneS_any A4 n4 c4 a.outer w2 ((h4.below hb2).wide hb2.size) r4 hnilA.2.2.1)
        have HIf := Lib.hid (fun (v : Value) (w2 : World) (hb2 : Below w.heap.size w w2) (hR : BigR w2 w.heap.size w2.heap.size v (cwC a b)) => ifb_any A n c cs v (cwC a b) w w2 hC hb2 hn hs hR (cwC_S HGa.out HGb.out hSa hSb) (cwC_W HGa.out HGb.out hwa hwb))
        have HE := Lib.hid (show (relB (thr a b) b).roots = 0 ∧ (relB (thr a b) b).nodes.length = 0 ∧ (relB (thr a b) b).sites.length = 0 ∧ (relB (thr a b) b).edges = b.edges ∧ (relB (thr a b) b).outer.length = m4 ∧ (relB (thr a b) b).inner.length = m5 from ⟨hr0, by simp [relB, hn0], by simp [relB, hs0], rfl, k4.strlen, by simp only [relB, List.length_map]; exact k5.1⟩)
        clear hr0 hn0 hs0
        have l4 := h4.strlen
        obtain ⟨x0, x1, x2, x3, x4, x5⟩ := HBa9.out.get
        obtain ⟨y0, y1, y2, y3, y4, y5⟩ := HBb9.out.get
        have hsz9 : w.heap.size + 3 ≤ w9.heap.size := by rw [← HXz.out]; exact hX9
        clear hC hn hs hSa hwa hNa hSb hwb hNb
        go_wp2_with fail
        refine HRel.out.mono ?_
        rintro e w10 ⟨v10, rfl, hr, hb⟩
        obtain ⟨D1, g1, D2, g2, D4, g4, D5, g5, rfl⟩ := hr.shape
        obtain ⟨e0, e1, e2, e3, e4, e5⟩ := HE.out
        rw [e0, e1, e2, e3, e4, e5] at hr
        rw [e0, e1, e2, e3, e4, e5]
        clear e0 e1 e2 e3 e4 e5
        have hB10 := hB9.trans (hb.mono hB9.size)
        have hsz10 := hb.size
        have hbX := (Below.refl w10.heap.size w10).alloc (Nat.le_refl _) (.cells #[.int .i64 0, .slice D1 0 g1, .slice D2 0 g2, .int .i64 b.edges, .slice D4 m4 g4, .slice D5 m5 g5] 39)
        have HB1 := Lib.hid (six_new w10 (.int .i64 0) (.slice D1 0 g1) (.slice D2 0 g2) (.int .i64 b.edges) (.slice D4 m4 g4) (.slice D5 m5 g5) 39)
        have HB1b : Hid (BoxAt (w10.alloc (.cells #[.int .i64 0, .slice D1 0 g1, .slice D2 0 g2, .int .i64 b.edges, .slice D4 m4 g4, .slice D5 m5 g5] 39)) w10.heap.size 39 (.int .i64 0) (.slice D1 0 g1) (.slice D2 0 g2) (.int .i64 b.edges) (.slice D4 m4 g4) (.slice D5 m5 g5)) := Lib.hid HB1.out
        have hbY := (Below.refl w10.heap.size w10).alloc (Nat.le_refl _) (.cells #[.int .i64 0, .slice D1 0 g1, .slice D2 0 g2, .int .i64 (a.edges + b.edges), .slice D4 m4 g4, .slice D5 m5 g5] 39)
        have HB2b : Hid (BoxAt (w10.alloc (.cells #[.int .i64 0, .slice D1 0 g1, .slice D2 0 g2, .int .i64 (a.edges + b.edges), .slice D4 m4 g4, .slice D5 m5 g5] 39)) w10.heap.size 39 (.int .i64 0) (.slice D1 0 g1) (.slice D2 0 g2) (.int .i64 (a.edges + b.edges)) (.slice D4 m4 g4) (.slice D5 m5 g5)) := Lib.hid (six_new w10 _ _ _ _ _ _ _)
        have HAx := Lib.hid ((HBa9.out.on hb).on hbX)
        have HAy := Lib.hid ((HBb9.out.on hb).on hbX)
        have hne3 : w.heap.size + 1 + 1 ≠ w10.heap.size := by omega
        have HAx2 := Lib.hid ((HBa9.out.on hb).on hbY)
        have HAr2 := Lib.hid ((HBr9.out.on hb).on hbY)
        have HRr := Lib.hid ((hr.on hbY).here)
        have hbS := hB10.alloc hB10.size (.cells #[.int .i64 0, .slice D1 0 g1, .slice D2 0 g2, .int .i64 (a.edges + b.edges), .slice D4 m4 g4, .slice D5 m5 g5] 39)
        have HCC := Lib.hid (HCl.out _ hbS)
        have HbS := Lib.hid hbS
        have hszY : w10.heap.size < (w10.alloc (.cells #[.int .i64 0, .slice D1 0 g1, .slice D2 0 g2, .int .i64 (a.edges + b.edges), .slice D4 m4 g4, .slice D5 m5 g5] 39)).heap.size := by simp
        have s3 := HAx.out.get.2.2.2.1
        have t3 := HAy.out.get.2.2.2.1
        have s4 := HAx2.out.get.2.2.2.2.1
        clear x0 x1 x2 x3 x4 x5 y0 y1 y2 y3 y4 y5 hr hb hbX hbY hbS
        go_wp2_with fail
        clear s3 t3 s4
        refine HCC.out.mono ?_
        rintro e w11 ⟨A4', c4', rfl, hr4, hz4, hb⟩
        have HB3b := Lib.hid (HB2b.out.on hb)
        have HAr3 := Lib.hid (HAr2.out.on hb)
        have HR3 := Lib.hid ((HRr.out.on hb).here)
        have HB11 := Lib.hid (HbS.out.trans (hb.mono HbS.out.size))
        have HB4b := Lib.hid (HB3b.out.put4 (.slice A4' n4 c4'))
        have HAr4 := Lib.hid (HAr3.out.else_ (k := 4) hne3 (.slice A4' n4 c4'))
        have HR4 := Lib.hid (big_set_box (k := 4) (u := .slice A4' n4 c4') HR3.out HB3b.out)
        have HR44 := Lib.hid (row_set_box (k := 4) (u := .slice A4' n4 c4') (hr4.wide (lo' := w.heap.size) HbS.out.size (Nat.le_refl _)) HB3b.out (by decide))
        have hB12 := HB11.out.setCell (p := ⟨w10.heap.size, 4, none⟩) hB10.size (.slice A4' n4 c4')
        have hszw : (w11.setCell ⟨w10.heap.size, 4, none⟩ (.slice A4' n4 c4')).heap.size = w11.heap.size := by simp [World.setCell]
        have HIc := Lib.hid (HIf.out _ _ hB12 (by
          rw [hszw]
          exact rel_cw (a.edges + b.edges) HR4.out Hn0.out Hs0.out hB9.size HR44.out l4))
        have HB12 := Lib.hid hB12
        obtain ⟨z0, z1, z2, z3, z4, z5⟩ := HB3b.out.get
        have f4 := World.rowIs.frozen HB3b.out 4
        obtain ⟨u0, u1, u2, u3, u4, u5⟩ := HB4b.out.get
        clear hr4 hb hB12 hszw
        go_wp2_with fail
        clear z0 z1 z2 z3 z4 z5 u0 u1 u2 u3 u4 u5 f4
        refine HIc.out.mono ?_
        rintro e w12 ⟨v12, rfl, hr, hb⟩
        obtain ⟨G, hG⟩ : ∃ G, giveR cs (cwC a b) = G := ⟨_, rfl⟩
        rw [hG] at hr
        have HGe := Lib.hid hG
        clear hG
        obtain ⟨E1, h1', E2, h2', E4, h4', E5, h5', rfl⟩ := hr.shape
        have HAr5 := Lib.hid (HAr4.out.on hb)
        have HB13 := Lib.hid (HB12.out.trans (hb.mono HB12.out.size))
        have HR5 := Lib.hid hr
        clear hr hb
        obtain ⟨z0, z1, z2, z3, z4, z5⟩ := HAr5.out.get
        have f0 := World.rowIs.frozen HAr5.out 0
        have f1 := World.rowIs.frozen HAr5.out 1
        have f2 := World.rowIs.frozen HAr5.out 2
        have f3 := World.rowIs.frozen HAr5.out 3
        have f4 := World.rowIs.frozen HAr5.out 4
        have f5 := World.rowIs.frozen HAr5.out 5
        go_wp2_with fail
        have hbig := (sets6_big HAr5.out HR5.out (.int .i64 G.roots) (.slice E1 G.nodes.length h1') (.slice E2 G.sites.length h2') (.int .i64 G.edges) (.slice E4 G.outer.length h4') (.slice E5 G.inner.length h5')).here
        have hbel := sets6_below HB13.out hwβ (.int .i64 G.roots) (.slice E1 G.nodes.length h1') (.slice E2 G.sites.length h2') (.int .i64 G.edges) (.slice E4 G.outer.length h4') (.slice E5 G.inner.length h5')
        unfold sets6 at hbig hbel
        exact bodyPost_ret (v := .tuple #[.agg #[.int .i64 G.roots, .slice E1 G.nodes.length h1', .slice E2 G.sites.length h2', .int .i64 G.edges, .slice E4 G.outer.length h4', .slice E5 G.inner.length h5'], .bool (bigB cs (cwC a b))]) (by simp [results, Try.results68, go_sem, z0, z1, z2, z3, z4, z5]) rfl ⟨_, rfl, by rw [HGe.out]; exact hbig, hbel⟩
end Go.Proofs.Ytifialdkjnmfoaa.cwi
