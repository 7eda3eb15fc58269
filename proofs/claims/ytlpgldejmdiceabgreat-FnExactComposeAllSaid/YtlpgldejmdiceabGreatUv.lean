/- spec.ComposeBigraphs. -/
import Derived.Test.YtlpgldejmdiceabGreatUt
namespace Go.Proofs.YtlpgldejmdiceabGreat.uv
open kit bg sg opn strs only hb sig isig un over gn nm inn ht gd im pt marks eqs hc hi hw hn rs br bm bw cf lf ib isa lawb lw cl rt ix tg rl ed tp rtg uw nj cg rk nk wk ek tm gv lep mrp mri mrs pl ft co us nd mb sb wb rn rnm ut
open Go.RowKit
set_option linter.unusedVariables false
set_option linter.unusedSimpArgs false

set_option maxRecDepth 20000 in
set_option maxHeartbeats 6400000 in
theorem cmp_any (A : Option Addr) (n c : Nat) (cs : List Ctl) (va : Value) (a : Big) (vb : Value) (b : Big) (w : World) (hC : CtlsAt w w.heap.size A n cs) (hn : n ≤ 1048576) (hs : ∀ c ∈ cs, c.name.size ≤ 1048576) (hva : BigAt w w.heap.size va a) (hSa : BigS a) (hwa : BigW a) (hNa : NilV va) (hvb : BigAt w w.heap.size vb b) (hSb : BigS b) (hwb : BigW b) (hNb : NilV vb) :
    Calls Tryz.prog 22 #[.slice A n c, va, vb] w (BigPost (cpQ cs a b) (cpR cs a b) w) := by
  obtain ⟨A1, n1, c1, A2, n2, c2, A4, n4, c4, A5, n5, c5, rfl, h1, h2, h4, h5⟩ := hva
  obtain ⟨B1, m1, d1, B2, m2, d2, B4, m4, d4, B5, m5, d5, rfl, k1, k2, k4, k5⟩ := hvb
  have hb0 := (Below.refl w.heap.size w).alloc (Nat.le_refl _) (.cells #[.int .i64 a.roots, .slice A1 n1 c1, .slice A2 n2 c2, .int .i64 a.edges, .slice A4 n4 c4, .slice A5 n5 c5] 31)
  have HBa0 : BoxAt (w.alloc (.cells #[.int .i64 a.roots, .slice A1 n1 c1, .slice A2 n2 c2, .int .i64 a.edges, .slice A4 n4 c4, .slice A5 n5 c5] 31)) w.heap.size 31 (.int .i64 a.roots) (.slice A1 n1 c1) (.slice A2 n2 c2) (.int .i64 a.edges) (.slice A4 n4 c4) (.slice A5 n5 c5) := six_new w _ _ _ _ _ _ _
  obtain ⟨U, hU⟩ : ∃ U, w.alloc (.cells #[.int .i64 a.roots, .slice A1 n1 c1, .slice A2 n2 c2, .int .i64 a.edges, .slice A4 n4 c4, .slice A5 n5 c5] 31) = U := ⟨_, rfl⟩
  have hUz : U.heap.size = w.heap.size + 1 := by rw [← hU]; simp
  rw [hU] at HBa0 hb0
  have hb1 := (Below.refl U.heap.size U).alloc (Nat.le_refl _) (.cells #[.int .i64 b.roots, .slice B1 m1 d1, .slice B2 m2 d2, .int .i64 b.edges, .slice B4 m4 d4, .slice B5 m5 d5] 31)
  have HBb0 : BoxAt (U.alloc (.cells #[.int .i64 b.roots, .slice B1 m1 d1, .slice B2 m2 d2, .int .i64 b.edges, .slice B4 m4 d4, .slice B5 m5 d5] 31)) U.heap.size 31 (.int .i64 b.roots) (.slice B1 m1 d1) (.slice B2 m2 d2) (.int .i64 b.edges) (.slice B4 m4 d4) (.slice B5 m5 d5) := six_new U _ _ _ _ _ _ _
  obtain ⟨W, hW⟩ : ∃ W, U.alloc (.cells #[.int .i64 b.roots, .slice B1 m1 d1, .slice B2 m2 d2, .int .i64 b.edges, .slice B4 m4 d4, .slice B5 m5 d5] 31) = W := ⟨_, rfl⟩
  have hWz : W.heap.size = w.heap.size + 2 := by rw [← hW]; simp; omega
  rw [hW] at HBb0 hb1
  rw [hUz] at HBb0
  have hb2 := (Below.refl W.heap.size W).alloc (Nat.le_refl _) (.cells #[.int .i64 0, .slice none 0 0, .slice none 0 0, .int .i64 0, .slice none 0 0, .slice none 0 0] 31)
  have HBr0 : BoxAt (W.alloc (.cells #[.int .i64 0, .slice none 0 0, .slice none 0 0, .int .i64 0, .slice none 0 0, .slice none 0 0] 31)) W.heap.size 31 (.int .i64 0) (.slice none 0 0) (.slice none 0 0) (.int .i64 0) (.slice none 0 0) (.slice none 0 0) := six_new W _ _ _ _ _ _ _
  obtain ⟨X, hX⟩ : ∃ X, W.alloc (.cells #[.int .i64 0, .slice none 0 0, .slice none 0 0, .int .i64 0, .slice none 0 0, .slice none 0 0] 31) = X := ⟨_, rfl⟩
  have hXz : X.heap.size = w.heap.size + 3 := by rw [← hX]; simp; omega
  rw [hX] at HBr0 hb2
  rw [hWz] at HBr0
  have HUq := Lib.hid hU
  have HWq := Lib.hid hW
  have HXq := Lib.hid hX
  have HB0 := Lib.hid (hb0.trans ((hb1.trans (hb2.mono hb1.size)).mono hb0.size))
  have HBa := Lib.hid ((HBa0.on hb1).on hb2)
  have HBb := Lib.hid (HBb0.on hb2)
  have HBr := Lib.hid HBr0
  have HXz := Lib.hid hXz
  have hVa := Lib.hid (fun (Y : World) (hY : Below w.heap.size w Y) => (BigAt.wide (BigAt.below ⟨_, _, _, _, _, _, _, _, _, _, _, _, rfl, h1, h2, h4, h5⟩ hY) hY.size : BigAt Y Y.heap.size (.agg #[.int .i64 a.roots, .slice A1 n1 c1, .slice A2 n2 c2, .int .i64 a.edges, .slice A4 n4 c4, .slice A5 n5 c5]) a))
  have hVb := Lib.hid (fun (Y : World) (hY : Below w.heap.size w Y) => (BigAt.wide (BigAt.below ⟨_, _, _, _, _, _, _, _, _, _, _, _, rfl, k1, k2, k4, k5⟩ hY) hY.size : BigAt Y Y.heap.size (.agg #[.int .i64 b.roots, .slice B1 m1 d1, .slice B2 m2 d2, .int .i64 b.edges, .slice B4 m4 d4, .slice B5 m5 d5]) b))
  clear hU hW hX hb0 hb1 hb2 HBa0 HBb0 HBr0 hUz hWz hXz
  have HGa := Lib.hid (fun (Y : World) (hY : Below w.heap.size w Y) => l2Good_any A n c cs (.agg #[.int .i64 a.roots, .slice A1 n1 c1, .slice A2 n2 c2, .int .i64 a.edges, .slice A4 n4 c4, .slice A5 n5 c5]) a Y ((hC.below hY).wide hY.size) (hVa.out Y hY) hn hs hSa hwa)
  have HGb := Lib.hid (fun (Y : World) (hY : Below w.heap.size w Y) => l2Good_any A n c cs (.agg #[.int .i64 b.roots, .slice B1 m1 d1, .slice B2 m2 d2, .int .i64 b.edges, .slice B4 m4 d4, .slice B5 m5 d5]) b Y ((hC.below hY).wide hY.size) (hVb.out Y hY) hn hs hSb hwb)
  have q5 : n5 ≤ 1048576 := by have := hSa.2.2.2.2.2.1; rw [h5.1] at this; exact this
  have q4 : m4 ≤ 1048576 := by have := hSb.2.2.2.1; rw [k4.strlen] at this; exact this
  have q2 : n2 ≤ 1048576 := by have := hSa.2.2.1; rw [h2.len] at this; exact this
  have HF := Lib.hid (fun (Y : World) (hY : Below w.heap.size w Y) => l4Fits_any A1 A2 A4 A5 B1 B2 B4 B5 n1 n2 n4 n5 c1 c2 c4 c5 m1 m2 m4 m5 d1 d2 d4 d5 a b w Y h2.len h5 k4 hY q2 q5 q4)
  obtain ⟨x0, x1, x2, x3, x4, x5⟩ := HBa.out.get
  obtain ⟨y0, y1, y2, y3, y4, y5⟩ := HBb.out.get
  cases hga : bigB cs a with
  | false =>
    rw [hga] at HGa
    have HR := Lib.hid (cp_no (cs := cs) (a := a) (b := b) (by unfold cpP; rw [hga]; rfl))
    rw [HR.out.1, HR.out.2]
    clear hga hs hC
    go_enter Tryz.func22, Tryz.ntmps22
    go_wp2_with fail
    rw [HUq.out, HWq.out, HXq.out]
    go_wp2_with fail
    refine (HGa.out X HB0.out).mono ?_
    rintro e w1 ⟨rfl, hb⟩
    have hb1 := HB0.out.trans (hb.mono HB0.out.size)
    have HBr1 := Lib.hid (HBr.out.on hb)
    have HBa1 := Lib.hid (HBa.out.on hb)
    have HBb1 := Lib.hid (HBb.out.on hb)
    clear hb x0 x1 x2 x3 x4 x5 y0 y1 y2 y3 y4 y5
    obtain ⟨z0, z1, z2, z3, z4, z5⟩ := HBr1.out.get
    have f0 := World.rowIs.frozen HBr1.out 0
    have f1 := World.rowIs.frozen HBr1.out 1
    have f2 := World.rowIs.frozen HBr1.out 2
    have f3 := World.rowIs.frozen HBr1.out 3
    have f4 := World.rowIs.frozen HBr1.out 4
    have f5 := World.rowIs.frozen HBr1.out 5
    go_wp2_with fail
    refine bodyPost_ret (v := .tuple #[.agg #[.int .i64 0, .slice none 0 0, .slice none 0 0, .int .i64 0, .slice none 0 0, .slice none 0 0], .bool false]) (by simp [results, Tryz.results22, go_sem, z0, z1, z2, z3, z4, z5]) rfl ⟨_, rfl, BigR.zero, sets6_below hb1 (by omega) _ _ _ _ _ _⟩
  | true =>
    rw [hga] at HGa
    cases hgb : bigB cs b with
    | false =>
      rw [hgb] at HGb
      have HR := Lib.hid (cp_no (cs := cs) (a := a) (b := b) (by unfold cpP; rw [hga, hgb]; rfl))
      rw [HR.out.1, HR.out.2]
      clear hga hgb hs hC
      go_enter Tryz.func22, Tryz.ntmps22
      go_wp2_with fail
      rw [HUq.out, HWq.out, HXq.out]
      go_wp2_with fail
      refine (HGa.out X HB0.out).mono ?_
      rintro e w1 ⟨rfl, hb⟩
      have hb1 := HB0.out.trans (hb.mono HB0.out.size)
      have HBr1 := Lib.hid (HBr.out.on hb)
      have HBa1 := Lib.hid (HBa.out.on hb)
      have HBb1 := Lib.hid (HBb.out.on hb)
      clear hb x0 x1 x2 x3 x4 x5 y0 y1 y2 y3 y4 y5
      obtain ⟨y0, y1, y2, y3, y4, y5⟩ := HBb1.out.get
      go_wp2_with fail
      refine (HGb.out w1 hb1).mono ?_
      rintro e w2 ⟨rfl, hb⟩
      have hb2 := hb1.trans (hb.mono hb1.size)
      have HBr2 := Lib.hid (HBr1.out.on hb)
      have HBa2 := Lib.hid (HBa1.out.on hb)
      have HBb2 := Lib.hid (HBb1.out.on hb)
      clear hb y0 y1 y2 y3 y4 y5 hb1
      obtain ⟨z0, z1, z2, z3, z4, z5⟩ := HBr2.out.get
      have f0 := World.rowIs.frozen HBr2.out 0
      have f1 := World.rowIs.frozen HBr2.out 1
      have f2 := World.rowIs.frozen HBr2.out 2
      have f3 := World.rowIs.frozen HBr2.out 3
      have f4 := World.rowIs.frozen HBr2.out 4
      have f5 := World.rowIs.frozen HBr2.out 5
      go_wp2_with fail
      refine bodyPost_ret (v := .tuple #[.agg #[.int .i64 0, .slice none 0 0, .slice none 0 0, .int .i64 0, .slice none 0 0, .slice none 0 0], .bool false]) (by simp [results, Tryz.results22, go_sem, z0, z1, z2, z3, z4, z5]) rfl ⟨_, rfl, BigR.zero, sets6_below hb2 (by omega) _ _ _ _ _ _⟩
    | true =>
      rw [hgb] at HGb
      cases hf : fitB a b with
      | false =>
        rw [hf] at HF
        have HR := Lib.hid (cp_no (cs := cs) (a := a) (b := b) (by unfold cpP; rw [hga, hgb, hf]; rfl))
        rw [HR.out.1, HR.out.2]
        clear hga hgb hf hs hC
        go_enter Tryz.func22, Tryz.ntmps22
        go_wp2_with fail
        rw [HUq.out, HWq.out, HXq.out]
        go_wp2_with fail
        refine (HGa.out X HB0.out).mono ?_
        rintro e w1 ⟨rfl, hb⟩
        have hb1 := HB0.out.trans (hb.mono HB0.out.size)
        have HBr1 := Lib.hid (HBr.out.on hb)
        have HBa1 := Lib.hid (HBa.out.on hb)
        have HBb1 := Lib.hid (HBb.out.on hb)
        clear hb x0 x1 x2 x3 x4 x5 y0 y1 y2 y3 y4 y5
        obtain ⟨y0, y1, y2, y3, y4, y5⟩ := HBb1.out.get
        go_wp2_with fail
        refine (HGb.out w1 hb1).mono ?_
        rintro e w2 ⟨rfl, hb⟩
        have hb2 := hb1.trans (hb.mono hb1.size)
        have HBr2 := Lib.hid (HBr1.out.on hb)
        have HBa2 := Lib.hid (HBa1.out.on hb)
        have HBb2 := Lib.hid (HBb1.out.on hb)
        clear hb y0 y1 y2 y3 y4 y5 hb1
        obtain ⟨x0, x1, x2, x3, x4, x5⟩ := HBa2.out.get
        obtain ⟨y0, y1, y2, y3, y4, y5⟩ := HBb2.out.get
        go_wp2_with fail
        refine (HF.out w2 hb2).mono ?_
        rintro e w3 ⟨rfl, hb⟩
        have hb3 := hb2.trans (hb.mono hb2.size)
        have HBr3 := Lib.hid (HBr2.out.on hb)
        have HBa3 := Lib.hid (HBa2.out.on hb)
        have HBb3 := Lib.hid (HBb2.out.on hb)
        clear hb x0 x1 x2 x3 x4 x5 y0 y1 y2 y3 y4 y5 hb2
        obtain ⟨z0, z1, z2, z3, z4, z5⟩ := HBr3.out.get
        have f0 := World.rowIs.frozen HBr3.out 0
        have f1 := World.rowIs.frozen HBr3.out 1
        have f2 := World.rowIs.frozen HBr3.out 2
        have f3 := World.rowIs.frozen HBr3.out 3
        have f4 := World.rowIs.frozen HBr3.out 4
        have f5 := World.rowIs.frozen HBr3.out 5
        go_wp2_with fail
        refine bodyPost_ret (v := .tuple #[.agg #[.int .i64 0, .slice none 0 0, .slice none 0 0, .int .i64 0, .slice none 0 0, .slice none 0 0], .bool false]) (by simp [results, Tryz.results22, go_sem, z0, z1, z2, z3, z4, z5]) rfl ⟨_, rfl, BigR.zero, sets6_below hb3 (by omega) _ _ _ _ _ _⟩
      | true =>
        rw [hf] at HF
        have HR := Lib.hid (cp_yes (cs := cs) (a := a) (b := b) (by unfold cpP; rw [hga, hgb, hf]; rfl))
        have hTa := cp_tame hga hgb hf hSa hSb
        have HCd := Lib.hid (fun (Y : World) (hY : Below w.heap.size w Y) => aft_any cs (.agg #[.int .i64 a.roots, .slice A1 n1 c1, .slice A2 n2 c2, .int .i64 a.edges, .slice A4 n4 c4, .slice A5 n5 c5]) a (.agg #[.int .i64 b.roots, .slice B1 m1 d1, .slice B2 m2 d2, .int .i64 b.edges, .slice B4 m4 d4, .slice B5 m5 d5]) b Y (hVa.out Y hY) hSa hNa hga (hVb.out Y hY) hSb hNb hgb hf)
        have HGv := Lib.hid (fun (v2 : Value) (Y : World) (hY : Below w.heap.size w Y) (hr : BigR Y w.heap.size Y.heap.size v2 (cpB a b)) => give_any A n c cs v2 (cpB a b) w Y hC hY hn hs hr hTa.S hTa.W)
        obtain ⟨Mb, hMb⟩ : ∃ Mb, cpB a b = Mb := ⟨_, rfl⟩
        rw [hMb] at HCd HGv HR
        obtain ⟨Lb, hLb⟩ : ∃ Lb, giveR cs Mb = Lb := ⟨_, rfl⟩
        obtain ⟨q4', hq4⟩ : ∃ q4, bigB cs Mb = q4 := ⟨_, rfl⟩
        rw [HR.out.1, HR.out.2, hLb, hq4]
        rw [hLb, hq4] at HGv
        clear hLb hq4 hMb hTa hf hga hgb hSa hwa hNa hSb hwb hNb hC hn hs HR h1 h2 h4 h5 k1 k2 k4 k5 hVa hVb
        go_enter Tryz.func22, Tryz.ntmps22
        go_wp2_with fail
        rw [HUq.out, HWq.out, HXq.out]
        go_wp2_with fail
        refine (HGa.out X HB0.out).mono ?_
        rintro e w1 ⟨rfl, hb⟩
        have hb1 := HB0.out.trans (hb.mono HB0.out.size)
        have HBr1 := Lib.hid (HBr.out.on hb)
        have HBa1 := Lib.hid (HBa.out.on hb)
        have HBb1 := Lib.hid (HBb.out.on hb)
        clear hb x0 x1 x2 x3 x4 x5 y0 y1 y2 y3 y4 y5
        obtain ⟨y0, y1, y2, y3, y4, y5⟩ := HBb1.out.get
        go_wp2_with fail
        refine (HGb.out w1 hb1).mono ?_
        rintro e w2 ⟨rfl, hb⟩
        have hb2 := hb1.trans (hb.mono hb1.size)
        have HBr2 := Lib.hid (HBr1.out.on hb)
        have HBa2 := Lib.hid (HBa1.out.on hb)
        have HBb2 := Lib.hid (HBb1.out.on hb)
        clear hb y0 y1 y2 y3 y4 y5 hb1
        obtain ⟨x0, x1, x2, x3, x4, x5⟩ := HBa2.out.get
        obtain ⟨y0, y1, y2, y3, y4, y5⟩ := HBb2.out.get
        go_wp2_with fail
        refine (HF.out w2 hb2).mono ?_
        rintro e w3 ⟨rfl, hb⟩
        have hb3 := hb2.trans (hb.mono hb2.size)
        have HBr3 := Lib.hid (HBr2.out.on hb)
        have HBa3 := Lib.hid (HBa2.out.on hb)
        have HBb3 := Lib.hid (HBb2.out.on hb)
        clear hb x0 x1 x2 x3 x4 x5 y0 y1 y2 y3 y4 y5 hb2
        obtain ⟨x0, x1, x2, x3, x4, x5⟩ := HBa3.out.get
        obtain ⟨y0, y1, y2, y3, y4, y5⟩ := HBb3.out.get
        have C2 := HCd.out w3 hb3
        go_wp2_with fail
        refine C2.mono ?_
        rintro e w4 ⟨v4, rfl, hr4, hb⟩
        have HB4 := Lib.hid (hb3.trans (hb.mono hb3.size))
        have HBr4 := Lib.hid (HBr3.out.on hb)
        have C3 := HGv.out v4 w4 HB4.out (hr4.wide hb3.size (Nat.le_refl _))
        clear hr4 hb x0 x1 x2 x3 x4 x5 y0 y1 y2 y3 y4 y5 C2
        go_wp2_with fail
        refine C3.mono ?_
        rintro e w5 ⟨v5, rfl, hr5, hb⟩
        obtain ⟨D1, g1, D2, g2, D4, g4, D5, g5, rfl⟩ := hr5.shape
        have HB5 := Lib.hid (HB4.out.trans (hb.mono HB4.out.size))
        have HBr5 := Lib.hid (HBr4.out.on hb)
        have HR5 := Lib.hid hr5
        clear hr5 hb C3
        obtain ⟨z0, z1, z2, z3, z4, z5⟩ := HBr5.out.get
        have f0 := World.rowIs.frozen HBr5.out 0
        have f1 := World.rowIs.frozen HBr5.out 1
        have f2 := World.rowIs.frozen HBr5.out 2
        have f3 := World.rowIs.frozen HBr5.out 3
        have f4 := World.rowIs.frozen HBr5.out 4
        have f5 := World.rowIs.frozen HBr5.out 5
        go_wp2_with fail
        have hbig := (sets6_big HBr5.out HR5.out (.int .i64 Lb.roots) (.slice D1 Lb.nodes.length g1) (.slice D2 Lb.sites.length g2) (.int .i64 Lb.edges) (.slice D4 Lb.outer.length g4) (.slice D5 Lb.inner.length g5)).here
        have hbel := sets6_below HB5.out (Nat.le_add_right w.heap.size 2) (.int .i64 Lb.roots) (.slice D1 Lb.nodes.length g1) (.slice D2 Lb.sites.length g2) (.int .i64 Lb.edges) (.slice D4 Lb.outer.length g4) (.slice D5 Lb.inner.length g5)
        unfold sets6 at hbig hbel
        refine bodyPost_ret (v := .tuple #[.agg #[.int .i64 Lb.roots, .slice D1 Lb.nodes.length g1, .slice D2 Lb.sites.length g2, .int .i64 Lb.edges, .slice D4 Lb.outer.length g4, .slice D5 Lb.inner.length g5], .bool q4']) (by simp [results, Tryz.results22, go_sem, z0, z1, z2, z3, z4, z5]) rfl ⟨_, rfl, hbig, hbel⟩
end Go.Proofs.YtlpgldejmdiceabGreat.uv
