/- impl.AddName. -/
import Derived.Test.YtfjgapkjpmkplaaGreatJp
import Derived.Test.YtfjgapkjpmkplaaGreatAd
namespace Go.Proofs.YtfjgapkjpmkplaaGreat.adi
open kit bg sg opn strs only hb sig isig un over gn nm inn ht gd im pt marks eqs hc hi hw hn rs br bm bw cf lf ib isa lawb lw cl rt ix tg rl ed tp rtg uw nj cg rk nk wk ek tm gv lep mrp mri mrs pl ft co sf sd sh si pj jx jp mg nw ad sb wb
open Go.RowKit
set_option linter.unusedVariables false
set_option linter.unusedSimpArgs false
theorem rowR_cap {w : World} {lo hi sz n c : Nat} {t : TypeId} {A : Option Addr} {M : Nat → Value} (h : RowR w lo hi t sz A n c M) : n ≤ c := by
  rcases h with ⟨-, h1, h2⟩ | ⟨g, f, -, -, -, h, -⟩
  · omega
  · exact h
theorem capO_big {w : World} {lo hi : Nat} {v : Value} {b : Big} (h : BigR w lo hi v b) : CapO v := by
  obtain ⟨P, rfl, hL⟩ := laid_of h
  exact ⟨_, _, _, _, _, _, _, _, _, _, _, _, _, _, rfl, rowR_cap hL.2.2.2.1⟩
theorem nil_big {w : World} {lo hi : Nat} {v : Value} {b : Big} (h : BigR w lo hi v b) : NilV v := by
  obtain ⟨P, rfl, hL⟩ := laid_of h
  exact laid_nil hL
theorem nn_tame {s : ByteArray} (hs : s.size ≤ 1048576) : Tame (nnB s) :=
  { r := by show -1000 ≤ (0 : Int) ∧ (0 : Int) ≤ 1000; omega
    e := by show -1000 ≤ (0 : Int) ∧ (0 : Int) ≤ 1000; omega
    n := by show 0 ≤ 1000; omega
    nd := fun x hx => by cases hx
    s := by show 0 ≤ 1000; omega
    st := fun x hx => by cases hx
    o := by show 1 ≤ 1000; omega
    on := fun u hu => by rw [List.mem_singleton.1 (show u ∈ [s] from hu)]; exact hs
    i := by show 0 ≤ 1000; omega
    iw := fun x hx => by cases hx }
set_option maxRecDepth 20000 in
set_option maxHeartbeats 6400000 in
theorem iAd_any (A : Option Addr) (n c : Nat) (cs : List Ctl) (v : Value) (b : Big) (s : ByteArray) (w : World) (hC : CtlsAt w w.heap.size A n cs) (hn : n ≤ 1048576) (hs : ∀ c ∈ cs, c.name.size ≤ 1048576) (hv : BigAt w w.heap.size v b) (hS : BigS b) (hw : BigW b) (hN : NilV v) (hcap : CapO v) (hfs : s.size ≤ 1048576) :
    Calls Tryz.prog 51 #[.slice A n c, v, .string s] w (BigPost (adQ cs b s) (adR cs b s) w) := by
  have hNb := hN
  obtain ⟨A1, n1, c1, A2, n2, c2, A4, n4, c4, A5, n5, c5, rfl, h1, h2, h4, h5⟩ := hv
  have hnil := hN.get
  have hbx := (Below.refl w.heap.size w).alloc (Nat.le_refl _) (.cells #[.int .i64 b.roots, .slice A1 n1 c1, .slice A2 n2 c2, .int .i64 b.edges, .slice A4 n4 c4, .slice A5 n5 c5] 36)
  have HBoxI : Hid (BoxAt (w.alloc (.cells #[.int .i64 b.roots, .slice A1 n1 c1, .slice A2 n2 c2, .int .i64 b.edges, .slice A4 n4 c4, .slice A5 n5 c5] 36)) w.heap.size 36 (.int .i64 b.roots) (.slice A1 n1 c1) (.slice A2 n2 c2) (.int .i64 b.edges) (.slice A4 n4 c4) (.slice A5 n5 c5)) := Lib.hid (six_new w _ _ _ _ _ _ _)
  obtain ⟨W0, hW0⟩ : ∃ W, w.alloc (.cells #[.int .i64 b.roots, .slice A1 n1 c1, .slice A2 n2 c2, .int .i64 b.edges, .slice A4 n4 c4, .slice A5 n5 c5] 36) = W := ⟨_, rfl⟩
  have hWz0 : W0.heap.size = w.heap.size + 1 := by rw [← hW0]; simp
  rw [hW0] at hbx HBoxI
  have hb0 := (Below.refl W0.heap.size W0).alloc (Nat.le_refl _) (.cells #[.int .i64 0, .slice none 0 0, .slice none 0 0, .int .i64 0, .slice none 0 0, .slice none 0 0] 36)
  have HBx0 : Hid (BoxAt (W0.alloc (.cells #[.int .i64 0, .slice none 0 0, .slice none 0 0, .int .i64 0, .slice none 0 0, .slice none 0 0] 36)) W0.heap.size 36 (.int .i64 0) (.slice none 0 0) (.slice none 0 0) (.int .i64 0) (.slice none 0 0) (.slice none 0 0)) := Lib.hid (six_new W0 _ _ _ _ _ _ _)
  have HBox := Lib.hid (HBoxI.out.on hb0)
  obtain ⟨W, hW⟩ : ∃ W, W0.alloc (.cells #[.int .i64 0, .slice none 0 0, .slice none 0 0, .int .i64 0, .slice none 0 0, .slice none 0 0] 36) = W := ⟨_, rfl⟩
  have hWz : W.heap.size = w.heap.size + 1 + 1 := by rw [← hW]; simp; exact hWz0
  rw [hW] at hb0 HBx0 HBox
  rw [hWz0] at HBx0
  have HWq0 := Lib.hid hW0
  have HWq := Lib.hid hW
  have HB0 := Lib.hid (hbx.trans (hb0.mono hbx.size))
  have HWz := Lib.hid hWz
  have hVW : BigAt W W.heap.size (.agg #[.int .i64 b.roots, .slice A1 n1 c1, .slice A2 n2 c2, .int .i64 b.edges, .slice A4 n4 c4, .slice A5 n5 c5]) b := BigAt.wide (BigAt.below ⟨_, _, _, _, _, _, _, _, _, _, _, _, rfl, h1, h2, h4, h5⟩ HB0.out) HB0.out.size
  clear hW0 hW hb0 hWz hWz0 hbx HBoxI hN
  have hVa := Lib.hid (fun (Y : World) (hY : Below w.heap.size w Y) => (BigAt.wide (BigAt.below ⟨_, _, _, _, _, _, _, _, _, _, _, _, rfl, h1, h2, h4, h5⟩ hY) hY.size : BigAt Y Y.heap.size (.agg #[.int .i64 b.roots, .slice A1 n1 c1, .slice A2 n2 c2, .int .i64 b.edges, .slice A4 n4 c4, .slice A5 n5 c5]) b))
  have HA0 := Lib.hid ((Below.refl W.heap.size W).alloc (Nat.le_refl _) (.cells #[.string s] 9))
  have CN := Lib.hid (iNw_any (some ⟨W.heap.size, 0, none⟩) 1 1 [s] (W.alloc (.cells #[.string s] 9)) (sr_vals W [.string s] 9) (by omega) (fun u hu => by rw [List.mem_singleton.1 hu]; exact hfs) (fun e => by cases e))
  rw [face_one, HWz.out] at CN
  obtain ⟨x0, x1, x2, x3, x4, x5⟩ := HBox.out.get
  cases hs0 : nameB s with
  | false =>
    have HR := Lib.hid (ad_bad (cs := cs) (b := b) hs0)
    rw [HR.out.1, HR.out.2]
    rw [hs0] at CN
    obtain ⟨Rb, hRb⟩ : ∃ Rb, nwR [s] = Rb := ⟨_, rfl⟩
    rw [hRb] at CN
    clear hs0 hRb
    go_enter Tryz.func51, Tryz.ntmps51
    go_wp2_with fail
    rw [HWq0.out, HWq.out]
    go_wp2_with fail
    refine CN.out.mono ?_
    rintro e w1 ⟨v1, rfl, hr, hb1⟩
    obtain ⟨D1, g1, D2, g2, D4, g4, D5, g5, rfl⟩ := hr.shape
    have hb := HA0.out.trans (hb1.mono HA0.out.size)
    have hbX := (Below.refl w1.heap.size w1).alloc (Nat.le_refl _) (.cells #[.int .i64 Rb.roots, .slice D1 Rb.nodes.length g1, .slice D2 Rb.sites.length g2, .int .i64 Rb.edges, .slice D4 Rb.outer.length g4, .slice D5 Rb.inner.length g5] 36)
    have hbx : BoxAt (w1.alloc (.cells #[.int .i64 Rb.roots, .slice D1 Rb.nodes.length g1, .slice D2 Rb.sites.length g2, .int .i64 Rb.edges, .slice D4 Rb.outer.length g4, .slice D5 Rb.inner.length g5] 36)) w1.heap.size 36 (.int .i64 Rb.roots) (.slice D1 Rb.nodes.length g1) (.slice D2 Rb.sites.length g2) (.int .i64 Rb.edges) (.slice D4 Rb.outer.length g4) (.slice D5 Rb.inner.length g5) := six_new w1 _ _ _ _ _ _ _
    have hb2 := hb.trans (hbX.mono hb.size)
    have HB2 := Lib.hid (HB0.out.trans (hb2.mono HB0.out.size))
    have HBr2 := Lib.hid (HBx0.out.on hb2)
    have HBa2 := Lib.hid (HBox.out.on hb2)
    have HBx2 := Lib.hid hbx
    have HRb2 := Lib.hid (((hr.on hbX).here).wide (lo' := w.heap.size) (Nat.le_trans HB0.out.size HA0.out.size) (Nat.le_refl _))
    have hw1 : w.heap.size ≤ w1.heap.size := (HB0.out.trans (hb.mono HB0.out.size)).size
    clear hb hb1 hbx hr hb2 x0 x1 x2 x3 x4 x5
    obtain ⟨z0, z1, z2, z3, z4, z5⟩ := HBr2.out.get
    have f0 := World.rowIs.frozen HBr2.out 0
    have f1 := World.rowIs.frozen HBr2.out 1
    have f2 := World.rowIs.frozen HBr2.out 2
    have f3 := World.rowIs.frozen HBr2.out 3
    have f4 := World.rowIs.frozen HBr2.out 4
    have f5 := World.rowIs.frozen HBr2.out 5
    go_wp2_with fail
    refine bodyPost_ret (v := .tuple #[.agg #[.int .i64 0, .slice none 0 0, .slice none 0 0, .int .i64 0, .slice none 0 0, .slice none 0 0], .bool false]) (by simp [results, Tryz.results51, go_sem, z0, z1, z2, z3, z4, z5]) rfl ⟨_, rfl, BigR.zero, sets6_below HB2.out (by omega) _ _ _ _ _ _⟩
  | true =>
    have HR := Lib.hid (ad_jx (cs := cs) (b := b) hs0)
    have HJ := Lib.hid (fun (v2 : Value) (Y : World) (hY : Below w.heap.size w Y) (hr : BigR Y w.heap.size Y.heap.size v2 (nnB s)) => iJx_any A n c cs (.agg #[.int .i64 b.roots, .slice A1 n1 c1, .slice A2 n2 c2, .int .i64 b.edges, .slice A4 n4 c4, .slice A5 n5 c5]) b v2 (nnB s) Y ((hC.below hY).wide hY.size) hn hs (hVa.out Y hY) hS hw hNb hcap hr.at (nn_tame hfs).S (nn_tame hfs).W (nil_big hr) (capO_big hr))
    rw [HR.out.1, HR.out.2] at HJ
    rw [nwR_yes (by rw [face_one]; exact hs0), hs0] at CN
    obtain ⟨Rb, hRb⟩ : ∃ Rb, nnB s = Rb := ⟨_, rfl⟩
    rw [show wiring 0 [s] [] = Rb from hRb] at CN
    rw [hRb] at HJ
    obtain ⟨Lb, hLb⟩ : ∃ Lb, adR cs b s = Lb := ⟨_, rfl⟩
    obtain ⟨q4, hq4⟩ : ∃ q4, adQ cs b s = q4 := ⟨_, rfl⟩
    rw [hLb, hq4] at HJ ⊢
    clear hs0 hRb hLb hq4 HR hC hn hs hS hw hNb hcap h1 h2 h4 h5 hnil hVW hVa
    go_enter Tryz.func51, Tryz.ntmps51
    go_wp2_with fail
    rw [HWq0.out, HWq.out]
    go_wp2_with fail
    refine CN.out.mono ?_
    rintro e w1 ⟨v1, rfl, hr, hb1⟩
    obtain ⟨D1, g1, D2, g2, D4, g4, D5, g5, rfl⟩ := hr.shape
    have hb := HA0.out.trans (hb1.mono HA0.out.size)
    have hbX := (Below.refl w1.heap.size w1).alloc (Nat.le_refl _) (.cells #[.int .i64 Rb.roots, .slice D1 Rb.nodes.length g1, .slice D2 Rb.sites.length g2, .int .i64 Rb.edges, .slice D4 Rb.outer.length g4, .slice D5 Rb.inner.length g5] 36)
    have hbx : BoxAt (w1.alloc (.cells #[.int .i64 Rb.roots, .slice D1 Rb.nodes.length g1, .slice D2 Rb.sites.length g2, .int .i64 Rb.edges, .slice D4 Rb.outer.length g4, .slice D5 Rb.inner.length g5] 36)) w1.heap.size 36 (.int .i64 Rb.roots) (.slice D1 Rb.nodes.length g1) (.slice D2 Rb.sites.length g2) (.int .i64 Rb.edges) (.slice D4 Rb.outer.length g4) (.slice D5 Rb.inner.length g5) := six_new w1 _ _ _ _ _ _ _
    have hb2 := hb.trans (hbX.mono hb.size)
    have HB2 := Lib.hid (HB0.out.trans (hb2.mono HB0.out.size))
    have HBr2 := Lib.hid (HBx0.out.on hb2)
    have HBa2 := Lib.hid (HBox.out.on hb2)
    have HBx2 := Lib.hid hbx
    have HRb2 := Lib.hid (((hr.on hbX).here).wide (lo' := w.heap.size) (Nat.le_trans HB0.out.size HA0.out.size) (Nat.le_refl _))
    have hw1 : w.heap.size ≤ w1.heap.size := (HB0.out.trans (hb.mono HB0.out.size)).size
    clear hb hb1 hbx hr hb2 x0 x1 x2 x3 x4 x5
    obtain ⟨x0, x1, x2, x3, x4, x5⟩ := HBa2.out.get
    obtain ⟨t0, t1, t2, t3, t4, t5⟩ := HBx2.out.get
    go_wp2_with fail
    obtain ⟨w2, hq2⟩ : ∃ w2, w1.alloc (.cells #[.int .i64 Rb.roots, .slice D1 Rb.nodes.length g1, .slice D2 Rb.sites.length g2, .int .i64 Rb.edges, .slice D4 Rb.outer.length g4, .slice D5 Rb.inner.length g5] 36) = w2 := ⟨_, rfl⟩
    rw [hq2] at HB2 HBr2 HBa2 HBx2 HRb2 hbX ⊢
    clear hq2 hbX x0 x1 x2 x3 x4 x5 t0 t1 t2 t3 t4 t5
    refine (HJ.out _ w2 HB2.out HRb2.out).mono ?_
    rintro e w3 ⟨v3, rfl, hr3, hb3⟩
    obtain ⟨E1, f1, E2, f2, E4, f4, E5, f5, rfl⟩ := hr3.shape
    have HB3 := Lib.hid (HB2.out.trans (hb3.mono HB2.out.size))
    have HBr3 := Lib.hid (HBr2.out.on hb3)
    have HR3 := Lib.hid (hr3.wide (lo' := w.heap.size) HB2.out.size (Nat.le_refl _))
    clear hr3 hb3
    obtain ⟨z0, z1, z2, z3, z4, z5⟩ := HBr3.out.get
    have g0 := World.rowIs.frozen HBr3.out 0
    have g1 := World.rowIs.frozen HBr3.out 1
    have g2 := World.rowIs.frozen HBr3.out 2
    have g3 := World.rowIs.frozen HBr3.out 3
    have g4 := World.rowIs.frozen HBr3.out 4
    have g5 := World.rowIs.frozen HBr3.out 5
    go_wp2_with fail
    have hbig := (sets6_big HBr3.out HR3.out (.int .i64 Lb.roots) (.slice E1 Lb.nodes.length f1) (.slice E2 Lb.sites.length f2) (.int .i64 Lb.edges) (.slice E4 Lb.outer.length f4) (.slice E5 Lb.inner.length f5)).here
    have hbel := sets6_below HB3.out (Nat.le_succ _) (.int .i64 Lb.roots) (.slice E1 Lb.nodes.length f1) (.slice E2 Lb.sites.length f2) (.int .i64 Lb.edges) (.slice E4 Lb.outer.length f4) (.slice E5 Lb.inner.length f5)
    unfold sets6 at hbig hbel
    refine bodyPost_ret (v := .tuple #[.agg #[.int .i64 Lb.roots, .slice E1 Lb.nodes.length f1, .slice E2 Lb.sites.length f2, .int .i64 Lb.edges, .slice E4 Lb.outer.length f4, .slice E5 Lb.inner.length f5], .bool q4]) (by simp [results, Tryz.results51, go_sem, z0, z1, z2, z3, z4, z5]) rfl ⟨_, rfl, hbig, hbel⟩
end Go.Proofs.YtfjgapkjpmkplaaGreat.adi
