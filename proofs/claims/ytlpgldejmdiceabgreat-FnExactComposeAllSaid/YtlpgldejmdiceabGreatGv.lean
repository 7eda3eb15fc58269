/- spec.l2Give and impl.ifBigraph: a Bigraph that a call has made is given back if it is valid. -/
import Derived.Test.YtlpgldejmdiceabGreatQd
namespace Go.Proofs.YtlpgldejmdiceabGreat.gv
open kit bg sg opn strs only hb sig isig un over gn nm inn ht gd im pt marks eqs hc hi hw hn rs br bm bw cf lf ib isa lawb lw cl pl mb sb wb
open Go.RowKit
set_option linter.unusedVariables false
noncomputable def giveR (cs : List Ctl) (b : Big) : Big := if bigB cs b = true then b else zeroBig
theorem give_len {cs : List Ctl} {b : Big} (h : bigB cs b = true → bigMk b ≤ 1048576) : bigMk (giveR cs b) ≤ 1048576 := by
  unfold giveR
  split
  · next hq => exact h hq
  · exact zero_len

set_option maxRecDepth 20000 in
set_option maxHeartbeats 3200000 in
theorem give_any (A : Option Addr) (n c : Nat) (cs : List Ctl) (v : Value) (b : Big) (w0 w : World) (hC : CtlsAt w0 w0.heap.size A n cs) (hb0 : Below w0.heap.size w0 w) (hn : n ≤ 1048576) (hs : ∀ c ∈ cs, c.name.size ≤ 1048576) (hR : BigR w w0.heap.size w.heap.size v b) (hS : BigS b) (hw : BigW b) :
    Calls Tryz.prog 54 #[.slice A n c, v] w fun e w' => ∃ v', e = .returned (.tuple #[v', .bool (bigB cs b)]) ∧ BigR w' w0.heap.size w'.heap.size v' (giveR cs b) ∧ Below w.heap.size w w' := by
  obtain ⟨B1, d1, B2, d2, B4, d4, B5, d5, rfl⟩ := hR.shape
  have HRv := Lib.hid hR
  have hb1 := (Below.refl w.heap.size w).alloc (Nat.le_refl _) (.cells #[.int .i64 b.roots, .slice B1 b.nodes.length d1, .slice B2 b.sites.length d2, .int .i64 b.edges, .slice B4 b.outer.length d4, .slice B5 b.inner.length d5] 31)
  have HBox : Hid (BoxAt (w.alloc (.cells #[.int .i64 b.roots, .slice B1 b.nodes.length d1, .slice B2 b.sites.length d2, .int .i64 b.edges, .slice B4 b.outer.length d4, .slice B5 b.inner.length d5] 31)) w.heap.size 31 (.int .i64 b.roots) (.slice B1 b.nodes.length d1) (.slice B2 b.sites.length d2) (.int .i64 b.edges) (.slice B4 b.outer.length d4) (.slice B5 b.inner.length d5)) := Lib.hid (six_new w _ _ _ _ _ _ _)
  obtain ⟨U, hU⟩ : ∃ U, w.alloc (.cells #[.int .i64 b.roots, .slice B1 b.nodes.length d1, .slice B2 b.sites.length d2, .int .i64 b.edges, .slice B4 b.outer.length d4, .slice B5 b.inner.length d5] 31) = U := ⟨_, rfl⟩
  have hUz : U.heap.size = w.heap.size + 1 := by rw [← hU]; simp
  rw [hU] at hb1 HBox
  have hb2 := (Below.refl U.heap.size U).alloc (Nat.le_refl _) (.cells #[.int .i64 0, .slice none 0 0, .slice none 0 0, .int .i64 0, .slice none 0 0, .slice none 0 0] 31)
  have HBx0 : Hid (BoxAt (U.alloc (.cells #[.int .i64 0, .slice none 0 0, .slice none 0 0, .int .i64 0, .slice none 0 0, .slice none 0 0] 31)) U.heap.size 31 (.int .i64 0) (.slice none 0 0) (.slice none 0 0) (.int .i64 0) (.slice none 0 0) (.slice none 0 0)) := Lib.hid (six_new U _ _ _ _ _ _ _)
  have HBox := Lib.hid (HBox.out.on hb2)
  obtain ⟨W, hW⟩ : ∃ W, U.alloc (.cells #[.int .i64 0, .slice none 0 0, .slice none 0 0, .int .i64 0, .slice none 0 0, .slice none 0 0] 31) = W := ⟨_, rfl⟩
  rw [hW] at hb2 HBx0 HBox
  rw [hUz] at HBx0
  have HUq := Lib.hid hU
  have HWq := Lib.hid hW
  have HB0 := Lib.hid (hb1.trans (hb2.mono hb1.size))
  have hbW := hb0.trans (HB0.out.mono hb0.size)
  have HRW := Lib.hid ((HRv.out.on HB0.out).here)
  have C := l2Good_any A n c cs _ b W ((hC.below hbW).wide hbW.size) HRW.out.at hn hs hS hw
  obtain ⟨x0, x1, x2, x3, x4, x5⟩ := HBox.out.get
  have hsz0 := hb0.size
  obtain ⟨q, hq⟩ : ∃ q, bigB cs b = q := ⟨_, rfl⟩
  have HG : Hid (giveR cs b = if q = true then b else zeroBig) := Lib.hid (by unfold giveR; rw [hq])
  rw [hq] at C ⊢
  rw [HG.out]
  clear hq hU hW hb1 hb2 hR hS hw hs hC hbW
  go_enter Tryz.func54, Tryz.ntmps54
  go_wp2_with fail
  rw [HUq.out, HWq.out]
  go_wp2_with fail
  refine C.mono ?_
  rintro e w1 ⟨rfl, hb⟩
  have HB1 := Lib.hid (HB0.out.trans (hb.mono HB0.out.size))
  have HBx1 := Lib.hid (HBx0.out.on hb)
  have HBox1 := Lib.hid (HBox.out.on hb)
  have HR1 := Lib.hid ((HRW.out.on hb).here)
  clear hb C x0 x1 x2 x3 x4 x5
  obtain ⟨z0, z1, z2, z3, z4, z5⟩ := HBx1.out.get
  have f0 := World.rowIs.frozen HBx1.out 0
  have f1 := World.rowIs.frozen HBx1.out 1
  have f2 := World.rowIs.frozen HBx1.out 2
  have f3 := World.rowIs.frozen HBx1.out 3
  have f4 := World.rowIs.frozen HBx1.out 4
  have f5 := World.rowIs.frozen HBx1.out 5
  cases q with
  | false =>
    go_wp2_with fail
    refine bodyPost_ret (v := .tuple #[.agg #[.int .i64 0, .slice none 0 0, .slice none 0 0, .int .i64 0, .slice none 0 0, .slice none 0 0], .bool false]) (by simp [results, Tryz.results54, go_sem, z0, z1, z2, z3, z4, z5]) rfl ⟨_, rfl, BigR.zero, sets6_below HB1.out (Nat.le_succ _) _ _ _ _ _ _⟩
  | true =>
    obtain ⟨x0, x1, x2, x3, x4, x5⟩ := HBox1.out.get
    go_wp2_with fail
    have hbig := (sets6_big HBx1.out HR1.out (.int .i64 b.roots) (.slice B1 b.nodes.length d1) (.slice B2 b.sites.length d2) (.int .i64 b.edges) (.slice B4 b.outer.length d4) (.slice B5 b.inner.length d5)).here
    have hbel := sets6_below HB1.out (Nat.le_succ w.heap.size) (.int .i64 b.roots) (.slice B1 b.nodes.length d1) (.slice B2 b.sites.length d2) (.int .i64 b.edges) (.slice B4 b.outer.length d4) (.slice B5 b.inner.length d5)
    unfold sets6 at hbig hbel
    exact bodyPost_ret (v := .tuple #[.agg #[.int .i64 b.roots, .slice B1 b.nodes.length d1, .slice B2 b.sites.length d2, .int .i64 b.edges, .slice B4 b.outer.length d4, .slice B5 b.inner.length d5], .bool true]) (by simp [results, Tryz.results54, go_sem, z0, z1, z2, z3, z4, z5]) rfl ⟨_, rfl, hbig, hbel⟩

set_option maxRecDepth 20000 in
set_option maxHeartbeats 3200000 in
theorem ifb_any (A : Option Addr) (n c : Nat) (cs : List Ctl) (v : Value) (b : Big) (w0 w : World) (hC : CtlsAt w0 w0.heap.size A n cs) (hb0 : Below w0.heap.size w0 w) (hn : n ≤ 1048576) (hs : ∀ c ∈ cs, c.name.size ≤ 1048576) (hR : BigR w w0.heap.size w.heap.size v b) (hS : BigS b) (hw : BigW b) :
    Calls Tryz.prog 65 #[.slice A n c, v] w fun e w' => ∃ v', e = .returned (.tuple #[v', .bool (bigB cs b)]) ∧ BigR w' w0.heap.size w'.heap.size v' (giveR cs b) ∧ Below w.heap.size w w' := by
  obtain ⟨B1, d1, B2, d2, B4, d4, B5, d5, rfl⟩ := hR.shape
  have HRv := Lib.hid hR
  have hb1 := (Below.refl w.heap.size w).alloc (Nat.le_refl _) (.cells #[.int .i64 b.roots, .slice B1 b.nodes.length d1, .slice B2 b.sites.length d2, .int .i64 b.edges, .slice B4 b.outer.length d4, .slice B5 b.inner.length d5] 31)
  have HBox : Hid (BoxAt (w.alloc (.cells #[.int .i64 b.roots, .slice B1 b.nodes.length d1, .slice B2 b.sites.length d2, .int .i64 b.edges, .slice B4 b.outer.length d4, .slice B5 b.inner.length d5] 31)) w.heap.size 31 (.int .i64 b.roots) (.slice B1 b.nodes.length d1) (.slice B2 b.sites.length d2) (.int .i64 b.edges) (.slice B4 b.outer.length d4) (.slice B5 b.inner.length d5)) := Lib.hid (six_new w _ _ _ _ _ _ _)
  obtain ⟨U, hU⟩ : ∃ U, w.alloc (.cells #[.int .i64 b.roots, .slice B1 b.nodes.length d1, .slice B2 b.sites.length d2, .int .i64 b.edges, .slice B4 b.outer.length d4, .slice B5 b.inner.length d5] 31) = U := ⟨_, rfl⟩
  have hUz : U.heap.size = w.heap.size + 1 := by rw [← hU]; simp
  rw [hU] at hb1 HBox
  have hb2 := (Below.refl U.heap.size U).alloc (Nat.le_refl _) (.cells #[.int .i64 0, .slice none 0 0, .slice none 0 0, .int .i64 0, .slice none 0 0, .slice none 0 0] 31)
  have HBx0 : Hid (BoxAt (U.alloc (.cells #[.int .i64 0, .slice none 0 0, .slice none 0 0, .int .i64 0, .slice none 0 0, .slice none 0 0] 31)) U.heap.size 31 (.int .i64 0) (.slice none 0 0) (.slice none 0 0) (.int .i64 0) (.slice none 0 0) (.slice none 0 0)) := Lib.hid (six_new U _ _ _ _ _ _ _)
  have HBox := Lib.hid (HBox.out.on hb2)
  obtain ⟨W, hW⟩ : ∃ W, U.alloc (.cells #[.int .i64 0, .slice none 0 0, .slice none 0 0, .int .i64 0, .slice none 0 0, .slice none 0 0] 31) = W := ⟨_, rfl⟩
  rw [hW] at hb2 HBx0 HBox
  rw [hUz] at HBx0
  have HUq := Lib.hid hU
  have HWq := Lib.hid hW
  have HB0 := Lib.hid (hb1.trans (hb2.mono hb1.size))
  have hbW := hb0.trans (HB0.out.mono hb0.size)
  have HRW := Lib.hid ((HRv.out.on HB0.out).here)
  have C := isBig_any A n c cs _ b W ((hC.below hbW).wide hbW.size) HRW.out.at hn hs hS hw
  obtain ⟨x0, x1, x2, x3, x4, x5⟩ := HBox.out.get
  have hsz0 := hb0.size
  obtain ⟨q, hq⟩ : ∃ q, bigB cs b = q := ⟨_, rfl⟩
  have HG : Hid (giveR cs b = if q = true then b else zeroBig) := Lib.hid (by unfold giveR; rw [hq])
  rw [hq] at C ⊢
  rw [HG.out]
  clear hq hU hW hb1 hb2 hR hS hw hs hC hbW
  go_enter Tryz.func65, Tryz.ntmps65
  go_wp2_with fail
  rw [HUq.out, HWq.out]
  go_wp2_with fail
  refine C.mono ?_
  rintro e w1 ⟨rfl, hb⟩
  have HB1 := Lib.hid (HB0.out.trans (hb.mono HB0.out.size))
  have HBx1 := Lib.hid (HBx0.out.on hb)
  have HBox1 := Lib.hid (HBox.out.on hb)
  have HR1 := Lib.hid ((HRW.out.on hb).here)
  clear hb C x0 x1 x2 x3 x4 x5
  obtain ⟨z0, z1, z2, z3, z4, z5⟩ := HBx1.out.get
  have f0 := World.rowIs.frozen HBx1.out 0
  have f1 := World.rowIs.frozen HBx1.out 1
  have f2 := World.rowIs.frozen HBx1.out 2
  have f3 := World.rowIs.frozen HBx1.out 3
  have f4 := World.rowIs.frozen HBx1.out 4
  have f5 := World.rowIs.frozen HBx1.out 5
  cases q with
  | false =>
    go_wp2_with fail
    refine bodyPost_ret (v := .tuple #[.agg #[.int .i64 0, .slice none 0 0, .slice none 0 0, .int .i64 0, .slice none 0 0, .slice none 0 0], .bool false]) (by simp [results, Tryz.results65, go_sem, z0, z1, z2, z3, z4, z5]) rfl ⟨_, rfl, BigR.zero, sets6_below HB1.out (Nat.le_succ _) _ _ _ _ _ _⟩
  | true =>
    obtain ⟨x0, x1, x2, x3, x4, x5⟩ := HBox1.out.get
    go_wp2_with fail
    have hbig := (sets6_big HBx1.out HR1.out (.int .i64 b.roots) (.slice B1 b.nodes.length d1) (.slice B2 b.sites.length d2) (.int .i64 b.edges) (.slice B4 b.outer.length d4) (.slice B5 b.inner.length d5)).here
    have hbel := sets6_below HB1.out (Nat.le_succ w.heap.size) (.int .i64 b.roots) (.slice B1 b.nodes.length d1) (.slice B2 b.sites.length d2) (.int .i64 b.edges) (.slice B4 b.outer.length d4) (.slice B5 b.inner.length d5)
    unfold sets6 at hbig hbel
    exact bodyPost_ret (v := .tuple #[.agg #[.int .i64 b.roots, .slice B1 b.nodes.length d1, .slice B2 b.sites.length d2, .int .i64 b.edges, .slice B4 b.outer.length d4, .slice B5 b.inner.length d5], .bool true]) (by simp [results, Tryz.results65, go_sem, z0, z1, z2, z3, z4, z5]) rfl ⟨_, rfl, hbig, hbel⟩
end Go.Proofs.YtlpgldejmdiceabGreat.gv
