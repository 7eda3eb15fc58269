/- Mpi. -/
import Derived.Test.YtfjgapkjpmkplaaGreatXa
import Derived.Test.YtfjgapkjpmkplaaGreatXb
import Derived.Test.YtfjgapkjpmkplaaGreatXc
import Derived.Test.YtfjgapkjpmkplaaGreatXd
import Derived.Test.YtfjgapkjpmkplaaGreatXe
import Derived.Test.YtfjgapkjpmkplaaGreatXh
import Derived.Test.YtfjgapkjpmkplaaGreatYa012
import Derived.Test.YtfjgapkjpmkplaaGreatYb012
import Derived.Test.YtfjgapkjpmkplaaGreatYc012
import Derived.Test.YtfjgapkjpmkplaaGreatZSi
import Derived.Test.YtfjgapkjpmkplaaGreatYd012
import Derived.Test.YtfjgapkjpmkplaaGreatYc2
import Derived.Test.YtfjgapkjpmkplaaGreatRows
import Derived.WalkKit
import Derived.WalkSpells
import Derived.WalkLawsBesides
import Derived.ProofKit
import Derived.OpenShut
import Derived.ShutString
import Derived.Deep.OwnRows
import Derived.Deep.Draws
import Derived.SliceStrings
import Derived.ChangeOld
import Derived.Below
import Derived.Lib.Hide
import Derived.Lib.ItoaNum
import Derived.Deep.QuietTactic
import Derived.BigQuiet
import Derived.Outline
import Derived.StillTailTactics
import Derived.Deep.RegionWith
import Derived.Deep.RegionHeld3
import Derived.Deep.Slices
import Derived.Deep.Fields
import Derived.ChangeSame
import Derived.Lib.SmallJoins
import Derived.Maps.OwnOps
import Derived.Maps.OwnIn
import Derived.Maps.Views
import Derived.Maps.AppendAt
import Derived.RangeFuncBox
import Derived.RangeFuncLeaves
import Derived.Shelf.Abstract
import Derived.OwnWalkIn
import Derived.TacticsInMore
import Derived.LoopNIn
import Derived.LoopIn
import Derived.RangeFuncWrites
import Derived.RangeFuncNested
import Derived.JoinedOf
import Derived.Deep.AppendLies
import Derived.Deep.RegionLaw
import Derived.Laws.AppendOwnNone
import Derived.Lib.SliceRun
import Derived.Deep.Cut
import Derived.Deep.CutRange
import Derived.OrdersHeld
import Derived.StillTail
import Derived.Handy
import Derived.Lib.Walk
import Derived.Deep.LoopGhost
import Derived.Lib.LazyBuf
import Derived.Lib.AppendZerosOnto
import Derived.Sort.OwnSorted
import Derived.Lib.SlicesCompact
import Derived.Sort.KeysCollected
import Derived.Test.YtfjgapkjpmkplaaGreatSfl
import Derived.Shelf.SlSortCmp.NoneTotal
import Derived.WalkMore
import Derived.ScopeJumps
import Derived.Laws.EntriesVeiled
set_option linter.unusedSimpArgs false
set_option linter.unusedVariables false
namespace Go.Proofs.YtfjgapkjpmkplaaGreat.mpi
open kit bg sg opn strs only hb sig isig un over gn nm inn ht gd im pt marks eqs hc hi hw hn rs br bm bw cf lf ib lw cl rt ix tg rl ed tp rtg uw nj cg rk nk wk ek tm gv lep mrp mri mrs pl ft co sf sd sh si pj mpx mg
open Go.RowKit
set_option linter.unusedVariables false
set_option linter.unusedSimpArgs false
theorem nil_big {w : World} {lo hi : Nat} {v : Value} {b : Big} (h : BigR w lo hi v b) : NilV v := by
  obtain ⟨P, rfl, hL⟩ := laid_of h
  exact laid_nil hL
set_option maxRecDepth 20000 in
set_option maxHeartbeats 6400000 in
theorem iMp_any (A : Option Addr) (n c : Nat) (cs : List Ctl) (va : Value) (a : Big) (vb : Value) (b : Big) (w : World) (hC : CtlsAt w w.heap.size A n cs) (hn : n ≤ 1048576) (hs : ∀ c ∈ cs, c.name.size ≤ 1048576) (hva : BigAt w w.heap.size va a) (hSa : BigS a) (hwa : BigW a) (hNa : NilV va) (hCa : CapO va) (hvb : BigAt w w.heap.size vb b) (hSb : BigS b) (hwb : BigW b) (hNb : NilV vb) (hCb : CapO vb) :
    Calls Tryz.prog 49 #[.slice A n c, va, vb] w (BigPost (ppQ cs a b) (mpR cs a b) w) := by
  obtain ⟨A1, n1, c1, A2, n2, c2, A4, n4, c4, A5, n5, c5, rfl, h1, h2, h4, h5⟩ := hva
  obtain ⟨B1, m1, d1, B2, m2, d2, B4, m4, d4, B5, m5, d5, rfl, k1, k2, k4, k5⟩ := hvb
  have hb0 := (Below.refl w.heap.size w).alloc (Nat.le_refl _) (.cells #[.int .i64 a.roots, .slice A1 n1 c1, .slice A2 n2 c2, .int .i64 a.edges, .slice A4 n4 c4, .slice A5 n5 c5] 36)
  have HBa0 : BoxAt (w.alloc (.cells #[.int .i64 a.roots, .slice A1 n1 c1, .slice A2 n2 c2, .int .i64 a.edges, .slice A4 n4 c4, .slice A5 n5 c5] 36)) w.heap.size 36 (.int .i64 a.roots) (.slice A1 n1 c1) (.slice A2 n2 c2) (.int .i64 a.edges) (.slice A4 n4 c4) (.slice A5 n5 c5) := six_new w _ _ _ _ _ _ _
  obtain ⟨U, hU⟩ : ∃ U, w.alloc (.cells #[.int .i64 a.roots, .slice A1 n1 c1, .slice A2 n2 c2, .int .i64 a.edges, .slice A4 n4 c4, .slice A5 n5 c5] 36) = U := ⟨_, rfl⟩
  have hUz : U.heap.size = w.heap.size + 1 := by rw [← hU]; simp
  rw [hU] at HBa0 hb0
  have hb1 := (Below.refl U.heap.size U).alloc (Nat.le_refl _) (.cells #[.int .i64 b.roots, .slice B1 m1 d1, .slice B2 m2 d2, .int .i64 b.edges, .slice B4 m4 d4, .slice B5 m5 d5] 36)
  have HBb0 : BoxAt (U.alloc (.cells #[.int .i64 b.roots, .slice B1 m1 d1, .slice B2 m2 d2, .int .i64 b.edges, .slice B4 m4 d4, .slice B5 m5 d5] 36)) U.heap.size 36 (.int .i64 b.roots) (.slice B1 m1 d1) (.slice B2 m2 d2) (.int .i64 b.edges) (.slice B4 m4 d4) (.slice B5 m5 d5) := six_new U _ _ _ _ _ _ _
  obtain ⟨W, hW⟩ : ∃ W, U.alloc (.cells #[.int .i64 b.roots, .slice B1 m1 d1, .slice B2 m2 d2, .int .i64 b.edges, .slice B4 m4 d4, .slice B5 m5 d5] 36) = W := ⟨_, rfl⟩
  have hWz : W.heap.size = w.heap.size + 2 := by rw [← hW]; simp; omega
  rw [hW] at HBb0 hb1
  rw [hUz] at HBb0
  have hb2 := (Below.refl W.heap.size W).alloc (Nat.le_refl _) (.cells #[.int .i64 0, .slice none 0 0, .slice none 0 0, .int .i64 0, .slice none 0 0, .slice none 0 0] 36)
  have HBr0 : BoxAt (W.alloc (.cells #[.int .i64 0, .slice none 0 0, .slice none 0 0, .int .i64 0, .slice none 0 0, .slice none 0 0] 36)) W.heap.size 36 (.int .i64 0) (.slice none 0 0) (.slice none 0 0) (.int .i64 0) (.slice none 0 0) (.slice none 0 0) := six_new W _ _ _ _ _ _ _
  obtain ⟨X, hX⟩ : ∃ X, W.alloc (.cells #[.int .i64 0, .slice none 0 0, .slice none 0 0, .int .i64 0, .slice none 0 0, .slice none 0 0] 36) = X := ⟨_, rfl⟩
  have hXz : X.heap.size = w.heap.size + 3 := by rw [← hX]; simp; omega
  rw [hX] at HBr0 hb2
  rw [hWz] at HBr0
  have HUq := Lib.hid hU
  have HWq := Lib.hid hW
  have HXq := Lib.hid hX
  have HB0 := Lib.hid (hb0.trans ((hb1.trans (hb2.mono hb1.size)).mono hb0.size))
  have HBa := Lib.hid ((HBa0.on hb1).on hb2)
  have HBb := Lib.hid (HBb0.on hb2)
  have HBr := Lib.hid HBr0
  have HXz := Lib.hid hXz
  have hVa := Lib.hid (fun (Y : World) (hY : Below w.heap.size w Y) => (BigAt.wide (BigAt.below ⟨_, _, _, _, _, _, _, _, _, _, _, _, rfl, h1, h2, h4, h5⟩ hY) hY.size : BigAt Y Y.heap.size (.agg #[.int .i64 a.roots, .slice A1 n1 c1, .slice A2 n2 c2, .int .i64 a.edges, .slice A4 n4 c4, .slice A5 n5 c5]) a))
  have hVb := Lib.hid (fun (Y : World) (hY : Below w.heap.size w Y) => (BigAt.wide (BigAt.below ⟨_, _, _, _, _, _, _, _, _, _, _, _, rfl, k1, k2, k4, k5⟩ hY) hY.size : BigAt Y Y.heap.size (.agg #[.int .i64 b.roots, .slice B1 m1 d1, .slice B2 m2 d2, .int .i64 b.edges, .slice B4 m4 d4, .slice B5 m5 d5]) b))
  clear hU hW hX hb0 hb1 hb2 HBa0 HBb0 HBr0 hUz hWz hXz
  have CF := Lib.hid (fun (Y : World) (hY : Below w.heap.size w Y) => iPp_any A n c cs (.agg #[.int .i64 a.roots, .slice A1 n1 c1, .slice A2 n2 c2, .int .i64 a.edges, .slice A4 n4 c4, .slice A5 n5 c5]) a (.agg #[.int .i64 b.roots, .slice B1 m1 d1, .slice B2 m2 d2, .int .i64 b.edges, .slice B4 m4 d4, .slice B5 m5 d5]) b Y ((hC.below hY).wide hY.size) hn hs (hVa.out Y hY) hSa hwa hNa hCa (hVb.out Y hY) hSb hwb hNb hCb)
  cases hq : ppQ cs a b with
  | false =>
    have HR := Lib.hid (mp_none hq)
    rw [HR.out]
    rw [hq] at CF
    obtain ⟨Rb, hRb⟩ : ∃ Rb, ppR cs a b = Rb := ⟨_, rfl⟩
    rw [hRb] at CF
    clear hq hRb
    obtain ⟨x0, x1, x2, x3, x4, x5⟩ := HBa.out.get
    obtain ⟨y0, y1, y2, y3, y4, y5⟩ := HBb.out.get
    go_enter Tryz.func49, Tryz.ntmps49
    go_wp2_with fail
    rw [HUq.out, HWq.out, HXq.out]
    go_wp2_with fail
    refine (CF.out X HB0.out).mono ?_
    rintro e w1 ⟨v1, rfl, hr, hb⟩
    obtain ⟨D1, g1, D2, g2, D4, g4, D5, g5, rfl⟩ := hr.shape
    have hbX := (Below.refl w1.heap.size w1).alloc (Nat.le_refl _) (.cells #[.int .i64 Rb.roots, .slice D1 Rb.nodes.length g1, .slice D2 Rb.sites.length g2, .int .i64 Rb.edges, .slice D4 Rb.outer.length g4, .slice D5 Rb.inner.length g5] 36)
    have hbx : BoxAt (w1.alloc (.cells #[.int .i64 Rb.roots, .slice D1 Rb.nodes.length g1, .slice D2 Rb.sites.length g2, .int .i64 Rb.edges, .slice D4 Rb.outer.length g4, .slice D5 Rb.inner.length g5] 36)) w1.heap.size 36 (.int .i64 Rb.roots) (.slice D1 Rb.nodes.length g1) (.slice D2 Rb.sites.length g2) (.int .i64 Rb.edges) (.slice D4 Rb.outer.length g4) (.slice D5 Rb.inner.length g5) := six_new w1 _ _ _ _ _ _ _
    have hb2 := hb.trans (hbX.mono hb.size)
    have HB2 := Lib.hid (HB0.out.trans (hb2.mono HB0.out.size))
    have HBr2 := Lib.hid (HBr.out.on hb2)
    have HBa2 := Lib.hid (HBa.out.on hb2)
    have HBb2 := Lib.hid (HBb.out.on hb2)
    have HBx2 := Lib.hid hbx
    have HRb2 := Lib.hid (((hr.on hbX).here).wide (lo' := w.heap.size) HB0.out.size (Nat.le_refl _))
    have hw1 : w.heap.size ≤ w1.heap.size := (HB0.out.trans (hb.mono HB0.out.size)).size
    clear hb hbx hr hb2 x0 x1 x2 x3 x4 x5 y0 y1 y2 y3 y4 y5
    obtain ⟨z0, z1, z2, z3, z4, z5⟩ := HBr2.out.get
    have f0 := World.rowIs.frozen HBr2.out 0
    have f1 := World.rowIs.frozen HBr2.out 1
    have f2 := World.rowIs.frozen HBr2.out 2
    have f3 := World.rowIs.frozen HBr2.out 3
    have f4 := World.rowIs.frozen HBr2.out 4
    have f5 := World.rowIs.frozen HBr2.out 5
    go_wp2_with fail
    refine bodyPost_ret (v := .tuple #[.agg #[.int .i64 0, .slice none 0 0, .slice none 0 0, .int .i64 0, .slice none 0 0, .slice none 0 0], .bool false]) (by simp [results, Tryz.results49, go_sem, z0, z1, z2, z3, z4, z5]) rfl ⟨_, rfl, BigR.zero, sets6_below HB2.out (by omega) _ _ _ _ _ _⟩
  | true =>
    have hmi := mp_impl hq
    have hSp : BigS (ppR cs a b) ∧ BigW (ppR cs a b) := by
      have hP : ppP cs a b = true := by
        unfold ppQ at hq
        cases hp : ppP cs a b with
        | true => rfl
        | false => rw [hp] at hq; cases hq
      have hbb := pp_both hP
      have ht := sd_tame hbb.1 hbb.2 hSa hSb (innW_perm (wnA a b) (wnB a b))
      have e : ppR cs a b = sdB a b (innW (wnA a b) (wnB a b)) := by
        have hbg := hmi.1
        rw [(pp_yes hP).2] at hbg ⊢
        unfold giveR at hbg ⊢
        split
        · rfl
        · rename_i hn
          rw [if_neg hn] at hbg
          rw [(pp_yes hP).1] at hq
          exact absurd hq hn
      rw [e]
      exact ⟨ht.S, ht.W⟩
    rw [hq] at CF
    have CM := Lib.hid (fun (v2 : Value) (Y : World) (hY : Below w.heap.size w Y) (hr : BigR Y w.heap.size Y.heap.size v2 (ppR cs a b)) => iMr_any A n c cs v2 (ppR cs a b) Y ((hC.below hY).wide hY.size) hn hs hr.at hSp.1 hSp.2 (nil_big hr))
    rw [hmi.1, hmi.2] at CM
    obtain ⟨Rb, hRb⟩ : ∃ Rb, ppR cs a b = Rb := ⟨_, rfl⟩
    rw [hRb] at CF CM
    obtain ⟨Lb, hLb⟩ : ∃ Lb, mpR cs a b = Lb := ⟨_, rfl⟩
    rw [hLb] at CM ⊢
    clear hq hRb hLb hmi hSp hC hn hs hSa hwa hNa hCa hSb hwb hNb hCb h1 h2 h4 h5 k1 k2 k4 k5
    obtain ⟨x0, x1, x2, x3, x4, x5⟩ := HBa.out.get
    obtain ⟨y0, y1, y2, y3, y4, y5⟩ := HBb.out.get
    go_enter Tryz.func49, Tryz.ntmps49
    go_wp2_with fail
    rw [HUq.out, HWq.out, HXq.out]
    go_wp2_with fail
    refine (CF.out X HB0.out).mono ?_
    rintro e w1 ⟨v1, rfl, hr, hb⟩
    obtain ⟨D1, g1, D2, g2, D4, g4, D5, g5, rfl⟩ := hr.shape
    have hbX := (Below.refl w1.heap.size w1).alloc (Nat.le_refl _) (.cells #[.int .i64 Rb.roots, .slice D1 Rb.nodes.length g1, .slice D2 Rb.sites.length g2, .int .i64 Rb.edges, .slice D4 Rb.outer.length g4, .slice D5 Rb.inner.length g5] 36)
    have hbx : BoxAt (w1.alloc (.cells #[.int .i64 Rb.roots, .slice D1 Rb.nodes.length g1, .slice D2 Rb.sites.length g2, .int .i64 Rb.edges, .slice D4 Rb.outer.length g4, .slice D5 Rb.inner.length g5] 36)) w1.heap.size 36 (.int .i64 Rb.roots) (.slice D1 Rb.nodes.length g1) (.slice D2 Rb.sites.length g2) (.int .i64 Rb.edges) (.slice D4 Rb.outer.length g4) (.slice D5 Rb.inner.length g5) := six_new w1 _ _ _ _ _ _ _
    have hb2 := hb.trans (hbX.mono hb.size)
    have HB2 := Lib.hid (HB0.out.trans (hb2.mono HB0.out.size))
    have HBr2 := Lib.hid (HBr.out.on hb2)
    have HBa2 := Lib.hid (HBa.out.on hb2)
    have HBb2 := Lib.hid (HBb.out.on hb2)
    have HBx2 := Lib.hid hbx
    have HRb2 := Lib.hid (((hr.on hbX).here).wide (lo' := w.heap.size) HB0.out.size (Nat.le_refl _))
    have hw1 : w.heap.size ≤ w1.heap.size := (HB0.out.trans (hb.mono HB0.out.size)).size
    clear hb hbx hr hb2 x0 x1 x2 x3 x4 x5 y0 y1 y2 y3 y4 y5
    obtain ⟨t0, t1, t2, t3, t4, t5⟩ := HBx2.out.get
    go_wp2_with fail
    obtain ⟨w2, hq2⟩ : ∃ w2, w1.alloc (.cells #[.int .i64 Rb.roots, .slice D1 Rb.nodes.length g1, .slice D2 Rb.sites.length g2, .int .i64 Rb.edges, .slice D4 Rb.outer.length g4, .slice D5 Rb.inner.length g5] 36) = w2 := ⟨_, rfl⟩
    rw [hq2] at HB2 HBr2 HBx2 HRb2 hbX ⊢
    clear hq2 hbX t0 t1 t2 t3 t4 t5
    refine (CM.out _ w2 HB2.out HRb2.out).mono ?_
    rintro e w3 ⟨v3, rfl, hr3, hb3⟩
    obtain ⟨E1, f1, E2, f2, E4, f4, E5, f5, rfl⟩ := hr3.shape
    have HB3 := Lib.hid (HB2.out.trans (hb3.mono HB2.out.size))
    have HBr3 := Lib.hid (HBr2.out.on hb3)
    have HR3 := Lib.hid (hr3.wide (lo' := w.heap.size) HB2.out.size (Nat.le_refl _))
    clear hr3 hb3
    obtain ⟨z0, z1, z2, z3, z4, z5⟩ := HBr3.out.get
    have u0 := World.rowIs.frozen HBr3.out 0
    have u1 := World.rowIs.frozen HBr3.out 1
    have u2 := World.rowIs.frozen HBr3.out 2
    have u3 := World.rowIs.frozen HBr3.out 3
    have u4 := World.rowIs.frozen HBr3.out 4
    have u5 := World.rowIs.frozen HBr3.out 5
    go_wp2_with fail
    have hbig := (sets6_big HBr3.out HR3.out (.int .i64 Lb.roots) (.slice E1 Lb.nodes.length f1) (.slice E2 Lb.sites.length f2) (.int .i64 Lb.edges) (.slice E4 Lb.outer.length f4) (.slice E5 Lb.inner.length f5)).here
    have hbel := sets6_below HB3.out (Nat.le_add_right w.heap.size 2) (.int .i64 Lb.roots) (.slice E1 Lb.nodes.length f1) (.slice E2 Lb.sites.length f2) (.int .i64 Lb.edges) (.slice E4 Lb.outer.length f4) (.slice E5 Lb.inner.length f5)
    unfold sets6 at hbig hbel
    refine bodyPost_ret (v := .tuple #[.agg #[.int .i64 Lb.roots, .slice E1 Lb.nodes.length f1, .slice E2 Lb.sites.length f2, .int .i64 Lb.edges, .slice E4 Lb.outer.length f4, .slice E5 Lb.inner.length f5], .bool true]) (by simp [results, Tryz.results49, go_sem, z0, z1, z2, z3, z4, z5]) rfl ⟨_, rfl, hbig, hbel⟩
end Go.Proofs.YtfjgapkjpmkplaaGreat.mpi
