/- Nsq Pj Uj. -/
import Derived.Test.YtfjgapkjpmkplaaGreatBa
import Derived.Test.YtfjgapkjpmkplaaGreatBb
import Derived.Test.YtfjgapkjpmkplaaGreatBc
import Derived.Test.YtfjgapkjpmkplaaGreatBd
import Derived.Test.YtfjgapkjpmkplaaGreatKa0
import Derived.Test.YtfjgapkjpmkplaaGreatKc0
import Derived.Test.YtfjgapkjpmkplaaGreatJNsp
import Derived.Test.YtfjgapkjpmkplaaGreatKb0
import Derived.Test.YtfjgapkjpmkplaaGreatJSi
import Derived.Test.YtfjgapkjpmkplaaGreatJUi
import Derived.Test.YtfjgapkjpmkplaaGreatRows
import Derived.WalkKit
import Derived.WalkSpells
import Derived.WalkLawsBesides
import Derived.ProofKit
import Derived.OpenShut
import Derived.ShutString
import Derived.Deep.OwnRows
import Derived.Deep.Draws
import Derived.SliceStrings
import Derived.ChangeOld
import Derived.Below
import Derived.Lib.Hide
import Derived.Lib.ItoaNum
import Derived.Deep.QuietTactic
import Derived.BigQuiet
import Derived.Outline
import Derived.StillTailTactics
import Derived.Deep.RegionWith
import Derived.Deep.RegionHeld3
import Derived.Deep.Slices
import Derived.Deep.Fields
import Derived.ChangeSame
import Derived.Lib.SmallJoins
import Derived.Maps.OwnOps
import Derived.Maps.OwnIn
import Derived.Maps.Views
import Derived.Maps.AppendAt
import Derived.RangeFuncBox
import Derived.RangeFuncLeaves
import Derived.Shelf.Abstract
import Derived.OwnWalkIn
import Derived.TacticsInMore
import Derived.LoopNIn
import Derived.LoopIn
import Derived.RangeFuncWrites
import Derived.RangeFuncNested
import Derived.JoinedOf
import Derived.Deep.AppendLies
import Derived.Deep.RegionLaw
import Derived.Laws.AppendOwnNone
import Derived.Deep.Cut
import Derived.Deep.CutRange
import Derived.Lib.SliceRun
import Derived.Lib.AppendZerosOnto
import Derived.OrdersHeld
import Derived.StillTail
import Derived.Lib.Walk
import Derived.Deep.LoopGhost
import Derived.Handy
import Derived.Lib.LazyBuf
import Derived.Sort.OwnSorted
import Derived.Lib.SlicesCompact
import Derived.Sort.KeysCollected
import Derived.Test.YtfjgapkjpmkplaaGreatSfl
import Derived.Shelf.SlSortCmp.NoneTotal
import Derived.WalkMore
import Derived.ScopeJumps
import Derived.Test.YtfjgapkjpmkplaaGreatSrt
import Derived.Laws.EntriesVeiled
set_option linter.unusedSimpArgs false
set_option linter.unusedVariables false
section
namespace Go.Proofs.YtfjgapkjpmkplaaGreat.nsq
open kit bg sg opn strs only hb sig isig un over gn nm inn ht gd im pt marks eqs hc hi hw hn rs br bm bw cf lf ib lw cl rt ix tg pl mb sb wb ek rn tp wk rl ed mrp mrs nk lep psp rk cc cg uw nj co tm ft gv us nd sf sd nsx
open nsp (nst_any)
open Go.RowKit
set_option linter.unusedVariables false
set_option linter.unusedSimpArgs false
set_option maxRecDepth 20000 in
set_option maxHeartbeats 6400000 in
theorem sNs_any (A : Option Addr) (n c : Nat) (cs : List Ctl) (va : Value) (a : Big) (vb : Value) (b : Big) (w : World) (hC : CtlsAt w w.heap.size A n cs) (hn : n ≤ 1048576) (hs : ∀ c ∈ cs, c.name.size ≤ 1048576) (hva : BigAt w w.heap.size va a) (hSa : BigS a) (hwa : BigW a) (hNa : NilV va) (hvb : BigAt w w.heap.size vb b) (hSb : BigS b) (hwb : BigW b) (hNb : NilV vb) :
    Calls Tryz.prog 52 #[.slice A n c, va, vb] w (BigPost (nsQ cs a b) (nsR cs a b) w) := by
  obtain ⟨A1, n1, c1, A2, n2, c2, A4, n4, c4, A5, n5, c5, rfl, h1, h2, h4, h5⟩ := hva
  obtain ⟨B1, m1, d1, B2, m2, d2, B4, m4, d4, B5, m5, d5, rfl, k1, k2, k4, k5⟩ := hvb
  have hb0 := (Below.refl w.heap.size w).alloc (Nat.le_refl _) (.cells #[.int .i64 a.roots, .slice A1 n1 c1, .slice A2 n2 c2, .int .i64 a.edges, .slice A4 n4 c4, .slice A5 n5 c5] 36)
  have HBa0 : BoxAt (w.alloc (.cells #[.int .i64 a.roots, .slice A1 n1 c1, .slice A2 n2 c2, .int .i64 a.edges, .slice A4 n4 c4, .slice A5 n5 c5] 36)) w.heap.size 36 (.int .i64 a.roots) (.slice A1 n1 c1) (.slice A2 n2 c2) (.int .i64 a.edges) (.slice A4 n4 c4) (.slice A5 n5 c5) := six_new w _ _ _ _ _ _ _
  obtain ⟨U, hU⟩ : ∃ U, w.alloc (.cells #[.int .i64 a.roots, .slice A1 n1 c1, .slice A2 n2 c2, .int .i64 a.edges, .slice A4 n4 c4, .slice A5 n5 c5] 36) = U := ⟨_, rfl⟩
  have hUz : U.heap.size = w.heap.size + 1 := by rw [← hU]; simp
  rw [hU] at HBa0 hb0
  have hb1 := (Below.refl U.heap.size U).alloc (Nat.le_refl _) (.cells #[.int .i64 b.roots, .slice B1 m1 d1, .slice B2 m2 d2, .int .i64 b.edges, .slice B4 m4 d4, .slice B5 m5 d5] 36)
  have HBb0 : BoxAt (U.alloc (.cells #[.int .i64 b.roots, .slice B1 m1 d1, .slice B2 m2 d2, .int .i64 b.edges, .slice B4 m4 d4, .slice B5 m5 d5] 36)) U.heap.size 36 (.int .i64 b.roots) (.slice B1 m1 d1) (.slice B2 m2 d2) (.int .i64 b.edges) (.slice B4 m4 d4) (.slice B5 m5 d5) := six_new U _ _ _ _ _ _ _
  obtain ⟨W, hW⟩ : ∃ W, U.alloc (.cells #[.int .i64 b.roots, .slice B1 m1 d1, .slice B2 m2 d2, .int .i64 b.edges, .slice B4 m4 d4, .slice B5 m5 d5] 36) = W := ⟨_, rfl⟩
  have hWz : W.heap.size = w.heap.size + 2 := by rw [← hW]; simp; omega
  rw [hW] at HBb0 hb1
  rw [hUz] at HBb0
  have hb2 := (Below.refl W.heap.size W).alloc (Nat.le_refl _) (.cells #[.int .i64 0, .slice none 0 0, .slice none 0 0, .int .i64 0, .slice none 0 0, .slice none 0 0] 36)
  have HBr0 : BoxAt (W.alloc (.cells #[.int .i64 0, .slice none 0 0, .slice none 0 0, .int .i64 0, .slice none 0 0, .slice none 0 0] 36)) W.heap.size 36 (.int .i64 0) (.slice none 0 0) (.slice none 0 0) (.int .i64 0) (.slice none 0 0) (.slice none 0 0) := six_new W _ _ _ _ _ _ _
  obtain ⟨X, hX⟩ : ∃ X, W.alloc (.cells #[.int .i64 0, .slice none 0 0, .slice none 0 0, .int .i64 0, .slice none 0 0, .slice none 0 0] 36) = X := ⟨_, rfl⟩
  have hXz : X.heap.size = w.heap.size + 3 := by rw [← hX]; simp; omega
  rw [hX] at HBr0 hb2
  rw [hWz] at HBr0
  have HUq := Lib.hid hU
  have HWq := Lib.hid hW
  have HXq := Lib.hid hX
  have HB0 := Lib.hid (hb0.trans ((hb1.trans (hb2.mono hb1.size)).mono hb0.size))
  have HBa := Lib.hid ((HBa0.on hb1).on hb2)
  have HBb := Lib.hid (HBb0.on hb2)
  have HBr := Lib.hid HBr0
  have HXz := Lib.hid hXz
  have hVa := Lib.hid (fun (Y : World) (hY : Below w.heap.size w Y) => (BigAt.wide (BigAt.below ⟨_, _, _, _, _, _, _, _, _, _, _, _, rfl, h1, h2, h4, h5⟩ hY) hY.size : BigAt Y Y.heap.size (.agg #[.int .i64 a.roots, .slice A1 n1 c1, .slice A2 n2 c2, .int .i64 a.edges, .slice A4 n4 c4, .slice A5 n5 c5]) a))
  have hVb := Lib.hid (fun (Y : World) (hY : Below w.heap.size w Y) => (BigAt.wide (BigAt.below ⟨_, _, _, _, _, _, _, _, _, _, _, _, rfl, k1, k2, k4, k5⟩ hY) hY.size : BigAt Y Y.heap.size (.agg #[.int .i64 b.roots, .slice B1 m1 d1, .slice B2 m2 d2, .int .i64 b.edges, .slice B4 m4 d4, .slice B5 m5 d5]) b))
  clear hU hW hX hb0 hb1 hb2 HBa0 HBb0 HBr0 hUz hWz hXz
  have HGa := Lib.hid (fun (Y : World) (hY : Below w.heap.size w Y) => l2Good_any A n c cs (.agg #[.int .i64 a.roots, .slice A1 n1 c1, .slice A2 n2 c2, .int .i64 a.edges, .slice A4 n4 c4, .slice A5 n5 c5]) a Y ((hC.below hY).wide hY.size) (hVa.out Y hY) hn hs hSa hwa)
  have HGb := Lib.hid (fun (Y : World) (hY : Below w.heap.size w Y) => l2Good_any A n c cs (.agg #[.int .i64 b.roots, .slice B1 m1 d1, .slice B2 m2 d2, .int .i64 b.edges, .slice B4 m4 d4, .slice B5 m5 d5]) b Y ((hC.below hY).wide hY.size) (hVb.out Y hY) hn hs hSb hwb)
  have l2 : a.sites.length = n2 := h2.len
  have l5 : a.inner.length = n5 := h5.1
  obtain ⟨x0, x1, x2, x3, x4, x5⟩ := HBa.out.get
  obtain ⟨y0, y1, y2, y3, y4, y5⟩ := HBb.out.get
  cases hga : bigB cs a with
  | false =>
    rw [hga] at HGa
    have HR := Lib.hid (ns_no (cs := cs) (a := a) (b := b) (by unfold nsP; rw [hga]; rfl))
    rw [HR.out.1, HR.out.2]
    clear hga hs hC
    go_enter Tryz.func52, Tryz.ntmps52
    go_wp2_with fail
    rw [HUq.out, HWq.out, HXq.out]
    go_wp2_with fail
    refine (HGa.out X HB0.out).mono ?_
    rintro e w1 ⟨rfl, hb⟩
    have hb1 := HB0.out.trans (hb.mono HB0.out.size)
    have HBa1 := Lib.hid (HBa.out.on hb)
    have HBb1 := Lib.hid (HBb.out.on hb)
    have HBr1 := Lib.hid (HBr.out.on hb)
    clear hb x0 x1 x2 x3 x4 x5 y0 y1 y2 y3 y4 y5
    obtain ⟨z0, z1, z2, z3, z4, z5⟩ := HBr1.out.get
    have f0 := World.rowIs.frozen HBr1.out 0
    have f1 := World.rowIs.frozen HBr1.out 1
    have f2 := World.rowIs.frozen HBr1.out 2
    have f3 := World.rowIs.frozen HBr1.out 3
    have f4 := World.rowIs.frozen HBr1.out 4
    have f5 := World.rowIs.frozen HBr1.out 5
    go_wp2_with fail
    refine bodyPost_ret (v := .tuple #[.agg #[.int .i64 0, .slice none 0 0, .slice none 0 0, .int .i64 0, .slice none 0 0, .slice none 0 0], .bool false]) (by simp [results, Tryz.results52, go_sem, z0, z1, z2, z3, z4, z5]) rfl ⟨_, rfl, BigR.zero, sets6_below hb1 (by omega) _ _ _ _ _ _⟩
  | true =>
    rw [hga] at HGa
    cases hgb : bigB cs b with
    | false =>
      rw [hgb] at HGb
      have HR := Lib.hid (ns_no (cs := cs) (a := a) (b := b) (by unfold nsP; rw [hga, hgb]; rfl))
      rw [HR.out.1, HR.out.2]
      clear hga hgb hs hC
      go_enter Tryz.func52, Tryz.ntmps52
      go_wp2_with fail
      rw [HUq.out, HWq.out, HXq.out]
      go_wp2_with fail
      refine (HGa.out X HB0.out).mono ?_
      rintro e w1 ⟨rfl, hb⟩
      have hb1 := HB0.out.trans (hb.mono HB0.out.size)
      have HBa1 := Lib.hid (HBa.out.on hb)
      have HBb1 := Lib.hid (HBb.out.on hb)
      have HBr1 := Lib.hid (HBr.out.on hb)
      clear hb x0 x1 x2 x3 x4 x5 y0 y1 y2 y3 y4 y5
      obtain ⟨y0, y1, y2, y3, y4, y5⟩ := HBb1.out.get
      go_wp2_with fail
      refine (HGb.out w1 hb1).mono ?_
      rintro e w2 ⟨rfl, hb⟩
      have hb2 := hb1.trans (hb.mono hb1.size)
      have HBa2 := Lib.hid (HBa1.out.on hb)
      have HBb2 := Lib.hid (HBb1.out.on hb)
      have HBr2 := Lib.hid (HBr1.out.on hb)
      clear hb y0 y1 y2 y3 y4 y5
      obtain ⟨x0, x1, x2, x3, x4, x5⟩ := HBa2.out.get
      obtain ⟨y0, y1, y2, y3, y4, y5⟩ := HBb2.out.get
      obtain ⟨z0, z1, z2, z3, z4, z5⟩ := HBr2.out.get
      have f0 := World.rowIs.frozen HBr2.out 0
      have f1 := World.rowIs.frozen HBr2.out 1
      have f2 := World.rowIs.frozen HBr2.out 2
      have f3 := World.rowIs.frozen HBr2.out 3
      have f4 := World.rowIs.frozen HBr2.out 4
      have f5 := World.rowIs.frozen HBr2.out 5
      go_wp2_with fail
      refine bodyPost_ret (v := .tuple #[.agg #[.int .i64 0, .slice none 0 0, .slice none 0 0, .int .i64 0, .slice none 0 0, .slice none 0 0], .bool false]) (by simp [results, Tryz.results52, go_sem, z0, z1, z2, z3, z4, z5]) rfl ⟨_, rfl, BigR.zero, sets6_below hb2 (by omega) _ _ _ _ _ _⟩
    | true =>
      rw [hgb] at HGb
      have hya := sizes_of (big_of hga).2.1
      by_cases hi : a.inner = []
      · have h50 : n5 = 0 := by rw [← l5, hi]; rfl
        subst h50
        by_cases hr : (a.sites.length : Int) = b.roots
        · have hP : nsP cs a b = true := by unfold nsP; rw [hga, hgb, decide_eq_true hi, decide_eq_true hr]; rfl
          have HR := Lib.hid (ns_yes hP)
          have hTn := ns_tame hga hgb hSa hSb hi hr
          have HCd := Lib.hid (fun (Y : World) (hY : Below w.heap.size w Y) => nst_any cs _ a _ b Y (hVa.out Y hY) hSa hNa hga (hVb.out Y hY) hSb hNb hgb hr)
          have HGv := Lib.hid (fun (v2 : Value) (Y : World) (hY : Below w.heap.size w Y) (hr : BigR Y w.heap.size Y.heap.size v2 (nsB a b)) => give_any A n c cs v2 (nsB a b) w Y hC hY hn hs hr hTn.S hTn.W)
          obtain ⟨Mb, hMb⟩ : ∃ Mb, nsB a b = Mb := ⟨_, rfl⟩
          rw [hMb] at HCd HGv HR
          obtain ⟨Lb, hLb⟩ : ∃ Lb, giveR cs Mb = Lb := ⟨_, rfl⟩
          obtain ⟨q4', hq4⟩ : ∃ q4, bigB cs Mb = q4 := ⟨_, rfl⟩
          rw [HR.out.1, HR.out.2, hLb, hq4]
          rw [hLb, hq4] at HGv
          have hr2 : ((n2 : Int) == b.roots) = true := by rw [← l2, hr]; exact beq_self_eq_true _
          have hr3 : (n2 : Int) = b.roots := by rw [← l2]; exact hr
          clear hLb hq4 hMb hTn hga hgb hSa hwa hNa hSb hwb hNb hC hn hs HR h1 h2 h4 h5 k1 k2 k4 k5 hVa hVb hP hr hya hi l2 l5
          go_enter Tryz.func52, Tryz.ntmps52
          go_wp2_with fail
          rw [HUq.out, HWq.out, HXq.out]
          go_wp2_with fail
          refine (HGa.out X HB0.out).mono ?_
          rintro e w1 ⟨rfl, hb⟩
          have hb1 := HB0.out.trans (hb.mono HB0.out.size)
          have HBa1 := Lib.hid (HBa.out.on hb)
          have HBb1 := Lib.hid (HBb.out.on hb)
          have HBr1 := Lib.hid (HBr.out.on hb)
          clear hb x0 x1 x2 x3 x4 x5 y0 y1 y2 y3 y4 y5
          obtain ⟨y0, y1, y2, y3, y4, y5⟩ := HBb1.out.get
          go_wp2_with fail
          refine (HGb.out w1 hb1).mono ?_
          rintro e w2 ⟨rfl, hb⟩
          have hb2 := hb1.trans (hb.mono hb1.size)
          have HBa2 := Lib.hid (HBa1.out.on hb)
          have HBb2 := Lib.hid (HBb1.out.on hb)
          have HBr2 := Lib.hid (HBr1.out.on hb)
          clear hb y0 y1 y2 y3 y4 y5
          obtain ⟨x0, x1, x2, x3, x4, x5⟩ := HBa2.out.get
          obtain ⟨y0, y1, y2, y3, y4, y5⟩ := HBb2.out.get
          go_wp2_with fail
          have C3 := HCd.out w2 hb2
          refine C3.mono ?_
          rintro e w4 ⟨v4, rfl, hr4, hb⟩
          have HB4 := Lib.hid (hb2.trans (hb.mono hb2.size))
          have HBr4 := Lib.hid (HBr2.out.on hb)
          have C5 := HGv.out v4 w4 HB4.out (hr4.wide hb2.size (Nat.le_refl _))
          clear hr4 hb x0 x1 x2 x3 x4 x5 y0 y1 y2 y3 y4 y5 C3
          go_wp2_with fail
          refine C5.mono ?_
          rintro e w5 ⟨v5, rfl, hr5, hb⟩
          obtain ⟨D1, g1, D2, g2, D4, g4, D5, g5, rfl⟩ := hr5.shape
          have HB5 := Lib.hid (HB4.out.trans (hb.mono HB4.out.size))
          have HBr5 := Lib.hid (HBr4.out.on hb)
          have HR5 := Lib.hid hr5
          clear hr5 hb C5
          obtain ⟨z0, z1, z2, z3, z4, z5⟩ := HBr5.out.get
          have f0 := World.rowIs.frozen HBr5.out 0
          have f1 := World.rowIs.frozen HBr5.out 1
          have f2 := World.rowIs.frozen HBr5.out 2
          have f3 := World.rowIs.frozen HBr5.out 3
          have f4 := World.rowIs.frozen HBr5.out 4
          have f5 := World.rowIs.frozen HBr5.out 5
          go_wp2_with fail
          have hbig := (sets6_big HBr5.out HR5.out (.int .i64 Lb.roots) (.slice D1 Lb.nodes.length g1) (.slice D2 Lb.sites.length g2) (.int .i64 Lb.edges) (.slice D4 Lb.outer.length g4) (.slice D5 Lb.inner.length g5)).here
          have hbel := sets6_below HB5.out (Nat.le_add_right w.heap.size 2) (.int .i64 Lb.roots) (.slice D1 Lb.nodes.length g1) (.slice D2 Lb.sites.length g2) (.int .i64 Lb.edges) (.slice D4 Lb.outer.length g4) (.slice D5 Lb.inner.length g5)
          unfold sets6 at hbig hbel
          refine bodyPost_ret (v := .tuple #[.agg #[.int .i64 Lb.roots, .slice D1 Lb.nodes.length g1, .slice D2 Lb.sites.length g2, .int .i64 Lb.edges, .slice D4 Lb.outer.length g4, .slice D5 Lb.inner.length g5], .bool q4']) (by simp [results, Tryz.results52, go_sem, z0, z1, z2, z3, z4, z5]) rfl ⟨_, rfl, hbig, hbel⟩
        · skip
          have HR := Lib.hid (ns_no (cs := cs) (a := a) (b := b) (by unfold nsP; rw [hga, hgb, decide_eq_true hi, decide_eq_false hr]; rfl))
          rw [HR.out.1, HR.out.2]
          have hr2 : ((n2 : Int) == b.roots) = false := by rw [← l2]; exact beq_eq_false_iff_ne.2 hr
          have hr3 : ¬ (n2 : Int) = b.roots := by rw [← l2]; exact hr
          clear hga hgb hs hC hya hi hr l2 l5
          go_enter Tryz.func52, Tryz.ntmps52
          go_wp2_with fail
          rw [HUq.out, HWq.out, HXq.out]
          go_wp2_with fail
          refine (HGa.out X HB0.out).mono ?_
          rintro e w1 ⟨rfl, hb⟩
          have hb1 := HB0.out.trans (hb.mono HB0.out.size)
          have HBa1 := Lib.hid (HBa.out.on hb)
          have HBb1 := Lib.hid (HBb.out.on hb)
          have HBr1 := Lib.hid (HBr.out.on hb)
          clear hb x0 x1 x2 x3 x4 x5 y0 y1 y2 y3 y4 y5
          obtain ⟨y0, y1, y2, y3, y4, y5⟩ := HBb1.out.get
          go_wp2_with fail
          refine (HGb.out w1 hb1).mono ?_
          rintro e w2 ⟨rfl, hb⟩
          have hb2 := hb1.trans (hb.mono hb1.size)
          have HBa2 := Lib.hid (HBa1.out.on hb)
          have HBb2 := Lib.hid (HBb1.out.on hb)
          have HBr2 := Lib.hid (HBr1.out.on hb)
          clear hb y0 y1 y2 y3 y4 y5
          obtain ⟨x0, x1, x2, x3, x4, x5⟩ := HBa2.out.get
          obtain ⟨y0, y1, y2, y3, y4, y5⟩ := HBb2.out.get
          obtain ⟨z0, z1, z2, z3, z4, z5⟩ := HBr2.out.get
          have f0 := World.rowIs.frozen HBr2.out 0
          have f1 := World.rowIs.frozen HBr2.out 1
          have f2 := World.rowIs.frozen HBr2.out 2
          have f3 := World.rowIs.frozen HBr2.out 3
          have f4 := World.rowIs.frozen HBr2.out 4
          have f5 := World.rowIs.frozen HBr2.out 5
          go_wp2_with fail
          refine bodyPost_ret (v := .tuple #[.agg #[.int .i64 0, .slice none 0 0, .slice none 0 0, .int .i64 0, .slice none 0 0, .slice none 0 0], .bool false]) (by simp [results, Tryz.results52, go_sem, z0, z1, z2, z3, z4, z5]) rfl ⟨_, rfl, BigR.zero, sets6_below hb2 (by omega) _ _ _ _ _ _⟩
      · skip
        have HR := Lib.hid (ns_no (cs := cs) (a := a) (b := b) (by unfold nsP; rw [hga, hgb, decide_eq_false hi]; rfl))
        rw [HR.out.1, HR.out.2]
        have hp5 : (0 : Int) < (n5 : Int) := by
          have : a.inner.length ≠ 0 := fun e => hi (List.length_eq_zero_iff.1 e)
          omega
        clear hga hgb hs hC hya hi l2 l5
        go_enter Tryz.func52, Tryz.ntmps52
        go_wp2_with fail
        rw [HUq.out, HWq.out, HXq.out]
        go_wp2_with fail
        refine (HGa.out X HB0.out).mono ?_
        rintro e w1 ⟨rfl, hb⟩
        have hb1 := HB0.out.trans (hb.mono HB0.out.size)
        have HBa1 := Lib.hid (HBa.out.on hb)
        have HBb1 := Lib.hid (HBb.out.on hb)
        have HBr1 := Lib.hid (HBr.out.on hb)
        clear hb x0 x1 x2 x3 x4 x5 y0 y1 y2 y3 y4 y5
        obtain ⟨y0, y1, y2, y3, y4, y5⟩ := HBb1.out.get
        go_wp2_with fail
        refine (HGb.out w1 hb1).mono ?_
        rintro e w2 ⟨rfl, hb⟩
        have hb2 := hb1.trans (hb.mono hb1.size)
        have HBa2 := Lib.hid (HBa1.out.on hb)
        have HBb2 := Lib.hid (HBb1.out.on hb)
        have HBr2 := Lib.hid (HBr1.out.on hb)
        clear hb y0 y1 y2 y3 y4 y5
        obtain ⟨x0, x1, x2, x3, x4, x5⟩ := HBa2.out.get
        obtain ⟨y0, y1, y2, y3, y4, y5⟩ := HBb2.out.get
        obtain ⟨z0, z1, z2, z3, z4, z5⟩ := HBr2.out.get
        have f0 := World.rowIs.frozen HBr2.out 0
        have f1 := World.rowIs.frozen HBr2.out 1
        have f2 := World.rowIs.frozen HBr2.out 2
        have f3 := World.rowIs.frozen HBr2.out 3
        have f4 := World.rowIs.frozen HBr2.out 4
        have f5 := World.rowIs.frozen HBr2.out 5
        go_wp2_with fail
        refine bodyPost_ret (v := .tuple #[.agg #[.int .i64 0, .slice none 0 0, .slice none 0 0, .int .i64 0, .slice none 0 0, .slice none 0 0], .bool false]) (by simp [results, Tryz.results52, go_sem, z0, z1, z2, z3, z4, z5]) rfl ⟨_, rfl, BigR.zero, sets6_below hb2 (by omega) _ _ _ _ _ _⟩
end Go.Proofs.YtfjgapkjpmkplaaGreat.nsq
end
section
namespace Go.Proofs.YtfjgapkjpmkplaaGreat.pj
open kit bg sg opn strs only hb sig isig un over gn nm inn ht gd im pt marks eqs hc hi hw hn rs br bm bw cf lf ib lw cl rt ix tg rl ed tp rtg uw nj cg rk nk wk ek tm gv lep mrp mri mrs pl ft co sf sd sh si
open Go.RowKit
set_option linter.unusedVariables false
set_option linter.unusedSimpArgs false
set_option maxRecDepth 20000 in
set_option maxHeartbeats 6400000 in
theorem iPp_any (A : Option Addr) (n c : Nat) (cs : List Ctl) (va : Value) (a : Big) (vb : Value) (b : Big) (w : World) (hC : CtlsAt w w.heap.size A n cs) (hn : n ≤ 1048576) (hs : ∀ c ∈ cs, c.name.size ≤ 1048576) (hva : BigAt w w.heap.size va a) (hSa : BigS a) (hwa : BigW a) (hNa : NilV va) (hCa : CapO va) (hvb : BigAt w w.heap.size vb b) (hSb : BigS b) (hwb : BigW b) (hNb : NilV vb) (hCb : CapO vb) :
    Calls Tryz.prog 45 #[.slice A n c, va, vb] w (BigPost (ppQ cs a b) (ppR cs a b) w) := by
  obtain ⟨A1, n1, c1, A2, n2, c2, A4, n4, c4, A5, n5, c5, rfl, h1, h2, h4, h5⟩ := hva
  obtain ⟨B1, m1, d1, B2, m2, d2, B4, m4, d4, B5, m5, d5, rfl, k1, k2, k4, k5⟩ := hvb
  have hb0 := (Below.refl w.heap.size w).alloc (Nat.le_refl _) (.cells #[.int .i64 a.roots, .slice A1 n1 c1, .slice A2 n2 c2, .int .i64 a.edges, .slice A4 n4 c4, .slice A5 n5 c5] 36)
  have HBa0 : BoxAt (w.alloc (.cells #[.int .i64 a.roots, .slice A1 n1 c1, .slice A2 n2 c2, .int .i64 a.edges, .slice A4 n4 c4, .slice A5 n5 c5] 36)) w.heap.size 36 (.int .i64 a.roots) (.slice A1 n1 c1) (.slice A2 n2 c2) (.int .i64 a.edges) (.slice A4 n4 c4) (.slice A5 n5 c5) := six_new w _ _ _ _ _ _ _
  obtain ⟨U, hU⟩ : ∃ U, w.alloc (.cells #[.int .i64 a.roots, .slice A1 n1 c1, .slice A2 n2 c2, .int .i64 a.edges, .slice A4 n4 c4, .slice A5 n5 c5] 36) = U := ⟨_, rfl⟩
  have hUz : U.heap.size = w.heap.size + 1 := by rw [← hU]; simp
  rw [hU] at HBa0 hb0
  have hb1 := (Below.refl U.heap.size U).alloc (Nat.le_refl _) (.cells #[.int .i64 b.roots, .slice B1 m1 d1, .slice B2 m2 d2, .int .i64 b.edges, .slice B4 m4 d4, .slice B5 m5 d5] 36)
  have HBb0 : BoxAt (U.alloc (.cells #[.int .i64 b.roots, .slice B1 m1 d1, .slice B2 m2 d2, .int .i64 b.edges, .slice B4 m4 d4, .slice B5 m5 d5] 36)) U.heap.size 36 (.int .i64 b.roots) (.slice B1 m1 d1) (.slice B2 m2 d2) (.int .i64 b.edges) (.slice B4 m4 d4) (.slice B5 m5 d5) := six_new U _ _ _ _ _ _ _
  obtain ⟨W, hW⟩ : ∃ W, U.alloc (.cells #[.int .i64 b.roots, .slice B1 m1 d1, .slice B2 m2 d2, .int .i64 b.edges, .slice B4 m4 d4, .slice B5 m5 d5] 36) = W := ⟨_, rfl⟩
  have hWz : W.heap.size = w.heap.size + 2 := by rw [← hW]; simp; omega
  rw [hW] at HBb0 hb1
  rw [hUz] at HBb0
  have hb2 := (Below.refl W.heap.size W).alloc (Nat.le_refl _) (.cells #[.int .i64 0, .slice none 0 0, .slice none 0 0, .int .i64 0, .slice none 0 0, .slice none 0 0] 36)
  have HBr0 : BoxAt (W.alloc (.cells #[.int .i64 0, .slice none 0 0, .slice none 0 0, .int .i64 0, .slice none 0 0, .slice none 0 0] 36)) W.heap.size 36 (.int .i64 0) (.slice none 0 0) (.slice none 0 0) (.int .i64 0) (.slice none 0 0) (.slice none 0 0) := six_new W _ _ _ _ _ _ _
  obtain ⟨X, hX⟩ : ∃ X, W.alloc (.cells #[.int .i64 0, .slice none 0 0, .slice none 0 0, .int .i64 0, .slice none 0 0, .slice none 0 0] 36) = X := ⟨_, rfl⟩
  have hXz : X.heap.size = w.heap.size + 3 := by rw [← hX]; simp; omega
  rw [hX] at HBr0 hb2
  rw [hWz] at HBr0
  have HUq := Lib.hid hU
  have HWq := Lib.hid hW
  have HXq := Lib.hid hX
  have HB0 := Lib.hid (hb0.trans ((hb1.trans (hb2.mono hb1.size)).mono hb0.size))
  have HBa := Lib.hid ((HBa0.on hb1).on hb2)
  have HBb := Lib.hid (HBb0.on hb2)
  have HBr := Lib.hid HBr0
  have HXz := Lib.hid hXz
  have hVa := Lib.hid (fun (Y : World) (hY : Below w.heap.size w Y) => (BigAt.wide (BigAt.below ⟨_, _, _, _, _, _, _, _, _, _, _, _, rfl, h1, h2, h4, h5⟩ hY) hY.size : BigAt Y Y.heap.size (.agg #[.int .i64 a.roots, .slice A1 n1 c1, .slice A2 n2 c2, .int .i64 a.edges, .slice A4 n4 c4, .slice A5 n5 c5]) a))
  have hVb := Lib.hid (fun (Y : World) (hY : Below w.heap.size w Y) => (BigAt.wide (BigAt.below ⟨_, _, _, _, _, _, _, _, _, _, _, _, rfl, k1, k2, k4, k5⟩ hY) hY.size : BigAt Y Y.heap.size (.agg #[.int .i64 b.roots, .slice B1 m1 d1, .slice B2 m2 d2, .int .i64 b.edges, .slice B4 m4 d4, .slice B5 m5 d5]) b))
  clear hU hW hX hb0 hb1 hb2 HBa0 HBb0 HBr0 hUz hWz hXz
  have CF := Lib.hid (fun (Y : World) (hY : Below w.heap.size w Y) => are_any A n c cs (.agg #[.int .i64 a.roots, .slice A1 n1 c1, .slice A2 n2 c2, .int .i64 a.edges, .slice A4 n4 c4, .slice A5 n5 c5]) a (.agg #[.int .i64 b.roots, .slice B1 m1 d1, .slice B2 m2 d2, .int .i64 b.edges, .slice B4 m4 d4, .slice B5 m5 d5]) b Y ((hC.below hY).wide hY.size) hn hs (hVa.out Y hY) hSa hwa hNa (hVb.out Y hY) hSb hwb hNb)
  obtain ⟨x0, x1, x2, x3, x4, x5⟩ := HBa.out.get
  obtain ⟨y0, y1, y2, y3, y4, y5⟩ := HBb.out.get
  cases hab : (bigB cs a && bigB cs b) with
  | false =>
    have HR := Lib.hid (pp_no (cs := cs) (a := a) (b := b) (by unfold ppP; rw [hab]; rfl))
    rw [HR.out.1, HR.out.2]
    rw [hab] at CF
    clear hab
    go_enter Tryz.func45, Tryz.ntmps45
    go_wp2_with fail
    rw [HUq.out, HWq.out, HXq.out]
    go_wp2_with fail
    refine (CF.out X HB0.out).mono ?_
    rintro e w1 ⟨rfl, hb⟩
    have hb1 := HB0.out.trans (hb.mono HB0.out.size)
    have HBr1 := Lib.hid (HBr.out.on hb)
    have HBa1 := Lib.hid (HBa.out.on hb)
    have HBb1 := Lib.hid (HBb.out.on hb)
    clear hb x0 x1 x2 x3 x4 x5 y0 y1 y2 y3 y4 y5
    obtain ⟨z0, z1, z2, z3, z4, z5⟩ := HBr1.out.get
    have f0 := World.rowIs.frozen HBr1.out 0
    have f1 := World.rowIs.frozen HBr1.out 1
    have f2 := World.rowIs.frozen HBr1.out 2
    have f3 := World.rowIs.frozen HBr1.out 3
    have f4 := World.rowIs.frozen HBr1.out 4
    have f5 := World.rowIs.frozen HBr1.out 5
    go_wp2_with fail
    refine bodyPost_ret (v := .tuple #[.agg #[.int .i64 0, .slice none 0 0, .slice none 0 0, .int .i64 0, .slice none 0 0, .slice none 0 0], .bool false]) (by simp [results, Tryz.results45, go_sem, z0, z1, z2, z3, z4, z5]) rfl ⟨_, rfl, BigR.zero, sets6_below hb1 (by omega) _ _ _ _ _ _⟩
  | true =>
    have hga : bigB cs a = true := by
      cases h : bigB cs a with
      | true => rfl
      | false => rw [h] at hab; cases hab
    have hgb : bigB cs b = true := by rw [hga] at hab; exact hab
    rw [hab] at CF
    have HCd := Lib.hid (fun (Y : World) (hY : Below w.heap.size w Y) => sbs_any cs (.agg #[.int .i64 a.roots, .slice A1 n1 c1, .slice A2 n2 c2, .int .i64 a.edges, .slice A4 n4 c4, .slice A5 n5 c5]) a (.agg #[.int .i64 b.roots, .slice B1 m1 d1, .slice B2 m2 d2, .int .i64 b.edges, .slice B4 m4 d4, .slice B5 m5 d5]) b Y (hVa.out Y hY) hSa hNa hCa hga (hVb.out Y hY) hSb hNb hCb hgb)
    have HGv : Hid (∀ (v2 : Value) (ws : List Wr) (hp : ws.Perm (wnA a b ++ wnB a b)) (hso : SortW ws) (Y : World) (hY : Below w.heap.size w Y) (hr : BigR Y w.heap.size Y.heap.size v2 (sdB a b ws)), Calls Tryz.prog 83 #[.slice A n c, v2] Y fun e w' => ∃ v', e = .returned (.tuple #[v', .bool (ppQ cs a b)]) ∧ BigR w' w.heap.size w'.heap.size v' (ppR cs a b) ∧ Below Y.heap.size Y w') := Lib.hid (fun v2 ws hp hso Y hY hr => by
      have h := ifb_any A n c cs v2 (sdB a b ws) w Y hC hY hn hs hr (sd_tame hga hgb hSa hSb hp).S (sd_tame hga hgb hSa hSb hp).W
      rw [(pp_impl hga hgb hp hso).1, (pp_impl hga hgb hp hso).2] at h
      exact h)
    obtain ⟨Lb, hLb⟩ : ∃ Lb, ppR cs a b = Lb := ⟨_, rfl⟩
    obtain ⟨q4, hq4⟩ : ∃ q4, ppQ cs a b = q4 := ⟨_, rfl⟩
    rw [hLb, hq4] at HGv ⊢
    clear hLb hq4 hab hga hgb hSa hwa hNa hSb hwb hNb hC hn hs h1 h2 h4 h5 k1 k2 k4 k5 hVa hVb hCa hCb
    go_enter Tryz.func45, Tryz.ntmps45
    go_wp2_with fail
    rw [HUq.out, HWq.out, HXq.out]
    go_wp2_with fail
    refine (CF.out X HB0.out).mono ?_
    rintro e w1 ⟨rfl, hb⟩
    have hb1 := HB0.out.trans (hb.mono HB0.out.size)
    have HBr1 := Lib.hid (HBr.out.on hb)
    have HBa1 := Lib.hid (HBa.out.on hb)
    have HBb1 := Lib.hid (HBb.out.on hb)
    clear hb x0 x1 x2 x3 x4 x5 y0 y1 y2 y3 y4 y5
    obtain ⟨x0, x1, x2, x3, x4, x5⟩ := HBa1.out.get
    obtain ⟨y0, y1, y2, y3, y4, y5⟩ := HBb1.out.get
    have C2 := HCd.out w1 hb1
    go_wp2_with fail
    refine C2.mono ?_
    rintro e w2 ⟨v2, ws, rfl, hperm, hsort, hr2, hb⟩
    have HB2 := Lib.hid (hb1.trans (hb.mono hb1.size))
    have HBr2 := Lib.hid (HBr1.out.on hb)
    have C3 := HGv.out v2 ws hperm hsort w2 HB2.out (hr2.wide hb1.size (Nat.le_refl _))
    clear hr2 hb hperm hsort x0 x1 x2 x3 x4 x5 y0 y1 y2 y3 y4 y5 C2
    go_wp2_with fail
    refine C3.mono ?_
    rintro e w3 ⟨v3, rfl, hr3, hb⟩
    obtain ⟨D1, g1, D2, g2, D4, g4, D5, g5, rfl⟩ := hr3.shape
    have HB3 := Lib.hid (HB2.out.trans (hb.mono HB2.out.size))
    have HBr3 := Lib.hid (HBr2.out.on hb)
    have HR3 := Lib.hid hr3
    clear hr3 hb C3
    obtain ⟨z0, z1, z2, z3, z4, z5⟩ := HBr3.out.get
    have f0 := World.rowIs.frozen HBr3.out 0
    have f1 := World.rowIs.frozen HBr3.out 1
    have f2 := World.rowIs.frozen HBr3.out 2
    have f3 := World.rowIs.frozen HBr3.out 3
    have f4 := World.rowIs.frozen HBr3.out 4
    have f5 := World.rowIs.frozen HBr3.out 5
    go_wp2_with fail
    have hbig := (sets6_big HBr3.out HR3.out (.int .i64 Lb.roots) (.slice D1 Lb.nodes.length g1) (.slice D2 Lb.sites.length g2) (.int .i64 Lb.edges) (.slice D4 Lb.outer.length g4) (.slice D5 Lb.inner.length g5)).here
    have hbel := sets6_below HB3.out (Nat.le_add_right w.heap.size 2) (.int .i64 Lb.roots) (.slice D1 Lb.nodes.length g1) (.slice D2 Lb.sites.length g2) (.int .i64 Lb.edges) (.slice D4 Lb.outer.length g4) (.slice D5 Lb.inner.length g5)
    unfold sets6 at hbig hbel
    refine bodyPost_ret (v := .tuple #[.agg #[.int .i64 Lb.roots, .slice D1 Lb.nodes.length g1, .slice D2 Lb.sites.length g2, .int .i64 Lb.edges, .slice D4 Lb.outer.length g4, .slice D5 Lb.inner.length g5], .bool q4]) (by simp [results, Tryz.results45, go_sem, z0, z1, z2, z3, z4, z5]) rfl ⟨_, rfl, hbig, hbel⟩
end Go.Proofs.YtfjgapkjpmkplaaGreat.pj
end
section
namespace Go.Proofs.YtfjgapkjpmkplaaGreat.uj
open kit bg sg opn strs only hb sig isig un over gn nm inn ht gd im pt marks eqs hc hi hw hn rs br bm bw cf lf ib lw cl rt ix tg rl ed tp rtg uw ux uc nj cg rk nk wk ek tm gv lep mrp mri mrs pl ft co ui
open Go.RowKit
set_option linter.unusedVariables false
set_option linter.unusedSimpArgs false
set_option maxRecDepth 20000 in
set_option maxHeartbeats 6400000 in
theorem iCp_any (A : Option Addr) (n c : Nat) (cs : List Ctl) (va : Value) (a : Big) (vb : Value) (b : Big) (w : World) (hC : CtlsAt w w.heap.size A n cs) (hn : n ≤ 1048576) (hs : ∀ c ∈ cs, c.name.size ≤ 1048576) (hva : BigAt w w.heap.size va a) (hSa : BigS a) (hwa : BigW a) (hNa : NilV va) (hvb : BigAt w w.heap.size vb b) (hSb : BigS b) (hwb : BigW b) (hNb : NilV vb) :
    Calls Tryz.prog 35 #[.slice A n c, va, vb] w (BigPost (cpQ cs a b) (cpR cs a b) w) := by
  obtain ⟨A1, n1, c1, A2, n2, c2, A4, n4, c4, A5, n5, c5, rfl, h1, h2, h4, h5⟩ := hva
  obtain ⟨B1, m1, d1, B2, m2, d2, B4, m4, d4, B5, m5, d5, rfl, k1, k2, k4, k5⟩ := hvb
  have hb0 := (Below.refl w.heap.size w).alloc (Nat.le_refl _) (.cells #[.int .i64 a.roots, .slice A1 n1 c1, .slice A2 n2 c2, .int .i64 a.edges, .slice A4 n4 c4, .slice A5 n5 c5] 36)
  have HBa0 : BoxAt (w.alloc (.cells #[.int .i64 a.roots, .slice A1 n1 c1, .slice A2 n2 c2, .int .i64 a.edges, .slice A4 n4 c4, .slice A5 n5 c5] 36)) w.heap.size 36 (.int .i64 a.roots) (.slice A1 n1 c1) (.slice A2 n2 c2) (.int .i64 a.edges) (.slice A4 n4 c4) (.slice A5 n5 c5) := six_new w _ _ _ _ _ _ _
  obtain ⟨U, hU⟩ : ∃ U, w.alloc (.cells #[.int .i64 a.roots, .slice A1 n1 c1, .slice A2 n2 c2, .int .i64 a.edges, .slice A4 n4 c4, .slice A5 n5 c5] 36) = U := ⟨_, rfl⟩
  have hUz : U.heap.size = w.heap.size + 1 := by rw [← hU]; simp
  rw [hU] at HBa0 hb0
  have hb1 := (Below.refl U.heap.size U).alloc (Nat.le_refl _) (.cells #[.int .i64 b.roots, .slice B1 m1 d1, .slice B2 m2 d2, .int .i64 b.edges, .slice B4 m4 d4, .slice B5 m5 d5] 36)
  have HBb0 : BoxAt (U.alloc (.cells #[.int .i64 b.roots, .slice B1 m1 d1, .slice B2 m2 d2, .int .i64 b.edges, .slice B4 m4 d4, .slice B5 m5 d5] 36)) U.heap.size 36 (.int .i64 b.roots) (.slice B1 m1 d1) (.slice B2 m2 d2) (.int .i64 b.edges) (.slice B4 m4 d4) (.slice B5 m5 d5) := six_new U _ _ _ _ _ _ _
  obtain ⟨W, hW⟩ : ∃ W, U.alloc (.cells #[.int .i64 b.roots, .slice B1 m1 d1, .slice B2 m2 d2, .int .i64 b.edges, .slice B4 m4 d4, .slice B5 m5 d5] 36) = W := ⟨_, rfl⟩
  have hWz : W.heap.size = w.heap.size + 2 := by rw [← hW]; simp; omega
  rw [hW] at HBb0 hb1
  rw [hUz] at HBb0
  have hb2 := (Below.refl W.heap.size W).alloc (Nat.le_refl _) (.cells #[.int .i64 0, .slice none 0 0, .slice none 0 0, .int .i64 0, .slice none 0 0, .slice none 0 0] 36)
  have HBr0 : BoxAt (W.alloc (.cells #[.int .i64 0, .slice none 0 0, .slice none 0 0, .int .i64 0, .slice none 0 0, .slice none 0 0] 36)) W.heap.size 36 (.int .i64 0) (.slice none 0 0) (.slice none 0 0) (.int .i64 0) (.slice none 0 0) (.slice none 0 0) := six_new W _ _ _ _ _ _ _
  obtain ⟨X, hX⟩ : ∃ X, W.alloc (.cells #[.int .i64 0, .slice none 0 0, .slice none 0 0, .int .i64 0, .slice none 0 0, .slice none 0 0] 36) = X := ⟨_, rfl⟩
  have hXz : X.heap.size = w.heap.size + 3 := by rw [← hX]; simp; omega
  rw [hX] at HBr0 hb2
  rw [hWz] at HBr0
  have HUq := Lib.hid hU
  have HWq := Lib.hid hW
  have HXq := Lib.hid hX
  have HB0 := Lib.hid (hb0.trans ((hb1.trans (hb2.mono hb1.size)).mono hb0.size))
  have HBa := Lib.hid ((HBa0.on hb1).on hb2)
  have HBb := Lib.hid (HBb0.on hb2)
  have HBr := Lib.hid HBr0
  have HXz := Lib.hid hXz
  have hVa := Lib.hid (fun (Y : World) (hY : Below w.heap.size w Y) => (BigAt.wide (BigAt.below ⟨_, _, _, _, _, _, _, _, _, _, _, _, rfl, h1, h2, h4, h5⟩ hY) hY.size : BigAt Y Y.heap.size (.agg #[.int .i64 a.roots, .slice A1 n1 c1, .slice A2 n2 c2, .int .i64 a.edges, .slice A4 n4 c4, .slice A5 n5 c5]) a))
  have hVb := Lib.hid (fun (Y : World) (hY : Below w.heap.size w Y) => (BigAt.wide (BigAt.below ⟨_, _, _, _, _, _, _, _, _, _, _, _, rfl, k1, k2, k4, k5⟩ hY) hY.size : BigAt Y Y.heap.size (.agg #[.int .i64 b.roots, .slice B1 m1 d1, .slice B2 m2 d2, .int .i64 b.edges, .slice B4 m4 d4, .slice B5 m5 d5]) b))
  clear hU hW hX hb0 hb1 hb2 HBa0 HBb0 HBr0 hUz hWz hXz
  have CF := Lib.hid (fun (Y : World) (hY : Below w.heap.size w Y) => iFt_any A n c cs (.agg #[.int .i64 a.roots, .slice A1 n1 c1, .slice A2 n2 c2, .int .i64 a.edges, .slice A4 n4 c4, .slice A5 n5 c5]) a (.agg #[.int .i64 b.roots, .slice B1 m1 d1, .slice B2 m2 d2, .int .i64 b.edges, .slice B4 m4 d4, .slice B5 m5 d5]) b Y ((hC.below hY).wide hY.size) hn hs (hVa.out Y hY) hSa hwa hNa (hVb.out Y hY) hSb hwb hNb)
  obtain ⟨x0, x1, x2, x3, x4, x5⟩ := HBa.out.get
  obtain ⟨y0, y1, y2, y3, y4, y5⟩ := HBb.out.get
  cases hp : cpP cs a b with
  | false =>
    have HR := Lib.hid (cp_no hp)
    rw [HR.out.1, HR.out.2]
    have hp' : (bigB cs a && bigB cs b && fitB a b) = false := hp
    rw [hp'] at CF
    obtain ⟨q, hq⟩ : ∃ q, (bigB cs a && bigB cs b) = q := ⟨_, rfl⟩
    rw [hq] at CF
    clear hp hp' hq
    cases q with
    | false =>
      go_enter Tryz.func35, Tryz.ntmps35
      go_wp2_with fail
      rw [HUq.out, HWq.out, HXq.out]
      go_wp2_with fail
      refine (CF.out X HB0.out).mono ?_
      rintro e w1 ⟨rfl, hb⟩
      have hb1 := HB0.out.trans (hb.mono HB0.out.size)
      have HBr1 := Lib.hid (HBr.out.on hb)
      have HBa1 := Lib.hid (HBa.out.on hb)
      have HBb1 := Lib.hid (HBb.out.on hb)
      clear hb x0 x1 x2 x3 x4 x5 y0 y1 y2 y3 y4 y5
      obtain ⟨z0, z1, z2, z3, z4, z5⟩ := HBr1.out.get
      have f0 := World.rowIs.frozen HBr1.out 0
      have f1 := World.rowIs.frozen HBr1.out 1
      have f2 := World.rowIs.frozen HBr1.out 2
      have f3 := World.rowIs.frozen HBr1.out 3
      have f4 := World.rowIs.frozen HBr1.out 4
      have f5 := World.rowIs.frozen HBr1.out 5
      go_wp2_with fail
      refine bodyPost_ret (v := .tuple #[.agg #[.int .i64 0, .slice none 0 0, .slice none 0 0, .int .i64 0, .slice none 0 0, .slice none 0 0], .bool false]) (by simp [results, Tryz.results35, go_sem, z0, z1, z2, z3, z4, z5]) rfl ⟨_, rfl, BigR.zero, sets6_below hb1 (by omega) _ _ _ _ _ _⟩
    | true =>
      go_enter Tryz.func35, Tryz.ntmps35
      go_wp2_with fail
      rw [HUq.out, HWq.out, HXq.out]
      go_wp2_with fail
      refine (CF.out X HB0.out).mono ?_
      rintro e w1 ⟨rfl, hb⟩
      have hb1 := HB0.out.trans (hb.mono HB0.out.size)
      have HBr1 := Lib.hid (HBr.out.on hb)
      have HBa1 := Lib.hid (HBa.out.on hb)
      have HBb1 := Lib.hid (HBb.out.on hb)
      clear hb x0 x1 x2 x3 x4 x5 y0 y1 y2 y3 y4 y5
      obtain ⟨z0, z1, z2, z3, z4, z5⟩ := HBr1.out.get
      have f0 := World.rowIs.frozen HBr1.out 0
      have f1 := World.rowIs.frozen HBr1.out 1
      have f2 := World.rowIs.frozen HBr1.out 2
      have f3 := World.rowIs.frozen HBr1.out 3
      have f4 := World.rowIs.frozen HBr1.out 4
      have f5 := World.rowIs.frozen HBr1.out 5
      go_wp2_with fail
      refine bodyPost_ret (v := .tuple #[.agg #[.int .i64 0, .slice none 0 0, .slice none 0 0, .int .i64 0, .slice none 0 0, .slice none 0 0], .bool false]) (by simp [results, Tryz.results35, go_sem, z0, z1, z2, z3, z4, z5]) rfl ⟨_, rfl, BigR.zero, sets6_below hb1 (by omega) _ _ _ _ _ _⟩
  | true =>
    have HR := Lib.hid (cp_yes hp)
    have hp' : (bigB cs a && bigB cs b && fitB a b) = true := hp
    have hab : (bigB cs a && bigB cs b) = true := by
      cases h : (bigB cs a && bigB cs b) with
      | true => rfl
      | false => rw [h] at hp'; cases hp'
    have hf : fitB a b = true := by rw [hab] at hp'; exact hp'
    have hga : bigB cs a = true := by
      cases h : bigB cs a with
      | true => rfl
      | false => rw [h] at hab; cases hab
    have hgb : bigB cs b = true := by rw [hga] at hab; exact hab
    rw [hp', hab] at CF
    have hTa := cp_tame hga hgb hf hSa hSb
    have HCd := Lib.hid (fun (Y : World) (hY : Below w.heap.size w Y) => cpd_any cs (.agg #[.int .i64 a.roots, .slice A1 n1 c1, .slice A2 n2 c2, .int .i64 a.edges, .slice A4 n4 c4, .slice A5 n5 c5]) a (.agg #[.int .i64 b.roots, .slice B1 m1 d1, .slice B2 m2 d2, .int .i64 b.edges, .slice B4 m4 d4, .slice B5 m5 d5]) b Y (hVa.out Y hY) hSa hNa hga (hVb.out Y hY) hSb hNb hgb hf)
    have HGv := Lib.hid (fun (v2 : Value) (Y : World) (hY : Below w.heap.size w Y) (hr : BigR Y w.heap.size Y.heap.size v2 (cpB a b)) => ifb_any A n c cs v2 (cpB a b) w Y hC hY hn hs hr hTa.S hTa.W)
    obtain ⟨Mb, hMb⟩ : ∃ Mb, cpB a b = Mb := ⟨_, rfl⟩
    rw [hMb] at HCd HGv HR
    obtain ⟨Lb, hLb⟩ : ∃ Lb, giveR cs Mb = Lb := ⟨_, rfl⟩
    obtain ⟨q4, hq4⟩ : ∃ q4, bigB cs Mb = q4 := ⟨_, rfl⟩
    rw [HR.out.1, HR.out.2, hLb, hq4]
    rw [hLb, hq4] at HGv
    clear hLb hq4 hMb hTa hp hp' hab hf hga hgb hSa hwa hNa hSb hwb hNb hC hn hs HR h1 h2 h4 h5 k1 k2 k4 k5 hVa hVb
    go_enter Tryz.func35, Tryz.ntmps35
    go_wp2_with fail
    rw [HUq.out, HWq.out, HXq.out]
    go_wp2_with fail
    refine (CF.out X HB0.out).mono ?_
    rintro e w1 ⟨rfl, hb⟩
    have hb1 := HB0.out.trans (hb.mono HB0.out.size)
    have HBr1 := Lib.hid (HBr.out.on hb)
    have HBa1 := Lib.hid (HBa.out.on hb)
    have HBb1 := Lib.hid (HBb.out.on hb)
    clear hb x0 x1 x2 x3 x4 x5 y0 y1 y2 y3 y4 y5
    obtain ⟨x0, x1, x2, x3, x4, x5⟩ := HBa1.out.get
    obtain ⟨y0, y1, y2, y3, y4, y5⟩ := HBb1.out.get
    have C2 := HCd.out w1 hb1
    go_wp2_with fail
    refine C2.mono ?_
    rintro e w2 ⟨v2, rfl, hr2, hb⟩
    have HB2 := Lib.hid (hb1.trans (hb.mono hb1.size))
    have HBr2 := Lib.hid (HBr1.out.on hb)
    have C3 := HGv.out v2 w2 HB2.out (hr2.wide hb1.size (Nat.le_refl _))
    clear hr2 hb x0 x1 x2 x3 x4 x5 y0 y1 y2 y3 y4 y5 C2
    go_wp2_with fail
    refine C3.mono ?_
    rintro e w3 ⟨v3, rfl, hr3, hb⟩
    obtain ⟨D1, g1, D2, g2, D4, g4, D5, g5, rfl⟩ := hr3.shape
    have HB3 := Lib.hid (HB2.out.trans (hb.mono HB2.out.size))
    have HBr3 := Lib.hid (HBr2.out.on hb)
    have HR3 := Lib.hid hr3
    clear hr3 hb C3
    obtain ⟨z0, z1, z2, z3, z4, z5⟩ := HBr3.out.get
    have f0 := World.rowIs.frozen HBr3.out 0
    have f1 := World.rowIs.frozen HBr3.out 1
    have f2 := World.rowIs.frozen HBr3.out 2
    have f3 := World.rowIs.frozen HBr3.out 3
    have f4 := World.rowIs.frozen HBr3.out 4
    have f5 := World.rowIs.frozen HBr3.out 5
    go_wp2_with fail
    have hbig := (sets6_big HBr3.out HR3.out (.int .i64 Lb.roots) (.slice D1 Lb.nodes.length g1) (.slice D2 Lb.sites.length g2) (.int .i64 Lb.edges) (.slice D4 Lb.outer.length g4) (.slice D5 Lb.inner.length g5)).here
    have hbel := sets6_below HB3.out (Nat.le_add_right w.heap.size 2) (.int .i64 Lb.roots) (.slice D1 Lb.nodes.length g1) (.slice D2 Lb.sites.length g2) (.int .i64 Lb.edges) (.slice D4 Lb.outer.length g4) (.slice D5 Lb.inner.length g5)
    unfold sets6 at hbig hbel
    refine bodyPost_ret (v := .tuple #[.agg #[.int .i64 Lb.roots, .slice D1 Lb.nodes.length g1, .slice D2 Lb.sites.length g2, .int .i64 Lb.edges, .slice D4 Lb.outer.length g4, .slice D5 Lb.inner.length g5], .bool q4]) (by simp [results, Tryz.results35, go_sem, z0, z1, z2, z3, z4, z5]) rfl ⟨_, rfl, hbig, hbel⟩
end Go.Proofs.YtfjgapkjpmkplaaGreat.uj
end
