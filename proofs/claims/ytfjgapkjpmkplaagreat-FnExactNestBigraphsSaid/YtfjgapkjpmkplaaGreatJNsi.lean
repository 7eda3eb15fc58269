/- Nsi. -/
import Derived.Test.YtfjgapkjpmkplaaGreatBa
import Derived.Test.YtfjgapkjpmkplaaGreatBb
import Derived.Test.YtfjgapkjpmkplaaGreatBc
import Derived.Test.YtfjgapkjpmkplaaGreatBd
import Derived.Test.YtfjgapkjpmkplaaGreatBe
import Derived.Test.YtfjgapkjpmkplaaGreatKa0
import Derived.Test.YtfjgapkjpmkplaaGreatKb0
import Derived.Test.YtfjgapkjpmkplaaGreatKc0
import Derived.Test.YtfjgapkjpmkplaaGreatJSi
import Derived.Test.YtfjgapkjpmkplaaGreatKd0
import Derived.Test.YtfjgapkjpmkplaaGreatRows
import Derived.WalkKit
import Derived.WalkSpells
import Derived.WalkLawsBesides
import Derived.ProofKit
import Derived.OpenShut
import Derived.ShutString
import Derived.Deep.OwnRows
import Derived.Deep.Draws
import Derived.SliceStrings
import Derived.ChangeOld
import Derived.Below
import Derived.Lib.Hide
import Derived.Lib.ItoaNum
import Derived.Deep.QuietTactic
import Derived.BigQuiet
import Derived.Outline
import Derived.StillTailTactics
import Derived.Deep.RegionWith
import Derived.Deep.RegionHeld3
import Derived.Deep.Slices
import Derived.Deep.Fields
import Derived.ChangeSame
import Derived.Lib.SmallJoins
import Derived.Maps.OwnOps
import Derived.Maps.OwnIn
import Derived.Maps.Views
import Derived.Maps.AppendAt
import Derived.RangeFuncBox
import Derived.RangeFuncLeaves
import Derived.Shelf.Abstract
import Derived.OwnWalkIn
import Derived.TacticsInMore
import Derived.LoopNIn
import Derived.LoopIn
import Derived.RangeFuncWrites
import Derived.RangeFuncNested
import Derived.JoinedOf
import Derived.Deep.AppendLies
import Derived.Deep.RegionLaw
import Derived.Laws.AppendOwnNone
import Derived.Lib.SliceRun
import Derived.Deep.Cut
import Derived.Deep.CutRange
import Derived.OrdersHeld
import Derived.StillTail
import Derived.Handy
import Derived.Lib.Walk
import Derived.Deep.LoopGhost
import Derived.Lib.LazyBuf
import Derived.Lib.AppendZerosOnto
import Derived.Sort.OwnSorted
import Derived.Lib.SlicesCompact
import Derived.Sort.KeysCollected
import Derived.Test.YtfjgapkjpmkplaaGreatSfl
import Derived.Shelf.SlSortCmp.NoneTotal
import Derived.WalkMore
import Derived.ScopeJumps
import Derived.Laws.EntriesVeiled
import Derived.Test.YtfjgapkjpmkplaaGreatSrt
set_option linter.unusedSimpArgs false
set_option linter.unusedVariables false
namespace Go.Proofs.YtfjgapkjpmkplaaGreat.nsi
open kit bg sg opn strs only hb sig isig un over gn nm inn ht gd im pt marks eqs hc hi hw hn rs br bm bw cf lf ib lw cl rt ix tg rl ed tp rtg uw nj cg rk nk wk ek tm gv lep mrp mri mrs pl ft co sf sd sh si pj mg idn idz nsx
open uj (iCp_any)
open Go.RowKit
set_option linter.unusedVariables false
set_option linter.unusedSimpArgs false
theorem nil_big {w : World} {lo hi : Nat} {v : Value} {b : Big} (h : BigR w lo hi v b) : NilV v := by
  obtain ⟨P, rfl, hL⟩ := laid_of h
  exact laid_nil hL
theorem rowR_cap {w : World} {lo hi sz n c : Nat} {t : TypeId} {A : Option Addr} {M : Nat → Value} (h : RowR w lo hi t sz A n c M) : n ≤ c := by
  rcases h with ⟨-, h1, h2⟩ | ⟨g, f, -, -, -, h, -⟩
  · omega
  · exact h
theorem capO_big {w : World} {lo hi : Nat} {v : Value} {b : Big} (h : BigR w lo hi v b) : CapO v := by
  obtain ⟨P, rfl, hL⟩ := laid_of h
  exact ⟨_, _, _, _, _, _, _, _, _, _, _, _, _, _, rfl, rowR_cap hL.2.2.2.1⟩
set_option maxRecDepth 20000 in
set_option maxHeartbeats 6400000 in
theorem iNs_any (A : Option Addr) (n c : Nat) (cs : List Ctl) (va : Value) (a : Big) (vb : Value) (b : Big) (w : World) (hC : CtlsAt w w.heap.size A n cs) (hn : n ≤ 1048576) (hs : ∀ c ∈ cs, c.name.size ≤ 1048576) (hva : BigAt w w.heap.size va a) (hSa : BigS a) (hwa : BigW a) (hNa : NilV va) (hCa : CapO va) (hvb : BigAt w w.heap.size vb b) (hSb : BigS b) (hwb : BigW b) (hNb : NilV vb) (hCb : CapO vb) :
    Calls Tryz.prog 53 #[.slice A n c, va, vb] w (BigPost (nsQ cs a b) (nsR cs a b) w) := by
  obtain ⟨A1, n1, c1, A2, n2, c2, A4, n4, c4, A5, n5, c5, rfl, h1, h2, h4, h5⟩ := hva
  obtain ⟨B1, m1, d1, B2, m2, d2, B4, m4, d4, B5, m5, d5, rfl, k1, k2, k4, k5⟩ := hvb
  have hb0 := (Below.refl w.heap.size w).alloc (Nat.le_refl _) (.cells #[.int .i64 a.roots, .slice A1 n1 c1, .slice A2 n2 c2, .int .i64 a.edges, .slice A4 n4 c4, .slice A5 n5 c5] 36)
  have HBa0 : BoxAt (w.alloc (.cells #[.int .i64 a.roots, .slice A1 n1 c1, .slice A2 n2 c2, .int .i64 a.edges, .slice A4 n4 c4, .slice A5 n5 c5] 36)) w.heap.size 36 (.int .i64 a.roots) (.slice A1 n1 c1) (.slice A2 n2 c2) (.int .i64 a.edges) (.slice A4 n4 c4) (.slice A5 n5 c5) := six_new w _ _ _ _ _ _ _
  obtain ⟨U, hU⟩ : ∃ U, w.alloc (.cells #[.int .i64 a.roots, .slice A1 n1 c1, .slice A2 n2 c2, .int .i64 a.edges, .slice A4 n4 c4, .slice A5 n5 c5] 36) = U := ⟨_, rfl⟩
  have hUz : U.heap.size = w.heap.size + 1 := by rw [← hU]; simp
  rw [hU] at HBa0 hb0
  have hb1 := (Below.refl U.heap.size U).alloc (Nat.le_refl _) (.cells #[.int .i64 b.roots, .slice B1 m1 d1, .slice B2 m2 d2, .int .i64 b.edges, .slice B4 m4 d4, .slice B5 m5 d5] 36)
  have HBb0 : BoxAt (U.alloc (.cells #[.int .i64 b.roots, .slice B1 m1 d1, .slice B2 m2 d2, .int .i64 b.edges, .slice B4 m4 d4, .slice B5 m5 d5] 36)) U.heap.size 36 (.int .i64 b.roots) (.slice B1 m1 d1) (.slice B2 m2 d2) (.int .i64 b.edges) (.slice B4 m4 d4) (.slice B5 m5 d5) := six_new U _ _ _ _ _ _ _
  obtain ⟨W, hW⟩ : ∃ W, U.alloc (.cells #[.int .i64 b.roots, .slice B1 m1 d1, .slice B2 m2 d2, .int .i64 b.edges, .slice B4 m4 d4, .slice B5 m5 d5] 36) = W := ⟨_, rfl⟩
  have hWz : W.heap.size = w.heap.size + 2 := by rw [← hW]; simp; omega
  rw [hW] at HBb0 hb1
  rw [hUz] at HBb0
  have hb2 := (Below.refl W.heap.size W).alloc (Nat.le_refl _) (.cells #[.int .i64 0, .slice none 0 0, .slice none 0 0, .int .i64 0, .slice none 0 0, .slice none 0 0] 36)
  have HBr0 : BoxAt (W.alloc (.cells #[.int .i64 0, .slice none 0 0, .slice none 0 0, .int .i64 0, .slice none 0 0, .slice none 0 0] 36)) W.heap.size 36 (.int .i64 0) (.slice none 0 0) (.slice none 0 0) (.int .i64 0) (.slice none 0 0) (.slice none 0 0) := six_new W _ _ _ _ _ _ _
  obtain ⟨X, hX⟩ : ∃ X, W.alloc (.cells #[.int .i64 0, .slice none 0 0, .slice none 0 0, .int .i64 0, .slice none 0 0, .slice none 0 0] 36) = X := ⟨_, rfl⟩
  have hXz : X.heap.size = w.heap.size + 3 := by rw [← hX]; simp; omega
  rw [hX] at HBr0 hb2
  rw [hWz] at HBr0
  have HUq := Lib.hid hU
  have HWq := Lib.hid hW
  have HXq := Lib.hid hX
  have HB0 := Lib.hid (hb0.trans ((hb1.trans (hb2.mono hb1.size)).mono hb0.size))
  have HBa := Lib.hid ((HBa0.on hb1).on hb2)
  have HBb := Lib.hid (HBb0.on hb2)
  have HBr := Lib.hid HBr0
  have HXz := Lib.hid hXz
  have hVa := Lib.hid (fun (Y : World) (hY : Below w.heap.size w Y) => (BigAt.wide (BigAt.below ⟨_, _, _, _, _, _, _, _, _, _, _, _, rfl, h1, h2, h4, h5⟩ hY) hY.size : BigAt Y Y.heap.size (.agg #[.int .i64 a.roots, .slice A1 n1 c1, .slice A2 n2 c2, .int .i64 a.edges, .slice A4 n4 c4, .slice A5 n5 c5]) a))
  have hVb := Lib.hid (fun (Y : World) (hY : Below w.heap.size w Y) => (BigAt.wide (BigAt.below ⟨_, _, _, _, _, _, _, _, _, _, _, _, rfl, k1, k2, k4, k5⟩ hY) hY.size : BigAt Y Y.heap.size (.agg #[.int .i64 b.roots, .slice B1 m1 d1, .slice B2 m2 d2, .int .i64 b.edges, .slice B4 m4 d4, .slice B5 m5 d5]) b))
  clear hU hW hX hb0 hb1 hb2 HBa0 HBb0 HBr0 hUz hWz hXz
  have CF := Lib.hid (fun (Y : World) (hY : Below w.heap.size w Y) => are_any A n c cs (.agg #[.int .i64 a.roots, .slice A1 n1 c1, .slice A2 n2 c2, .int .i64 a.edges, .slice A4 n4 c4, .slice A5 n5 c5]) a (.agg #[.int .i64 b.roots, .slice B1 m1 d1, .slice B2 m2 d2, .int .i64 b.edges, .slice B4 m4 d4, .slice B5 m5 d5]) b Y ((hC.below hY).wide hY.size) hn hs (hVa.out Y hY) hSa hwa hNa (hVb.out Y hY) hSb hwb hNb)
  have l5 : a.inner.length = n5 := h5.1
  cases hab : (bigB cs a && bigB cs b) with
  | false =>
    rw [hab] at CF
    have HR := Lib.hid (ns_no (cs := cs) (a := a) (b := b) (by unfold nsP; rw [hab]; rfl))
    rw [HR.out.1, HR.out.2]
    clear hab hC hs l5
    obtain ⟨x0, x1, x2, x3, x4, x5⟩ := HBa.out.get
    obtain ⟨y0, y1, y2, y3, y4, y5⟩ := HBb.out.get
    go_enter Tryz.func53, Tryz.ntmps53
    go_wp2_with fail
    rw [HUq.out, HWq.out, HXq.out]
    go_wp2_with fail
    refine (CF.out X HB0.out).mono ?_
    rintro e w1 ⟨rfl, hb⟩
    have HB1 := Lib.hid (HB0.out.trans (hb.mono HB0.out.size))
    have HBa1 := Lib.hid (HBa.out.on hb)
    have HBb1 := Lib.hid (HBb.out.on hb)
    have HBr1 := Lib.hid (HBr.out.on hb)
    clear hb x0 x1 x2 x3 x4 x5 y0 y1 y2 y3 y4 y5
    obtain ⟨z0, z1, z2, z3, z4, z5⟩ := HBr1.out.get
    have f0 := World.rowIs.frozen HBr1.out 0
    have f1 := World.rowIs.frozen HBr1.out 1
    have f2 := World.rowIs.frozen HBr1.out 2
    have f3 := World.rowIs.frozen HBr1.out 3
    have f4 := World.rowIs.frozen HBr1.out 4
    have f5 := World.rowIs.frozen HBr1.out 5
    go_wp2_with fail
    refine bodyPost_ret (v := .tuple #[.agg #[.int .i64 0, .slice none 0 0, .slice none 0 0, .int .i64 0, .slice none 0 0, .slice none 0 0], .bool false]) (by simp [results, Tryz.results53, go_sem, z0, z1, z2, z3, z4, z5]) rfl ⟨_, rfl, BigR.zero, sets6_below HB1.out (by omega) _ _ _ _ _ _⟩
  | true =>
    rw [hab] at CF
    have hga : bigB cs a = true := by
      cases h : bigB cs a with
      | true => rfl
      | false => rw [h] at hab; cases hab
    have hgb : bigB cs b = true := by rw [hga] at hab; exact hab
    by_cases hi : a.inner = []
    · have hp5 : ¬ (0 : Int) < (n5 : Int) := by
        have : a.inner.length = 0 := by rw [hi]; rfl
        omega
      have hgi := nsI_good hgb
      have hyb := sizes_of (big_of hgb).2.1
      have q4 : b.outer.length = m4 := k4.strlen
      have hid0 : idQ 0 b.outer = true := id_yes (by rfl) (by
        unfold nw.faceB
        rw [names_true (big_of hgb).2.2.1, decide_eq_true (show ((b.outer.length : Int) ≤ 16) by omega)]
        rfl)
      have hnb := hNb.get
      have CI := Lib.hid (fun (Y : World) (hY : Below w.heap.size w Y) => iId_any 0 B4 m4 d4 b.outer Y (by decide) ((k4.below hY).wide hY.size) (by omega) hSb.2.2.2.2.1 hnb.2.2.1)
      rw [hid0, idR_yes hid0] at CI
      rw [show idB (0 : Int).toNat b.outer = nsI b from rfl] at CI
      have hSi : BigS (nsI b) ∧ BigW (nsI b) := by
        have := nsI_tame hgb hSb
        exact ⟨this.S, this.W⟩
      have CP := Lib.hid (fun (v2 : Value) (Y : World) (hY : Below w.heap.size w Y) (h2 : BigAt Y Y.heap.size v2 (nsI b)) (hN2 : NilV v2) (hC2 : CapO v2) => iPp_any A n c cs (.agg #[.int .i64 a.roots, .slice A1 n1 c1, .slice A2 n2 c2, .int .i64 a.edges, .slice A4 n4 c4, .slice A5 n5 c5]) a v2 (nsI b) Y ((hC.below hY).wide hY.size) hn hs (hVa.out Y hY) hSa hwa hNa hCa h2 hSi.1 hSi.2 hN2 hC2)
      cases hq : ppQ cs a (nsI b) with
      | false =>
        have HR := Lib.hid (ns_fail hga hgb hi hq)
        rw [HR.out.1, HR.out.2]
        rw [hq] at CP
        obtain ⟨Rb, hRb⟩ : ∃ Rb, ppR cs a (nsI b) = Rb := ⟨_, rfl⟩
        rw [hRb] at CP
        obtain ⟨Ib, hIb⟩ : ∃ Ib, nsI b = Ib := ⟨_, rfl⟩
        rw [hIb] at CI CP
        clear hq hRb hIb hab hga hgb hi hgi hyb q4 hid0 hSi hC hs hnb h1 h2 h4 h5 k1 k2 k4 k5 hSa hwa hNa hCa hSb hwb hNb hCb hn l5
        obtain ⟨x0, x1, x2, x3, x4, x5⟩ := HBa.out.get
        obtain ⟨y0, y1, y2, y3, y4, y5⟩ := HBb.out.get
        go_enter Tryz.func53, Tryz.ntmps53
        go_wp2_with fail
        rw [HUq.out, HWq.out, HXq.out]
        go_wp2_with fail
        refine (CF.out X HB0.out).mono ?_
        rintro e w1 ⟨rfl, hb⟩
        have HB1 := Lib.hid (HB0.out.trans (hb.mono HB0.out.size))
        have HBa1 := Lib.hid (HBa.out.on hb)
        have HBb1 := Lib.hid (HBb.out.on hb)
        have HBr1 := Lib.hid (HBr.out.on hb)
        clear hb x0 x1 x2 x3 x4 x5 y0 y1 y2 y3 y4 y5
        obtain ⟨x0, x1, x2, x3, x4, x5⟩ := HBa1.out.get
        obtain ⟨y0, y1, y2, y3, y4, y5⟩ := HBb1.out.get
        go_wp2_with fail
        refine (CI.out w1 HB1.out).mono ?_
        rintro e w2 ⟨v2, rfl, hr, hb⟩
        have HNi := Lib.hid (nil_big hr)
        have HCi := Lib.hid (capO_big hr)
        obtain ⟨D1, g1, D2, g2, D4, g4, D5, g5, rfl⟩ := hr.shape
        have hbX := (Below.refl w2.heap.size w2).alloc (Nat.le_refl _) (.cells #[.int .i64 Ib.roots, .slice D1 Ib.nodes.length g1, .slice D2 Ib.sites.length g2, .int .i64 Ib.edges, .slice D4 Ib.outer.length g4, .slice D5 Ib.inner.length g5] 36)
        have hbx : BoxAt (w2.alloc (.cells #[.int .i64 Ib.roots, .slice D1 Ib.nodes.length g1, .slice D2 Ib.sites.length g2, .int .i64 Ib.edges, .slice D4 Ib.outer.length g4, .slice D5 Ib.inner.length g5] 36)) w2.heap.size 36 (.int .i64 Ib.roots) (.slice D1 Ib.nodes.length g1) (.slice D2 Ib.sites.length g2) (.int .i64 Ib.edges) (.slice D4 Ib.outer.length g4) (.slice D5 Ib.inner.length g5) := six_new w2 _ _ _ _ _ _ _
        have hb2 := hb.trans (hbX.mono hb.size)
        have HB2 := Lib.hid (HB1.out.trans (hb2.mono HB1.out.size))
        have HBa2 := Lib.hid (HBa1.out.on hb2)
        have HBb2 := Lib.hid (HBb1.out.on hb2)
        have HBr2 := Lib.hid (HBr1.out.on hb2)
        have HBx2 := Lib.hid hbx
        have HR2 := Lib.hid ((hr.on hbX).here)
        clear hb hbx hr hb2 x0 x1 x2 x3 x4 x5 y0 y1 y2 y3 y4 y5
        obtain ⟨x0, x1, x2, x3, x4, x5⟩ := HBa2.out.get
        obtain ⟨t0, t1, t2, t3, t4, t5⟩ := HBx2.out.get
        go_wp2_with fail
        obtain ⟨w3, hq3⟩ : ∃ w3, w2.alloc (.cells #[.int .i64 Ib.roots, .slice D1 Ib.nodes.length g1, .slice D2 Ib.sites.length g2, .int .i64 Ib.edges, .slice D4 Ib.outer.length g4, .slice D5 Ib.inner.length g5] 36) = w3 := ⟨_, rfl⟩
        rw [hq3] at HB2 HBa2 HBb2 HBr2 HBx2 HR2 hbX ⊢
        clear hq3 hbX x0 x1 x2 x3 x4 x5 t0 t1 t2 t3 t4 t5 HBx2 HB1 HBa1 HBb1 HBr1
        refine (CP.out _ w3 HB2.out HR2.out.at HNi.out HCi.out).mono ?_
        rintro e w4 ⟨v4, rfl, hr4, hb⟩
        have HNr := Lib.hid (nil_big hr4)
        obtain ⟨E1, e1, E2, e2, E4, e4, E5, e5, rfl⟩ := hr4.shape
        have hbY := (Below.refl w4.heap.size w4).alloc (Nat.le_refl _) (.cells #[.int .i64 Rb.roots, .slice E1 Rb.nodes.length e1, .slice E2 Rb.sites.length e2, .int .i64 Rb.edges, .slice E4 Rb.outer.length e4, .slice E5 Rb.inner.length e5] 36)
        have hby : BoxAt (w4.alloc (.cells #[.int .i64 Rb.roots, .slice E1 Rb.nodes.length e1, .slice E2 Rb.sites.length e2, .int .i64 Rb.edges, .slice E4 Rb.outer.length e4, .slice E5 Rb.inner.length e5] 36)) w4.heap.size 36 (.int .i64 Rb.roots) (.slice E1 Rb.nodes.length e1) (.slice E2 Rb.sites.length e2) (.int .i64 Rb.edges) (.slice E4 Rb.outer.length e4) (.slice E5 Rb.inner.length e5) := six_new w4 _ _ _ _ _ _ _
        have hb4 := hb.trans (hbY.mono hb.size)
        have HB4 := Lib.hid (HB2.out.trans (hb4.mono HB2.out.size))
        have HBb4 := Lib.hid (HBb2.out.on hb4)
        have HBr4 := Lib.hid (HBr2.out.on hb4)
        have HBy4 := Lib.hid hby
        have HR4 := Lib.hid ((hr4.on hbY).here)
        clear hb hby hr4 hb4 HB2 HBa2 HBb2 HBr2 HR2 HNi HCi
        obtain ⟨z0, z1, z2, z3, z4, z5⟩ := HBr4.out.get
        have f0 := World.rowIs.frozen HBr4.out 0
        have f1 := World.rowIs.frozen HBr4.out 1
        have f2 := World.rowIs.frozen HBr4.out 2
        have f3 := World.rowIs.frozen HBr4.out 3
        have f4 := World.rowIs.frozen HBr4.out 4
        have f5 := World.rowIs.frozen HBr4.out 5
        go_wp2_with fail
        refine bodyPost_ret (v := .tuple #[.agg #[.int .i64 0, .slice none 0 0, .slice none 0 0, .int .i64 0, .slice none 0 0, .slice none 0 0], .bool false]) (by simp [results, Tryz.results53, go_sem, z0, z1, z2, z3, z4, z5]) rfl ⟨_, rfl, BigR.zero, sets6_below HB4.out (by omega) _ _ _ _ _ _⟩
      | true =>
        have hNs := ns_impl hga hgb hi hq
        rw [hq, hNs.1] at CP
        have hta := nsA_tame hga hgb hSa hSb hi
        have CC := Lib.hid (fun (v2 : Value) (Y : World) (hY : Below w.heap.size w Y) (h2 : BigAt Y Y.heap.size v2 (nsA a b)) (hN2 : NilV v2) => iCp_any A n c cs v2 (nsA a b) (.agg #[.int .i64 b.roots, .slice B1 m1 d1, .slice B2 m2 d2, .int .i64 b.edges, .slice B4 m4 d4, .slice B5 m5 d5]) b Y ((hC.below hY).wide hY.size) hn hs h2 hta.S hta.W hN2 (hVb.out Y hY) hSb hwb hNb)
        rw [hNs.2.1, hNs.2.2] at CC
        obtain ⟨Rb, hRb⟩ : ∃ Rb, nsA a b = Rb := ⟨_, rfl⟩
        rw [hRb] at CP CC
        obtain ⟨Ib, hIb⟩ : ∃ Ib, nsI b = Ib := ⟨_, rfl⟩
        rw [hIb] at CI CP
        obtain ⟨Lb, hLb⟩ : ∃ Lb, nsR cs a b = Lb := ⟨_, rfl⟩
        obtain ⟨q5, hq5⟩ : ∃ q5, nsQ cs a b = q5 := ⟨_, rfl⟩
        rw [hLb, hq5] at CC ⊢
        clear hq hRb hIb hLb hq5 hNs hta hab hga hgb hi hgi hyb q4 hid0 hSi hC hs hnb h1 h2 h4 h5 k1 k2 k4 k5 hSa hwa hNa hCa hSb hwb hNb hCb hn l5
        obtain ⟨x0, x1, x2, x3, x4, x5⟩ := HBa.out.get
        obtain ⟨y0, y1, y2, y3, y4, y5⟩ := HBb.out.get
        go_enter Tryz.func53, Tryz.ntmps53
        go_wp2_with fail
        rw [HUq.out, HWq.out, HXq.out]
        go_wp2_with fail
        refine (CF.out X HB0.out).mono ?_
        rintro e w1 ⟨rfl, hb⟩
        have HB1 := Lib.hid (HB0.out.trans (hb.mono HB0.out.size))
        have HBa1 := Lib.hid (HBa.out.on hb)
        have HBb1 := Lib.hid (HBb.out.on hb)
        have HBr1 := Lib.hid (HBr.out.on hb)
        clear hb x0 x1 x2 x3 x4 x5 y0 y1 y2 y3 y4 y5
        obtain ⟨x0, x1, x2, x3, x4, x5⟩ := HBa1.out.get
        obtain ⟨y0, y1, y2, y3, y4, y5⟩ := HBb1.out.get
        go_wp2_with fail
        refine (CI.out w1 HB1.out).mono ?_
        rintro e w2 ⟨v2, rfl, hr, hb⟩
        have HNi := Lib.hid (nil_big hr)
        have HCi := Lib.hid (capO_big hr)
        obtain ⟨D1, g1, D2, g2, D4, g4, D5, g5, rfl⟩ := hr.shape
        have hbX := (Below.refl w2.heap.size w2).alloc (Nat.le_refl _) (.cells #[.int .i64 Ib.roots, .slice D1 Ib.nodes.length g1, .slice D2 Ib.sites.length g2, .int .i64 Ib.edges, .slice D4 Ib.outer.length g4, .slice D5 Ib.inner.length g5] 36)
        have hbx : BoxAt (w2.alloc (.cells #[.int .i64 Ib.roots, .slice D1 Ib.nodes.length g1, .slice D2 Ib.sites.length g2, .int .i64 Ib.edges, .slice D4 Ib.outer.length g4, .slice D5 Ib.inner.length g5] 36)) w2.heap.size 36 (.int .i64 Ib.roots) (.slice D1 Ib.nodes.length g1) (.slice D2 Ib.sites.length g2) (.int .i64 Ib.edges) (.slice D4 Ib.outer.length g4) (.slice D5 Ib.inner.length g5) := six_new w2 _ _ _ _ _ _ _
        have hb2 := hb.trans (hbX.mono hb.size)
        have HB2 := Lib.hid (HB1.out.trans (hb2.mono HB1.out.size))
        have HBa2 := Lib.hid (HBa1.out.on hb2)
        have HBb2 := Lib.hid (HBb1.out.on hb2)
        have HBr2 := Lib.hid (HBr1.out.on hb2)
        have HBx2 := Lib.hid hbx
        have HR2 := Lib.hid ((hr.on hbX).here)
        clear hb hbx hr hb2 x0 x1 x2 x3 x4 x5 y0 y1 y2 y3 y4 y5
        obtain ⟨x0, x1, x2, x3, x4, x5⟩ := HBa2.out.get
        obtain ⟨t0, t1, t2, t3, t4, t5⟩ := HBx2.out.get
        go_wp2_with fail
        obtain ⟨w3, hq3⟩ : ∃ w3, w2.alloc (.cells #[.int .i64 Ib.roots, .slice D1 Ib.nodes.length g1, .slice D2 Ib.sites.length g2, .int .i64 Ib.edges, .slice D4 Ib.outer.length g4, .slice D5 Ib.inner.length g5] 36) = w3 := ⟨_, rfl⟩
        rw [hq3] at HB2 HBa2 HBb2 HBr2 HBx2 HR2 hbX ⊢
        clear hq3 hbX x0 x1 x2 x3 x4 x5 t0 t1 t2 t3 t4 t5 HBx2 HB1 HBa1 HBb1 HBr1
        refine (CP.out _ w3 HB2.out HR2.out.at HNi.out HCi.out).mono ?_
        rintro e w4 ⟨v4, rfl, hr4, hb⟩
        have HNr := Lib.hid (nil_big hr4)
        obtain ⟨E1, e1, E2, e2, E4, e4, E5, e5, rfl⟩ := hr4.shape
        have hbY := (Below.refl w4.heap.size w4).alloc (Nat.le_refl _) (.cells #[.int .i64 Rb.roots, .slice E1 Rb.nodes.length e1, .slice E2 Rb.sites.length e2, .int .i64 Rb.edges, .slice E4 Rb.outer.length e4, .slice E5 Rb.inner.length e5] 36)
        have hby : BoxAt (w4.alloc (.cells #[.int .i64 Rb.roots, .slice E1 Rb.nodes.length e1, .slice E2 Rb.sites.length e2, .int .i64 Rb.edges, .slice E4 Rb.outer.length e4, .slice E5 Rb.inner.length e5] 36)) w4.heap.size 36 (.int .i64 Rb.roots) (.slice E1 Rb.nodes.length e1) (.slice E2 Rb.sites.length e2) (.int .i64 Rb.edges) (.slice E4 Rb.outer.length e4) (.slice E5 Rb.inner.length e5) := six_new w4 _ _ _ _ _ _ _
        have hb4 := hb.trans (hbY.mono hb.size)
        have HB4 := Lib.hid (HB2.out.trans (hb4.mono HB2.out.size))
        have HBb4 := Lib.hid (HBb2.out.on hb4)
        have HBr4 := Lib.hid (HBr2.out.on hb4)
        have HBy4 := Lib.hid hby
        have HR4 := Lib.hid ((hr4.on hbY).here)
        clear hb hby hr4 hb4 HB2 HBa2 HBb2 HBr2 HR2 HNi HCi
        obtain ⟨y0, y1, y2, y3, y4, y5⟩ := HBb4.out.get
        obtain ⟨t0, t1, t2, t3, t4, t5⟩ := HBy4.out.get
        go_wp2_with fail
        obtain ⟨w5, hq5⟩ : ∃ w5, w4.alloc (.cells #[.int .i64 Rb.roots, .slice E1 Rb.nodes.length e1, .slice E2 Rb.sites.length e2, .int .i64 Rb.edges, .slice E4 Rb.outer.length e4, .slice E5 Rb.inner.length e5] 36) = w5 := ⟨_, rfl⟩
        rw [hq5] at HB4 HBb4 HBr4 HBy4 HR4 hbY ⊢
        clear hq5 hbY y0 y1 y2 y3 y4 y5 t0 t1 t2 t3 t4 t5
        refine (CC.out _ w5 HB4.out HR4.out.at HNr.out).mono ?_
        rintro e w6 ⟨v6, rfl, hr6, hb⟩
        obtain ⟨K1, u1, K2, u2, K4, u4, K5, u5, rfl⟩ := hr6.shape
        have HB6 := Lib.hid (HB4.out.trans (hb.mono HB4.out.size))
        have HBr6 := Lib.hid (HBr4.out.on hb)
        have HR6 := Lib.hid (hr6.wide (lo' := w.heap.size) HB4.out.size (Nat.le_refl _))
        clear hr6 hb
        obtain ⟨z0, z1, z2, z3, z4, z5⟩ := HBr6.out.get
        have f0 := World.rowIs.frozen HBr6.out 0
        have f1 := World.rowIs.frozen HBr6.out 1
        have f2 := World.rowIs.frozen HBr6.out 2
        have f3 := World.rowIs.frozen HBr6.out 3
        have f4 := World.rowIs.frozen HBr6.out 4
        have f5 := World.rowIs.frozen HBr6.out 5
        go_wp2_with fail
        have hbig := (sets6_big HBr6.out HR6.out (.int .i64 Lb.roots) (.slice K1 Lb.nodes.length u1) (.slice K2 Lb.sites.length u2) (.int .i64 Lb.edges) (.slice K4 Lb.outer.length u4) (.slice K5 Lb.inner.length u5)).here
        have hbel := sets6_below HB6.out (Nat.le_add_right w.heap.size 2) (.int .i64 Lb.roots) (.slice K1 Lb.nodes.length u1) (.slice K2 Lb.sites.length u2) (.int .i64 Lb.edges) (.slice K4 Lb.outer.length u4) (.slice K5 Lb.inner.length u5)
        unfold sets6 at hbig hbel
        refine bodyPost_ret (v := .tuple #[.agg #[.int .i64 Lb.roots, .slice K1 Lb.nodes.length u1, .slice K2 Lb.sites.length u2, .int .i64 Lb.edges, .slice K4 Lb.outer.length u4, .slice K5 Lb.inner.length u5], .bool q5]) (by simp [results, Tryz.results53, go_sem, z0, z1, z2, z3, z4, z5]) rfl ⟨_, rfl, hbig, hbel⟩
    · have HR := Lib.hid (ns_no (cs := cs) (a := a) (b := b) (by unfold nsP; rw [hab, decide_eq_false hi]; rfl))
      rw [HR.out.1, HR.out.2]
      have hp5 : (0 : Int) < (n5 : Int) := by
        have : a.inner.length ≠ 0 := fun e => hi (List.length_eq_zero_iff.1 e)
        omega
      clear hab hga hgb hi hC hs l5
      obtain ⟨x0, x1, x2, x3, x4, x5⟩ := HBa.out.get
      obtain ⟨y0, y1, y2, y3, y4, y5⟩ := HBb.out.get
      go_enter Tryz.func53, Tryz.ntmps53
      go_wp2_with fail
      rw [HUq.out, HWq.out, HXq.out]
      go_wp2_with fail
      refine (CF.out X HB0.out).mono ?_
      rintro e w1 ⟨rfl, hb⟩
      have HB1 := Lib.hid (HB0.out.trans (hb.mono HB0.out.size))
      have HBa1 := Lib.hid (HBa.out.on hb)
      have HBb1 := Lib.hid (HBb.out.on hb)
      have HBr1 := Lib.hid (HBr.out.on hb)
      clear hb x0 x1 x2 x3 x4 x5 y0 y1 y2 y3 y4 y5
      obtain ⟨x0, x1, x2, x3, x4, x5⟩ := HBa1.out.get
      obtain ⟨z0, z1, z2, z3, z4, z5⟩ := HBr1.out.get
      have f0 := World.rowIs.frozen HBr1.out 0
      have f1 := World.rowIs.frozen HBr1.out 1
      have f2 := World.rowIs.frozen HBr1.out 2
      have f3 := World.rowIs.frozen HBr1.out 3
      have f4 := World.rowIs.frozen HBr1.out 4
      have f5 := World.rowIs.frozen HBr1.out 5
      go_wp2_with fail
      refine bodyPost_ret (v := .tuple #[.agg #[.int .i64 0, .slice none 0 0, .slice none 0 0, .int .i64 0, .slice none 0 0, .slice none 0 0], .bool false]) (by simp [results, Tryz.results53, go_sem, z0, z1, z2, z3, z4, z5]) rfl ⟨_, rfl, BigR.zero, sets6_below HB1.out (by omega) _ _ _ _ _ _⟩
end Go.Proofs.YtfjgapkjpmkplaaGreat.nsi
