/- FnExactNestBigraphs: at all arguments impl's function answers as spec's does, leaves them as they were, and its answer shares no memory. No condition. -/
import Derived.Test.YtfjgapkjpmkplaaGreatBa
import Derived.Test.YtfjgapkjpmkplaaGreatBb
import Derived.Test.YtfjgapkjpmkplaaGreatBc
import Derived.Test.YtfjgapkjpmkplaaGreatBd
import Derived.Test.YtfjgapkjpmkplaaGreatKc0
import Derived.Test.YtfjgapkjpmkplaaGreatKd0
import Derived.Test.YtfjgapkjpmkplaaGreatJSi
import Derived.Test.YtfjgapkjpmkplaaGreatJNsi
import Derived.Test.YtfjgapkjpmkplaaGreatRows
import Derived.WalkKit
import Derived.WalkSpells
import Derived.WalkLawsBesides
import Derived.ProofKit
import Derived.OpenShut
import Derived.ShutString
import Derived.Deep.OwnRows
import Derived.Deep.Draws
import Derived.SliceStrings
import Derived.ChangeOld
import Derived.Below
import Derived.Lib.Hide
import Derived.Lib.ItoaNum
import Derived.Deep.QuietTactic
import Derived.BigQuiet
import Derived.Outline
import Derived.StillTailTactics
import Derived.Deep.RegionWith
import Derived.Deep.RegionHeld3
import Derived.Deep.Slices
import Derived.Deep.Fields
import Derived.ChangeSame
import Derived.Lib.SmallJoins
import Derived.Maps.OwnOps
import Derived.Maps.OwnIn
import Derived.Maps.Views
import Derived.Maps.AppendAt
import Derived.RangeFuncBox
import Derived.RangeFuncLeaves
import Derived.Shelf.Abstract
import Derived.OwnWalkIn
import Derived.TacticsInMore
import Derived.LoopNIn
import Derived.LoopIn
import Derived.RangeFuncWrites
import Derived.RangeFuncNested
import Derived.JoinedOf
import Derived.Deep.AppendLies
import Derived.Deep.RegionLaw
import Derived.Laws.AppendOwnNone
import Derived.Deep.Cut
import Derived.Deep.CutRange
import Derived.Lib.SliceRun
import Derived.Lib.AppendZerosOnto
import Derived.OrdersHeld
import Derived.StillTail
import Derived.Lib.Walk
import Derived.Deep.LoopGhost
import Derived.Handy
import Derived.Lib.LazyBuf
import Derived.Sort.OwnSorted
import Derived.Lib.SlicesCompact
import Derived.Sort.KeysCollected
import Derived.Test.YtfjgapkjpmkplaaGreatSfl
import Derived.Shelf.SlSortCmp.NoneTotal
import Derived.WalkMore
import Derived.ScopeJumps
import Derived.Test.YtfjgapkjpmkplaaGreatSrt
import Derived.Laws.EntriesVeiled
set_option linter.unusedSimpArgs false
set_option linter.unusedVariables false
namespace Go.Proofs.YtfjgapkjpmkplaaGreat.fnExactNestBigraphs
open kit bg opn strs sig isig hc only hb ht gd cf rs marks hi br bm bw lw sd nsx nsi nsq
open Go.ChangeShapes Go.WideShapes Go.ChangeAt Go.RowKit
open Go.ChangeMaps (open_string shut_string)
set_option linter.unusedVariables false
set_option maxRecDepth 20000 in
set_option maxHeartbeats 6400000 in
theorem walk (A0 : Option Addr) (n0 c0 : Nat) (cs0 : List Ctl) (v1 : Value) (b1 : Big) (v2 : Value) (b2 : Big) (w : World) (h0 : CtlsAt w w.heap.size A0 n0 cs0) (hw0 : CtlsW cs0) (h1 : BigAt w w.heap.size v1 b1) (hw1 : BigW b1) (h2 : BigAt w w.heap.size v2 b2) (hw2 : BigW b2) :
    Calls Tryz.prog 13 #[.slice A0 n0 c0, v1, v2] w fun e w' => e = .returned (.bool true) ∧ Below w.heap.size w w' := by
  have HA0 := Lib.hid h0
  clear h0
  have HL0 := Lib.hid HA0.out.1
  have HVW1 := Lib.hid hw1
  have HA1 := Lib.hid h1
  obtain ⟨A11, n11, c11, A21, n21, c21, A41, n41, c41, A51, n51, c51, rfl, -⟩ := h1
  have HVW2 := Lib.hid hw2
  have HA2 := Lib.hid h2
  obtain ⟨A12, n12, c12, A22, n22, c22, A42, n42, c42, A52, n52, c52, rfl, -⟩ := h2
  have HBox1 : Hid (BoxAt (w.alloc (.cells #[.int .i64 b1.roots, .slice A11 n11 c11, .slice A21 n21 c21, .int .i64 b1.edges, .slice A41 n41 c41, .slice A51 n51 c51] 28)) w.heap.size 28 (.int .i64 b1.roots) (.slice A11 n11 c11) (.slice A21 n21 c21) (.int .i64 b1.edges) (.slice A41 n41 c41) (.slice A51 n51 c51)) := Lib.hid (six_new w _ _ _ _ _ _ _)
  have hbX := (Below.refl w.heap.size w).alloc (Nat.le_refl _) (.cells #[.int .i64 b1.roots, .slice A11 n11 c11, .slice A21 n21 c21, .int .i64 b1.edges, .slice A41 n41 c41, .slice A51 n51 c51] 28)
  obtain ⟨W0, hW⟩ : ∃ W, w.alloc (.cells #[.int .i64 b1.roots, .slice A11 n11 c11, .slice A21 n21 c21, .int .i64 b1.edges, .slice A41 n41 c41, .slice A51 n51 c51] 28) = W := ⟨_, rfl⟩
  have hWz0 : W0.heap.size = w.heap.size + 1 := by rw [← hW]; simp
  rw [hW] at HBox1 hbX
  have HWq0 := Lib.hid hW
  have HB0 := Lib.hid (hbX)
  clear hW hbX
  have HBox2 : Hid (BoxAt (W0.alloc (.cells #[.int .i64 b2.roots, .slice A12 n12 c12, .slice A22 n22 c22, .int .i64 b2.edges, .slice A42 n42 c42, .slice A52 n52 c52] 28)) W0.heap.size 28 (.int .i64 b2.roots) (.slice A12 n12 c12) (.slice A22 n22 c22) (.int .i64 b2.edges) (.slice A42 n42 c42) (.slice A52 n52 c52)) := Lib.hid (six_new W0 _ _ _ _ _ _ _)
  have hbX := (Below.refl W0.heap.size W0).alloc (Nat.le_refl _) (.cells #[.int .i64 b2.roots, .slice A12 n12 c12, .slice A22 n22 c22, .int .i64 b2.edges, .slice A42 n42 c42, .slice A52 n52 c52] 28)
  obtain ⟨W1, hW⟩ : ∃ W, W0.alloc (.cells #[.int .i64 b2.roots, .slice A12 n12 c12, .slice A22 n22 c22, .int .i64 b2.edges, .slice A42 n42 c42, .slice A52 n52 c52] 28) = W := ⟨_, rfl⟩
  have hWz1 : W1.heap.size = W0.heap.size + 1 := by rw [← hW]; simp
  rw [hW] at HBox2 hbX
  have HWq1 := Lib.hid hW
  have HBox1 := Lib.hid (HBox1.out.on hbX)
  have HB1 := Lib.hid (HB0.out.trans (hbX.mono HB0.out.size))
  clear hW hbX
  have HZ0 := Lib.hid hWz0
  have HZ1 := Lib.hid hWz1
  rw [show W0.heap.size = w.heap.size + 1 by have := HZ0.out;  omega] at HBox2
  have HK0 := Lib.hid HB1.out
  clear hWz0 hWz1
  obtain ⟨w0, hWw⟩ : ∃ w0, W1 = w0 := ⟨_, rfl⟩
  rw [hWw] at HK0 HWq1 HZ1 HBox1 HBox2
  clear hWw
  have HZw : Hid (w.heap.size ≤ w0.heap.size) := Lib.hid HK0.out.size
  go_enter Tryz.func13, Tryz.ntmps13
  go_wp2_with fail
  rw [HWq0.out]
  rw [HWq1.out]
  refine (szCS_any A0 n0 c0 cs0 1048576 _ _ ((HA0.out.below HK0.out).wide HK0.out.size) (Nat.le_refl _) (by omega) (by omega) hw0).mono ?_
  rintro e w1 ⟨r0, rfl, hr, hra0, hrb0, hb⟩
  have HZ_1 : Hid (w0.heap.size ≤ w1.heap.size) := Lib.hid hb.size
  have HKn := Lib.hid (HK0.out.trans (hb.mono HK0.out.size))
  clear HK0
  have HK0 := Lib.hid HKn.out
  clear HKn
  have HT := Lib.hid (HBox1.out.on hb)
  clear HBox1
  have HBox1 := Lib.hid HT.out
  clear HT
  have HT := Lib.hid (HBox2.out.on hb)
  clear HBox2
  have HBox2 := Lib.hid HT.out
  clear HT
  clear hb
  by_cases hneg : r0 < 0
  · go_wp2_with fail
    go_ret
    exact ⟨rfl, HK0.out⟩
  have hpos0 : 0 ≤ r0 := by omega
  have HWt0 : Hid (r0 = 1048576 - (ctlsWt cs0 : Nat)) := Lib.hid (by omega)
  have hup0 : r0 ≤ 1048576 := by omega
  have hn0 : n0 ≤ 1048576 := by have := HL0.out; unfold ctlsWt at hr; omega
  have HS0 := Lib.hid (fun c (hc : c ∈ cs0) => show c.name.size ≤ 1048576 by have := sumBy_mem (fun c : Ctl => c.name.size) hc; unfold ctlsWt at hr; omega)
  clear hr hneg hra0 hrb0
  obtain ⟨x0, x1, x2, x3, x4, x5⟩ := HBox1.out.get
  go_wp2_with fail
  refine (szB_any _ b1 r0 _ _ ((HA1.out.below HK0.out).wide HK0.out.size) (Nat.le_refl _) (by omega) (by omega) HVW1.out).mono ?_
  rintro e w2 ⟨r1, rfl, hr, hra1, hrb1, hb⟩
  clear x0 x1 x2 x3 x4 x5
  have HZ_2 : Hid (w1.heap.size ≤ w2.heap.size) := Lib.hid hb.size
  have HKn := Lib.hid (HK0.out.trans (hb.mono HK0.out.size))
  clear HK0
  have HK0 := Lib.hid HKn.out
  clear HKn
  have HT := Lib.hid (HBox1.out.on hb)
  clear HBox1
  have HBox1 := Lib.hid HT.out
  clear HT
  have HT := Lib.hid (HBox2.out.on hb)
  clear HBox2
  have HBox2 := Lib.hid HT.out
  clear HT
  clear hb
  by_cases hneg : r1 < 0
  · go_wp2_with fail
    go_ret
    exact ⟨rfl, HK0.out⟩
  have hpos1 : 0 ≤ r1 := by omega
  have HWt1 : Hid (r1 = r0 - (bigWt b1 : Nat)) := Lib.hid (by omega)
  have hup1 : r1 ≤ 1048576 := by omega
  have hwt1 : bigWt b1 ≤ 1048576 := by omega
  have HWT1 := Lib.hid hwt1
  have HBS1 := Lib.hid (bigS_of hwt1)
  clear hwt1
  clear hr hneg hra1 hrb1
  obtain ⟨x0, x1, x2, x3, x4, x5⟩ := HBox2.out.get
  go_wp2_with fail
  refine (szB_any _ b2 r1 _ _ ((HA2.out.below HK0.out).wide HK0.out.size) (Nat.le_refl _) (by omega) (by omega) HVW2.out).mono ?_
  rintro e w3 ⟨r2, rfl, hr, hra2, hrb2, hb⟩
  clear x0 x1 x2 x3 x4 x5
  have HZ_3 : Hid (w2.heap.size ≤ w3.heap.size) := Lib.hid hb.size
  have HKn := Lib.hid (HK0.out.trans (hb.mono HK0.out.size))
  clear HK0
  have HK0 := Lib.hid HKn.out
  clear HKn
  have HT := Lib.hid (HBox1.out.on hb)
  clear HBox1
  have HBox1 := Lib.hid HT.out
  clear HT
  have HT := Lib.hid (HBox2.out.on hb)
  clear HBox2
  have HBox2 := Lib.hid HT.out
  clear HT
  clear hb
  by_cases hneg : r2 < 0
  · go_wp2_with fail
    go_ret
    exact ⟨rfl, HK0.out⟩
  have hpos2 : 0 ≤ r2 := by omega
  have HWt2 : Hid (r2 = r1 - (bigWt b2 : Nat)) := Lib.hid (by omega)
  have hup2 : r2 ≤ 1048576 := by omega
  have hwt2 : bigWt b2 ≤ 1048576 := by omega
  have HWT2 := Lib.hid hwt2
  have HBS2 := Lib.hid (bigS_of hwt2)
  clear hwt2
  clear hr hneg hra2 hrb2
  obtain ⟨q, hq⟩ : ∃ q, nsQ cs0 b1 b2 = q := ⟨_, rfl⟩
  obtain ⟨R0, hR0⟩ : ∃ r : Big, nsR cs0 b1 b2 = r := ⟨_, rfl⟩
  have hM0 : bigMk R0 ≤ 1048576 := by rw [← hR0]; exact nsR_len cs0 b1 b2
  have HSp := Lib.hid (fun (A0 : Option Addr) (c0 : Nat) (v1 : Value) (v2 : Value) (w : World) (h0 : CtlsAt w w.heap.size A0 n0 cs0) (h1 : BigAt w w.heap.size v1 b1) (g1 : NilV v1) (h2 : BigAt w w.heap.size v2 b2) (g2 : NilV v2) => hR0 ▸ hq ▸ sNs_any A0 n0 c0 cs0 v1 b1 v2 b2 w h0 hn0 HS0.out h1 HBS1.out HVW1.out g1 h2 HBS2.out HVW2.out g2)
  have HIm := Lib.hid (fun (A0 : Option Addr) (c0 : Nat) (v1 : Value) (v2 : Value) (w : World) (h0 : CtlsAt w w.heap.size A0 n0 cs0) (h1 : BigAt w w.heap.size v1 b1) (g1 : NilV v1 ∧ si.CapO v1) (h2 : BigAt w w.heap.size v2 b2) (g2 : NilV v2 ∧ si.CapO v2) => hR0 ▸ hq ▸ iNs_any A0 n0 c0 cs0 v1 b1 v2 b2 w h0 hn0 HS0.out h1 HBS1.out HVW1.out g1.1 g1.2 h2 HBS2.out HVW2.out g2.1 g2.2)
  clear hq hR0
  obtain ⟨x1_0, x1_1, x1_2, x1_3, x1_4, x1_5⟩ := HBox1.out.get
  obtain ⟨x2_0, x2_1, x2_2, x2_3, x2_4, x2_5⟩ := HBox2.out.get
  go_wp2_with fail
  go_cut [8, 9] from 35 to 44 (fun s6 s7 wx => GotBox w3 q R0 s6 s7 wx)
  case first =>
    have hkD := (Below.refl w3.heap.size w3).drew
    go_region_held3 (fun w' => (w'.cell? ⟨w.heap.size, 0, none⟩ = some (.int .i64 b1.roots) ∧ w'.cell? ⟨w.heap.size, 1, none⟩ = some (.slice A11 n11 c11) ∧ w'.cell? ⟨w.heap.size, 2, none⟩ = some (.slice A21 n21 c21) ∧ w'.cell? ⟨w.heap.size, 3, none⟩ = some (.int .i64 b1.edges) ∧ w'.cell? ⟨w.heap.size, 4, none⟩ = some (.slice A41 n41 c41) ∧ w'.cell? ⟨w.heap.size, 5, none⟩ = some (.slice A51 n51 c51)) ∧ (w'.cell? ⟨w.heap.size + 1, 0, none⟩ = some (.int .i64 b2.roots) ∧ w'.cell? ⟨w.heap.size + 1, 1, none⟩ = some (.slice A12 n12 c12) ∧ w'.cell? ⟨w.heap.size + 1, 2, none⟩ = some (.slice A22 n22 c22) ∧ w'.cell? ⟨w.heap.size + 1, 3, none⟩ = some (.int .i64 b2.edges) ∧ w'.cell? ⟨w.heap.size + 1, 4, none⟩ = some (.slice A42 n42 c42) ∧ w'.cell? ⟨w.heap.size + 1, 5, none⟩ = some (.slice A52 n52 c52))) (first | with_reducible exact ⟨(HBox1.out.on (((((((hkZ).setCell hβ _).setCell hβ _).setCell hβ _).setCell hβ _).setCell hβ _).setCell hβ _)).get, (HBox2.out.on (((((((hkZ).setCell hβ _).setCell hβ _).setCell hβ _).setCell hβ _).setCell hβ _).setCell hβ _)).get⟩ | with_reducible exact ⟨(HBox1.out.on (((((((hkZ.alloc hkZ.size _).setCell hkZ.size _).setCell hkZ.size _).setCell hkZ.size _).setCell hkZ.size _).setCell hkZ.size _).setCell hkZ.size _)).get, (HBox2.out.on (((((((hkZ.alloc hkZ.size _).setCell hkZ.size _).setCell hkZ.size _).setCell hkZ.size _).setCell hkZ.size _).setCell hkZ.size _).setCell hkZ.size _)).get⟩ | with_reducible exact ⟨(HBox1.out.on hkZ).get, (HBox2.out.on hkZ).get⟩ | with_reducible exact ⟨(HBox1.out.on (hkZ.alloc hkZ.size _)).get, (HBox2.out.on (hkZ.alloc hkZ.size _)).get⟩ | with_reducible exact ⟨(HBox1.out.on hkb2).get, (HBox2.out.on hkb2).get⟩ | with_reducible exact ⟨(HBox1.out.on (hkb2.alloc hkb2.size _)).get, (HBox2.out.on (hkb2.alloc hkb2.size _)).get⟩ | with_reducible exact ⟨(HBox1.out.on hkb1).get, (HBox2.out.on hkb1).get⟩ | with_reducible exact ⟨(HBox1.out.on (hkb1.alloc hkb1.size _)).get, (HBox2.out.on (hkb1.alloc hkb1.size _)).get⟩ | with_reducible exact ⟨(HBox1.out.on hkb0).get, (HBox2.out.on hkb0).get⟩ | with_reducible exact ⟨(HBox1.out.on (hkb0.alloc hkb0.size _)).get, (HBox2.out.on (hkb0.alloc hkb0.size _)).get⟩ | with_reducible exact ⟨(HBox1.out.on hkD).get, (HBox2.out.on hkD).get⟩ | with_reducible exact ⟨(HBox1.out.on ((Below.refl w3.heap.size w3).alloc (Nat.le_refl _) _).drew).get, (HBox2.out.on ((Below.refl w3.heap.size w3).alloc (Nat.le_refl _) _).drew).get⟩)
      (first
       | (have hTest := hβ; go_at_call 27; refine (toB_any _ b2 _ ((HA2.out.below (HK0.out.trans (hkb1.mono HK0.out.size))).wide (HK0.out.trans (hkb1.mono HK0.out.size)).size) HBS2.out).mono ?_; rintro e ub2 ⟨Vb2, rfl, hob2, hb⟩; have hkb2 := hkb1.trans (hb.mono hkb1.size); have hob0 := hob0.on hb; have hob1 := hob1.on hb; have hrow := hrow.of_block (hb.block _ hrow.lt); clear hTest; clear hb)
       | (go_at_call 27; refine (toB_any _ b2 _ ((HA2.out.below (HK0.out.trans ((hkb1.alloc hkb1.size (.cells #[.int .i64 0, .slice none 0 0, .slice none 0 0, .int .i64 0, .slice none 0 0, .slice none 0 0] 36)).mono HK0.out.size))).wide (HK0.out.trans ((hkb1.alloc hkb1.size (.cells #[.int .i64 0, .slice none 0 0, .slice none 0 0, .int .i64 0, .slice none 0 0, .slice none 0 0] 36)).mono HK0.out.size)).size) HBS2.out).mono ?_; rintro e ub2 ⟨Vb2, rfl, hob2, hb⟩; have hkb2 := (hkb1.alloc hkb1.size (.cells #[.int .i64 0, .slice none 0 0, .slice none 0 0, .int .i64 0, .slice none 0 0, .slice none 0 0] 36)).trans (hb.mono (hkb1.alloc hkb1.size (.cells #[.int .i64 0, .slice none 0 0, .slice none 0 0, .int .i64 0, .slice none 0 0, .slice none 0 0] 36)).size); have hob0 := (hob0.on ((Below.refl _ _).alloc (Nat.le_refl _) (.cells #[.int .i64 0, .slice none 0 0, .slice none 0 0, .int .i64 0, .slice none 0 0, .slice none 0 0] 36))).on hb; have hob1 := (hob1.on ((Below.refl _ _).alloc (Nat.le_refl _) (.cells #[.int .i64 0, .slice none 0 0, .slice none 0 0, .int .i64 0, .slice none 0 0, .slice none 0 0] 36))).on hb; have hβ := hkb1.size; have hrow := (six_new ub1 (.int .i64 0) (.slice none 0 0) (.slice none 0 0) (.int .i64 0) (.slice none 0 0) (.slice none 0 0) 36).of_block (hb.block _ (by simp)); clear hb)
       | (go_at_call 27; refine (toB_any _ b2 _ ((HA2.out.below (HK0.out.trans (hkb1.mono HK0.out.size))).wide (HK0.out.trans (hkb1.mono HK0.out.size)).size) HBS2.out).mono ?_; rintro e ub2 ⟨Vb2, rfl, hob2, hb⟩; have hkb2 := hkb1.trans (hb.mono hkb1.size); have hob0 := hob0.on hb; have hob1 := hob1.on hb; clear hb)
       | (have hTest := hβ; go_at_call 27; refine (toB_any _ b1 _ ((HA1.out.below (HK0.out.trans (hkb0.mono HK0.out.size))).wide (HK0.out.trans (hkb0.mono HK0.out.size)).size) HBS1.out).mono ?_; rintro e ub1 ⟨Vb1, rfl, hob1, hb⟩; have hkb1 := hkb0.trans (hb.mono hkb0.size); have hob0 := hob0.on hb; have hrow := hrow.of_block (hb.block _ hrow.lt); clear hTest; clear hb)
       | (go_at_call 27; refine (toB_any _ b1 _ ((HA1.out.below (HK0.out.trans ((hkb0.alloc hkb0.size (.cells #[.int .i64 0, .slice none 0 0, .slice none 0 0, .int .i64 0, .slice none 0 0, .slice none 0 0] 36)).mono HK0.out.size))).wide (HK0.out.trans ((hkb0.alloc hkb0.size (.cells #[.int .i64 0, .slice none 0 0, .slice none 0 0, .int .i64 0, .slice none 0 0, .slice none 0 0] 36)).mono HK0.out.size)).size) HBS1.out).mono ?_; rintro e ub1 ⟨Vb1, rfl, hob1, hb⟩; have hkb1 := (hkb0.alloc hkb0.size (.cells #[.int .i64 0, .slice none 0 0, .slice none 0 0, .int .i64 0, .slice none 0 0, .slice none 0 0] 36)).trans (hb.mono (hkb0.alloc hkb0.size (.cells #[.int .i64 0, .slice none 0 0, .slice none 0 0, .int .i64 0, .slice none 0 0, .slice none 0 0] 36)).size); have hob0 := (hob0.on ((Below.refl _ _).alloc (Nat.le_refl _) (.cells #[.int .i64 0, .slice none 0 0, .slice none 0 0, .int .i64 0, .slice none 0 0, .slice none 0 0] 36))).on hb; have hβ := hkb0.size; have hrow := (six_new ub0 (.int .i64 0) (.slice none 0 0) (.slice none 0 0) (.int .i64 0) (.slice none 0 0) (.slice none 0 0) 36).of_block (hb.block _ (by simp)); clear hb)
       | (go_at_call 27; refine (toB_any _ b1 _ ((HA1.out.below (HK0.out.trans (hkb0.mono HK0.out.size))).wide (HK0.out.trans (hkb0.mono HK0.out.size)).size) HBS1.out).mono ?_; rintro e ub1 ⟨Vb1, rfl, hob1, hb⟩; have hkb1 := hkb0.trans (hb.mono hkb0.size); have hob0 := hob0.on hb; clear hb)
       | (go_at_call 17; refine (toCS_any A0 n0 c0 cs0 _ ((HA0.out.below (HK0.out.trans ((((Below.refl w3.heap.size w3).alloc (Nat.le_refl _) (.cells #[.int .i64 0, .slice none 0 0, .slice none 0 0, .int .i64 0, .slice none 0 0, .slice none 0 0] 36)).drew).mono HK0.out.size))).wide (HK0.out.trans ((((Below.refl w3.heap.size w3).alloc (Nat.le_refl _) (.cells #[.int .i64 0, .slice none 0 0, .slice none 0 0, .int .i64 0, .slice none 0 0, .slice none 0 0] 36)).drew).mono HK0.out.size)).size) hn0).mono ?_; rintro e ub0 ⟨Vb0, rfl, hob0, hb⟩; have hkb0 := (((Below.refl w3.heap.size w3).alloc (Nat.le_refl _) (.cells #[.int .i64 0, .slice none 0 0, .slice none 0 0, .int .i64 0, .slice none 0 0, .slice none 0 0] 36)).drew).trans (hb.mono (((Below.refl w3.heap.size w3).alloc (Nat.le_refl _) (.cells #[.int .i64 0, .slice none 0 0, .slice none 0 0, .int .i64 0, .slice none 0 0, .slice none 0 0] 36)).drew).size); have hβ := Nat.le_refl w3.heap.size; have hrow := (World.rowIs.drew (six_new w3 (.int .i64 0) (.slice none 0 0) (.slice none 0 0) (.int .i64 0) (.slice none 0 0) (.slice none 0 0) 36)).of_block (hb.block _ (by simp)); clear hb)
       | (go_at_call 17; refine (toCS_any A0 n0 c0 cs0 _ ((HA0.out.below (HK0.out.trans (hkD.mono HK0.out.size))).wide (HK0.out.trans (hkD.mono HK0.out.size)).size) hn0).mono ?_; rintro e ub0 ⟨Vb0, rfl, hob0, hb⟩; have hkb0 := hkD.trans (hb.mono hkD.size); clear hb)
       | (have hTest := hβ; go_at_call 52; refine (HSp.out _ _ _ _ _ hob0.here hob1.here (NilV.of_own hob1) hob2.here (NilV.of_own hob2)).mono ?_; rintro e w4 ⟨vb0, rfl, hrb0, hb⟩; obtain ⟨B1b0, d1b0, B2b0, d2b0, B4b0, d4b0, B5b0, d5b0, rfl⟩ := hrb0.shape; have hkZ := hkb2.trans (hb.mono hkb2.size); have hrb0 := hrb0.wide (lo' := w3.heap.size) hkb2.size (Nat.le_refl _); have hrow := hrow.of_block (hb.block _ hrow.lt); clear hTest; obtain ⟨z0, z1, z2, z3, z4, z5⟩ := row6 hrow; have f0 := hrow.frozen 0; have f1 := hrow.frozen 1; have f2 := hrow.frozen 2; have f3 := hrow.frozen 3; have f4 := hrow.frozen 4; have f5 := hrow.frozen 5; clear hb)
       | (go_at_call 52; refine (HSp.out _ _ _ _ _ (hob0.on ((Below.refl _ _).alloc (Nat.le_refl _) (.cells #[.int .i64 0, .slice none 0 0, .slice none 0 0, .int .i64 0, .slice none 0 0, .slice none 0 0] 36))).here (hob1.on ((Below.refl _ _).alloc (Nat.le_refl _) (.cells #[.int .i64 0, .slice none 0 0, .slice none 0 0, .int .i64 0, .slice none 0 0, .slice none 0 0] 36))).here (NilV.of_own (hob1.on ((Below.refl _ _).alloc (Nat.le_refl _) (.cells #[.int .i64 0, .slice none 0 0, .slice none 0 0, .int .i64 0, .slice none 0 0, .slice none 0 0] 36)))) (hob2.on ((Below.refl _ _).alloc (Nat.le_refl _) (.cells #[.int .i64 0, .slice none 0 0, .slice none 0 0, .int .i64 0, .slice none 0 0, .slice none 0 0] 36))).here (NilV.of_own (hob2.on ((Below.refl _ _).alloc (Nat.le_refl _) (.cells #[.int .i64 0, .slice none 0 0, .slice none 0 0, .int .i64 0, .slice none 0 0, .slice none 0 0] 36))))).mono ?_; rintro e w4 ⟨vb0, rfl, hrb0, hb⟩; obtain ⟨B1b0, d1b0, B2b0, d2b0, B4b0, d4b0, B5b0, d5b0, rfl⟩ := hrb0.shape; have hkZ := (hkb2.alloc hkb2.size (.cells #[.int .i64 0, .slice none 0 0, .slice none 0 0, .int .i64 0, .slice none 0 0, .slice none 0 0] 36)).trans (hb.mono (hkb2.alloc hkb2.size (.cells #[.int .i64 0, .slice none 0 0, .slice none 0 0, .int .i64 0, .slice none 0 0, .slice none 0 0] 36)).size); have hrb0 := hrb0.wide (lo' := w3.heap.size) (hkb2.alloc hkb2.size (.cells #[.int .i64 0, .slice none 0 0, .slice none 0 0, .int .i64 0, .slice none 0 0, .slice none 0 0] 36)).size (Nat.le_refl _); have hβ := hkb2.size; have hrow := (six_new ub2 (.int .i64 0) (.slice none 0 0) (.slice none 0 0) (.int .i64 0) (.slice none 0 0) (.slice none 0 0) 36).of_block (hb.block _ (by simp)); obtain ⟨z0, z1, z2, z3, z4, z5⟩ := row6 hrow; have f0 := hrow.frozen 0; have f1 := hrow.frozen 1; have f2 := hrow.frozen 2; have f3 := hrow.frozen 3; have f4 := hrow.frozen 4; have f5 := hrow.frozen 5; clear hb)
       | (go_at_call 52; refine (HSp.out _ _ _ _ _ hob0.here hob1.here (NilV.of_own hob1) hob2.here (NilV.of_own hob2)).mono ?_; rintro e w4 ⟨vb0, rfl, hrb0, hb⟩; obtain ⟨B1b0, d1b0, B2b0, d2b0, B4b0, d4b0, B5b0, d5b0, rfl⟩ := hrb0.shape; have hkZ := hkb2.trans (hb.mono hkb2.size); have hrb0 := hrb0.wide (lo' := w3.heap.size) hkb2.size (Nat.le_refl _); clear hb))
    all_goals (go_wp2_with fail; go_meet)
    all_goals (first | with_reducible exact got_late q hrb0 (Nat.le_refl _) hkZ | with_reducible exact got_early q hrow hβ hrb0 (Nat.le_refl _) hkZ)
  case rest =>
  clear x1_0 x1_1 x1_2 x1_3 x1_4 x1_5
  clear x2_0 x2_1 x2_2 x2_3 x2_4 x2_5
  obtain ⟨w4, hwc⟩ : ∃ x, wc = x := ⟨_, rfl⟩
  rw [hwc] at hcut ⊢
  clear hwc
  obtain ⟨βb, B1b0, d1b0, B2b0, d2b0, B4b0, d4b0, B5b0, d5b0, rfl, rfl, hβb, hbox, hrb0, hb⟩ := hcut
  have HZ_4 : Hid (w3.heap.size ≤ w4.heap.size) := Lib.hid hb.size
  have HKn := Lib.hid (HK0.out.trans (hb.mono HK0.out.size))
  clear HK0
  have HK0 := Lib.hid HKn.out
  clear HKn
  have HT := Lib.hid (HBox1.out.on hb)
  clear HBox1
  have HBox1 := Lib.hid HT.out
  clear HT
  have HT := Lib.hid (HBox2.out.on hb)
  clear HBox2
  have HBox2 := Lib.hid HT.out
  clear HT
  clear hb
  have HBxb := Lib.hid hbox
  clear hbox
  have HRb := Lib.hid hrb0
  clear hrb0
  have Hβb := Lib.hid (And.intro hβb (World.rowIs.lt HBxb.out))
  clear hβb
  go_wp2_with fail
  refine (toCS_any A0 n0 c0 cs0 _ ((HA0.out.below HK0.out).wide HK0.out.size) hn0).mono ?_
  rintro e w5 ⟨X0, rfl, ho, hb⟩
  have HZ_5 : Hid (w4.heap.size ≤ w5.heap.size) := Lib.hid hb.size
  have HKn := Lib.hid (HK0.out.trans (hb.mono HK0.out.size))
  clear HK0
  have HK0 := Lib.hid HKn.out
  clear HKn
  have HT := Lib.hid (HBox1.out.on hb)
  clear HBox1
  have HBox1 := Lib.hid HT.out
  clear HT
  have HT := Lib.hid (HBox2.out.on hb)
  clear HBox2
  have HBox2 := Lib.hid HT.out
  clear HT
  have HT := Lib.hid (HBxb.out.on hb)
  clear HBxb
  have HBxb := Lib.hid HT.out
  clear HT
  have HT := Lib.hid (HRb.out.on hb)
  clear HRb
  have HRb := Lib.hid HT.out
  clear HT
  clear hb
  have HX0 := Lib.hid ho
  clear ho
  obtain ⟨x0, x1, x2, x3, x4, x5⟩ := HBox1.out.get
  go_wp2_with fail
  clear x0 x1 x2 x3 x4 x5
  refine (toB_any _ b1 _ ((HA1.out.below HK0.out).wide HK0.out.size) HBS1.out).mono ?_
  rintro e w6 ⟨X1, rfl, ho, hb⟩
  have HZ_6 : Hid (w5.heap.size ≤ w6.heap.size) := Lib.hid hb.size
  have HKn := Lib.hid (HK0.out.trans (hb.mono HK0.out.size))
  clear HK0
  have HK0 := Lib.hid HKn.out
  clear HKn
  have HT := Lib.hid (HBox1.out.on hb)
  clear HBox1
  have HBox1 := Lib.hid HT.out
  clear HT
  have HT := Lib.hid (HBox2.out.on hb)
  clear HBox2
  have HBox2 := Lib.hid HT.out
  clear HT
  have HT := Lib.hid (HBxb.out.on hb)
  clear HBxb
  have HBxb := Lib.hid HT.out
  clear HT
  have HT := Lib.hid (HRb.out.on hb)
  clear HRb
  have HRb := Lib.hid HT.out
  clear HT
  have HT := Lib.hid (HX0.out.on hb)
  clear HX0
  have HX0 := Lib.hid HT.out
  clear HT
  clear hb
  have HX1 := Lib.hid ho
  obtain ⟨y11, y21, y41, y51, rfl, -⟩ := ho
  have hbX := (Below.refl w6.heap.size w6).alloc (Nat.le_refl _) (.cells #[.int .i64 b1.roots, .slice (some ⟨y11, 0, none⟩) b1.nodes.length b1.nodes.length, .slice (some ⟨y21, 0, none⟩) b1.sites.length b1.sites.length, .int .i64 b1.edges, .slice (some ⟨y41, 0, none⟩) b1.outer.length b1.outer.length, .slice (some ⟨y51, 0, none⟩) b1.inner.length b1.inner.length] 36)
  obtain ⟨x0, x1, x2, x3, x4, x5⟩ := (HBox2.out.on hbX).get
  go_wp2_with fail
  clear x0 x1 x2 x3 x4 x5
  have HBy1 : Hid (BoxAt (w6.alloc (.cells #[.int .i64 b1.roots, .slice (some ⟨y11, 0, none⟩) b1.nodes.length b1.nodes.length, .slice (some ⟨y21, 0, none⟩) b1.sites.length b1.sites.length, .int .i64 b1.edges, .slice (some ⟨y41, 0, none⟩) b1.outer.length b1.outer.length, .slice (some ⟨y51, 0, none⟩) b1.inner.length b1.inner.length] 36)) w6.heap.size 36 (.int .i64 b1.roots) (.slice (some ⟨y11, 0, none⟩) b1.nodes.length b1.nodes.length) (.slice (some ⟨y21, 0, none⟩) b1.sites.length b1.sites.length) (.int .i64 b1.edges) (.slice (some ⟨y41, 0, none⟩) b1.outer.length b1.outer.length) (.slice (some ⟨y51, 0, none⟩) b1.inner.length b1.inner.length)) := Lib.hid (six_new w6 _ _ _ _ _ _ _)
  obtain ⟨w7, hwn⟩ : ∃ x, w6.alloc (.cells #[.int .i64 b1.roots, .slice (some ⟨y11, 0, none⟩) b1.nodes.length b1.nodes.length, .slice (some ⟨y21, 0, none⟩) b1.sites.length b1.sites.length, .int .i64 b1.edges, .slice (some ⟨y41, 0, none⟩) b1.outer.length b1.outer.length, .slice (some ⟨y51, 0, none⟩) b1.inner.length b1.inner.length] 36) = x := ⟨_, rfl⟩
  have HZs_7 : Hid (w6.heap.size < w7.heap.size) := Lib.hid (by rw [← hwn]; simp)
  rw [hwn] at HBy1 hbX ⊢
  clear hwn
  have HZ_7 : Hid (w6.heap.size ≤ w7.heap.size) := Lib.hid hbX.size
  have HKn := Lib.hid (HK0.out.trans (hbX.mono HK0.out.size))
  clear HK0
  have HK0 := Lib.hid HKn.out
  clear HKn
  have HT := Lib.hid (HBox1.out.on hbX)
  clear HBox1
  have HBox1 := Lib.hid HT.out
  clear HT
  have HT := Lib.hid (HBox2.out.on hbX)
  clear HBox2
  have HBox2 := Lib.hid HT.out
  clear HT
  have HT := Lib.hid (HBxb.out.on hbX)
  clear HBxb
  have HBxb := Lib.hid HT.out
  clear HT
  have HT := Lib.hid (HRb.out.on hbX)
  clear HRb
  have HRb := Lib.hid HT.out
  clear HT
  have HT := Lib.hid (HX0.out.on hbX)
  clear HX0
  have HX0 := Lib.hid HT.out
  clear HT
  have HT := Lib.hid (HX1.out.on hbX)
  clear HX1
  have HX1 := Lib.hid HT.out
  clear HT
  clear hbX
  refine (toB_any _ b2 _ ((HA2.out.below HK0.out).wide HK0.out.size) HBS2.out).mono ?_
  rintro e w8 ⟨X2, rfl, ho, hb⟩
  have HZ_8 : Hid (w7.heap.size ≤ w8.heap.size) := Lib.hid hb.size
  have HKn := Lib.hid (HK0.out.trans (hb.mono HK0.out.size))
  clear HK0
  have HK0 := Lib.hid HKn.out
  clear HKn
  have HT := Lib.hid (HBox1.out.on hb)
  clear HBox1
  have HBox1 := Lib.hid HT.out
  clear HT
  have HT := Lib.hid (HBox2.out.on hb)
  clear HBox2
  have HBox2 := Lib.hid HT.out
  clear HT
  have HT := Lib.hid (HBxb.out.on hb)
  clear HBxb
  have HBxb := Lib.hid HT.out
  clear HT
  have HT := Lib.hid (HRb.out.on hb)
  clear HRb
  have HRb := Lib.hid HT.out
  clear HT
  have HT := Lib.hid (HX0.out.on hb)
  clear HX0
  have HX0 := Lib.hid HT.out
  clear HT
  have HT := Lib.hid (HX1.out.on hb)
  clear HX1
  have HX1 := Lib.hid HT.out
  clear HT
  have HT := Lib.hid (HBy1.out.on hb)
  clear HBy1
  have HBy1 := Lib.hid HT.out
  clear HT
  clear hb
  have HX2 := Lib.hid ho
  obtain ⟨y12, y22, y42, y52, rfl, -⟩ := ho
  have hbX := (Below.refl w8.heap.size w8).alloc (Nat.le_refl _) (.cells #[.int .i64 b2.roots, .slice (some ⟨y12, 0, none⟩) b2.nodes.length b2.nodes.length, .slice (some ⟨y22, 0, none⟩) b2.sites.length b2.sites.length, .int .i64 b2.edges, .slice (some ⟨y42, 0, none⟩) b2.outer.length b2.outer.length, .slice (some ⟨y52, 0, none⟩) b2.inner.length b2.inner.length] 36)
  obtain ⟨x1_0, x1_1, x1_2, x1_3, x1_4, x1_5⟩ := (HBy1.out.on hbX).get
  go_wp2_with fail
  clear x1_0 x1_1 x1_2 x1_3 x1_4 x1_5
  have HBy2 : Hid (BoxAt (w8.alloc (.cells #[.int .i64 b2.roots, .slice (some ⟨y12, 0, none⟩) b2.nodes.length b2.nodes.length, .slice (some ⟨y22, 0, none⟩) b2.sites.length b2.sites.length, .int .i64 b2.edges, .slice (some ⟨y42, 0, none⟩) b2.outer.length b2.outer.length, .slice (some ⟨y52, 0, none⟩) b2.inner.length b2.inner.length] 36)) w8.heap.size 36 (.int .i64 b2.roots) (.slice (some ⟨y12, 0, none⟩) b2.nodes.length b2.nodes.length) (.slice (some ⟨y22, 0, none⟩) b2.sites.length b2.sites.length) (.int .i64 b2.edges) (.slice (some ⟨y42, 0, none⟩) b2.outer.length b2.outer.length) (.slice (some ⟨y52, 0, none⟩) b2.inner.length b2.inner.length)) := Lib.hid (six_new w8 _ _ _ _ _ _ _)
  obtain ⟨w9, hwn⟩ : ∃ x, w8.alloc (.cells #[.int .i64 b2.roots, .slice (some ⟨y12, 0, none⟩) b2.nodes.length b2.nodes.length, .slice (some ⟨y22, 0, none⟩) b2.sites.length b2.sites.length, .int .i64 b2.edges, .slice (some ⟨y42, 0, none⟩) b2.outer.length b2.outer.length, .slice (some ⟨y52, 0, none⟩) b2.inner.length b2.inner.length] 36) = x := ⟨_, rfl⟩
  have HZs_9 : Hid (w8.heap.size < w9.heap.size) := Lib.hid (by rw [← hwn]; simp)
  rw [hwn] at HBy2 hbX ⊢
  clear hwn
  have HZ_9 : Hid (w8.heap.size ≤ w9.heap.size) := Lib.hid hbX.size
  have HKn := Lib.hid (HK0.out.trans (hbX.mono HK0.out.size))
  clear HK0
  have HK0 := Lib.hid HKn.out
  clear HKn
  have HT := Lib.hid (HBox1.out.on hbX)
  clear HBox1
  have HBox1 := Lib.hid HT.out
  clear HT
  have HT := Lib.hid (HBox2.out.on hbX)
  clear HBox2
  have HBox2 := Lib.hid HT.out
  clear HT
  have HT := Lib.hid (HBxb.out.on hbX)
  clear HBxb
  have HBxb := Lib.hid HT.out
  clear HT
  have HT := Lib.hid (HRb.out.on hbX)
  clear HRb
  have HRb := Lib.hid HT.out
  clear HT
  have HT := Lib.hid (HX0.out.on hbX)
  clear HX0
  have HX0 := Lib.hid HT.out
  clear HT
  have HT := Lib.hid (HX1.out.on hbX)
  clear HX1
  have HX1 := Lib.hid HT.out
  clear HT
  have HT := Lib.hid (HBy1.out.on hbX)
  clear HBy1
  have HBy1 := Lib.hid HT.out
  clear HT
  have HT := Lib.hid (HX2.out.on hbX)
  clear HX2
  have HX2 := Lib.hid HT.out
  clear HT
  clear hbX
  refine (HIm.out _ _ _ _ _ HX0.out.here HX1.out.here (And.intro (NilV.of_own HX1.out) (si.CapO.of_own HX1.out)) HX2.out.here (And.intro (NilV.of_own HX2.out) (si.CapO.of_own HX2.out))).mono ?_
  rintro e w10 ⟨vg0, rfl, hrg0, hb⟩; obtain ⟨B1g0, d1g0, B2g0, d2g0, B4g0, d4g0, B5g0, d5g0, rfl⟩ := hrg0.shape
  have HZ_10 : Hid (w9.heap.size ≤ w10.heap.size) := Lib.hid hb.size
  have HKn := Lib.hid (HK0.out.trans (hb.mono HK0.out.size))
  clear HK0
  have HK0 := Lib.hid HKn.out
  clear HKn
  have HT := Lib.hid (HBox1.out.on hb)
  clear HBox1
  have HBox1 := Lib.hid HT.out
  clear HT
  have HT := Lib.hid (HBox2.out.on hb)
  clear HBox2
  have HBox2 := Lib.hid HT.out
  clear HT
  have HT := Lib.hid (HBxb.out.on hb)
  clear HBxb
  have HBxb := Lib.hid HT.out
  clear HT
  have HT := Lib.hid (HRb.out.on hb)
  clear HRb
  have HRb := Lib.hid HT.out
  clear HT
  have HT := Lib.hid (HX0.out.on hb)
  clear HX0
  have HX0 := Lib.hid HT.out
  clear HT
  have HT := Lib.hid (HX1.out.on hb)
  clear HX1
  have HX1 := Lib.hid HT.out
  clear HT
  have HT := Lib.hid (HBy1.out.on hb)
  clear HBy1
  have HBy1 := Lib.hid HT.out
  clear HT
  have HT := Lib.hid (HX2.out.on hb)
  clear HX2
  have HX2 := Lib.hid HT.out
  clear HT
  have HT := Lib.hid (HBy2.out.on hb)
  clear HBy2
  have HBy2 := Lib.hid HT.out
  clear HT
  clear hb
  have HRg := Lib.hid hrg0
  clear hrg0
  have hbX := (Below.refl w10.heap.size w10).alloc (Nat.le_refl _) (.cells #[.int .i64 R0.roots, .slice B1g0 R0.nodes.length d1g0, .slice B2g0 R0.sites.length d2g0, .int .i64 R0.edges, .slice B4g0 R0.outer.length d4g0, .slice B5g0 R0.inner.length d5g0] 36)
  obtain ⟨y0, y1, y2, y3, y4, y5⟩ := (HBxb.out.on hbX).get
  go_wp2_with fail
  clear y0 y1 y2 y3 y4 y5
  have HBxg : Hid (BoxAt (w10.alloc (.cells #[.int .i64 R0.roots, .slice B1g0 R0.nodes.length d1g0, .slice B2g0 R0.sites.length d2g0, .int .i64 R0.edges, .slice B4g0 R0.outer.length d4g0, .slice B5g0 R0.inner.length d5g0] 36)) w10.heap.size 36 (.int .i64 R0.roots) (.slice B1g0 R0.nodes.length d1g0) (.slice B2g0 R0.sites.length d2g0) (.int .i64 R0.edges) (.slice B4g0 R0.outer.length d4g0) (.slice B5g0 R0.inner.length d5g0)) := Lib.hid (six_new w10 _ _ _ _ _ _ _)
  obtain ⟨w11, hwn⟩ : ∃ x, w10.alloc (.cells #[.int .i64 R0.roots, .slice B1g0 R0.nodes.length d1g0, .slice B2g0 R0.sites.length d2g0, .int .i64 R0.edges, .slice B4g0 R0.outer.length d4g0, .slice B5g0 R0.inner.length d5g0] 36) = x := ⟨_, rfl⟩
  have HZs_11 : Hid (w10.heap.size < w11.heap.size) := Lib.hid (by rw [← hwn]; simp)
  rw [hwn] at HBxg hbX ⊢
  clear hwn
  have HZ_11 : Hid (w10.heap.size ≤ w11.heap.size) := Lib.hid hbX.size
  have HKn := Lib.hid (HK0.out.trans (hbX.mono HK0.out.size))
  clear HK0
  have HK0 := Lib.hid HKn.out
  clear HKn
  have HT := Lib.hid (HBox1.out.on hbX)
  clear HBox1
  have HBox1 := Lib.hid HT.out
  clear HT
  have HT := Lib.hid (HBox2.out.on hbX)
  clear HBox2
  have HBox2 := Lib.hid HT.out
  clear HT
  have HT := Lib.hid (HBxb.out.on hbX)
  clear HBxb
  have HBxb := Lib.hid HT.out
  clear HT
  have HT := Lib.hid (HRb.out.on hbX)
  clear HRb
  have HRb := Lib.hid HT.out
  clear HT
  have HT := Lib.hid (HX0.out.on hbX)
  clear HX0
  have HX0 := Lib.hid HT.out
  clear HT
  have HT := Lib.hid (HX1.out.on hbX)
  clear HX1
  have HX1 := Lib.hid HT.out
  clear HT
  have HT := Lib.hid (HBy1.out.on hbX)
  clear HBy1
  have HBy1 := Lib.hid HT.out
  clear HT
  have HT := Lib.hid (HX2.out.on hbX)
  clear HX2
  have HX2 := Lib.hid HT.out
  clear HT
  have HT := Lib.hid (HBy2.out.on hbX)
  clear HBy2
  have HBy2 := Lib.hid HT.out
  clear HT
  have HT := Lib.hid (HRg.out.on hbX)
  clear HRg
  have HRg := Lib.hid HT.out
  clear HT
  clear hbX
  refine (eqBR_any _ _ R0 _ _ _ _ _ HRg.out HRb.out (by have := HZ0.out; have := HZ1.out; have := HZw.out; have := HZ_1.out; have := HZ_2.out; have := HZ_3.out; have := HZ_4.out; have := Hβb.out; have := HZ_5.out; have := HZ_6.out; have := HZs_7.out; have := HZ_7.out; have := HZ_8.out; have := HZs_9.out; have := HZ_9.out; have := HZ_10.out; have := HZs_11.out; have := HZ_11.out; omega) (by have := HZ0.out; have := HZ1.out; have := HZw.out; have := HZ_1.out; have := HZ_2.out; have := HZ_3.out; have := HZ_4.out; have := Hβb.out; have := HZ_5.out; have := HZ_6.out; have := HZs_7.out; have := HZ_7.out; have := HZ_8.out; have := HZs_9.out; have := HZ_9.out; have := HZ_10.out; have := HZs_11.out; have := HZ_11.out; omega) hM0).mono ?_
  rintro e w12 ⟨rfl, hb⟩
  have HZ_12 : Hid (w11.heap.size ≤ w12.heap.size) := Lib.hid hb.size
  have HKn := Lib.hid (HK0.out.trans (hb.mono HK0.out.size))
  clear HK0
  have HK0 := Lib.hid HKn.out
  clear HKn
  have HT := Lib.hid (HBox1.out.on hb)
  clear HBox1
  have HBox1 := Lib.hid HT.out
  clear HT
  have HT := Lib.hid (HBox2.out.on hb)
  clear HBox2
  have HBox2 := Lib.hid HT.out
  clear HT
  have HT := Lib.hid (HBxb.out.on hb)
  clear HBxb
  have HBxb := Lib.hid HT.out
  clear HT
  have HT := Lib.hid (HRb.out.on hb)
  clear HRb
  have HRb := Lib.hid HT.out
  clear HT
  have HT := Lib.hid (HX0.out.on hb)
  clear HX0
  have HX0 := Lib.hid HT.out
  clear HT
  have HT := Lib.hid (HX1.out.on hb)
  clear HX1
  have HX1 := Lib.hid HT.out
  clear HT
  have HT := Lib.hid (HBy1.out.on hb)
  clear HBy1
  have HBy1 := Lib.hid HT.out
  clear HT
  have HT := Lib.hid (HX2.out.on hb)
  clear HX2
  have HX2 := Lib.hid HT.out
  clear HT
  have HT := Lib.hid (HBy2.out.on hb)
  clear HBy2
  have HBy2 := Lib.hid HT.out
  clear HT
  have HT := Lib.hid (HRg.out.on hb)
  clear HRg
  have HRg := Lib.hid HT.out
  clear HT
  have HT := Lib.hid (HBxg.out.on hb)
  clear HBxg
  have HBxg := Lib.hid HT.out
  clear HT
  clear hb
  go_wp2_with fail
  refine (toCS_any A0 n0 c0 cs0 _ ((HA0.out.below HK0.out).wide HK0.out.size) hn0).mono ?_
  rintro e w13 ⟨Y0, rfl, ho, hb⟩
  have HZ_13 : Hid (w12.heap.size ≤ w13.heap.size) := Lib.hid hb.size
  have HKn := Lib.hid (HK0.out.trans (hb.mono HK0.out.size))
  clear HK0
  have HK0 := Lib.hid HKn.out
  clear HKn
  have HT := Lib.hid (HBox1.out.on hb)
  clear HBox1
  have HBox1 := Lib.hid HT.out
  clear HT
  have HT := Lib.hid (HBox2.out.on hb)
  clear HBox2
  have HBox2 := Lib.hid HT.out
  clear HT
  have HT := Lib.hid (HBxb.out.on hb)
  clear HBxb
  have HBxb := Lib.hid HT.out
  clear HT
  have HT := Lib.hid (HRb.out.on hb)
  clear HRb
  have HRb := Lib.hid HT.out
  clear HT
  have HT := Lib.hid (HX0.out.on hb)
  clear HX0
  have HX0 := Lib.hid HT.out
  clear HT
  have HT := Lib.hid (HX1.out.on hb)
  clear HX1
  have HX1 := Lib.hid HT.out
  clear HT
  have HT := Lib.hid (HBy1.out.on hb)
  clear HBy1
  have HBy1 := Lib.hid HT.out
  clear HT
  have HT := Lib.hid (HX2.out.on hb)
  clear HX2
  have HX2 := Lib.hid HT.out
  clear HT
  have HT := Lib.hid (HBy2.out.on hb)
  clear HBy2
  have HBy2 := Lib.hid HT.out
  clear HT
  have HT := Lib.hid (HRg.out.on hb)
  clear HRg
  have HRg := Lib.hid HT.out
  clear HT
  have HT := Lib.hid (HBxg.out.on hb)
  clear HBxg
  have HBxg := Lib.hid HT.out
  clear HT
  clear hb
  have HYc := Lib.hid ho
  clear ho
  go_wp2_with fail
  refine (eqCS_any _ _ _ _ _ cs0 _ _ _ HX0.out.here HYc.out.here (Nat.le_refl _) (Nat.le_refl _) hn0).mono ?_
  rintro e w14 ⟨rfl, hb⟩
  clear HYc
  have HZ_14 : Hid (w13.heap.size ≤ w14.heap.size) := Lib.hid hb.size
  have HKn := Lib.hid (HK0.out.trans (hb.mono HK0.out.size))
  clear HK0
  have HK0 := Lib.hid HKn.out
  clear HKn
  have HT := Lib.hid (HBox1.out.on hb)
  clear HBox1
  have HBox1 := Lib.hid HT.out
  clear HT
  have HT := Lib.hid (HBox2.out.on hb)
  clear HBox2
  have HBox2 := Lib.hid HT.out
  clear HT
  have HT := Lib.hid (HBxb.out.on hb)
  clear HBxb
  have HBxb := Lib.hid HT.out
  clear HT
  have HT := Lib.hid (HRb.out.on hb)
  clear HRb
  have HRb := Lib.hid HT.out
  clear HT
  have HT := Lib.hid (HX0.out.on hb)
  clear HX0
  have HX0 := Lib.hid HT.out
  clear HT
  have HT := Lib.hid (HX1.out.on hb)
  clear HX1
  have HX1 := Lib.hid HT.out
  clear HT
  have HT := Lib.hid (HBy1.out.on hb)
  clear HBy1
  have HBy1 := Lib.hid HT.out
  clear HT
  have HT := Lib.hid (HX2.out.on hb)
  clear HX2
  have HX2 := Lib.hid HT.out
  clear HT
  have HT := Lib.hid (HBy2.out.on hb)
  clear HBy2
  have HBy2 := Lib.hid HT.out
  clear HT
  have HT := Lib.hid (HRg.out.on hb)
  clear HRg
  have HRg := Lib.hid HT.out
  clear HT
  have HT := Lib.hid (HBxg.out.on hb)
  clear HBxg
  have HBxg := Lib.hid HT.out
  clear HT
  clear hb
  obtain ⟨x0, x1, x2, x3, x4, x5⟩ := HBox1.out.get
  obtain ⟨y0, y1, y2, y3, y4, y5⟩ := HBy1.out.get
  go_wp2_with fail
  have hkD := (Below.refl w14.heap.size w14).drew
  go_region_held3 (fun w' => (w'.cell? ⟨w.heap.size, 0, none⟩ = some (.int .i64 b1.roots) ∧ w'.cell? ⟨w.heap.size, 1, none⟩ = some (.slice A11 n11 c11) ∧ w'.cell? ⟨w.heap.size, 2, none⟩ = some (.slice A21 n21 c21) ∧ w'.cell? ⟨w.heap.size, 3, none⟩ = some (.int .i64 b1.edges) ∧ w'.cell? ⟨w.heap.size, 4, none⟩ = some (.slice A41 n41 c41) ∧ w'.cell? ⟨w.heap.size, 5, none⟩ = some (.slice A51 n51 c51)) ∧ (w'.cell? ⟨w6.heap.size, 0, none⟩ = some (.int .i64 b1.roots) ∧ w'.cell? ⟨w6.heap.size, 1, none⟩ = some (.slice (some ⟨y11, 0, none⟩) b1.nodes.length b1.nodes.length) ∧ w'.cell? ⟨w6.heap.size, 2, none⟩ = some (.slice (some ⟨y21, 0, none⟩) b1.sites.length b1.sites.length) ∧ w'.cell? ⟨w6.heap.size, 3, none⟩ = some (.int .i64 b1.edges) ∧ w'.cell? ⟨w6.heap.size, 4, none⟩ = some (.slice (some ⟨y41, 0, none⟩) b1.outer.length b1.outer.length) ∧ w'.cell? ⟨w6.heap.size, 5, none⟩ = some (.slice (some ⟨y51, 0, none⟩) b1.inner.length b1.inner.length))) (first | with_reducible exact ⟨(HBox1.out.on hkb).get, (HBy1.out.on hkb).get⟩ | with_reducible exact ⟨(HBox1.out.on hka).get, (HBy1.out.on hka).get⟩ | with_reducible exact ⟨(HBox1.out.on hkD).get, (HBy1.out.on hkD).get⟩)
    (first
     | (go_at_call 27; refine (toB_any _ b1 _ ((HA1.out.below (HK0.out.trans (hkD.mono HK0.out.size))).wide (HK0.out.trans (hkD.mono HK0.out.size)).size) HBS1.out).mono ?_; rintro e ua ⟨va, rfl, hoa, hb⟩; have hka := hkD.trans (hb.mono hkD.size); have hoy := HX1.out.on hka; clear hb)
     | (go_at_call 29; refine (eqB_any _ _ b1 _ _ _ hoy.here hoa.here (Nat.le_refl _) (Nat.le_refl _) HVW1.out HBS1.out.2.2.2.1).mono ?_; rintro e w15 ⟨rfl, hb⟩; have hkb := hka.trans (hb.mono hka.size); clear hb))
  clear x0 x1 x2 x3 x4 x5 y0 y1 y2 y3 y4 y5
  clear hkD hka hoy hoa
  have hb := hkb
  clear hkb
  have HZ_15 : Hid (w14.heap.size ≤ w15.heap.size) := Lib.hid hb.size
  have HKn := Lib.hid (HK0.out.trans (hb.mono HK0.out.size))
  clear HK0
  have HK0 := Lib.hid HKn.out
  clear HKn
  have HT := Lib.hid (HBox1.out.on hb)
  clear HBox1
  have HBox1 := Lib.hid HT.out
  clear HT
  have HT := Lib.hid (HBox2.out.on hb)
  clear HBox2
  have HBox2 := Lib.hid HT.out
  clear HT
  have HT := Lib.hid (HBxb.out.on hb)
  clear HBxb
  have HBxb := Lib.hid HT.out
  clear HT
  have HT := Lib.hid (HRb.out.on hb)
  clear HRb
  have HRb := Lib.hid HT.out
  clear HT
  have HT := Lib.hid (HX0.out.on hb)
  clear HX0
  have HX0 := Lib.hid HT.out
  clear HT
  have HT := Lib.hid (HX1.out.on hb)
  clear HX1
  have HX1 := Lib.hid HT.out
  clear HT
  have HT := Lib.hid (HBy1.out.on hb)
  clear HBy1
  have HBy1 := Lib.hid HT.out
  clear HT
  have HT := Lib.hid (HX2.out.on hb)
  clear HX2
  have HX2 := Lib.hid HT.out
  clear HT
  have HT := Lib.hid (HBy2.out.on hb)
  clear HBy2
  have HBy2 := Lib.hid HT.out
  clear HT
  have HT := Lib.hid (HRg.out.on hb)
  clear HRg
  have HRg := Lib.hid HT.out
  clear HT
  have HT := Lib.hid (HBxg.out.on hb)
  clear HBxg
  have HBxg := Lib.hid HT.out
  clear HT
  clear hb
  obtain ⟨x0, x1, x2, x3, x4, x5⟩ := HBox2.out.get
  obtain ⟨y0, y1, y2, y3, y4, y5⟩ := HBy2.out.get
  go_wp2_with fail
  have hkD := (Below.refl w15.heap.size w15).drew
  go_region_held3 (fun w' => (w'.cell? ⟨w.heap.size + 1, 0, none⟩ = some (.int .i64 b2.roots) ∧ w'.cell? ⟨w.heap.size + 1, 1, none⟩ = some (.slice A12 n12 c12) ∧ w'.cell? ⟨w.heap.size + 1, 2, none⟩ = some (.slice A22 n22 c22) ∧ w'.cell? ⟨w.heap.size + 1, 3, none⟩ = some (.int .i64 b2.edges) ∧ w'.cell? ⟨w.heap.size + 1, 4, none⟩ = some (.slice A42 n42 c42) ∧ w'.cell? ⟨w.heap.size + 1, 5, none⟩ = some (.slice A52 n52 c52)) ∧ (w'.cell? ⟨w8.heap.size, 0, none⟩ = some (.int .i64 b2.roots) ∧ w'.cell? ⟨w8.heap.size, 1, none⟩ = some (.slice (some ⟨y12, 0, none⟩) b2.nodes.length b2.nodes.length) ∧ w'.cell? ⟨w8.heap.size, 2, none⟩ = some (.slice (some ⟨y22, 0, none⟩) b2.sites.length b2.sites.length) ∧ w'.cell? ⟨w8.heap.size, 3, none⟩ = some (.int .i64 b2.edges) ∧ w'.cell? ⟨w8.heap.size, 4, none⟩ = some (.slice (some ⟨y42, 0, none⟩) b2.outer.length b2.outer.length) ∧ w'.cell? ⟨w8.heap.size, 5, none⟩ = some (.slice (some ⟨y52, 0, none⟩) b2.inner.length b2.inner.length))) (first | with_reducible exact ⟨(HBox2.out.on hkb).get, (HBy2.out.on hkb).get⟩ | with_reducible exact ⟨(HBox2.out.on hka).get, (HBy2.out.on hka).get⟩ | with_reducible exact ⟨(HBox2.out.on hkD).get, (HBy2.out.on hkD).get⟩)
    (first
     | (go_at_call 27; refine (toB_any _ b2 _ ((HA2.out.below (HK0.out.trans (hkD.mono HK0.out.size))).wide (HK0.out.trans (hkD.mono HK0.out.size)).size) HBS2.out).mono ?_; rintro e ua ⟨va, rfl, hoa, hb⟩; have hka := hkD.trans (hb.mono hkD.size); have hoy := HX2.out.on hka; clear hb)
     | (go_at_call 29; refine (eqB_any _ _ b2 _ _ _ hoy.here hoa.here (Nat.le_refl _) (Nat.le_refl _) HVW2.out HBS2.out.2.2.2.1).mono ?_; rintro e w16 ⟨rfl, hb⟩; have hkb := hka.trans (hb.mono hka.size); clear hb))
  clear x0 x1 x2 x3 x4 x5 y0 y1 y2 y3 y4 y5
  clear hkD hka hoy hoa
  have hb := hkb
  clear hkb
  have HZ_16 : Hid (w15.heap.size ≤ w16.heap.size) := Lib.hid hb.size
  have HKn := Lib.hid (HK0.out.trans (hb.mono HK0.out.size))
  clear HK0
  have HK0 := Lib.hid HKn.out
  clear HKn
  have HT := Lib.hid (HBox1.out.on hb)
  clear HBox1
  have HBox1 := Lib.hid HT.out
  clear HT
  have HT := Lib.hid (HBox2.out.on hb)
  clear HBox2
  have HBox2 := Lib.hid HT.out
  clear HT
  have HT := Lib.hid (HBxb.out.on hb)
  clear HBxb
  have HBxb := Lib.hid HT.out
  clear HT
  have HT := Lib.hid (HRb.out.on hb)
  clear HRb
  have HRb := Lib.hid HT.out
  clear HT
  have HT := Lib.hid (HX0.out.on hb)
  clear HX0
  have HX0 := Lib.hid HT.out
  clear HT
  have HT := Lib.hid (HX1.out.on hb)
  clear HX1
  have HX1 := Lib.hid HT.out
  clear HT
  have HT := Lib.hid (HBy1.out.on hb)
  clear HBy1
  have HBy1 := Lib.hid HT.out
  clear HT
  have HT := Lib.hid (HX2.out.on hb)
  clear HX2
  have HX2 := Lib.hid HT.out
  clear HT
  have HT := Lib.hid (HBy2.out.on hb)
  clear HBy2
  have HBy2 := Lib.hid HT.out
  clear HT
  have HT := Lib.hid (HRg.out.on hb)
  clear HRg
  have HRg := Lib.hid HT.out
  clear HT
  have HT := Lib.hid (HBxg.out.on hb)
  clear HBxg
  have HBxg := Lib.hid HT.out
  clear HT
  clear hb
  have hkp0 : (0 : Int) < 1 := by omega
  go_wp2_with fail
  refine (markCO_any _ _ _ cs0 1 _ w4.heap.size w5.heap.size HX0.out (by omega) (by have := HWt0.out; have := HWt1.out; have := HWt2.out; omega) hn0).mono ?_
  rintro e w17 ⟨rfl, hq⟩
  clear HX0
  have HZ_17 : Hid (w16.heap.size ≤ w17.heap.size) := Lib.hid hq.size
  have HKn := Lib.hid (HK0.out.trans ((hq.below (show w4.heap.size ≤ w16.heap.size by have := HZ0.out; have := HZ1.out; have := HZw.out; have := HZ_1.out; have := HZ_2.out; have := HZ_3.out; have := HZ_4.out; have := Hβb.out; have := HZ_5.out; have := HZ_6.out; have := HZs_7.out; have := HZ_7.out; have := HZ_8.out; have := HZs_9.out; have := HZ_9.out; have := HZ_10.out; have := HZs_11.out; have := HZ_11.out; have := HZ_12.out; have := HZ_13.out; have := HZ_14.out; have := HZ_15.out; have := HZ_16.out; have := HZ_17.out; omega)).mono (show w.heap.size ≤ w4.heap.size by have := HZ0.out; have := HZ1.out; have := HZw.out; have := HZ_1.out; have := HZ_2.out; have := HZ_3.out; have := HZ_4.out; have := Hβb.out; have := HZ_5.out; have := HZ_6.out; have := HZs_7.out; have := HZ_7.out; have := HZ_8.out; have := HZs_9.out; have := HZ_9.out; have := HZ_10.out; have := HZs_11.out; have := HZ_11.out; have := HZ_12.out; have := HZ_13.out; have := HZ_14.out; have := HZ_15.out; have := HZ_16.out; have := HZ_17.out; omega)))
  clear HK0
  have HK0 := Lib.hid HKn.out
  clear HKn
  have HT := Lib.hid (HBox1.out.far hq (by have := HZ0.out; have := HZ1.out; have := HZw.out; have := HZ_1.out; have := HZ_2.out; have := HZ_3.out; have := HZ_4.out; have := Hβb.out; have := HZ_5.out; have := HZ_6.out; have := HZs_7.out; have := HZ_7.out; have := HZ_8.out; have := HZs_9.out; have := HZ_9.out; have := HZ_10.out; have := HZs_11.out; have := HZ_11.out; have := HZ_12.out; have := HZ_13.out; have := HZ_14.out; have := HZ_15.out; have := HZ_16.out; have := HZ_17.out; omega))
  clear HBox1
  have HBox1 := Lib.hid HT.out
  clear HT
  have HT := Lib.hid (HBox2.out.far hq (by have := HZ0.out; have := HZ1.out; have := HZw.out; have := HZ_1.out; have := HZ_2.out; have := HZ_3.out; have := HZ_4.out; have := Hβb.out; have := HZ_5.out; have := HZ_6.out; have := HZs_7.out; have := HZ_7.out; have := HZ_8.out; have := HZs_9.out; have := HZ_9.out; have := HZ_10.out; have := HZs_11.out; have := HZ_11.out; have := HZ_12.out; have := HZ_13.out; have := HZ_14.out; have := HZ_15.out; have := HZ_16.out; have := HZ_17.out; omega))
  clear HBox2
  have HBox2 := Lib.hid HT.out
  clear HT
  have HT := Lib.hid (HBxb.out.far hq (by have := HZ0.out; have := HZ1.out; have := HZw.out; have := HZ_1.out; have := HZ_2.out; have := HZ_3.out; have := HZ_4.out; have := Hβb.out; have := HZ_5.out; have := HZ_6.out; have := HZs_7.out; have := HZ_7.out; have := HZ_8.out; have := HZs_9.out; have := HZ_9.out; have := HZ_10.out; have := HZs_11.out; have := HZ_11.out; have := HZ_12.out; have := HZ_13.out; have := HZ_14.out; have := HZ_15.out; have := HZ_16.out; have := HZ_17.out; omega))
  clear HBxb
  have HBxb := Lib.hid HT.out
  clear HT
  have HT := Lib.hid (HRb.out.far hq (by have := HZ0.out; have := HZ1.out; have := HZw.out; have := HZ_1.out; have := HZ_2.out; have := HZ_3.out; have := HZ_4.out; have := Hβb.out; have := HZ_5.out; have := HZ_6.out; have := HZs_7.out; have := HZ_7.out; have := HZ_8.out; have := HZs_9.out; have := HZ_9.out; have := HZ_10.out; have := HZs_11.out; have := HZ_11.out; have := HZ_12.out; have := HZ_13.out; have := HZ_14.out; have := HZ_15.out; have := HZ_16.out; have := HZ_17.out; omega))
  clear HRb
  have HRb := Lib.hid HT.out
  clear HT
  have HT := Lib.hid (HX1.out.far hq (by have := HZ0.out; have := HZ1.out; have := HZw.out; have := HZ_1.out; have := HZ_2.out; have := HZ_3.out; have := HZ_4.out; have := Hβb.out; have := HZ_5.out; have := HZ_6.out; have := HZs_7.out; have := HZ_7.out; have := HZ_8.out; have := HZs_9.out; have := HZ_9.out; have := HZ_10.out; have := HZs_11.out; have := HZ_11.out; have := HZ_12.out; have := HZ_13.out; have := HZ_14.out; have := HZ_15.out; have := HZ_16.out; have := HZ_17.out; omega))
  clear HX1
  have HX1 := Lib.hid HT.out
  clear HT
  have HT := Lib.hid (HBy1.out.far hq (by have := HZ0.out; have := HZ1.out; have := HZw.out; have := HZ_1.out; have := HZ_2.out; have := HZ_3.out; have := HZ_4.out; have := Hβb.out; have := HZ_5.out; have := HZ_6.out; have := HZs_7.out; have := HZ_7.out; have := HZ_8.out; have := HZs_9.out; have := HZ_9.out; have := HZ_10.out; have := HZs_11.out; have := HZ_11.out; have := HZ_12.out; have := HZ_13.out; have := HZ_14.out; have := HZ_15.out; have := HZ_16.out; have := HZ_17.out; omega))
  clear HBy1
  have HBy1 := Lib.hid HT.out
  clear HT
  have HT := Lib.hid (HX2.out.far hq (by have := HZ0.out; have := HZ1.out; have := HZw.out; have := HZ_1.out; have := HZ_2.out; have := HZ_3.out; have := HZ_4.out; have := Hβb.out; have := HZ_5.out; have := HZ_6.out; have := HZs_7.out; have := HZ_7.out; have := HZ_8.out; have := HZs_9.out; have := HZ_9.out; have := HZ_10.out; have := HZs_11.out; have := HZ_11.out; have := HZ_12.out; have := HZ_13.out; have := HZ_14.out; have := HZ_15.out; have := HZ_16.out; have := HZ_17.out; omega))
  clear HX2
  have HX2 := Lib.hid HT.out
  clear HT
  have HT := Lib.hid (HBy2.out.far hq (by have := HZ0.out; have := HZ1.out; have := HZw.out; have := HZ_1.out; have := HZ_2.out; have := HZ_3.out; have := HZ_4.out; have := Hβb.out; have := HZ_5.out; have := HZ_6.out; have := HZs_7.out; have := HZ_7.out; have := HZ_8.out; have := HZs_9.out; have := HZ_9.out; have := HZ_10.out; have := HZs_11.out; have := HZ_11.out; have := HZ_12.out; have := HZ_13.out; have := HZ_14.out; have := HZ_15.out; have := HZ_16.out; have := HZ_17.out; omega))
  clear HBy2
  have HBy2 := Lib.hid HT.out
  clear HT
  have HT := Lib.hid (HRg.out.far hq (by have := HZ0.out; have := HZ1.out; have := HZw.out; have := HZ_1.out; have := HZ_2.out; have := HZ_3.out; have := HZ_4.out; have := Hβb.out; have := HZ_5.out; have := HZ_6.out; have := HZs_7.out; have := HZ_7.out; have := HZ_8.out; have := HZs_9.out; have := HZ_9.out; have := HZ_10.out; have := HZs_11.out; have := HZ_11.out; have := HZ_12.out; have := HZ_13.out; have := HZ_14.out; have := HZ_15.out; have := HZ_16.out; have := HZ_17.out; omega))
  clear HRg
  have HRg := Lib.hid HT.out
  clear HT
  have HT := Lib.hid (HBxg.out.far hq (by have := HZ0.out; have := HZ1.out; have := HZw.out; have := HZ_1.out; have := HZ_2.out; have := HZ_3.out; have := HZ_4.out; have := Hβb.out; have := HZ_5.out; have := HZ_6.out; have := HZs_7.out; have := HZ_7.out; have := HZ_8.out; have := HZs_9.out; have := HZ_9.out; have := HZ_10.out; have := HZs_11.out; have := HZ_11.out; have := HZ_12.out; have := HZ_13.out; have := HZ_14.out; have := HZ_15.out; have := HZ_16.out; have := HZ_17.out; omega))
  clear HBxg
  have HBxg := Lib.hid HT.out
  clear HT
  clear hq
  obtain ⟨kr0, hkr⟩ : ∃ k : Int, 1 + 3 * (n0 : Int) = k := ⟨_, rfl⟩
  rw [hkr]
  have HKv1 : Hid (kr0 = 1 + 3 * (n0 : Int)) := Lib.hid hkr.symm
  have hkp1 : 0 < kr0 := by omega
  clear hkr
  have HNc0 : Hid (n0 ≤ ctlsWt cs0) := Lib.hid (by have := HL0.out; unfold ctlsWt; omega)
  obtain ⟨x0, x1, x2, x3, x4, x5⟩ := HBy1.out.get
  go_wp2_with fail
  clear x0 x1 x2 x3 x4 x5
  refine (markB2_any _ b1 kr0 _ w5.heap.size w6.heap.size HX1.out (by have := HZ0.out; have := HZ1.out; have := HZw.out; have := HZ_1.out; have := HZ_2.out; have := HZ_3.out; have := HZ_4.out; have := Hβb.out; have := HZ_5.out; have := HZ_6.out; have := HZs_7.out; have := HZ_7.out; have := HZ_8.out; have := HZs_9.out; have := HZ_9.out; have := HZ_10.out; have := HZs_11.out; have := HZ_11.out; have := HZ_12.out; have := HZ_13.out; have := HZ_14.out; have := HZ_15.out; have := HZ_16.out; have := HZ_17.out; omega) (by omega) (by have := HNc0.out; have := HKv1.out; have := HWt0.out; have := HWt1.out; have := HWt2.out; omega) HWT1.out).mono ?_
  rintro e w18 ⟨kr1, rfl, hkp, hkb, hq⟩
  clear HX1
  have HZ_18 : Hid (w17.heap.size ≤ w18.heap.size) := Lib.hid hq.size
  have HKn := Lib.hid (HK0.out.trans ((hq.below (show w5.heap.size ≤ w17.heap.size by have := HZ0.out; have := HZ1.out; have := HZw.out; have := HZ_1.out; have := HZ_2.out; have := HZ_3.out; have := HZ_4.out; have := Hβb.out; have := HZ_5.out; have := HZ_6.out; have := HZs_7.out; have := HZ_7.out; have := HZ_8.out; have := HZs_9.out; have := HZ_9.out; have := HZ_10.out; have := HZs_11.out; have := HZ_11.out; have := HZ_12.out; have := HZ_13.out; have := HZ_14.out; have := HZ_15.out; have := HZ_16.out; have := HZ_17.out; have := HZ_18.out; omega)).mono (show w.heap.size ≤ w5.heap.size by have := HZ0.out; have := HZ1.out; have := HZw.out; have := HZ_1.out; have := HZ_2.out; have := HZ_3.out; have := HZ_4.out; have := Hβb.out; have := HZ_5.out; have := HZ_6.out; have := HZs_7.out; have := HZ_7.out; have := HZ_8.out; have := HZs_9.out; have := HZ_9.out; have := HZ_10.out; have := HZs_11.out; have := HZ_11.out; have := HZ_12.out; have := HZ_13.out; have := HZ_14.out; have := HZ_15.out; have := HZ_16.out; have := HZ_17.out; have := HZ_18.out; omega)))
  clear HK0
  have HK0 := Lib.hid HKn.out
  clear HKn
  have HT := Lib.hid (HBox1.out.far hq (by have := HZ0.out; have := HZ1.out; have := HZw.out; have := HZ_1.out; have := HZ_2.out; have := HZ_3.out; have := HZ_4.out; have := Hβb.out; have := HZ_5.out; have := HZ_6.out; have := HZs_7.out; have := HZ_7.out; have := HZ_8.out; have := HZs_9.out; have := HZ_9.out; have := HZ_10.out; have := HZs_11.out; have := HZ_11.out; have := HZ_12.out; have := HZ_13.out; have := HZ_14.out; have := HZ_15.out; have := HZ_16.out; have := HZ_17.out; have := HZ_18.out; omega))
  clear HBox1
  have HBox1 := Lib.hid HT.out
  clear HT
  have HT := Lib.hid (HBox2.out.far hq (by have := HZ0.out; have := HZ1.out; have := HZw.out; have := HZ_1.out; have := HZ_2.out; have := HZ_3.out; have := HZ_4.out; have := Hβb.out; have := HZ_5.out; have := HZ_6.out; have := HZs_7.out; have := HZ_7.out; have := HZ_8.out; have := HZs_9.out; have := HZ_9.out; have := HZ_10.out; have := HZs_11.out; have := HZ_11.out; have := HZ_12.out; have := HZ_13.out; have := HZ_14.out; have := HZ_15.out; have := HZ_16.out; have := HZ_17.out; have := HZ_18.out; omega))
  clear HBox2
  have HBox2 := Lib.hid HT.out
  clear HT
  have HT := Lib.hid (HBxb.out.far hq (by have := HZ0.out; have := HZ1.out; have := HZw.out; have := HZ_1.out; have := HZ_2.out; have := HZ_3.out; have := HZ_4.out; have := Hβb.out; have := HZ_5.out; have := HZ_6.out; have := HZs_7.out; have := HZ_7.out; have := HZ_8.out; have := HZs_9.out; have := HZ_9.out; have := HZ_10.out; have := HZs_11.out; have := HZ_11.out; have := HZ_12.out; have := HZ_13.out; have := HZ_14.out; have := HZ_15.out; have := HZ_16.out; have := HZ_17.out; have := HZ_18.out; omega))
  clear HBxb
  have HBxb := Lib.hid HT.out
  clear HT
  have HT := Lib.hid (HRb.out.far hq (by have := HZ0.out; have := HZ1.out; have := HZw.out; have := HZ_1.out; have := HZ_2.out; have := HZ_3.out; have := HZ_4.out; have := Hβb.out; have := HZ_5.out; have := HZ_6.out; have := HZs_7.out; have := HZ_7.out; have := HZ_8.out; have := HZs_9.out; have := HZ_9.out; have := HZ_10.out; have := HZs_11.out; have := HZ_11.out; have := HZ_12.out; have := HZ_13.out; have := HZ_14.out; have := HZ_15.out; have := HZ_16.out; have := HZ_17.out; have := HZ_18.out; omega))
  clear HRb
  have HRb := Lib.hid HT.out
  clear HT
  have HT := Lib.hid (HBy1.out.far hq (by have := HZ0.out; have := HZ1.out; have := HZw.out; have := HZ_1.out; have := HZ_2.out; have := HZ_3.out; have := HZ_4.out; have := Hβb.out; have := HZ_5.out; have := HZ_6.out; have := HZs_7.out; have := HZ_7.out; have := HZ_8.out; have := HZs_9.out; have := HZ_9.out; have := HZ_10.out; have := HZs_11.out; have := HZ_11.out; have := HZ_12.out; have := HZ_13.out; have := HZ_14.out; have := HZ_15.out; have := HZ_16.out; have := HZ_17.out; have := HZ_18.out; omega))
  clear HBy1
  have HBy1 := Lib.hid HT.out
  clear HT
  have HT := Lib.hid (HX2.out.far hq (by have := HZ0.out; have := HZ1.out; have := HZw.out; have := HZ_1.out; have := HZ_2.out; have := HZ_3.out; have := HZ_4.out; have := Hβb.out; have := HZ_5.out; have := HZ_6.out; have := HZs_7.out; have := HZ_7.out; have := HZ_8.out; have := HZs_9.out; have := HZ_9.out; have := HZ_10.out; have := HZs_11.out; have := HZ_11.out; have := HZ_12.out; have := HZ_13.out; have := HZ_14.out; have := HZ_15.out; have := HZ_16.out; have := HZ_17.out; have := HZ_18.out; omega))
  clear HX2
  have HX2 := Lib.hid HT.out
  clear HT
  have HT := Lib.hid (HBy2.out.far hq (by have := HZ0.out; have := HZ1.out; have := HZw.out; have := HZ_1.out; have := HZ_2.out; have := HZ_3.out; have := HZ_4.out; have := Hβb.out; have := HZ_5.out; have := HZ_6.out; have := HZs_7.out; have := HZ_7.out; have := HZ_8.out; have := HZs_9.out; have := HZ_9.out; have := HZ_10.out; have := HZs_11.out; have := HZ_11.out; have := HZ_12.out; have := HZ_13.out; have := HZ_14.out; have := HZ_15.out; have := HZ_16.out; have := HZ_17.out; have := HZ_18.out; omega))
  clear HBy2
  have HBy2 := Lib.hid HT.out
  clear HT
  have HT := Lib.hid (HRg.out.far hq (by have := HZ0.out; have := HZ1.out; have := HZw.out; have := HZ_1.out; have := HZ_2.out; have := HZ_3.out; have := HZ_4.out; have := Hβb.out; have := HZ_5.out; have := HZ_6.out; have := HZs_7.out; have := HZ_7.out; have := HZ_8.out; have := HZs_9.out; have := HZ_9.out; have := HZ_10.out; have := HZs_11.out; have := HZ_11.out; have := HZ_12.out; have := HZ_13.out; have := HZ_14.out; have := HZ_15.out; have := HZ_16.out; have := HZ_17.out; have := HZ_18.out; omega))
  clear HRg
  have HRg := Lib.hid HT.out
  clear HT
  have HT := Lib.hid (HBxg.out.far hq (by have := HZ0.out; have := HZ1.out; have := HZw.out; have := HZ_1.out; have := HZ_2.out; have := HZ_3.out; have := HZ_4.out; have := Hβb.out; have := HZ_5.out; have := HZ_6.out; have := HZs_7.out; have := HZ_7.out; have := HZ_8.out; have := HZs_9.out; have := HZ_9.out; have := HZ_10.out; have := HZs_11.out; have := HZ_11.out; have := HZ_12.out; have := HZ_13.out; have := HZ_14.out; have := HZ_15.out; have := HZ_16.out; have := HZ_17.out; have := HZ_18.out; omega))
  clear HBxg
  have HBxg := Lib.hid HT.out
  clear HT
  clear hq
  have HKv2 : Hid (kr1 ≤ kr0 + 2 * (bigWt b1 : Nat)) := Lib.hid hkb
  have hkp2 := hkp
  clear hkp hkb
  obtain ⟨x0, x1, x2, x3, x4, x5⟩ := HBy2.out.get
  go_wp2_with fail
  clear x0 x1 x2 x3 x4 x5
  refine (markB2_any _ b2 kr1 _ w7.heap.size w8.heap.size HX2.out (by have := HZ0.out; have := HZ1.out; have := HZw.out; have := HZ_1.out; have := HZ_2.out; have := HZ_3.out; have := HZ_4.out; have := Hβb.out; have := HZ_5.out; have := HZ_6.out; have := HZs_7.out; have := HZ_7.out; have := HZ_8.out; have := HZs_9.out; have := HZ_9.out; have := HZ_10.out; have := HZs_11.out; have := HZ_11.out; have := HZ_12.out; have := HZ_13.out; have := HZ_14.out; have := HZ_15.out; have := HZ_16.out; have := HZ_17.out; have := HZ_18.out; omega) (by omega) (by have := HNc0.out; have := HKv1.out; have := HKv2.out; have := HWt0.out; have := HWt1.out; have := HWt2.out; omega) HWT2.out).mono ?_
  rintro e w19 ⟨kr2, rfl, hkp, hkb, hq⟩
  clear HX2
  have HZ_19 : Hid (w18.heap.size ≤ w19.heap.size) := Lib.hid hq.size
  have HKn := Lib.hid (HK0.out.trans ((hq.below (show w7.heap.size ≤ w18.heap.size by have := HZ0.out; have := HZ1.out; have := HZw.out; have := HZ_1.out; have := HZ_2.out; have := HZ_3.out; have := HZ_4.out; have := Hβb.out; have := HZ_5.out; have := HZ_6.out; have := HZs_7.out; have := HZ_7.out; have := HZ_8.out; have := HZs_9.out; have := HZ_9.out; have := HZ_10.out; have := HZs_11.out; have := HZ_11.out; have := HZ_12.out; have := HZ_13.out; have := HZ_14.out; have := HZ_15.out; have := HZ_16.out; have := HZ_17.out; have := HZ_18.out; have := HZ_19.out; omega)).mono (show w.heap.size ≤ w7.heap.size by have := HZ0.out; have := HZ1.out; have := HZw.out; have := HZ_1.out; have := HZ_2.out; have := HZ_3.out; have := HZ_4.out; have := Hβb.out; have := HZ_5.out; have := HZ_6.out; have := HZs_7.out; have := HZ_7.out; have := HZ_8.out; have := HZs_9.out; have := HZ_9.out; have := HZ_10.out; have := HZs_11.out; have := HZ_11.out; have := HZ_12.out; have := HZ_13.out; have := HZ_14.out; have := HZ_15.out; have := HZ_16.out; have := HZ_17.out; have := HZ_18.out; have := HZ_19.out; omega)))
  clear HK0
  have HK0 := Lib.hid HKn.out
  clear HKn
  have HT := Lib.hid (HBox1.out.far hq (by have := HZ0.out; have := HZ1.out; have := HZw.out; have := HZ_1.out; have := HZ_2.out; have := HZ_3.out; have := HZ_4.out; have := Hβb.out; have := HZ_5.out; have := HZ_6.out; have := HZs_7.out; have := HZ_7.out; have := HZ_8.out; have := HZs_9.out; have := HZ_9.out; have := HZ_10.out; have := HZs_11.out; have := HZ_11.out; have := HZ_12.out; have := HZ_13.out; have := HZ_14.out; have := HZ_15.out; have := HZ_16.out; have := HZ_17.out; have := HZ_18.out; have := HZ_19.out; omega))
  clear HBox1
  have HBox1 := Lib.hid HT.out
  clear HT
  have HT := Lib.hid (HBox2.out.far hq (by have := HZ0.out; have := HZ1.out; have := HZw.out; have := HZ_1.out; have := HZ_2.out; have := HZ_3.out; have := HZ_4.out; have := Hβb.out; have := HZ_5.out; have := HZ_6.out; have := HZs_7.out; have := HZ_7.out; have := HZ_8.out; have := HZs_9.out; have := HZ_9.out; have := HZ_10.out; have := HZs_11.out; have := HZ_11.out; have := HZ_12.out; have := HZ_13.out; have := HZ_14.out; have := HZ_15.out; have := HZ_16.out; have := HZ_17.out; have := HZ_18.out; have := HZ_19.out; omega))
  clear HBox2
  have HBox2 := Lib.hid HT.out
  clear HT
  have HT := Lib.hid (HBxb.out.far hq (by have := HZ0.out; have := HZ1.out; have := HZw.out; have := HZ_1.out; have := HZ_2.out; have := HZ_3.out; have := HZ_4.out; have := Hβb.out; have := HZ_5.out; have := HZ_6.out; have := HZs_7.out; have := HZ_7.out; have := HZ_8.out; have := HZs_9.out; have := HZ_9.out; have := HZ_10.out; have := HZs_11.out; have := HZ_11.out; have := HZ_12.out; have := HZ_13.out; have := HZ_14.out; have := HZ_15.out; have := HZ_16.out; have := HZ_17.out; have := HZ_18.out; have := HZ_19.out; omega))
  clear HBxb
  have HBxb := Lib.hid HT.out
  clear HT
  have HT := Lib.hid (HRb.out.far hq (by have := HZ0.out; have := HZ1.out; have := HZw.out; have := HZ_1.out; have := HZ_2.out; have := HZ_3.out; have := HZ_4.out; have := Hβb.out; have := HZ_5.out; have := HZ_6.out; have := HZs_7.out; have := HZ_7.out; have := HZ_8.out; have := HZs_9.out; have := HZ_9.out; have := HZ_10.out; have := HZs_11.out; have := HZ_11.out; have := HZ_12.out; have := HZ_13.out; have := HZ_14.out; have := HZ_15.out; have := HZ_16.out; have := HZ_17.out; have := HZ_18.out; have := HZ_19.out; omega))
  clear HRb
  have HRb := Lib.hid HT.out
  clear HT
  have HT := Lib.hid (HBy1.out.far hq (by have := HZ0.out; have := HZ1.out; have := HZw.out; have := HZ_1.out; have := HZ_2.out; have := HZ_3.out; have := HZ_4.out; have := Hβb.out; have := HZ_5.out; have := HZ_6.out; have := HZs_7.out; have := HZ_7.out; have := HZ_8.out; have := HZs_9.out; have := HZ_9.out; have := HZ_10.out; have := HZs_11.out; have := HZ_11.out; have := HZ_12.out; have := HZ_13.out; have := HZ_14.out; have := HZ_15.out; have := HZ_16.out; have := HZ_17.out; have := HZ_18.out; have := HZ_19.out; omega))
  clear HBy1
  have HBy1 := Lib.hid HT.out
  clear HT
  have HT := Lib.hid (HBy2.out.far hq (by have := HZ0.out; have := HZ1.out; have := HZw.out; have := HZ_1.out; have := HZ_2.out; have := HZ_3.out; have := HZ_4.out; have := Hβb.out; have := HZ_5.out; have := HZ_6.out; have := HZs_7.out; have := HZ_7.out; have := HZ_8.out; have := HZs_9.out; have := HZ_9.out; have := HZ_10.out; have := HZs_11.out; have := HZ_11.out; have := HZ_12.out; have := HZ_13.out; have := HZ_14.out; have := HZ_15.out; have := HZ_16.out; have := HZ_17.out; have := HZ_18.out; have := HZ_19.out; omega))
  clear HBy2
  have HBy2 := Lib.hid HT.out
  clear HT
  have HT := Lib.hid (HRg.out.far hq (by have := HZ0.out; have := HZ1.out; have := HZw.out; have := HZ_1.out; have := HZ_2.out; have := HZ_3.out; have := HZ_4.out; have := Hβb.out; have := HZ_5.out; have := HZ_6.out; have := HZs_7.out; have := HZ_7.out; have := HZ_8.out; have := HZs_9.out; have := HZ_9.out; have := HZ_10.out; have := HZs_11.out; have := HZ_11.out; have := HZ_12.out; have := HZ_13.out; have := HZ_14.out; have := HZ_15.out; have := HZ_16.out; have := HZ_17.out; have := HZ_18.out; have := HZ_19.out; omega))
  clear HRg
  have HRg := Lib.hid HT.out
  clear HT
  have HT := Lib.hid (HBxg.out.far hq (by have := HZ0.out; have := HZ1.out; have := HZw.out; have := HZ_1.out; have := HZ_2.out; have := HZ_3.out; have := HZ_4.out; have := Hβb.out; have := HZ_5.out; have := HZ_6.out; have := HZs_7.out; have := HZ_7.out; have := HZ_8.out; have := HZs_9.out; have := HZ_9.out; have := HZ_10.out; have := HZs_11.out; have := HZ_11.out; have := HZ_12.out; have := HZ_13.out; have := HZ_14.out; have := HZ_15.out; have := HZ_16.out; have := HZ_17.out; have := HZ_18.out; have := HZ_19.out; omega))
  clear HBxg
  have HBxg := Lib.hid HT.out
  clear HT
  clear hq
  have HKv3 : Hid (kr2 ≤ kr1 + 2 * (bigWt b2 : Nat)) := Lib.hid hkb
  have hkp3 := hkp
  clear hkp hkb
  obtain ⟨x0, x1, x2, x3, x4, x5⟩ := HBxg.out.get
  obtain ⟨y0, y1, y2, y3, y4, y5⟩ := HBxb.out.get
  go_wp2_with fail
  clear x0 x1 x2 x3 x4 x5 y0 y1 y2 y3 y4 y5
  refine (eqBR_any _ _ R0 _ _ _ _ _ HRg.out HRb.out (by have := HZ0.out; have := HZ1.out; have := HZw.out; have := HZ_1.out; have := HZ_2.out; have := HZ_3.out; have := HZ_4.out; have := Hβb.out; have := HZ_5.out; have := HZ_6.out; have := HZs_7.out; have := HZ_7.out; have := HZ_8.out; have := HZs_9.out; have := HZ_9.out; have := HZ_10.out; have := HZs_11.out; have := HZ_11.out; have := HZ_12.out; have := HZ_13.out; have := HZ_14.out; have := HZ_15.out; have := HZ_16.out; have := HZ_17.out; have := HZ_18.out; have := HZ_19.out; omega) (by have := HZ0.out; have := HZ1.out; have := HZw.out; have := HZ_1.out; have := HZ_2.out; have := HZ_3.out; have := HZ_4.out; have := Hβb.out; have := HZ_5.out; have := HZ_6.out; have := HZs_7.out; have := HZ_7.out; have := HZ_8.out; have := HZs_9.out; have := HZ_9.out; have := HZ_10.out; have := HZs_11.out; have := HZ_11.out; have := HZ_12.out; have := HZ_13.out; have := HZ_14.out; have := HZ_15.out; have := HZ_16.out; have := HZ_17.out; have := HZ_18.out; have := HZ_19.out; omega) hM0).mono ?_
  rintro e w20 ⟨rfl, hb⟩
  have HZ_20 : Hid (w19.heap.size ≤ w20.heap.size) := Lib.hid hb.size
  have HKn := Lib.hid (HK0.out.trans (hb.mono HK0.out.size))
  clear HK0
  have HK0 := Lib.hid HKn.out
  clear HKn
  have HT := Lib.hid (HBox1.out.on hb)
  clear HBox1
  have HBox1 := Lib.hid HT.out
  clear HT
  have HT := Lib.hid (HBox2.out.on hb)
  clear HBox2
  have HBox2 := Lib.hid HT.out
  clear HT
  have HT := Lib.hid (HBxb.out.on hb)
  clear HBxb
  have HBxb := Lib.hid HT.out
  clear HT
  have HT := Lib.hid (HRb.out.on hb)
  clear HRb
  have HRb := Lib.hid HT.out
  clear HT
  have HT := Lib.hid (HBy1.out.on hb)
  clear HBy1
  have HBy1 := Lib.hid HT.out
  clear HT
  have HT := Lib.hid (HBy2.out.on hb)
  clear HBy2
  have HBy2 := Lib.hid HT.out
  clear HT
  have HT := Lib.hid (HRg.out.on hb)
  clear HRg
  have HRg := Lib.hid HT.out
  clear HT
  have HT := Lib.hid (HBxg.out.on hb)
  clear HBxg
  have HBxg := Lib.hid HT.out
  clear HT
  clear hb
  obtain ⟨x0, x1, x2, x3, x4, x5⟩ := HBxg.out.get
  go_wp2_with fail
  clear x0 x1 x2 x3 x4 x5
  refine (markBR_any _ R0 1 _ w9.heap.size w10.heap.size HRg.out (by have := HZ0.out; have := HZ1.out; have := HZw.out; have := HZ_1.out; have := HZ_2.out; have := HZ_3.out; have := HZ_4.out; have := Hβb.out; have := HZ_5.out; have := HZ_6.out; have := HZs_7.out; have := HZ_7.out; have := HZ_8.out; have := HZs_9.out; have := HZ_9.out; have := HZ_10.out; have := HZs_11.out; have := HZ_11.out; have := HZ_12.out; have := HZ_13.out; have := HZ_14.out; have := HZ_15.out; have := HZ_16.out; have := HZ_17.out; have := HZ_18.out; have := HZ_19.out; have := HZ_20.out; omega) (by omega) (by omega) hM0).mono ?_
  rintro e w21 ⟨rfl, hm, hq⟩
  clear HRg
  have HZ_21 : Hid (w20.heap.size ≤ w21.heap.size) := Lib.hid hq.size
  have HKn := Lib.hid (HK0.out.trans ((hq.below (show w9.heap.size ≤ w20.heap.size by have := HZ0.out; have := HZ1.out; have := HZw.out; have := HZ_1.out; have := HZ_2.out; have := HZ_3.out; have := HZ_4.out; have := Hβb.out; have := HZ_5.out; have := HZ_6.out; have := HZs_7.out; have := HZ_7.out; have := HZ_8.out; have := HZs_9.out; have := HZ_9.out; have := HZ_10.out; have := HZs_11.out; have := HZ_11.out; have := HZ_12.out; have := HZ_13.out; have := HZ_14.out; have := HZ_15.out; have := HZ_16.out; have := HZ_17.out; have := HZ_18.out; have := HZ_19.out; have := HZ_20.out; have := HZ_21.out; omega)).mono (show w.heap.size ≤ w9.heap.size by have := HZ0.out; have := HZ1.out; have := HZw.out; have := HZ_1.out; have := HZ_2.out; have := HZ_3.out; have := HZ_4.out; have := Hβb.out; have := HZ_5.out; have := HZ_6.out; have := HZs_7.out; have := HZ_7.out; have := HZ_8.out; have := HZs_9.out; have := HZ_9.out; have := HZ_10.out; have := HZs_11.out; have := HZ_11.out; have := HZ_12.out; have := HZ_13.out; have := HZ_14.out; have := HZ_15.out; have := HZ_16.out; have := HZ_17.out; have := HZ_18.out; have := HZ_19.out; have := HZ_20.out; have := HZ_21.out; omega)))
  clear HK0
  have HK0 := Lib.hid HKn.out
  clear HKn
  have HT := Lib.hid (HBox1.out.far hq (by have := HZ0.out; have := HZ1.out; have := HZw.out; have := HZ_1.out; have := HZ_2.out; have := HZ_3.out; have := HZ_4.out; have := Hβb.out; have := HZ_5.out; have := HZ_6.out; have := HZs_7.out; have := HZ_7.out; have := HZ_8.out; have := HZs_9.out; have := HZ_9.out; have := HZ_10.out; have := HZs_11.out; have := HZ_11.out; have := HZ_12.out; have := HZ_13.out; have := HZ_14.out; have := HZ_15.out; have := HZ_16.out; have := HZ_17.out; have := HZ_18.out; have := HZ_19.out; have := HZ_20.out; have := HZ_21.out; omega))
  clear HBox1
  have HBox1 := Lib.hid HT.out
  clear HT
  have HT := Lib.hid (HBox2.out.far hq (by have := HZ0.out; have := HZ1.out; have := HZw.out; have := HZ_1.out; have := HZ_2.out; have := HZ_3.out; have := HZ_4.out; have := Hβb.out; have := HZ_5.out; have := HZ_6.out; have := HZs_7.out; have := HZ_7.out; have := HZ_8.out; have := HZs_9.out; have := HZ_9.out; have := HZ_10.out; have := HZs_11.out; have := HZ_11.out; have := HZ_12.out; have := HZ_13.out; have := HZ_14.out; have := HZ_15.out; have := HZ_16.out; have := HZ_17.out; have := HZ_18.out; have := HZ_19.out; have := HZ_20.out; have := HZ_21.out; omega))
  clear HBox2
  have HBox2 := Lib.hid HT.out
  clear HT
  have HT := Lib.hid (HBxb.out.far hq (by have := HZ0.out; have := HZ1.out; have := HZw.out; have := HZ_1.out; have := HZ_2.out; have := HZ_3.out; have := HZ_4.out; have := Hβb.out; have := HZ_5.out; have := HZ_6.out; have := HZs_7.out; have := HZ_7.out; have := HZ_8.out; have := HZs_9.out; have := HZ_9.out; have := HZ_10.out; have := HZs_11.out; have := HZ_11.out; have := HZ_12.out; have := HZ_13.out; have := HZ_14.out; have := HZ_15.out; have := HZ_16.out; have := HZ_17.out; have := HZ_18.out; have := HZ_19.out; have := HZ_20.out; have := HZ_21.out; omega))
  clear HBxb
  have HBxb := Lib.hid HT.out
  clear HT
  have HT := Lib.hid (HRb.out.far hq (by have := HZ0.out; have := HZ1.out; have := HZw.out; have := HZ_1.out; have := HZ_2.out; have := HZ_3.out; have := HZ_4.out; have := Hβb.out; have := HZ_5.out; have := HZ_6.out; have := HZs_7.out; have := HZ_7.out; have := HZ_8.out; have := HZs_9.out; have := HZ_9.out; have := HZ_10.out; have := HZs_11.out; have := HZ_11.out; have := HZ_12.out; have := HZ_13.out; have := HZ_14.out; have := HZ_15.out; have := HZ_16.out; have := HZ_17.out; have := HZ_18.out; have := HZ_19.out; have := HZ_20.out; have := HZ_21.out; omega))
  clear HRb
  have HRb := Lib.hid HT.out
  clear HT
  have HT := Lib.hid (HBy1.out.far hq (by have := HZ0.out; have := HZ1.out; have := HZw.out; have := HZ_1.out; have := HZ_2.out; have := HZ_3.out; have := HZ_4.out; have := Hβb.out; have := HZ_5.out; have := HZ_6.out; have := HZs_7.out; have := HZ_7.out; have := HZ_8.out; have := HZs_9.out; have := HZ_9.out; have := HZ_10.out; have := HZs_11.out; have := HZ_11.out; have := HZ_12.out; have := HZ_13.out; have := HZ_14.out; have := HZ_15.out; have := HZ_16.out; have := HZ_17.out; have := HZ_18.out; have := HZ_19.out; have := HZ_20.out; have := HZ_21.out; omega))
  clear HBy1
  have HBy1 := Lib.hid HT.out
  clear HT
  have HT := Lib.hid (HBy2.out.far hq (by have := HZ0.out; have := HZ1.out; have := HZw.out; have := HZ_1.out; have := HZ_2.out; have := HZ_3.out; have := HZ_4.out; have := Hβb.out; have := HZ_5.out; have := HZ_6.out; have := HZs_7.out; have := HZ_7.out; have := HZ_8.out; have := HZs_9.out; have := HZ_9.out; have := HZ_10.out; have := HZs_11.out; have := HZ_11.out; have := HZ_12.out; have := HZ_13.out; have := HZ_14.out; have := HZ_15.out; have := HZ_16.out; have := HZ_17.out; have := HZ_18.out; have := HZ_19.out; have := HZ_20.out; have := HZ_21.out; omega))
  clear HBy2
  have HBy2 := Lib.hid HT.out
  clear HT
  have HT := Lib.hid (HBxg.out.far hq (by have := HZ0.out; have := HZ1.out; have := HZw.out; have := HZ_1.out; have := HZ_2.out; have := HZ_3.out; have := HZ_4.out; have := Hβb.out; have := HZ_5.out; have := HZ_6.out; have := HZs_7.out; have := HZ_7.out; have := HZ_8.out; have := HZs_9.out; have := HZ_9.out; have := HZ_10.out; have := HZs_11.out; have := HZ_11.out; have := HZ_12.out; have := HZ_13.out; have := HZ_14.out; have := HZ_15.out; have := HZ_16.out; have := HZ_17.out; have := HZ_18.out; have := HZ_19.out; have := HZ_20.out; have := HZ_21.out; omega))
  clear HBxg
  have HBxg := Lib.hid HT.out
  clear HT
  clear hq
  have HMk := Lib.hid hm
  clear hm
  obtain ⟨mm, hmm⟩ : ∃ k : Int, 1 + (bigMk R0 : Int) = k := ⟨_, rfl⟩
  rw [hmm]
  have Hmm := Lib.hid hmm
  have hmp : 0 < mm := by omega
  clear hmm
  obtain ⟨x0, x1, x2, x3, x4, x5⟩ := HBxg.out.get
  go_wp2_with fail
  clear x0 x1 x2 x3 x4 x5
  refine (heldBR_any _ R0 1 _ w9.heap.size w10.heap.size HMk.out (by omega) (by omega) hM0).mono ?_
  rintro e w22 ⟨rfl, hb⟩
  rw [Hmm.out]
  have HZ_22 : Hid (w21.heap.size ≤ w22.heap.size) := Lib.hid hb.size
  have HKn := Lib.hid (HK0.out.trans (hb.mono HK0.out.size))
  clear HK0
  have HK0 := Lib.hid HKn.out
  clear HKn
  have HT := Lib.hid (HBox1.out.on hb)
  clear HBox1
  have HBox1 := Lib.hid HT.out
  clear HT
  have HT := Lib.hid (HBox2.out.on hb)
  clear HBox2
  have HBox2 := Lib.hid HT.out
  clear HT
  have HT := Lib.hid (HBxb.out.on hb)
  clear HBxb
  have HBxb := Lib.hid HT.out
  clear HT
  have HT := Lib.hid (HRb.out.on hb)
  clear HRb
  have HRb := Lib.hid HT.out
  clear HT
  have HT := Lib.hid (HBy1.out.on hb)
  clear HBy1
  have HBy1 := Lib.hid HT.out
  clear HT
  have HT := Lib.hid (HBy2.out.on hb)
  clear HBy2
  have HBy2 := Lib.hid HT.out
  clear HT
  have HT := Lib.hid (HBxg.out.on hb)
  clear HBxg
  have HBxg := Lib.hid HT.out
  clear HT
  have HT := Lib.hid (HMk.out.on hb)
  clear HMk
  have HMk := Lib.hid HT.out
  clear HT
  clear hb
  obtain ⟨x1_0, x1_1, x1_2, x1_3, x1_4, x1_5⟩ := HBox1.out.get
  obtain ⟨x2_0, x2_1, x2_2, x2_3, x2_4, x2_5⟩ := HBox2.out.get
  go_wp2_with fail
  go_cut [18, 19] from 115 to 124 (fun s6 s7 wx => GotBox w22 q R0 s6 s7 wx)
  case first =>
    have hkD := (Below.refl w22.heap.size w22).drew
    go_region_held3 (fun w' => (w'.cell? ⟨w.heap.size, 0, none⟩ = some (.int .i64 b1.roots) ∧ w'.cell? ⟨w.heap.size, 1, none⟩ = some (.slice A11 n11 c11) ∧ w'.cell? ⟨w.heap.size, 2, none⟩ = some (.slice A21 n21 c21) ∧ w'.cell? ⟨w.heap.size, 3, none⟩ = some (.int .i64 b1.edges) ∧ w'.cell? ⟨w.heap.size, 4, none⟩ = some (.slice A41 n41 c41) ∧ w'.cell? ⟨w.heap.size, 5, none⟩ = some (.slice A51 n51 c51)) ∧ (w'.cell? ⟨w.heap.size + 1, 0, none⟩ = some (.int .i64 b2.roots) ∧ w'.cell? ⟨w.heap.size + 1, 1, none⟩ = some (.slice A12 n12 c12) ∧ w'.cell? ⟨w.heap.size + 1, 2, none⟩ = some (.slice A22 n22 c22) ∧ w'.cell? ⟨w.heap.size + 1, 3, none⟩ = some (.int .i64 b2.edges) ∧ w'.cell? ⟨w.heap.size + 1, 4, none⟩ = some (.slice A42 n42 c42) ∧ w'.cell? ⟨w.heap.size + 1, 5, none⟩ = some (.slice A52 n52 c52))) (first | with_reducible exact ⟨(HBox1.out.on (((((((hkZ).setCell hβ _).setCell hβ _).setCell hβ _).setCell hβ _).setCell hβ _).setCell hβ _)).get, (HBox2.out.on (((((((hkZ).setCell hβ _).setCell hβ _).setCell hβ _).setCell hβ _).setCell hβ _).setCell hβ _)).get⟩ | with_reducible exact ⟨(HBox1.out.on (((((((hkZ.alloc hkZ.size _).setCell hkZ.size _).setCell hkZ.size _).setCell hkZ.size _).setCell hkZ.size _).setCell hkZ.size _).setCell hkZ.size _)).get, (HBox2.out.on (((((((hkZ.alloc hkZ.size _).setCell hkZ.size _).setCell hkZ.size _).setCell hkZ.size _).setCell hkZ.size _).setCell hkZ.size _).setCell hkZ.size _)).get⟩ | with_reducible exact ⟨(HBox1.out.on hkZ).get, (HBox2.out.on hkZ).get⟩ | with_reducible exact ⟨(HBox1.out.on (hkZ.alloc hkZ.size _)).get, (HBox2.out.on (hkZ.alloc hkZ.size _)).get⟩ | with_reducible exact ⟨(HBox1.out.on hkc2).get, (HBox2.out.on hkc2).get⟩ | with_reducible exact ⟨(HBox1.out.on (hkc2.alloc hkc2.size _)).get, (HBox2.out.on (hkc2.alloc hkc2.size _)).get⟩ | with_reducible exact ⟨(HBox1.out.on hkc1).get, (HBox2.out.on hkc1).get⟩ | with_reducible exact ⟨(HBox1.out.on (hkc1.alloc hkc1.size _)).get, (HBox2.out.on (hkc1.alloc hkc1.size _)).get⟩ | with_reducible exact ⟨(HBox1.out.on hkc0).get, (HBox2.out.on hkc0).get⟩ | with_reducible exact ⟨(HBox1.out.on (hkc0.alloc hkc0.size _)).get, (HBox2.out.on (hkc0.alloc hkc0.size _)).get⟩ | with_reducible exact ⟨(HBox1.out.on hkD).get, (HBox2.out.on hkD).get⟩ | with_reducible exact ⟨(HBox1.out.on ((Below.refl w22.heap.size w22).alloc (Nat.le_refl _) _).drew).get, (HBox2.out.on ((Below.refl w22.heap.size w22).alloc (Nat.le_refl _) _).drew).get⟩)
      (first
       | (have hTest := hβ; go_at_call 27; refine (toB_any _ b2 _ ((HA2.out.below (HK0.out.trans (hkc1.mono HK0.out.size))).wide (HK0.out.trans (hkc1.mono HK0.out.size)).size) HBS2.out).mono ?_; rintro e uc2 ⟨Vc2, rfl, hoc2, hb⟩; have hkc2 := hkc1.trans (hb.mono hkc1.size); have hoc0 := hoc0.on hb; have hoc1 := hoc1.on hb; have hrow := hrow.of_block (hb.block _ hrow.lt); clear hTest; clear hb)
       | (go_at_call 27; refine (toB_any _ b2 _ ((HA2.out.below (HK0.out.trans ((hkc1.alloc hkc1.size (.cells #[.int .i64 0, .slice none 0 0, .slice none 0 0, .int .i64 0, .slice none 0 0, .slice none 0 0] 36)).mono HK0.out.size))).wide (HK0.out.trans ((hkc1.alloc hkc1.size (.cells #[.int .i64 0, .slice none 0 0, .slice none 0 0, .int .i64 0, .slice none 0 0, .slice none 0 0] 36)).mono HK0.out.size)).size) HBS2.out).mono ?_; rintro e uc2 ⟨Vc2, rfl, hoc2, hb⟩; have hkc2 := (hkc1.alloc hkc1.size (.cells #[.int .i64 0, .slice none 0 0, .slice none 0 0, .int .i64 0, .slice none 0 0, .slice none 0 0] 36)).trans (hb.mono (hkc1.alloc hkc1.size (.cells #[.int .i64 0, .slice none 0 0, .slice none 0 0, .int .i64 0, .slice none 0 0, .slice none 0 0] 36)).size); have hoc0 := (hoc0.on ((Below.refl _ _).alloc (Nat.le_refl _) (.cells #[.int .i64 0, .slice none 0 0, .slice none 0 0, .int .i64 0, .slice none 0 0, .slice none 0 0] 36))).on hb; have hoc1 := (hoc1.on ((Below.refl _ _).alloc (Nat.le_refl _) (.cells #[.int .i64 0, .slice none 0 0, .slice none 0 0, .int .i64 0, .slice none 0 0, .slice none 0 0] 36))).on hb; have hβ := hkc1.size; have hrow := (six_new uc1 (.int .i64 0) (.slice none 0 0) (.slice none 0 0) (.int .i64 0) (.slice none 0 0) (.slice none 0 0) 36).of_block (hb.block _ (by simp)); clear hb)
       | (go_at_call 27; refine (toB_any _ b2 _ ((HA2.out.below (HK0.out.trans (hkc1.mono HK0.out.size))).wide (HK0.out.trans (hkc1.mono HK0.out.size)).size) HBS2.out).mono ?_; rintro e uc2 ⟨Vc2, rfl, hoc2, hb⟩; have hkc2 := hkc1.trans (hb.mono hkc1.size); have hoc0 := hoc0.on hb; have hoc1 := hoc1.on hb; clear hb)
       | (have hTest := hβ; go_at_call 27; refine (toB_any _ b1 _ ((HA1.out.below (HK0.out.trans (hkc0.mono HK0.out.size))).wide (HK0.out.trans (hkc0.mono HK0.out.size)).size) HBS1.out).mono ?_; rintro e uc1 ⟨Vc1, rfl, hoc1, hb⟩; have hkc1 := hkc0.trans (hb.mono hkc0.size); have hoc0 := hoc0.on hb; have hrow := hrow.of_block (hb.block _ hrow.lt); clear hTest; clear hb)
       | (go_at_call 27; refine (toB_any _ b1 _ ((HA1.out.below (HK0.out.trans ((hkc0.alloc hkc0.size (.cells #[.int .i64 0, .slice none 0 0, .slice none 0 0, .int .i64 0, .slice none 0 0, .slice none 0 0] 36)).mono HK0.out.size))).wide (HK0.out.trans ((hkc0.alloc hkc0.size (.cells #[.int .i64 0, .slice none 0 0, .slice none 0 0, .int .i64 0, .slice none 0 0, .slice none 0 0] 36)).mono HK0.out.size)).size) HBS1.out).mono ?_; rintro e uc1 ⟨Vc1, rfl, hoc1, hb⟩; have hkc1 := (hkc0.alloc hkc0.size (.cells #[.int .i64 0, .slice none 0 0, .slice none 0 0, .int .i64 0, .slice none 0 0, .slice none 0 0] 36)).trans (hb.mono (hkc0.alloc hkc0.size (.cells #[.int .i64 0, .slice none 0 0, .slice none 0 0, .int .i64 0, .slice none 0 0, .slice none 0 0] 36)).size); have hoc0 := (hoc0.on ((Below.refl _ _).alloc (Nat.le_refl _) (.cells #[.int .i64 0, .slice none 0 0, .slice none 0 0, .int .i64 0, .slice none 0 0, .slice none 0 0] 36))).on hb; have hβ := hkc0.size; have hrow := (six_new uc0 (.int .i64 0) (.slice none 0 0) (.slice none 0 0) (.int .i64 0) (.slice none 0 0) (.slice none 0 0) 36).of_block (hb.block _ (by simp)); clear hb)
       | (go_at_call 27; refine (toB_any _ b1 _ ((HA1.out.below (HK0.out.trans (hkc0.mono HK0.out.size))).wide (HK0.out.trans (hkc0.mono HK0.out.size)).size) HBS1.out).mono ?_; rintro e uc1 ⟨Vc1, rfl, hoc1, hb⟩; have hkc1 := hkc0.trans (hb.mono hkc0.size); have hoc0 := hoc0.on hb; clear hb)
       | (go_at_call 17; refine (toCS_any A0 n0 c0 cs0 _ ((HA0.out.below (HK0.out.trans ((((Below.refl w22.heap.size w22).alloc (Nat.le_refl _) (.cells #[.int .i64 0, .slice none 0 0, .slice none 0 0, .int .i64 0, .slice none 0 0, .slice none 0 0] 36)).drew).mono HK0.out.size))).wide (HK0.out.trans ((((Below.refl w22.heap.size w22).alloc (Nat.le_refl _) (.cells #[.int .i64 0, .slice none 0 0, .slice none 0 0, .int .i64 0, .slice none 0 0, .slice none 0 0] 36)).drew).mono HK0.out.size)).size) hn0).mono ?_; rintro e uc0 ⟨Vc0, rfl, hoc0, hb⟩; have hkc0 := (((Below.refl w22.heap.size w22).alloc (Nat.le_refl _) (.cells #[.int .i64 0, .slice none 0 0, .slice none 0 0, .int .i64 0, .slice none 0 0, .slice none 0 0] 36)).drew).trans (hb.mono (((Below.refl w22.heap.size w22).alloc (Nat.le_refl _) (.cells #[.int .i64 0, .slice none 0 0, .slice none 0 0, .int .i64 0, .slice none 0 0, .slice none 0 0] 36)).drew).size); have hβ := Nat.le_refl w22.heap.size; have hrow := (World.rowIs.drew (six_new w22 (.int .i64 0) (.slice none 0 0) (.slice none 0 0) (.int .i64 0) (.slice none 0 0) (.slice none 0 0) 36)).of_block (hb.block _ (by simp)); clear hb)
       | (go_at_call 17; refine (toCS_any A0 n0 c0 cs0 _ ((HA0.out.below (HK0.out.trans (hkD.mono HK0.out.size))).wide (HK0.out.trans (hkD.mono HK0.out.size)).size) hn0).mono ?_; rintro e uc0 ⟨Vc0, rfl, hoc0, hb⟩; have hkc0 := hkD.trans (hb.mono hkD.size); clear hb)
       | (have hTest := hβ; go_at_call 53; refine (HIm.out _ _ _ _ _ hoc0.here hoc1.here (And.intro (NilV.of_own hoc1) (si.CapO.of_own hoc1)) hoc2.here (And.intro (NilV.of_own hoc2) (si.CapO.of_own hoc2))).mono ?_; rintro e w23 ⟨vc0, rfl, hrc0, hb⟩; obtain ⟨B1c0, d1c0, B2c0, d2c0, B4c0, d4c0, B5c0, d5c0, rfl⟩ := hrc0.shape; have hkZ := hkc2.trans (hb.mono hkc2.size); have hrc0 := hrc0.wide (lo' := w22.heap.size) hkc2.size (Nat.le_refl _); have hrow := hrow.of_block (hb.block _ hrow.lt); clear hTest; obtain ⟨z0, z1, z2, z3, z4, z5⟩ := row6 hrow; have f0 := hrow.frozen 0; have f1 := hrow.frozen 1; have f2 := hrow.frozen 2; have f3 := hrow.frozen 3; have f4 := hrow.frozen 4; have f5 := hrow.frozen 5; clear hb)
       | (go_at_call 53; refine (HIm.out _ _ _ _ _ (hoc0.on ((Below.refl _ _).alloc (Nat.le_refl _) (.cells #[.int .i64 0, .slice none 0 0, .slice none 0 0, .int .i64 0, .slice none 0 0, .slice none 0 0] 36))).here (hoc1.on ((Below.refl _ _).alloc (Nat.le_refl _) (.cells #[.int .i64 0, .slice none 0 0, .slice none 0 0, .int .i64 0, .slice none 0 0, .slice none 0 0] 36))).here (And.intro (NilV.of_own (hoc1.on ((Below.refl _ _).alloc (Nat.le_refl _) (.cells #[.int .i64 0, .slice none 0 0, .slice none 0 0, .int .i64 0, .slice none 0 0, .slice none 0 0] 36)))) (si.CapO.of_own (hoc1.on ((Below.refl _ _).alloc (Nat.le_refl _) (.cells #[.int .i64 0, .slice none 0 0, .slice none 0 0, .int .i64 0, .slice none 0 0, .slice none 0 0] 36))))) (hoc2.on ((Below.refl _ _).alloc (Nat.le_refl _) (.cells #[.int .i64 0, .slice none 0 0, .slice none 0 0, .int .i64 0, .slice none 0 0, .slice none 0 0] 36))).here (And.intro (NilV.of_own (hoc2.on ((Below.refl _ _).alloc (Nat.le_refl _) (.cells #[.int .i64 0, .slice none 0 0, .slice none 0 0, .int .i64 0, .slice none 0 0, .slice none 0 0] 36)))) (si.CapO.of_own (hoc2.on ((Below.refl _ _).alloc (Nat.le_refl _) (.cells #[.int .i64 0, .slice none 0 0, .slice none 0 0, .int .i64 0, .slice none 0 0, .slice none 0 0] 36)))))).mono ?_; rintro e w23 ⟨vc0, rfl, hrc0, hb⟩; obtain ⟨B1c0, d1c0, B2c0, d2c0, B4c0, d4c0, B5c0, d5c0, rfl⟩ := hrc0.shape; have hkZ := (hkc2.alloc hkc2.size (.cells #[.int .i64 0, .slice none 0 0, .slice none 0 0, .int .i64 0, .slice none 0 0, .slice none 0 0] 36)).trans (hb.mono (hkc2.alloc hkc2.size (.cells #[.int .i64 0, .slice none 0 0, .slice none 0 0, .int .i64 0, .slice none 0 0, .slice none 0 0] 36)).size); have hrc0 := hrc0.wide (lo' := w22.heap.size) (hkc2.alloc hkc2.size (.cells #[.int .i64 0, .slice none 0 0, .slice none 0 0, .int .i64 0, .slice none 0 0, .slice none 0 0] 36)).size (Nat.le_refl _); have hβ := hkc2.size; have hrow := (six_new uc2 (.int .i64 0) (.slice none 0 0) (.slice none 0 0) (.int .i64 0) (.slice none 0 0) (.slice none 0 0) 36).of_block (hb.block _ (by simp)); obtain ⟨z0, z1, z2, z3, z4, z5⟩ := row6 hrow; have f0 := hrow.frozen 0; have f1 := hrow.frozen 1; have f2 := hrow.frozen 2; have f3 := hrow.frozen 3; have f4 := hrow.frozen 4; have f5 := hrow.frozen 5; clear hb)
       | (go_at_call 53; refine (HIm.out _ _ _ _ _ hoc0.here hoc1.here (And.intro (NilV.of_own hoc1) (si.CapO.of_own hoc1)) hoc2.here (And.intro (NilV.of_own hoc2) (si.CapO.of_own hoc2))).mono ?_; rintro e w23 ⟨vc0, rfl, hrc0, hb⟩; obtain ⟨B1c0, d1c0, B2c0, d2c0, B4c0, d4c0, B5c0, d5c0, rfl⟩ := hrc0.shape; have hkZ := hkc2.trans (hb.mono hkc2.size); have hrc0 := hrc0.wide (lo' := w22.heap.size) hkc2.size (Nat.le_refl _); clear hb))
    all_goals (go_wp2_with fail; go_meet)
    all_goals (first | with_reducible exact got_late q hrc0 (Nat.le_refl _) hkZ | with_reducible exact got_early q hrow hβ hrc0 (Nat.le_refl _) hkZ)
  case rest =>
  clear x1_0 x1_1 x1_2 x1_3 x1_4 x1_5
  clear x2_0 x2_1 x2_2 x2_3 x2_4 x2_5
  obtain ⟨w23, hwc⟩ : ∃ x, wc = x := ⟨_, rfl⟩
  rw [hwc] at hcut ⊢
  clear hwc
  obtain ⟨βc, B1c0, d1c0, B2c0, d2c0, B4c0, d4c0, B5c0, d5c0, rfl, rfl, hβc, hbox, hrc0, hb⟩ := hcut
  have HZ_23 : Hid (w22.heap.size ≤ w23.heap.size) := Lib.hid hb.size
  have HKn := Lib.hid (HK0.out.trans (hb.mono HK0.out.size))
  clear HK0
  have HK0 := Lib.hid HKn.out
  clear HKn
  have HT := Lib.hid (HBox1.out.on hb)
  clear HBox1
  have HBox1 := Lib.hid HT.out
  clear HT
  have HT := Lib.hid (HBox2.out.on hb)
  clear HBox2
  have HBox2 := Lib.hid HT.out
  clear HT
  have HT := Lib.hid (HBxb.out.on hb)
  clear HBxb
  have HBxb := Lib.hid HT.out
  clear HT
  have HT := Lib.hid (HRb.out.on hb)
  clear HRb
  have HRb := Lib.hid HT.out
  clear HT
  have HT := Lib.hid (HBy1.out.on hb)
  clear HBy1
  have HBy1 := Lib.hid HT.out
  clear HT
  have HT := Lib.hid (HBy2.out.on hb)
  clear HBy2
  have HBy2 := Lib.hid HT.out
  clear HT
  have HT := Lib.hid (HBxg.out.on hb)
  clear HBxg
  have HBxg := Lib.hid HT.out
  clear HT
  have HT := Lib.hid (HMk.out.on hb)
  clear HMk
  have HMk := Lib.hid HT.out
  clear HT
  clear hb
  have HBxc := Lib.hid hbox
  clear hbox
  have HRc := Lib.hid hrc0
  clear hrc0
  have Hβc := Lib.hid (And.intro hβc (World.rowIs.lt HBxc.out))
  clear hβc
  obtain ⟨x0, x1, x2, x3, x4, x5⟩ := HBxc.out.get
  obtain ⟨y0, y1, y2, y3, y4, y5⟩ := HBxb.out.get
  go_wp2_with fail
  clear x0 x1 x2 x3 x4 x5 y0 y1 y2 y3 y4 y5
  refine (eqBR_any _ _ R0 _ _ _ _ _ HRc.out HRb.out (by have := HZ0.out; have := HZ1.out; have := HZw.out; have := HZ_1.out; have := HZ_2.out; have := HZ_3.out; have := HZ_4.out; have := Hβb.out; have := HZ_5.out; have := HZ_6.out; have := HZs_7.out; have := HZ_7.out; have := HZ_8.out; have := HZs_9.out; have := HZ_9.out; have := HZ_10.out; have := HZs_11.out; have := HZ_11.out; have := HZ_12.out; have := HZ_13.out; have := HZ_14.out; have := HZ_15.out; have := HZ_16.out; have := HZ_17.out; have := HZ_18.out; have := HZ_19.out; have := HZ_20.out; have := HZ_21.out; have := HZ_22.out; have := HZ_23.out; have := Hβc.out; omega) (by have := HZ0.out; have := HZ1.out; have := HZw.out; have := HZ_1.out; have := HZ_2.out; have := HZ_3.out; have := HZ_4.out; have := Hβb.out; have := HZ_5.out; have := HZ_6.out; have := HZs_7.out; have := HZ_7.out; have := HZ_8.out; have := HZs_9.out; have := HZ_9.out; have := HZ_10.out; have := HZs_11.out; have := HZ_11.out; have := HZ_12.out; have := HZ_13.out; have := HZ_14.out; have := HZ_15.out; have := HZ_16.out; have := HZ_17.out; have := HZ_18.out; have := HZ_19.out; have := HZ_20.out; have := HZ_21.out; have := HZ_22.out; have := HZ_23.out; have := Hβc.out; omega) hM0).mono ?_
  rintro e w24 ⟨rfl, hb⟩
  have HZ_24 : Hid (w23.heap.size ≤ w24.heap.size) := Lib.hid hb.size
  have HKn := Lib.hid (HK0.out.trans (hb.mono HK0.out.size))
  clear HK0
  have HK0 := Lib.hid HKn.out
  clear HKn
  have HT := Lib.hid (HBox1.out.on hb)
  clear HBox1
  have HBox1 := Lib.hid HT.out
  clear HT
  have HT := Lib.hid (HBox2.out.on hb)
  clear HBox2
  have HBox2 := Lib.hid HT.out
  clear HT
  have HT := Lib.hid (HBxb.out.on hb)
  clear HBxb
  have HBxb := Lib.hid HT.out
  clear HT
  have HT := Lib.hid (HRb.out.on hb)
  clear HRb
  have HRb := Lib.hid HT.out
  clear HT
  have HT := Lib.hid (HBy1.out.on hb)
  clear HBy1
  have HBy1 := Lib.hid HT.out
  clear HT
  have HT := Lib.hid (HBy2.out.on hb)
  clear HBy2
  have HBy2 := Lib.hid HT.out
  clear HT
  have HT := Lib.hid (HBxg.out.on hb)
  clear HBxg
  have HBxg := Lib.hid HT.out
  clear HT
  have HT := Lib.hid (HMk.out.on hb)
  clear HMk
  have HMk := Lib.hid HT.out
  clear HT
  have HT := Lib.hid (HBxc.out.on hb)
  clear HBxc
  have HBxc := Lib.hid HT.out
  clear HT
  have HT := Lib.hid (HRc.out.on hb)
  clear HRc
  have HRc := Lib.hid HT.out
  clear HT
  clear hb
  obtain ⟨x0, x1, x2, x3, x4, x5⟩ := HBxg.out.get
  go_wp2_with fail
  clear x0 x1 x2 x3 x4 x5
  refine (heldBR_any _ R0 1 _ w9.heap.size w10.heap.size HMk.out (by omega) (by omega) hM0).mono ?_
  rintro e w25 ⟨rfl, hb⟩
  rw [Hmm.out]
  have HZ_25 : Hid (w24.heap.size ≤ w25.heap.size) := Lib.hid hb.size
  have HKn := Lib.hid (HK0.out.trans (hb.mono HK0.out.size))
  clear HK0
  have HK0 := Lib.hid HKn.out
  clear HKn
  have HT := Lib.hid (HBox1.out.on hb)
  clear HBox1
  have HBox1 := Lib.hid HT.out
  clear HT
  have HT := Lib.hid (HBox2.out.on hb)
  clear HBox2
  have HBox2 := Lib.hid HT.out
  clear HT
  have HT := Lib.hid (HBxb.out.on hb)
  clear HBxb
  have HBxb := Lib.hid HT.out
  clear HT
  have HT := Lib.hid (HRb.out.on hb)
  clear HRb
  have HRb := Lib.hid HT.out
  clear HT
  have HT := Lib.hid (HBy1.out.on hb)
  clear HBy1
  have HBy1 := Lib.hid HT.out
  clear HT
  have HT := Lib.hid (HBy2.out.on hb)
  clear HBy2
  have HBy2 := Lib.hid HT.out
  clear HT
  have HT := Lib.hid (HBxg.out.on hb)
  clear HBxg
  have HBxg := Lib.hid HT.out
  clear HT
  have HT := Lib.hid (HMk.out.on hb)
  clear HMk
  have HMk := Lib.hid HT.out
  clear HT
  have HT := Lib.hid (HBxc.out.on hb)
  clear HBxc
  have HBxc := Lib.hid HT.out
  clear HT
  have HT := Lib.hid (HRc.out.on hb)
  clear HRc
  have HRc := Lib.hid HT.out
  clear HT
  clear hb
  go_wp2_with fail
  go_ret
  exact ⟨rfl, HK0.out⟩
theorem own : ownKnob Tryz.prog.godebug = none := by kernel_rfl
theorem laidOut : laidOutB Tryz.prog = true := facts.laid
set_option maxRecDepth 100000 in
theorem lifted (os : Os) (started : os.Started) (H : Type) (enc : TypeId × Value → H) :
    ReturnsInHanded {} Tryz.checked os 13 .any (Rows.fnExactNestBigraphsSpec.pre6 enc Tryz.prog Tryz.f13 Rows.fnExactNestBigraphsRow.domain false) (Rows.fnExactNestBigraphsSpec.post enc Tryz.prog Tryz.f13 false true false false) := by
  refine returnsInHanded_of_change (C := Tryz.checked) own started (by kernel_rfl) Tryz.func13
    (ChangeSpec.witness6 (enc := enc) (C := Tryz.checked) false ⟨#[], #[.slice none 0 0, .agg #[.int .i64 0, .slice none 0 0, .slice none 0 0, .int .i64 0, .slice none 0 0, .slice none 0 0], .agg #[.int .i64 0, .slice none 0 0, .slice none 0 0, .int .i64 0, .slice none 0 0, .slice none 0 0]], []⟩ 8 (by kernel_rfl) (by kernel_rfl) (by kernel_rfl) (by kernel_rfl)) ?_
  intro W base args ds gs before hval0 hW hcnd _
  have hval : ∀ (j : Nat) t v, Tryz.f13.params[j]? = some t → args[j]? = some v → Value.okWide Tryz.prog W .any base t v := hval0
  have hW' := hW
  obtain ⟨p, q, hA0, hV, rfl, hfz, hnd⟩ := hW
  have hA : DataW.TrodAll enc Tryz.prog W 0 (fun _ => true) true Tryz.f13.params.toList args.toList ds p := hA0
  rw [Tryz.params13] at hA hval
  obtain ⟨v0, vs0, d0, ds0, p0, q0, hargs, rfl, rfl, h0, r0⟩ := trodAll_cons hA
  obtain ⟨v1, vs1, d1, ds1, p1, q1, rfl, rfl, rfl, h1, r1⟩ := trodAll_cons r0
  obtain ⟨v2, vs2, d2, ds2, p2, q2, rfl, rfl, rfl, h2, r2⟩ := trodAll_cons r1
  obtain ⟨rfl, rfl, rfl⟩ := trodAll_nil r2
  obtain rfl : args = #[v0, v1, v2] := by cases args; simp_all
  obtain ⟨rfl, rfl⟩ := trodVars_none hV
  have k0 := h0
  have lt0 : ∀ x ∈ p0, x.block < W.heap.size := by obtain ⟨m, hm⟩ := k0; exact DataW.trod_lt m _ _ _ hm
  obtain ⟨A0, n0, c0, cs0, rfl, s0, w0⟩ := open_sig (hval 0 22 v0 rfl rfl) h0 lt0
  have k1 := h1
  have lt1 : ∀ x ∈ p1, x.block < W.heap.size := by obtain ⟨m, hm⟩ := k1; exact DataW.trod_lt m _ _ _ hm
  obtain ⟨b1, s1, w1⟩ := open_big (hval 1 28 v1 rfl rfl) h1 lt1
  have k2 := h2
  have lt2 : ∀ x ∈ p2, x.block < W.heap.size := by obtain ⟨m, hm⟩ := k2; exact DataW.trod_lt m _ _ _ hm
  obtain ⟨b2, s2, w2⟩ := open_big (hval 2 28 v2 rfl rfl) h2 lt2
  clear hA0 hval0
  refine (walk A0 n0 c0 cs0 v1 b1 v2 b2 W s0 w0 s1 w1 s2 w2).mono fun e W' ⟨he, bel⟩ => ?_
  subst he
  exact ⟨_, rfl, _, _, _, [], _, [], hW', trodAll_mk1 (shut_bool Tryz.underlying4 _), (trodAll_cons_mk (Below.trod laidOut (by kernel_rfl) (of_decide_eq_true (by kernel_rfl)) k0 bel lt0) (trodAll_cons_mk (Below.trod laidOut (by kernel_rfl) (of_decide_eq_true (by kernel_rfl)) k1 bel lt1) (trodAll_cons_mk (Below.trod laidOut (by kernel_rfl) (of_decide_eq_true (by kernel_rfl)) k2 bel lt2) trodAll_mk0))), rfl, bel.frame _, fun h => by cases h⟩
theorem closed : joinedFacts Tryz.checked.prog 13 Tryz.f13 Rows.fnExactNestBigraphsSpec Rows.fnExactNestBigraphsRow = true := by
  unfold joinedFacts
  rw [facts.laid, facts.maps, facts.heard, facts.enter, facts.lifts, facts.make, facts.keys]
  kernel_rfl
theorem over : Rows.fnExactNestBigraphsRow.holds Tryz.pinned (OpenSpec.ofChange Rows.fnExactNestBigraphsSpec) :=
  OpenClaim.holds_of_wide 13 Tryz.f13 rfl rfl rfl rfl rfl rfl rfl ⟨rfl, rfl, rfl, rfl, rfl⟩ rfl rfl rfl rfl rfl (by kernel_rfl) Tryz.func13 closed
    (of_decide_eq_true (by kernel_rfl)) (by unfold Func.isWrapper; first | (rw [if_pos (by decide +kernel)]; kernel_rfl) | (rw [if_neg (by decide +kernel)]; exact ⟨rfl, rfl⟩))
    (fun os started H enc _ => lifted os started H enc)
theorem proved : Rows.FnExactNestBigraphsSaid := over
#print axioms proved
end Go.Proofs.YtfjgapkjpmkplaaGreat.fnExactNestBigraphs
