/- Si. -/
import Derived.Test.YtfjgapkjpmkplaaGreatBa
import Derived.Test.YtfjgapkjpmkplaaGreatBb
import Derived.Test.YtfjgapkjpmkplaaGreatBc
import Derived.Test.YtfjgapkjpmkplaaGreatBd
import Derived.Test.YtfjgapkjpmkplaaGreatBe
import Derived.Test.YtfjgapkjpmkplaaGreatBh
import Derived.Test.YtfjgapkjpmkplaaGreatKb0
import Derived.Test.YtfjgapkjpmkplaaGreatKa0
import Derived.Test.YtfjgapkjpmkplaaGreatJRtg
import Derived.Test.YtfjgapkjpmkplaaGreatJMg
import Derived.Test.YtfjgapkjpmkplaaGreatKc0
import Derived.Test.YtfjgapkjpmkplaaGreatJRta
import Derived.Test.YtfjgapkjpmkplaaGreatRows
import Derived.WalkKit
import Derived.WalkSpells
import Derived.WalkLawsBesides
import Derived.ProofKit
import Derived.OpenShut
import Derived.ShutString
import Derived.Deep.OwnRows
import Derived.Deep.Draws
import Derived.SliceStrings
import Derived.ChangeOld
import Derived.Below
import Derived.Lib.Hide
import Derived.Lib.ItoaNum
import Derived.Deep.QuietTactic
import Derived.BigQuiet
import Derived.Outline
import Derived.StillTailTactics
import Derived.Deep.RegionWith
import Derived.Deep.RegionHeld3
import Derived.Deep.Slices
import Derived.Deep.Fields
import Derived.ChangeSame
import Derived.Lib.SmallJoins
import Derived.Maps.OwnOps
import Derived.Maps.OwnIn
import Derived.Maps.Views
import Derived.Maps.AppendAt
import Derived.RangeFuncBox
import Derived.RangeFuncLeaves
import Derived.Shelf.Abstract
import Derived.OwnWalkIn
import Derived.TacticsInMore
import Derived.LoopNIn
import Derived.LoopIn
import Derived.RangeFuncWrites
import Derived.RangeFuncNested
import Derived.JoinedOf
import Derived.Deep.AppendLies
import Derived.Deep.RegionLaw
import Derived.Laws.AppendOwnNone
import Derived.Lib.SliceRun
import Derived.Deep.Cut
import Derived.Deep.CutRange
import Derived.OrdersHeld
import Derived.StillTail
import Derived.Handy
import Derived.Lib.Walk
import Derived.Deep.LoopGhost
import Derived.Lib.LazyBuf
import Derived.Lib.AppendZerosOnto
import Derived.Sort.OwnSorted
import Derived.Lib.SlicesCompact
import Derived.Sort.KeysCollected
import Derived.Test.YtfjgapkjpmkplaaGreatSfl
import Derived.Shelf.SlSortCmp.NoneTotal
import Derived.WalkMore
import Derived.ScopeJumps
import Derived.Laws.EntriesVeiled
set_option linter.unusedSimpArgs false
set_option linter.unusedVariables false
namespace Go.Proofs.YtfjgapkjpmkplaaGreat.si
open kit bg sg opn strs only hb sig isig un over gn nm inn ht gd im pt marks eqs hc hi hw hn rs br bm bw cf lf ib lw cl rt ix tg rl ed tp rtg uw ux nj cg rk nk wk ek tm gv lep mrp mri mrs pl ft co sd sf sh mg mb sb wb mw
open rta (ret_any)
open Go.RowKit
set_option linter.unusedVariables false
set_option linter.unusedSimpArgs false
def CapO (v : Value) : Prop := ∃ a A1 n1 c1 A2 n2 c2 e A4 n4 c4 A5 n5 c5, v = .agg #[a, .slice A1 n1 c1, .slice A2 n2 c2, e, .slice A4 n4 c4, .slice A5 n5 c5] ∧ n4 ≤ c4
theorem CapO.get {a e : Value} {A1 A2 A4 A5 : Option Addr} {n1 c1 n2 c2 n4 c4 n5 c5 : Nat} (h : CapO (.agg #[a, .slice A1 n1 c1, .slice A2 n2 c2, e, .slice A4 n4 c4, .slice A5 n5 c5])) : n4 ≤ c4 := by
  obtain ⟨a', A1', n1', c1', A2', n2', c2', e', A4', n4', c4', A5', n5', c5', h, h1⟩ := h
  injection h with h
  simp at h
  obtain ⟨-, -, -, -, ⟨-, rfl, rfl⟩, -⟩ := h
  exact h1
theorem CapO.of_own {w : World} {lo hi : Nat} {v : Value} {b : Big} (h : BigOwn w lo hi v b) : CapO v := by
  obtain ⟨g1, g2, g4, g5, rfl, -⟩ := h
  exact ⟨_, _, _, _, _, _, _, _, _, _, _, _, _, _, rfl, Nat.le_refl _⟩
set_option maxRecDepth 20000 in
set_option maxHeartbeats 25600000 in
theorem sbs_any (cs : List Ctl) (va : Value) (a : Big) (vb : Value) (b : Big) (w : World) (hva : BigAt w w.heap.size va a) (hSa : BigS a) (hNa : NilV va) (hCa : CapO va) (hga : bigB cs a = true) (hvb : BigAt w w.heap.size vb b) (hSb : BigS b) (hNb : NilV vb) (hCb : CapO vb) (hgb : bigB cs b = true) :
    Calls Tryz.prog 111 #[va, vb] w fun e w' => ∃ (v : Value) (ws : List Wr), e = .returned v ∧ ws.Perm (wnA a b ++ wnB a b) ∧ SortW ws ∧ BigR w' w.heap.size w'.heap.size v (sdB a b ws) ∧ Below w.heap.size w w' := by
  obtain ⟨A1, n1, c1, A2, n2, c2, A4, n4, c4, A5, n5, c5, rfl, h1, h2, h4, h5⟩ := hva
  obtain ⟨B1, m1, d1, B2, m2, d2, B4, m4, d4, B5, m5, d5, rfl, k1, k2, k4, k5⟩ := hvb
  have hnilA := hNa.get
  have hb0 := (Below.refl w.heap.size w).alloc (Nat.le_refl _) (.cells #[.int .i64 a.roots, .slice A1 n1 c1, .slice A2 n2 c2, .int .i64 a.edges, .slice A4 n4 c4, .slice A5 n5 c5] 36)
  have HBa0 : BoxAt (w.alloc (.cells #[.int .i64 a.roots, .slice A1 n1 c1, .slice A2 n2 c2, .int .i64 a.edges, .slice A4 n4 c4, .slice A5 n5 c5] 36)) w.heap.size 36 (.int .i64 a.roots) (.slice A1 n1 c1) (.slice A2 n2 c2) (.int .i64 a.edges) (.slice A4 n4 c4) (.slice A5 n5 c5) := six_new w _ _ _ _ _ _ _
  obtain ⟨U, hU⟩ : ∃ U, w.alloc (.cells #[.int .i64 a.roots, .slice A1 n1 c1, .slice A2 n2 c2, .int .i64 a.edges, .slice A4 n4 c4, .slice A5 n5 c5] 36) = U := ⟨_, rfl⟩
  have hUz : U.heap.size = w.heap.size + 1 := by rw [← hU]; simp
  rw [hU] at HBa0 hb0
  have hb1 := (Below.refl U.heap.size U).alloc (Nat.le_refl _) (.cells #[.int .i64 b.roots, .slice B1 m1 d1, .slice B2 m2 d2, .int .i64 b.edges, .slice B4 m4 d4, .slice B5 m5 d5] 36)
  have HBb0 : BoxAt (U.alloc (.cells #[.int .i64 b.roots, .slice B1 m1 d1, .slice B2 m2 d2, .int .i64 b.edges, .slice B4 m4 d4, .slice B5 m5 d5] 36)) U.heap.size 36 (.int .i64 b.roots) (.slice B1 m1 d1) (.slice B2 m2 d2) (.int .i64 b.edges) (.slice B4 m4 d4) (.slice B5 m5 d5) := six_new U _ _ _ _ _ _ _
  obtain ⟨W, hW⟩ : ∃ W, U.alloc (.cells #[.int .i64 b.roots, .slice B1 m1 d1, .slice B2 m2 d2, .int .i64 b.edges, .slice B4 m4 d4, .slice B5 m5 d5] 36) = W := ⟨_, rfl⟩
  have hWz : W.heap.size = w.heap.size + 2 := by rw [← hW]; simp; omega
  rw [hW] at HBb0 hb1
  rw [hUz] at HBb0
  have hb2 := (Below.refl W.heap.size W).alloc (Nat.le_refl _) (.cells #[.int .i64 0, .slice none 0 0, .slice none 0 0, .int .i64 0, .slice none 0 0, .slice none 0 0] 36)
  have HBr0 : BoxAt (W.alloc (.cells #[.int .i64 0, .slice none 0 0, .slice none 0 0, .int .i64 0, .slice none 0 0, .slice none 0 0] 36)) W.heap.size 36 (.int .i64 0) (.slice none 0 0) (.slice none 0 0) (.int .i64 0) (.slice none 0 0) (.slice none 0 0) := six_new W _ _ _ _ _ _ _
  obtain ⟨X, hX⟩ : ∃ X, W.alloc (.cells #[.int .i64 0, .slice none 0 0, .slice none 0 0, .int .i64 0, .slice none 0 0, .slice none 0 0] 36) = X := ⟨_, rfl⟩
  have hXz : X.heap.size = w.heap.size + 3 := by rw [← hX]; simp; omega
  rw [hX] at HBr0 hb2
  rw [hWz] at HBr0
  have HUq := Lib.hid hU
  have HWq := Lib.hid hW
  have HXq := Lib.hid hX
  have HB0 := Lib.hid (hb0.trans ((hb1.trans (hb2.mono hb1.size)).mono hb0.size))
  have HBa := Lib.hid ((HBa0.on hb1).on hb2)
  have HBb := Lib.hid (HBb0.on hb2)
  have HBr := Lib.hid HBr0
  have HXz := Lib.hid hXz
  clear hU hW hX hb0 hb1 hb2 HBa0 HBb0 HBr0 hUz hWz
  have hnilB := hNb.get
  have hcA := hCa.get
  have hcB := hCb.get
  have hya := sizes_of (big_of hga).2.1
  have hyb := sizes_of (big_of hgb).2.1
  have l1 : a.nodes.length = n1 := h1.1
  have l4 : a.outer.length = n4 := h4.strlen
  have q4 : b.outer.length = m4 := k4.strlen
  have hOl : (sdO a b).length ≤ 32 := by have := sdO_len a b; omega
  have CG := Lib.hid (fun (Y : World) (hY : Below w.heap.size w Y) => mrg_any A4 B4 n4 c4 m4 d4 a.outer b.outer Y ((h4.below hY).wide hY.size) ((k4.below hY).wide hY.size) (by omega) (by omega) hcA hcB hnilA.2.2.1 hnilB.2.2.1)
  rw [mrg_names (big_of hga).2.2.1 (big_of hgb).2.2.1] at CG
  have hVa := Lib.hid (fun (Y : World) (hY : Below w.heap.size w Y) => (BigAt.wide (BigAt.below ⟨_, _, _, _, _, _, _, _, _, _, _, _, rfl, h1, h2, h4, h5⟩ hY) hY.size : BigAt Y Y.heap.size (.agg #[.int .i64 a.roots, .slice A1 n1 c1, .slice A2 n2 c2, .int .i64 a.edges, .slice A4 n4 c4, .slice A5 n5 c5]) a))
  have hVb := Lib.hid (fun (Y : World) (hY : Below w.heap.size w Y) => (BigAt.wide (BigAt.below ⟨_, _, _, _, _, _, _, _, _, _, _, _, rfl, k1, k2, k4, k5⟩ hY) hY.size : BigAt Y Y.heap.size (.agg #[.int .i64 b.roots, .slice B1 m1 d1, .slice B2 m2 d2, .int .i64 b.edges, .slice B4 m4 d4, .slice B5 m5 d5]) b))
  obtain ⟨OU, hOU⟩ : ∃ OU, sdO a b = OU := ⟨_, rfl⟩
  have CA := Lib.hid (fun (AO : Option Addr) (cO : Nat) (Y : World) (hY : Below w.heap.size w Y) (hs : SR Y Y.heap.size AO OU.length (OU.map Value.string)) (h0 : AO = none → cO = 0) => ret_any 175 #[] (fun t => t) cs (.agg #[.int .i64 a.roots, .slice A1 n1 c1, .slice A2 n2 c2, .int .i64 a.edges, .slice A4 n4 c4, .slice A5 n5 c5]) a (a.edges + b.edges) AO OU.length cO OU Y (enters_of Tryz.func175 (by kernel_rfl) rfl) (fun l Z hl hZ => by
    rw [show (#[tgV (tgOf a l)] ++ #[] : Array Value) = #[tgV (tgOf a l)] from rfl]
    exact unc_any _ Z) (hVa.out Y hY) hSa hNa hga hs (by rw [← hOU]; omega) h0 (by omega))
  have CB := Lib.hid (fun (δ : Nat) (AO : Option Addr) (cO : Nat) (Y : World) (hY : Below w.heap.size w Y) (hd : Y.cell? ⟨δ, 0, none⟩ = some (.int .i64 a.edges)) (hδ : δ < Y.heap.size) (hs : SR Y Y.heap.size AO OU.length (OU.map Value.string)) (h0 : AO = none → cO = 0) =>
    ret_any 231 #[.pointer (some ⟨δ, 0, none⟩)] (behF a.edges) cs (.agg #[.int .i64 b.roots, .slice B1 m1 d1, .slice B2 m2 d2, .int .i64 b.edges, .slice B4 m4 d4, .slice B5 m5 d5]) b (a.edges + b.edges) AO OU.length cO OU Y (enters_of Tryz.func231 (by kernel_rfl) rfl) (fun l Z hl hZ => by
      rw [show (#[tgV (tgOf b l)] ++ #[.pointer (some ⟨δ, 0, none⟩)] : Array Value) = #[tgV (tgOf b l), .pointer (some ⟨δ, 0, none⟩)] from rfl]
      exact beh1_any a.edges (tgOf b l) δ Z ((hZ.cell (p := ⟨δ, 0, none⟩) hδ).trans hd) (Nat.lt_of_lt_of_le hδ hZ.size) (by omega) (tg_edge_in hl (by omega)))
      (hVb.out Y hY) hSb hNb hgb hs (by rw [← hOU]; omega) h0 (by omega))
  have HtR := Lib.hid (rs_tame hga hgb hSa hSb)
  have HGS := Lib.hid (gs_rel (f := reL b (behF a.edges) (a.edges + b.edges) OU) (E := a.edges + b.edges) (ou := OU) hgb)
  have HE := Lib.hid (fun ws => sd_parts (a := a) (b := b) ws hga hgb)
  have HIn := Lib.hid (sd_inner hga hgb (toF (fun r => -1 - (a.roots + r)) a.nodes.length))
  rw [l1] at HE HIn
  rw [hOU] at HtR HE HIn CG
  obtain ⟨Ra, hRa⟩ : ∃ Ra, reB a (fun t => t) (a.edges + b.edges) OU = Ra := ⟨_, rfl⟩
  obtain ⟨Rb, hRb⟩ : ∃ Rb, reB b (behF a.edges) (a.edges + b.edges) OU = Rb := ⟨_, rfl⟩
  have HGS' : Hid (abv.Up Rb.nodes ∧ Dn Rb.nodes Rb.roots ∧ (∀ (i : Nat) z, Rb.sites[i]? = some z → -Rb.roots ≤ z ∧ z < Rb.nodes.length) ∧ 0 ≤ Rb.roots ∧ Rb.roots ≤ 4 ∧ Rb.nodes.length ≤ 8 ∧ Rb.sites.length ≤ 4) := Lib.hid (by rw [← hRb]; exact HGS.out)
  rw [hRa] at CA HE HIn
  rw [hRb] at CB HE HtR HIn
  have HRan : Hid (Ra.nodes.length ≤ 8 ∧ Ra.sites.length ≤ 4 ∧ Ra.inner.length ≤ 16) := Lib.hid (by rw [← hRa]; refine ⟨by show (a.nodes.map _).length ≤ 8; rw [List.length_map]; omega, by show a.sites.length ≤ 4; omega, by show (a.inner.map _).length ≤ 16; rw [List.length_map]; omega⟩)
  have CM := Lib.hid (fun (v : Value) (Y : World) (hY : Below w.heap.size w Y) (hxa : BoxAt Y w.heap.size 36 (.int .i64 a.roots) (.slice A1 n1 c1) (.slice A2 n2 c2) (.int .i64 a.edges) (.slice A4 n4 c4) (.slice A5 n5 c5)) (hv : BigAt Y Y.heap.size v Rb) (hN : NilV v) =>
    mv_gen 190 #[.pointer (some ⟨w.heap.size, 0, none⟩)] (fun r => -1 - (a.roots + r)) n1 v Rb Y (enters_of Tryz.func190 (by kernel_rfl) rfl) (fun r Z hr hZ => by
      rw [show (#[.int .i64 r] ++ #[.pointer (some ⟨w.heap.size, 0, none⟩)] : Array Value) = #[.int .i64 r, .pointer (some ⟨w.heap.size, 0, none⟩)] from rfl]
      exact sb1_any a.roots r _ _ _ _ _ w.heap.size Z (hxa.on hZ) hya.1 (by have := HGS'.out.2.2.2.2.1; omega)) hv HtR.out.S hN HGS'.out (by omega))
  obtain ⟨Rp, hRp⟩ : ∃ Rp, plB (toF (fun r => -1 - (a.roots + r)) n1) Rb = Rp := ⟨_, rfl⟩
  have HRpn : Hid (Rp.nodes.length ≤ 8 ∧ Rp.sites.length ≤ 4 ∧ Rp.inner.length ≤ 16) := Lib.hid (by
    rw [← hRp]
    refine ⟨by show (Rb.nodes.map _).length ≤ 8; rw [List.length_map]; exact HGS'.out.2.2.2.2.2.1, by show (Rb.sites.map _).length ≤ 4; rw [List.length_map]; exact HGS'.out.2.2.2.2.2.2, ?_⟩
    rw [← hRb]
    show (b.inner.map _).length ≤ 16
    rw [List.length_map]
    omega)
  rw [hRp] at CM HE HIn
  have HOUl : Hid (OU.length ≤ 32) := Lib.hid (by rw [← hOU]; exact hOl)
  have hwE : wrap64 (a.edges + b.edges) = a.edges + b.edges := by unfold wrap64; omega
  have hwR : IntKind.i64.wrap (a.roots + b.roots) = a.roots + b.roots := IntWalk.i64_in _ (by omega)
  have hwn : n1 ≤ 1048576 := by omega
  clear hRa hRb hRp HGS hya hyb hSa hSb hNa hNb hga hgb hnilA hnilB hcA hcB hCa hCb h1 h2 h4 h5 k1 k2 k4 k5 l1 l4 q4 hVa hVb HtR HGS' hOl hOU
  obtain ⟨x0, x1, x2, x3, x4, x5⟩ := HBa.out.get
  obtain ⟨y0, y1, y2, y3, y4, y5⟩ := HBb.out.get
  go_enter Tryz.func111, Tryz.ntmps111
  go_wp2_with fail
  rw [HUq.out, HWq.out, HXq.out]
  go_wp2_with fail
  refine (CG.out X HB0.out).mono ?_
  rintro e w0 ⟨v0, rfl, ho0, hb0⟩
  dsimp only at ho0 ⊢
  obtain ⟨AO, cO, rfl, hrO⟩ := wb.strs_owned ho0
  have hz0 := hb0.size
  have hw0 := HB0.out.trans (hb0.mono HB0.out.size)
  have HRO := Lib.hid hrO
  have HBa0 := Lib.hid (HBa.out.on hb0)
  have HBb0 := Lib.hid (HBb.out.on hb0)
  have HBr0 := Lib.hid (HBr.out.on hb0)
  clear ho0 hrO hb0 x0 x1 x2 x3 x4 x5 y0 y1 y2 y3 y4 y5 CG
  obtain ⟨x0, x1, x2, x3, x4, x5⟩ := HBa0.out.get
  go_wp2_with fail
  refine (CA.out AO cO w0 hw0 (strsR_at HRO.out) (nil0 HRO.out)).mono ?_
  rintro e w1 ⟨v1, rfl, hr1, hb⟩
  obtain ⟨PA, rfl, hL1⟩ := laid_of hr1
  have hz1 := hb.size
  have hw1 := hw0.trans (hb.mono hw0.size)
  have hbX := (Below.refl w1.heap.size w1).alloc (Nat.le_refl _) (.cells #[.int .i64 Ra.roots, .slice PA.A1 Ra.nodes.length PA.c1, .slice PA.A2 Ra.sites.length PA.c2, .int .i64 Ra.edges, .slice PA.A4 Ra.outer.length PA.c4, .slice PA.A5 Ra.inner.length PA.c5] 36)
  have HBA0 : BoxAt (w1.alloc (.cells #[.int .i64 Ra.roots, .slice PA.A1 Ra.nodes.length PA.c1, .slice PA.A2 Ra.sites.length PA.c2, .int .i64 Ra.edges, .slice PA.A4 Ra.outer.length PA.c4, .slice PA.A5 Ra.inner.length PA.c5] 36)) w1.heap.size 36 (.int .i64 Ra.roots) (.slice PA.A1 Ra.nodes.length PA.c1) (.slice PA.A2 Ra.sites.length PA.c2) (.int .i64 Ra.edges) (.slice PA.A4 Ra.outer.length PA.c4) (.slice PA.A5 Ra.inner.length PA.c5) := six_new w1 _ _ _ _ _ _ _
  have hbb := hb.trans (hbX.mono hb.size)
  have HBa1 := Lib.hid (HBa0.out.on hbb)
  have HBb1 := Lib.hid (HBb0.out.on hbb)
  have HBr1 := Lib.hid (HBr0.out.on hbb)
  have HRO1 := Lib.hid (HRO.out.on hbb)
  have HL1 := Lib.hid hL1
  have HbX := Lib.hid hbX
  have HBA1 := Lib.hid HBA0
  have hw2 := hw1.trans (hbX.mono hw1.size)
  clear hr1 hb hL1 x0 x1 x2 x3 x4 x5 CA
  obtain ⟨t0, t1, t2, t3, t4, t5⟩ := HBA1.out.get
  obtain ⟨x0, x1, x2, x3, x4, x5⟩ := HBa1.out.get
  obtain ⟨y0, y1, y2, y3, y4, y5⟩ := HBb1.out.get
  go_wp2_with fail
  obtain ⟨w2, hq2⟩ : ∃ w2, w1.alloc (.cells #[.int .i64 Ra.roots, .slice PA.A1 Ra.nodes.length PA.c1, .slice PA.A2 Ra.sites.length PA.c2, .int .i64 Ra.edges, .slice PA.A4 Ra.outer.length PA.c4, .slice PA.A5 Ra.inner.length PA.c5] 36) = w2 := ⟨_, rfl⟩
  have hz2 : w1.heap.size < w2.heap.size := by rw [← hq2]; simp
  rw [hq2] at HBa1 HBb1 HBr1 HBA1 HbX hw2 HRO1 ⊢
  clear t0 t1 t2 t3 t4 t5 x0 x1 x2 x3 x4 x5 y0 y1 y2 y3 y4 y5 hq2 hbX HBA0 hbb HBa0 HBb0 HBr0 HRO
  have HW2 := Lib.hid hw2
  have HS4 : Hid (∀ w', Below w2.heap.size w2 w' → (w'.cell? ⟨w.heap.size, 3, none⟩ = some (.int .i64 a.edges) ∧ w'.cell? ⟨w.heap.size + 1, 0, none⟩ = some (.int .i64 b.roots) ∧ w'.cell? ⟨w.heap.size + 1, 1, none⟩ = some (.slice B1 m1 d1) ∧ w'.cell? ⟨w.heap.size + 1, 2, none⟩ = some (.slice B2 m2 d2) ∧ w'.cell? ⟨w.heap.size + 1, 3, none⟩ = some (.int .i64 b.edges) ∧ w'.cell? ⟨w.heap.size + 1, 4, none⟩ = some (.slice B4 m4 d4) ∧ w'.cell? ⟨w.heap.size + 1, 5, none⟩ = some (.slice B5 m5 d5))) := Lib.hid (fun w' hq => ⟨(HBa1.out.on hq).get.2.2.2.1, (HBb1.out.on hq).get⟩)
  have HSo : Hid (∀ Y, Below w2.heap.size w2 Y → SR Y Y.heap.size AO OU.length (OU.map Value.string)) := Lib.hid (fun Y hY => strsR_at (rowR_here (HRO1.out.on hY)))
  have hO0 := nil0 HRO1.out
  go_cut [9] from 28 to 34 (fun s9 wx => GotBox w2 true Rb s9 (.bool true) wx)
  case first =>
    have hk := (Below.refl w2.heap.size w2).drew
    refine rh.go_begin 8 (fun w' => (w'.cell? ⟨w.heap.size, 3, none⟩ = some (.int .i64 a.edges) ∧ w'.cell? ⟨w.heap.size + 1, 0, none⟩ = some (.int .i64 b.roots) ∧ w'.cell? ⟨w.heap.size + 1, 1, none⟩ = some (.slice B1 m1 d1) ∧ w'.cell? ⟨w.heap.size + 1, 2, none⟩ = some (.slice B2 m2 d2) ∧ w'.cell? ⟨w.heap.size + 1, 3, none⟩ = some (.int .i64 b.edges) ∧ w'.cell? ⟨w.heap.size + 1, 4, none⟩ = some (.slice B4 m4 d4) ∧ w'.cell? ⟨w.heap.size + 1, 5, none⟩ = some (.slice B5 m5 d5))) (by kernel_rfl) ?_ (fun hHeld => ?_)
    · ((try dsimp only); exact HS4.out _ (by go_grown))
    refine rh.go_take (i := 0) (v := ?v1) rfl (by kernel_rfl) (fun _ _ _ h => h) (Or.inl ⟨by rfl, ?hy1⟩) (by assumption) ?rest1
    case hy1 => (intro wS hSw; (try dsimp only at hSw); go_simp; try (with_reducible rfl))
    try simp only [Act.put, List.setIfInBounds_toArray, List.set_cons_zero, List.set_cons_succ]
    refine rh.go_take (i := 1) (v := ?v2) rfl (by kernel_rfl) (fun _ _ _ h => h) (Or.inl ⟨by rfl, ?hy2⟩) (by assumption) ?rest2
    case hy2 => (intro wS hSw; (try dsimp only at hSw); go_simp; try (with_reducible rfl))
    try simp only [Act.put, List.setIfInBounds_toArray, List.set_cons_zero, List.set_cons_succ]
    refine rh.go_take (i := 2) (v := ?v3) rfl (by kernel_rfl) (fun _ _ _ h => h) (Or.inl ⟨by rfl, ?hy3⟩) (by assumption) ?rest3
    case hy3 => (intro wS hSw; (try dsimp only at hSw); go_simp; try (with_reducible rfl))
    try simp only [Act.put, List.setIfInBounds_toArray, List.set_cons_zero, List.set_cons_succ]
    refine rh.go_take (i := 3) (v := ?v4) rfl (by kernel_rfl) (fun _ _ _ h => h) (Or.inl ⟨by rfl, ?hy4⟩) (by assumption) ?rest4
    case hy4 => (intro wS hSw; (try dsimp only at hSw); go_simp; try (with_reducible rfl))
    try simp only [Act.put, List.setIfInBounds_toArray, List.set_cons_zero, List.set_cons_succ]
    refine rh.go_take (i := 4) (v := ?v5) rfl (by kernel_rfl) (fun _ _ _ h => h) (Or.inl ⟨by rfl, ?hy5⟩) (by assumption) ?rest5
    case hy5 => (intro wS hSw; (try dsimp only at hSw); go_simp; try (with_reducible rfl))
    try simp only [Act.put, List.setIfInBounds_toArray, List.set_cons_zero, List.set_cons_succ]
    refine gt.go_two (i := 5) (j := 7) rfl rfl (by kernel_rfl) (fun K2 hK => ?_) (fun K2 hK => ?_)
    · go_simp
      go_at_call 176
      refine (beh_any a.edges _).mono ?_
      rintro e U1 ⟨rfl, hd, hz, hb⟩
      have hk := hk.trans (hb.mono hk.size)
      clear hb
      go_wp2_with fail
      refine hK.out _ _ ?_ (fun hHeld => ?_)
      · ((try dsimp only); exact HS4.out _ hk)
      clear hK K2
      try simp only [Act.put, List.setIfInBounds_toArray, List.set_cons_zero, List.set_cons_succ]
      refine gt.go_two (i := 6) (j := 7) rfl rfl (by kernel_rfl) (fun K2 hK => ?_) (fun K2 hK => ?_)
      · go_simp
        go_at_call 174
        refine (CB.out w2.heap.size AO cO U1 (HW2.out.trans (hk.mono HW2.out.size)) hd hz (HSo.out _ hk) hO0).mono ?_
        rintro e U2 ⟨v2, rfl, hr, hb⟩
        obtain ⟨E1, f1, E2, f2, E4, f4, E5, f5, rfl⟩ := hr.shape
        have HK1 := Lib.hid hk.size
        have hk := hk.trans (hb.mono hk.size)
        have HK2 := Lib.hid hk
        have HR := Lib.hid hr
        clear hb hr
        go_wp2_with fail
        refine hK.out _ _ ?_ (fun hHeld => ?_)
        · ((try dsimp only); exact HS4.out _ hk)
        clear hK K2
        try simp only [Act.put, List.setIfInBounds_toArray, List.set_cons_zero, List.set_cons_succ]
        refine rh.go_next (i := 7) rfl (by kernel_rfl) (fun K2 hK => ?_)
        go_simp
        have hk := hk.alloc hk.size (.cells #[.int .i64 0, .slice none 0 0, .slice none 0 0, .int .i64 0, .slice none 0 0, .slice none 0 0] 36)
        refine hK.out _ _ ?_ (fun hHeld => ?_)
        · ((try dsimp only); exact HS4.out _ hk)
        clear hK K2
        try simp only [Act.put, List.setIfInBounds_toArray, List.set_cons_zero, List.set_cons_succ]
        refine rh.go_last rfl (by kernel_rfl) (fun K2 hK => ?_)
        go_simp
        refine hK.out _ _ ?_
        refine NoPanic.normal ?_
        clear hK K2
        go_wp2_with fail
        go_meet
        exact got_late true HR.out HK1.out HK2.out
      · go_simp
        have hB := (Below.refl U1.heap.size U1).alloc (Nat.le_refl _) (.cells #[.int .i64 0, .slice none 0 0, .slice none 0 0, .int .i64 0, .slice none 0 0, .slice none 0 0] 36)
        have hbz : BoxAt (U1.alloc (.cells #[.int .i64 0, .slice none 0 0, .slice none 0 0, .int .i64 0, .slice none 0 0, .slice none 0 0] 36)) U1.heap.size 36 (.int .i64 0) (.slice none 0 0) (.slice none 0 0) (.int .i64 0) (.slice none 0 0) (.slice none 0 0) := six_new U1 _ _ _ _ _ _ _
        have HK1 := Lib.hid hk.size
        have hk := hk.trans (hB.mono hk.size)
        have hd := (hB.cell (p := ⟨w2.heap.size, 0, none⟩) hz).trans hd
        have hz := Nat.lt_of_lt_of_le hz hB.size
        refine hK.out _ _ ?_ (fun hHeld => ?_)
        · ((try dsimp only); exact HS4.out _ hk)
        clear hK K2
        try simp only [Act.put, List.setIfInBounds_toArray, List.set_cons_zero, List.set_cons_succ]
        obtain ⟨β, hβ⟩ : ∃ β, U1.heap.size = β := ⟨_, rfl⟩
        obtain ⟨WB, hWB⟩ : ∃ WB, U1.alloc (.cells #[.int .i64 0, .slice none 0 0, .slice none 0 0, .int .i64 0, .slice none 0 0, .slice none 0 0] 36) = WB := ⟨_, rfl⟩
        rw [hWB] at hbz hk hd hz ⊢
        rw [hβ] at hbz HK1 ⊢
        clear hWB hβ hB
        refine rh.go_next (i := 6) rfl (by kernel_rfl) (fun K2 hK => ?_)
        go_simp
        go_at_call 174
        refine (CB.out w2.heap.size AO cO WB (HW2.out.trans (hk.mono HW2.out.size)) hd hz (HSo.out _ hk) hO0).mono ?_
        rintro e U2 ⟨v2, rfl, hr, hb⟩
        obtain ⟨E1, f1, E2, f2, E4, f4, E5, f5, rfl⟩ := hr.shape
        have HBz := Lib.hid (hbz.on hb)
        have HKs := Lib.hid hk.size
        have hk := hk.trans (hb.mono hk.size)
        have HK2 := Lib.hid hk
        have HR := Lib.hid hr
        clear hb hr
        go_wp2_with fail
        refine hK.out _ _ ?_ (fun hHeld => ?_)
        · ((try dsimp only); exact HS4.out _ hk)
        clear hK K2
        try simp only [Act.put, List.setIfInBounds_toArray, List.set_cons_zero, List.set_cons_succ]
        obtain ⟨z0, z1, z2, z3, z4, z5⟩ := HBz.out.get
        have f0 := World.rowIs.frozen HBz.out 0
        have f1 := World.rowIs.frozen HBz.out 1
        have f2 := World.rowIs.frozen HBz.out 2
        have f3 := World.rowIs.frozen HBz.out 3
        have f4 := World.rowIs.frozen HBz.out 4
        have f5 := World.rowIs.frozen HBz.out 5
        refine rh.go_last rfl (by kernel_rfl) (fun K2 hK => ?_)
        go_simp
        refine hK.out _ _ ?_
        refine NoPanic.normal ?_
        clear hK K2
        go_wp2_with fail
        go_meet
        exact got_early true HBz.out HK1.out HR.out HKs.out HK2.out
    · go_simp
      have hbz : BoxAt ((w2.alloc (.cells #[.int .i64 0, .slice none 0 0, .slice none 0 0, .int .i64 0, .slice none 0 0, .slice none 0 0] 36)).drew) w2.heap.size 36 (.int .i64 0) (.slice none 0 0) (.slice none 0 0) (.int .i64 0) (.slice none 0 0) (.slice none 0 0) := six_new w2 _ _ _ _ _ _ _
      have hk := ((Below.refl w2.heap.size w2).alloc (Nat.le_refl _) (.cells #[.int .i64 0, .slice none 0 0, .slice none 0 0, .int .i64 0, .slice none 0 0, .slice none 0 0] 36)).drew
      refine hK.out _ _ ?_ (fun hHeld => ?_)
      · ((try dsimp only); exact HS4.out _ hk)
      clear hK K2
      try simp only [Act.put, List.setIfInBounds_toArray, List.set_cons_zero, List.set_cons_succ]
      obtain ⟨WB, hWB⟩ : ∃ WB, (w2.alloc (.cells #[.int .i64 0, .slice none 0 0, .slice none 0 0, .int .i64 0, .slice none 0 0, .slice none 0 0] 36)).drew = WB := ⟨_, rfl⟩
      rw [hWB] at hbz hk ⊢
      clear hWB
      refine rh.go_next (i := 5) rfl (by kernel_rfl) (fun K2 hK => ?_)
      go_simp
      go_at_call 176
      refine (beh_any a.edges _).mono ?_
      rintro e U1 ⟨rfl, hd, hz, hb⟩
      have hbz := hbz.on hb
      have hk := hk.trans (hb.mono hk.size)
      clear hb
      go_wp2_with fail
      refine hK.out _ _ ?_ (fun hHeld => ?_)
      · ((try dsimp only); exact HS4.out _ hk)
      clear hK K2
      try simp only [Act.put, List.setIfInBounds_toArray, List.set_cons_zero, List.set_cons_succ]
      refine rh.go_next (i := 6) rfl (by kernel_rfl) (fun K2 hK => ?_)
      go_simp
      go_at_call 174
      refine (CB.out WB.heap.size AO cO U1 (HW2.out.trans (hk.mono HW2.out.size)) hd hz (HSo.out _ hk) hO0).mono ?_
      rintro e U2 ⟨v2, rfl, hr, hb⟩
      obtain ⟨E1, f1, E2, f2, E4, f4, E5, f5, rfl⟩ := hr.shape
      have HBz := Lib.hid (hbz.on hb)
      have HKs := Lib.hid hk.size
      have hk := hk.trans (hb.mono hk.size)
      have HK2 := Lib.hid hk
      have HR := Lib.hid hr
      clear hb hr
      go_wp2_with fail
      refine hK.out _ _ ?_ (fun hHeld => ?_)
      · ((try dsimp only); exact HS4.out _ hk)
      clear hK K2
      try simp only [Act.put, List.setIfInBounds_toArray, List.set_cons_zero, List.set_cons_succ]
      obtain ⟨z0, z1, z2, z3, z4, z5⟩ := HBz.out.get
      have f0 := World.rowIs.frozen HBz.out 0
      have f1 := World.rowIs.frozen HBz.out 1
      have f2 := World.rowIs.frozen HBz.out 2
      have f3 := World.rowIs.frozen HBz.out 3
      have f4 := World.rowIs.frozen HBz.out 4
      have f5 := World.rowIs.frozen HBz.out 5
      refine rh.go_last rfl (by kernel_rfl) (fun K2 hK => ?_)
      go_simp
      refine hK.out _ _ ?_
      refine NoPanic.normal ?_
      clear hK K2
      go_wp2_with fail
      go_meet
      exact got_early true HBz.out (Nat.le_refl _) HR.out HKs.out HK2.out
  case rest =>
    obtain ⟨β, E1, f1, E2, f2, E4, f4, E5, f5, rfl, -, hβ, hbo, hr, hk⟩ := hcut
    rename World => wx
    have hβl : β < wx.heap.size := World.rowIs.lt hbo
    have hxs := hk.size
    have hwx := HW2.out.trans (hk.mono HW2.out.size)
    have HBa6 := Lib.hid (HBa1.out.on hk)
    have HBb6 := Lib.hid (HBb1.out.on hk)
    have HBr6 := Lib.hid (HBr1.out.on hk)
    have HBA6 := Lib.hid (HBA1.out.on hk)
    have HRO6 := Lib.hid (HRO1.out.on hk)
    have Hb16 := Lib.hid (HbX.out.trans (hk.mono HbX.out.size))
    have HBB6 := Lib.hid hbo
    have hnil : NilV (.agg #[.int .i64 Rb.roots, .slice E1 Rb.nodes.length f1, .slice E2 Rb.sites.length f2, .int .i64 Rb.edges, .slice E4 Rb.outer.length f4, .slice E5 Rb.inner.length f5]) := by
      obtain ⟨P0, e0, hL0⟩ := laid_of hr
      rw [e0]
      exact laid_nil hL0
    have C6 := CM.out _ wx hwx HBa6.out hr.at hnil
    clear HBa1 HBb1 HBr1 HBA1 HRO1 HbX HS4 HSo CB CM hnil hbo hr hk
    obtain ⟨x0, x1, x2, x3, x4, x5⟩ := HBa6.out.get
    obtain ⟨t0, t1, t2, t3, t4, t5⟩ := HBB6.out.get
    go_wp2_with fail
    clear x0 x1 x2 x3 x4 x5 t0 t1 t2 t3 t4 t5
    refine C6.mono ?_
    rintro e w7 ⟨v7, rfl, hr7, hb7⟩
    obtain ⟨PP, rfl, hL7⟩ := laid_of hr7
    have hz7 := hb7.size
    have HBB7 := HBB6.out.on hb7
    have hX1 : X.heap.size ≤ w1.heap.size := by omega
    have h8 : Below w1.heap.size w1 (sets6 w7 β (.int .i64 Rp.roots) (.slice PP.A1 Rp.nodes.length PP.c1) (.slice PP.A2 Rp.sites.length PP.c2) (.int .i64 Rp.edges) (.slice PP.A4 Rp.outer.length PP.c4) (.slice PP.A5 Rp.inner.length PP.c5)) := sets6_below (Hb16.out.trans (hb7.mono Hb16.out.size)) (by omega) _ _ _ _ _ _
    have HL8 : Hid (Laid (sets6 w7 β (.int .i64 Rp.roots) (.slice PP.A1 Rp.nodes.length PP.c1) (.slice PP.A2 Rp.sites.length PP.c2) (.int .i64 Rp.edges) (.slice PP.A4 Rp.outer.length PP.c4) (.slice PP.A5 Rp.inner.length PP.c5)) wx.heap.size (sets6 w7 β (.int .i64 Rp.roots) (.slice PP.A1 Rp.nodes.length PP.c1) (.slice PP.A2 Rp.sites.length PP.c2) (.int .i64 Rp.edges) (.slice PP.A4 Rp.outer.length PP.c4) (.slice PP.A5 Rp.inner.length PP.c5)).heap.size PP Rp) := Lib.hid (by
      rw [sets6_size]
      exact hL7.stay (fun g f m t _ hg _ => sets6_block _ _ _ _ _ _ (by omega)))
    have HA8 := Lib.hid (HL1.out.on h8)
    have HBB8 := Lib.hid (sets6_box HBB7 (.int .i64 Rp.roots) (.slice PP.A1 Rp.nodes.length PP.c1) (.slice PP.A2 Rp.sites.length PP.c2) (.int .i64 Rp.edges) (.slice PP.A4 Rp.outer.length PP.c4) (.slice PP.A5 Rp.inner.length PP.c5))
    have HBa8 := Lib.hid (show BoxAt (sets6 w7 β (.int .i64 Rp.roots) (.slice PP.A1 Rp.nodes.length PP.c1) (.slice PP.A2 Rp.sites.length PP.c2) (.int .i64 Rp.edges) (.slice PP.A4 Rp.outer.length PP.c4) (.slice PP.A5 Rp.inner.length PP.c5)) w.heap.size 36 (.int .i64 a.roots) (.slice A1 n1 c1) (.slice A2 n2 c2) (.int .i64 a.edges) (.slice A4 n4 c4) (.slice A5 n5 c5) from World.rowIs.of_block (HBa6.out.on hb7) (sets6_block _ _ _ _ _ _ (by have := HXz.out; omega)))
    have HBb8 := Lib.hid (show BoxAt (sets6 w7 β (.int .i64 Rp.roots) (.slice PP.A1 Rp.nodes.length PP.c1) (.slice PP.A2 Rp.sites.length PP.c2) (.int .i64 Rp.edges) (.slice PP.A4 Rp.outer.length PP.c4) (.slice PP.A5 Rp.inner.length PP.c5)) (w.heap.size + 1) 36 (.int .i64 b.roots) (.slice B1 m1 d1) (.slice B2 m2 d2) (.int .i64 b.edges) (.slice B4 m4 d4) (.slice B5 m5 d5) from World.rowIs.of_block (HBb6.out.on hb7) (sets6_block _ _ _ _ _ _ (by have := HXz.out; omega)))
    have HBr8 := Lib.hid (show BoxAt (sets6 w7 β (.int .i64 Rp.roots) (.slice PP.A1 Rp.nodes.length PP.c1) (.slice PP.A2 Rp.sites.length PP.c2) (.int .i64 Rp.edges) (.slice PP.A4 Rp.outer.length PP.c4) (.slice PP.A5 Rp.inner.length PP.c5)) (w.heap.size + 2) 36 (.int .i64 0) (.slice none 0 0) (.slice none 0 0) (.int .i64 0) (.slice none 0 0) (.slice none 0 0) from World.rowIs.of_block (HBr6.out.on hb7) (sets6_block _ _ _ _ _ _ (by have := HXz.out; omega)))
    have HBA8 := Lib.hid (show BoxAt (sets6 w7 β (.int .i64 Rp.roots) (.slice PP.A1 Rp.nodes.length PP.c1) (.slice PP.A2 Rp.sites.length PP.c2) (.int .i64 Rp.edges) (.slice PP.A4 Rp.outer.length PP.c4) (.slice PP.A5 Rp.inner.length PP.c5)) w1.heap.size 36 (.int .i64 Ra.roots) (.slice PA.A1 Ra.nodes.length PA.c1) (.slice PA.A2 Ra.sites.length PA.c2) (.int .i64 Ra.edges) (.slice PA.A4 Ra.outer.length PA.c4) (.slice PA.A5 Ra.inner.length PA.c5) from World.rowIs.of_block (HBA6.out.on hb7) (sets6_block _ _ _ _ _ _ (by omega)))
    have HRO8 : Hid (RowR (sets6 w7 β (.int .i64 Rp.roots) (.slice PP.A1 Rp.nodes.length PP.c1) (.slice PP.A2 Rp.sites.length PP.c2) (.int .i64 Rp.edges) (.slice PP.A4 Rp.outer.length PP.c4) (.slice PP.A5 Rp.inner.length PP.c5)) X.heap.size w0.heap.size 9 1 AO OU.length cO (at_ OU)) := Lib.hid ((HRO6.out.on hb7).stay (fun g f m _ _ _ hg => sets6_block _ _ _ _ _ _ (by omega)))
    have hw8 : Below w.heap.size w (sets6 w7 β (.int .i64 Rp.roots) (.slice PP.A1 Rp.nodes.length PP.c1) (.slice PP.A2 Rp.sites.length PP.c2) (.int .i64 Rp.edges) (.slice PP.A4 Rp.outer.length PP.c4) (.slice PP.A5 Rp.inner.length PP.c5)) := sets6_below (hwx.trans (hb7.mono hwx.size)) (by have := HXz.out; omega) _ _ _ _ _ _
    have hz8 := Lib.hid (sets6_size w7 β (.int .i64 Rp.roots) (.slice PP.A1 Rp.nodes.length PP.c1) (.slice PP.A2 Rp.sites.length PP.c2) (.int .i64 Rp.edges) (.slice PP.A4 Rp.outer.length PP.c4) (.slice PP.A5 Rp.inner.length PP.c5))
    obtain ⟨t0, t1, t2, t3, t4, t5⟩ := HBB7.get
    have g0 := World.rowIs.frozen HBB7 0
    have g1 := World.rowIs.frozen HBB7 1
    have g2 := World.rowIs.frozen HBB7 2
    have g3 := World.rowIs.frozen HBB7 3
    have g4 := World.rowIs.frozen HBB7 4
    have g5 := World.rowIs.frozen HBB7 5
    clear hr7 hL7
    go_wp2_with fail
    obtain ⟨w8, hq8⟩ : ∃ w8, sets6 w7 β (.int .i64 Rp.roots) (.slice PP.A1 Rp.nodes.length PP.c1) (.slice PP.A2 Rp.sites.length PP.c2) (.int .i64 Rp.edges) (.slice PP.A4 Rp.outer.length PP.c4) (.slice PP.A5 Rp.inner.length PP.c5) = w8 := ⟨_, rfl⟩
    rw [hq8] at HL8 HA8 HBB8 HBa8 HBb8 HBr8 HBA8 HRO8 hw8 hz8
    unfold sets6 at hq8
    rw [hq8]
    clear hq8 HBB7 h8 t0 t1 t2 t3 t4 t5 g0 g1 g2 g3 g4 g5 HBa6 HBb6 HBr6 HBA6 HBB6 HRO6 Hb16 hwx hb7 C6 HL1
    have h08 : w0.heap.size ≤ wx.heap.size := by omega
    have hX0 : X.heap.size ≤ w0.heap.size := hz0
    have hx8 : wx.heap.size ≤ w8.heap.size := by rw [hz8.out]; exact hz7
    have hxT := hx8
    have hX1 : X.heap.size ≤ wx.heap.size := Nat.le_trans hX0 h08
    have h1x : w1.heap.size ≤ wx.heap.size := by omega
    have HBaT := HBa8
    have HBbT := HBb8
    have HBrT := HBr8
    have HBAT := HBA8
    have HBBT := HBB8
    have HAT := HA8
    have HLT := HL8
    have HROT := HRO8
    have hwT := Lib.hid hw8
    clear HA8 HL8 HBa8 HBb8 HBr8 HBA8 HBB8 HRO8 hw8
    have HS8 : Hid (∀ w', Below w8.heap.size w8 w' → (w'.cell? ⟨w.heap.size, 0, none⟩ = some (.int .i64 a.roots) ∧ w'.cell? ⟨w.heap.size + 1, 0, none⟩ = some (.int .i64 b.roots) ∧ w'.cell? ⟨w1.heap.size, 1, none⟩ = some (.slice PA.A1 Ra.nodes.length PA.c1) ∧ w'.cell? ⟨w1.heap.size, 2, none⟩ = some (.slice PA.A2 Ra.sites.length PA.c2) ∧ w'.cell? ⟨β, 1, none⟩ = some (.slice PP.A1 Rp.nodes.length PP.c1) ∧ w'.cell? ⟨β, 2, none⟩ = some (.slice PP.A2 Rp.sites.length PP.c2) ∧ w'.cell? ⟨w1.heap.size, 5, none⟩ = some (.slice PA.A5 Ra.inner.length PA.c5) ∧ w'.cell? ⟨β, 5, none⟩ = some (.slice PP.A5 Rp.inner.length PP.c5))) := Lib.hid (fun w' hq => ⟨(HBaT.out.on hq).get.1, (HBbT.out.on hq).get.1, (HBAT.out.on hq).get.2.1, (HBAT.out.on hq).get.2.2.1, (HBBT.out.on hq).get.2.1, (HBBT.out.on hq).get.2.2.1, (HBAT.out.on hq).get.2.2.2.2.2, (HBBT.out.on hq).get.2.2.2.2.2⟩)
    have HCn := Lib.hid (fun (g : Nat) (Y : World) (hY : Below w8.heap.size w8 Y) (hV : SR Y Y.heap.size (some ⟨g, 0, none⟩) 2 [Value.slice PA.A1 Ra.nodes.length PA.c1, Value.slice PP.A1 Rp.nodes.length PP.c1]) => concatN_two (cv := 2) hV ((laid_ndr HAT.out).on hY |>.wide (Nat.le_refl _) h1x) ((laid_ndr HLT.out).on hY |>.wide (Nat.le_refl _) hY.size) h08 (Nat.le_trans hxT hY.size) (by have := HRan.out; omega) (by have := HRpn.out; omega))
    have HMw := Lib.hid (fun (Y : World) (hY : Below w8.heap.size w8 Y) => mw_any (HAT.out.2.2.2.2.on hY) (HLT.out.2.2.2.2.on hY) (by have := HRan.out; omega) (by have := HRpn.out; omega))
    have HCi := Lib.hid (fun (g : Nat) (Y : World) (hY : Below w8.heap.size w8 Y) (hV : SR Y Y.heap.size (some ⟨g, 0, none⟩) 2 [Value.slice PA.A2 Ra.sites.length PA.c2, Value.slice PP.A2 Rp.sites.length PP.c2]) => concatI_two (cv := 2) hV (HAT.out.2.2.1.on hY) (HLT.out.2.2.1.on hY) (by have := HRan.out; omega) (by have := HRpn.out; omega))
    obtain ⟨x0, x1, x2, x3, x4, x5⟩ := HBaT.out.get
    obtain ⟨y0, y1, y2, y3, y4, y5⟩ := HBbT.out.get
    go_wp2_with fail
    clear x0 x1 x2 x3 x4 x5 y0 y1 y2 y3 y4 y5
    refine rh.go_begin 25 (fun w' => (w'.cell? ⟨w.heap.size, 0, none⟩ = some (.int .i64 a.roots) ∧ w'.cell? ⟨w.heap.size + 1, 0, none⟩ = some (.int .i64 b.roots) ∧ w'.cell? ⟨w1.heap.size, 1, none⟩ = some (.slice PA.A1 Ra.nodes.length PA.c1) ∧ w'.cell? ⟨w1.heap.size, 2, none⟩ = some (.slice PA.A2 Ra.sites.length PA.c2) ∧ w'.cell? ⟨β, 1, none⟩ = some (.slice PP.A1 Rp.nodes.length PP.c1) ∧ w'.cell? ⟨β, 2, none⟩ = some (.slice PP.A2 Rp.sites.length PP.c2) ∧ w'.cell? ⟨w1.heap.size, 5, none⟩ = some (.slice PA.A5 Ra.inner.length PA.c5) ∧ w'.cell? ⟨β, 5, none⟩ = some (.slice PP.A5 Rp.inner.length PP.c5))) (by kernel_rfl) ?_ (fun hHeld => ?_)
    · ((try dsimp only); exact HS8.out _ (by go_grown))
    refine rh.go_take (i := 0) (v := ?v6) rfl (by kernel_rfl) (fun _ _ _ h => h) (Or.inl ⟨by rfl, ?hy6⟩) (by assumption) ?rest6
    case hy6 => (intro wS hSw; (try dsimp only at hSw); go_simp; try (with_reducible rfl))
    try simp only [Act.put, List.setIfInBounds_toArray, List.set_cons_zero, List.set_cons_succ]
    refine rh.go_take (i := 1) (v := ?v7) rfl (by kernel_rfl) (fun _ _ _ h => h) (Or.inl ⟨by rfl, ?hy7⟩) (by assumption) ?rest7
    case hy7 => (intro wS hSw; (try dsimp only at hSw); go_simp; try (with_reducible rfl))
    try simp only [Act.put, List.setIfInBounds_toArray, List.set_cons_zero, List.set_cons_succ]
    refine rh.go_take (i := 2) (v := ?v8) rfl (by kernel_rfl) (fun _ _ _ h => h) (Or.inl ⟨by rfl, ?hy8⟩) (by assumption) ?rest8
    case hy8 => (intro wS hSw; (try dsimp only at hSw); go_simp; try (with_reducible rfl))
    try simp only [Act.put, List.setIfInBounds_toArray, List.set_cons_zero, List.set_cons_succ]
    refine rh.go_take (i := 3) (v := ?v9) rfl (by kernel_rfl) (fun _ _ _ h => h) (Or.inl ⟨by rfl, ?hy9⟩) (by assumption) ?rest9
    case hy9 => (intro wS hSw; (try dsimp only at hSw); go_simp; try (with_reducible rfl))
    try simp only [Act.put, List.setIfInBounds_toArray, List.set_cons_zero, List.set_cons_succ]
    refine rh.go_take (i := 4) (v := .int .i64 (a.roots + b.roots)) rfl (by kernel_rfl) (fun _ _ _ h => h) (Or.inl ⟨by rfl, ?hyQ4⟩) (by assumption) ?restQ4
    case hyQ4 => (intro wS hSw; (try dsimp only at hSw); go_simp; try rw [hwR])
    try simp only [Act.put, List.setIfInBounds_toArray, List.set_cons_zero, List.set_cons_succ]
    refine rh.go_take (i := 5) (v := ?v10) rfl (by kernel_rfl) (fun _ _ _ h => h) (Or.inl ⟨by rfl, ?hy10⟩) (by assumption) ?rest10
    case hy10 => (intro wS hSw; (try dsimp only at hSw); go_simp; try (with_reducible rfl))
    try simp only [Act.put, List.setIfInBounds_toArray, List.set_cons_zero, List.set_cons_succ]
    refine rh.go_take (i := 6) (v := ?v11) rfl (by kernel_rfl) (fun _ _ _ h => h) (Or.inl ⟨by rfl, ?hy11⟩) (by assumption) ?rest11
    case hy11 => (intro wS hSw; (try dsimp only at hSw); go_simp; try (with_reducible rfl))
    try simp only [Act.put, List.setIfInBounds_toArray, List.set_cons_zero, List.set_cons_succ]
    refine rh.go_take (i := 7) (v := ?v12) rfl (by kernel_rfl) (fun _ _ _ h => h) (Or.inl ⟨by rfl, ?hy12⟩) (by assumption) ?rest12
    case hy12 => (intro wS hSw; (try dsimp only at hSw); go_simp; try (with_reducible rfl))
    try simp only [Act.put, List.setIfInBounds_toArray, List.set_cons_zero, List.set_cons_succ]
    refine rh.go_take (i := 8) (v := ?v13) rfl (by kernel_rfl) (fun _ _ _ h => h) (Or.inl ⟨by rfl, ?hy13⟩) (by assumption) ?rest13
    case hy13 => (intro wS hSw; (try dsimp only at hSw); go_simp; try (with_reducible rfl))
    try simp only [Act.put, List.setIfInBounds_toArray, List.set_cons_zero, List.set_cons_succ]
    refine rh.go_take (i := 11) (v := ?v14) rfl (by kernel_rfl) (fun _ _ _ h => h) (Or.inl ⟨by rfl, ?hy14⟩) (by assumption) ?rest14
    case hy14 => (intro wS hSw; (try dsimp only at hSw); go_simp; try (with_reducible rfl))
    try simp only [Act.put, List.setIfInBounds_toArray, List.set_cons_zero, List.set_cons_succ]
    refine rh.go_take (i := 12) (v := ?v15) rfl (by kernel_rfl) (fun _ _ _ h => h) (Or.inl ⟨by rfl, ?hy15⟩) (by assumption) ?rest15
    case hy15 => (intro wS hSw; (try dsimp only at hSw); go_simp; try (with_reducible rfl))
    try simp only [Act.put, List.setIfInBounds_toArray, List.set_cons_zero, List.set_cons_succ]
    refine rh.go_take (i := 13) (v := ?v16) rfl (by kernel_rfl) (fun _ _ _ h => h) (Or.inl ⟨by rfl, ?hy16⟩) (by assumption) ?rest16
    case hy16 => (intro wS hSw; (try dsimp only at hSw); go_simp; try (with_reducible rfl))
    try simp only [Act.put, List.setIfInBounds_toArray, List.set_cons_zero, List.set_cons_succ]
    refine rh.go_take (i := 14) (v := ?v17) rfl (by kernel_rfl) (fun _ _ _ h => h) (Or.inl ⟨by rfl, ?hy17⟩) (by assumption) ?rest17
    case hy17 => (intro wS hSw; (try dsimp only at hSw); go_simp; try (with_reducible rfl))
    try simp only [Act.put, List.setIfInBounds_toArray, List.set_cons_zero, List.set_cons_succ]
    refine rh.go_take (i := 17) (v := ?v18) rfl (by kernel_rfl) (fun _ _ _ h => h) (Or.inl ⟨by rfl, ?hy18⟩) (by assumption) ?rest18
    case hy18 => (intro wS hSw; (try dsimp only at hSw); go_simp; try (with_reducible rfl))
    try simp only [Act.put, List.setIfInBounds_toArray, List.set_cons_zero, List.set_cons_succ]
    refine rh.go_take (i := 18) (v := ?v19) rfl (by kernel_rfl) (fun _ _ _ h => h) (Or.inl ⟨by rfl, ?hy19⟩) (by assumption) ?rest19
    case hy19 => (intro wS hSw; (try dsimp only at hSw); go_simp; try (with_reducible rfl))
    try simp only [Act.put, List.setIfInBounds_toArray, List.set_cons_zero, List.set_cons_succ]
    refine rh.go_take (i := 19) (v := ?v20) rfl (by kernel_rfl) (fun _ _ _ h => h) (Or.inl ⟨by rfl, ?hy20⟩) (by assumption) ?rest20
    case hy20 => (intro wS hSw; (try dsimp only at hSw); go_simp; try (with_reducible rfl))
    try simp only [Act.put, List.setIfInBounds_toArray, List.set_cons_zero, List.set_cons_succ]
    refine rh.go_take (i := 20) (v := ?v21) rfl (by kernel_rfl) (fun _ _ _ h => h) (Or.inl ⟨by rfl, ?hy21⟩) (by assumption) ?rest21
    case hy21 => (intro wS hSw; (try dsimp only at hSw); go_simp; try (with_reducible rfl))
    try simp only [Act.put, List.setIfInBounds_toArray, List.set_cons_zero, List.set_cons_succ]
    refine rh.go_take (i := 21) (v := ?v22) rfl (by kernel_rfl) (fun _ _ _ h => h) (Or.inl ⟨by rfl, ?hy22⟩) (by assumption) ?rest22
    case hy22 => (intro wS hSw; (try dsimp only at hSw); go_simp; try (with_reducible rfl))
    try simp only [Act.put, List.setIfInBounds_toArray, List.set_cons_zero, List.set_cons_succ]
    refine rh.go_take (i := 22) (v := ?v23) rfl (by kernel_rfl) (fun _ _ _ h => h) (Or.inl ⟨by rfl, ?hy23⟩) (by assumption) ?rest23
    case hy23 => (intro wS hSw; (try dsimp only at hSw); go_simp; try (with_reducible rfl))
    try simp only [Act.put, List.setIfInBounds_toArray, List.set_cons_zero, List.set_cons_succ]
    refine gt.go_two (i := 9) (j := 15) rfl rfl (by kernel_rfl) (fun K2 hK => ?_) (fun K2 hK => ?_)
    · go_simp
      have hVn : SR (w8.alloc (.cells #[Value.slice PA.A1 Ra.nodes.length PA.c1, Value.slice PP.A1 Rp.nodes.length PP.c1] 33)).drew (w8.alloc (.cells #[Value.slice PA.A1 Ra.nodes.length PA.c1, Value.slice PP.A1 Rp.nodes.length PP.c1] 33)).drew.heap.size (some ⟨w8.heap.size, 0, none⟩) 2 [Value.slice PA.A1 Ra.nodes.length PA.c1, Value.slice PP.A1 Rp.nodes.length PP.c1] := (sr_vals2 w8 [Value.slice PA.A1 Ra.nodes.length PA.c1, Value.slice PP.A1 Rp.nodes.length PP.c1] 33).below (Below.refl _ _).drew
      have hk := ((Below.refl w8.heap.size w8).alloc (Nat.le_refl _) (.cells #[Value.slice PA.A1 Ra.nodes.length PA.c1, Value.slice PP.A1 Rp.nodes.length PP.c1] 33)).drew
      refine hK.out _ _ ?_ (fun hHeld => ?_)
      · ((try dsimp only); exact HS8.out _ hk)
      clear hK K2
      try simp only [Act.put, List.setIfInBounds_toArray, List.set_cons_zero, List.set_cons_succ]
      obtain ⟨Y1, hY1⟩ : ∃ Y1, (w8.alloc (.cells #[Value.slice PA.A1 Ra.nodes.length PA.c1, Value.slice PP.A1 Rp.nodes.length PP.c1] 33)).drew = Y1 := ⟨_, rfl⟩
      rw [hY1] at hVn hk ⊢
      clear hY1
      refine gt.go_two (i := 10) (j := 15) rfl rfl (by kernel_rfl) (fun K2 hK => ?_) (fun K2 hK => ?_)
      · skip
        go_simp
        go_at_call 182
        refine (HCn.out _ _ hk hVn).mono ?_
        rintro e w11 ⟨A11, c11, rfl, hn, hb⟩
        (skip)
        have HN := Lib.hid (hn.wide (lo' := X.heap.size) hX0 (Nat.le_refl _))
        have hk := hk.trans (hb.mono hk.size)
        have HK11 := Lib.hid hk
        have hc := Nat.le_refl w11.heap.size
        clear hb hn hVn
        go_wp2_with fail
        refine hK.out _ _ ?_ (fun hHeld => ?_)
        · ((try dsimp only); exact HS8.out _ hk)
        clear hK K2
        try simp only [Act.put, List.setIfInBounds_toArray, List.set_cons_zero, List.set_cons_succ]
        refine rh.go_next (i := 15) rfl (by kernel_rfl) (fun K2 hK => ?_)
        go_simp
        have hVi := sr_vals2 w11 [Value.slice PA.A2 Ra.sites.length PA.c2, Value.slice PP.A2 Rp.sites.length PP.c2] 24
        have hB := (Below.refl w11.heap.size w11).alloc (Nat.le_refl _) (.cells #[Value.slice PA.A2 Ra.sites.length PA.c2, Value.slice PP.A2 Rp.sites.length PP.c2] 24)
        have hk := hk.trans (hB.mono hk.size)
        refine hK.out _ _ ?_ (fun hHeld => ?_)
        · ((try dsimp only); exact HS8.out _ hk)
        clear hK K2
        try simp only [Act.put, List.setIfInBounds_toArray, List.set_cons_zero, List.set_cons_succ]
        obtain ⟨WB, hWB⟩ : ∃ WB, w11.alloc (.cells #[Value.slice PA.A2 Ra.sites.length PA.c2, Value.slice PP.A2 Rp.sites.length PP.c2] 24) = WB := ⟨_, rfl⟩
        rw [show ([Value.slice PA.A2 Ra.sites.length PA.c2, Value.slice PP.A2 Rp.sites.length PP.c2] : List Value).toArray = #[Value.slice PA.A2 Ra.sites.length PA.c2, Value.slice PP.A2 Rp.sites.length PP.c2] from rfl, hWB] at hVi
        rw [hWB] at hB hk ⊢
        skip
        try have HN := Lib.hid (HN.out.on hB)
        try have hc := Nat.le_trans hc hB.size
        clear hWB
        refine rh.go_next (i := 16) rfl (by kernel_rfl) (fun K2 hK => ?_)
        go_simp
        go_at_call 191
        refine (HCi.out _ _ hk hVi).mono ?_
        rintro e w12 ⟨A12, c12, rfl, hi, hb⟩
        have hk := hk.trans (hb.mono hk.size)
        have h112 := Nat.le_trans hc hb.size
        have HN := Lib.hid (HN.out.on hb)
        have HI12 := Lib.hid hi
        clear hb hi hVi
        go_wp2_with fail
        refine hK.out _ _ ?_ (fun hHeld => ?_)
        · ((try dsimp only); exact HS8.out _ hk)
        clear hK K2
        try simp only [Act.put, List.setIfInBounds_toArray, List.set_cons_zero, List.set_cons_succ]
        refine rh.go_next (i := 23) rfl (by kernel_rfl) (fun K2 hK => ?_)
        go_simp
        go_at_call 192
        refine (HMw.out _ hk).mono ?_
        rintro e w13 ⟨A9, c9, ws, rfl, hperm, hsort, hwl, hrw, hb⟩
        have HK13 := Lib.hid (hk.trans (hb.mono hk.size))
        have h13 := hb.size
        have h113 := Nat.le_trans h112 h13
        have hXw := Nat.le_trans hX1 (Nat.le_trans hxT HK11.out.size)
        have HPm : Hid (ws.Perm (wnA a b ++ wnB a b)) := Lib.hid (by rw [← HIn.out.1, ← HIn.out.2]; exact hperm)
        have HSt := Lib.hid hsort
        have hR13 := big_parts (R := a.roots + b.roots) (E := a.edges + b.edges) (HN.out.on hb) (by rw [List.length_append]) ((HI12.out.on hb).wide hc h13) (by rw [List.length_append]) ((HROT.out.on HK13.out).wide (Nat.le_refl _) (Nat.le_trans h08 (Nat.le_trans hxT HK13.out.size))) rfl (hrw.wide (lo' := X.heap.size) (Nat.le_trans hXw h112) (Nat.le_refl _)) hwl hXw h113
        rw [HE.out ws] at hR13
        have HR13 := Lib.hid (hR13.wide (lo' := w.heap.size) HB0.out.size (Nat.le_refl _))
        have HB13 := Lib.hid (hwT.out.trans (HK13.out.mono hwT.out.size))
        have HBx13 := Lib.hid (HBrT.out.on HK13.out)
        have hk := HK13.out
        clear hR13 hb hrw hperm hsort hwl HN
        go_wp2_with fail
        refine hK.out _ _ ?_ (fun hHeld => ?_)
        · ((try dsimp only); exact HS8.out _ hk)
        clear hK K2
        try simp only [Act.put, List.setIfInBounds_toArray, List.set_cons_zero, List.set_cons_succ]
        refine rh.go_take (i := 24) (v := ?v24) rfl (by kernel_rfl) (fun _ _ _ h => h) (Or.inl ⟨by rfl, ?hy24⟩) (by assumption) ?rest24
        case hy24 => (intro wS hSw; (try dsimp only at hSw); go_simp; try (with_reducible rfl))
        try simp only [Act.put, List.setIfInBounds_toArray, List.set_cons_zero, List.set_cons_succ]
        obtain ⟨z0, z1, z2, z3, z4, z5⟩ := HBx13.out.get
        have f0 := World.rowIs.frozen HBx13.out 0
        have f1 := World.rowIs.frozen HBx13.out 1
        have f2 := World.rowIs.frozen HBx13.out 2
        have f3 := World.rowIs.frozen HBx13.out 3
        have f4 := World.rowIs.frozen HBx13.out 4
        have f5 := World.rowIs.frozen HBx13.out 5
        refine rh.go_last rfl (by kernel_rfl) (fun K2 hK => ?_)
        go_simp
        refine hK.out _ _ ?_
        refine NoPanic.normal ?_
        clear hK K2
        go_wp2_with fail
        have hbig := (sets6_big HBx13.out HR13.out (.int .i64 (a.roots + b.roots)) (.slice A11 (Ra.nodes.length + Rp.nodes.length) c11) (.slice A12 (Ra.sites.length + Rp.sites.length) c12) (.int .i64 (a.edges + b.edges)) (.slice AO OU.length cO) (.slice A9 (Ra.inner.length + Rp.inner.length) c9)).here
        have hbel := sets6_below HB13.out (show w.heap.size ≤ w.heap.size + 2 by omega) (.int .i64 (a.roots + b.roots)) (.slice A11 (Ra.nodes.length + Rp.nodes.length) c11) (.slice A12 (Ra.sites.length + Rp.sites.length) c12) (.int .i64 (a.edges + b.edges)) (.slice AO OU.length cO) (.slice A9 (Ra.inner.length + Rp.inner.length) c9)
        unfold sets6 at hbig hbel
        exact bodyPost_ret (v := .agg #[.int .i64 (a.roots + b.roots), .slice A11 (Ra.nodes.length + Rp.nodes.length) c11, .slice A12 (Ra.sites.length + Rp.sites.length) c12, .int .i64 (a.edges + b.edges), .slice AO OU.length cO, .slice A9 (Ra.inner.length + Rp.inner.length) c9]) (by simp [results, Tryz.results111, go_sem, z0, z1, z2, z3, z4, z5]) rfl ⟨_, ws, rfl, HPm.out, HSt.out, hbig, hbel⟩
      · skip
        go_simp
        have hVi := sr_vals2 Y1 [Value.slice PA.A2 Ra.sites.length PA.c2, Value.slice PP.A2 Rp.sites.length PP.c2] 24
        have hB := (Below.refl Y1.heap.size Y1).alloc (Nat.le_refl _) (.cells #[Value.slice PA.A2 Ra.sites.length PA.c2, Value.slice PP.A2 Rp.sites.length PP.c2] 24)
        have hk := hk.trans (hB.mono hk.size)
        refine hK.out _ _ ?_ (fun hHeld => ?_)
        · ((try dsimp only); exact HS8.out _ hk)
        clear hK K2
        try simp only [Act.put, List.setIfInBounds_toArray, List.set_cons_zero, List.set_cons_succ]
        obtain ⟨WB, hWB⟩ : ∃ WB, Y1.alloc (.cells #[Value.slice PA.A2 Ra.sites.length PA.c2, Value.slice PP.A2 Rp.sites.length PP.c2] 24) = WB := ⟨_, rfl⟩
        rw [show ([Value.slice PA.A2 Ra.sites.length PA.c2, Value.slice PP.A2 Rp.sites.length PP.c2] : List Value).toArray = #[Value.slice PA.A2 Ra.sites.length PA.c2, Value.slice PP.A2 Rp.sites.length PP.c2] from rfl, hWB] at hVi
        rw [hWB] at hB hk ⊢
        (have hVn := (hVn.below hB).wide hB.size)
        try have HN := Lib.hid (HN.out.on hB)
        try have hc := Nat.le_trans hc hB.size
        clear hWB
        refine rh.go_next (i := 10) rfl (by kernel_rfl) (fun K2 hK => ?_)
        go_simp
        go_at_call 182
        refine (HCn.out _ _ hk hVn).mono ?_
        rintro e w11 ⟨A11, c11, rfl, hn, hb⟩
        (have hVi := (hVi.below hb).wide hb.size)
        have HN := Lib.hid (hn.wide (lo' := X.heap.size) hX0 (Nat.le_refl _))
        have hk := hk.trans (hb.mono hk.size)
        have HK11 := Lib.hid hk
        have hc := Nat.le_refl w11.heap.size
        clear hb hn hVn
        go_wp2_with fail
        refine hK.out _ _ ?_ (fun hHeld => ?_)
        · ((try dsimp only); exact HS8.out _ hk)
        clear hK K2
        try simp only [Act.put, List.setIfInBounds_toArray, List.set_cons_zero, List.set_cons_succ]
        refine rh.go_next (i := 16) rfl (by kernel_rfl) (fun K2 hK => ?_)
        go_simp
        go_at_call 191
        refine (HCi.out _ _ hk hVi).mono ?_
        rintro e w12 ⟨A12, c12, rfl, hi, hb⟩
        have hk := hk.trans (hb.mono hk.size)
        have h112 := Nat.le_trans hc hb.size
        have HN := Lib.hid (HN.out.on hb)
        have HI12 := Lib.hid hi
        clear hb hi hVi
        go_wp2_with fail
        refine hK.out _ _ ?_ (fun hHeld => ?_)
        · ((try dsimp only); exact HS8.out _ hk)
        clear hK K2
        try simp only [Act.put, List.setIfInBounds_toArray, List.set_cons_zero, List.set_cons_succ]
        refine rh.go_next (i := 23) rfl (by kernel_rfl) (fun K2 hK => ?_)
        go_simp
        go_at_call 192
        refine (HMw.out _ hk).mono ?_
        rintro e w13 ⟨A9, c9, ws, rfl, hperm, hsort, hwl, hrw, hb⟩
        have HK13 := Lib.hid (hk.trans (hb.mono hk.size))
        have h13 := hb.size
        have h113 := Nat.le_trans h112 h13
        have hXw := Nat.le_trans hX1 (Nat.le_trans hxT HK11.out.size)
        have HPm : Hid (ws.Perm (wnA a b ++ wnB a b)) := Lib.hid (by rw [← HIn.out.1, ← HIn.out.2]; exact hperm)
        have HSt := Lib.hid hsort
        have hR13 := big_parts (R := a.roots + b.roots) (E := a.edges + b.edges) (HN.out.on hb) (by rw [List.length_append]) ((HI12.out.on hb).wide hc h13) (by rw [List.length_append]) ((HROT.out.on HK13.out).wide (Nat.le_refl _) (Nat.le_trans h08 (Nat.le_trans hxT HK13.out.size))) rfl (hrw.wide (lo' := X.heap.size) (Nat.le_trans hXw h112) (Nat.le_refl _)) hwl hXw h113
        rw [HE.out ws] at hR13
        have HR13 := Lib.hid (hR13.wide (lo' := w.heap.size) HB0.out.size (Nat.le_refl _))
        have HB13 := Lib.hid (hwT.out.trans (HK13.out.mono hwT.out.size))
        have HBx13 := Lib.hid (HBrT.out.on HK13.out)
        have hk := HK13.out
        clear hR13 hb hrw hperm hsort hwl HN
        go_wp2_with fail
        refine hK.out _ _ ?_ (fun hHeld => ?_)
        · ((try dsimp only); exact HS8.out _ hk)
        clear hK K2
        try simp only [Act.put, List.setIfInBounds_toArray, List.set_cons_zero, List.set_cons_succ]
        refine rh.go_take (i := 24) (v := ?v25) rfl (by kernel_rfl) (fun _ _ _ h => h) (Or.inl ⟨by rfl, ?hy25⟩) (by assumption) ?rest25
        case hy25 => (intro wS hSw; (try dsimp only at hSw); go_simp; try (with_reducible rfl))
        try simp only [Act.put, List.setIfInBounds_toArray, List.set_cons_zero, List.set_cons_succ]
        obtain ⟨z0, z1, z2, z3, z4, z5⟩ := HBx13.out.get
        have f0 := World.rowIs.frozen HBx13.out 0
        have f1 := World.rowIs.frozen HBx13.out 1
        have f2 := World.rowIs.frozen HBx13.out 2
        have f3 := World.rowIs.frozen HBx13.out 3
        have f4 := World.rowIs.frozen HBx13.out 4
        have f5 := World.rowIs.frozen HBx13.out 5
        refine rh.go_last rfl (by kernel_rfl) (fun K2 hK => ?_)
        go_simp
        refine hK.out _ _ ?_
        refine NoPanic.normal ?_
        clear hK K2
        go_wp2_with fail
        have hbig := (sets6_big HBx13.out HR13.out (.int .i64 (a.roots + b.roots)) (.slice A11 (Ra.nodes.length + Rp.nodes.length) c11) (.slice A12 (Ra.sites.length + Rp.sites.length) c12) (.int .i64 (a.edges + b.edges)) (.slice AO OU.length cO) (.slice A9 (Ra.inner.length + Rp.inner.length) c9)).here
        have hbel := sets6_below HB13.out (show w.heap.size ≤ w.heap.size + 2 by omega) (.int .i64 (a.roots + b.roots)) (.slice A11 (Ra.nodes.length + Rp.nodes.length) c11) (.slice A12 (Ra.sites.length + Rp.sites.length) c12) (.int .i64 (a.edges + b.edges)) (.slice AO OU.length cO) (.slice A9 (Ra.inner.length + Rp.inner.length) c9)
        unfold sets6 at hbig hbel
        exact bodyPost_ret (v := .agg #[.int .i64 (a.roots + b.roots), .slice A11 (Ra.nodes.length + Rp.nodes.length) c11, .slice A12 (Ra.sites.length + Rp.sites.length) c12, .int .i64 (a.edges + b.edges), .slice AO OU.length cO, .slice A9 (Ra.inner.length + Rp.inner.length) c9]) (by simp [results, Tryz.results111, go_sem, z0, z1, z2, z3, z4, z5]) rfl ⟨_, ws, rfl, HPm.out, HSt.out, hbig, hbel⟩
    · go_simp
      have hVi : SR (w8.alloc (.cells #[Value.slice PA.A2 Ra.sites.length PA.c2, Value.slice PP.A2 Rp.sites.length PP.c2] 24)).drew (w8.alloc (.cells #[Value.slice PA.A2 Ra.sites.length PA.c2, Value.slice PP.A2 Rp.sites.length PP.c2] 24)).drew.heap.size (some ⟨w8.heap.size, 0, none⟩) 2 [Value.slice PA.A2 Ra.sites.length PA.c2, Value.slice PP.A2 Rp.sites.length PP.c2] := (sr_vals2 w8 [Value.slice PA.A2 Ra.sites.length PA.c2, Value.slice PP.A2 Rp.sites.length PP.c2] 24).below (Below.refl _ _).drew
      have hk := ((Below.refl w8.heap.size w8).alloc (Nat.le_refl _) (.cells #[Value.slice PA.A2 Ra.sites.length PA.c2, Value.slice PP.A2 Rp.sites.length PP.c2] 24)).drew
      refine hK.out _ _ ?_ (fun hHeld => ?_)
      · ((try dsimp only); exact HS8.out _ hk)
      clear hK K2
      try simp only [Act.put, List.setIfInBounds_toArray, List.set_cons_zero, List.set_cons_succ]
      obtain ⟨Y1, hY1⟩ : ∃ Y1, (w8.alloc (.cells #[Value.slice PA.A2 Ra.sites.length PA.c2, Value.slice PP.A2 Rp.sites.length PP.c2] 24)).drew = Y1 := ⟨_, rfl⟩
      rw [hY1] at hVi hk ⊢
      clear hY1
      refine rh.go_next (i := 9) rfl (by kernel_rfl) (fun K2 hK => ?_)
      go_simp
      have hVn := sr_vals2 Y1 [Value.slice PA.A1 Ra.nodes.length PA.c1, Value.slice PP.A1 Rp.nodes.length PP.c1] 33
      have hB := (Below.refl Y1.heap.size Y1).alloc (Nat.le_refl _) (.cells #[Value.slice PA.A1 Ra.nodes.length PA.c1, Value.slice PP.A1 Rp.nodes.length PP.c1] 33)
      have hk := hk.trans (hB.mono hk.size)
      have hVi := (hVi.below hB).wide hB.size
      refine hK.out _ _ ?_ (fun hHeld => ?_)
      · ((try dsimp only); exact HS8.out _ hk)
      clear hK K2
      try simp only [Act.put, List.setIfInBounds_toArray, List.set_cons_zero, List.set_cons_succ]
      obtain ⟨WB, hWB⟩ : ∃ WB, Y1.alloc (.cells #[Value.slice PA.A1 Ra.nodes.length PA.c1, Value.slice PP.A1 Rp.nodes.length PP.c1] 33) = WB := ⟨_, rfl⟩
      rw [show ([Value.slice PA.A1 Ra.nodes.length PA.c1, Value.slice PP.A1 Rp.nodes.length PP.c1] : List Value).toArray = #[Value.slice PA.A1 Ra.nodes.length PA.c1, Value.slice PP.A1 Rp.nodes.length PP.c1] from rfl, hWB] at hVn
      rw [hWB] at hVi hk ⊢
      clear hWB hB
      refine rh.go_next (i := 10) rfl (by kernel_rfl) (fun K2 hK => ?_)
      go_simp
      go_at_call 182
      refine (HCn.out _ _ hk hVn).mono ?_
      rintro e w11 ⟨A11, c11, rfl, hn, hb⟩
      (have hVi := (hVi.below hb).wide hb.size)
      have HN := Lib.hid (hn.wide (lo' := X.heap.size) hX0 (Nat.le_refl _))
      have hk := hk.trans (hb.mono hk.size)
      have HK11 := Lib.hid hk
      have hc := Nat.le_refl w11.heap.size
      clear hb hn hVn
      go_wp2_with fail
      refine hK.out _ _ ?_ (fun hHeld => ?_)
      · ((try dsimp only); exact HS8.out _ hk)
      clear hK K2
      try simp only [Act.put, List.setIfInBounds_toArray, List.set_cons_zero, List.set_cons_succ]
      refine rh.go_next (i := 16) rfl (by kernel_rfl) (fun K2 hK => ?_)
      go_simp
      go_at_call 191
      refine (HCi.out _ _ hk hVi).mono ?_
      rintro e w12 ⟨A12, c12, rfl, hi, hb⟩
      have hk := hk.trans (hb.mono hk.size)
      have h112 := Nat.le_trans hc hb.size
      have HN := Lib.hid (HN.out.on hb)
      have HI12 := Lib.hid hi
      clear hb hi hVi
      go_wp2_with fail
      refine hK.out _ _ ?_ (fun hHeld => ?_)
      · ((try dsimp only); exact HS8.out _ hk)
      clear hK K2
      try simp only [Act.put, List.setIfInBounds_toArray, List.set_cons_zero, List.set_cons_succ]
      refine rh.go_next (i := 23) rfl (by kernel_rfl) (fun K2 hK => ?_)
      go_simp
      go_at_call 192
      refine (HMw.out _ hk).mono ?_
      rintro e w13 ⟨A9, c9, ws, rfl, hperm, hsort, hwl, hrw, hb⟩
      have HK13 := Lib.hid (hk.trans (hb.mono hk.size))
      have h13 := hb.size
      have h113 := Nat.le_trans h112 h13
      have hXw := Nat.le_trans hX1 (Nat.le_trans hxT HK11.out.size)
      have HPm : Hid (ws.Perm (wnA a b ++ wnB a b)) := Lib.hid (by rw [← HIn.out.1, ← HIn.out.2]; exact hperm)
      have HSt := Lib.hid hsort
      have hR13 := big_parts (R := a.roots + b.roots) (E := a.edges + b.edges) (HN.out.on hb) (by rw [List.length_append]) ((HI12.out.on hb).wide hc h13) (by rw [List.length_append]) ((HROT.out.on HK13.out).wide (Nat.le_refl _) (Nat.le_trans h08 (Nat.le_trans hxT HK13.out.size))) rfl (hrw.wide (lo' := X.heap.size) (Nat.le_trans hXw h112) (Nat.le_refl _)) hwl hXw h113
      rw [HE.out ws] at hR13
      have HR13 := Lib.hid (hR13.wide (lo' := w.heap.size) HB0.out.size (Nat.le_refl _))
      have HB13 := Lib.hid (hwT.out.trans (HK13.out.mono hwT.out.size))
      have HBx13 := Lib.hid (HBrT.out.on HK13.out)
      have hk := HK13.out
      clear hR13 hb hrw hperm hsort hwl HN
      go_wp2_with fail
      refine hK.out _ _ ?_ (fun hHeld => ?_)
      · ((try dsimp only); exact HS8.out _ hk)
      clear hK K2
      try simp only [Act.put, List.setIfInBounds_toArray, List.set_cons_zero, List.set_cons_succ]
      refine rh.go_take (i := 24) (v := ?v26) rfl (by kernel_rfl) (fun _ _ _ h => h) (Or.inl ⟨by rfl, ?hy26⟩) (by assumption) ?rest26
      case hy26 => (intro wS hSw; (try dsimp only at hSw); go_simp; try (with_reducible rfl))
      try simp only [Act.put, List.setIfInBounds_toArray, List.set_cons_zero, List.set_cons_succ]
      obtain ⟨z0, z1, z2, z3, z4, z5⟩ := HBx13.out.get
      have f0 := World.rowIs.frozen HBx13.out 0
      have f1 := World.rowIs.frozen HBx13.out 1
      have f2 := World.rowIs.frozen HBx13.out 2
      have f3 := World.rowIs.frozen HBx13.out 3
      have f4 := World.rowIs.frozen HBx13.out 4
      have f5 := World.rowIs.frozen HBx13.out 5
      refine rh.go_last rfl (by kernel_rfl) (fun K2 hK => ?_)
      go_simp
      refine hK.out _ _ ?_
      refine NoPanic.normal ?_
      clear hK K2
      go_wp2_with fail
      have hbig := (sets6_big HBx13.out HR13.out (.int .i64 (a.roots + b.roots)) (.slice A11 (Ra.nodes.length + Rp.nodes.length) c11) (.slice A12 (Ra.sites.length + Rp.sites.length) c12) (.int .i64 (a.edges + b.edges)) (.slice AO OU.length cO) (.slice A9 (Ra.inner.length + Rp.inner.length) c9)).here
      have hbel := sets6_below HB13.out (show w.heap.size ≤ w.heap.size + 2 by omega) (.int .i64 (a.roots + b.roots)) (.slice A11 (Ra.nodes.length + Rp.nodes.length) c11) (.slice A12 (Ra.sites.length + Rp.sites.length) c12) (.int .i64 (a.edges + b.edges)) (.slice AO OU.length cO) (.slice A9 (Ra.inner.length + Rp.inner.length) c9)
      unfold sets6 at hbig hbel
      exact bodyPost_ret (v := .agg #[.int .i64 (a.roots + b.roots), .slice A11 (Ra.nodes.length + Rp.nodes.length) c11, .slice A12 (Ra.sites.length + Rp.sites.length) c12, .int .i64 (a.edges + b.edges), .slice AO OU.length cO, .slice A9 (Ra.inner.length + Rp.inner.length) c9]) (by simp [results, Tryz.results111, go_sem, z0, z1, z2, z3, z4, z5]) rfl ⟨_, ws, rfl, HPm.out, HSt.out, hbig, hbel⟩
end Go.Proofs.YtfjgapkjpmkplaaGreat.si
