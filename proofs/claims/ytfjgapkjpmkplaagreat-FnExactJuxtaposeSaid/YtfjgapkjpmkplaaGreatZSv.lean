/- Sv. -/
import Derived.Test.YtfjgapkjpmkplaaGreatXa
import Derived.Test.YtfjgapkjpmkplaaGreatXb
import Derived.Test.YtfjgapkjpmkplaaGreatXc
import Derived.Test.YtfjgapkjpmkplaaGreatXd
import Derived.Test.YtfjgapkjpmkplaaGreatXe
import Derived.Test.YtfjgapkjpmkplaaGreatXf
import Derived.Test.YtfjgapkjpmkplaaGreatXg
import Derived.Test.YtfjgapkjpmkplaaGreatXh
import Derived.Test.YtfjgapkjpmkplaaGreatYa012
import Derived.Test.YtfjgapkjpmkplaaGreatZNk
import Derived.Test.YtfjgapkjpmkplaaGreatYb012
import Derived.Test.YtfjgapkjpmkplaaGreatZUs
import Derived.Test.YtfjgapkjpmkplaaGreatYc012
import Derived.Test.YtfjgapkjpmkplaaGreatZSo
import Derived.Test.YtfjgapkjpmkplaaGreatZIw
import Derived.Test.YtfjgapkjpmkplaaGreatRows
import Derived.WalkKit
import Derived.WalkSpells
import Derived.WalkLawsBesides
import Derived.ProofKit
import Derived.OpenShut
import Derived.ShutString
import Derived.Deep.OwnRows
import Derived.Deep.Draws
import Derived.SliceStrings
import Derived.ChangeOld
import Derived.Below
import Derived.Lib.Hide
import Derived.Lib.ItoaNum
import Derived.Deep.QuietTactic
import Derived.BigQuiet
import Derived.Outline
import Derived.StillTailTactics
import Derived.Deep.RegionWith
import Derived.Deep.RegionHeld3
import Derived.Deep.Slices
import Derived.Deep.Fields
import Derived.ChangeSame
import Derived.Lib.SmallJoins
import Derived.Maps.OwnOps
import Derived.Maps.OwnIn
import Derived.Maps.Views
import Derived.Maps.AppendAt
import Derived.RangeFuncBox
import Derived.RangeFuncLeaves
import Derived.Shelf.Abstract
import Derived.OwnWalkIn
import Derived.TacticsInMore
import Derived.LoopNIn
import Derived.LoopIn
import Derived.RangeFuncWrites
import Derived.RangeFuncNested
import Derived.JoinedOf
import Derived.Deep.AppendLies
import Derived.Deep.RegionLaw
import Derived.Laws.AppendOwnNone
import Derived.Deep.Cut
import Derived.Deep.CutRange
import Derived.Lib.SliceRun
import Derived.Lib.AppendZerosOnto
import Derived.OrdersHeld
import Derived.StillTail
import Derived.Lib.Walk
import Derived.Deep.LoopGhost
import Derived.Handy
import Derived.Lib.LazyBuf
import Derived.Sort.OwnSorted
import Derived.Lib.SlicesCompact
import Derived.Sort.KeysCollected
import Derived.Test.YtfjgapkjpmkplaaGreatSfl
import Derived.Shelf.SlSortCmp.NoneTotal
import Derived.WalkMore
import Derived.ScopeJumps
set_option linter.unusedSimpArgs false
set_option linter.unusedVariables false
namespace Go.Proofs.YtfjgapkjpmkplaaGreat.sv
open kit bg sg opn strs only hb sig isig un over gn nm inn ht gd im pt marks eqs hc hi hw hn rs br bm bw cf lf ib lw cl rt ix tg pl mb sb wb ek rn rnm tp wk rl ed mrp mrs nk lep psp rk cc cg uw nj co tm ft gv us nd sf sd sio
open iw (inr_any innW_len)
open su (sortU)
open so (l2Sorted_any)
open Go.RowKit
set_option linter.unusedVariables false
set_option linter.unusedSimpArgs false
theorem row_wrs {w : World} {lo hi n c : Nat} {A : Option Addr} {ws : List Wr} (h : RowR w lo hi 139 2 A n c (wic ws)) (hn : ws.length = n) : WrsAt w w.heap.size A n ws := by
  subst hn
  exact wrsR_at (rowR_here h)
theorem row_strs {w : World} {lo hi n c : Nat} {A : Option Addr} {ss : List ByteArray} (h : RowR w lo hi 9 1 A n c (at_ ss)) (hn : ss.length = n) : SR w w.heap.size A n (ss.map Value.string) := by
  subst hn
  exact strsR_at (rowR_here h)
theorem strs_join {w : World} {lo n m : Nat} {v : Value} {xs ys : List ByteArray} (h : w.ownsRow lo 9 1 v (n + m) (xs.map Value.string ++ ys.map Value.string)) (hn : xs.length = n) (hm : ys.length = m) : ∃ A c, v = .slice A (n + m) c ∧ SR w w.heap.size A (n + m) ((xs ++ ys).map Value.string) := by
  rw [← List.map_append] at h
  obtain ⟨A, c, e, hr⟩ := strs_owned h
  rw [List.length_append, hn, hm] at e hr
  exact ⟨A, c, e, row_strs hr (by rw [List.length_append, hn, hm])⟩
theorem ints_own {w : World} {lo n : Nat} {v : Value} {zs : List Int} (h : w.ownsRow lo 3 1 v n (zs.map (Value.int .i64))) (hn : zs.length = n) : ∃ A c, v = .slice A n c ∧ RowR w lo w.heap.size 3 1 A n c (iat zs) := by
  subst hn
  exact ints_owned h
theorem row_nil {w : World} {lo hi n c sz : Nat} {t : TypeId} {A : Option Addr} {M : Nat → Value} (h : RowR w lo hi t sz A n c M) : A = none → n = 0 ∧ c = 0 := fun e => by
  rcases h with ⟨-, h, h2⟩ | ⟨g, f, h, -⟩
  · exact ⟨h2, h⟩
  · rw [e] at h
    cases h
set_option maxRecDepth 20000 in
set_option maxHeartbeats 25600000 in
theorem sid_any (cs : List Ctl) (va : Value) (a : Big) (vb : Value) (b : Big) (w : World) (hva : BigAt w w.heap.size va a) (hSa : BigS a) (hNa : NilV va) (hga : bigB cs a = true) (hvb : BigAt w w.heap.size vb b) (hSb : BigS b) (hNb : NilV vb) (hgb : bigB cs b = true) :
    Calls Tryz.prog 116 #[va, vb] w fun e w' => ∃ v, e = .returned v ∧ BigR w' w.heap.size w'.heap.size v (sdB a b (sdW a b)) ∧ Below w.heap.size w w' := by
  obtain ⟨A1, n1, c1, A2, n2, c2, A4, n4, c4, A5, n5, c5, rfl, h1, h2, h4, h5⟩ := hva
  obtain ⟨B1, m1, d1, B2, m2, d2, B4, m4, d4, B5, m5, d5, rfl, k1, k2, k4, k5⟩ := hvb
  have hb0 := (Below.refl w.heap.size w).alloc (Nat.le_refl _) (.cells #[.int .i64 a.roots, .slice A1 n1 c1, .slice A2 n2 c2, .int .i64 a.edges, .slice A4 n4 c4, .slice A5 n5 c5] 36)
  have HBa0 : BoxAt (w.alloc (.cells #[.int .i64 a.roots, .slice A1 n1 c1, .slice A2 n2 c2, .int .i64 a.edges, .slice A4 n4 c4, .slice A5 n5 c5] 36)) w.heap.size 36 (.int .i64 a.roots) (.slice A1 n1 c1) (.slice A2 n2 c2) (.int .i64 a.edges) (.slice A4 n4 c4) (.slice A5 n5 c5) := six_new w _ _ _ _ _ _ _
  obtain ⟨U, hU⟩ : ∃ U, w.alloc (.cells #[.int .i64 a.roots, .slice A1 n1 c1, .slice A2 n2 c2, .int .i64 a.edges, .slice A4 n4 c4, .slice A5 n5 c5] 36) = U := ⟨_, rfl⟩
  have hUz : U.heap.size = w.heap.size + 1 := by rw [← hU]; simp
  rw [hU] at HBa0 hb0
  have hb1 := (Below.refl U.heap.size U).alloc (Nat.le_refl _) (.cells #[.int .i64 b.roots, .slice B1 m1 d1, .slice B2 m2 d2, .int .i64 b.edges, .slice B4 m4 d4, .slice B5 m5 d5] 36)
  have HBb0 : BoxAt (U.alloc (.cells #[.int .i64 b.roots, .slice B1 m1 d1, .slice B2 m2 d2, .int .i64 b.edges, .slice B4 m4 d4, .slice B5 m5 d5] 36)) U.heap.size 36 (.int .i64 b.roots) (.slice B1 m1 d1) (.slice B2 m2 d2) (.int .i64 b.edges) (.slice B4 m4 d4) (.slice B5 m5 d5) := six_new U _ _ _ _ _ _ _
  obtain ⟨W, hW⟩ : ∃ W, U.alloc (.cells #[.int .i64 b.roots, .slice B1 m1 d1, .slice B2 m2 d2, .int .i64 b.edges, .slice B4 m4 d4, .slice B5 m5 d5] 36) = W := ⟨_, rfl⟩
  have hWz : W.heap.size = w.heap.size + 2 := by rw [← hW]; simp; omega
  rw [hW] at HBb0 hb1
  rw [hUz] at HBb0
  have hb2 := (Below.refl W.heap.size W).alloc (Nat.le_refl _) (.cells #[.int .i64 0, .slice none 0 0, .slice none 0 0, .int .i64 0, .slice none 0 0, .slice none 0 0] 36)
  have HBr0 : BoxAt (W.alloc (.cells #[.int .i64 0, .slice none 0 0, .slice none 0 0, .int .i64 0, .slice none 0 0, .slice none 0 0] 36)) W.heap.size 36 (.int .i64 0) (.slice none 0 0) (.slice none 0 0) (.int .i64 0) (.slice none 0 0) (.slice none 0 0) := six_new W _ _ _ _ _ _ _
  obtain ⟨X, hX⟩ : ∃ X, W.alloc (.cells #[.int .i64 0, .slice none 0 0, .slice none 0 0, .int .i64 0, .slice none 0 0, .slice none 0 0] 36) = X := ⟨_, rfl⟩
  have hXz : X.heap.size = w.heap.size + 3 := by rw [← hX]; simp; omega
  rw [hX] at HBr0 hb2
  rw [hWz] at HBr0
  have HUq := Lib.hid hU
  have HWq := Lib.hid hW
  have HXq := Lib.hid hX
  have HB0 := Lib.hid (hb0.trans ((hb1.trans (hb2.mono hb1.size)).mono hb0.size))
  have HBa := Lib.hid ((HBa0.on hb1).on hb2)
  have HBb := Lib.hid (HBb0.on hb2)
  have HBr := Lib.hid HBr0
  have HXz := Lib.hid hXz
  have hVa := Lib.hid (fun (Y : World) (hY : Below w.heap.size w Y) => (BigAt.wide (BigAt.below ⟨_, _, _, _, _, _, _, _, _, _, _, _, rfl, h1, h2, h4, h5⟩ hY) hY.size : BigAt Y Y.heap.size (.agg #[.int .i64 a.roots, .slice A1 n1 c1, .slice A2 n2 c2, .int .i64 a.edges, .slice A4 n4 c4, .slice A5 n5 c5]) a))
  have hVb := Lib.hid (fun (Y : World) (hY : Below w.heap.size w Y) => (BigAt.wide (BigAt.below ⟨_, _, _, _, _, _, _, _, _, _, _, _, rfl, k1, k2, k4, k5⟩ hY) hY.size : BigAt Y Y.heap.size (.agg #[.int .i64 b.roots, .slice B1 m1 d1, .slice B2 m2 d2, .int .i64 b.edges, .slice B4 m4 d4, .slice B5 m5 d5]) b))
  clear hU hW hX hb0 hb1 hb2 HBa0 HBb0 HBr0 hUz hWz hXz
  have hya := sizes_of (big_of hga).2.1
  have hyb := sizes_of (big_of hgb).2.1
  have hnilA := hNa.get
  have hnilB := hNb.get
  have l1 : a.nodes.length = n1 := h1.1
  have l2 : a.sites.length = n2 := h2.len
  have l4 : a.outer.length = n4 := h4.strlen
  have l5 : a.inner.length = n5 := h5.1
  have q1 : b.nodes.length = m1 := k1.1
  have q2 : b.sites.length = m2 := k2.len
  have q4 : b.outer.length = m4 := k4.strlen
  have q5 : b.inner.length = m5 := k5.1
  obtain ⟨R, hR⟩ : ∃ R : Nat, a.roots = R := ⟨a.roots.toNat, by omega⟩
  obtain ⟨Rb, hRb⟩ : ∃ R : Nat, b.roots = R := ⟨b.roots.toNat, by omega⟩
  obtain ⟨E, hE⟩ : ∃ E : Nat, a.edges = E := ⟨a.edges.toNat, by omega⟩
  obtain ⟨F, hF⟩ : ∃ F : Nat, b.edges = F := ⟨b.edges.toNat, by omega⟩
  have pa := par_le hga
  have pb := par_le hgb
  have la := big_lks hga
  have lb := big_lks hgb
  have HRa := Lib.hid (show ∀ Y : World, Calls Tryz.prog 196 #[.int .i64 0, .int .i64 a.roots] Y fun e w' => ∃ v, e = .returned v ∧ w'.ownsRow Y.heap.size 3 1 v R ((rtsF 0 R).map (Value.int .i64)) ∧ Below Y.heap.size Y w' from fun Y => by rw [hR]; exact rts_any 0 R Y (by omega) (by omega))
  have HRb := Lib.hid (show ∀ Y : World, Calls Tryz.prog 196 #[.int .i64 a.roots, .int .i64 b.roots] Y fun e w' => ∃ v, e = .returned v ∧ w'.ownsRow Y.heap.size 3 1 v Rb ((rtsF a.roots Rb).map (Value.int .i64)) ∧ Below Y.heap.size Y w' from fun Y => by rw [hRb]; exact rts_any a.roots Rb Y (by omega) (by omega))
  have HEa := Lib.hid (show ∀ Y : World, Calls Tryz.prog 194 #[.int .i64 0, .int .i64 a.edges] Y fun e w' => ∃ v, e = .returned v ∧ w'.ownsRow Y.heap.size 3 1 v E ((seqF 0 E).map (Value.int .i64)) ∧ Below Y.heap.size Y w' from fun Y => by rw [hE]; exact edg_any 0 E Y (by omega) (by omega))
  have HEb := Lib.hid (show ∀ Y : World, Calls Tryz.prog 194 #[.int .i64 a.edges, .int .i64 b.edges] Y fun e w' => ∃ v, e = .returned v ∧ w'.ownsRow Y.heap.size 3 1 v F ((seqF a.edges F).map (Value.int .i64)) ∧ Below Y.heap.size Y w' from fun Y => by rw [hF]; exact edg_any a.edges F Y (by omega) (by omega))
  have hol := sdO_len a b
  obtain ⟨Mb, hMb⟩ : ∃ Mb, sdB a b (sdW a b) = Mb := ⟨_, rfl⟩
  obtain ⟨lf, hlf⟩ : ∃ lf, lfS a b = lf := ⟨_, rfl⟩
  obtain ⟨rg, hrg⟩ : ∃ rg, rgS a b = rg := ⟨_, rfl⟩
  have HUd : Hid ((⟨a.roots + b.roots, (relB (lkF lf) a).nodes ++ (plB (pcF (rtsF a.roots Rb) n1) (relB (lkF rg) b)).nodes, a.sites ++ b.sites.map (pcF (rtsF a.roots Rb) n1), a.edges + b.edges, sdO a b, innW (relB (lkF lf) a).inner (relB (lkF rg) b).inner⟩ : Big) = Mb) := Lib.hid (by rw [← hMb]; unfold sdB sdW wnA wnB pcS; rw [hlf, hrg, l1, hRb, Int.toNat_natCast])
  rw [hMb]
  have hEt : a.edges.toNat = E := by omega
  have hFt : b.edges.toNat = F := by omega
  have hlfl : lf.length = E + n4 := by rw [← hlf]; unfold lfS; rw [lkL_len, hEt, l4]
  have hrgl : rg.length = F + m4 := by rw [← hrg]; unfold rgS; rw [lkL_len, hFt, q4]
  have HLf : Hid (seqF 0 E ++ nmdL (a.edges + b.edges) (sdO a b) a.outer = lf) := Lib.hid (by rw [← hlf]; unfold lfS lkL; rw [hEt])
  have HRg : Hid (seqF a.edges F ++ nmdL (a.edges + b.edges) (sdO a b) b.outer = rg) := Lib.hid (by rw [← hrg]; unfold rgS lkL; rw [hFt])
  have HSo := Lib.hid (fun (As : Option Addr) (cc : Nat) (Y : World) (hy : SR Y Y.heap.size As (n4 + m4) ((a.outer ++ b.outer).map Value.string)) => (show Calls Tryz.prog 120 #[.slice As (n4 + m4) cc] Y fun e w' => ∃ A' c', e = .returned (.slice A' (sdO a b).length c') ∧ RowR w' Y.heap.size w'.heap.size 9 1 A' (sdO a b).length c' (at_ (sdO a b)) ∧ Below Y.heap.size Y w' from l2Sorted_any As (n4 + m4) cc (a.outer ++ b.outer) Y hy (by omega)))
  clear hMb hlf hrg
  obtain ⟨ou, hou⟩ : ∃ ou, sdO a b = ou := ⟨_, rfl⟩
  rw [hou] at HUd HLf HRg HSo hol
  obtain ⟨no, hno⟩ : ∃ no, ou.length = no := ⟨_, rfl⟩
  rw [hno] at HSo hol
  have HOl := Lib.hid hno
  have HNa := Lib.hid (fun (AO : Option Addr) (cO : Nat) (Y : World) (hY : Below w.heap.size w Y) (hO : SR Y Y.heap.size AO no (ou.map Value.string)) => (nmd_any A4 AO n4 c4 no cO a.outer ou (a.edges + b.edges) Y ((h4.below hY).wide hY.size) hO (by omega) (by omega) (by omega)).mono (R' := fun e w' => ∃ v, e = .returned v ∧ w'.ownsRow Y.heap.size 3 1 v n4 ((nmdL (a.edges + b.edges) ou a.outer).map (Value.int .i64)) ∧ Below Y.heap.size Y w') (fun e w' h => by
    obtain ⟨v, h1, h2, -, h3⟩ := h
    exact ⟨v, h1, h2, h3⟩))
  have HNb := Lib.hid (fun (AO : Option Addr) (cO : Nat) (Y : World) (hY : Below w.heap.size w Y) (hO : SR Y Y.heap.size AO no (ou.map Value.string)) => (nmd_any B4 AO m4 d4 no cO b.outer ou (a.edges + b.edges) Y ((k4.below hY).wide hY.size) hO (by omega) (by omega) (by omega)).mono (R' := fun e w' => ∃ v, e = .returned v ∧ w'.ownsRow Y.heap.size 3 1 v m4 ((nmdL (a.edges + b.edges) ou b.outer).map (Value.int .i64)) ∧ Below Y.heap.size Y w') (fun e w' h => by
    obtain ⟨v, h1, h2, -, h3⟩ := h
    exact ⟨v, h1, h2, h3⟩))
  have HLna : Hid ((nmdL (a.edges + b.edges) ou a.outer).length = n4) := Lib.hid (by rw [nmd_len]; exact l4)
  have HLnb : Hid ((nmdL (a.edges + b.edges) ou b.outer).length = m4) := Lib.hid (by rw [nmd_len]; exact q4)
  have hp0 : ∀ z ∈ a.sites, -(R : Int) ≤ z ∧ z ≤ 1048576 := fun z hz => by have := pa.2 z hz; omega
  have HN1 := Lib.hid (fun (Az : Option Addr) (cz : Nat) (AL : Option Addr) (cL : Nat) (Y : World) (hY : Below w.heap.size w Y) (hzz : IntsAt Y Y.heap.size Az R (rtsF 0 R)) (hLL : IntsAt Y Y.heap.size AL (E + n4) lf) => (ndk_any (.agg #[.int .i64 a.roots, .slice A1 n1 c1, .slice A2 n2 c2, .int .i64 a.edges, .slice A4 n4 c4, .slice A5 n5 c5]) a 0 Az R cz (rtsF 0 R) AL (E + n4) cL lf Y (hVa.out Y hY) hzz hLL (by omega) (by omega) (by omega) (by omega) (fun x hx => by have := pa.1 x hx; omega) (links3 hga) (fun x hx l hl => by have := la.1 x hx l hl; omega)).mono (R' := fun e w' => ∃ (v : Value) (xs : List Value) (LA : Nat → Option Addr) (LC : Nat → Nat), e = .returned v ∧ NdO w' Y.heap.size w'.heap.size v n1 LA LC (relB (lkF lf) a).nodes xs ∧ Below Y.heap.size Y w') (fun e w' h => by
    obtain ⟨v', xs, LA, LC, rfl, hs, hb⟩ := h
    rw [rk_nodes (fun x hx => by have := pa.1 x hx; omega), l1] at hs
    exact ⟨v', xs, LA, LC, rfl, ndo_of hs (by simp only [relB, List.length_map]; exact l1) (Nat.le_refl _), hb⟩))
  have HN2 := Lib.hid (fun (Az : Option Addr) (cz : Nat) (AL : Option Addr) (cL : Nat) (Y : World) (hY : Below w.heap.size w Y) (hzz : IntsAt Y Y.heap.size Az Rb (rtsF a.roots Rb)) (hLL : IntsAt Y Y.heap.size AL (F + m4) rg) => (ndk_any (.agg #[.int .i64 b.roots, .slice B1 m1 d1, .slice B2 m2 d2, .int .i64 b.edges, .slice B4 m4 d4, .slice B5 m5 d5]) b n1 Az Rb cz (rtsF a.roots Rb) AL (F + m4) cL rg Y (hVb.out Y hY) hzz hLL (by omega) (by omega) (by omega) (by omega) (fun x hx => by have := pb.1 x hx; omega) (links3 hgb) (fun x hx l hl => by have := lb.1 x hx l hl; omega)).mono (R' := fun e w' => ∃ (v : Value) (xs : List Value) (LA : Nat → Option Addr) (LC : Nat → Nat), e = .returned v ∧ NdO w' Y.heap.size w'.heap.size v m1 LA LC (plB (pcF (rtsF a.roots Rb) n1) (relB (lkF rg) b)).nodes xs ∧ Below Y.heap.size Y w') (fun e w' h => by
    obtain ⟨v', xs, LA, LC, rfl, hs, hb⟩ := h
    rw [nd_under, q1] at hs
    exact ⟨v', xs, LA, LC, rfl, ndo_of hs (by simp only [plB, relB, List.length_map]; exact q1) (Nat.le_refl _), hb⟩))
  have HSa := Lib.hid (fun (Az : Option Addr) (cz : Nat) (Y : World) (hY : Below w.heap.size w Y) (hzz : IntsAt Y Y.heap.size Az R (rtsF 0 R)) => (sio_any Az R cz (rtsF 0 R) 0 (.agg #[.int .i64 a.roots, .slice A1 n1 c1, .slice A2 n2 c2, .int .i64 a.edges, .slice A4 n4 c4, .slice A5 n5 c5]) a Y (hVa.out Y hY) hNa hzz (by omega) (by omega) (by omega) hp0).mono (R' := fun e w' => ∃ v, e = .returned v ∧ w'.ownsRow Y.heap.size 3 1 v n2 (a.sites.map (Value.int .i64)) ∧ Below Y.heap.size Y w') (fun e w' h => by
    obtain ⟨v, rfl, hr, hb⟩ := h
    rw [rk_sites (fun z hz => (hp0 z hz).1), l2] at hr
    exact ⟨v, rfl, hr, hb⟩))
  have HSb := Lib.hid (fun (Az : Option Addr) (cz : Nat) (Y : World) (hY : Below w.heap.size w Y) (hzz : IntsAt Y Y.heap.size Az Rb (rtsF a.roots Rb)) => (sit_any Az Rb cz (rtsF a.roots Rb) n1 (.agg #[.int .i64 b.roots, .slice B1 m1 d1, .slice B2 m2 d2, .int .i64 b.edges, .slice B4 m4 d4, .slice B5 m5 d5]) b Y (hVb.out Y hY) hNb hzz (by omega) (by omega) (by omega) (fun z hz => by have := pb.2 z hz; omega)).mono (R' := fun e w' => ∃ (A : Option Addr) (c : Nat), e = .returned (.slice A m2 c) ∧ RowR w' Y.heap.size w'.heap.size 3 1 A m2 c (iat (b.sites.map (pcF (rtsF a.roots Rb) n1))) ∧ Below Y.heap.size Y w') (fun e w' h => by
    obtain ⟨A, c, rfl, hr, hb⟩ := h
    rw [q2] at hr
    exact ⟨A, c, by rw [q2], hr, hb⟩))
  have HWa := Lib.hid (fun (AL : Option Addr) (cL : Nat) (Y : World) (hY : Below w.heap.size w Y) (hLL : IntsAt Y Y.heap.size AL (E + n4) lf) => (wrk_any (.agg #[.int .i64 a.roots, .slice A1 n1 c1, .slice A2 n2 c2, .int .i64 a.edges, .slice A4 n4 c4, .slice A5 n5 c5]) a AL (E + n4) cL lf Y (hVa.out Y hY) hLL (by omega) (by omega) (fun x hx => by have := la.2 x hx; omega)).mono (R' := fun e w' => ∃ (A : Option Addr) (c : Nat), e = .returned (.slice A n5 c) ∧ RowR w' Y.heap.size w'.heap.size 139 2 A n5 c (wic (relB (lkF lf) a).inner) ∧ Below Y.heap.size Y w') (fun e w' h => by
    obtain ⟨A, c, rfl, hr, hb⟩ := h
    rw [l5] at hr
    exact ⟨A, c, by rw [l5], hr, hb⟩))
  have HWb := Lib.hid (fun (AL : Option Addr) (cL : Nat) (Y : World) (hY : Below w.heap.size w Y) (hLL : IntsAt Y Y.heap.size AL (F + m4) rg) => (wrk_any (.agg #[.int .i64 b.roots, .slice B1 m1 d1, .slice B2 m2 d2, .int .i64 b.edges, .slice B4 m4 d4, .slice B5 m5 d5]) b AL (F + m4) cL rg Y (hVb.out Y hY) hLL (by omega) (by omega) (fun x hx => by have := lb.2 x hx; omega)).mono (R' := fun e w' => ∃ (A : Option Addr) (c : Nat), e = .returned (.slice A m5 c) ∧ RowR w' Y.heap.size w'.heap.size 139 2 A m5 c (wic (relB (lkF rg) b).inner) ∧ Below Y.heap.size Y w') (fun e w' h => by
    obtain ⟨A, c, rfl, hr, hb⟩ := h
    rw [q5] at hr
    exact ⟨A, c, by rw [q5], hr, hb⟩))
  have HIw := Lib.hid (fun (A : Option Addr) (ca : Nat) (B : Option Addr) (cb : Nat) (Y : World) (ha : WrsAt Y Y.heap.size A n5 (relB (lkF lf) a).inner) (h0 : A = none → ca = 0) (hb : WrsAt Y Y.heap.size B m5 (relB (lkF rg) b).inner) => inr_any A B n5 ca m5 cb (relB (lkF lf) a).inner (relB (lkF rg) b).inner Y ha h0 hb (by omega) (by omega))
  have HLe : Hid ((relB (lkF lf) a).nodes.length = n1 ∧ (plB (pcF (rtsF a.roots Rb) n1) (relB (lkF rg) b)).nodes.length = m1 ∧ (b.sites.map (pcF (rtsF a.roots Rb) n1)).length = m2 ∧ (relB (lkF lf) a).inner.length = n5 ∧ (relB (lkF rg) b).inner.length = m5) := Lib.hid ⟨by simp only [relB, List.length_map]; exact l1, by simp only [plB, relB, List.length_map]; exact q1, by rw [List.length_map]; exact q2, by simp only [relB, List.length_map]; exact l5, by simp only [relB, List.length_map]; exact q5⟩
  have HSl := Lib.hid (And.intro l2 (And.intro hlfl hrgl))
  have HIl : Hid ((innW (relB (lkF lf) a).inner (relB (lkF rg) b).inner).length = n5 + m5) := Lib.hid (by rw [innW_len, HLe.out.2.2.2.1, HLe.out.2.2.2.2])
  have HO1 : Hid (∀ ss : List ByteArray, ∀ u ∈ ss.map Value.string, u.oneCell' = true) := Lib.hid (fun ss u hu => by obtain ⟨s, -, rfl⟩ := List.mem_map.1 hu; rfl)
  have HI1 : Hid (∀ zs : List Int, ∀ u ∈ zs.map (Value.int .i64), u.oneCell' = true) := Lib.hid (fun zs u hu => by obtain ⟨s, -, rfl⟩ := List.mem_map.1 hu; rfl)
  have HOa : Hid ((a.outer.map Value.string).length = n4 * 1 ∧ (b.outer.map Value.string).length = m4 * 1) := Lib.hid ⟨by rw [List.length_map, Nat.mul_one]; exact l4, by rw [List.length_map, Nat.mul_one]; exact q4⟩
  have HOs := Lib.hid (And.intro l4 q4)
  have HZ4 := Lib.hid (And.intro (fun e : A4 = none => And.intro (sr_zero h4 e) (hnilA.2.2.1 e)) (fun e : B4 = none => And.intro (sr_zero k4 e) (hnilB.2.2.1 e)))
  have H4 := Lib.hid h4
  have K4 := Lib.hid k4
  have e1 : 0 + n4 ≤ maxLen := by unfold maxLen; omega
  have e2 : (0 + n4) * 16 ≤ 140737488355328 := by omega
  have e3 : n4 + m4 ≤ maxLen := by unfold maxLen; omega
  have e4 : (n4 + m4) * 16 ≤ 140737488355328 := by omega
  have e5 : E + n4 ≤ maxLen := by unfold maxLen; omega
  have e6 : (E + n4) * 8 ≤ 140737488355328 := by omega
  have e7 : n1 + m1 ≤ maxLen := by unfold maxLen; omega
  have e8 : (n1 + m1) * 40 ≤ 140737488355328 := by omega
  have f5 : F + m4 ≤ maxLen := by unfold maxLen; omega
  have f6 : (F + m4) * 8 ≤ 140737488355328 := by omega
  have f7 : n2 + m2 ≤ maxLen := by unfold maxLen; omega
  have f8 : (n2 + m2) * 8 ≤ 140737488355328 := by omega
  have hwE : IntKind.i64.wrap (a.edges + b.edges) = a.edges + b.edges := IntWalk.i64_in _ (by omega)
  have hwR : IntKind.i64.wrap (a.roots + b.roots) = a.roots + b.roots := IntWalk.i64_in _ (by omega)
  obtain ⟨i0, hi, hz0, hz1, hz2⟩ := info_parts str_info
  have HIs := Lib.hid (And.intro hi (And.intro hz0 (And.intro hz1 hz2)))
  obtain ⟨i1, hi, hz0, hz1, hz2⟩ := info_parts int_info
  have HIi := Lib.hid (And.intro hi (And.intro hz0 (And.intro hz1 hz2)))
  obtain ⟨i2, hi, hz0, hz1, hz2⟩ := info_parts node_info
  have HIn := Lib.hid (And.intro hi (And.intro hz0 (And.intro hz1 hz2)))
  clear hi hz0 hz1 hz2 hya hyb hnilA hnilB l1 l2 l4 l5 q1 q2 q4 q5 hR hRb hE hF pa pb la lb hEt hFt hlfl hrgl hou hno hol hp0 hSa hNa hga hSb hNb hgb h1 h2 h4 h5 k1 k2 k4 k5 hVa hVb
  have HWt : Hid (∀ Y, Below X.heap.size X Y → Below w.heap.size w Y) := Lib.hid (fun Y hY => HB0.out.trans (hY.mono HB0.out.size))
  have HS : Hid (∀ w', Below X.heap.size X w' → (w'.cell? ⟨w.heap.size, 3, none⟩ = some (.int .i64 a.edges) ∧ w'.cell? ⟨w.heap.size, 4, none⟩ = some (.slice A4 n4 c4) ∧ w'.cell? ⟨w.heap.size + 1, 3, none⟩ = some (.int .i64 b.edges) ∧ w'.cell? ⟨w.heap.size + 1, 4, none⟩ = some (.slice B4 m4 d4))) := Lib.hid (fun w' hq => ⟨(HBa.out.on hq).get.2.2.2.1, (HBa.out.on hq).get.2.2.2.2.1, (HBb.out.on hq).get.2.2.2.1, (HBb.out.on hq).get.2.2.2.2.1⟩)
  have hX0 : w.heap.size ≤ X.heap.size := HB0.out.size
  have hkA := ((Below.refl X.heap.size X).alloc (Nat.le_refl _) (.cells #[] 9)).drew
  have hzA : (X.alloc (.cells #[] 9)).drew.heap[X.heap.size]? = some (.cells #[] 9) := World.alloc_heap_new X (.cells #[] 9)
  obtain ⟨x0, x1, x2, x3, x4, x5⟩ := HBa.out.get
  obtain ⟨y0, y1, y2, y3, y4, y5⟩ := HBb.out.get
  go_enter Tryz.func116, Tryz.ntmps116
  go_wp2_with fail
  rw [HUq.out, HWq.out, HXq.out]
  go_wp2_with fail
  clear x0 x1 x2 x3 x4 x5 y0 y1 y2 y3 y4 y5
  refine rh.go_begin 14 (fun w' => (w'.cell? ⟨w.heap.size, 3, none⟩ = some (.int .i64 a.edges) ∧ w'.cell? ⟨w.heap.size, 4, none⟩ = some (.slice A4 n4 c4) ∧ w'.cell? ⟨w.heap.size + 1, 3, none⟩ = some (.int .i64 b.edges) ∧ w'.cell? ⟨w.heap.size + 1, 4, none⟩ = some (.slice B4 m4 d4))) (by kernel_rfl) ?_ (fun hHeld => ?_)
  · ((try dsimp only); exact HS.out _ (by go_grown))
  refine rh.go_take (i := 1) (v := ?v1) rfl (by kernel_rfl) (fun _ _ _ h => h) (Or.inl ⟨by rfl, ?hy1⟩) (by assumption) ?rest1
  case hy1 => (intro wS hSw; (try dsimp only at hSw); go_simp; try (with_reducible rfl))
  try simp only [Act.put, List.setIfInBounds_toArray, List.set_cons_zero, List.set_cons_succ]
  refine rh.go_take (i := 2) (v := ?v2) rfl (by kernel_rfl) (fun _ _ _ h => h) (Or.inl ⟨by rfl, ?hy2⟩) (by assumption) ?rest2
  case hy2 => (intro wS hSw; (try dsimp only at hSw); go_simp; try (with_reducible rfl))
  try simp only [Act.put, List.setIfInBounds_toArray, List.set_cons_zero, List.set_cons_succ]
  refine rh.go_take (i := 4) (v := ?v3) rfl (by kernel_rfl) (fun _ _ _ h => h) (Or.inl ⟨by rfl, ?hy3⟩) (by assumption) ?rest3
  case hy3 => (intro wS hSw; (try dsimp only at hSw); go_simp; try (with_reducible rfl))
  try simp only [Act.put, List.setIfInBounds_toArray, List.set_cons_zero, List.set_cons_succ]
  refine rh.go_take (i := 5) (v := ?v4) rfl (by kernel_rfl) (fun _ _ _ h => h) (Or.inl ⟨by rfl, ?hy4⟩) (by assumption) ?rest4
  case hy4 => (intro wS hSw; (try dsimp only at hSw); go_simp; try (with_reducible rfl))
  try simp only [Act.put, List.setIfInBounds_toArray, List.set_cons_zero, List.set_cons_succ]
  refine rh.go_take (i := 8) (v := ?v5) rfl (by kernel_rfl) (fun _ _ _ h => h) (Or.inl ⟨by rfl, ?hy5⟩) (by assumption) ?rest5
  case hy5 => (intro wS hSw; (try dsimp only at hSw); go_simp; try (with_reducible rfl))
  try simp only [Act.put, List.setIfInBounds_toArray, List.set_cons_zero, List.set_cons_succ]
  refine rh.go_take (i := 9) (v := ?v6) rfl (by kernel_rfl) (fun _ _ _ h => h) (Or.inl ⟨by rfl, ?hy6⟩) (by assumption) ?rest6
  case hy6 => (intro wS hSw; (try dsimp only at hSw); go_simp; try (with_reducible rfl))
  try simp only [Act.put, List.setIfInBounds_toArray, List.set_cons_zero, List.set_cons_succ]
  refine rh.go_take (i := 10) (v := ?v7) rfl (by kernel_rfl) (fun _ _ _ h => h) (Or.inl ⟨by rfl, ?hy7⟩) (by assumption) ?rest7
  case hy7 => (intro wS hSw; (try dsimp only at hSw); go_simp; try (with_reducible rfl))
  try simp only [Act.put, List.setIfInBounds_toArray, List.set_cons_zero, List.set_cons_succ]
  refine rh.go_take (i := 11) (v := ?v8) rfl (by kernel_rfl) (fun _ _ _ h => h) (Or.inl ⟨by rfl, ?hy8⟩) (by assumption) ?rest8
  case hy8 => (intro wS hSw; (try dsimp only at hSw); go_simp; try (with_reducible rfl))
  try simp only [Act.put, List.setIfInBounds_toArray, List.set_cons_zero, List.set_cons_succ]
  refine rh.go_take (i := 12) (v := .int .i64 (a.edges + b.edges)) rfl (by kernel_rfl) (fun _ _ _ h => h) (Or.inl ⟨by rfl, ?hyQ12⟩) (by assumption) ?restQ12
  case hyQ12 => (intro wS hSw; (try dsimp only at hSw); go_simp; try rw [hwE])
  try simp only [Act.put, List.setIfInBounds_toArray, List.set_cons_zero, List.set_cons_succ]
  refine rh.go_next (i := 0) rfl (by kernel_rfl) (fun K2 hK => ?_)
  go_simp
  have hk := hkA
  have hz := hzA
  refine hK.out _ _ ?_ (fun hHeld => ?_)
  · ((try dsimp only); exact HS.out _ hk)
  clear hK K2 hHeld
  try simp only [Act.put, List.setIfInBounds_toArray, List.set_cons_zero, List.set_cons_succ]
  obtain ⟨W0, hW0⟩ : ∃ WB, (X.alloc (.cells #[] 9)).drew = WB := ⟨_, rfl⟩
  rw [hW0] at hz hk ⊢
  clear hW0 hkA hzA
  refine rh.go_next (i := 3) rfl (by kernel_rfl) (fun K2 hK => ?_)
  refine step_append_src rfl _ _ 25 rfl X.heap.size 9 i0 (.string ⟨#[]⟩) 1 16 Tryz.underlying25 HIs.out.1 HIs.out.2.1 HIs.out.2.2.1 HIs.out.2.2.2 rfl (by decide) _ _ _ (by first | rfl | simp [Act.eval, Act.put]) (nil_at hz (Nat.le_refl _)) A4 n4 c4 (a.outer.map Value.string) (by first | rfl | simp [Act.eval, Act.put]) HZ4.out.1 HOa.out.1 (sr_src (H4.out.below (HWt.out _ hk))) (HO1.out _) e1 e2 hk.size ?_
  intro v3 w3 ho3 hg3
  have hzo := nil_at (sz := 1) (B := X.heap.size) hz (Nat.le_refl _)
  have hk := hk.grown hg3 hk.size (fun j hj => (hzo.lt j hj).1)
  rw [Nat.zero_add, List.nil_append] at ho3
  have HO3 := Lib.hid ho3
  clear ho3 hg3 hzo hz
  (try go_simp)
  refine hK.out _ _ ?_ (fun hHeld => ?_)
  · ((try dsimp only); exact HS.out _ hk)
  clear hK K2 hHeld
  try simp only [Act.put, List.setIfInBounds_toArray, List.set_cons_zero, List.set_cons_succ]
  refine rh.go_next (i := 6) rfl (by kernel_rfl) (fun K2 hK => ?_)
  refine step_append_src rfl _ _ 25 rfl X.heap.size 9 i0 (.string ⟨#[]⟩) 1 16 Tryz.underlying25 HIs.out.1 HIs.out.2.1 HIs.out.2.2.1 HIs.out.2.2.2 rfl (by decide) _ _ _ (by first | rfl | simp [Act.eval, Act.put]) HO3.out B4 m4 d4 (b.outer.map Value.string) (by first | rfl | simp [Act.eval, Act.put]) HZ4.out.2 HOa.out.2 (sr_src (K4.out.below (HWt.out _ hk))) (HO1.out _) e3 e4 hk.size ?_
  intro v6 w6 ho6 hg6
  have hk := hk.grown hg6 hk.size (fun j hj => (HO3.out.lt j hj).1)
  obtain ⟨A6, c6, rfl, hr6⟩ := strs_join ho6 HOs.out.1 HOs.out.2
  have HR6 := Lib.hid hr6
  clear ho6 hg6 hr6 HO3
  (try go_simp)
  refine hK.out _ _ ?_ (fun hHeld => ?_)
  · ((try dsimp only); exact HS.out _ hk)
  clear hK K2 hHeld
  try simp only [Act.put, List.setIfInBounds_toArray, List.set_cons_zero, List.set_cons_succ]
  refine rh.go_next (i := 7) rfl (by kernel_rfl) (fun K2 hK => ?_)
  go_simp
  go_at_call 120
  refine (HSo.out A6 c6 _ HR6.out).mono ?_
  rintro e V ⟨AO, cO, rfl, hrO, hb⟩
  have h6 := hk.size
  have hk := hk.trans (hb.mono hk.size)
  have HRO := Lib.hid (hrO.wide (lo' := w.heap.size) (Nat.le_trans hX0 h6) (Nat.le_refl _))
  clear hb hrO HR6 h6
  go_wp2_with fail
  refine hK.out _ _ ?_ (fun hHeld => ?_)
  · ((try dsimp only); exact HS.out _ hk)
  clear hK K2 hHeld
  try simp only [Act.put, List.setIfInBounds_toArray, List.set_cons_zero, List.set_cons_succ]
  refine rh.go_next (i := 13) rfl (by kernel_rfl) (fun K2 hK => ?_)
  go_simp
  refine hK.out _ _ ?_ (fun hHeld => ?_)
  · ((try dsimp only); exact HS.out _ hk)
  clear hK K2 hHeld
  try simp only [Act.put, List.setIfInBounds_toArray, List.set_cons_zero, List.set_cons_succ]
  refine rh.go_last rfl (by kernel_rfl) (fun K2 hK => ?_)
  go_simp
  refine hK.out _ _ ?_
  refine NoPanic.normal ?_
  clear hK K2
  have HWt : Hid (∀ Y, Below V.heap.size V Y → Below w.heap.size w Y) := Lib.hid (fun Y hY => HWt.out _ (hk.trans (hY.mono hk.size)))
  have HBa := Lib.hid (HBa.out.on hk)
  have HBb := Lib.hid (HBb.out.on hk)
  have HBr := Lib.hid (HBr.out.on hk)
  clear HS HSo H4 K4 hk HZ4 HOa HOs e1 e2 e3 e4 HB0
  have HS : Hid (∀ w', Below V.heap.size V w' → (w'.cell? ⟨w.heap.size, 3, none⟩ = some (.int .i64 a.edges) ∧ w'.cell? ⟨w.heap.size, 4, none⟩ = some (.slice A4 n4 c4) ∧ w'.cell? ⟨w.heap.size + 1, 3, none⟩ = some (.int .i64 b.edges) ∧ w'.cell? ⟨w.heap.size + 1, 4, none⟩ = some (.slice B4 m4 d4))) := Lib.hid (fun w' hq => ⟨(HBa.out.on hq).get.2.2.2.1, (HBa.out.on hq).get.2.2.2.2.1, (HBb.out.on hq).get.2.2.2.1, (HBb.out.on hq).get.2.2.2.2.1⟩)
  have hk := (Below.refl V.heap.size V).drew
  go_wp2_with fail
  refine rh.go_begin 9 (fun w' => (w'.cell? ⟨w.heap.size, 3, none⟩ = some (.int .i64 a.edges) ∧ w'.cell? ⟨w.heap.size, 4, none⟩ = some (.slice A4 n4 c4) ∧ w'.cell? ⟨w.heap.size + 1, 3, none⟩ = some (.int .i64 b.edges) ∧ w'.cell? ⟨w.heap.size + 1, 4, none⟩ = some (.slice B4 m4 d4))) (by kernel_rfl) ?_ (fun hHeld => ?_)
  · ((try dsimp only); exact HS.out _ (by go_grown))
  refine rh.go_take (i := 0) (v := ?v9) rfl (by kernel_rfl) (fun _ _ _ h => h) (Or.inl ⟨by rfl, ?hy9⟩) (by assumption) ?rest9
  case hy9 => (intro wS hSw; (try dsimp only at hSw); go_simp; try (with_reducible rfl))
  try simp only [Act.put, List.setIfInBounds_toArray, List.set_cons_zero, List.set_cons_succ]
  refine rh.go_take (i := 1) (v := ?v10) rfl (by kernel_rfl) (fun _ _ _ h => h) (Or.inl ⟨by rfl, ?hy10⟩) (by assumption) ?rest10
  case hy10 => (intro wS hSw; (try dsimp only at hSw); go_simp; try (with_reducible rfl))
  try simp only [Act.put, List.setIfInBounds_toArray, List.set_cons_zero, List.set_cons_succ]
  refine rh.go_take (i := 3) (v := ?v11) rfl (by kernel_rfl) (fun _ _ _ h => h) (Or.inl ⟨by rfl, ?hy11⟩) (by assumption) ?rest11
  case hy11 => (intro wS hSw; (try dsimp only at hSw); go_simp; try (with_reducible rfl))
  try simp only [Act.put, List.setIfInBounds_toArray, List.set_cons_zero, List.set_cons_succ]
  refine rh.go_take (i := 4) (v := ?v12) rfl (by kernel_rfl) (fun _ _ _ h => h) (Or.inl ⟨by rfl, ?hy12⟩) (by assumption) ?rest12
  case hy12 => (intro wS hSw; (try dsimp only at hSw); go_simp; try (with_reducible rfl))
  try simp only [Act.put, List.setIfInBounds_toArray, List.set_cons_zero, List.set_cons_succ]
  refine rh.go_take (i := 5) (v := ?v13) rfl (by kernel_rfl) (fun _ _ _ h => h) (Or.inl ⟨by rfl, ?hy13⟩) (by assumption) ?rest13
  case hy13 => (intro wS hSw; (try dsimp only at hSw); go_simp; try (with_reducible rfl))
  try simp only [Act.put, List.setIfInBounds_toArray, List.set_cons_zero, List.set_cons_succ]
  refine rh.go_take (i := 6) (v := ?v14) rfl (by kernel_rfl) (fun _ _ _ h => h) (Or.inl ⟨by rfl, ?hy14⟩) (by assumption) ?rest14
  case hy14 => (intro wS hSw; (try dsimp only at hSw); go_simp; try (with_reducible rfl))
  try simp only [Act.put, List.setIfInBounds_toArray, List.set_cons_zero, List.set_cons_succ]
  refine rh.go_next (i := 2) rfl (by kernel_rfl) (fun K2 hK => ?_)
  go_simp
  go_at_call 194
  refine (HEa.out _).mono ?_
  rintro e w21 ⟨v2, rfl, ho2, hb⟩
  have HO2 : Hid (w21.ownsRow V.heap.size 3 1 v2 E _) := Lib.hid ho2
  have hk := hk.trans (hb.mono hk.size)
  clear hb ho2
  go_wp2_with fail
  refine hK.out _ _ ?_ (fun hHeld => ?_)
  · ((try dsimp only); exact HS.out _ hk)
  clear hK K2 hHeld
  try simp only [Act.put, List.setIfInBounds_toArray, List.set_cons_zero, List.set_cons_succ]
  refine rh.go_next (i := 7) rfl (by kernel_rfl) (fun K2 hK => ?_)
  go_simp
  go_at_call 195
  refine (HNa.out AO cO _ (HWt.out _ hk) (row_strs (HRO.out.on hk) HOl.out)).mono ?_
  rintro e w22 ⟨v3, rfl, ho3, hb⟩
  obtain ⟨A3, c3, rfl, hr3⟩ := ints_own ho3 HLna.out
  have HO2 := Lib.hid (owns_on HO2.out hb)
  have hk := hk.trans (hb.mono hk.size)
  have HR3 := Lib.hid hr3
  clear hb ho3 hr3
  go_wp2_with fail
  refine hK.out _ _ ?_ (fun hHeld => ?_)
  · ((try dsimp only); exact HS.out _ hk)
  clear hK K2 hHeld
  try simp only [Act.put, List.setIfInBounds_toArray, List.set_cons_zero, List.set_cons_succ]
  refine rh.go_next (i := 8) rfl (by kernel_rfl) (fun K2 hK => ?_)
  refine step_append_src rfl _ _ 24 rfl V.heap.size 3 i1 (.int .i64 0) 1 8 Tryz.underlying24 HIi.out.1 HIi.out.2.1 HIi.out.2.2.1 HIi.out.2.2.2 rfl (by decide) _ _ _ (by first | rfl | simp [Act.eval, Act.put]) HO2.out A3 n4 c3 (_ : List Value) (by first | rfl | simp [Act.eval, Act.put]) (row_nil HR3.out) (by rw [List.length_map, HLna.out, Nat.mul_one]) (sr_src (row_ints HR3.out HLna.out)) (HI1.out _) e5 e6 hk.size ?_
  intro v4 V2 ho4 hg4
  have hk := hk.grown hg4 hk.size (fun j hj => (HO2.out.lt j hj).1)
  obtain ⟨AL, cL, rfl, hrL⟩ := lks_own ho4 (seq_len _ _) HLna.out
  rw [HLf.out] at hrL
  have HRL := Lib.hid hrL
  clear ho4 hg4 hrL HO2 HR3
  (try go_simp)
  refine hK.out _ _ ?_ (fun hHeld => ?_)
  · ((try dsimp only); exact HS.out _ hk)
  clear hK K2 hHeld
  try simp only [Act.put, List.setIfInBounds_toArray, List.set_cons_zero, List.set_cons_succ]
  refine rh.go_last rfl (by kernel_rfl) (fun K2 hK => ?_)
  go_simp
  refine hK.out _ _ ?_
  refine NoPanic.normal ?_
  clear hK K2
  have HWt : Hid (∀ Y, Below V2.heap.size V2 Y → Below w.heap.size w Y) := Lib.hid (fun Y hY => HWt.out _ (hk.trans (hY.mono hk.size)))
  have HBa := Lib.hid (HBa.out.on hk)
  have HBb := Lib.hid (HBb.out.on hk)
  have HBr := Lib.hid (HBr.out.on hk)
  have HRO := Lib.hid (HRO.out.on hk)
  clear HS HEa HNa HLna HLf hk
  have HS : Hid (∀ w', Below V2.heap.size V2 w' → (w'.cell? ⟨w.heap.size, 3, none⟩ = some (.int .i64 a.edges) ∧ w'.cell? ⟨w.heap.size, 4, none⟩ = some (.slice A4 n4 c4) ∧ w'.cell? ⟨w.heap.size + 1, 3, none⟩ = some (.int .i64 b.edges) ∧ w'.cell? ⟨w.heap.size + 1, 4, none⟩ = some (.slice B4 m4 d4))) := Lib.hid (fun w' hq => ⟨(HBa.out.on hq).get.2.2.2.1, (HBa.out.on hq).get.2.2.2.2.1, (HBb.out.on hq).get.2.2.2.1, (HBb.out.on hq).get.2.2.2.2.1⟩)
  have hk := (Below.refl V2.heap.size V2).drew
  go_wp2_with fail
  refine rh.go_begin 11 (fun w' => (w'.cell? ⟨w.heap.size, 3, none⟩ = some (.int .i64 a.edges) ∧ w'.cell? ⟨w.heap.size, 4, none⟩ = some (.slice A4 n4 c4) ∧ w'.cell? ⟨w.heap.size + 1, 3, none⟩ = some (.int .i64 b.edges) ∧ w'.cell? ⟨w.heap.size + 1, 4, none⟩ = some (.slice B4 m4 d4))) (by kernel_rfl) ?_ (fun hHeld => ?_)
  · ((try dsimp only); exact HS.out _ (by go_grown))
  refine rh.go_take (i := 0) (v := ?v15) rfl (by kernel_rfl) (fun _ _ _ h => h) (Or.inl ⟨by rfl, ?hy15⟩) (by assumption) ?rest15
  case hy15 => (intro wS hSw; (try dsimp only at hSw); go_simp; try (with_reducible rfl))
  try simp only [Act.put, List.setIfInBounds_toArray, List.set_cons_zero, List.set_cons_succ]
  refine rh.go_take (i := 1) (v := ?v16) rfl (by kernel_rfl) (fun _ _ _ h => h) (Or.inl ⟨by rfl, ?hy16⟩) (by assumption) ?rest16
  case hy16 => (intro wS hSw; (try dsimp only at hSw); go_simp; try (with_reducible rfl))
  try simp only [Act.put, List.setIfInBounds_toArray, List.set_cons_zero, List.set_cons_succ]
  refine rh.go_take (i := 2) (v := ?v17) rfl (by kernel_rfl) (fun _ _ _ h => h) (Or.inl ⟨by rfl, ?hy17⟩) (by assumption) ?rest17
  case hy17 => (intro wS hSw; (try dsimp only at hSw); go_simp; try (with_reducible rfl))
  try simp only [Act.put, List.setIfInBounds_toArray, List.set_cons_zero, List.set_cons_succ]
  refine rh.go_take (i := 3) (v := ?v18) rfl (by kernel_rfl) (fun _ _ _ h => h) (Or.inl ⟨by rfl, ?hy18⟩) (by assumption) ?rest18
  case hy18 => (intro wS hSw; (try dsimp only at hSw); go_simp; try (with_reducible rfl))
  try simp only [Act.put, List.setIfInBounds_toArray, List.set_cons_zero, List.set_cons_succ]
  refine rh.go_take (i := 5) (v := ?v19) rfl (by kernel_rfl) (fun _ _ _ h => h) (Or.inl ⟨by rfl, ?hy19⟩) (by assumption) ?rest19
  case hy19 => (intro wS hSw; (try dsimp only at hSw); go_simp; try (with_reducible rfl))
  try simp only [Act.put, List.setIfInBounds_toArray, List.set_cons_zero, List.set_cons_succ]
  refine rh.go_take (i := 6) (v := ?v20) rfl (by kernel_rfl) (fun _ _ _ h => h) (Or.inl ⟨by rfl, ?hy20⟩) (by assumption) ?rest20
  case hy20 => (intro wS hSw; (try dsimp only at hSw); go_simp; try (with_reducible rfl))
  try simp only [Act.put, List.setIfInBounds_toArray, List.set_cons_zero, List.set_cons_succ]
  refine rh.go_take (i := 7) (v := ?v21) rfl (by kernel_rfl) (fun _ _ _ h => h) (Or.inl ⟨by rfl, ?hy21⟩) (by assumption) ?rest21
  case hy21 => (intro wS hSw; (try dsimp only at hSw); go_simp; try (with_reducible rfl))
  try simp only [Act.put, List.setIfInBounds_toArray, List.set_cons_zero, List.set_cons_succ]
  refine rh.go_take (i := 8) (v := ?v22) rfl (by kernel_rfl) (fun _ _ _ h => h) (Or.inl ⟨by rfl, ?hy22⟩) (by assumption) ?rest22
  case hy22 => (intro wS hSw; (try dsimp only at hSw); go_simp; try (with_reducible rfl))
  try simp only [Act.put, List.setIfInBounds_toArray, List.set_cons_zero, List.set_cons_succ]
  refine rh.go_next (i := 4) rfl (by kernel_rfl) (fun K2 hK => ?_)
  go_simp
  go_at_call 194
  refine (HEb.out _).mono ?_
  rintro e w31 ⟨v2, rfl, ho2, hb⟩
  have HO2 : Hid (w31.ownsRow V2.heap.size 3 1 v2 F _) := Lib.hid ho2
  have hk := hk.trans (hb.mono hk.size)
  clear hb ho2
  go_wp2_with fail
  refine hK.out _ _ ?_ (fun hHeld => ?_)
  · ((try dsimp only); exact HS.out _ hk)
  clear hK K2 hHeld
  try simp only [Act.put, List.setIfInBounds_toArray, List.set_cons_zero, List.set_cons_succ]
  refine rh.go_next (i := 9) rfl (by kernel_rfl) (fun K2 hK => ?_)
  go_simp
  go_at_call 195
  refine (HNb.out AO cO _ (HWt.out _ hk) (row_strs (HRO.out.on hk) HOl.out)).mono ?_
  rintro e w32 ⟨v3, rfl, ho3, hb⟩
  obtain ⟨A3, c3, rfl, hr3⟩ := ints_own ho3 HLnb.out
  have HO2 := Lib.hid (owns_on HO2.out hb)
  have hk := hk.trans (hb.mono hk.size)
  have HR3 := Lib.hid hr3
  clear hb ho3 hr3
  go_wp2_with fail
  refine hK.out _ _ ?_ (fun hHeld => ?_)
  · ((try dsimp only); exact HS.out _ hk)
  clear hK K2 hHeld
  try simp only [Act.put, List.setIfInBounds_toArray, List.set_cons_zero, List.set_cons_succ]
  refine rh.go_next (i := 10) rfl (by kernel_rfl) (fun K2 hK => ?_)
  refine step_append_src rfl _ _ 24 rfl V2.heap.size 3 i1 (.int .i64 0) 1 8 Tryz.underlying24 HIi.out.1 HIi.out.2.1 HIi.out.2.2.1 HIi.out.2.2.2 rfl (by decide) _ _ _ (by first | rfl | simp [Act.eval, Act.put]) HO2.out A3 m4 c3 (_ : List Value) (by first | rfl | simp [Act.eval, Act.put]) (row_nil HR3.out) (by rw [List.length_map, HLnb.out, Nat.mul_one]) (sr_src (row_ints HR3.out HLnb.out)) (HI1.out _) f5 f6 hk.size ?_
  intro v4 V3 ho4 hg4
  have hk := hk.grown hg4 hk.size (fun j hj => (HO2.out.lt j hj).1)
  obtain ⟨AR, cR, rfl, hrL⟩ := lks_own ho4 (seq_len _ _) HLnb.out
  rw [HRg.out] at hrL
  have HRR := Lib.hid hrL
  clear ho4 hg4 hrL HO2 HR3
  (try go_simp)
  refine hK.out _ _ ?_ (fun hHeld => ?_)
  · ((try dsimp only); exact HS.out _ hk)
  clear hK K2 hHeld
  try simp only [Act.put, List.setIfInBounds_toArray, List.set_cons_zero, List.set_cons_succ]
  refine rh.go_last rfl (by kernel_rfl) (fun K2 hK => ?_)
  go_simp
  refine hK.out _ _ ?_
  refine NoPanic.normal ?_
  clear hK K2
  have HWt : Hid (∀ Y, Below V3.heap.size V3 Y → Below w.heap.size w Y) := Lib.hid (fun Y hY => HWt.out _ (hk.trans (hY.mono hk.size)))
  have HBa := Lib.hid (HBa.out.on hk)
  have HBb := Lib.hid (HBb.out.on hk)
  have HBr := Lib.hid (HBr.out.on hk)
  have HRO := Lib.hid (HRO.out.on hk)
  have HRL := Lib.hid (HRL.out.on hk)
  clear HS HEb HNb HLnb HRg hk e5 e6 f5 f6
  have HS : Hid (∀ w', Below V3.heap.size V3 w' → (w'.cell? ⟨w.heap.size, 0, none⟩ = some (.int .i64 a.roots) ∧ w'.cell? ⟨w.heap.size + 1, 0, none⟩ = some (.int .i64 b.roots))) := Lib.hid (fun w' hq => ⟨(HBa.out.on hq).get.1, (HBb.out.on hq).get.1⟩)
  have hk := (Below.refl V3.heap.size V3).drew
  go_wp2_with fail
  refine rh.go_begin 9 (fun w' => (w'.cell? ⟨w.heap.size, 0, none⟩ = some (.int .i64 a.roots) ∧ w'.cell? ⟨w.heap.size + 1, 0, none⟩ = some (.int .i64 b.roots))) (by kernel_rfl) ?_ (fun hHeld => ?_)
  · ((try dsimp only); exact HS.out _ (by go_grown))
  refine rh.go_take (i := 0) (v := ?v23) rfl (by kernel_rfl) (fun _ _ _ h => h) (Or.inl ⟨by rfl, ?hy23⟩) (by assumption) ?rest23
  case hy23 => (intro wS hSw; (try dsimp only at hSw); go_simp; try (with_reducible rfl))
  try simp only [Act.put, List.setIfInBounds_toArray, List.set_cons_zero, List.set_cons_succ]
  refine rh.go_take (i := 1) (v := ?v24) rfl (by kernel_rfl) (fun _ _ _ h => h) (Or.inl ⟨by rfl, ?hy24⟩) (by assumption) ?rest24
  case hy24 => (intro wS hSw; (try dsimp only at hSw); go_simp; try (with_reducible rfl))
  try simp only [Act.put, List.setIfInBounds_toArray, List.set_cons_zero, List.set_cons_succ]
  refine rh.go_take (i := 3) (v := ?v25) rfl (by kernel_rfl) (fun _ _ _ h => h) (Or.inl ⟨by rfl, ?hy25⟩) (by assumption) ?rest25
  case hy25 => (intro wS hSw; (try dsimp only at hSw); go_simp; try (with_reducible rfl))
  try simp only [Act.put, List.setIfInBounds_toArray, List.set_cons_zero, List.set_cons_succ]
  refine rh.go_take (i := 4) (v := ?v26) rfl (by kernel_rfl) (fun _ _ _ h => h) (Or.inl ⟨by rfl, ?hy26⟩) (by assumption) ?rest26
  case hy26 => (intro wS hSw; (try dsimp only at hSw); go_simp; try (with_reducible rfl))
  try simp only [Act.put, List.setIfInBounds_toArray, List.set_cons_zero, List.set_cons_succ]
  refine rh.go_take (i := 5) (v := ?v27) rfl (by kernel_rfl) (fun _ _ _ h => h) (Or.inl ⟨by rfl, ?hy27⟩) (by assumption) ?rest27
  case hy27 => (intro wS hSw; (try dsimp only at hSw); go_simp; try (with_reducible rfl))
  try simp only [Act.put, List.setIfInBounds_toArray, List.set_cons_zero, List.set_cons_succ]
  refine rh.go_take (i := 6) (v := ?v28) rfl (by kernel_rfl) (fun _ _ _ h => h) (Or.inl ⟨by rfl, ?hy28⟩) (by assumption) ?rest28
  case hy28 => (intro wS hSw; (try dsimp only at hSw); go_simp; try (with_reducible rfl))
  try simp only [Act.put, List.setIfInBounds_toArray, List.set_cons_zero, List.set_cons_succ]
  refine rh.go_next (i := 2) rfl (by kernel_rfl) (fun K2 hK => ?_)
  go_simp
  go_at_call 196
  refine (HRa.out _).mono ?_
  rintro e w41 ⟨v41, rfl, ho, hb⟩
  obtain ⟨Ar, cr, rfl, hr⟩ := ints_own ho (rts_len _ _)
  have HQ1 := Lib.hid hr
  have hk := hk.trans (hb.mono hk.size)
  clear hb ho hr
  go_wp2_with fail
  refine hK.out _ _ ?_ (fun hHeld => ?_)
  · ((try dsimp only); exact HS.out _ hk)
  clear hK K2 hHeld
  try simp only [Act.put, List.setIfInBounds_toArray, List.set_cons_zero, List.set_cons_succ]
  refine rh.go_next (i := 7) rfl (by kernel_rfl) (fun K2 hK => ?_)
  go_simp
  go_at_call 196
  refine (HRb.out _).mono ?_
  rintro e V4 ⟨v42, rfl, ho, hb⟩
  obtain ⟨As, cs', rfl, hr⟩ := ints_own ho (rts_len _ _)
  have HQ1 := Lib.hid (HQ1.out.on hb)
  have HQ2 := Lib.hid hr
  have hk := hk.trans (hb.mono hk.size)
  clear hb ho hr
  go_wp2_with fail
  refine hK.out _ _ ?_ (fun hHeld => ?_)
  · ((try dsimp only); exact HS.out _ hk)
  clear hK K2 hHeld
  try simp only [Act.put, List.setIfInBounds_toArray, List.set_cons_zero, List.set_cons_succ]
  refine rh.go_next (i := 8) rfl (by kernel_rfl) (fun K2 hK => ?_)
  go_simp
  refine hK.out _ _ ?_ (fun hHeld => ?_)
  · ((try dsimp only); exact HS.out _ hk)
  clear hK K2 hHeld
  try simp only [Act.put, List.setIfInBounds_toArray, List.set_cons_zero, List.set_cons_succ]
  refine rh.go_last rfl (by kernel_rfl) (fun K2 hK => ?_)
  go_simp
  refine hK.out _ _ ?_
  refine NoPanic.normal ?_
  clear hK K2
  have HWt : Hid (∀ Y, Below V4.heap.size V4 Y → Below w.heap.size w Y) := Lib.hid (fun Y hY => HWt.out _ (hk.trans (hY.mono hk.size)))
  have HBa := Lib.hid (HBa.out.on hk)
  have HBb := Lib.hid (HBb.out.on hk)
  have HBr := Lib.hid (HBr.out.on hk)
  have HRO := Lib.hid (HRO.out.on hk)
  have HRL := Lib.hid (HRL.out.on hk)
  have HRR := Lib.hid (HRR.out.on hk)
  clear HS HRa HRb hk
  have HRi : Hid (∀ Y, Below V4.heap.size V4 Y → IntsAt Y Y.heap.size Ar R (rtsF 0 R) ∧ IntsAt Y Y.heap.size As Rb (rtsF a.roots Rb)) := Lib.hid (fun Y hY => ⟨row_ints (HQ1.out.on hY) (rts_len _ _), row_ints (HQ2.out.on hY) (rts_len _ _)⟩)
  have HLi : Hid (∀ Y, Below V4.heap.size V4 Y → IntsAt Y Y.heap.size AL (E + n4) lf ∧ IntsAt Y Y.heap.size AR (F + m4) rg) := Lib.hid (fun Y hY => ⟨row_ints (HRL.out.on hY) HSl.out.2.1, row_ints (HRR.out.on hY) HSl.out.2.2⟩)
  have HS : Hid (∀ w', Below V4.heap.size V4 w' → (w'.cell? ⟨w.heap.size, 0, none⟩ = some (.int .i64 a.roots) ∧ w'.cell? ⟨w.heap.size, 1, none⟩ = some (.slice A1 n1 c1) ∧ w'.cell? ⟨w.heap.size, 2, none⟩ = some (.slice A2 n2 c2) ∧ w'.cell? ⟨w.heap.size, 3, none⟩ = some (.int .i64 a.edges) ∧ w'.cell? ⟨w.heap.size, 4, none⟩ = some (.slice A4 n4 c4) ∧ w'.cell? ⟨w.heap.size, 5, none⟩ = some (.slice A5 n5 c5) ∧ w'.cell? ⟨w.heap.size + 1, 0, none⟩ = some (.int .i64 b.roots) ∧ w'.cell? ⟨w.heap.size + 1, 1, none⟩ = some (.slice B1 m1 d1) ∧ w'.cell? ⟨w.heap.size + 1, 2, none⟩ = some (.slice B2 m2 d2) ∧ w'.cell? ⟨w.heap.size + 1, 3, none⟩ = some (.int .i64 b.edges) ∧ w'.cell? ⟨w.heap.size + 1, 4, none⟩ = some (.slice B4 m4 d4) ∧ w'.cell? ⟨w.heap.size + 1, 5, none⟩ = some (.slice B5 m5 d5))) := Lib.hid (fun w' hq => flat12 (HBa.out.on hq).get (HBb.out.on hq).get)
  have hV0 : w.heap.size ≤ V4.heap.size := (HWt.out V4 (Below.refl _ _)).size
  have hk := (Below.refl V4.heap.size V4).drew
  clear HQ1 HQ2 HRL HRR
  go_wp2_with fail
  refine rh.go_begin 37 (fun w' => (w'.cell? ⟨w.heap.size, 0, none⟩ = some (.int .i64 a.roots) ∧ w'.cell? ⟨w.heap.size, 1, none⟩ = some (.slice A1 n1 c1) ∧ w'.cell? ⟨w.heap.size, 2, none⟩ = some (.slice A2 n2 c2) ∧ w'.cell? ⟨w.heap.size, 3, none⟩ = some (.int .i64 a.edges) ∧ w'.cell? ⟨w.heap.size, 4, none⟩ = some (.slice A4 n4 c4) ∧ w'.cell? ⟨w.heap.size, 5, none⟩ = some (.slice A5 n5 c5) ∧ w'.cell? ⟨w.heap.size + 1, 0, none⟩ = some (.int .i64 b.roots) ∧ w'.cell? ⟨w.heap.size + 1, 1, none⟩ = some (.slice B1 m1 d1) ∧ w'.cell? ⟨w.heap.size + 1, 2, none⟩ = some (.slice B2 m2 d2) ∧ w'.cell? ⟨w.heap.size + 1, 3, none⟩ = some (.int .i64 b.edges) ∧ w'.cell? ⟨w.heap.size + 1, 4, none⟩ = some (.slice B4 m4 d4) ∧ w'.cell? ⟨w.heap.size + 1, 5, none⟩ = some (.slice B5 m5 d5))) (by kernel_rfl) ?_ (fun hHeld => ?_)
  · ((try dsimp only); exact HS.out _ (by go_grown))
  refine rh.go_take (i := 0) (v := ?v29) rfl (by kernel_rfl) (fun _ _ _ h => h) (Or.inl ⟨by rfl, ?hy29⟩) (by assumption) ?rest29
  case hy29 => (intro wS hSw; (try dsimp only at hSw); go_simp; try (with_reducible rfl))
  try simp only [Act.put, List.setIfInBounds_toArray, List.set_cons_zero, List.set_cons_succ]
  refine rh.go_take (i := 1) (v := ?v30) rfl (by kernel_rfl) (fun _ _ _ h => h) (Or.inl ⟨by rfl, ?hy30⟩) (by assumption) ?rest30
  case hy30 => (intro wS hSw; (try dsimp only at hSw); go_simp; try (with_reducible rfl))
  try simp only [Act.put, List.setIfInBounds_toArray, List.set_cons_zero, List.set_cons_succ]
  refine rh.go_take (i := 2) (v := ?v31) rfl (by kernel_rfl) (fun _ _ _ h => h) (Or.inl ⟨by rfl, ?hy31⟩) (by assumption) ?rest31
  case hy31 => (intro wS hSw; (try dsimp only at hSw); go_simp; try (with_reducible rfl))
  try simp only [Act.put, List.setIfInBounds_toArray, List.set_cons_zero, List.set_cons_succ]
  refine rh.go_take (i := 3) (v := ?v32) rfl (by kernel_rfl) (fun _ _ _ h => h) (Or.inl ⟨by rfl, ?hy32⟩) (by assumption) ?rest32
  case hy32 => (intro wS hSw; (try dsimp only at hSw); go_simp; try (with_reducible rfl))
  try simp only [Act.put, List.setIfInBounds_toArray, List.set_cons_zero, List.set_cons_succ]
  refine rh.go_take (i := 4) (v := .int .i64 (a.roots + b.roots)) rfl (by kernel_rfl) (fun _ _ _ h => h) (Or.inl ⟨by rfl, ?hyQ4⟩) (by assumption) ?restQ4
  case hyQ4 => (intro wS hSw; (try dsimp only at hSw); go_simp; try rw [hwR])
  try simp only [Act.put, List.setIfInBounds_toArray, List.set_cons_zero, List.set_cons_succ]
  refine rh.go_take (i := 5) (v := ?v33) rfl (by kernel_rfl) (fun _ _ _ h => h) (Or.inl ⟨by rfl, ?hy33⟩) (by assumption) ?rest33
  case hy33 => (intro wS hSw; (try dsimp only at hSw); go_simp; try (with_reducible rfl))
  try simp only [Act.put, List.setIfInBounds_toArray, List.set_cons_zero, List.set_cons_succ]
  refine rh.go_take (i := 6) (v := ?v34) rfl (by kernel_rfl) (fun _ _ _ h => h) (Or.inl ⟨by rfl, ?hy34⟩) (by assumption) ?rest34
  case hy34 => (intro wS hSw; (try dsimp only at hSw); go_simp; try (with_reducible rfl))
  try simp only [Act.put, List.setIfInBounds_toArray, List.set_cons_zero, List.set_cons_succ]
  refine rh.go_take (i := 7) (v := ?v35) rfl (by kernel_rfl) (fun _ _ _ h => h) (Or.inl ⟨by rfl, ?hy35⟩) (by assumption) ?rest35
  case hy35 => (intro wS hSw; (try dsimp only at hSw); go_simp; try (with_reducible rfl))
  try simp only [Act.put, List.setIfInBounds_toArray, List.set_cons_zero, List.set_cons_succ]
  refine rh.go_take (i := 9) (v := ?v36) rfl (by kernel_rfl) (fun _ _ _ h => h) (Or.inl ⟨by rfl, ?hy36⟩) (by assumption) ?rest36
  case hy36 => (intro wS hSw; (try dsimp only at hSw); go_simp; try (with_reducible rfl))
  try simp only [Act.put, List.setIfInBounds_toArray, List.set_cons_zero, List.set_cons_succ]
  refine rh.go_take (i := 10) (v := ?v37) rfl (by kernel_rfl) (fun _ _ _ h => h) (Or.inl ⟨by rfl, ?hy37⟩) (by assumption) ?rest37
  case hy37 => (intro wS hSw; (try dsimp only at hSw); go_simp; try (with_reducible rfl))
  try simp only [Act.put, List.setIfInBounds_toArray, List.set_cons_zero, List.set_cons_succ]
  refine rh.go_take (i := 11) (v := ?v38) rfl (by kernel_rfl) (fun _ _ _ h => h) (Or.inl ⟨by rfl, ?hy38⟩) (by assumption) ?rest38
  case hy38 => (intro wS hSw; (try dsimp only at hSw); go_simp; try (with_reducible rfl))
  try simp only [Act.put, List.setIfInBounds_toArray, List.set_cons_zero, List.set_cons_succ]
  refine rh.go_take (i := 12) (v := ?v39) rfl (by kernel_rfl) (fun _ _ _ h => h) (Or.inl ⟨by rfl, ?hy39⟩) (by assumption) ?rest39
  case hy39 => (intro wS hSw; (try dsimp only at hSw); go_simp; try (with_reducible rfl))
  try simp only [Act.put, List.setIfInBounds_toArray, List.set_cons_zero, List.set_cons_succ]
  refine rh.go_take (i := 13) (v := ?v40) rfl (by kernel_rfl) (fun _ _ _ h => h) (Or.inl ⟨by rfl, ?hy40⟩) (by assumption) ?rest40
  case hy40 => (intro wS hSw; (try dsimp only at hSw); go_simp; try (with_reducible rfl))
  try simp only [Act.put, List.setIfInBounds_toArray, List.set_cons_zero, List.set_cons_succ]
  refine rh.go_take (i := 14) (v := ?v41) rfl (by kernel_rfl) (fun _ _ _ h => h) (Or.inl ⟨by rfl, ?hy41⟩) (by assumption) ?rest41
  case hy41 => (intro wS hSw; (try dsimp only at hSw); go_simp; try (with_reducible rfl))
  try simp only [Act.put, List.setIfInBounds_toArray, List.set_cons_zero, List.set_cons_succ]
  refine rh.go_take (i := 17) (v := ?v42) rfl (by kernel_rfl) (fun _ _ _ h => h) (Or.inl ⟨by rfl, ?hy42⟩) (by assumption) ?rest42
  case hy42 => (intro wS hSw; (try dsimp only at hSw); go_simp; try (with_reducible rfl))
  try simp only [Act.put, List.setIfInBounds_toArray, List.set_cons_zero, List.set_cons_succ]
  refine rh.go_take (i := 18) (v := ?v43) rfl (by kernel_rfl) (fun _ _ _ h => h) (Or.inl ⟨by rfl, ?hy43⟩) (by assumption) ?rest43
  case hy43 => (intro wS hSw; (try dsimp only at hSw); go_simp; try (with_reducible rfl))
  try simp only [Act.put, List.setIfInBounds_toArray, List.set_cons_zero, List.set_cons_succ]
  refine rh.go_take (i := 20) (v := ?v44) rfl (by kernel_rfl) (fun _ _ _ h => h) (Or.inl ⟨by rfl, ?hy44⟩) (by assumption) ?rest44
  case hy44 => (intro wS hSw; (try dsimp only at hSw); go_simp; try (with_reducible rfl))
  try simp only [Act.put, List.setIfInBounds_toArray, List.set_cons_zero, List.set_cons_succ]
  refine rh.go_take (i := 21) (v := ?v45) rfl (by kernel_rfl) (fun _ _ _ h => h) (Or.inl ⟨by rfl, ?hy45⟩) (by assumption) ?rest45
  case hy45 => (intro wS hSw; (try dsimp only at hSw); go_simp; try (with_reducible rfl))
  try simp only [Act.put, List.setIfInBounds_toArray, List.set_cons_zero, List.set_cons_succ]
  refine rh.go_take (i := 22) (v := ?v46) rfl (by kernel_rfl) (fun _ _ _ h => h) (Or.inl ⟨by rfl, ?hy46⟩) (by assumption) ?rest46
  case hy46 => (intro wS hSw; (try dsimp only at hSw); go_simp; try (with_reducible rfl))
  try simp only [Act.put, List.setIfInBounds_toArray, List.set_cons_zero, List.set_cons_succ]
  refine rh.go_take (i := 23) (v := ?v47) rfl (by kernel_rfl) (fun _ _ _ h => h) (Or.inl ⟨by rfl, ?hy47⟩) (by assumption) ?rest47
  case hy47 => (intro wS hSw; (try dsimp only at hSw); go_simp; try (with_reducible rfl))
  try simp only [Act.put, List.setIfInBounds_toArray, List.set_cons_zero, List.set_cons_succ]
  refine rh.go_take (i := 24) (v := ?v48) rfl (by kernel_rfl) (fun _ _ _ h => h) (Or.inl ⟨by rfl, ?hy48⟩) (by assumption) ?rest48
  case hy48 => (intro wS hSw; (try dsimp only at hSw); go_simp; try (with_reducible rfl))
  try simp only [Act.put, List.setIfInBounds_toArray, List.set_cons_zero, List.set_cons_succ]
  refine rh.go_take (i := 27) (v := ?v49) rfl (by kernel_rfl) (fun _ _ _ h => h) (Or.inl ⟨by rfl, ?hy49⟩) (by assumption) ?rest49
  case hy49 => (intro wS hSw; (try dsimp only at hSw); go_simp; try (with_reducible rfl))
  try simp only [Act.put, List.setIfInBounds_toArray, List.set_cons_zero, List.set_cons_succ]
  refine rh.go_take (i := 28) (v := ?v50) rfl (by kernel_rfl) (fun _ _ _ h => h) (Or.inl ⟨by rfl, ?hy50⟩) (by assumption) ?rest50
  case hy50 => (intro wS hSw; (try dsimp only at hSw); go_simp; try (with_reducible rfl))
  try simp only [Act.put, List.setIfInBounds_toArray, List.set_cons_zero, List.set_cons_succ]
  refine rh.go_take (i := 29) (v := ?v51) rfl (by kernel_rfl) (fun _ _ _ h => h) (Or.inl ⟨by rfl, ?hy51⟩) (by assumption) ?rest51
  case hy51 => (intro wS hSw; (try dsimp only at hSw); go_simp; try (with_reducible rfl))
  try simp only [Act.put, List.setIfInBounds_toArray, List.set_cons_zero, List.set_cons_succ]
  refine rh.go_take (i := 30) (v := ?v52) rfl (by kernel_rfl) (fun _ _ _ h => h) (Or.inl ⟨by rfl, ?hy52⟩) (by assumption) ?rest52
  case hy52 => (intro wS hSw; (try dsimp only at hSw); go_simp; try (with_reducible rfl))
  try simp only [Act.put, List.setIfInBounds_toArray, List.set_cons_zero, List.set_cons_succ]
  refine rh.go_take (i := 32) (v := ?v53) rfl (by kernel_rfl) (fun _ _ _ h => h) (Or.inl ⟨by rfl, ?hy53⟩) (by assumption) ?rest53
  case hy53 => (intro wS hSw; (try dsimp only at hSw); go_simp; try (with_reducible rfl))
  try simp only [Act.put, List.setIfInBounds_toArray, List.set_cons_zero, List.set_cons_succ]
  refine rh.go_take (i := 33) (v := ?v54) rfl (by kernel_rfl) (fun _ _ _ h => h) (Or.inl ⟨by rfl, ?hy54⟩) (by assumption) ?rest54
  case hy54 => (intro wS hSw; (try dsimp only at hSw); go_simp; try (with_reducible rfl))
  try simp only [Act.put, List.setIfInBounds_toArray, List.set_cons_zero, List.set_cons_succ]
  refine rh.go_next (i := 8) rfl (by kernel_rfl) (fun K2 hK => ?_)
  go_simp
  go_at_call 197
  refine (HN1.out Ar cr AL cL _ (HWt.out _ hk) (HRi.out _ hk).1 (HLi.out _ hk).1).mono ?_
  rintro e w5 ⟨v5, xs5, LA, LC, rfl, hn5, hb⟩
  have HN5 := Lib.hid (hn5.low (lo' := V4.heap.size) hk.size)
  have hk := hk.trans (hb.mono hk.size)
  have hs5 := hk.size
  clear hb hn5 HN1
  go_wp2_with fail
  refine hK.out _ _ ?_ (fun hHeld => ?_)
  · ((try dsimp only); exact HS.out _ hk)
  clear hK K2 hHeld
  try simp only [Act.put, List.setIfInBounds_toArray, List.set_cons_zero, List.set_cons_succ]
  refine rh.go_next (i := 15) rfl (by kernel_rfl) (fun K2 hK => ?_)
  go_simp
  go_at_call 197
  refine (HN2.out As cs' AR cR _ (HWt.out _ hk) (HRi.out _ hk).2 (HLi.out _ hk).2).mono ?_
  rintro e w6 ⟨v6, xs6, LB, LD, rfl, hn6, hb⟩
  obtain ⟨A6, c6, rfl, -⟩ := hn6.src
  have HN6 := Lib.hid (HN5.out.on hb)
  have HM6 := Lib.hid hn6
  have hs56 := hb.size
  have hk := hk.trans (hb.mono hk.size)
  clear hb hn6 HN2 HN5
  go_wp2_with fail
  refine hK.out _ _ ?_ (fun hHeld => ?_)
  · ((try dsimp only); exact HS.out _ hk)
  clear hK K2 hHeld
  try simp only [Act.put, List.setIfInBounds_toArray, List.set_cons_zero, List.set_cons_succ]
  refine rh.go_next (i := 16) rfl (by kernel_rfl) (fun K2 hK => ?_)
  have hCe := HM6.out.cells
  refine step_append_src rfl _ _ 33 rfl V4.heap.size 137 i2 (.agg #[.int .i64 0, .int .i64 0, .slice none 0 0]) 3 40 Tryz.underlying33 HIn.out.1 HIn.out.2.1 HIn.out.2.2.1 HIn.out.2.2.2 rfl (by decide) _ _ _ (by first | rfl | simp [Act.eval, Act.put]) HN6.out.own A6 m1 c6 xs6 (by first | rfl | simp [Act.eval, Act.put]) hCe.1 hCe.2.1 hCe.2.2 (HM6.out.one HLe.out.2.1) e7 e8 hk.size ?_
  intro v7 w7 ho7 hg7
  obtain ⟨A7, c7, rfl, hn7⟩ := ndo_join HN6.out HM6.out HLe.out.1 HLe.out.2.1 hs5 hs56 hg7.size ho7 hg7
  have HN7 := Lib.hid hn7
  have hk := hk.grown hg7 hk.size (fun j hj => (HN6.out.own.lt j hj).1)
  have hs7 := hk.size
  clear ho7 hg7 hCe hn7 HN6 HM6 hs5 hs56
  (try go_simp)
  refine hK.out _ _ ?_ (fun hHeld => ?_)
  · ((try dsimp only); exact HS.out _ hk)
  clear hK K2 hHeld
  try simp only [Act.put, List.setIfInBounds_toArray, List.set_cons_zero, List.set_cons_succ]
  refine rh.go_next (i := 19) rfl (by kernel_rfl) (fun K2 hK => ?_)
  go_simp
  go_at_call 198
  refine (HSa.out Ar cr _ (HWt.out _ hk) (HRi.out _ hk).1).mono ?_
  rintro e w8 ⟨v8, rfl, ho8, hb⟩
  have HO8 := Lib.hid ho8
  have hj := hb
  have hk := hk.trans (hb.mono hk.size)
  clear hb ho8 HSa
  go_wp2_with fail
  refine hK.out _ _ ?_ (fun hHeld => ?_)
  · ((try dsimp only); exact HS.out _ hk)
  clear hK K2 hHeld
  try simp only [Act.put, List.setIfInBounds_toArray, List.set_cons_zero, List.set_cons_succ]
  refine rh.go_next (i := 25) rfl (by kernel_rfl) (fun K2 hK => ?_)
  go_simp
  go_at_call 198
  refine (HSb.out As cs' _ (HWt.out _ hk) (HRi.out _ hk).2).mono ?_
  rintro e w9 ⟨A9, c9, rfl, hr9, hb⟩
  have HO8 := Lib.hid (owns_on HO8.out hb)
  have HR9 := Lib.hid hr9
  have hj := hj.trans (hb.mono hj.size)
  have hk := hk.trans (hb.mono hk.size)
  clear hb hr9 HSb
  go_wp2_with fail
  refine hK.out _ _ ?_ (fun hHeld => ?_)
  · ((try dsimp only); exact HS.out _ hk)
  clear hK K2 hHeld
  try simp only [Act.put, List.setIfInBounds_toArray, List.set_cons_zero, List.set_cons_succ]
  refine rh.go_next (i := 26) rfl (by kernel_rfl) (fun K2 hK => ?_)
  refine step_append_src rfl _ _ 24 rfl w7.heap.size 3 i1 (.int .i64 0) 1 8 Tryz.underlying24 HIi.out.1 HIi.out.2.1 HIi.out.2.2.1 HIi.out.2.2.2 rfl (by decide) _ _ _ (by first | rfl | simp [Act.eval, Act.put]) HO8.out A9 m2 c9 ((b.sites.map (pcF (rtsF a.roots Rb) n1)).map (Value.int .i64)) (by first | rfl | simp [Act.eval, Act.put]) (row_nil HR9.out) (by rw [List.length_map, HLe.out.2.2.1, Nat.mul_one]) (sr_src (row_ints HR9.out HLe.out.2.2.1)) (HI1.out _) f7 f8 hj.size ?_
  intro v10 w10 ho10 hg10
  have hk := hk.grown hg10 hk.size (fun j hj => Nat.le_trans hs7 (HO8.out.lt j hj).1)
  have hj := hj.grown hg10 hj.size (fun j hj => (HO8.out.lt j hj).1)
  obtain ⟨A10, c10, rfl, hr10⟩ := lks_own ho10 HSl.out.1 HLe.out.2.2.1
  have HR10 := Lib.hid hr10
  have HN10 := Lib.hid (HN7.out.on hj)
  have hs10 := hj.size
  clear ho10 hg10 hr10 HO8 HR9 HN7 hj
  (try go_simp)
  refine hK.out _ _ ?_ (fun hHeld => ?_)
  · ((try dsimp only); exact HS.out _ hk)
  clear hK K2 hHeld
  try simp only [Act.put, List.setIfInBounds_toArray, List.set_cons_zero, List.set_cons_succ]
  refine rh.go_next (i := 31) rfl (by kernel_rfl) (fun K2 hK => ?_)
  go_simp
  go_at_call 200
  refine (HWa.out AL cL _ (HWt.out _ hk) (HLi.out _ hk).1).mono ?_
  rintro e w11 ⟨A11, c11, rfl, hr11, hb⟩
  have HR11 := Lib.hid hr11
  have hj := hb
  have hk := hk.trans (hb.mono hk.size)
  clear hb hr11 HWa
  go_wp2_with fail
  refine hK.out _ _ ?_ (fun hHeld => ?_)
  · ((try dsimp only); exact HS.out _ hk)
  clear hK K2 hHeld
  try simp only [Act.put, List.setIfInBounds_toArray, List.set_cons_zero, List.set_cons_succ]
  refine rh.go_next (i := 34) rfl (by kernel_rfl) (fun K2 hK => ?_)
  go_simp
  go_at_call 200
  refine (HWb.out AR cR _ (HWt.out _ hk) (HLi.out _ hk).2).mono ?_
  rintro e w12 ⟨A12, c12, rfl, hr12, hb⟩
  have HR11 := Lib.hid (HR11.out.on hb)
  have HR12 := Lib.hid hr12
  have hj := hj.trans (hb.mono hj.size)
  have hk := hk.trans (hb.mono hk.size)
  clear hb hr12 HWb
  go_wp2_with fail
  refine hK.out _ _ ?_ (fun hHeld => ?_)
  · ((try dsimp only); exact HS.out _ hk)
  clear hK K2 hHeld
  try simp only [Act.put, List.setIfInBounds_toArray, List.set_cons_zero, List.set_cons_succ]
  refine rh.go_next (i := 35) rfl (by kernel_rfl) (fun K2 hK => ?_)
  go_simp
  go_at_call 199
  refine (HIw.out A11 c11 A12 c12 _ (row_wrs HR11.out HLe.out.2.2.2.1) (nil0 HR11.out) (row_wrs HR12.out HLe.out.2.2.2.2)).mono ?_
  rintro e w13 ⟨A13, c13, rfl, hr13, hb⟩
  have hs12 := hk.size
  have hj := hj.trans (hb.mono hj.size)
  have hk := hk.trans (hb.mono hk.size)
  have hR := big_parts (R := a.roots + b.roots) (E := a.edges + b.edges) ((HN10.out.on hj).wide hV0 (Nat.le_refl _)) (by rw [List.length_append, HLe.out.1, HLe.out.2.1]) (rowR_here (HR10.out.on hj)) (by rw [List.length_append, HSl.out.1, HLe.out.2.2.1]) (rowR_here (HRO.out.on hk)) HOl.out (hr13.wide (lo' := w.heap.size) (Nat.le_trans hV0 hs12) (Nat.le_refl _)) HIl.out (Nat.le_trans hV0 hs7) (Nat.le_trans hs10 hj.size)
  rw [HUd.out] at hR
  have HRf := Lib.hid hR
  have HBf := Lib.hid (HWt.out _ hk)
  have HBx := Lib.hid (HBr.out.on hk)
  clear hR hr13 hb hj HR10 HR11 HR12 HN10 HRO HRi HLi
  go_wp2_with fail
  refine hK.out _ _ ?_ (fun hHeld => ?_)
  · ((try dsimp only); exact HS.out _ hk)
  clear hK K2
  try simp only [Act.put, List.setIfInBounds_toArray, List.set_cons_zero, List.set_cons_succ]
  refine rh.go_take (i := 36) (v := ?v55) rfl (by kernel_rfl) (fun _ _ _ h => h) (Or.inl ⟨by rfl, ?hy55⟩) (by assumption) ?rest55
  case hy55 => (intro wS hSw; (try dsimp only at hSw); go_simp; try (with_reducible rfl))
  try simp only [Act.put, List.setIfInBounds_toArray, List.set_cons_zero, List.set_cons_succ]
  obtain ⟨z0, z1, z2, z3, z4, z5⟩ := HBx.out.get
  have f0 := World.rowIs.frozen HBx.out 0
  have f1 := World.rowIs.frozen HBx.out 1
  have f2 := World.rowIs.frozen HBx.out 2
  have f3 := World.rowIs.frozen HBx.out 3
  have f4 := World.rowIs.frozen HBx.out 4
  have f5 := World.rowIs.frozen HBx.out 5
  refine rh.go_last rfl (by kernel_rfl) (fun K2 hK => ?_)
  go_simp
  refine hK.out _ _ ?_
  refine NoPanic.normal ?_
  clear hK K2
  go_wp2_with fail
  have hbig := (sets6_big HBx.out HRf.out (.int .i64 (a.roots + b.roots)) (.slice A7 (n1 + m1) c7) (.slice A10 (n2 + m2) c10) (.int .i64 (a.edges + b.edges)) (.slice AO no cO) (.slice A13 (n5 + m5) c13)).here
  have hbel := sets6_below HBf.out (show w.heap.size ≤ w.heap.size + 2 by omega) (.int .i64 (a.roots + b.roots)) (.slice A7 (n1 + m1) c7) (.slice A10 (n2 + m2) c10) (.int .i64 (a.edges + b.edges)) (.slice AO no cO) (.slice A13 (n5 + m5) c13)
  unfold sets6 at hbig hbel
  exact bodyPost_ret (v := .agg #[.int .i64 (a.roots + b.roots), .slice A7 (n1 + m1) c7, .slice A10 (n2 + m2) c10, .int .i64 (a.edges + b.edges), .slice AO no cO, .slice A13 (n5 + m5) c13]) (by simp [results, Tryz.results116, go_sem, z0, z1, z2, z3, z4, z5]) rfl ⟨_, rfl, hbig, hbel⟩
end Go.Proofs.YtfjgapkjpmkplaaGreat.sv
