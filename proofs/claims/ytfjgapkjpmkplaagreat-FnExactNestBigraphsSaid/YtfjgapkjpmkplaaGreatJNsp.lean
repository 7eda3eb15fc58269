/- Nsp. -/
import Derived.Test.YtfjgapkjpmkplaaGreatBa
import Derived.Test.YtfjgapkjpmkplaaGreatBb
import Derived.Test.YtfjgapkjpmkplaaGreatBc
import Derived.Test.YtfjgapkjpmkplaaGreatBd
import Derived.Test.YtfjgapkjpmkplaaGreatBe
import Derived.Test.YtfjgapkjpmkplaaGreatBg
import Derived.Test.YtfjgapkjpmkplaaGreatKa0
import Derived.Test.YtfjgapkjpmkplaaGreatKb0
import Derived.Test.YtfjgapkjpmkplaaGreatJUs
import Derived.Test.YtfjgapkjpmkplaaGreatJSo
import Derived.Test.YtfjgapkjpmkplaaGreatKc0
import Derived.Test.YtfjgapkjpmkplaaGreatRows
import Derived.WalkKit
import Derived.WalkSpells
import Derived.WalkLawsBesides
import Derived.ProofKit
import Derived.OpenShut
import Derived.ShutString
import Derived.Deep.OwnRows
import Derived.Deep.Draws
import Derived.SliceStrings
import Derived.ChangeOld
import Derived.Below
import Derived.Lib.Hide
import Derived.Lib.ItoaNum
import Derived.Deep.QuietTactic
import Derived.BigQuiet
import Derived.Outline
import Derived.StillTailTactics
import Derived.Deep.RegionWith
import Derived.Deep.RegionHeld3
import Derived.Deep.Slices
import Derived.Deep.Fields
import Derived.ChangeSame
import Derived.Lib.SmallJoins
import Derived.Maps.OwnOps
import Derived.Maps.OwnIn
import Derived.Maps.Views
import Derived.Maps.AppendAt
import Derived.RangeFuncBox
import Derived.RangeFuncLeaves
import Derived.Shelf.Abstract
import Derived.OwnWalkIn
import Derived.TacticsInMore
import Derived.LoopNIn
import Derived.LoopIn
import Derived.RangeFuncWrites
import Derived.RangeFuncNested
import Derived.JoinedOf
import Derived.Deep.AppendLies
import Derived.Deep.RegionLaw
import Derived.Laws.AppendOwnNone
import Derived.Deep.Cut
import Derived.Deep.CutRange
import Derived.Lib.SliceRun
import Derived.Lib.AppendZerosOnto
import Derived.OrdersHeld
import Derived.StillTail
import Derived.Lib.Walk
import Derived.Deep.LoopGhost
import Derived.Handy
import Derived.Lib.LazyBuf
import Derived.Sort.OwnSorted
import Derived.Lib.SlicesCompact
import Derived.Sort.KeysCollected
import Derived.Test.YtfjgapkjpmkplaaGreatSfl
import Derived.Shelf.SlSortCmp.NoneTotal
import Derived.WalkMore
import Derived.ScopeJumps
import Derived.Test.YtfjgapkjpmkplaaGreatSrt
set_option linter.unusedSimpArgs false
set_option linter.unusedVariables false
namespace Go.Proofs.YtfjgapkjpmkplaaGreat.nsp
open kit bg sg opn strs only hb sig isig un over gn nm inn ht gd im pt marks eqs hc hi hw hn rs br bm bw cf lf ib lw cl rt ix tg pl mb sb wb ek rn tp wk rl ed mrp mrs nk lep psp rk cc cg uw nj co tm ft gv us nd sf sd nsx
open us (und_any)
open su (sortU sortU_len)
open so (l2Sorted_any)
open Go.RowKit
set_option linter.unusedVariables false
set_option linter.unusedSimpArgs false
theorem row_strs {w : World} {lo hi n c : Nat} {A : Option Addr} {ss : List ByteArray} (h : RowR w lo hi 9 1 A n c (at_ ss)) (hn : ss.length = n) : SR w w.heap.size A n (ss.map Value.string) := by
  subst hn
  exact strsR_at (rowR_here h)
theorem strs_join {w : World} {lo n m : Nat} {v : Value} {xs ys : List ByteArray} (h : w.ownsRow lo 9 1 v (n + m) (xs.map Value.string ++ ys.map Value.string)) (hn : xs.length = n) (hm : ys.length = m) : ∃ A c, v = .slice A (n + m) c ∧ SR w w.heap.size A (n + m) ((xs ++ ys).map Value.string) := by
  rw [← List.map_append] at h
  obtain ⟨A, c, e, hr⟩ := strs_owned h
  rw [List.length_append, hn, hm] at e hr
  exact ⟨A, c, e, row_strs hr (by rw [List.length_append, hn, hm])⟩
theorem ints_own {w : World} {lo n : Nat} {v : Value} {zs : List Int} (h : w.ownsRow lo 3 1 v n (zs.map (Value.int .i64))) (hn : zs.length = n) : ∃ A c, v = .slice A n c ∧ RowR w lo w.heap.size 3 1 A n c (iat zs) := by
  subst hn
  exact ints_owned h
theorem row_nil {w : World} {lo hi n c sz : Nat} {t : TypeId} {A : Option Addr} {M : Nat → Value} (h : RowR w lo hi t sz A n c M) : A = none → n = 0 ∧ c = 0 := fun e => by
  rcases h with ⟨-, h, h2⟩ | ⟨g, f, h, -⟩
  · exact ⟨h2, h⟩
  · rw [e] at h
    cases h
theorem row_ints' {w : World} {lo hi n c : Nat} {A : Option Addr} {zs : List Int} (h : RowR w lo hi 3 1 A n c (iat zs)) (hn : zs.length = n) : IntsAt w w.heap.size A n zs := by
  subst hn
  exact intsR_at (rowR_here h)
set_option maxRecDepth 20000 in
set_option maxHeartbeats 12800000 in
theorem nst_any (cs : List Ctl) (va : Value) (a : Big) (vb : Value) (b : Big) (w : World) (hva : BigAt w w.heap.size va a) (hSa : BigS a) (hNa : NilV va) (hga : bigB cs a = true) (hvb : BigAt w w.heap.size vb b) (hSb : BigS b) (hNb : NilV vb) (hgb : bigB cs b = true) (hsr : (a.sites.length : Int) = b.roots) :
    Calls Tryz.prog 123 #[va, vb] w fun e w' => ∃ v, e = .returned v ∧ BigR w' w.heap.size w'.heap.size v (nsB a b) ∧ Below w.heap.size w w' := by
  obtain ⟨A1, n1, c1, A2, n2, c2, A4, n4, c4, A5, n5, c5, rfl, h1, h2, h4, h5⟩ := hva
  obtain ⟨B1, m1, d1, B2, m2, d2, B4, m4, d4, B5, m5, d5, rfl, k1, k2, k4, k5⟩ := hvb
  have hb0 := (Below.refl w.heap.size w).alloc (Nat.le_refl _) (.cells #[.int .i64 a.roots, .slice A1 n1 c1, .slice A2 n2 c2, .int .i64 a.edges, .slice A4 n4 c4, .slice A5 n5 c5] 36)
  have HBa0 : BoxAt (w.alloc (.cells #[.int .i64 a.roots, .slice A1 n1 c1, .slice A2 n2 c2, .int .i64 a.edges, .slice A4 n4 c4, .slice A5 n5 c5] 36)) w.heap.size 36 (.int .i64 a.roots) (.slice A1 n1 c1) (.slice A2 n2 c2) (.int .i64 a.edges) (.slice A4 n4 c4) (.slice A5 n5 c5) := six_new w _ _ _ _ _ _ _
  obtain ⟨U, hU⟩ : ∃ U, w.alloc (.cells #[.int .i64 a.roots, .slice A1 n1 c1, .slice A2 n2 c2, .int .i64 a.edges, .slice A4 n4 c4, .slice A5 n5 c5] 36) = U := ⟨_, rfl⟩
  have hUz : U.heap.size = w.heap.size + 1 := by rw [← hU]; simp
  rw [hU] at HBa0 hb0
  have hb1 := (Below.refl U.heap.size U).alloc (Nat.le_refl _) (.cells #[.int .i64 b.roots, .slice B1 m1 d1, .slice B2 m2 d2, .int .i64 b.edges, .slice B4 m4 d4, .slice B5 m5 d5] 36)
  have HBb0 : BoxAt (U.alloc (.cells #[.int .i64 b.roots, .slice B1 m1 d1, .slice B2 m2 d2, .int .i64 b.edges, .slice B4 m4 d4, .slice B5 m5 d5] 36)) U.heap.size 36 (.int .i64 b.roots) (.slice B1 m1 d1) (.slice B2 m2 d2) (.int .i64 b.edges) (.slice B4 m4 d4) (.slice B5 m5 d5) := six_new U _ _ _ _ _ _ _
  obtain ⟨W, hW⟩ : ∃ W, U.alloc (.cells #[.int .i64 b.roots, .slice B1 m1 d1, .slice B2 m2 d2, .int .i64 b.edges, .slice B4 m4 d4, .slice B5 m5 d5] 36) = W := ⟨_, rfl⟩
  have hWz : W.heap.size = w.heap.size + 2 := by rw [← hW]; simp; omega
  rw [hW] at HBb0 hb1
  rw [hUz] at HBb0
  have hb2 := (Below.refl W.heap.size W).alloc (Nat.le_refl _) (.cells #[.int .i64 0, .slice none 0 0, .slice none 0 0, .int .i64 0, .slice none 0 0, .slice none 0 0] 36)
  have HBr0 : BoxAt (W.alloc (.cells #[.int .i64 0, .slice none 0 0, .slice none 0 0, .int .i64 0, .slice none 0 0, .slice none 0 0] 36)) W.heap.size 36 (.int .i64 0) (.slice none 0 0) (.slice none 0 0) (.int .i64 0) (.slice none 0 0) (.slice none 0 0) := six_new W _ _ _ _ _ _ _
  obtain ⟨X, hX⟩ : ∃ X, W.alloc (.cells #[.int .i64 0, .slice none 0 0, .slice none 0 0, .int .i64 0, .slice none 0 0, .slice none 0 0] 36) = X := ⟨_, rfl⟩
  have hXz : X.heap.size = w.heap.size + 3 := by rw [← hX]; simp; omega
  rw [hX] at HBr0 hb2
  rw [hWz] at HBr0
  have HUq := Lib.hid hU
  have HWq := Lib.hid hW
  have HXq := Lib.hid hX
  have HB0 := Lib.hid (hb0.trans ((hb1.trans (hb2.mono hb1.size)).mono hb0.size))
  have HBa := Lib.hid ((HBa0.on hb1).on hb2)
  have HBb := Lib.hid (HBb0.on hb2)
  have HBr := Lib.hid HBr0
  have HXz := Lib.hid hXz
  have hVa := Lib.hid (fun (Y : World) (hY : Below w.heap.size w Y) => (BigAt.wide (BigAt.below ⟨_, _, _, _, _, _, _, _, _, _, _, _, rfl, h1, h2, h4, h5⟩ hY) hY.size : BigAt Y Y.heap.size (.agg #[.int .i64 a.roots, .slice A1 n1 c1, .slice A2 n2 c2, .int .i64 a.edges, .slice A4 n4 c4, .slice A5 n5 c5]) a))
  have hVb := Lib.hid (fun (Y : World) (hY : Below w.heap.size w Y) => (BigAt.wide (BigAt.below ⟨_, _, _, _, _, _, _, _, _, _, _, _, rfl, k1, k2, k4, k5⟩ hY) hY.size : BigAt Y Y.heap.size (.agg #[.int .i64 b.roots, .slice B1 m1 d1, .slice B2 m2 d2, .int .i64 b.edges, .slice B4 m4 d4, .slice B5 m5 d5]) b))
  clear hU hW hX hb0 hb1 hb2 HBa0 HBb0 HBr0 hUz hWz hXz
  have hya := sizes_of (big_of hga).2.1
  have hyb := sizes_of (big_of hgb).2.1
  have hnilA := hNa.get
  have hnilB := hNb.get
  have l4 : a.outer.length = n4 := h4.strlen
  have q4 : b.outer.length = m4 := k4.strlen
  have hol : (nsO a b).length ≤ 32 := by
    have := sortU_len (a.outer ++ b.outer)
    rw [List.length_append] at this
    unfold nsO
    omega
  have HSo := Lib.hid (fun (As : Option Addr) (cc : Nat) (Y : World) (hy : SR Y Y.heap.size As (n4 + m4) ((a.outer ++ b.outer).map Value.string)) => (show Calls Tryz.prog 120 #[.slice As (n4 + m4) cc] Y fun e w' => ∃ A' c', e = .returned (.slice A' (nsO a b).length c') ∧ RowR w' Y.heap.size w'.heap.size 9 1 A' (nsO a b).length c' (at_ (nsO a b)) ∧ Below Y.heap.size Y w' from l2Sorted_any As (n4 + m4) cc (a.outer ++ b.outer) Y hy (by omega)))
  have HEq : Hid (∀ ou, nsO a b = ou → udB a b ou (seqF 0 a.edges.toNat ++ nmdL (a.edges + b.edges) ou a.outer) (seqF a.edges b.edges.toNat ++ nmdL (a.edges + b.edges) ou b.outer) = nsB a b) := Lib.hid (fun ou e => by subst e; rfl)
  obtain ⟨ou, hou⟩ : ∃ ou, nsO a b = ou := ⟨_, rfl⟩
  have HEq := Lib.hid (HEq.out ou hou)
  rw [hou] at HSo hol
  obtain ⟨no, hno⟩ : ∃ no, ou.length = no := ⟨_, rfl⟩
  rw [hno] at HSo hol
  have HOl := Lib.hid hno
  have HNa := Lib.hid (fun (AO : Option Addr) (cO : Nat) (Y : World) (hY : Below w.heap.size w Y) (hO : SR Y Y.heap.size AO no (ou.map Value.string)) => (nmd_any A4 AO n4 c4 no cO a.outer ou (a.edges + b.edges) Y ((h4.below hY).wide hY.size) hO (by omega) (by omega) (by omega)).mono (R' := fun e w' => ∃ v, e = .returned v ∧ w'.ownsRow Y.heap.size 3 1 v n4 ((nmdL (a.edges + b.edges) ou a.outer).map (Value.int .i64)) ∧ Below Y.heap.size Y w') (fun e w' h => by
    obtain ⟨v, h1, h2, -, h3⟩ := h
    exact ⟨v, h1, h2, h3⟩))
  have HNb := Lib.hid (fun (AO : Option Addr) (cO : Nat) (Y : World) (hY : Below w.heap.size w Y) (hO : SR Y Y.heap.size AO no (ou.map Value.string)) => (nmd_any B4 AO m4 d4 no cO b.outer ou (a.edges + b.edges) Y ((k4.below hY).wide hY.size) hO (by omega) (by omega) (by omega)).mono (R' := fun e w' => ∃ v, e = .returned v ∧ w'.ownsRow Y.heap.size 3 1 v m4 ((nmdL (a.edges + b.edges) ou b.outer).map (Value.int .i64)) ∧ Below Y.heap.size Y w') (fun e w' h => by
    obtain ⟨v, h1, h2, -, h3⟩ := h
    exact ⟨v, h1, h2, h3⟩))
  have HLna : Hid ((nmdL (a.edges + b.edges) ou a.outer).length = n4) := Lib.hid (by rw [nmd_len]; exact l4)
  have HLnb : Hid ((nmdL (a.edges + b.edges) ou b.outer).length = m4) := Lib.hid (by rw [nmd_len]; exact q4)
  have HUn := Lib.hid (fun (AO : Option Addr) (cO : Nat) (A7 : Option Addr) (c7 : Nat) (A8 : Option Addr) (c8 : Nat) (Y : World) (hY : Below w.heap.size w Y) (hO : SR Y Y.heap.size AO no (ou.map Value.string)) (hO0 : AO = none → cO = 0) (h7 : IntsAt Y Y.heap.size A7 n4 (nmdL (a.edges + b.edges) ou a.outer)) (h70 : A7 = none → c7 = 0) (h8 : IntsAt Y Y.heap.size A8 m4 (nmdL (a.edges + b.edges) ou b.outer)) (h80 : A8 = none → c8 = 0) =>
    und_any cs (.agg #[.int .i64 a.roots, .slice A1 n1 c1, .slice A2 n2 c2, .int .i64 a.edges, .slice A4 n4 c4, .slice A5 n5 c5]) a (.agg #[.int .i64 b.roots, .slice B1 m1 d1, .slice B2 m2 d2, .int .i64 b.edges, .slice B4 m4 d4, .slice B5 m5 d5]) b AO no cO ou A7 n4 c7 (nmdL (a.edges + b.edges) ou a.outer) A8 m4 c8 (nmdL (a.edges + b.edges) ou b.outer) Y (hVa.out Y hY) hSa hNa hga (hVb.out Y hY) hSb hNb hgb hO (by omega) hO0 h7 l4.symm h70 h8 q4.symm h80 hsr)
  rw [HEq.out] at HUn
  obtain ⟨Mb, hMb⟩ : ∃ Mb, nsB a b = Mb := ⟨_, rfl⟩
  rw [hMb] at HUn ⊢
  have HO1 : Hid (∀ ss : List ByteArray, ∀ u ∈ ss.map Value.string, u.oneCell' = true) := Lib.hid (fun ss u hu => by obtain ⟨s, -, rfl⟩ := List.mem_map.1 hu; rfl)
  have HOa : Hid ((a.outer.map Value.string).length = n4 * 1 ∧ (b.outer.map Value.string).length = m4 * 1) := Lib.hid ⟨by rw [List.length_map, Nat.mul_one]; exact l4, by rw [List.length_map, Nat.mul_one]; exact q4⟩
  have HOs := Lib.hid (And.intro l4 q4)
  have HZ4 := Lib.hid (And.intro (fun e : A4 = none => And.intro (sr_zero h4 e) (hnilA.2.2.1 e)) (fun e : B4 = none => And.intro (sr_zero k4 e) (hnilB.2.2.1 e)))
  have H4 := Lib.hid h4
  have K4 := Lib.hid k4
  have e1 : 0 + n4 ≤ maxLen := by unfold maxLen; omega
  have e2 : (0 + n4) * 16 ≤ 140737488355328 := by omega
  have e3 : n4 + m4 ≤ maxLen := by unfold maxLen; omega
  have e4 : (n4 + m4) * 16 ≤ 140737488355328 := by omega
  have hwE : IntKind.i64.wrap (a.edges + b.edges) = a.edges + b.edges := IntWalk.i64_in _ (by omega)
  obtain ⟨i0, hi, hz0, hz1, hz2⟩ := info_parts str_info
  have HIs := Lib.hid (And.intro hi (And.intro hz0 (And.intro hz1 hz2)))
  clear hi hz0 hz1 hz2 hya hyb hnilA hnilB l4 q4 hou hno hol hSa hNa hga hSb hNb hgb h1 h2 h4 h5 k1 k2 k4 k5 hVa hVb hMb hsr HEq
  have HWt : Hid (∀ Y, Below X.heap.size X Y → Below w.heap.size w Y) := Lib.hid (fun Y hY => HB0.out.trans (hY.mono HB0.out.size))
  have HS : Hid (∀ w', Below X.heap.size X w' → (w'.cell? ⟨w.heap.size, 3, none⟩ = some (.int .i64 a.edges) ∧ w'.cell? ⟨w.heap.size, 4, none⟩ = some (.slice A4 n4 c4) ∧ w'.cell? ⟨w.heap.size + 1, 3, none⟩ = some (.int .i64 b.edges) ∧ w'.cell? ⟨w.heap.size + 1, 4, none⟩ = some (.slice B4 m4 d4))) := Lib.hid (fun w' hq => ⟨(HBa.out.on hq).get.2.2.2.1, (HBa.out.on hq).get.2.2.2.2.1, (HBb.out.on hq).get.2.2.2.1, (HBb.out.on hq).get.2.2.2.2.1⟩)
  have hX0 : w.heap.size ≤ X.heap.size := HB0.out.size
  have hkA := ((Below.refl X.heap.size X).alloc (Nat.le_refl _) (.cells #[] 9)).drew
  have hzA : (X.alloc (.cells #[] 9)).drew.heap[X.heap.size]? = some (.cells #[] 9) := World.alloc_heap_new X (.cells #[] 9)
  obtain ⟨x0, x1, x2, x3, x4, x5⟩ := HBa.out.get
  obtain ⟨y0, y1, y2, y3, y4, y5⟩ := HBb.out.get
  go_enter Tryz.func123, Tryz.ntmps123
  go_wp2_with fail
  rw [HUq.out, HWq.out, HXq.out]
  go_wp2_with fail
  clear x0 x1 x2 x3 x4 x5 y0 y1 y2 y3 y4 y5
  refine rh.go_begin 14 (fun w' => (w'.cell? ⟨w.heap.size, 3, none⟩ = some (.int .i64 a.edges) ∧ w'.cell? ⟨w.heap.size, 4, none⟩ = some (.slice A4 n4 c4) ∧ w'.cell? ⟨w.heap.size + 1, 3, none⟩ = some (.int .i64 b.edges) ∧ w'.cell? ⟨w.heap.size + 1, 4, none⟩ = some (.slice B4 m4 d4))) (by kernel_rfl) ?_ (fun hHeld => ?_)
  · ((try dsimp only); exact HS.out _ (by go_grown))
  refine rh.go_take (i := 1) (v := ?v1) rfl (by kernel_rfl) (fun _ _ _ h => h) (Or.inl ⟨by rfl, ?hy1⟩) (by assumption) ?rest1
  case hy1 => (intro wS hSw; (try dsimp only at hSw); go_simp; try (with_reducible rfl))
  try simp only [Act.put, List.setIfInBounds_toArray, List.set_cons_zero, List.set_cons_succ]
  refine rh.go_take (i := 2) (v := ?v2) rfl (by kernel_rfl) (fun _ _ _ h => h) (Or.inl ⟨by rfl, ?hy2⟩) (by assumption) ?rest2
  case hy2 => (intro wS hSw; (try dsimp only at hSw); go_simp; try (with_reducible rfl))
  try simp only [Act.put, List.setIfInBounds_toArray, List.set_cons_zero, List.set_cons_succ]
  refine rh.go_take (i := 4) (v := ?v3) rfl (by kernel_rfl) (fun _ _ _ h => h) (Or.inl ⟨by rfl, ?hy3⟩) (by assumption) ?rest3
  case hy3 => (intro wS hSw; (try dsimp only at hSw); go_simp; try (with_reducible rfl))
  try simp only [Act.put, List.setIfInBounds_toArray, List.set_cons_zero, List.set_cons_succ]
  refine rh.go_take (i := 5) (v := ?v4) rfl (by kernel_rfl) (fun _ _ _ h => h) (Or.inl ⟨by rfl, ?hy4⟩) (by assumption) ?rest4
  case hy4 => (intro wS hSw; (try dsimp only at hSw); go_simp; try (with_reducible rfl))
  try simp only [Act.put, List.setIfInBounds_toArray, List.set_cons_zero, List.set_cons_succ]
  refine rh.go_take (i := 8) (v := ?v5) rfl (by kernel_rfl) (fun _ _ _ h => h) (Or.inl ⟨by rfl, ?hy5⟩) (by assumption) ?rest5
  case hy5 => (intro wS hSw; (try dsimp only at hSw); go_simp; try (with_reducible rfl))
  try simp only [Act.put, List.setIfInBounds_toArray, List.set_cons_zero, List.set_cons_succ]
  refine rh.go_take (i := 9) (v := ?v6) rfl (by kernel_rfl) (fun _ _ _ h => h) (Or.inl ⟨by rfl, ?hy6⟩) (by assumption) ?rest6
  case hy6 => (intro wS hSw; (try dsimp only at hSw); go_simp; try (with_reducible rfl))
  try simp only [Act.put, List.setIfInBounds_toArray, List.set_cons_zero, List.set_cons_succ]
  refine rh.go_take (i := 10) (v := ?v7) rfl (by kernel_rfl) (fun _ _ _ h => h) (Or.inl ⟨by rfl, ?hy7⟩) (by assumption) ?rest7
  case hy7 => (intro wS hSw; (try dsimp only at hSw); go_simp; try (with_reducible rfl))
  try simp only [Act.put, List.setIfInBounds_toArray, List.set_cons_zero, List.set_cons_succ]
  refine rh.go_take (i := 11) (v := ?v8) rfl (by kernel_rfl) (fun _ _ _ h => h) (Or.inl ⟨by rfl, ?hy8⟩) (by assumption) ?rest8
  case hy8 => (intro wS hSw; (try dsimp only at hSw); go_simp; try (with_reducible rfl))
  try simp only [Act.put, List.setIfInBounds_toArray, List.set_cons_zero, List.set_cons_succ]
  refine rh.go_take (i := 12) (v := .int .i64 (a.edges + b.edges)) rfl (by kernel_rfl) (fun _ _ _ h => h) (Or.inl ⟨by rfl, ?hyQ12⟩) (by assumption) ?restQ12
  case hyQ12 => (intro wS hSw; (try dsimp only at hSw); go_simp; try rw [hwE])
  try simp only [Act.put, List.setIfInBounds_toArray, List.set_cons_zero, List.set_cons_succ]
  refine rh.go_next (i := 0) rfl (by kernel_rfl) (fun K2 hK => ?_)
  go_simp
  have hk := hkA
  have hz := hzA
  refine hK.out _ _ ?_ (fun hHeld => ?_)
  · ((try dsimp only); exact HS.out _ hk)
  clear hK K2 hHeld
  try simp only [Act.put, List.setIfInBounds_toArray, List.set_cons_zero, List.set_cons_succ]
  obtain ⟨W0, hW0⟩ : ∃ WB, (X.alloc (.cells #[] 9)).drew = WB := ⟨_, rfl⟩
  rw [hW0] at hz hk ⊢
  clear hW0 hkA hzA
  refine rh.go_next (i := 3) rfl (by kernel_rfl) (fun K2 hK => ?_)
  refine step_append_src rfl _ _ 25 rfl X.heap.size 9 i0 (.string ⟨#[]⟩) 1 16 Tryz.underlying25 HIs.out.1 HIs.out.2.1 HIs.out.2.2.1 HIs.out.2.2.2 rfl (by decide) _ _ _ (by first | rfl | simp [Act.eval, Act.put]) (nil_at hz (Nat.le_refl _)) A4 n4 c4 (a.outer.map Value.string) (by first | rfl | simp [Act.eval, Act.put]) HZ4.out.1 HOa.out.1 (sr_src (H4.out.below (HWt.out _ hk))) (HO1.out _) e1 e2 hk.size ?_
  intro v3 w3 ho3 hg3
  have hzo := nil_at (sz := 1) (B := X.heap.size) hz (Nat.le_refl _)
  have hk := hk.grown hg3 hk.size (fun j hj => (hzo.lt j hj).1)
  rw [Nat.zero_add, List.nil_append] at ho3
  have HO3 := Lib.hid ho3
  clear ho3 hg3 hzo hz
  (try go_simp)
  refine hK.out _ _ ?_ (fun hHeld => ?_)
  · ((try dsimp only); exact HS.out _ hk)
  clear hK K2 hHeld
  try simp only [Act.put, List.setIfInBounds_toArray, List.set_cons_zero, List.set_cons_succ]
  refine rh.go_next (i := 6) rfl (by kernel_rfl) (fun K2 hK => ?_)
  refine step_append_src rfl _ _ 25 rfl X.heap.size 9 i0 (.string ⟨#[]⟩) 1 16 Tryz.underlying25 HIs.out.1 HIs.out.2.1 HIs.out.2.2.1 HIs.out.2.2.2 rfl (by decide) _ _ _ (by first | rfl | simp [Act.eval, Act.put]) HO3.out B4 m4 d4 (b.outer.map Value.string) (by first | rfl | simp [Act.eval, Act.put]) HZ4.out.2 HOa.out.2 (sr_src (K4.out.below (HWt.out _ hk))) (HO1.out _) e3 e4 hk.size ?_
  intro v6 w6 ho6 hg6
  have hk := hk.grown hg6 hk.size (fun j hj => (HO3.out.lt j hj).1)
  obtain ⟨A6, c6, rfl, hr6⟩ := strs_join ho6 HOs.out.1 HOs.out.2
  have HR6 := Lib.hid hr6
  clear ho6 hg6 hr6 HO3
  (try go_simp)
  refine hK.out _ _ ?_ (fun hHeld => ?_)
  · ((try dsimp only); exact HS.out _ hk)
  clear hK K2 hHeld
  try simp only [Act.put, List.setIfInBounds_toArray, List.set_cons_zero, List.set_cons_succ]
  refine rh.go_next (i := 7) rfl (by kernel_rfl) (fun K2 hK => ?_)
  go_simp
  go_at_call 120
  refine (HSo.out A6 c6 _ HR6.out).mono ?_
  rintro e V ⟨AO, cO, rfl, hrO, hb⟩
  have h6 := hk.size
  have hk := hk.trans (hb.mono hk.size)
  have HRO := Lib.hid (hrO.wide (lo' := w.heap.size) (Nat.le_trans hX0 h6) (Nat.le_refl _))
  clear hb hrO HR6 h6
  go_wp2_with fail
  refine hK.out _ _ ?_ (fun hHeld => ?_)
  · ((try dsimp only); exact HS.out _ hk)
  clear hK K2 hHeld
  try simp only [Act.put, List.setIfInBounds_toArray, List.set_cons_zero, List.set_cons_succ]
  refine rh.go_next (i := 13) rfl (by kernel_rfl) (fun K2 hK => ?_)
  go_simp
  refine hK.out _ _ ?_ (fun hHeld => ?_)
  · ((try dsimp only); exact HS.out _ hk)
  clear hK K2 hHeld
  try simp only [Act.put, List.setIfInBounds_toArray, List.set_cons_zero, List.set_cons_succ]
  refine rh.go_last rfl (by kernel_rfl) (fun K2 hK => ?_)
  go_simp
  refine hK.out _ _ ?_
  refine NoPanic.normal ?_
  clear hK K2
  have HWt : Hid (∀ Y, Below V.heap.size V Y → Below w.heap.size w Y) := Lib.hid (fun Y hY => HWt.out _ (hk.trans (hY.mono hk.size)))
  have HBa := Lib.hid (HBa.out.on hk)
  have HBb := Lib.hid (HBb.out.on hk)
  have HBr := Lib.hid (HBr.out.on hk)
  clear HS HSo H4 K4 hk HZ4 HOa HOs e1 e2 e3 e4 HB0
  have HS : Hid (∀ w', Below V.heap.size V w' → (w'.cell? ⟨w.heap.size, 0, none⟩ = some (.int .i64 a.roots) ∧ w'.cell? ⟨w.heap.size, 1, none⟩ = some (.slice A1 n1 c1) ∧ w'.cell? ⟨w.heap.size, 2, none⟩ = some (.slice A2 n2 c2) ∧ w'.cell? ⟨w.heap.size, 3, none⟩ = some (.int .i64 a.edges) ∧ w'.cell? ⟨w.heap.size, 4, none⟩ = some (.slice A4 n4 c4) ∧ w'.cell? ⟨w.heap.size, 5, none⟩ = some (.slice A5 n5 c5) ∧ w'.cell? ⟨w.heap.size + 1, 0, none⟩ = some (.int .i64 b.roots) ∧ w'.cell? ⟨w.heap.size + 1, 1, none⟩ = some (.slice B1 m1 d1) ∧ w'.cell? ⟨w.heap.size + 1, 2, none⟩ = some (.slice B2 m2 d2) ∧ w'.cell? ⟨w.heap.size + 1, 3, none⟩ = some (.int .i64 b.edges) ∧ w'.cell? ⟨w.heap.size + 1, 4, none⟩ = some (.slice B4 m4 d4) ∧ w'.cell? ⟨w.heap.size + 1, 5, none⟩ = some (.slice B5 m5 d5))) := Lib.hid (fun w' hq => flat12 (HBa.out.on hq).get (HBb.out.on hq).get)
  have hk := (Below.refl V.heap.size V).drew
  go_wp2_with fail
  refine rh.go_begin 14 (fun w' => (w'.cell? ⟨w.heap.size, 0, none⟩ = some (.int .i64 a.roots) ∧ w'.cell? ⟨w.heap.size, 1, none⟩ = some (.slice A1 n1 c1) ∧ w'.cell? ⟨w.heap.size, 2, none⟩ = some (.slice A2 n2 c2) ∧ w'.cell? ⟨w.heap.size, 3, none⟩ = some (.int .i64 a.edges) ∧ w'.cell? ⟨w.heap.size, 4, none⟩ = some (.slice A4 n4 c4) ∧ w'.cell? ⟨w.heap.size, 5, none⟩ = some (.slice A5 n5 c5) ∧ w'.cell? ⟨w.heap.size + 1, 0, none⟩ = some (.int .i64 b.roots) ∧ w'.cell? ⟨w.heap.size + 1, 1, none⟩ = some (.slice B1 m1 d1) ∧ w'.cell? ⟨w.heap.size + 1, 2, none⟩ = some (.slice B2 m2 d2) ∧ w'.cell? ⟨w.heap.size + 1, 3, none⟩ = some (.int .i64 b.edges) ∧ w'.cell? ⟨w.heap.size + 1, 4, none⟩ = some (.slice B4 m4 d4) ∧ w'.cell? ⟨w.heap.size + 1, 5, none⟩ = some (.slice B5 m5 d5))) (by kernel_rfl) ?_ (fun hHeld => ?_)
  · ((try dsimp only); exact HS.out _ (by go_grown))
  refine rh.go_take (i := 0) (v := ?v9) rfl (by kernel_rfl) (fun _ _ _ h => h) (Or.inl ⟨by rfl, ?hy9⟩) (by assumption) ?rest9
  case hy9 => (intro wS hSw; (try dsimp only at hSw); go_simp; try (with_reducible rfl))
  try simp only [Act.put, List.setIfInBounds_toArray, List.set_cons_zero, List.set_cons_succ]
  refine rh.go_take (i := 1) (v := ?v10) rfl (by kernel_rfl) (fun _ _ _ h => h) (Or.inl ⟨by rfl, ?hy10⟩) (by assumption) ?rest10
  case hy10 => (intro wS hSw; (try dsimp only at hSw); go_simp; try (with_reducible rfl))
  try simp only [Act.put, List.setIfInBounds_toArray, List.set_cons_zero, List.set_cons_succ]
  refine rh.go_take (i := 2) (v := ?v11) rfl (by kernel_rfl) (fun _ _ _ h => h) (Or.inl ⟨by rfl, ?hy11⟩) (by assumption) ?rest11
  case hy11 => (intro wS hSw; (try dsimp only at hSw); go_simp; try (with_reducible rfl))
  try simp only [Act.put, List.setIfInBounds_toArray, List.set_cons_zero, List.set_cons_succ]
  refine rh.go_take (i := 3) (v := ?v12) rfl (by kernel_rfl) (fun _ _ _ h => h) (Or.inl ⟨by rfl, ?hy12⟩) (by assumption) ?rest12
  case hy12 => (intro wS hSw; (try dsimp only at hSw); go_simp; try (with_reducible rfl))
  try simp only [Act.put, List.setIfInBounds_toArray, List.set_cons_zero, List.set_cons_succ]
  refine rh.go_take (i := 4) (v := ?v13) rfl (by kernel_rfl) (fun _ _ _ h => h) (Or.inl ⟨by rfl, ?hy13⟩) (by assumption) ?rest13
  case hy13 => (intro wS hSw; (try dsimp only at hSw); go_simp; try (with_reducible rfl))
  try simp only [Act.put, List.setIfInBounds_toArray, List.set_cons_zero, List.set_cons_succ]
  refine rh.go_take (i := 5) (v := ?v14) rfl (by kernel_rfl) (fun _ _ _ h => h) (Or.inl ⟨by rfl, ?hy14⟩) (by assumption) ?rest14
  case hy14 => (intro wS hSw; (try dsimp only at hSw); go_simp; try (with_reducible rfl))
  try simp only [Act.put, List.setIfInBounds_toArray, List.set_cons_zero, List.set_cons_succ]
  refine rh.go_take (i := 6) (v := ?v15) rfl (by kernel_rfl) (fun _ _ _ h => h) (Or.inl ⟨by rfl, ?hy15⟩) (by assumption) ?rest15
  case hy15 => (intro wS hSw; (try dsimp only at hSw); go_simp; try (with_reducible rfl))
  try simp only [Act.put, List.setIfInBounds_toArray, List.set_cons_zero, List.set_cons_succ]
  refine rh.go_take (i := 8) (v := ?v16) rfl (by kernel_rfl) (fun _ _ _ h => h) (Or.inl ⟨by rfl, ?hy16⟩) (by assumption) ?rest16
  case hy16 => (intro wS hSw; (try dsimp only at hSw); go_simp; try (with_reducible rfl))
  try simp only [Act.put, List.setIfInBounds_toArray, List.set_cons_zero, List.set_cons_succ]
  refine rh.go_take (i := 9) (v := ?v17) rfl (by kernel_rfl) (fun _ _ _ h => h) (Or.inl ⟨by rfl, ?hy17⟩) (by assumption) ?rest17
  case hy17 => (intro wS hSw; (try dsimp only at hSw); go_simp; try (with_reducible rfl))
  try simp only [Act.put, List.setIfInBounds_toArray, List.set_cons_zero, List.set_cons_succ]
  refine rh.go_take (i := 10) (v := ?v18) rfl (by kernel_rfl) (fun _ _ _ h => h) (Or.inl ⟨by rfl, ?hy18⟩) (by assumption) ?rest18
  case hy18 => (intro wS hSw; (try dsimp only at hSw); go_simp; try (with_reducible rfl))
  try simp only [Act.put, List.setIfInBounds_toArray, List.set_cons_zero, List.set_cons_succ]
  refine rh.go_take (i := 11) (v := ?v19) rfl (by kernel_rfl) (fun _ _ _ h => h) (Or.inl ⟨by rfl, ?hy19⟩) (by assumption) ?rest19
  case hy19 => (intro wS hSw; (try dsimp only at hSw); go_simp; try (with_reducible rfl))
  try simp only [Act.put, List.setIfInBounds_toArray, List.set_cons_zero, List.set_cons_succ]
  refine rh.go_next (i := 7) rfl (by kernel_rfl) (fun K2 hK => ?_)
  go_simp
  go_at_call 195
  refine (HNa.out AO cO _ (HWt.out _ hk) (row_strs (HRO.out.on hk) HOl.out)).mono ?_
  rintro e w21 ⟨v2, rfl, ho2, hb⟩
  obtain ⟨A7, c7, rfl, hr7⟩ := ints_own ho2 HLna.out
  have HR7 := Lib.hid hr7
  have hk := hk.trans (hb.mono hk.size)
  clear hb ho2 hr7
  go_wp2_with fail
  refine hK.out _ _ ?_ (fun hHeld => ?_)
  · ((try dsimp only); exact HS.out _ hk)
  clear hK K2 hHeld
  try simp only [Act.put, List.setIfInBounds_toArray, List.set_cons_zero, List.set_cons_succ]
  refine rh.go_next (i := 12) rfl (by kernel_rfl) (fun K2 hK => ?_)
  go_simp
  go_at_call 195
  refine (HNb.out AO cO _ (HWt.out _ hk) (row_strs (HRO.out.on hk) HOl.out)).mono ?_
  rintro e w22 ⟨v3, rfl, ho3, hb⟩
  obtain ⟨A8, c8, rfl, hr8⟩ := ints_own ho3 HLnb.out
  have HR7 := Lib.hid (HR7.out.on hb)
  have HR8 := Lib.hid hr8
  have hk := hk.trans (hb.mono hk.size)
  clear hb ho3 hr8
  go_wp2_with fail
  refine hK.out _ _ ?_ (fun hHeld => ?_)
  · ((try dsimp only); exact HS.out _ hk)
  clear hK K2 hHeld
  try simp only [Act.put, List.setIfInBounds_toArray, List.set_cons_zero, List.set_cons_succ]
  refine rh.go_next (i := 13) rfl (by kernel_rfl) (fun K2 hK => ?_)
  go_simp
  go_at_call 203
  refine (HUn.out AO cO A7 c7 A8 c8 _ (HWt.out _ hk) (row_strs (HRO.out.on hk) HOl.out) (fun e => (row_nil HRO.out e).2) (row_ints' HR7.out HLna.out) (fun e => (row_nil HR7.out e).2) (row_ints' HR8.out HLnb.out) (fun e => (row_nil HR8.out e).2)).mono ?_
  rintro e w23 ⟨v4, rfl, hr4, hb⟩
  obtain ⟨D1, g1, D2, g2, D4, g4, D5, g5, rfl⟩ := hr4.shape
  have hk2 := hk.trans (hb.mono hk.size)
  have HB9 := Lib.hid (HWt.out _ hk2)
  have HBr9 := Lib.hid (HBr.out.on hk2)
  have HR9 := Lib.hid (hr4.wide (lo' := w.heap.size) (HWt.out _ hk).size (Nat.le_refl _))
  have hk := hk2
  clear hr4 hb hk2
  go_wp2_with fail
  refine hK.out _ _ ?_ (fun hHeld => ?_)
  · ((try dsimp only); exact HS.out _ hk)
  clear hK K2 hHeld
  try simp only [Act.put, List.setIfInBounds_toArray, List.set_cons_zero, List.set_cons_succ]
  obtain ⟨z0, z1, z2, z3, z4, z5⟩ := HBr9.out.get
  have f0 := World.rowIs.frozen HBr9.out 0
  have f1 := World.rowIs.frozen HBr9.out 1
  have f2 := World.rowIs.frozen HBr9.out 2
  have f3 := World.rowIs.frozen HBr9.out 3
  have f4 := World.rowIs.frozen HBr9.out 4
  have f5 := World.rowIs.frozen HBr9.out 5
  refine rh.go_last rfl (by kernel_rfl) (fun K2 hK => ?_)
  go_simp
  refine hK.out _ _ ?_
  refine NoPanic.normal ?_
  clear hK K2
  go_wp2_with fail
  have hbig := (sets6_big HBr9.out HR9.out (.int .i64 Mb.roots) (.slice D1 Mb.nodes.length g1) (.slice D2 Mb.sites.length g2) (.int .i64 Mb.edges) (.slice D4 Mb.outer.length g4) (.slice D5 Mb.inner.length g5)).here
  have hbel := sets6_below HB9.out (show w.heap.size ≤ w.heap.size + 2 by omega) (.int .i64 Mb.roots) (.slice D1 Mb.nodes.length g1) (.slice D2 Mb.sites.length g2) (.int .i64 Mb.edges) (.slice D4 Mb.outer.length g4) (.slice D5 Mb.inner.length g5)
  unfold sets6 at hbig hbel
  exact bodyPost_ret (v := .agg #[.int .i64 Mb.roots, .slice D1 Mb.nodes.length g1, .slice D2 Mb.sites.length g2, .int .i64 Mb.edges, .slice D4 Mb.outer.length g4, .slice D5 Mb.inner.length g5]) (by simp [results, Tryz.results123, go_sem, z0, z1, z2, z3, z4, z5]) rfl ⟨_, rfl, hbig, hbel⟩
end Go.Proofs.YtfjgapkjpmkplaaGreat.nsp
