/- Mps. -/
import Derived.Test.YtfjgapkjpmkplaaGreatXa
import Derived.Test.YtfjgapkjpmkplaaGreatXb
import Derived.Test.YtfjgapkjpmkplaaGreatXc
import Derived.Test.YtfjgapkjpmkplaaGreatXd
import Derived.Test.YtfjgapkjpmkplaaGreatXe
import Derived.Test.YtfjgapkjpmkplaaGreatXg
import Derived.Test.YtfjgapkjpmkplaaGreatXh
import Derived.Test.YtfjgapkjpmkplaaGreatYa012
import Derived.Test.YtfjgapkjpmkplaaGreatYb012
import Derived.Test.YtfjgapkjpmkplaaGreatZUs
import Derived.Test.YtfjgapkjpmkplaaGreatYc012
import Derived.Test.YtfjgapkjpmkplaaGreatZSv
import Derived.Test.YtfjgapkjpmkplaaGreatYc2
import Derived.Test.YtfjgapkjpmkplaaGreatRows
import Derived.WalkKit
import Derived.WalkSpells
import Derived.WalkLawsBesides
import Derived.ProofKit
import Derived.OpenShut
import Derived.ShutString
import Derived.Deep.OwnRows
import Derived.Deep.Draws
import Derived.SliceStrings
import Derived.ChangeOld
import Derived.Below
import Derived.Lib.Hide
import Derived.Lib.ItoaNum
import Derived.Deep.QuietTactic
import Derived.BigQuiet
import Derived.Outline
import Derived.StillTailTactics
import Derived.Deep.RegionWith
import Derived.Deep.RegionHeld3
import Derived.Deep.Slices
import Derived.Deep.Fields
import Derived.ChangeSame
import Derived.Lib.SmallJoins
import Derived.Maps.OwnOps
import Derived.Maps.OwnIn
import Derived.Maps.Views
import Derived.Maps.AppendAt
import Derived.RangeFuncBox
import Derived.RangeFuncLeaves
import Derived.Shelf.Abstract
import Derived.OwnWalkIn
import Derived.TacticsInMore
import Derived.LoopNIn
import Derived.LoopIn
import Derived.RangeFuncWrites
import Derived.RangeFuncNested
import Derived.JoinedOf
import Derived.Deep.AppendLies
import Derived.Deep.RegionLaw
import Derived.Laws.AppendOwnNone
import Derived.Deep.Cut
import Derived.Deep.CutRange
import Derived.Lib.SliceRun
import Derived.Lib.AppendZerosOnto
import Derived.OrdersHeld
import Derived.StillTail
import Derived.Lib.Walk
import Derived.Deep.LoopGhost
import Derived.Handy
import Derived.Lib.LazyBuf
import Derived.Sort.OwnSorted
import Derived.Lib.SlicesCompact
import Derived.Sort.KeysCollected
import Derived.Test.YtfjgapkjpmkplaaGreatSfl
import Derived.Shelf.SlSortCmp.NoneTotal
import Derived.WalkMore
import Derived.ScopeJumps
set_option linter.unusedSimpArgs false
set_option linter.unusedVariables false
namespace Go.Proofs.YtfjgapkjpmkplaaGreat.mps
open kit bg sg opn strs only hb sig isig un over gn nm inn ht gd im pt marks eqs hc hi hw hn rs br bm bw cf lf ib lw cl rt ix tg rl ed tp rtg uw nj cg rk nk wk ek tm gv lep mrp mri mrs pl ft co us nd mb sb wb rn rnm sd sf ap mpx
open sv (sid_any)
open Go.RowKit
set_option linter.unusedVariables false
set_option linter.unusedSimpArgs false
theorem in_slice {e : Ending} {Y w' : World} {ws : List Wr} {n : Nat} (h : ColPost 9 ((nms ws).map Value.string) Y e w') (hn : ws.length = n) : ∃ (A : Option Addr) (c : Nat), e = .returned (.slice A n c) ∧ SR w' w'.heap.size A n ((nms ws).map Value.string) ∧ Below Y.heap.size Y w' := by
  obtain ⟨v, rfl, ho, hb⟩ := h
  obtain ⟨g, cap, rfl, -, -, -, hsr⟩ := ho.at
  have hl : ((nms ws).map Value.string).length = n := by unfold nms; rw [List.length_map, List.length_map]; exact hn
  rw [hl] at hsr ⊢
  exact ⟨_, _, rfl, hsr, hb⟩
theorem nil_big {w : World} {lo hi : Nat} {v : Value} {b : Big} (h : BigR w lo hi v b) : NilV v := by
  obtain ⟨P, rfl, hL⟩ := laid_of h
  exact laid_nil hL
set_option maxRecDepth 20000 in
set_option maxHeartbeats 6400000 in
theorem sMp_any (A : Option Addr) (n c : Nat) (cs : List Ctl) (va : Value) (a : Big) (vb : Value) (b : Big) (w : World) (hC : CtlsAt w w.heap.size A n cs) (hn : n ≤ 1048576) (hs : ∀ c ∈ cs, c.name.size ≤ 1048576) (hva : BigAt w w.heap.size va a) (hSa : BigS a) (hwa : BigW a) (hNa : NilV va) (hvb : BigAt w w.heap.size vb b) (hSb : BigS b) (hwb : BigW b) (hNb : NilV vb) :
    Calls Tryz.prog 48 #[.slice A n c, va, vb] w (BigPost (ppQ cs a b) (mpR cs a b) w) := by
  obtain ⟨A1, n1, c1, A2, n2, c2, A4, n4, c4, A5, n5, c5, rfl, h1, h2, h4, h5⟩ := hva
  obtain ⟨B1, m1, d1, B2, m2, d2, B4, m4, d4, B5, m5, d5, rfl, k1, k2, k4, k5⟩ := hvb
  have hb0 := (Below.refl w.heap.size w).alloc (Nat.le_refl _) (.cells #[.int .i64 a.roots, .slice A1 n1 c1, .slice A2 n2 c2, .int .i64 a.edges, .slice A4 n4 c4, .slice A5 n5 c5] 36)
  have HBa0 : BoxAt (w.alloc (.cells #[.int .i64 a.roots, .slice A1 n1 c1, .slice A2 n2 c2, .int .i64 a.edges, .slice A4 n4 c4, .slice A5 n5 c5] 36)) w.heap.size 36 (.int .i64 a.roots) (.slice A1 n1 c1) (.slice A2 n2 c2) (.int .i64 a.edges) (.slice A4 n4 c4) (.slice A5 n5 c5) := six_new w _ _ _ _ _ _ _
  obtain ⟨U, hU⟩ : ∃ U, w.alloc (.cells #[.int .i64 a.roots, .slice A1 n1 c1, .slice A2 n2 c2, .int .i64 a.edges, .slice A4 n4 c4, .slice A5 n5 c5] 36) = U := ⟨_, rfl⟩
  have hUz : U.heap.size = w.heap.size + 1 := by rw [← hU]; simp
  rw [hU] at HBa0 hb0
  have hb1 := (Below.refl U.heap.size U).alloc (Nat.le_refl _) (.cells #[.int .i64 b.roots, .slice B1 m1 d1, .slice B2 m2 d2, .int .i64 b.edges, .slice B4 m4 d4, .slice B5 m5 d5] 36)
  have HBb0 : BoxAt (U.alloc (.cells #[.int .i64 b.roots, .slice B1 m1 d1, .slice B2 m2 d2, .int .i64 b.edges, .slice B4 m4 d4, .slice B5 m5 d5] 36)) U.heap.size 36 (.int .i64 b.roots) (.slice B1 m1 d1) (.slice B2 m2 d2) (.int .i64 b.edges) (.slice B4 m4 d4) (.slice B5 m5 d5) := six_new U _ _ _ _ _ _ _
  obtain ⟨W, hW⟩ : ∃ W, U.alloc (.cells #[.int .i64 b.roots, .slice B1 m1 d1, .slice B2 m2 d2, .int .i64 b.edges, .slice B4 m4 d4, .slice B5 m5 d5] 36) = W := ⟨_, rfl⟩
  have hWz : W.heap.size = w.heap.size + 2 := by rw [← hW]; simp; omega
  rw [hW] at HBb0 hb1
  rw [hUz] at HBb0
  have hb2 := (Below.refl W.heap.size W).alloc (Nat.le_refl _) (.cells #[.int .i64 0, .slice none 0 0, .slice none 0 0, .int .i64 0, .slice none 0 0, .slice none 0 0] 36)
  have HBr0 : BoxAt (W.alloc (.cells #[.int .i64 0, .slice none 0 0, .slice none 0 0, .int .i64 0, .slice none 0 0, .slice none 0 0] 36)) W.heap.size 36 (.int .i64 0) (.slice none 0 0) (.slice none 0 0) (.int .i64 0) (.slice none 0 0) (.slice none 0 0) := six_new W _ _ _ _ _ _ _
  obtain ⟨X, hX⟩ : ∃ X, W.alloc (.cells #[.int .i64 0, .slice none 0 0, .slice none 0 0, .int .i64 0, .slice none 0 0, .slice none 0 0] 36) = X := ⟨_, rfl⟩
  have hXz : X.heap.size = w.heap.size + 3 := by rw [← hX]; simp; omega
  rw [hX] at HBr0 hb2
  rw [hWz] at HBr0
  have HUq := Lib.hid hU
  have HWq := Lib.hid hW
  have HXq := Lib.hid hX
  have HB0 := Lib.hid (hb0.trans ((hb1.trans (hb2.mono hb1.size)).mono hb0.size))
  have HBa := Lib.hid ((HBa0.on hb1).on hb2)
  have HBb := Lib.hid (HBb0.on hb2)
  have HBr := Lib.hid HBr0
  have HXz := Lib.hid hXz
  have hVa := Lib.hid (fun (Y : World) (hY : Below w.heap.size w Y) => (BigAt.wide (BigAt.below ⟨_, _, _, _, _, _, _, _, _, _, _, _, rfl, h1, h2, h4, h5⟩ hY) hY.size : BigAt Y Y.heap.size (.agg #[.int .i64 a.roots, .slice A1 n1 c1, .slice A2 n2 c2, .int .i64 a.edges, .slice A4 n4 c4, .slice A5 n5 c5]) a))
  have hVb := Lib.hid (fun (Y : World) (hY : Below w.heap.size w Y) => (BigAt.wide (BigAt.below ⟨_, _, _, _, _, _, _, _, _, _, _, _, rfl, k1, k2, k4, k5⟩ hY) hY.size : BigAt Y Y.heap.size (.agg #[.int .i64 b.roots, .slice B1 m1 d1, .slice B2 m2 d2, .int .i64 b.edges, .slice B4 m4 d4, .slice B5 m5 d5]) b))
  clear hU hW hX hb0 hb1 hb2 HBa0 HBb0 HBr0 hUz hWz hXz
  have HGa := Lib.hid (fun (Y : World) (hY : Below w.heap.size w Y) => l2Good_any A n c cs (.agg #[.int .i64 a.roots, .slice A1 n1 c1, .slice A2 n2 c2, .int .i64 a.edges, .slice A4 n4 c4, .slice A5 n5 c5]) a Y ((hC.below hY).wide hY.size) (hVa.out Y hY) hn hs hSa hwa)
  have HGb := Lib.hid (fun (Y : World) (hY : Below w.heap.size w Y) => l2Good_any A n c cs (.agg #[.int .i64 b.roots, .slice B1 m1 d1, .slice B2 m2 d2, .int .i64 b.edges, .slice B4 m4 d4, .slice B5 m5 d5]) b Y ((hC.below hY).wide hY.size) (hVb.out Y hY) hn hs hSb hwb)
  have q5 : n5 ≤ 1048576 := by have := hSa.2.2.2.2.2.1; rw [h5.1] at this; exact this
  have q5b : m5 ≤ 1048576 := by have := hSb.2.2.2.2.2.1; rw [k5.1] at this; exact this
  have HQ := Lib.hid (And.intro q5 q5b)
  have HIa := Lib.hid (fun (Y : World) (hY : Below w.heap.size w Y) => (l2Inner_any (.int .i64 a.roots) (.slice A1 n1 c1) (.slice A2 n2 c2) (.int .i64 a.edges) (.slice A4 n4 c4) A5 n5 c5 a.inner w Y h5 hY q5).mono (R' := fun e w' => ∃ (A : Option Addr) (c : Nat), e = .returned (.slice A n5 c) ∧ SR w' w'.heap.size A n5 ((nms a.inner).map Value.string) ∧ Below Y.heap.size Y w') (fun e w' h => in_slice h h5.1))
  have HIb := Lib.hid (fun (Y : World) (hY : Below w.heap.size w Y) => (l2Inner_any (.int .i64 b.roots) (.slice B1 m1 d1) (.slice B2 m2 d2) (.int .i64 b.edges) (.slice B4 m4 d4) B5 m5 d5 b.inner w Y k5 hY q5b).mono (R' := fun e w' => ∃ (A : Option Addr) (c : Nat), e = .returned (.slice A m5 c) ∧ SR w' w'.heap.size A m5 ((nms b.inner).map Value.string) ∧ Below Y.heap.size Y w') (fun e w' h => in_slice h k5.1))
  have HS : Hid (∀ w', Below X.heap.size X w' → (w'.cell? ⟨w.heap.size, 0, none⟩ = some (.int .i64 a.roots) ∧ w'.cell? ⟨w.heap.size, 1, none⟩ = some (.slice A1 n1 c1) ∧ w'.cell? ⟨w.heap.size, 2, none⟩ = some (.slice A2 n2 c2) ∧ w'.cell? ⟨w.heap.size, 3, none⟩ = some (.int .i64 a.edges) ∧ w'.cell? ⟨w.heap.size, 4, none⟩ = some (.slice A4 n4 c4) ∧ w'.cell? ⟨w.heap.size, 5, none⟩ = some (.slice A5 n5 c5) ∧ w'.cell? ⟨w.heap.size + 1, 0, none⟩ = some (.int .i64 b.roots) ∧ w'.cell? ⟨w.heap.size + 1, 1, none⟩ = some (.slice B1 m1 d1) ∧ w'.cell? ⟨w.heap.size + 1, 2, none⟩ = some (.slice B2 m2 d2) ∧ w'.cell? ⟨w.heap.size + 1, 3, none⟩ = some (.int .i64 b.edges) ∧ w'.cell? ⟨w.heap.size + 1, 4, none⟩ = some (.slice B4 m4 d4) ∧ w'.cell? ⟨w.heap.size + 1, 5, none⟩ = some (.slice B5 m5 d5))) := Lib.hid (fun w' hq => flat12 (HBa.out.on hq).get (HBb.out.on hq).get)
  obtain ⟨x0, x1, x2, x3, x4, x5⟩ := HBa.out.get
  obtain ⟨y0, y1, y2, y3, y4, y5⟩ := HBb.out.get
  cases hga : bigB cs a with
  | false =>
    rw [hga] at HGa
    have HR := Lib.hid (mp_no (cs := cs) (a := a) (b := b) (by unfold ppP; rw [hga]; rfl))
    rw [HR.out.1, HR.out.2]
    clear hga hs hC
    go_enter Tryz.func48, Tryz.ntmps48
    go_wp2_with fail
    rw [HUq.out, HWq.out, HXq.out]
    go_wp2_with fail
    clear x0 x1 x2 x3 x4 x5 y0 y1 y2 y3 y4 y5
    have hk := (Below.refl X.heap.size X).drew
    refine rh.go_begin 17 (fun w' => (w'.cell? ⟨w.heap.size, 0, none⟩ = some (.int .i64 a.roots) ∧ w'.cell? ⟨w.heap.size, 1, none⟩ = some (.slice A1 n1 c1) ∧ w'.cell? ⟨w.heap.size, 2, none⟩ = some (.slice A2 n2 c2) ∧ w'.cell? ⟨w.heap.size, 3, none⟩ = some (.int .i64 a.edges) ∧ w'.cell? ⟨w.heap.size, 4, none⟩ = some (.slice A4 n4 c4) ∧ w'.cell? ⟨w.heap.size, 5, none⟩ = some (.slice A5 n5 c5) ∧ w'.cell? ⟨w.heap.size + 1, 0, none⟩ = some (.int .i64 b.roots) ∧ w'.cell? ⟨w.heap.size + 1, 1, none⟩ = some (.slice B1 m1 d1) ∧ w'.cell? ⟨w.heap.size + 1, 2, none⟩ = some (.slice B2 m2 d2) ∧ w'.cell? ⟨w.heap.size + 1, 3, none⟩ = some (.int .i64 b.edges) ∧ w'.cell? ⟨w.heap.size + 1, 4, none⟩ = some (.slice B4 m4 d4) ∧ w'.cell? ⟨w.heap.size + 1, 5, none⟩ = some (.slice B5 m5 d5))) (by kernel_rfl) ?_ (fun hHeld => ?_)
    · ((try dsimp only); exact HS.out _ (by go_grown))
    refine rh.go_take (i := 0) (v := ?v1) rfl (by kernel_rfl) (fun _ _ _ h => h) (Or.inl ⟨by rfl, ?hy1⟩) (by assumption) ?rest1
    case hy1 => (intro wS hSw; (try dsimp only at hSw); go_simp; try (with_reducible rfl))
    try simp only [Act.put, List.setIfInBounds_toArray, List.set_cons_zero, List.set_cons_succ]
    refine rh.go_take (i := 1) (v := ?v2) rfl (by kernel_rfl) (fun _ _ _ h => h) (Or.inl ⟨by rfl, ?hy2⟩) (by assumption) ?rest2
    case hy2 => (intro wS hSw; (try dsimp only at hSw); go_simp; try (with_reducible rfl))
    try simp only [Act.put, List.setIfInBounds_toArray, List.set_cons_zero, List.set_cons_succ]
    refine rh.go_next (i := 2) rfl (by kernel_rfl) (fun K2 hK => ?_)
    go_simp
    go_at_call 94
    refine (HGa.out _ (HB0.out.trans (hk.mono HB0.out.size))).mono ?_
    rintro e w1 ⟨rfl, hb⟩
    have hk := hk.trans (hb.mono hk.size)
    clear hb
    go_wp2_with fail
    refine hK.out _ _ ?_ (fun hHeld => ?_)
    · ((try dsimp only); exact HS.out _ hk)
    clear hK K2 hHeld
    try simp only [Act.put, List.setIfInBounds_toArray, List.set_cons_zero, List.set_cons_succ]
    have hHeld1 := HS.out _ hk
    refine rh.go_take (i := 3) (v := ?v3) rfl (by kernel_rfl) (fun _ _ _ h => h) (Or.inl ⟨by rfl, ?hy3⟩) (by assumption) ?rest3
    case hy3 => (intro wS hSw; (try dsimp only at hSw); go_simp; try (with_reducible rfl))
    try simp only [Act.put, List.setIfInBounds_toArray, List.set_cons_zero, List.set_cons_succ]
    refine rh.go_take (i := 4) (v := ?v4) rfl (by kernel_rfl) (fun _ _ _ h => h) (Or.inl ⟨by rfl, ?hy4⟩) (by assumption) ?rest4
    case hy4 => (intro wS hSw; (try dsimp only at hSw); go_simp; try (with_reducible rfl))
    try simp only [Act.put, List.setIfInBounds_toArray, List.set_cons_zero, List.set_cons_succ]
    refine rh.go_take (i := 5) (v := undef) rfl (by kernel_rfl) (fun _ _ _ h => h) (Or.inr ⟨by rfl, rfl⟩) (by assumption) ?_
    try simp only [Act.put, List.setIfInBounds_toArray, List.set_cons_zero, List.set_cons_succ]
    refine rh.go_take (i := 6) (v := undef) rfl (by kernel_rfl) (fun _ _ _ h => h) (Or.inr ⟨by rfl, rfl⟩) (by assumption) ?_
    try simp only [Act.put, List.setIfInBounds_toArray, List.set_cons_zero, List.set_cons_succ]
    refine rh.go_next (i := 7) rfl (by kernel_rfl) (fun K2 hK => ?_)
    go_simp
    refine hK.out _ _ ?_ (fun hHeld => ?_)
    · ((try dsimp only); exact HS.out _ hk)
    clear hK K2 hHeld
    try simp only [Act.put, List.setIfInBounds_toArray, List.set_cons_zero, List.set_cons_succ]
    refine rh.go_take (i := 8) (v := undef) rfl (by kernel_rfl) (fun _ _ _ h => h) (Or.inr ⟨by rfl, rfl⟩) (by assumption) ?_
    try simp only [Act.put, List.setIfInBounds_toArray, List.set_cons_zero, List.set_cons_succ]
    refine rh.go_take (i := 9) (v := ?v5) rfl (by kernel_rfl) (fun _ _ _ h => h) (Or.inl ⟨by rfl, ?hy5⟩) (by assumption) ?rest5
    case hy5 => (intro wS hSw; (try dsimp only at hSw); go_simp; try (with_reducible rfl))
    try simp only [Act.put, List.setIfInBounds_toArray, List.set_cons_zero, List.set_cons_succ]
    refine rh.go_take (i := 10) (v := ?v6) rfl (by kernel_rfl) (fun _ _ _ h => h) (Or.inl ⟨by rfl, ?hy6⟩) (by assumption) ?rest6
    case hy6 => (intro wS hSw; (try dsimp only at hSw); go_simp; try (with_reducible rfl))
    try simp only [Act.put, List.setIfInBounds_toArray, List.set_cons_zero, List.set_cons_succ]
    refine rh.go_take (i := 11) (v := undef) rfl (by kernel_rfl) (fun _ _ _ h => h) (Or.inr ⟨by rfl, rfl⟩) (by assumption) ?_
    try simp only [Act.put, List.setIfInBounds_toArray, List.set_cons_zero, List.set_cons_succ]
    refine rh.go_take (i := 13) (v := undef) rfl (by kernel_rfl) (fun _ _ _ h => h) (Or.inr ⟨by rfl, rfl⟩) (by assumption) ?_
    try simp only [Act.put, List.setIfInBounds_toArray, List.set_cons_zero, List.set_cons_succ]
    refine rh.go_next (i := 12) rfl (by kernel_rfl) (fun K2 hK => ?_)
    go_simp
    refine hK.out _ _ ?_ (fun hHeld => ?_)
    · ((try dsimp only); exact HS.out _ hk)
    clear hK K2 hHeld
    try simp only [Act.put, List.setIfInBounds_toArray, List.set_cons_zero, List.set_cons_succ]
    refine rh.go_next (i := 14) rfl (by kernel_rfl) (fun K2 hK => ?_)
    go_simp
    refine hK.out _ _ ?_ (fun hHeld => ?_)
    · ((try dsimp only); exact HS.out _ hk)
    clear hK K2 hHeld
    try simp only [Act.put, List.setIfInBounds_toArray, List.set_cons_zero, List.set_cons_succ]
    refine rh.go_next (i := 15) rfl (by kernel_rfl) (fun K2 hK => ?_)
    go_simp
    refine hK.out _ _ ?_ (fun hHeld => ?_)
    · ((try dsimp only); exact HS.out _ hk)
    clear hK K2 hHeld
    try simp only [Act.put, List.setIfInBounds_toArray, List.set_cons_zero, List.set_cons_succ]
    refine rh.go_take (i := 16) (v := undef) rfl (by kernel_rfl) (fun _ _ _ h => h) (Or.inr ⟨by rfl, rfl⟩) (by assumption) ?_
    try simp only [Act.put, List.setIfInBounds_toArray, List.set_cons_zero, List.set_cons_succ]
    refine rh.go_last rfl (by kernel_rfl) (fun K2 hK => ?_)
    go_simp
    refine hK.out _ _ ?_
    refine NoPanic.normal ?_
    clear hK K2
    have hb3 := HB0.out.trans (hk.mono HB0.out.size)
    have HBr3 := Lib.hid (HBr.out.on hk)
    have HBa3 := Lib.hid (HBa.out.on hk)
    have HBb3 := Lib.hid (HBb.out.on hk)
    obtain ⟨z0, z1, z2, z3, z4, z5⟩ := HBr3.out.get
    have f0 := World.rowIs.frozen HBr3.out 0
    have f1 := World.rowIs.frozen HBr3.out 1
    have f2 := World.rowIs.frozen HBr3.out 2
    have f3 := World.rowIs.frozen HBr3.out 3
    have f4 := World.rowIs.frozen HBr3.out 4
    have f5 := World.rowIs.frozen HBr3.out 5
    go_wp2_with fail
    refine bodyPost_ret (v := .tuple #[.agg #[.int .i64 0, .slice none 0 0, .slice none 0 0, .int .i64 0, .slice none 0 0, .slice none 0 0], .bool false]) (by simp [results, Tryz.results48, go_sem, z0, z1, z2, z3, z4, z5]) rfl ⟨_, rfl, BigR.zero, sets6_below hb3 (by omega) _ _ _ _ _ _⟩
  | true =>
    rw [hga] at HGa
    cases hgb : bigB cs b with
    | false =>
      rw [hgb] at HGb
      have HR := Lib.hid (mp_no (cs := cs) (a := a) (b := b) (by unfold ppP; rw [hga, hgb]; rfl))
      rw [HR.out.1, HR.out.2]
      clear hga hgb hs hC
      go_enter Tryz.func48, Tryz.ntmps48
      go_wp2_with fail
      rw [HUq.out, HWq.out, HXq.out]
      go_wp2_with fail
      clear x0 x1 x2 x3 x4 x5 y0 y1 y2 y3 y4 y5
      have hk := (Below.refl X.heap.size X).drew
      refine rh.go_begin 17 (fun w' => (w'.cell? ⟨w.heap.size, 0, none⟩ = some (.int .i64 a.roots) ∧ w'.cell? ⟨w.heap.size, 1, none⟩ = some (.slice A1 n1 c1) ∧ w'.cell? ⟨w.heap.size, 2, none⟩ = some (.slice A2 n2 c2) ∧ w'.cell? ⟨w.heap.size, 3, none⟩ = some (.int .i64 a.edges) ∧ w'.cell? ⟨w.heap.size, 4, none⟩ = some (.slice A4 n4 c4) ∧ w'.cell? ⟨w.heap.size, 5, none⟩ = some (.slice A5 n5 c5) ∧ w'.cell? ⟨w.heap.size + 1, 0, none⟩ = some (.int .i64 b.roots) ∧ w'.cell? ⟨w.heap.size + 1, 1, none⟩ = some (.slice B1 m1 d1) ∧ w'.cell? ⟨w.heap.size + 1, 2, none⟩ = some (.slice B2 m2 d2) ∧ w'.cell? ⟨w.heap.size + 1, 3, none⟩ = some (.int .i64 b.edges) ∧ w'.cell? ⟨w.heap.size + 1, 4, none⟩ = some (.slice B4 m4 d4) ∧ w'.cell? ⟨w.heap.size + 1, 5, none⟩ = some (.slice B5 m5 d5))) (by kernel_rfl) ?_ (fun hHeld => ?_)
      · ((try dsimp only); exact HS.out _ (by go_grown))
      refine rh.go_take (i := 0) (v := ?v7) rfl (by kernel_rfl) (fun _ _ _ h => h) (Or.inl ⟨by rfl, ?hy7⟩) (by assumption) ?rest7
      case hy7 => (intro wS hSw; (try dsimp only at hSw); go_simp; try (with_reducible rfl))
      try simp only [Act.put, List.setIfInBounds_toArray, List.set_cons_zero, List.set_cons_succ]
      refine rh.go_take (i := 1) (v := ?v8) rfl (by kernel_rfl) (fun _ _ _ h => h) (Or.inl ⟨by rfl, ?hy8⟩) (by assumption) ?rest8
      case hy8 => (intro wS hSw; (try dsimp only at hSw); go_simp; try (with_reducible rfl))
      try simp only [Act.put, List.setIfInBounds_toArray, List.set_cons_zero, List.set_cons_succ]
      refine rh.go_next (i := 2) rfl (by kernel_rfl) (fun K2 hK => ?_)
      go_simp
      go_at_call 94
      refine (HGa.out _ (HB0.out.trans (hk.mono HB0.out.size))).mono ?_
      rintro e w1 ⟨rfl, hb⟩
      have hk := hk.trans (hb.mono hk.size)
      clear hb
      go_wp2_with fail
      refine hK.out _ _ ?_ (fun hHeld => ?_)
      · ((try dsimp only); exact HS.out _ hk)
      clear hK K2 hHeld
      try simp only [Act.put, List.setIfInBounds_toArray, List.set_cons_zero, List.set_cons_succ]
      have hHeld1 := HS.out _ hk
      refine rh.go_take (i := 3) (v := ?v9) rfl (by kernel_rfl) (fun _ _ _ h => h) (Or.inl ⟨by rfl, ?hy9⟩) (by assumption) ?rest9
      case hy9 => (intro wS hSw; (try dsimp only at hSw); go_simp; try (with_reducible rfl))
      try simp only [Act.put, List.setIfInBounds_toArray, List.set_cons_zero, List.set_cons_succ]
      refine rh.go_take (i := 4) (v := ?v10) rfl (by kernel_rfl) (fun _ _ _ h => h) (Or.inl ⟨by rfl, ?hy10⟩) (by assumption) ?rest10
      case hy10 => (intro wS hSw; (try dsimp only at hSw); go_simp; try (with_reducible rfl))
      try simp only [Act.put, List.setIfInBounds_toArray, List.set_cons_zero, List.set_cons_succ]
      refine rh.go_take (i := 5) (v := ?v11) rfl (by kernel_rfl) (fun _ _ _ h => h) (Or.inl ⟨by rfl, ?hy11⟩) (by assumption) ?rest11
      case hy11 => (intro wS hSw; (try dsimp only at hSw); go_simp; try (with_reducible rfl))
      try simp only [Act.put, List.setIfInBounds_toArray, List.set_cons_zero, List.set_cons_succ]
      refine rh.go_take (i := 6) (v := ?v12) rfl (by kernel_rfl) (fun _ _ _ h => h) (Or.inl ⟨by rfl, ?hy12⟩) (by assumption) ?rest12
      case hy12 => (intro wS hSw; (try dsimp only at hSw); go_simp; try (with_reducible rfl))
      try simp only [Act.put, List.setIfInBounds_toArray, List.set_cons_zero, List.set_cons_succ]
      refine rh.go_next (i := 7) rfl (by kernel_rfl) (fun K2 hK => ?_)
      go_simp
      go_at_call 94
      refine (HGb.out _ (HB0.out.trans (hk.mono HB0.out.size))).mono ?_
      rintro e w2 ⟨rfl, hb⟩
      have hk := hk.trans (hb.mono hk.size)
      clear hb hHeld1
      go_wp2_with fail
      refine hK.out _ _ ?_ (fun hHeld => ?_)
      · ((try dsimp only); exact HS.out _ hk)
      clear hK K2 hHeld
      try simp only [Act.put, List.setIfInBounds_toArray, List.set_cons_zero, List.set_cons_succ]
      have hHeld2 := HS.out _ hk
      refine rh.go_take (i := 8) (v := ?v13) rfl (by kernel_rfl) (fun _ _ _ h => h) (Or.inl ⟨by rfl, ?hy13⟩) (by assumption) ?rest13
      case hy13 => (intro wS hSw; (try dsimp only at hSw); go_simp; try (with_reducible rfl))
      try simp only [Act.put, List.setIfInBounds_toArray, List.set_cons_zero, List.set_cons_succ]
      refine rh.go_take (i := 9) (v := ?v14) rfl (by kernel_rfl) (fun _ _ _ h => h) (Or.inl ⟨by rfl, ?hy14⟩) (by assumption) ?rest14
      case hy14 => (intro wS hSw; (try dsimp only at hSw); go_simp; try (with_reducible rfl))
      try simp only [Act.put, List.setIfInBounds_toArray, List.set_cons_zero, List.set_cons_succ]
      refine rh.go_take (i := 10) (v := ?v15) rfl (by kernel_rfl) (fun _ _ _ h => h) (Or.inl ⟨by rfl, ?hy15⟩) (by assumption) ?rest15
      case hy15 => (intro wS hSw; (try dsimp only at hSw); go_simp; try (with_reducible rfl))
      try simp only [Act.put, List.setIfInBounds_toArray, List.set_cons_zero, List.set_cons_succ]
      refine rh.go_take (i := 11) (v := undef) rfl (by kernel_rfl) (fun _ _ _ h => h) (Or.inr ⟨by rfl, rfl⟩) (by assumption) ?_
      try simp only [Act.put, List.setIfInBounds_toArray, List.set_cons_zero, List.set_cons_succ]
      refine rh.go_take (i := 13) (v := undef) rfl (by kernel_rfl) (fun _ _ _ h => h) (Or.inr ⟨by rfl, rfl⟩) (by assumption) ?_
      try simp only [Act.put, List.setIfInBounds_toArray, List.set_cons_zero, List.set_cons_succ]
      refine rh.go_next (i := 12) rfl (by kernel_rfl) (fun K2 hK => ?_)
      go_simp
      refine hK.out _ _ ?_ (fun hHeld => ?_)
      · ((try dsimp only); exact HS.out _ hk)
      clear hK K2 hHeld
      try simp only [Act.put, List.setIfInBounds_toArray, List.set_cons_zero, List.set_cons_succ]
      refine rh.go_next (i := 14) rfl (by kernel_rfl) (fun K2 hK => ?_)
      go_simp
      refine hK.out _ _ ?_ (fun hHeld => ?_)
      · ((try dsimp only); exact HS.out _ hk)
      clear hK K2 hHeld
      try simp only [Act.put, List.setIfInBounds_toArray, List.set_cons_zero, List.set_cons_succ]
      refine rh.go_next (i := 15) rfl (by kernel_rfl) (fun K2 hK => ?_)
      go_simp
      refine hK.out _ _ ?_ (fun hHeld => ?_)
      · ((try dsimp only); exact HS.out _ hk)
      clear hK K2 hHeld
      try simp only [Act.put, List.setIfInBounds_toArray, List.set_cons_zero, List.set_cons_succ]
      refine rh.go_take (i := 16) (v := undef) rfl (by kernel_rfl) (fun _ _ _ h => h) (Or.inr ⟨by rfl, rfl⟩) (by assumption) ?_
      try simp only [Act.put, List.setIfInBounds_toArray, List.set_cons_zero, List.set_cons_succ]
      refine rh.go_last rfl (by kernel_rfl) (fun K2 hK => ?_)
      go_simp
      refine hK.out _ _ ?_
      refine NoPanic.normal ?_
      clear hK K2
      have hb3 := HB0.out.trans (hk.mono HB0.out.size)
      have HBr3 := Lib.hid (HBr.out.on hk)
      have HBa3 := Lib.hid (HBa.out.on hk)
      have HBb3 := Lib.hid (HBb.out.on hk)
      obtain ⟨z0, z1, z2, z3, z4, z5⟩ := HBr3.out.get
      have f0 := World.rowIs.frozen HBr3.out 0
      have f1 := World.rowIs.frozen HBr3.out 1
      have f2 := World.rowIs.frozen HBr3.out 2
      have f3 := World.rowIs.frozen HBr3.out 3
      have f4 := World.rowIs.frozen HBr3.out 4
      have f5 := World.rowIs.frozen HBr3.out 5
      go_wp2_with fail
      refine bodyPost_ret (v := .tuple #[.agg #[.int .i64 0, .slice none 0 0, .slice none 0 0, .int .i64 0, .slice none 0 0, .slice none 0 0], .bool false]) (by simp [results, Tryz.results48, go_sem, z0, z1, z2, z3, z4, z5]) rfl ⟨_, rfl, BigR.zero, sets6_below hb3 (by omega) _ _ _ _ _ _⟩
    | true =>
      rw [hgb] at HGb
      cases hf : apB (nms a.inner) (nms b.inner) with
      | false =>
        have HAp := Lib.hid hf
        have HR := Lib.hid (mp_no (cs := cs) (a := a) (b := b) (by unfold ppP; rw [hga, hgb, hf]; rfl))
        rw [HR.out.1, HR.out.2]
        clear hga hgb hf hs hC
        go_enter Tryz.func48, Tryz.ntmps48
        go_wp2_with fail
        rw [HUq.out, HWq.out, HXq.out]
        go_wp2_with fail
        clear x0 x1 x2 x3 x4 x5 y0 y1 y2 y3 y4 y5
        have hk := (Below.refl X.heap.size X).drew
        refine rh.go_begin 17 (fun w' => (w'.cell? ⟨w.heap.size, 0, none⟩ = some (.int .i64 a.roots) ∧ w'.cell? ⟨w.heap.size, 1, none⟩ = some (.slice A1 n1 c1) ∧ w'.cell? ⟨w.heap.size, 2, none⟩ = some (.slice A2 n2 c2) ∧ w'.cell? ⟨w.heap.size, 3, none⟩ = some (.int .i64 a.edges) ∧ w'.cell? ⟨w.heap.size, 4, none⟩ = some (.slice A4 n4 c4) ∧ w'.cell? ⟨w.heap.size, 5, none⟩ = some (.slice A5 n5 c5) ∧ w'.cell? ⟨w.heap.size + 1, 0, none⟩ = some (.int .i64 b.roots) ∧ w'.cell? ⟨w.heap.size + 1, 1, none⟩ = some (.slice B1 m1 d1) ∧ w'.cell? ⟨w.heap.size + 1, 2, none⟩ = some (.slice B2 m2 d2) ∧ w'.cell? ⟨w.heap.size + 1, 3, none⟩ = some (.int .i64 b.edges) ∧ w'.cell? ⟨w.heap.size + 1, 4, none⟩ = some (.slice B4 m4 d4) ∧ w'.cell? ⟨w.heap.size + 1, 5, none⟩ = some (.slice B5 m5 d5))) (by kernel_rfl) ?_ (fun hHeld => ?_)
        · ((try dsimp only); exact HS.out _ (by go_grown))
        refine rh.go_take (i := 0) (v := ?v16) rfl (by kernel_rfl) (fun _ _ _ h => h) (Or.inl ⟨by rfl, ?hy16⟩) (by assumption) ?rest16
        case hy16 => (intro wS hSw; (try dsimp only at hSw); go_simp; try (with_reducible rfl))
        try simp only [Act.put, List.setIfInBounds_toArray, List.set_cons_zero, List.set_cons_succ]
        refine rh.go_take (i := 1) (v := ?v17) rfl (by kernel_rfl) (fun _ _ _ h => h) (Or.inl ⟨by rfl, ?hy17⟩) (by assumption) ?rest17
        case hy17 => (intro wS hSw; (try dsimp only at hSw); go_simp; try (with_reducible rfl))
        try simp only [Act.put, List.setIfInBounds_toArray, List.set_cons_zero, List.set_cons_succ]
        refine rh.go_next (i := 2) rfl (by kernel_rfl) (fun K2 hK => ?_)
        go_simp
        go_at_call 94
        refine (HGa.out _ (HB0.out.trans (hk.mono HB0.out.size))).mono ?_
        rintro e w1 ⟨rfl, hb⟩
        have hk := hk.trans (hb.mono hk.size)
        clear hb
        go_wp2_with fail
        refine hK.out _ _ ?_ (fun hHeld => ?_)
        · ((try dsimp only); exact HS.out _ hk)
        clear hK K2 hHeld
        try simp only [Act.put, List.setIfInBounds_toArray, List.set_cons_zero, List.set_cons_succ]
        have hHeld1 := HS.out _ hk
        refine rh.go_take (i := 3) (v := ?v18) rfl (by kernel_rfl) (fun _ _ _ h => h) (Or.inl ⟨by rfl, ?hy18⟩) (by assumption) ?rest18
        case hy18 => (intro wS hSw; (try dsimp only at hSw); go_simp; try (with_reducible rfl))
        try simp only [Act.put, List.setIfInBounds_toArray, List.set_cons_zero, List.set_cons_succ]
        refine rh.go_take (i := 4) (v := ?v19) rfl (by kernel_rfl) (fun _ _ _ h => h) (Or.inl ⟨by rfl, ?hy19⟩) (by assumption) ?rest19
        case hy19 => (intro wS hSw; (try dsimp only at hSw); go_simp; try (with_reducible rfl))
        try simp only [Act.put, List.setIfInBounds_toArray, List.set_cons_zero, List.set_cons_succ]
        refine rh.go_take (i := 5) (v := ?v20) rfl (by kernel_rfl) (fun _ _ _ h => h) (Or.inl ⟨by rfl, ?hy20⟩) (by assumption) ?rest20
        case hy20 => (intro wS hSw; (try dsimp only at hSw); go_simp; try (with_reducible rfl))
        try simp only [Act.put, List.setIfInBounds_toArray, List.set_cons_zero, List.set_cons_succ]
        refine rh.go_take (i := 6) (v := ?v21) rfl (by kernel_rfl) (fun _ _ _ h => h) (Or.inl ⟨by rfl, ?hy21⟩) (by assumption) ?rest21
        case hy21 => (intro wS hSw; (try dsimp only at hSw); go_simp; try (with_reducible rfl))
        try simp only [Act.put, List.setIfInBounds_toArray, List.set_cons_zero, List.set_cons_succ]
        refine rh.go_next (i := 7) rfl (by kernel_rfl) (fun K2 hK => ?_)
        go_simp
        go_at_call 94
        refine (HGb.out _ (HB0.out.trans (hk.mono HB0.out.size))).mono ?_
        rintro e w2 ⟨rfl, hb⟩
        have hk := hk.trans (hb.mono hk.size)
        clear hb hHeld1
        go_wp2_with fail
        refine hK.out _ _ ?_ (fun hHeld => ?_)
        · ((try dsimp only); exact HS.out _ hk)
        clear hK K2 hHeld
        try simp only [Act.put, List.setIfInBounds_toArray, List.set_cons_zero, List.set_cons_succ]
        have hHeld2 := HS.out _ hk
        refine rh.go_take (i := 8) (v := ?v22) rfl (by kernel_rfl) (fun _ _ _ h => h) (Or.inl ⟨by rfl, ?hy22⟩) (by assumption) ?rest22
        case hy22 => (intro wS hSw; (try dsimp only at hSw); go_simp; try (with_reducible rfl))
        try simp only [Act.put, List.setIfInBounds_toArray, List.set_cons_zero, List.set_cons_succ]
        refine rh.go_take (i := 9) (v := ?v23) rfl (by kernel_rfl) (fun _ _ _ h => h) (Or.inl ⟨by rfl, ?hy23⟩) (by assumption) ?rest23
        case hy23 => (intro wS hSw; (try dsimp only at hSw); go_simp; try (with_reducible rfl))
        try simp only [Act.put, List.setIfInBounds_toArray, List.set_cons_zero, List.set_cons_succ]
        refine rh.go_take (i := 10) (v := ?v24) rfl (by kernel_rfl) (fun _ _ _ h => h) (Or.inl ⟨by rfl, ?hy24⟩) (by assumption) ?rest24
        case hy24 => (intro wS hSw; (try dsimp only at hSw); go_simp; try (with_reducible rfl))
        try simp only [Act.put, List.setIfInBounds_toArray, List.set_cons_zero, List.set_cons_succ]
        refine rh.go_take (i := 11) (v := ?v25) rfl (by kernel_rfl) (fun _ _ _ h => h) (Or.inl ⟨by rfl, ?hy25⟩) (by assumption) ?rest25
        case hy25 => (intro wS hSw; (try dsimp only at hSw); go_simp; try (with_reducible rfl))
        try simp only [Act.put, List.setIfInBounds_toArray, List.set_cons_zero, List.set_cons_succ]
        refine rh.go_take (i := 13) (v := ?v26) rfl (by kernel_rfl) (fun _ _ _ h => h) (Or.inl ⟨by rfl, ?hy26⟩) (by assumption) ?rest26
        case hy26 => (intro wS hSw; (try dsimp only at hSw); go_simp; try (with_reducible rfl))
        try simp only [Act.put, List.setIfInBounds_toArray, List.set_cons_zero, List.set_cons_succ]
        refine rh.go_next (i := 12) rfl (by kernel_rfl) (fun K2 hK => ?_)
        go_simp
        go_at_call 115
        refine (HIa.out _ (HB0.out.trans (hk.mono HB0.out.size))).mono ?_
        rintro e w21 ⟨A21, c21, rfl, hsa, hb⟩
        have hk := hk.trans (hb.mono hk.size)
        have HSA := Lib.hid hsa
        clear hb hsa hHeld2
        go_wp2_with fail
        refine hK.out _ _ ?_ (fun hHeld => ?_)
        · ((try dsimp only); exact HS.out _ hk)
        clear hK K2 hHeld
        try simp only [Act.put, List.setIfInBounds_toArray, List.set_cons_zero, List.set_cons_succ]
        refine rh.go_next (i := 14) rfl (by kernel_rfl) (fun K2 hK => ?_)
        go_simp
        go_at_call 115
        refine (HIb.out _ (HB0.out.trans (hk.mono HB0.out.size))).mono ?_
        rintro e w3 ⟨A31, c31, rfl, hsb, hb⟩
        have hk := hk.trans (hb.mono hk.size)
        have HSA := Lib.hid (HSA.out.below hb)
        have HSB := Lib.hid hsb
        clear hb hsb
        go_wp2_with fail
        refine hK.out _ _ ?_ (fun hHeld => ?_)
        · ((try dsimp only); exact HS.out _ hk)
        clear hK K2 hHeld
        try simp only [Act.put, List.setIfInBounds_toArray, List.set_cons_zero, List.set_cons_succ]
        refine rh.go_next (i := 15) rfl (by kernel_rfl) (fun K2 hK => ?_)
        go_simp
        go_at_call 114
        have CA := apr_any A21 A31 n5 c21 m5 c31 _ _ (nms a.inner) (nms b.inner) w3 HSA.out HSB.out HQ.out.1 HQ.out.2
        rw [HAp.out] at CA
        refine CA.mono ?_
        rintro e w33 ⟨rfl, rfl⟩
        clear CA
        go_wp2_with fail
        refine hK.out _ _ ?_ (fun hHeld => ?_)
        · ((try dsimp only); exact HS.out _ hk)
        clear hK K2 hHeld
        try simp only [Act.put, List.setIfInBounds_toArray, List.set_cons_zero, List.set_cons_succ]
        have hHeld3 := HS.out _ hk
        refine rh.go_take (i := 16) (v := ?v27) rfl (by kernel_rfl) (fun _ _ _ h => h) (Or.inl ⟨by rfl, ?hy27⟩) (by assumption) ?rest27
        case hy27 => (intro wS hSw; (try dsimp only at hSw); go_simp; try (with_reducible rfl))
        try simp only [Act.put, List.setIfInBounds_toArray, List.set_cons_zero, List.set_cons_succ]
        refine rh.go_last rfl (by kernel_rfl) (fun K2 hK => ?_)
        go_simp
        refine hK.out _ _ ?_
        refine NoPanic.normal ?_
        clear hK K2
        have hb3 := HB0.out.trans (hk.mono HB0.out.size)
        have HBr3 := Lib.hid (HBr.out.on hk)
        have HBa3 := Lib.hid (HBa.out.on hk)
        have HBb3 := Lib.hid (HBb.out.on hk)
        obtain ⟨z0, z1, z2, z3, z4, z5⟩ := HBr3.out.get
        have f0 := World.rowIs.frozen HBr3.out 0
        have f1 := World.rowIs.frozen HBr3.out 1
        have f2 := World.rowIs.frozen HBr3.out 2
        have f3 := World.rowIs.frozen HBr3.out 3
        have f4 := World.rowIs.frozen HBr3.out 4
        have f5 := World.rowIs.frozen HBr3.out 5
        go_wp2_with fail
        refine bodyPost_ret (v := .tuple #[.agg #[.int .i64 0, .slice none 0 0, .slice none 0 0, .int .i64 0, .slice none 0 0, .slice none 0 0], .bool false]) (by simp [results, Tryz.results48, go_sem, z0, z1, z2, z3, z4, z5]) rfl ⟨_, rfl, BigR.zero, sets6_below hb3 (by omega) _ _ _ _ _ _⟩
      | true =>
        have HAp := Lib.hid hf
        have hP : ppP cs a b = true := by unfold ppP; rw [hga, hgb, hf]; rfl
        have hTa := sd_tame hga hgb hSa hSb (innW_perm (wnA a b) (wnB a b))
        have hTo := on_tame hTa
        have HSn := Lib.hid (sd_sane hga hgb)
        have HCd := Lib.hid (fun (Y : World) (hY : Below w.heap.size w Y) => sid_any cs (.agg #[.int .i64 a.roots, .slice A1 n1 c1, .slice A2 n2 c2, .int .i64 a.edges, .slice A4 n4 c4, .slice A5 n5 c5]) a (.agg #[.int .i64 b.roots, .slice B1 m1 d1, .slice B2 m2 d2, .int .i64 b.edges, .slice B4 m4 d4, .slice B5 m5 d5]) b Y (hVa.out Y hY) hSa hNa hga (hVb.out Y hY) hSb hNb hgb)
        have hMr : (sdB a b (sdW a b)).roots = a.roots + b.roots := rfl
        by_cases hr : a.roots + b.roots ≤ 4
        · have HR := Lib.hid (mp_spec hP hr)
          have HGv := Lib.hid (fun (v2 : Value) (Y : World) (hY : Below w.heap.size w Y) (hr : BigR Y w.heap.size Y.heap.size v2 (onB (sdB a b (sdW a b)))) => give_any A n c cs v2 (onB (sdB a b (sdW a b))) w Y hC hY hn hs hr hTo.S hTo.W)
          rw [HR.out.1, HR.out.2]
          rw [show onB (sdB a b (sdW a b)) = onB (mpS a b) from rfl] at HGv
          rw [show sdB a b (sdW a b) = mpS a b from rfl] at HCd hMr
          obtain ⟨Mb, hMb⟩ : ∃ Mb, mpS a b = Mb := ⟨_, rfl⟩
          rw [hMb] at HCd HGv HSn hMr ⊢
          have hle : Mb.roots ≤ 4 := by rw [hMr]; exact hr
          have HOn := Lib.hid (fun (v : Value) (Y : World) (hv : BigAt Y Y.heap.size v Mb) (hN : NilV v) => one_gen v Mb Y hv hN HSn.out)
          obtain ⟨Ob, hOb⟩ : ∃ Ob, onB Mb = Ob := ⟨_, rfl⟩
          rw [hOb] at HGv HOn ⊢
          obtain ⟨Lb, hLb⟩ : ∃ Lb, giveR cs Ob = Lb := ⟨_, rfl⟩
          obtain ⟨q4', hq4⟩ : ∃ q4, bigB cs Ob = q4 := ⟨_, rfl⟩
          rw [hLb, hq4]
          rw [hLb, hq4] at HGv
          clear hLb hq4 hMb hOb hMr hP hr HSn hTa hTo hf hga hgb hSa hwa hNa hSb hwb hNb hC hn hs HR h1 h2 h4 h5 k1 k2 k4 k5 hVa hVb
          go_enter Tryz.func48, Tryz.ntmps48
          go_wp2_with fail
          rw [HUq.out, HWq.out, HXq.out]
          go_wp2_with fail
          clear x0 x1 x2 x3 x4 x5 y0 y1 y2 y3 y4 y5
          have hk := (Below.refl X.heap.size X).drew
          refine rh.go_begin 17 (fun w' => (w'.cell? ⟨w.heap.size, 0, none⟩ = some (.int .i64 a.roots) ∧ w'.cell? ⟨w.heap.size, 1, none⟩ = some (.slice A1 n1 c1) ∧ w'.cell? ⟨w.heap.size, 2, none⟩ = some (.slice A2 n2 c2) ∧ w'.cell? ⟨w.heap.size, 3, none⟩ = some (.int .i64 a.edges) ∧ w'.cell? ⟨w.heap.size, 4, none⟩ = some (.slice A4 n4 c4) ∧ w'.cell? ⟨w.heap.size, 5, none⟩ = some (.slice A5 n5 c5) ∧ w'.cell? ⟨w.heap.size + 1, 0, none⟩ = some (.int .i64 b.roots) ∧ w'.cell? ⟨w.heap.size + 1, 1, none⟩ = some (.slice B1 m1 d1) ∧ w'.cell? ⟨w.heap.size + 1, 2, none⟩ = some (.slice B2 m2 d2) ∧ w'.cell? ⟨w.heap.size + 1, 3, none⟩ = some (.int .i64 b.edges) ∧ w'.cell? ⟨w.heap.size + 1, 4, none⟩ = some (.slice B4 m4 d4) ∧ w'.cell? ⟨w.heap.size + 1, 5, none⟩ = some (.slice B5 m5 d5))) (by kernel_rfl) ?_ (fun hHeld => ?_)
          · ((try dsimp only); exact HS.out _ (by go_grown))
          refine rh.go_take (i := 0) (v := ?v28) rfl (by kernel_rfl) (fun _ _ _ h => h) (Or.inl ⟨by rfl, ?hy28⟩) (by assumption) ?rest28
          case hy28 => (intro wS hSw; (try dsimp only at hSw); go_simp; try (with_reducible rfl))
          try simp only [Act.put, List.setIfInBounds_toArray, List.set_cons_zero, List.set_cons_succ]
          refine rh.go_take (i := 1) (v := ?v29) rfl (by kernel_rfl) (fun _ _ _ h => h) (Or.inl ⟨by rfl, ?hy29⟩) (by assumption) ?rest29
          case hy29 => (intro wS hSw; (try dsimp only at hSw); go_simp; try (with_reducible rfl))
          try simp only [Act.put, List.setIfInBounds_toArray, List.set_cons_zero, List.set_cons_succ]
          refine rh.go_next (i := 2) rfl (by kernel_rfl) (fun K2 hK => ?_)
          go_simp
          go_at_call 94
          refine (HGa.out _ (HB0.out.trans (hk.mono HB0.out.size))).mono ?_
          rintro e w1 ⟨rfl, hb⟩
          have hk := hk.trans (hb.mono hk.size)
          clear hb
          go_wp2_with fail
          refine hK.out _ _ ?_ (fun hHeld => ?_)
          · ((try dsimp only); exact HS.out _ hk)
          clear hK K2 hHeld
          try simp only [Act.put, List.setIfInBounds_toArray, List.set_cons_zero, List.set_cons_succ]
          have hHeld1 := HS.out _ hk
          refine rh.go_take (i := 3) (v := ?v30) rfl (by kernel_rfl) (fun _ _ _ h => h) (Or.inl ⟨by rfl, ?hy30⟩) (by assumption) ?rest30
          case hy30 => (intro wS hSw; (try dsimp only at hSw); go_simp; try (with_reducible rfl))
          try simp only [Act.put, List.setIfInBounds_toArray, List.set_cons_zero, List.set_cons_succ]
          refine rh.go_take (i := 4) (v := ?v31) rfl (by kernel_rfl) (fun _ _ _ h => h) (Or.inl ⟨by rfl, ?hy31⟩) (by assumption) ?rest31
          case hy31 => (intro wS hSw; (try dsimp only at hSw); go_simp; try (with_reducible rfl))
          try simp only [Act.put, List.setIfInBounds_toArray, List.set_cons_zero, List.set_cons_succ]
          refine rh.go_take (i := 5) (v := ?v32) rfl (by kernel_rfl) (fun _ _ _ h => h) (Or.inl ⟨by rfl, ?hy32⟩) (by assumption) ?rest32
          case hy32 => (intro wS hSw; (try dsimp only at hSw); go_simp; try (with_reducible rfl))
          try simp only [Act.put, List.setIfInBounds_toArray, List.set_cons_zero, List.set_cons_succ]
          refine rh.go_take (i := 6) (v := ?v33) rfl (by kernel_rfl) (fun _ _ _ h => h) (Or.inl ⟨by rfl, ?hy33⟩) (by assumption) ?rest33
          case hy33 => (intro wS hSw; (try dsimp only at hSw); go_simp; try (with_reducible rfl))
          try simp only [Act.put, List.setIfInBounds_toArray, List.set_cons_zero, List.set_cons_succ]
          refine rh.go_next (i := 7) rfl (by kernel_rfl) (fun K2 hK => ?_)
          go_simp
          go_at_call 94
          refine (HGb.out _ (HB0.out.trans (hk.mono HB0.out.size))).mono ?_
          rintro e w2 ⟨rfl, hb⟩
          have hk := hk.trans (hb.mono hk.size)
          clear hb hHeld1
          go_wp2_with fail
          refine hK.out _ _ ?_ (fun hHeld => ?_)
          · ((try dsimp only); exact HS.out _ hk)
          clear hK K2 hHeld
          try simp only [Act.put, List.setIfInBounds_toArray, List.set_cons_zero, List.set_cons_succ]
          have hHeld2 := HS.out _ hk
          refine rh.go_take (i := 8) (v := ?v34) rfl (by kernel_rfl) (fun _ _ _ h => h) (Or.inl ⟨by rfl, ?hy34⟩) (by assumption) ?rest34
          case hy34 => (intro wS hSw; (try dsimp only at hSw); go_simp; try (with_reducible rfl))
          try simp only [Act.put, List.setIfInBounds_toArray, List.set_cons_zero, List.set_cons_succ]
          refine rh.go_take (i := 9) (v := ?v35) rfl (by kernel_rfl) (fun _ _ _ h => h) (Or.inl ⟨by rfl, ?hy35⟩) (by assumption) ?rest35
          case hy35 => (intro wS hSw; (try dsimp only at hSw); go_simp; try (with_reducible rfl))
          try simp only [Act.put, List.setIfInBounds_toArray, List.set_cons_zero, List.set_cons_succ]
          refine rh.go_take (i := 10) (v := ?v36) rfl (by kernel_rfl) (fun _ _ _ h => h) (Or.inl ⟨by rfl, ?hy36⟩) (by assumption) ?rest36
          case hy36 => (intro wS hSw; (try dsimp only at hSw); go_simp; try (with_reducible rfl))
          try simp only [Act.put, List.setIfInBounds_toArray, List.set_cons_zero, List.set_cons_succ]
          refine rh.go_take (i := 11) (v := ?v37) rfl (by kernel_rfl) (fun _ _ _ h => h) (Or.inl ⟨by rfl, ?hy37⟩) (by assumption) ?rest37
          case hy37 => (intro wS hSw; (try dsimp only at hSw); go_simp; try (with_reducible rfl))
          try simp only [Act.put, List.setIfInBounds_toArray, List.set_cons_zero, List.set_cons_succ]
          refine rh.go_take (i := 13) (v := ?v38) rfl (by kernel_rfl) (fun _ _ _ h => h) (Or.inl ⟨by rfl, ?hy38⟩) (by assumption) ?rest38
          case hy38 => (intro wS hSw; (try dsimp only at hSw); go_simp; try (with_reducible rfl))
          try simp only [Act.put, List.setIfInBounds_toArray, List.set_cons_zero, List.set_cons_succ]
          refine rh.go_next (i := 12) rfl (by kernel_rfl) (fun K2 hK => ?_)
          go_simp
          go_at_call 115
          refine (HIa.out _ (HB0.out.trans (hk.mono HB0.out.size))).mono ?_
          rintro e w21 ⟨A21, c21, rfl, hsa, hb⟩
          have hk := hk.trans (hb.mono hk.size)
          have HSA := Lib.hid hsa
          clear hb hsa hHeld2
          go_wp2_with fail
          refine hK.out _ _ ?_ (fun hHeld => ?_)
          · ((try dsimp only); exact HS.out _ hk)
          clear hK K2 hHeld
          try simp only [Act.put, List.setIfInBounds_toArray, List.set_cons_zero, List.set_cons_succ]
          refine rh.go_next (i := 14) rfl (by kernel_rfl) (fun K2 hK => ?_)
          go_simp
          go_at_call 115
          refine (HIb.out _ (HB0.out.trans (hk.mono HB0.out.size))).mono ?_
          rintro e w3 ⟨A31, c31, rfl, hsb, hb⟩
          have hk := hk.trans (hb.mono hk.size)
          have HSA := Lib.hid (HSA.out.below hb)
          have HSB := Lib.hid hsb
          clear hb hsb
          go_wp2_with fail
          refine hK.out _ _ ?_ (fun hHeld => ?_)
          · ((try dsimp only); exact HS.out _ hk)
          clear hK K2 hHeld
          try simp only [Act.put, List.setIfInBounds_toArray, List.set_cons_zero, List.set_cons_succ]
          refine rh.go_next (i := 15) rfl (by kernel_rfl) (fun K2 hK => ?_)
          go_simp
          go_at_call 114
          have CA := apr_any A21 A31 n5 c21 m5 c31 _ _ (nms a.inner) (nms b.inner) w3 HSA.out HSB.out HQ.out.1 HQ.out.2
          rw [HAp.out] at CA
          refine CA.mono ?_
          rintro e w33 ⟨rfl, rfl⟩
          clear CA
          go_wp2_with fail
          refine hK.out _ _ ?_ (fun hHeld => ?_)
          · ((try dsimp only); exact HS.out _ hk)
          clear hK K2 hHeld
          try simp only [Act.put, List.setIfInBounds_toArray, List.set_cons_zero, List.set_cons_succ]
          have hHeld3 := HS.out _ hk
          refine rh.go_take (i := 16) (v := ?v39) rfl (by kernel_rfl) (fun _ _ _ h => h) (Or.inl ⟨by rfl, ?hy39⟩) (by assumption) ?rest39
          case hy39 => (intro wS hSw; (try dsimp only at hSw); go_simp; try (with_reducible rfl))
          try simp only [Act.put, List.setIfInBounds_toArray, List.set_cons_zero, List.set_cons_succ]
          refine rh.go_last rfl (by kernel_rfl) (fun K2 hK => ?_)
          go_simp
          refine hK.out _ _ ?_
          refine NoPanic.normal ?_
          clear hK K2
          have hb3 := HB0.out.trans (hk.mono HB0.out.size)
          have HBr3 := Lib.hid (HBr.out.on hk)
          have HBa3 := Lib.hid (HBa.out.on hk)
          have HBb3 := Lib.hid (HBb.out.on hk)
          obtain ⟨x0, x1, x2, x3, x4, x5⟩ := HBa3.out.get
          obtain ⟨y0, y1, y2, y3, y4, y5⟩ := HBb3.out.get
          have C2 := HCd.out w3 hb3
          go_wp2_with fail
          refine C2.mono ?_
          rintro e w4 ⟨v4, rfl, hr4, hb⟩
          have HNl := Lib.hid (nil_big hr4)
          obtain ⟨E1, f1, E2, f2, E4, f4, E5, f5, rfl⟩ := hr4.shape
          have hbX := (Below.refl w4.heap.size w4).alloc (Nat.le_refl _) (.cells #[.int .i64 Mb.roots, .slice E1 Mb.nodes.length f1, .slice E2 Mb.sites.length f2, .int .i64 Mb.edges, .slice E4 Mb.outer.length f4, .slice E5 Mb.inner.length f5] 36)
          have hbx : BoxAt (w4.alloc (.cells #[.int .i64 Mb.roots, .slice E1 Mb.nodes.length f1, .slice E2 Mb.sites.length f2, .int .i64 Mb.edges, .slice E4 Mb.outer.length f4, .slice E5 Mb.inner.length f5] 36)) w4.heap.size 36 (.int .i64 Mb.roots) (.slice E1 Mb.nodes.length f1) (.slice E2 Mb.sites.length f2) (.int .i64 Mb.edges) (.slice E4 Mb.outer.length f4) (.slice E5 Mb.inner.length f5) := six_new w4 _ _ _ _ _ _ _
          have hb2 := hb.trans (hbX.mono hb.size)
          have HB4 := Lib.hid (hb3.trans (hb2.mono hb3.size))
          have HBr4 := Lib.hid (HBr3.out.on hb2)
          have HBx4 := Lib.hid hbx
          have HRb4 := Lib.hid ((hr4.on hbX).here)
          clear hr4 hb hbx hb2 x0 x1 x2 x3 x4 x5 y0 y1 y2 y3 y4 y5 C2
          obtain ⟨t0, t1, t2, t3, t4, t5⟩ := HBx4.out.get
          go_wp2_with fail
          obtain ⟨w5, hq5⟩ : ∃ w5, w4.alloc (.cells #[.int .i64 Mb.roots, .slice E1 Mb.nodes.length f1, .slice E2 Mb.sites.length f2, .int .i64 Mb.edges, .slice E4 Mb.outer.length f4, .slice E5 Mb.inner.length f5] 36) = w5 := ⟨_, rfl⟩
          rw [hq5] at HB4 HBr4 HBx4 HRb4 hbX ⊢
          clear hq5 hbX t0 t1 t2 t3 t4 t5
          refine (HOn.out _ w5 HRb4.out.at HNl.out).mono ?_
          rintro e w6 ⟨v6, rfl, hr6, hb6⟩
          have HB6 := Lib.hid (HB4.out.trans (hb6.mono HB4.out.size))
          have HBr6 := Lib.hid (HBr4.out.on hb6)
          have C7 := HGv.out v6 w6 HB6.out (hr6.wide HB4.out.size (Nat.le_refl _))
          clear hr6 hb6
          go_wp2_with fail
          refine C7.mono ?_
          rintro e w7 ⟨v7, rfl, hr7, hb⟩
          obtain ⟨D1, g1, D2, g2, D4, g4, D5, g5, rfl⟩ := hr7.shape
          have HB7 := Lib.hid (HB6.out.trans (hb.mono HB6.out.size))
          have HBr7 := Lib.hid (HBr6.out.on hb)
          have HR7 := Lib.hid hr7
          clear hr7 hb C7
          obtain ⟨z0, z1, z2, z3, z4, z5⟩ := HBr7.out.get
          have f0 := World.rowIs.frozen HBr7.out 0
          have f1 := World.rowIs.frozen HBr7.out 1
          have f2 := World.rowIs.frozen HBr7.out 2
          have f3 := World.rowIs.frozen HBr7.out 3
          have f4 := World.rowIs.frozen HBr7.out 4
          have f5 := World.rowIs.frozen HBr7.out 5
          go_wp2_with fail
          have hbig := (sets6_big HBr7.out HR7.out (.int .i64 Lb.roots) (.slice D1 Lb.nodes.length g1) (.slice D2 Lb.sites.length g2) (.int .i64 Lb.edges) (.slice D4 Lb.outer.length g4) (.slice D5 Lb.inner.length g5)).here
          have hbel := sets6_below HB7.out (Nat.le_add_right w.heap.size 2) (.int .i64 Lb.roots) (.slice D1 Lb.nodes.length g1) (.slice D2 Lb.sites.length g2) (.int .i64 Lb.edges) (.slice D4 Lb.outer.length g4) (.slice D5 Lb.inner.length g5)
          unfold sets6 at hbig hbel
          refine bodyPost_ret (v := .tuple #[.agg #[.int .i64 Lb.roots, .slice D1 Lb.nodes.length g1, .slice D2 Lb.sites.length g2, .int .i64 Lb.edges, .slice D4 Lb.outer.length g4, .slice D5 Lb.inner.length g5], .bool q4']) (by simp [results, Tryz.results48, go_sem, z0, z1, z2, z3, z4, z5]) rfl ⟨_, rfl, hbig, hbel⟩
        · have HR := Lib.hid (mp_far hP hr)
          rw [HR.out.1, HR.out.2]
          obtain ⟨Mb, hMb⟩ : ∃ Mb, sdB a b (sdW a b) = Mb := ⟨_, rfl⟩
          rw [hMb] at HCd hMr
          have hle : ¬ Mb.roots ≤ 4 := by rw [hMr]; exact hr
          clear hMb hMr hP hr HSn hTa hTo hf hga hgb hSa hwa hNa hSb hwb hNb hC hn hs HR h1 h2 h4 h5 k1 k2 k4 k5 hVa hVb
          go_enter Tryz.func48, Tryz.ntmps48
          go_wp2_with fail
          rw [HUq.out, HWq.out, HXq.out]
          go_wp2_with fail
          clear x0 x1 x2 x3 x4 x5 y0 y1 y2 y3 y4 y5
          have hk := (Below.refl X.heap.size X).drew
          refine rh.go_begin 17 (fun w' => (w'.cell? ⟨w.heap.size, 0, none⟩ = some (.int .i64 a.roots) ∧ w'.cell? ⟨w.heap.size, 1, none⟩ = some (.slice A1 n1 c1) ∧ w'.cell? ⟨w.heap.size, 2, none⟩ = some (.slice A2 n2 c2) ∧ w'.cell? ⟨w.heap.size, 3, none⟩ = some (.int .i64 a.edges) ∧ w'.cell? ⟨w.heap.size, 4, none⟩ = some (.slice A4 n4 c4) ∧ w'.cell? ⟨w.heap.size, 5, none⟩ = some (.slice A5 n5 c5) ∧ w'.cell? ⟨w.heap.size + 1, 0, none⟩ = some (.int .i64 b.roots) ∧ w'.cell? ⟨w.heap.size + 1, 1, none⟩ = some (.slice B1 m1 d1) ∧ w'.cell? ⟨w.heap.size + 1, 2, none⟩ = some (.slice B2 m2 d2) ∧ w'.cell? ⟨w.heap.size + 1, 3, none⟩ = some (.int .i64 b.edges) ∧ w'.cell? ⟨w.heap.size + 1, 4, none⟩ = some (.slice B4 m4 d4) ∧ w'.cell? ⟨w.heap.size + 1, 5, none⟩ = some (.slice B5 m5 d5))) (by kernel_rfl) ?_ (fun hHeld => ?_)
          · ((try dsimp only); exact HS.out _ (by go_grown))
          refine rh.go_take (i := 0) (v := ?v40) rfl (by kernel_rfl) (fun _ _ _ h => h) (Or.inl ⟨by rfl, ?hy40⟩) (by assumption) ?rest40
          case hy40 => (intro wS hSw; (try dsimp only at hSw); go_simp; try (with_reducible rfl))
          try simp only [Act.put, List.setIfInBounds_toArray, List.set_cons_zero, List.set_cons_succ]
          refine rh.go_take (i := 1) (v := ?v41) rfl (by kernel_rfl) (fun _ _ _ h => h) (Or.inl ⟨by rfl, ?hy41⟩) (by assumption) ?rest41
          case hy41 => (intro wS hSw; (try dsimp only at hSw); go_simp; try (with_reducible rfl))
          try simp only [Act.put, List.setIfInBounds_toArray, List.set_cons_zero, List.set_cons_succ]
          refine rh.go_next (i := 2) rfl (by kernel_rfl) (fun K2 hK => ?_)
          go_simp
          go_at_call 94
          refine (HGa.out _ (HB0.out.trans (hk.mono HB0.out.size))).mono ?_
          rintro e w1 ⟨rfl, hb⟩
          have hk := hk.trans (hb.mono hk.size)
          clear hb
          go_wp2_with fail
          refine hK.out _ _ ?_ (fun hHeld => ?_)
          · ((try dsimp only); exact HS.out _ hk)
          clear hK K2 hHeld
          try simp only [Act.put, List.setIfInBounds_toArray, List.set_cons_zero, List.set_cons_succ]
          have hHeld1 := HS.out _ hk
          refine rh.go_take (i := 3) (v := ?v42) rfl (by kernel_rfl) (fun _ _ _ h => h) (Or.inl ⟨by rfl, ?hy42⟩) (by assumption) ?rest42
          case hy42 => (intro wS hSw; (try dsimp only at hSw); go_simp; try (with_reducible rfl))
          try simp only [Act.put, List.setIfInBounds_toArray, List.set_cons_zero, List.set_cons_succ]
          refine rh.go_take (i := 4) (v := ?v43) rfl (by kernel_rfl) (fun _ _ _ h => h) (Or.inl ⟨by rfl, ?hy43⟩) (by assumption) ?rest43
          case hy43 => (intro wS hSw; (try dsimp only at hSw); go_simp; try (with_reducible rfl))
          try simp only [Act.put, List.setIfInBounds_toArray, List.set_cons_zero, List.set_cons_succ]
          refine rh.go_take (i := 5) (v := ?v44) rfl (by kernel_rfl) (fun _ _ _ h => h) (Or.inl ⟨by rfl, ?hy44⟩) (by assumption) ?rest44
          case hy44 => (intro wS hSw; (try dsimp only at hSw); go_simp; try (with_reducible rfl))
          try simp only [Act.put, List.setIfInBounds_toArray, List.set_cons_zero, List.set_cons_succ]
          refine rh.go_take (i := 6) (v := ?v45) rfl (by kernel_rfl) (fun _ _ _ h => h) (Or.inl ⟨by rfl, ?hy45⟩) (by assumption) ?rest45
          case hy45 => (intro wS hSw; (try dsimp only at hSw); go_simp; try (with_reducible rfl))
          try simp only [Act.put, List.setIfInBounds_toArray, List.set_cons_zero, List.set_cons_succ]
          refine rh.go_next (i := 7) rfl (by kernel_rfl) (fun K2 hK => ?_)
          go_simp
          go_at_call 94
          refine (HGb.out _ (HB0.out.trans (hk.mono HB0.out.size))).mono ?_
          rintro e w2 ⟨rfl, hb⟩
          have hk := hk.trans (hb.mono hk.size)
          clear hb hHeld1
          go_wp2_with fail
          refine hK.out _ _ ?_ (fun hHeld => ?_)
          · ((try dsimp only); exact HS.out _ hk)
          clear hK K2 hHeld
          try simp only [Act.put, List.setIfInBounds_toArray, List.set_cons_zero, List.set_cons_succ]
          have hHeld2 := HS.out _ hk
          refine rh.go_take (i := 8) (v := ?v46) rfl (by kernel_rfl) (fun _ _ _ h => h) (Or.inl ⟨by rfl, ?hy46⟩) (by assumption) ?rest46
          case hy46 => (intro wS hSw; (try dsimp only at hSw); go_simp; try (with_reducible rfl))
          try simp only [Act.put, List.setIfInBounds_toArray, List.set_cons_zero, List.set_cons_succ]
          refine rh.go_take (i := 9) (v := ?v47) rfl (by kernel_rfl) (fun _ _ _ h => h) (Or.inl ⟨by rfl, ?hy47⟩) (by assumption) ?rest47
          case hy47 => (intro wS hSw; (try dsimp only at hSw); go_simp; try (with_reducible rfl))
          try simp only [Act.put, List.setIfInBounds_toArray, List.set_cons_zero, List.set_cons_succ]
          refine rh.go_take (i := 10) (v := ?v48) rfl (by kernel_rfl) (fun _ _ _ h => h) (Or.inl ⟨by rfl, ?hy48⟩) (by assumption) ?rest48
          case hy48 => (intro wS hSw; (try dsimp only at hSw); go_simp; try (with_reducible rfl))
          try simp only [Act.put, List.setIfInBounds_toArray, List.set_cons_zero, List.set_cons_succ]
          refine rh.go_take (i := 11) (v := ?v49) rfl (by kernel_rfl) (fun _ _ _ h => h) (Or.inl ⟨by rfl, ?hy49⟩) (by assumption) ?rest49
          case hy49 => (intro wS hSw; (try dsimp only at hSw); go_simp; try (with_reducible rfl))
          try simp only [Act.put, List.setIfInBounds_toArray, List.set_cons_zero, List.set_cons_succ]
          refine rh.go_take (i := 13) (v := ?v50) rfl (by kernel_rfl) (fun _ _ _ h => h) (Or.inl ⟨by rfl, ?hy50⟩) (by assumption) ?rest50
          case hy50 => (intro wS hSw; (try dsimp only at hSw); go_simp; try (with_reducible rfl))
          try simp only [Act.put, List.setIfInBounds_toArray, List.set_cons_zero, List.set_cons_succ]
          refine rh.go_next (i := 12) rfl (by kernel_rfl) (fun K2 hK => ?_)
          go_simp
          go_at_call 115
          refine (HIa.out _ (HB0.out.trans (hk.mono HB0.out.size))).mono ?_
          rintro e w21 ⟨A21, c21, rfl, hsa, hb⟩
          have hk := hk.trans (hb.mono hk.size)
          have HSA := Lib.hid hsa
          clear hb hsa hHeld2
          go_wp2_with fail
          refine hK.out _ _ ?_ (fun hHeld => ?_)
          · ((try dsimp only); exact HS.out _ hk)
          clear hK K2 hHeld
          try simp only [Act.put, List.setIfInBounds_toArray, List.set_cons_zero, List.set_cons_succ]
          refine rh.go_next (i := 14) rfl (by kernel_rfl) (fun K2 hK => ?_)
          go_simp
          go_at_call 115
          refine (HIb.out _ (HB0.out.trans (hk.mono HB0.out.size))).mono ?_
          rintro e w3 ⟨A31, c31, rfl, hsb, hb⟩
          have hk := hk.trans (hb.mono hk.size)
          have HSA := Lib.hid (HSA.out.below hb)
          have HSB := Lib.hid hsb
          clear hb hsb
          go_wp2_with fail
          refine hK.out _ _ ?_ (fun hHeld => ?_)
          · ((try dsimp only); exact HS.out _ hk)
          clear hK K2 hHeld
          try simp only [Act.put, List.setIfInBounds_toArray, List.set_cons_zero, List.set_cons_succ]
          refine rh.go_next (i := 15) rfl (by kernel_rfl) (fun K2 hK => ?_)
          go_simp
          go_at_call 114
          have CA := apr_any A21 A31 n5 c21 m5 c31 _ _ (nms a.inner) (nms b.inner) w3 HSA.out HSB.out HQ.out.1 HQ.out.2
          rw [HAp.out] at CA
          refine CA.mono ?_
          rintro e w33 ⟨rfl, rfl⟩
          clear CA
          go_wp2_with fail
          refine hK.out _ _ ?_ (fun hHeld => ?_)
          · ((try dsimp only); exact HS.out _ hk)
          clear hK K2 hHeld
          try simp only [Act.put, List.setIfInBounds_toArray, List.set_cons_zero, List.set_cons_succ]
          have hHeld3 := HS.out _ hk
          refine rh.go_take (i := 16) (v := ?v51) rfl (by kernel_rfl) (fun _ _ _ h => h) (Or.inl ⟨by rfl, ?hy51⟩) (by assumption) ?rest51
          case hy51 => (intro wS hSw; (try dsimp only at hSw); go_simp; try (with_reducible rfl))
          try simp only [Act.put, List.setIfInBounds_toArray, List.set_cons_zero, List.set_cons_succ]
          refine rh.go_last rfl (by kernel_rfl) (fun K2 hK => ?_)
          go_simp
          refine hK.out _ _ ?_
          refine NoPanic.normal ?_
          clear hK K2
          have hb3 := HB0.out.trans (hk.mono HB0.out.size)
          have HBr3 := Lib.hid (HBr.out.on hk)
          have HBa3 := Lib.hid (HBa.out.on hk)
          have HBb3 := Lib.hid (HBb.out.on hk)
          obtain ⟨x0, x1, x2, x3, x4, x5⟩ := HBa3.out.get
          obtain ⟨y0, y1, y2, y3, y4, y5⟩ := HBb3.out.get
          have C2 := HCd.out w3 hb3
          go_wp2_with fail
          refine C2.mono ?_
          rintro e w4 ⟨v4, rfl, hr4, hb⟩
          have HNl := Lib.hid (nil_big hr4)
          obtain ⟨E1, f1, E2, f2, E4, f4, E5, f5, rfl⟩ := hr4.shape
          have hbX := (Below.refl w4.heap.size w4).alloc (Nat.le_refl _) (.cells #[.int .i64 Mb.roots, .slice E1 Mb.nodes.length f1, .slice E2 Mb.sites.length f2, .int .i64 Mb.edges, .slice E4 Mb.outer.length f4, .slice E5 Mb.inner.length f5] 36)
          have hbx : BoxAt (w4.alloc (.cells #[.int .i64 Mb.roots, .slice E1 Mb.nodes.length f1, .slice E2 Mb.sites.length f2, .int .i64 Mb.edges, .slice E4 Mb.outer.length f4, .slice E5 Mb.inner.length f5] 36)) w4.heap.size 36 (.int .i64 Mb.roots) (.slice E1 Mb.nodes.length f1) (.slice E2 Mb.sites.length f2) (.int .i64 Mb.edges) (.slice E4 Mb.outer.length f4) (.slice E5 Mb.inner.length f5) := six_new w4 _ _ _ _ _ _ _
          have hb2 := hb.trans (hbX.mono hb.size)
          have HB4 := Lib.hid (hb3.trans (hb2.mono hb3.size))
          have HBr4 := Lib.hid (HBr3.out.on hb2)
          have HBx4 := Lib.hid hbx
          have HRb4 := Lib.hid ((hr4.on hbX).here)
          clear hr4 hb hbx hb2 x0 x1 x2 x3 x4 x5 y0 y1 y2 y3 y4 y5 C2
          obtain ⟨t0, t1, t2, t3, t4, t5⟩ := HBx4.out.get
          obtain ⟨z0, z1, z2, z3, z4, z5⟩ := HBr4.out.get
          have f0 := World.rowIs.frozen HBr4.out 0
          have f1 := World.rowIs.frozen HBr4.out 1
          have f2 := World.rowIs.frozen HBr4.out 2
          have f3 := World.rowIs.frozen HBr4.out 3
          have f4 := World.rowIs.frozen HBr4.out 4
          have f5 := World.rowIs.frozen HBr4.out 5
          go_wp2_with fail
          refine bodyPost_ret (v := .tuple #[.agg #[.int .i64 0, .slice none 0 0, .slice none 0 0, .int .i64 0, .slice none 0 0, .slice none 0 0], .bool false]) (by simp [results, Tryz.results48, go_sem, z0, z1, z2, z3, z4, z5]) rfl ⟨_, rfl, BigR.zero, sets6_below HB4.out (by omega) _ _ _ _ _ _⟩
end Go.Proofs.YtfjgapkjpmkplaaGreat.mps
