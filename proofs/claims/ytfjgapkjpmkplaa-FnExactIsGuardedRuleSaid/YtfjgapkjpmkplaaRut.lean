/- The law's copy of a Rule: toRule. -/
import Derived.Test.YtfjgapkjpmkplaaRuh
namespace Go.Proofs.Ytfjgapkjpmkplaa.rut
open kit bg sg opn strs only hb sig isig un over gn nm inn ht gd im pt marks eqs hc hi hw hn rs br bm bw cf lf ib isa lawb lw cl rub rui ruh
open Go.ChangeShapes Go.WideShapes Go.ChangeAt Go.RowKit
set_option linter.unusedVariables false
set_option linter.unusedSimpArgs false
/-- stores from a cell on -/
def storesL (w : World) (β : Nat) : Nat → List Value → World
  | _, [] => w
  | k, v :: r => storesL (w.setCell ⟨β, k, none⟩ v) β (k + 1) r
theorem storesL_block {β g : Nat} (h : g ≠ β) : ∀ (l : List Value) (w : World) (k : Nat), (storesL w β k l).heap[g]? = w.heap[g]?
  | [], _, _ => rfl
  | v :: r, w, k => by
    rw [storesL, storesL_block h r _ _, Below.heap_setCell _ _ _ _ (by exact h)]
theorem storesL_size {β : Nat} : ∀ (l : List Value) (w : World) (k : Nat), (storesL w β k l).heap.size = w.heap.size
  | [], _, _ => rfl
  | v :: r, w, k => by
    rw [storesL, storesL_size r _ _]
    simp [World.setCell]
theorem storesL_below {β B : Nat} {x : World} (hB : B ≤ β) : ∀ (l : List Value) (w : World) (k : Nat), Below B x w → Below B x (storesL w β k l)
  | [], _, _, h => h
  | v :: r, w, k, h => storesL_below hB r _ _ (h.setCell (p := ⟨β, k, none⟩) hB v)
/-- a Rule in memory of a call's own -/
def RulOwn (w : World) (lo hi : Nat) (v : Value) (r : Rul) : Prop :=
  ∃ g1 g2 g4 g5 h1 h2 h4 h5 g7, v = .agg #[.int .i64 r.redex.roots, .slice (some ⟨g1, 0, none⟩) r.redex.nodes.length r.redex.nodes.length, .slice (some ⟨g2, 0, none⟩) r.redex.sites.length r.redex.sites.length, .int .i64 r.redex.edges, .slice (some ⟨g4, 0, none⟩) r.redex.outer.length r.redex.outer.length, .slice (some ⟨g5, 0, none⟩) r.redex.inner.length r.redex.inner.length, .int .i64 r.reactum.roots, .slice (some ⟨h1, 0, none⟩) r.reactum.nodes.length r.reactum.nodes.length, .slice (some ⟨h2, 0, none⟩) r.reactum.sites.length r.reactum.sites.length, .int .i64 r.reactum.edges, .slice (some ⟨h4, 0, none⟩) r.reactum.outer.length r.reactum.outer.length, .slice (some ⟨h5, 0, none⟩) r.reactum.inner.length r.reactum.inner.length, .slice (some ⟨g7, 0, none⟩) r.copies.length r.copies.length] ∧ BigOwn w lo hi (.agg #[.int .i64 r.redex.roots, .slice (some ⟨g1, 0, none⟩) r.redex.nodes.length r.redex.nodes.length, .slice (some ⟨g2, 0, none⟩) r.redex.sites.length r.redex.sites.length, .int .i64 r.redex.edges, .slice (some ⟨g4, 0, none⟩) r.redex.outer.length r.redex.outer.length, .slice (some ⟨g5, 0, none⟩) r.redex.inner.length r.redex.inner.length]) r.redex ∧ BigOwn w lo hi (.agg #[.int .i64 r.reactum.roots, .slice (some ⟨h1, 0, none⟩) r.reactum.nodes.length r.reactum.nodes.length, .slice (some ⟨h2, 0, none⟩) r.reactum.sites.length r.reactum.sites.length, .int .i64 r.reactum.edges, .slice (some ⟨h4, 0, none⟩) r.reactum.outer.length r.reactum.outer.length, .slice (some ⟨h5, 0, none⟩) r.reactum.inner.length r.reactum.inner.length]) r.reactum ∧ w.rowIs g7 3 r.copies.length (iat r.copies) ∧ lo ≤ g7 ∧ g7 < hi
theorem RulOwn.blocks {w w' : World} {lo hi : Nat} {v : Value} {r : Rul} (h : RulOwn w lo hi v r) (hb : ∀ g, lo ≤ g → g < hi → w'.heap[g]? = w.heap[g]?) : RulOwn w' lo hi v r := by
  obtain ⟨g1, g2, g4, g5, h1, h2, h4, h5, g7, e, k1, k2, k3, l3, m3⟩ := h
  exact ⟨_, _, _, _, _, _, _, _, _, e, k1.blocks hb, k2.blocks hb, k3.of_block (hb g7 l3 m3), l3, m3⟩
theorem RulOwn.wide {w : World} {lo hi lo' hi' : Nat} {v : Value} {r : Rul} (h : RulOwn w lo hi v r) (a1 : lo' ≤ lo) (a2 : hi ≤ hi') : RulOwn w lo' hi' v r := by
  obtain ⟨g1, g2, g4, g5, h1, h2, h4, h5, g7, e, k1, k2, k3, l3, m3⟩ := h
  exact ⟨_, _, _, _, _, _, _, _, _, e, k1.wide a1 a2, k2.wide a1 a2, k3, by omega, by omega⟩
theorem RulOwn.at {w : World} {lo hi : Nat} {v : Value} {r : Rul} (h : RulOwn w lo hi v r) : RulAt w hi v r := by
  obtain ⟨g1, g2, g4, g5, h1, h2, h4, h5, g7, rfl, k1, k2, k3, l3, m3⟩ := h
  exact ⟨_, _, _, _, _, _, _, _, _, _, _, _, _, _, _, _, _, _, _, _, _, _, _, _, _, _, _, rfl, k1.at, k2.at, ints_row k3 (Nat.le_refl _) m3 rfl (fun _ _ => rfl)⟩
set_option maxRecDepth 20000 in
set_option maxHeartbeats 3200000 in
theorem toRo_any (v : Value) (r : Rul) (w : World) (hv : RulAt w w.heap.size v r) (hS : RulS r) :
    Calls Try.prog 12 #[v] w fun e w' => ∃ v', e = .returned v' ∧ RulOwn w' w.heap.size w'.heap.size v' r ∧ Below w.heap.size w w' := by
  obtain ⟨A1, n1, c1, A2, n2, c2, A4, n4, c4, A5, n5, c5, B1, m1, d1, B2, m2, d2, B4, m4, d4, B5, m5, d5, C7, n7, c7, rfl, k1, k2, k3⟩ := hv
  obtain rfl : r.copies.length = n7 := k3.len
  have hX0 : BoxN (w.alloc (.cells #[.int .i64 r.redex.roots, .slice A1 n1 c1, .slice A2 n2 c2, .int .i64 r.redex.edges, .slice A4 n4 c4, .slice A5 n5 c5, .int .i64 r.reactum.roots, .slice B1 m1 d1, .slice B2 m2 d2, .int .i64 r.reactum.edges, .slice B4 m4 d4, .slice B5 m5 d5, .slice C7 r.copies.length c7] 30)) w.heap.size 30 [.int .i64 r.redex.roots, .slice A1 n1 c1, .slice A2 n2 c2, .int .i64 r.redex.edges, .slice A4 n4 c4, .slice A5 n5 c5, .int .i64 r.reactum.roots, .slice B1 m1 d1, .slice B2 m2 d2, .int .i64 r.reactum.edges, .slice B4 m4 d4, .slice B5 m5 d5, .slice C7 r.copies.length c7] := BoxN.new w #[.int .i64 r.redex.roots, .slice A1 n1 c1, .slice A2 n2 c2, .int .i64 r.redex.edges, .slice A4 n4 c4, .slice A5 n5 c5, .int .i64 r.reactum.roots, .slice B1 m1 d1, .slice B2 m2 d2, .int .i64 r.reactum.edges, .slice B4 m4 d4, .slice B5 m5 d5, .slice C7 r.copies.length c7] 30
  have hb0 := (Below.refl w.heap.size w).alloc (Nat.le_refl _) (.cells #[.int .i64 r.redex.roots, .slice A1 n1 c1, .slice A2 n2 c2, .int .i64 r.redex.edges, .slice A4 n4 c4, .slice A5 n5 c5, .int .i64 r.reactum.roots, .slice B1 m1 d1, .slice B2 m2 d2, .int .i64 r.reactum.edges, .slice B4 m4 d4, .slice B5 m5 d5, .slice C7 r.copies.length c7] 30)
  obtain ⟨U, hU⟩ : ∃ U, w.alloc (.cells #[.int .i64 r.redex.roots, .slice A1 n1 c1, .slice A2 n2 c2, .int .i64 r.redex.edges, .slice A4 n4 c4, .slice A5 n5 c5, .int .i64 r.reactum.roots, .slice B1 m1 d1, .slice B2 m2 d2, .int .i64 r.reactum.edges, .slice B4 m4 d4, .slice B5 m5 d5, .slice C7 r.copies.length c7] 30) = U := ⟨_, rfl⟩
  have hz0 : U.heap.size = w.heap.size + 1 := by rw [← hU]; simp
  rw [hU] at hX0 hb0
  have hR0 : BoxN (U.alloc (.cells #[.int .i64 0, .slice none 0 0, .slice none 0 0, .int .i64 0, .slice none 0 0, .slice none 0 0, .int .i64 0, .slice none 0 0, .slice none 0 0, .int .i64 0, .slice none 0 0, .slice none 0 0, .slice none 0 0] 41)) U.heap.size 41 [.int .i64 0, .slice none 0 0, .slice none 0 0, .int .i64 0, .slice none 0 0, .slice none 0 0, .int .i64 0, .slice none 0 0, .slice none 0 0, .int .i64 0, .slice none 0 0, .slice none 0 0, .slice none 0 0] := BoxN.new U #[.int .i64 0, .slice none 0 0, .slice none 0 0, .int .i64 0, .slice none 0 0, .slice none 0 0, .int .i64 0, .slice none 0 0, .slice none 0 0, .int .i64 0, .slice none 0 0, .slice none 0 0, .slice none 0 0] 41
  have hb1 := (Below.refl U.heap.size U).alloc (Nat.le_refl _) (.cells #[.int .i64 0, .slice none 0 0, .slice none 0 0, .int .i64 0, .slice none 0 0, .slice none 0 0, .int .i64 0, .slice none 0 0, .slice none 0 0, .int .i64 0, .slice none 0 0, .slice none 0 0, .slice none 0 0] 41)
  obtain ⟨V, hV⟩ : ∃ V, U.alloc (.cells #[.int .i64 0, .slice none 0 0, .slice none 0 0, .int .i64 0, .slice none 0 0, .slice none 0 0, .int .i64 0, .slice none 0 0, .slice none 0 0, .int .i64 0, .slice none 0 0, .slice none 0 0, .slice none 0 0] 41) = V := ⟨_, rfl⟩
  have hz1 : V.heap.size = w.heap.size + 1 + 1 := by rw [← hV, World.size_alloc, hz0]
  rw [hV] at hR0 hb1
  have hO0 : BoxN (V.alloc (.cells #[.int .i64 0, .slice none 0 0, .slice none 0 0, .int .i64 0, .slice none 0 0, .slice none 0 0, .int .i64 0, .slice none 0 0, .slice none 0 0, .int .i64 0, .slice none 0 0, .slice none 0 0, .slice none 0 0] 41)) V.heap.size 41 [.int .i64 0, .slice none 0 0, .slice none 0 0, .int .i64 0, .slice none 0 0, .slice none 0 0, .int .i64 0, .slice none 0 0, .slice none 0 0, .int .i64 0, .slice none 0 0, .slice none 0 0, .slice none 0 0] := BoxN.new V #[.int .i64 0, .slice none 0 0, .slice none 0 0, .int .i64 0, .slice none 0 0, .slice none 0 0, .int .i64 0, .slice none 0 0, .slice none 0 0, .int .i64 0, .slice none 0 0, .slice none 0 0, .slice none 0 0] 41
  have hb2 := (Below.refl V.heap.size V).alloc (Nat.le_refl _) (.cells #[.int .i64 0, .slice none 0 0, .slice none 0 0, .int .i64 0, .slice none 0 0, .slice none 0 0, .int .i64 0, .slice none 0 0, .slice none 0 0, .int .i64 0, .slice none 0 0, .slice none 0 0, .slice none 0 0] 41)
  obtain ⟨W, hW⟩ : ∃ W, V.alloc (.cells #[.int .i64 0, .slice none 0 0, .slice none 0 0, .int .i64 0, .slice none 0 0, .slice none 0 0, .int .i64 0, .slice none 0 0, .slice none 0 0, .int .i64 0, .slice none 0 0, .slice none 0 0, .slice none 0 0] 41) = W := ⟨_, rfl⟩
  have hz2 : W.heap.size = w.heap.size + 1 + 1 + 1 := by rw [← hW, World.size_alloc, hz1]
  rw [hW] at hO0 hb2
  have HX := Lib.hid ((hX0.on hb1).on hb2)
  have HR := Lib.hid (hR0.on hb2)
  rw [hz0] at HR
  rw [hz1] at hO0
  have HO := Lib.hid hO0
  have HB := Lib.hid ((hb0.trans (hb1.mono hb0.size)).trans (hb2.mono (Nat.le_trans hb0.size hb1.size)))
  have HUq := Lib.hid hU
  have HVq := Lib.hid hV
  have HWq := Lib.hid hW
  have HZ := Lib.hid hz2
  have HS := Lib.hid hS
  have HK1 := Lib.hid (fun (Y : World) (hY : Below w.heap.size w Y) => (k1.below hY).wide hY.size)
  have HK2 := Lib.hid (fun (Y : World) (hY : Below w.heap.size w Y) => (k2.below hY).wide hY.size)
  have HK3 := Lib.hid (fun (Y : World) (hY : Below w.heap.size w Y) => (k3.below hY).wide hY.size)
  clear hX0 hb0 hU hR0 hb1 hV hO0 hb2 hW hz0 hz1 hz2 hS k1 k2 k3
  obtain ⟨x0, x1, x2, x3, x4, x5, x6, x7, x8, x9, x10, x11, x12⟩ := get13 HX.out
  go_enter Try.func12, Try.ntmps12
  go_wp2_with fail
  rw [HUq.out, HVq.out, HWq.out]
  go_wp2_with fail
  refine (toB_any _ r.redex W (HK1.out W HB.out) HS.out.1).mono ?_
  rintro e w1 ⟨v1, rfl, ho1, hb1⟩
  have hB1 := HB.out.trans (hb1.mono HB.out.size)
  have hX1 := HX.out.on hb1
  have hR1 := HR.out.on hb1
  have hO1 := HO.out.on hb1
  have hs1 := hb1.size
  rw [HZ.out] at hs1
  have HO1 := Lib.hid ho1
  obtain ⟨g1, g2, g4, g5, rfl, -⟩ := ho1
  clear hb1 x0 x1 x2 x3 x4 x5 x6 x7 x8 x9 x10 x11 x12
  obtain ⟨x0, x1, x2, x3, x4, x5, x6, x7, x8, x9, x10, x11, x12⟩ := get13 hX1
  obtain ⟨z0, z1, z2, z3, z4, z5, z6, z7, z8, z9, z10, z11, z12⟩ := get13 hO1
  have f0 := World.rowIs.frozen hO1 0
  have f1 := World.rowIs.frozen hO1 1
  have f2 := World.rowIs.frozen hO1 2
  have f3 := World.rowIs.frozen hO1 3
  have f4 := World.rowIs.frozen hO1 4
  have f5 := World.rowIs.frozen hO1 5
  have f6 := World.rowIs.frozen hO1 6
  have f7 := World.rowIs.frozen hO1 7
  have f8 := World.rowIs.frozen hO1 8
  have f9 := World.rowIs.frozen hO1 9
  have f10 := World.rowIs.frozen hO1 10
  have f11 := World.rowIs.frozen hO1 11
  have f12 := World.rowIs.frozen hO1 12
  have HB1 := Lib.hid (storesL_below (B := w.heap.size) (β := w.heap.size + 1 + 1) (by omega) [.int .i64 r.redex.roots, .slice (some ⟨g1, 0, none⟩) r.redex.nodes.length r.redex.nodes.length, .slice (some ⟨g2, 0, none⟩) r.redex.sites.length r.redex.sites.length, .int .i64 r.redex.edges, .slice (some ⟨g4, 0, none⟩) r.redex.outer.length r.redex.outer.length, .slice (some ⟨g5, 0, none⟩) r.redex.inner.length r.redex.inner.length] w1 0 hB1)
  have HBk := Lib.hid (fun (g : Nat) (hg : g ≠ w.heap.size + 1 + 1) => storesL_block hg [.int .i64 r.redex.roots, .slice (some ⟨g1, 0, none⟩) r.redex.nodes.length r.redex.nodes.length, .slice (some ⟨g2, 0, none⟩) r.redex.sites.length r.redex.sites.length, .int .i64 r.redex.edges, .slice (some ⟨g4, 0, none⟩) r.redex.outer.length r.redex.outer.length, .slice (some ⟨g5, 0, none⟩) r.redex.inner.length r.redex.inner.length] w1 0)
  have HX1 : Hid (BoxN (storesL w1 (w.heap.size + 1 + 1) 0 [.int .i64 r.redex.roots, .slice (some ⟨g1, 0, none⟩) r.redex.nodes.length r.redex.nodes.length, .slice (some ⟨g2, 0, none⟩) r.redex.sites.length r.redex.sites.length, .int .i64 r.redex.edges, .slice (some ⟨g4, 0, none⟩) r.redex.outer.length r.redex.outer.length, .slice (some ⟨g5, 0, none⟩) r.redex.inner.length r.redex.inner.length]) w.heap.size 30 [.int .i64 r.redex.roots, .slice A1 n1 c1, .slice A2 n2 c2, .int .i64 r.redex.edges, .slice A4 n4 c4, .slice A5 n5 c5, .int .i64 r.reactum.roots, .slice B1 m1 d1, .slice B2 m2 d2, .int .i64 r.reactum.edges, .slice B4 m4 d4, .slice B5 m5 d5, .slice C7 r.copies.length c7]) := Lib.hid (World.rowIs.of_block hX1 (HBk.out _ (by omega)))
  have HR1 : Hid (BoxN (storesL w1 (w.heap.size + 1 + 1) 0 [.int .i64 r.redex.roots, .slice (some ⟨g1, 0, none⟩) r.redex.nodes.length r.redex.nodes.length, .slice (some ⟨g2, 0, none⟩) r.redex.sites.length r.redex.sites.length, .int .i64 r.redex.edges, .slice (some ⟨g4, 0, none⟩) r.redex.outer.length r.redex.outer.length, .slice (some ⟨g5, 0, none⟩) r.redex.inner.length r.redex.inner.length]) (w.heap.size + 1) 41 [.int .i64 0, .slice none 0 0, .slice none 0 0, .int .i64 0, .slice none 0 0, .slice none 0 0, .int .i64 0, .slice none 0 0, .slice none 0 0, .int .i64 0, .slice none 0 0, .slice none 0 0, .slice none 0 0]) := Lib.hid (World.rowIs.of_block hR1 (HBk.out _ (by omega)))
  have HO1' : Hid (BoxN (storesL w1 (w.heap.size + 1 + 1) 0 [.int .i64 r.redex.roots, .slice (some ⟨g1, 0, none⟩) r.redex.nodes.length r.redex.nodes.length, .slice (some ⟨g2, 0, none⟩) r.redex.sites.length r.redex.sites.length, .int .i64 r.redex.edges, .slice (some ⟨g4, 0, none⟩) r.redex.outer.length r.redex.outer.length, .slice (some ⟨g5, 0, none⟩) r.redex.inner.length r.redex.inner.length]) (w.heap.size + 1 + 1) 41 [.int .i64 r.redex.roots, .slice (some ⟨g1, 0, none⟩) r.redex.nodes.length r.redex.nodes.length, .slice (some ⟨g2, 0, none⟩) r.redex.sites.length r.redex.sites.length, .int .i64 r.redex.edges, .slice (some ⟨g4, 0, none⟩) r.redex.outer.length r.redex.outer.length, .slice (some ⟨g5, 0, none⟩) r.redex.inner.length r.redex.inner.length, .int .i64 0, .slice none 0 0, .slice none 0 0, .int .i64 0, .slice none 0 0, .slice none 0 0, .slice none 0 0]) := Lib.hid (((((((hO1.set 0 _).set 1 _).set 2 _).set 3 _).set 4 _).set 5 _))
  have HQ1 := Lib.hid (HO1.out.blocks (fun g h1 _ => HBk.out g (by have := HZ.out; omega)))
  have HZ1 := Lib.hid (storesL_size (β := w.heap.size + 1 + 1) [.int .i64 r.redex.roots, .slice (some ⟨g1, 0, none⟩) r.redex.nodes.length r.redex.nodes.length, .slice (some ⟨g2, 0, none⟩) r.redex.sites.length r.redex.sites.length, .int .i64 r.redex.edges, .slice (some ⟨g4, 0, none⟩) r.redex.outer.length r.redex.outer.length, .slice (some ⟨g5, 0, none⟩) r.redex.inner.length r.redex.inner.length] w1 0)
  clear hX1 hR1 hO1 hB1
  go_wp2_with fail
  clear x0 x1 x2 x3 x4 x5 x6 x7 x8 x9 x10 x11 x12 z0 z1 z2 z3 z4 z5 z6 z7 z8 z9 z10 z11 z12 f0 f1 f2 f3 f4 f5 f6 f7 f8 f9 f10 f11 f12
  change Calls _ _ _ (storesL w1 (w.heap.size + 1 + 1) 0 [.int .i64 r.redex.roots, .slice (some ⟨g1, 0, none⟩) r.redex.nodes.length r.redex.nodes.length, .slice (some ⟨g2, 0, none⟩) r.redex.sites.length r.redex.sites.length, .int .i64 r.redex.edges, .slice (some ⟨g4, 0, none⟩) r.redex.outer.length r.redex.outer.length, .slice (some ⟨g5, 0, none⟩) r.redex.inner.length r.redex.inner.length]) _
  obtain ⟨Y1, hY1⟩ : ∃ Y, storesL w1 (w.heap.size + 1 + 1) 0 [.int .i64 r.redex.roots, .slice (some ⟨g1, 0, none⟩) r.redex.nodes.length r.redex.nodes.length, .slice (some ⟨g2, 0, none⟩) r.redex.sites.length r.redex.sites.length, .int .i64 r.redex.edges, .slice (some ⟨g4, 0, none⟩) r.redex.outer.length r.redex.outer.length, .slice (some ⟨g5, 0, none⟩) r.redex.inner.length r.redex.inner.length] = Y := ⟨_, rfl⟩
  rw [hY1] at HB1 HX1 HR1 HO1' HQ1 HZ1 ⊢
  clear hY1 HO1 HBk
  have hsz1 : w.heap.size + 1 + 1 + 1 ≤ Y1.heap.size := by rw [HZ1.out]; exact hs1
  have HQ1w := Lib.hid (show BigOwn Y1 (w.heap.size + 1 + 1 + 1) Y1.heap.size _ r.redex from HQ1.out.wide (Nat.le_of_eq HZ.out.symm) (Nat.le_of_eq HZ1.out.symm))
  refine (toB_any _ r.reactum Y1 (HK2.out Y1 HB1.out) HS.out.2.1).mono ?_
  rintro e w2 ⟨v2, rfl, ho2, hb2⟩
  have hB2 := HB1.out.trans (hb2.mono HB1.out.size)
  have hX2 := HX1.out.on hb2
  have hR2 := HR1.out.on hb2
  have hO2 := HO1'.out.on hb2
  have hs2 := hb2.size
  have HQ2 := Lib.hid ((HQ1w.out.below hb2 (Nat.le_refl _)).wide (Nat.le_refl _) hs2)
  have HO2 := Lib.hid (ho2.wide (lo' := w.heap.size + 1 + 1 + 1) (hi' := w2.heap.size) hsz1 (Nat.le_refl _))
  obtain ⟨h1, h2, h4, h5, rfl, -⟩ := ho2
  clear hb2
  obtain ⟨x0, x1, x2, x3, x4, x5, x6, x7, x8, x9, x10, x11, x12⟩ := get13 hX2
  obtain ⟨z0, z1, z2, z3, z4, z5, z6, z7, z8, z9, z10, z11, z12⟩ := get13 hO2
  have f0 := World.rowIs.frozen hO2 0
  have f1 := World.rowIs.frozen hO2 1
  have f2 := World.rowIs.frozen hO2 2
  have f3 := World.rowIs.frozen hO2 3
  have f4 := World.rowIs.frozen hO2 4
  have f5 := World.rowIs.frozen hO2 5
  have f6 := World.rowIs.frozen hO2 6
  have f7 := World.rowIs.frozen hO2 7
  have f8 := World.rowIs.frozen hO2 8
  have f9 := World.rowIs.frozen hO2 9
  have f10 := World.rowIs.frozen hO2 10
  have f11 := World.rowIs.frozen hO2 11
  have f12 := World.rowIs.frozen hO2 12
  have HB2 := Lib.hid (storesL_below (B := w.heap.size) (β := w.heap.size + 1 + 1) (by omega) [.int .i64 r.reactum.roots, .slice (some ⟨h1, 0, none⟩) r.reactum.nodes.length r.reactum.nodes.length, .slice (some ⟨h2, 0, none⟩) r.reactum.sites.length r.reactum.sites.length, .int .i64 r.reactum.edges, .slice (some ⟨h4, 0, none⟩) r.reactum.outer.length r.reactum.outer.length, .slice (some ⟨h5, 0, none⟩) r.reactum.inner.length r.reactum.inner.length] w2 6 hB2)
  have HBk := Lib.hid (fun (g : Nat) (hg : g ≠ w.heap.size + 1 + 1) => storesL_block hg [.int .i64 r.reactum.roots, .slice (some ⟨h1, 0, none⟩) r.reactum.nodes.length r.reactum.nodes.length, .slice (some ⟨h2, 0, none⟩) r.reactum.sites.length r.reactum.sites.length, .int .i64 r.reactum.edges, .slice (some ⟨h4, 0, none⟩) r.reactum.outer.length r.reactum.outer.length, .slice (some ⟨h5, 0, none⟩) r.reactum.inner.length r.reactum.inner.length] w2 6)
  have HX2 : Hid (BoxN (storesL w2 (w.heap.size + 1 + 1) 6 [.int .i64 r.reactum.roots, .slice (some ⟨h1, 0, none⟩) r.reactum.nodes.length r.reactum.nodes.length, .slice (some ⟨h2, 0, none⟩) r.reactum.sites.length r.reactum.sites.length, .int .i64 r.reactum.edges, .slice (some ⟨h4, 0, none⟩) r.reactum.outer.length r.reactum.outer.length, .slice (some ⟨h5, 0, none⟩) r.reactum.inner.length r.reactum.inner.length]) w.heap.size 30 [.int .i64 r.redex.roots, .slice A1 n1 c1, .slice A2 n2 c2, .int .i64 r.redex.edges, .slice A4 n4 c4, .slice A5 n5 c5, .int .i64 r.reactum.roots, .slice B1 m1 d1, .slice B2 m2 d2, .int .i64 r.reactum.edges, .slice B4 m4 d4, .slice B5 m5 d5, .slice C7 r.copies.length c7]) := Lib.hid (World.rowIs.of_block hX2 (HBk.out _ (by omega)))
  have HR2 : Hid (BoxN (storesL w2 (w.heap.size + 1 + 1) 6 [.int .i64 r.reactum.roots, .slice (some ⟨h1, 0, none⟩) r.reactum.nodes.length r.reactum.nodes.length, .slice (some ⟨h2, 0, none⟩) r.reactum.sites.length r.reactum.sites.length, .int .i64 r.reactum.edges, .slice (some ⟨h4, 0, none⟩) r.reactum.outer.length r.reactum.outer.length, .slice (some ⟨h5, 0, none⟩) r.reactum.inner.length r.reactum.inner.length]) (w.heap.size + 1) 41 [.int .i64 0, .slice none 0 0, .slice none 0 0, .int .i64 0, .slice none 0 0, .slice none 0 0, .int .i64 0, .slice none 0 0, .slice none 0 0, .int .i64 0, .slice none 0 0, .slice none 0 0, .slice none 0 0]) := Lib.hid (World.rowIs.of_block hR2 (HBk.out _ (by omega)))
  have HO2' : Hid (BoxN (storesL w2 (w.heap.size + 1 + 1) 6 [.int .i64 r.reactum.roots, .slice (some ⟨h1, 0, none⟩) r.reactum.nodes.length r.reactum.nodes.length, .slice (some ⟨h2, 0, none⟩) r.reactum.sites.length r.reactum.sites.length, .int .i64 r.reactum.edges, .slice (some ⟨h4, 0, none⟩) r.reactum.outer.length r.reactum.outer.length, .slice (some ⟨h5, 0, none⟩) r.reactum.inner.length r.reactum.inner.length]) (w.heap.size + 1 + 1) 41 [.int .i64 r.redex.roots, .slice (some ⟨g1, 0, none⟩) r.redex.nodes.length r.redex.nodes.length, .slice (some ⟨g2, 0, none⟩) r.redex.sites.length r.redex.sites.length, .int .i64 r.redex.edges, .slice (some ⟨g4, 0, none⟩) r.redex.outer.length r.redex.outer.length, .slice (some ⟨g5, 0, none⟩) r.redex.inner.length r.redex.inner.length, .int .i64 r.reactum.roots, .slice (some ⟨h1, 0, none⟩) r.reactum.nodes.length r.reactum.nodes.length, .slice (some ⟨h2, 0, none⟩) r.reactum.sites.length r.reactum.sites.length, .int .i64 r.reactum.edges, .slice (some ⟨h4, 0, none⟩) r.reactum.outer.length r.reactum.outer.length, .slice (some ⟨h5, 0, none⟩) r.reactum.inner.length r.reactum.inner.length, .slice none 0 0]) := Lib.hid (((((((hO2.set 6 _).set 7 _).set 8 _).set 9 _).set 10 _).set 11 _))
  have HQ2a := Lib.hid (HQ2.out.blocks (fun g h1 _ => HBk.out g (by omega)))
  have HQ2b := Lib.hid (HO2.out.blocks (fun g h1 _ => HBk.out g (by omega)))
  have HZ2 := Lib.hid (storesL_size (β := w.heap.size + 1 + 1) [.int .i64 r.reactum.roots, .slice (some ⟨h1, 0, none⟩) r.reactum.nodes.length r.reactum.nodes.length, .slice (some ⟨h2, 0, none⟩) r.reactum.sites.length r.reactum.sites.length, .int .i64 r.reactum.edges, .slice (some ⟨h4, 0, none⟩) r.reactum.outer.length r.reactum.outer.length, .slice (some ⟨h5, 0, none⟩) r.reactum.inner.length r.reactum.inner.length] w2 6)
  clear hX2 hR2 hO2 hB2
  go_wp2_with fail
  clear x0 x1 x2 x3 x4 x5 x6 x7 x8 x9 x10 x11 x12 z0 z1 z2 z3 z4 z5 z6 z7 z8 z9 z10 z11 z12 f0 f1 f2 f3 f4 f5 f6 f7 f8 f9 f10 f11 f12
  change Calls _ _ _ (storesL w2 (w.heap.size + 1 + 1) 6 [.int .i64 r.reactum.roots, .slice (some ⟨h1, 0, none⟩) r.reactum.nodes.length r.reactum.nodes.length, .slice (some ⟨h2, 0, none⟩) r.reactum.sites.length r.reactum.sites.length, .int .i64 r.reactum.edges, .slice (some ⟨h4, 0, none⟩) r.reactum.outer.length r.reactum.outer.length, .slice (some ⟨h5, 0, none⟩) r.reactum.inner.length r.reactum.inner.length]) _
  obtain ⟨Y2, hY2⟩ : ∃ Y, storesL w2 (w.heap.size + 1 + 1) 6 [.int .i64 r.reactum.roots, .slice (some ⟨h1, 0, none⟩) r.reactum.nodes.length r.reactum.nodes.length, .slice (some ⟨h2, 0, none⟩) r.reactum.sites.length r.reactum.sites.length, .int .i64 r.reactum.edges, .slice (some ⟨h4, 0, none⟩) r.reactum.outer.length r.reactum.outer.length, .slice (some ⟨h5, 0, none⟩) r.reactum.inner.length r.reactum.inner.length] = Y := ⟨_, rfl⟩
  rw [hY2] at HB2 HX2 HR2 HO2' HQ2a HQ2b HZ2 ⊢
  clear hY2 HO2 HBk HQ2 HQ1w HQ1
  have hsz2 : w.heap.size + 1 + 1 + 1 ≤ Y2.heap.size := by rw [HZ2.out]; omega
  refine (toIS_ex C7 _ c7 r.copies Y2 (HK3.out Y2 HB2.out) HS.out.2.2).mono ?_
  rintro e w3 ⟨g7, rfl, hg7, hg7', ho3, hb3⟩
  have HB3 := Lib.hid (HB2.out.trans (hb3.mono HB2.out.size))
  have hR3 := HR2.out.on hb3
  have hO3 := HO2'.out.on hb3
  have hs3 := hb3.size
  rw [← HZ2.out] at HQ2a HQ2b
  have HQa := Lib.hid ((HQ2a.out.below hb3 (Nat.le_refl _)).wide (Nat.le_refl _) hs3)
  have HQb := Lib.hid ((HQ2b.out.below hb3 (Nat.le_refl _)).wide (Nat.le_refl _) hs3)
  have HQc := Lib.hid (And.intro ho3 (And.intro (show w.heap.size + 1 + 1 + 1 ≤ g7 by omega) hg7'))
  clear hb3 ho3
  obtain ⟨z0, z1, z2, z3, z4, z5, z6, z7, z8, z9, z10, z11, z12⟩ := get13 hO3
  obtain ⟨y0, y1, y2, y3, y4, y5, y6, y7, y8, y9, y10, y11, y12⟩ := get13 hR3
  have f12 := World.rowIs.frozen hO3 12
  have q0 := World.rowIs.frozen hR3 0
  have q1 := World.rowIs.frozen hR3 1
  have q2 := World.rowIs.frozen hR3 2
  have q3 := World.rowIs.frozen hR3 3
  have q4 := World.rowIs.frozen hR3 4
  have q5 := World.rowIs.frozen hR3 5
  have q6 := World.rowIs.frozen hR3 6
  have q7 := World.rowIs.frozen hR3 7
  have q8 := World.rowIs.frozen hR3 8
  have q9 := World.rowIs.frozen hR3 9
  have q10 := World.rowIs.frozen hR3 10
  have q11 := World.rowIs.frozen hR3 11
  have q12 := World.rowIs.frozen hR3 12
  clear hO3 hR3 HR2 HO2' HX2 HR1 HO1' HX1 HX HR HO
  go_wp2_with fail
  refine bodyPost_ret (v := .agg #[.int .i64 r.redex.roots, .slice (some ⟨g1, 0, none⟩) r.redex.nodes.length r.redex.nodes.length, .slice (some ⟨g2, 0, none⟩) r.redex.sites.length r.redex.sites.length, .int .i64 r.redex.edges, .slice (some ⟨g4, 0, none⟩) r.redex.outer.length r.redex.outer.length, .slice (some ⟨g5, 0, none⟩) r.redex.inner.length r.redex.inner.length, .int .i64 r.reactum.roots, .slice (some ⟨h1, 0, none⟩) r.reactum.nodes.length r.reactum.nodes.length, .slice (some ⟨h2, 0, none⟩) r.reactum.sites.length r.reactum.sites.length, .int .i64 r.reactum.edges, .slice (some ⟨h4, 0, none⟩) r.reactum.outer.length r.reactum.outer.length, .slice (some ⟨h5, 0, none⟩) r.reactum.inner.length r.reactum.inner.length, .slice (some ⟨g7, 0, none⟩) r.copies.length r.copies.length]) (by simp [results, Try.results12, go_sem, y0, y1, y2, y3, y4, y5, y6, y7, y8, y9, y10, y11, y12]) rfl ⟨_, rfl, ?_, ?_⟩
  · have hsz : (storesL (w3.setCell ⟨w.heap.size + 1 + 1, 12, none⟩ (.slice (some ⟨g7, 0, none⟩) r.copies.length r.copies.length)) (w.heap.size + 1) 0 [.int .i64 r.redex.roots, .slice (some ⟨g1, 0, none⟩) r.redex.nodes.length r.redex.nodes.length, .slice (some ⟨g2, 0, none⟩) r.redex.sites.length r.redex.sites.length, .int .i64 r.redex.edges, .slice (some ⟨g4, 0, none⟩) r.redex.outer.length r.redex.outer.length, .slice (some ⟨g5, 0, none⟩) r.redex.inner.length r.redex.inner.length, .int .i64 r.reactum.roots, .slice (some ⟨h1, 0, none⟩) r.reactum.nodes.length r.reactum.nodes.length, .slice (some ⟨h2, 0, none⟩) r.reactum.sites.length r.reactum.sites.length, .int .i64 r.reactum.edges, .slice (some ⟨h4, 0, none⟩) r.reactum.outer.length r.reactum.outer.length, .slice (some ⟨h5, 0, none⟩) r.reactum.inner.length r.reactum.inner.length, .slice (some ⟨g7, 0, none⟩) r.copies.length r.copies.length]).heap.size = w3.heap.size := (storesL_size _ _ _).trans (by simp [World.setCell])
    have hbk : ∀ g, w.heap.size + 1 + 1 + 1 ≤ g → g < w3.heap.size → (storesL (w3.setCell ⟨w.heap.size + 1 + 1, 12, none⟩ (.slice (some ⟨g7, 0, none⟩) r.copies.length r.copies.length)) (w.heap.size + 1) 0 [.int .i64 r.redex.roots, .slice (some ⟨g1, 0, none⟩) r.redex.nodes.length r.redex.nodes.length, .slice (some ⟨g2, 0, none⟩) r.redex.sites.length r.redex.sites.length, .int .i64 r.redex.edges, .slice (some ⟨g4, 0, none⟩) r.redex.outer.length r.redex.outer.length, .slice (some ⟨g5, 0, none⟩) r.redex.inner.length r.redex.inner.length, .int .i64 r.reactum.roots, .slice (some ⟨h1, 0, none⟩) r.reactum.nodes.length r.reactum.nodes.length, .slice (some ⟨h2, 0, none⟩) r.reactum.sites.length r.reactum.sites.length, .int .i64 r.reactum.edges, .slice (some ⟨h4, 0, none⟩) r.reactum.outer.length r.reactum.outer.length, .slice (some ⟨h5, 0, none⟩) r.reactum.inner.length r.reactum.inner.length, .slice (some ⟨g7, 0, none⟩) r.copies.length r.copies.length]).heap[g]? = w3.heap[g]? := fun g k1 _ =>
      (storesL_block (β := w.heap.size + 1) (by omega) _ _ 0).trans (Below.heap_setCell _ _ _ _ (by dsimp only; omega))
    have hro : RulOwn w3 (w.heap.size + 1 + 1 + 1) w3.heap.size (.agg #[.int .i64 r.redex.roots, .slice (some ⟨g1, 0, none⟩) r.redex.nodes.length r.redex.nodes.length, .slice (some ⟨g2, 0, none⟩) r.redex.sites.length r.redex.sites.length, .int .i64 r.redex.edges, .slice (some ⟨g4, 0, none⟩) r.redex.outer.length r.redex.outer.length, .slice (some ⟨g5, 0, none⟩) r.redex.inner.length r.redex.inner.length, .int .i64 r.reactum.roots, .slice (some ⟨h1, 0, none⟩) r.reactum.nodes.length r.reactum.nodes.length, .slice (some ⟨h2, 0, none⟩) r.reactum.sites.length r.reactum.sites.length, .int .i64 r.reactum.edges, .slice (some ⟨h4, 0, none⟩) r.reactum.outer.length r.reactum.outer.length, .slice (some ⟨h5, 0, none⟩) r.reactum.inner.length r.reactum.inner.length, .slice (some ⟨g7, 0, none⟩) r.copies.length r.copies.length]) r := ⟨_, _, _, _, _, _, _, _, _, rfl, HQa.out, HQb.out, HQc.out.1, HQc.out.2.1, HQc.out.2.2⟩
    exact (hro.blocks hbk).wide (by omega) (Nat.le_of_eq hsz.symm)
  · exact storesL_below (β := w.heap.size + 1) (by omega) [.int .i64 r.redex.roots, .slice (some ⟨g1, 0, none⟩) r.redex.nodes.length r.redex.nodes.length, .slice (some ⟨g2, 0, none⟩) r.redex.sites.length r.redex.sites.length, .int .i64 r.redex.edges, .slice (some ⟨g4, 0, none⟩) r.redex.outer.length r.redex.outer.length, .slice (some ⟨g5, 0, none⟩) r.redex.inner.length r.redex.inner.length, .int .i64 r.reactum.roots, .slice (some ⟨h1, 0, none⟩) r.reactum.nodes.length r.reactum.nodes.length, .slice (some ⟨h2, 0, none⟩) r.reactum.sites.length r.reactum.sites.length, .int .i64 r.reactum.edges, .slice (some ⟨h4, 0, none⟩) r.reactum.outer.length r.reactum.outer.length, .slice (some ⟨h5, 0, none⟩) r.reactum.inner.length r.reactum.inner.length, .slice (some ⟨g7, 0, none⟩) r.copies.length r.copies.length] (w3.setCell ⟨w.heap.size + 1 + 1, 12, none⟩ (.slice (some ⟨g7, 0, none⟩) r.copies.length r.copies.length)) 0 (HB3.out.setCell (p := ⟨w.heap.size + 1 + 1, 12, none⟩) (by dsimp only; omega) _)
theorem toR_any (v : Value) (r : Rul) (w : World) (hv : RulAt w w.heap.size v r) (hS : RulS r) :
    Calls Try.prog 12 #[v] w fun e w' => ∃ v', e = .returned v' ∧ RulAt w' w'.heap.size v' r ∧ Below w.heap.size w w' :=
  (toRo_any v r w hv hS).mono (fun e w' ⟨v', h1, h2, h3⟩ => ⟨v', h1, h2.at, h3⟩)
end Go.Proofs.Ytfjgapkjpmkplaa.rut
