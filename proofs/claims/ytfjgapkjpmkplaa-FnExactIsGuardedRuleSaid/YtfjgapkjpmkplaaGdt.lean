/- The law's copies of Guards and guarded Rules. -/
import Derived.Test.YtfjgapkjpmkplaaGde
namespace Go.Proofs.Ytfjgapkjpmkplaa.gdt
open kit bg sg opn strs only hb sig isig un over gn nm inn ht gd im pt marks eqs hc hi hw hn rs br bm bw cf lf ib isa lawb lw cl rub rui ruh rut gdb gdh gde
open Go.RowKit Go.ChangeShapes Go.WideShapes Go.ChangeAt
set_option linter.unusedVariables false
set_option linter.unusedSimpArgs false
/-- a Guard in memory of a call's own -/
def GrdOwn (w : World) (lo hi : Nat) (v : Value) (x : Grd) : Prop := ∃ a0 a1 a2 a3 a4 a5, v = .agg #[.int .i64 x.whr, .bool x.no, a0, a1, a2, a3, a4, a5] ∧ BigOwn w lo hi (.agg #[a0, a1, a2, a3, a4, a5]) x.pat
theorem GrdOwn.at {w : World} {lo hi : Nat} {v : Value} {x : Grd} (h : GrdOwn w lo hi v x) : GrdAt w hi v x := by
  obtain ⟨a0, a1, a2, a3, a4, a5, rfl, ho⟩ := h
  have hb := ho.at
  have hb' := hb
  obtain ⟨A1, n1, c1, A2, n2, c2, A4, n4, c4, A5, n5, c5, e, -⟩ := hb'
  simp only [Value.agg.injEq, Array.mk.injEq, List.cons.injEq, and_true] at e
  obtain ⟨rfl, rfl, rfl, rfl, rfl, rfl⟩ := e
  exact ⟨_, _, _, _, _, _, _, _, _, _, _, _, rfl, hb⟩
theorem GrdOwn.blocks {w w' : World} {lo hi : Nat} {v : Value} {x : Grd} (h : GrdOwn w lo hi v x) (hb : ∀ g, lo ≤ g → g < hi → w'.heap[g]? = w.heap[g]?) : GrdOwn w' lo hi v x := by
  obtain ⟨a0, a1, a2, a3, a4, a5, e, ho⟩ := h
  exact ⟨_, _, _, _, _, _, e, ho.blocks hb⟩
theorem GrdOwn.wide {w : World} {lo hi lo' hi' : Nat} {v : Value} {x : Grd} (h : GrdOwn w lo hi v x) (h1 : lo' ≤ lo) (h2 : hi ≤ hi') : GrdOwn w lo' hi' v x := by
  obtain ⟨a0, a1, a2, a3, a4, a5, e, ho⟩ := h
  exact ⟨_, _, _, _, _, _, e, ho.wide h1 h2⟩
def agg8 (f : Nat → Value) (j : Nat) : Value := .agg #[f (j * 8), f (j * 8 + 1), f (j * 8 + 2), f (j * 8 + 3), f (j * 8 + 4), f (j * 8 + 5), f (j * 8 + 6), f (j * 8 + 7)]
/-- the first k Guards stand in row g -/
def GrdsK (w : World) (g n k : Nat) (gs : List Grd) : Prop := ∃ f, w.rowIs g 89 (n * 8) f ∧ ∀ (j : Nat) x, j < k → gs[j]? = some x → GrdOwn w (g + 1) w.heap.size (agg8 f j) x
def put8 (f : Nat → Value) (k : Nat) (v0 v1 v2 v3 v4 v5 v6 v7 : Value) (i : Nat) : Value := if i = k * 8 + 7 then v7 else if i = k * 8 + 6 then v6 else if i = k * 8 + 5 then v5 else if i = k * 8 + 4 then v4 else if i = k * 8 + 3 then v3 else if i = k * 8 + 2 then v2 else if i = k * 8 + 1 then v1 else if i = k * 8 then v0 else f i
def st8 (w : World) (g k : Nat) (v0 v1 v2 v3 v4 v5 v6 v7 : Value) : World := (((((((w.setCell ⟨g, k * 8, none⟩ v0).setCell ⟨g, k * 8 + 1, none⟩ v1).setCell ⟨g, k * 8 + 2, none⟩ v2).setCell ⟨g, k * 8 + 3, none⟩ v3).setCell ⟨g, k * 8 + 4, none⟩ v4).setCell ⟨g, k * 8 + 5, none⟩ v5).setCell ⟨g, k * 8 + 6, none⟩ v6).setCell ⟨g, k * 8 + 7, none⟩ v7
theorem st8_row {w : World} {g m : Nat} {t : TypeId} {f : Nat → Value} (h : w.rowIs g t m f) (k : Nat) (v0 v1 v2 v3 v4 v5 v6 v7 : Value) : (st8 w g k v0 v1 v2 v3 v4 v5 v6 v7).rowIs g t m (put8 f k v0 v1 v2 v3 v4 v5 v6 v7) :=
  ((((((((h.set (k * 8) v0).set (k * 8 + 1) v1).set (k * 8 + 2) v2).set (k * 8 + 3) v3).set (k * 8 + 4) v4).set (k * 8 + 5) v5).set (k * 8 + 6) v6).set (k * 8 + 7) v7).congr (fun j _ => rfl)
theorem put8_new (f : Nat → Value) (k : Nat) (v0 v1 v2 v3 v4 v5 v6 v7 : Value) : agg8 (put8 f k v0 v1 v2 v3 v4 v5 v6 v7) k = .agg #[v0, v1, v2, v3, v4, v5, v6, v7] := by
  unfold agg8 put8
  simp
theorem put8_old (f : Nat → Value) (k j : Nat) (v0 v1 v2 v3 v4 v5 v6 v7 : Value) (hj : j ≠ k) : agg8 (put8 f k v0 v1 v2 v3 v4 v5 v6 v7) j = agg8 f j := by
  have key : ∀ d, d < 8 → put8 f k v0 v1 v2 v3 v4 v5 v6 v7 (j * 8 + d) = f (j * 8 + d) := fun d hd => by
    unfold put8
    rw [if_neg (by omega), if_neg (by omega), if_neg (by omega), if_neg (by omega), if_neg (by omega), if_neg (by omega), if_neg (by omega), if_neg (by omega)]
  unfold agg8
  rw [show put8 f k v0 v1 v2 v3 v4 v5 v6 v7 (j * 8) = f (j * 8) from key 0 (by omega), key 1 (by omega), key 2 (by omega), key 3 (by omega), key 4 (by omega), key 5 (by omega), key 6 (by omega), key 7 (by omega)]
theorem st8_size {w : World} {g k : Nat} {v0 v1 v2 v3 v4 v5 v6 v7 : Value} : (st8 w g k v0 v1 v2 v3 v4 v5 v6 v7).heap.size = w.heap.size := by simp [st8, World.setCell]
theorem st8_block {w : World} {g k : Nat} {v0 v1 v2 v3 v4 v5 v6 v7 : Value} {i : Nat} (h : i ≠ g) : (st8 w g k v0 v1 v2 v3 v4 v5 v6 v7).heap[i]? = w.heap[i]? := by
  unfold st8
  rw [Below.heap_setCell _ _ _ _ (by simpa using h), Below.heap_setCell _ _ _ _ (by simpa using h), Below.heap_setCell _ _ _ _ (by simpa using h), Below.heap_setCell _ _ _ _ (by simpa using h), Below.heap_setCell _ _ _ _ (by simpa using h), Below.heap_setCell _ _ _ _ (by simpa using h), Below.heap_setCell _ _ _ _ (by simpa using h), Below.heap_setCell _ _ _ _ (by simpa using h)]
theorem st8_below {B : Nat} {a w : World} (h : Below B a w) {g : Nat} (hg : B ≤ g) (k : Nat) (v0 v1 v2 v3 v4 v5 v6 v7 : Value) : Below B a (st8 w g k v0 v1 v2 v3 v4 v5 v6 v7) :=
  (((((((h.setCell (p := ⟨g, _, none⟩) hg v0).setCell (p := ⟨g, _, none⟩) hg v1).setCell (p := ⟨g, _, none⟩) hg v2).setCell (p := ⟨g, _, none⟩) hg v3).setCell (p := ⟨g, _, none⟩) hg v4).setCell (p := ⟨g, _, none⟩) hg v5).setCell (p := ⟨g, _, none⟩) hg v6).setCell (p := ⟨g, _, none⟩) hg v7
theorem grdsK_next {wr w1 : World} {g n k : Nat} {gs : List Grd} {x : Grd} {v0 v1 v2 v3 v4 v5 v6 v7 : Value} (h : GrdsK wr g n k gs) (hx : gs[k]? = some x) (hb : Below wr.heap.size wr w1) (hv : GrdOwn w1 wr.heap.size w1.heap.size (.agg #[v0, v1, v2, v3, v4, v5, v6, v7]) x) :
    GrdsK (st8 w1 g k v0 v1 v2 v3 v4 v5 v6 v7) g n (k + 1) gs := by
  obtain ⟨f, hrow, hf⟩ := h
  have hg := hrow.lt
  have hr8 := st8_row (hrow.of_block (hb.block g hg)) k v0 v1 v2 v3 v4 v5 v6 v7
  have hsz : (st8 w1 g k v0 v1 v2 v3 v4 v5 v6 v7).heap.size = w1.heap.size := st8_size
  have hbl : ∀ i, i ≠ g → (st8 w1 g k v0 v1 v2 v3 v4 v5 v6 v7).heap[i]? = w1.heap[i]? := fun i h => st8_block h
  have hnew := put8_new f k v0 v1 v2 v3 v4 v5 v6 v7
  have hold : ∀ j, j ≠ k → agg8 (put8 f k v0 v1 v2 v3 v4 v5 v6 v7) j = agg8 f j := fun j e => put8_old f k j v0 v1 v2 v3 v4 v5 v6 v7 e
  obtain ⟨F, hF⟩ : ∃ F, put8 f k v0 v1 v2 v3 v4 v5 v6 v7 = F := ⟨_, rfl⟩
  obtain ⟨W, hW⟩ : ∃ W, st8 w1 g k v0 v1 v2 v3 v4 v5 v6 v7 = W := ⟨_, rfl⟩
  rw [hF] at hr8 hnew hold
  rw [hW] at hr8 hsz hbl ⊢
  clear hF hW
  refine ⟨F, hr8, fun j y hj hy => ?_⟩
  rw [hsz]
  by_cases e : j = k
  · subst e
    rw [hx] at hy
    injection hy with hy
    subst hy
    rw [hnew]
    exact (hv.blocks (fun i h1 _ => hbl i (by omega))).wide (by omega) (Nat.le_refl _)
  · rw [hold j e]
    exact ((hf j y (by omega) hy).blocks (fun i h1 h2 => (hbl i (by omega)).trans (hb.block i h2))).wide (Nat.le_refl _) hb.size
theorem GrdsK.at {w : World} {g n : Nat} {gs : List Grd} (h : GrdsK w g n n gs) (hl : gs.length = n) : GrdsAt w w.heap.size (some ⟨g, 0, none⟩) n gs := by
  obtain ⟨f, hrow, hf⟩ := h
  refine ⟨hl, fun hn => ⟨g, 0, rfl, hrow.lt, fun k x hk => ?_⟩⟩
  have hkn : k < n := by have := (List.getElem?_eq_some_iff.1 hk).1; omega
  refine ⟨_, _, _, _, _, _, _, _, ?_, ?_, ?_, ?_, ?_, ?_, ?_, ?_, (hf k x hkn hk).at⟩
  · rw [Nat.zero_add]; exact hrow.cell (by omega)
  · rw [Nat.zero_add]; exact hrow.cell (by omega)
  · rw [Nat.zero_add]; exact hrow.cell (by omega)
  · rw [Nat.zero_add]; exact hrow.cell (by omega)
  · rw [Nat.zero_add]; exact hrow.cell (by omega)
  · rw [Nat.zero_add]; exact hrow.cell (by omega)
  · rw [Nat.zero_add]; exact hrow.cell (by omega)
  · rw [Nat.zero_add]; exact hrow.cell (by omega)
theorem guard_info : (Try.prog.info? 89).map (fun i => (i.zero, i.size, i.bytes)) = some (some (.agg #[.int .i64 0, .bool false, .int .i64 0, .slice none 0 0, .slice none 0 0, .int .i64 0, .slice none 0 0, .slice none 0 0]), 8, 128) := by kernel_rfl

set_option maxRecDepth 20000 in
set_option maxHeartbeats 1600000 in
theorem toG_any (v : Value) (x : Grd) (w : World) (hv : GrdAt w w.heap.size v x) (hS : BigS x.pat) :
    Calls Try.prog 103 #[v] w fun e w' => ∃ v', e = .returned v' ∧ GrdOwn w' w.heap.size w'.heap.size v' x ∧ Below w.heap.size w w' := by
  obtain ⟨z, q, p⟩ := x
  obtain ⟨A1, n1, c1, A2, n2, c2, A4, n4, c4, A5, n5, c5, rfl, k1⟩ := hv
  dsimp only at k1 hS ⊢
  have hX0 : BoxN (w.alloc (.cells #[.int .i64 z, .bool q, .int .i64 p.roots, .slice A1 n1 c1, .slice A2 n2 c2, .int .i64 p.edges, .slice A4 n4 c4, .slice A5 n5 c5] 134)) w.heap.size 134 [.int .i64 z, .bool q, .int .i64 p.roots, .slice A1 n1 c1, .slice A2 n2 c2, .int .i64 p.edges, .slice A4 n4 c4, .slice A5 n5 c5] := BoxN.new w #[.int .i64 z, .bool q, .int .i64 p.roots, .slice A1 n1 c1, .slice A2 n2 c2, .int .i64 p.edges, .slice A4 n4 c4, .slice A5 n5 c5] 134
  have hb0 := (Below.refl w.heap.size w).alloc (Nat.le_refl _) (.cells #[.int .i64 z, .bool q, .int .i64 p.roots, .slice A1 n1 c1, .slice A2 n2 c2, .int .i64 p.edges, .slice A4 n4 c4, .slice A5 n5 c5] 134)
  obtain ⟨U, hU⟩ : ∃ U, w.alloc (.cells #[.int .i64 z, .bool q, .int .i64 p.roots, .slice A1 n1 c1, .slice A2 n2 c2, .int .i64 p.edges, .slice A4 n4 c4, .slice A5 n5 c5] 134) = U := ⟨_, rfl⟩
  have hz0 : U.heap.size = w.heap.size + 1 := by rw [← hU]; simp
  rw [hU] at hX0 hb0
  have hR0 : BoxN (U.alloc (.cells #[.int .i64 0, .bool false, .int .i64 0, .slice none 0 0, .slice none 0 0, .int .i64 0, .slice none 0 0, .slice none 0 0] 89)) U.heap.size 89 [.int .i64 0, .bool false, .int .i64 0, .slice none 0 0, .slice none 0 0, .int .i64 0, .slice none 0 0, .slice none 0 0] := BoxN.new U #[.int .i64 0, .bool false, .int .i64 0, .slice none 0 0, .slice none 0 0, .int .i64 0, .slice none 0 0, .slice none 0 0] 89
  have hb1 := (Below.refl U.heap.size U).alloc (Nat.le_refl _) (.cells #[.int .i64 0, .bool false, .int .i64 0, .slice none 0 0, .slice none 0 0, .int .i64 0, .slice none 0 0, .slice none 0 0] 89)
  obtain ⟨V, hV⟩ : ∃ V, U.alloc (.cells #[.int .i64 0, .bool false, .int .i64 0, .slice none 0 0, .slice none 0 0, .int .i64 0, .slice none 0 0, .slice none 0 0] 89) = V := ⟨_, rfl⟩
  have hz1 : V.heap.size = w.heap.size + 1 + 1 := by rw [← hV, World.size_alloc, hz0]
  rw [hV] at hR0 hb1
  have hO0 : BoxN (V.alloc (.cells #[.int .i64 z, .bool q, .int .i64 0, .slice none 0 0, .slice none 0 0, .int .i64 0, .slice none 0 0, .slice none 0 0] 89)) V.heap.size 89 [.int .i64 z, .bool q, .int .i64 0, .slice none 0 0, .slice none 0 0, .int .i64 0, .slice none 0 0, .slice none 0 0] := BoxN.new V #[.int .i64 z, .bool q, .int .i64 0, .slice none 0 0, .slice none 0 0, .int .i64 0, .slice none 0 0, .slice none 0 0] 89
  have hb2 := (Below.refl V.heap.size V).alloc (Nat.le_refl _) (.cells #[.int .i64 z, .bool q, .int .i64 0, .slice none 0 0, .slice none 0 0, .int .i64 0, .slice none 0 0, .slice none 0 0] 89)
  obtain ⟨W, hW⟩ : ∃ W, V.alloc (.cells #[.int .i64 z, .bool q, .int .i64 0, .slice none 0 0, .slice none 0 0, .int .i64 0, .slice none 0 0, .slice none 0 0] 89) = W := ⟨_, rfl⟩
  have hz2 : W.heap.size = w.heap.size + 1 + 1 + 1 := by rw [← hW, World.size_alloc, hz1]
  rw [hW] at hO0 hb2
  have HR := Lib.hid (hR0.on hb2)
  rw [hz0] at HR
  rw [hz1] at hO0
  have HO := Lib.hid hO0
  have HX := Lib.hid ((hX0.on hb1).on hb2)
  have HB := Lib.hid ((hb0.trans (hb1.mono hb0.size)).trans (hb2.mono (Nat.le_trans hb0.size hb1.size)))
  have HUq := Lib.hid hU
  have HVq := Lib.hid hV
  have HWq := Lib.hid hW
  have HZ := Lib.hid hz2
  have C := toB_any _ p W ((k1.below HB.out).wide HB.out.size) hS
  clear hX0 hb0 hU hR0 hb1 hV hO0 hb2 hW hz0 hz1 hz2 hS k1
  obtain ⟨x0, x1, x2, x3, x4, x5, x6, x7⟩ := get8 HX.out
  go_enter Try.func103, Try.ntmps103
  go_wp2_with fail
  rw [HUq.out, HVq.out, HWq.out]
  go_wp2_with fail
  refine C.mono ?_
  rintro e w1 ⟨v1, rfl, ho1, hb1⟩
  have hB1 := HB.out.trans (hb1.mono HB.out.size)
  have hR1 := HR.out.on hb1
  have hO1 := HO.out.on hb1
  have hs1 := hb1.size
  rw [HZ.out] at hs1
  have HO1 := Lib.hid ho1
  obtain ⟨g1, g2, g4, g5, rfl, -⟩ := ho1
  have HB1 := Lib.hid (storesL_below (B := w.heap.size) (β := w.heap.size + 1 + 1) (by omega) [.int .i64 p.roots, .slice (some ⟨g1, 0, none⟩) p.nodes.length p.nodes.length, .slice (some ⟨g2, 0, none⟩) p.sites.length p.sites.length, .int .i64 p.edges, .slice (some ⟨g4, 0, none⟩) p.outer.length p.outer.length, .slice (some ⟨g5, 0, none⟩) p.inner.length p.inner.length] w1 2 hB1)
  have HBk := Lib.hid (fun (g : Nat) (hg : g ≠ w.heap.size + 1 + 1) => storesL_block hg [.int .i64 p.roots, .slice (some ⟨g1, 0, none⟩) p.nodes.length p.nodes.length, .slice (some ⟨g2, 0, none⟩) p.sites.length p.sites.length, .int .i64 p.edges, .slice (some ⟨g4, 0, none⟩) p.outer.length p.outer.length, .slice (some ⟨g5, 0, none⟩) p.inner.length p.inner.length] w1 2)
  have HR1 : Hid (BoxN (storesL w1 (w.heap.size + 1 + 1) 2 [.int .i64 p.roots, .slice (some ⟨g1, 0, none⟩) p.nodes.length p.nodes.length, .slice (some ⟨g2, 0, none⟩) p.sites.length p.sites.length, .int .i64 p.edges, .slice (some ⟨g4, 0, none⟩) p.outer.length p.outer.length, .slice (some ⟨g5, 0, none⟩) p.inner.length p.inner.length]) (w.heap.size + 1) 89 [.int .i64 0, .bool false, .int .i64 0, .slice none 0 0, .slice none 0 0, .int .i64 0, .slice none 0 0, .slice none 0 0]) := Lib.hid (World.rowIs.of_block hR1 (HBk.out _ (by omega)))
  have HO1' : Hid (BoxN (storesL w1 (w.heap.size + 1 + 1) 2 [.int .i64 p.roots, .slice (some ⟨g1, 0, none⟩) p.nodes.length p.nodes.length, .slice (some ⟨g2, 0, none⟩) p.sites.length p.sites.length, .int .i64 p.edges, .slice (some ⟨g4, 0, none⟩) p.outer.length p.outer.length, .slice (some ⟨g5, 0, none⟩) p.inner.length p.inner.length]) (w.heap.size + 1 + 1) 89 [.int .i64 z, .bool q, .int .i64 p.roots, .slice (some ⟨g1, 0, none⟩) p.nodes.length p.nodes.length, .slice (some ⟨g2, 0, none⟩) p.sites.length p.sites.length, .int .i64 p.edges, .slice (some ⟨g4, 0, none⟩) p.outer.length p.outer.length, .slice (some ⟨g5, 0, none⟩) p.inner.length p.inner.length]) := Lib.hid (((((((hO1.set 2 _).set 3 _).set 4 _).set 5 _).set 6 _).set 7 _))
  have HQ1 := Lib.hid (HO1.out.blocks (fun g h1 _ => HBk.out g (by have := HZ.out; omega)))
  have HZ1 := Lib.hid (storesL_size (β := w.heap.size + 1 + 1) [.int .i64 p.roots, .slice (some ⟨g1, 0, none⟩) p.nodes.length p.nodes.length, .slice (some ⟨g2, 0, none⟩) p.sites.length p.sites.length, .int .i64 p.edges, .slice (some ⟨g4, 0, none⟩) p.outer.length p.outer.length, .slice (some ⟨g5, 0, none⟩) p.inner.length p.inner.length] w1 2)
  clear hb1 hB1 C x0 x1 x2 x3 x4 x5 x6 x7
  obtain ⟨z0, z1, z2, z3, z4, z5, z6, z7⟩ := get8 hO1
  obtain ⟨y0, y1, y2, y3, y4, y5, y6, y7⟩ := get8 hR1
  have f0 := World.rowIs.frozen hO1 0
  have f1 := World.rowIs.frozen hO1 1
  have f2 := World.rowIs.frozen hO1 2
  have f3 := World.rowIs.frozen hO1 3
  have f4 := World.rowIs.frozen hO1 4
  have f5 := World.rowIs.frozen hO1 5
  have f6 := World.rowIs.frozen hO1 6
  have f7 := World.rowIs.frozen hO1 7
  have q0 := World.rowIs.frozen hR1 0
  have q1 := World.rowIs.frozen hR1 1
  have q2 := World.rowIs.frozen hR1 2
  have q3 := World.rowIs.frozen hR1 3
  have q4 := World.rowIs.frozen hR1 4
  have q5 := World.rowIs.frozen hR1 5
  have q6 := World.rowIs.frozen hR1 6
  have q7 := World.rowIs.frozen hR1 7
  clear hR1 hO1 HX HR HO HO1' HR1
  dsimp only
  first | go_values | go_skip | go_guarded | go_step | go_upon | (simp only [Int.not_lt, Int.not_le] at *; go_simp)
  first | go_values | go_skip | go_guarded | go_step | go_upon | (simp only [Int.not_lt, Int.not_le] at *; go_simp)
  first | go_values | go_skip | go_guarded | go_step | go_upon | (simp only [Int.not_lt, Int.not_le] at *; go_simp)
  first | go_values | go_skip | go_guarded | go_step | go_upon | (simp only [Int.not_lt, Int.not_le] at *; go_simp)
  first | go_values | go_skip | go_guarded | go_step | go_upon | (simp only [Int.not_lt, Int.not_le] at *; go_simp)
  first | go_values | go_skip | go_guarded | go_step | go_upon | (simp only [Int.not_lt, Int.not_le] at *; go_simp)
  first | go_values | go_skip | go_guarded | go_step | go_upon | (simp only [Int.not_lt, Int.not_le] at *; go_simp)
  first | go_values | go_skip | go_guarded | go_step | go_upon | (simp only [Int.not_lt, Int.not_le] at *; go_simp)
  first | go_values | go_skip | go_guarded | go_step | go_upon | (simp only [Int.not_lt, Int.not_le] at *; go_simp)
  first | go_values | go_skip | go_guarded | go_step | go_upon | (simp only [Int.not_lt, Int.not_le] at *; go_simp)
  first | go_values | go_skip | go_guarded | go_step | go_upon | (simp only [Int.not_lt, Int.not_le] at *; go_simp)
  first | go_values | go_skip | go_guarded | go_step | go_upon | (simp only [Int.not_lt, Int.not_le] at *; go_simp)
  first | go_values | go_skip | go_guarded | go_step | go_upon | (simp only [Int.not_lt, Int.not_le] at *; go_simp)
  first | go_values | go_skip | go_guarded | go_step | go_upon | (simp only [Int.not_lt, Int.not_le] at *; go_simp)
  first | go_values | go_skip | go_guarded | go_step | go_upon | (simp only [Int.not_lt, Int.not_le] at *; go_simp)
  first | go_values | go_skip | go_guarded | go_step | go_upon | (simp only [Int.not_lt, Int.not_le] at *; go_simp)
  first | go_values | go_skip | go_guarded | go_step | go_upon | (simp only [Int.not_lt, Int.not_le] at *; go_simp)
  first | go_values | go_skip | go_guarded | go_step | go_upon | (simp only [Int.not_lt, Int.not_le] at *; go_simp)
  first | go_values | go_skip | go_guarded | go_step | go_upon | (simp only [Int.not_lt, Int.not_le] at *; go_simp)
  first | go_values | go_skip | go_guarded | go_step | go_upon | (simp only [Int.not_lt, Int.not_le] at *; go_simp)
  first | go_values | go_skip | go_guarded | go_step | go_upon | (simp only [Int.not_lt, Int.not_le] at *; go_simp)
  first | go_values | go_skip | go_guarded | go_step | go_upon | (simp only [Int.not_lt, Int.not_le] at *; go_simp)
  have hZ := HZ.out
  have hbk : ∀ g, W.heap.size ≤ g → g < w1.heap.size → (storesL (storesL w1 (w.heap.size + 1 + 1) 2 [.int .i64 p.roots, .slice (some ⟨g1, 0, none⟩) p.nodes.length p.nodes.length, .slice (some ⟨g2, 0, none⟩) p.sites.length p.sites.length, .int .i64 p.edges, .slice (some ⟨g4, 0, none⟩) p.outer.length p.outer.length, .slice (some ⟨g5, 0, none⟩) p.inner.length p.inner.length]) (w.heap.size + 1) 0 [.int .i64 z, .bool q, .int .i64 p.roots, .slice (some ⟨g1, 0, none⟩) p.nodes.length p.nodes.length, .slice (some ⟨g2, 0, none⟩) p.sites.length p.sites.length, .int .i64 p.edges, .slice (some ⟨g4, 0, none⟩) p.outer.length p.outer.length, .slice (some ⟨g5, 0, none⟩) p.inner.length p.inner.length]).heap[g]? = w1.heap[g]? := fun g h1 _ =>
    (storesL_block (by omega) _ _ _).trans (storesL_block (by omega) _ _ _)
  have hsz : (storesL (storesL w1 (w.heap.size + 1 + 1) 2 [.int .i64 p.roots, .slice (some ⟨g1, 0, none⟩) p.nodes.length p.nodes.length, .slice (some ⟨g2, 0, none⟩) p.sites.length p.sites.length, .int .i64 p.edges, .slice (some ⟨g4, 0, none⟩) p.outer.length p.outer.length, .slice (some ⟨g5, 0, none⟩) p.inner.length p.inner.length]) (w.heap.size + 1) 0 [.int .i64 z, .bool q, .int .i64 p.roots, .slice (some ⟨g1, 0, none⟩) p.nodes.length p.nodes.length, .slice (some ⟨g2, 0, none⟩) p.sites.length p.sites.length, .int .i64 p.edges, .slice (some ⟨g4, 0, none⟩) p.outer.length p.outer.length, .slice (some ⟨g5, 0, none⟩) p.inner.length p.inner.length]).heap.size = w1.heap.size := (storesL_size _ _ _).trans (storesL_size _ _ _)
  refine bodyPost_ret (v := .agg #[.int .i64 z, .bool q, .int .i64 p.roots, .slice (some ⟨g1, 0, none⟩) p.nodes.length p.nodes.length, .slice (some ⟨g2, 0, none⟩) p.sites.length p.sites.length, .int .i64 p.edges, .slice (some ⟨g4, 0, none⟩) p.outer.length p.outer.length, .slice (some ⟨g5, 0, none⟩) p.inner.length p.inner.length]) (by simp [results, Try.results103, go_sem, y0, y1, y2, y3, y4, y5, y6, y7]) rfl ⟨_, rfl, ?_, ?_⟩
  · exact ⟨_, _, _, _, _, _, rfl, (HO1.out.blocks hbk).wide (by omega) (Nat.le_of_eq hsz.symm)⟩
  · exact storesL_below (β := w.heap.size + 1) (by omega) [.int .i64 z, .bool q, .int .i64 p.roots, .slice (some ⟨g1, 0, none⟩) p.nodes.length p.nodes.length, .slice (some ⟨g2, 0, none⟩) p.sites.length p.sites.length, .int .i64 p.edges, .slice (some ⟨g4, 0, none⟩) p.outer.length p.outer.length, .slice (some ⟨g5, 0, none⟩) p.inner.length p.inner.length] (storesL w1 (w.heap.size + 1 + 1) 2 [.int .i64 p.roots, .slice (some ⟨g1, 0, none⟩) p.nodes.length p.nodes.length, .slice (some ⟨g2, 0, none⟩) p.sites.length p.sites.length, .int .i64 p.edges, .slice (some ⟨g4, 0, none⟩) p.outer.length p.outer.length, .slice (some ⟨g5, 0, none⟩) p.inner.length p.inner.length]) 0 HB1.out

set_option maxRecDepth 20000 in
set_option maxHeartbeats 3200000 in
theorem toGS_any (A : Option Addr) (n c : Nat) (gs : List Grd) (w : World) (h : GrdsAt w w.heap.size A n gs) (hn : n ≤ 1048576) (hw : ∀ x ∈ gs, BigS x.pat) :
    Calls Try.prog 50 #[.slice A n c] w fun e w' => ∃ g, e = .returned (.slice (some ⟨g, 0, none⟩) n n) ∧ GrdsK w' g n n gs ∧ w.heap.size ≤ g ∧ g < w'.heap.size ∧ Below w.heap.size w w' := by
  have HL := Lib.hid h.1
  have HW := Lib.hid hw
  clear hw
  have hmk : ∀ W : World, (Instr.makeSlice 51 (.int .i64 (n : Int)) (.int .i64 (n : Int))).run Try.prog W = .ok (.slice (some ⟨W.heap.size, 0, none⟩) n n) (W.alloc (.cells (madeCells #[.int .i64 0, .bool false, .int .i64 0, .slice none 0 0, .slice none 0 0, .int .i64 0, .slice none 0 0, .slice none 0 0] (n * 8)) 89)) := by
    intro W
    obtain ⟨i0, hi, hz0, hz1, hz2⟩ := info_parts guard_info
    have hr := run_make (P := Try.prog) W 51 89 i0 _ Try.underlying51 hi hz0 .i64 .i64 n n (by omega) (Int.le_refl _) (by rw [hz2]; omega) (by omega)
    simp only [Int.toNat_natCast, hz1] at hr
    exact hr
  go_enter Try.func50, Try.ntmps50
  go_wp2_with fail
  clear hmk
  go_loopw [4] (fun i wr => ∃ k : Nat, k ≤ n ∧ i = .int .i64 k ∧ GrdsK wr w.heap.size n k gs ∧ Below w.heap.size w wr ∧ w.heap.size < wr.heap.size) (fun i _ => n - (intOf i).toNat)
  case atStart => exact ⟨0, Nat.zero_le _, rfl, ⟨_, row_new w _ _ _ (size_madeCells _ _), fun j b hj => absurd hj (Nat.not_lt_zero j)⟩, (Below.refl _ _).alloc (Nat.le_refl _) _, by simp⟩
  case round =>
    obtain ⟨k, hk, rfl, hkk, hbel, hlt0⟩ := hrel
    by_cases hlt : k < n
    · obtain ⟨g, off, x, rfl, hbb, hx, A1, n1, c1, A2, n2, c2, A4, n4, c4, A5, n5, c5, e0, e1, e2, e3, e4, e5, e6, e7, hv⟩ := h.get hlt
      have d0 := (hbel.cell (p := ⟨g, off + k * 8, none⟩) hbb).trans e0
      have d1 := (hbel.cell (p := ⟨g, off + k * 8 + 1, none⟩) hbb).trans e1
      have d2 := (hbel.cell (p := ⟨g, off + k * 8 + 2, none⟩) hbb).trans e2
      have d3 := (hbel.cell (p := ⟨g, off + k * 8 + 3, none⟩) hbb).trans e3
      have d4 := (hbel.cell (p := ⟨g, off + k * 8 + 4, none⟩) hbb).trans e4
      have d5 := (hbel.cell (p := ⟨g, off + k * 8 + 5, none⟩) hbb).trans e5
      have d6 := (hbel.cell (p := ⟨g, off + k * 8 + 6, none⟩) hbb).trans e6
      have d7 := (hbel.cell (p := ⟨g, off + k * 8 + 7, none⟩) hbb).trans e7
      have C := toG_any _ x wr ((hv.below hbel).wide hbel.size) (HW.out x (List.mem_of_getElem? hx))
      have HX := Lib.hid hx
      have HK := Lib.hid hkk
      obtain ⟨f, hrow, -⟩ := hkk
      clear hx e0 e1 e2 e3 e4 e5 e6 e7 hv
      go_wp2_with fail
      refine C.mono ?_
      rintro e w1 ⟨v', rfl, hown, hb1⟩
      have hbel1 := hbel.trans (hb1.mono hbel.size)
      have hrow1 := hrow.of_block (hb1.block _ hlt0)
      have hown' := hown
      obtain ⟨a0, a1, a2, a3, a4, a5, rfl, hbo⟩ := hown'
      obtain ⟨g1, g2, g4, g5, ev, -⟩ := hbo
      simp only [Value.agg.injEq, Array.mk.injEq, List.cons.injEq, and_true] at ev
      obtain ⟨rfl, rfl, rfl, rfl, rfl, rfl⟩ := ev
      have z0 := hrow1.cell (show k * 8 < n * 8 by omega)
      have z1 := hrow1.cell (show k * 8 + 1 < n * 8 by omega)
      have z2 := hrow1.cell (show k * 8 + 2 < n * 8 by omega)
      have z3 := hrow1.cell (show k * 8 + 3 < n * 8 by omega)
      have z4 := hrow1.cell (show k * 8 + 4 < n * 8 by omega)
      have z5 := hrow1.cell (show k * 8 + 5 < n * 8 by omega)
      have z6 := hrow1.cell (show k * 8 + 6 < n * 8 by omega)
      have z7 := hrow1.cell (show k * 8 + 7 < n * 8 by omega)
      have f0 := hrow1.frozen (k * 8)
      have f1 := hrow1.frozen (k * 8 + 1)
      have f2 := hrow1.frozen (k * 8 + 2)
      have f3 := hrow1.frozen (k * 8 + 3)
      have f4 := hrow1.frozen (k * 8 + 4)
      have f5 := hrow1.frozen (k * 8 + 5)
      have f6 := hrow1.frozen (k * 8 + 6)
      have f7 := hrow1.frozen (k * 8 + 7)
      have hs1 := hb1.size
      have HN := Lib.hid (grdsK_next HK.out HX.out hb1 hown)
      have HB := Lib.hid (st8_below hbel1 (Nat.le_refl _) k (.int .i64 x.whr) (.bool x.no) (.int .i64 x.pat.roots) (.slice (some ⟨g1, 0, none⟩) x.pat.nodes.length x.pat.nodes.length) (.slice (some ⟨g2, 0, none⟩) x.pat.sites.length x.pat.sites.length) (.int .i64 x.pat.edges) (.slice (some ⟨g4, 0, none⟩) x.pat.outer.length x.pat.outer.length) (.slice (some ⟨g5, 0, none⟩) x.pat.inner.length x.pat.inner.length))
      have HZ := Lib.hid (show w.heap.size < (st8 w1 w.heap.size k (.int .i64 x.whr) (.bool x.no) (.int .i64 x.pat.roots) (.slice (some ⟨g1, 0, none⟩) x.pat.nodes.length x.pat.nodes.length) (.slice (some ⟨g2, 0, none⟩) x.pat.sites.length x.pat.sites.length) (.int .i64 x.pat.edges) (.slice (some ⟨g4, 0, none⟩) x.pat.outer.length x.pat.outer.length) (.slice (some ⟨g5, 0, none⟩) x.pat.inner.length x.pat.inner.length)).heap.size by rw [st8_size]; omega)
      clear hb1 hbel1 hrow hrow1 hbel hown C d0 d1 d2 d3 d4 d5 d6 d7
      go_wp2_with fail
      go_roundw
      case rel => exact ⟨k + 1, by omega, by go_num, HN.out, HB.out, HZ.out⟩
      case measure => simp [intOf]; omega
    · obtain rfl : k = n := by omega
      go_wp2_with fail
      go_ret
      exact ⟨w.heap.size, rfl, hkk, Nat.le_refl _, hlt0, hbel⟩

set_option maxRecDepth 20000 in
set_option maxHeartbeats 3200000 in
theorem toGR_any (v : Value) (r : GRul) (w : World) (hv : GRulAt w w.heap.size v r) (hS : GRulS r) :
    Calls Try.prog 18 #[v] w fun e w' => ∃ v', e = .returned v' ∧ GRulAt w' w'.heap.size v' r ∧ Below w.heap.size w w' := by
  obtain ⟨a0, a1, a2, a3, a4, a5, a6, a7, a8, a9, a10, a11, a12, G, n, c, rfl, k1, k2⟩ := hv
  have hX0 : BoxN (w.alloc (.cells #[a0, a1, a2, a3, a4, a5, a6, a7, a8, a9, a10, a11, a12, .slice G n c, .int .i64 r.prio] 48)) w.heap.size 48 [a0, a1, a2, a3, a4, a5, a6, a7, a8, a9, a10, a11, a12, .slice G n c, .int .i64 r.prio] := BoxN.new w #[a0, a1, a2, a3, a4, a5, a6, a7, a8, a9, a10, a11, a12, .slice G n c, .int .i64 r.prio] 48
  have hb0 := (Below.refl w.heap.size w).alloc (Nat.le_refl _) (.cells #[a0, a1, a2, a3, a4, a5, a6, a7, a8, a9, a10, a11, a12, .slice G n c, .int .i64 r.prio] 48)
  obtain ⟨U, hU⟩ : ∃ U, w.alloc (.cells #[a0, a1, a2, a3, a4, a5, a6, a7, a8, a9, a10, a11, a12, .slice G n c, .int .i64 r.prio] 48) = U := ⟨_, rfl⟩
  have hz0 : U.heap.size = w.heap.size + 1 := by rw [← hU]; simp
  rw [hU] at hX0 hb0
  have hR0 : BoxN (U.alloc (.cells #[.int .i64 0, .slice none 0 0, .slice none 0 0, .int .i64 0, .slice none 0 0, .slice none 0 0, .int .i64 0, .slice none 0 0, .slice none 0 0, .int .i64 0, .slice none 0 0, .slice none 0 0, .slice none 0 0, .slice none 0 0, .int .i64 0] 53)) U.heap.size 53 [.int .i64 0, .slice none 0 0, .slice none 0 0, .int .i64 0, .slice none 0 0, .slice none 0 0, .int .i64 0, .slice none 0 0, .slice none 0 0, .int .i64 0, .slice none 0 0, .slice none 0 0, .slice none 0 0, .slice none 0 0, .int .i64 0] := BoxN.new U #[.int .i64 0, .slice none 0 0, .slice none 0 0, .int .i64 0, .slice none 0 0, .slice none 0 0, .int .i64 0, .slice none 0 0, .slice none 0 0, .int .i64 0, .slice none 0 0, .slice none 0 0, .slice none 0 0, .slice none 0 0, .int .i64 0] 53
  have hb1 := (Below.refl U.heap.size U).alloc (Nat.le_refl _) (.cells #[.int .i64 0, .slice none 0 0, .slice none 0 0, .int .i64 0, .slice none 0 0, .slice none 0 0, .int .i64 0, .slice none 0 0, .slice none 0 0, .int .i64 0, .slice none 0 0, .slice none 0 0, .slice none 0 0, .slice none 0 0, .int .i64 0] 53)
  obtain ⟨V, hV⟩ : ∃ V, U.alloc (.cells #[.int .i64 0, .slice none 0 0, .slice none 0 0, .int .i64 0, .slice none 0 0, .slice none 0 0, .int .i64 0, .slice none 0 0, .slice none 0 0, .int .i64 0, .slice none 0 0, .slice none 0 0, .slice none 0 0, .slice none 0 0, .int .i64 0] 53) = V := ⟨_, rfl⟩
  have hz1 : V.heap.size = w.heap.size + 1 + 1 := by rw [← hV, World.size_alloc, hz0]
  rw [hV] at hR0 hb1
  have hO0 : BoxN (V.alloc (.cells #[.int .i64 0, .slice none 0 0, .slice none 0 0, .int .i64 0, .slice none 0 0, .slice none 0 0, .int .i64 0, .slice none 0 0, .slice none 0 0, .int .i64 0, .slice none 0 0, .slice none 0 0, .slice none 0 0, .slice none 0 0, .int .i64 0] 53)) V.heap.size 53 [.int .i64 0, .slice none 0 0, .slice none 0 0, .int .i64 0, .slice none 0 0, .slice none 0 0, .int .i64 0, .slice none 0 0, .slice none 0 0, .int .i64 0, .slice none 0 0, .slice none 0 0, .slice none 0 0, .slice none 0 0, .int .i64 0] := BoxN.new V #[.int .i64 0, .slice none 0 0, .slice none 0 0, .int .i64 0, .slice none 0 0, .slice none 0 0, .int .i64 0, .slice none 0 0, .slice none 0 0, .int .i64 0, .slice none 0 0, .slice none 0 0, .slice none 0 0, .slice none 0 0, .int .i64 0] 53
  have hb2 := (Below.refl V.heap.size V).alloc (Nat.le_refl _) (.cells #[.int .i64 0, .slice none 0 0, .slice none 0 0, .int .i64 0, .slice none 0 0, .slice none 0 0, .int .i64 0, .slice none 0 0, .slice none 0 0, .int .i64 0, .slice none 0 0, .slice none 0 0, .slice none 0 0, .slice none 0 0, .int .i64 0] 53)
  obtain ⟨W, hW⟩ : ∃ W, V.alloc (.cells #[.int .i64 0, .slice none 0 0, .slice none 0 0, .int .i64 0, .slice none 0 0, .slice none 0 0, .int .i64 0, .slice none 0 0, .slice none 0 0, .int .i64 0, .slice none 0 0, .slice none 0 0, .slice none 0 0, .slice none 0 0, .int .i64 0] 53) = W := ⟨_, rfl⟩
  have hz2 : W.heap.size = w.heap.size + 1 + 1 + 1 := by rw [← hW, World.size_alloc, hz1]
  rw [hW] at hO0 hb2
  have HX := Lib.hid ((hX0.on hb1).on hb2)
  have HR := Lib.hid (hR0.on hb2)
  rw [hz0] at HR
  rw [hz1] at hO0
  have HO := Lib.hid hO0
  have HB := Lib.hid ((hb0.trans (hb1.mono hb0.size)).trans (hb2.mono (Nat.le_trans hb0.size hb1.size)))
  have HUq := Lib.hid hU
  have HVq := Lib.hid hV
  have HWq := Lib.hid hW
  have HZ := Lib.hid hz2
  have HS := Lib.hid hS
  have hn : n ≤ 1048576 := by have := hS.2.1; have := k2.1; omega
  have HK2 := Lib.hid (fun (Y : World) (hY : Below w.heap.size w Y) => (k2.below hY).wide hY.size)
  have HL2 := Lib.hid k2.1
  have C := toRo_any _ r.rule W ((k1.below HB.out).wide HB.out.size) hS.1
  clear hX0 hb0 hU hR0 hb1 hV hO0 hb2 hW hz0 hz1 hz2 hS k1 k2
  obtain ⟨x0, x1, x2, x3, x4, x5, x6, x7, x8, x9, x10, x11, x12, x13, x14⟩ := get15 HX.out
  go_enter Try.func18, Try.ntmps18
  go_wp2_with fail
  rw [HUq.out, HVq.out, HWq.out]
  go_wp2_with fail
  refine C.mono ?_
  rintro e w1 ⟨v1, rfl, ho1, hb1⟩
  have hB1 := HB.out.trans (hb1.mono HB.out.size)
  have hX1 := HX.out.on hb1
  have hR1 := HR.out.on hb1
  have hO1 := HO.out.on hb1
  have hs1 := hb1.size
  rw [HZ.out] at hs1
  have HO1 := Lib.hid ho1
  obtain ⟨g1, g2, g4, g5, h1, h2, h4, h5, g7, rfl, -⟩ := ho1
  have HB1 := Lib.hid (storesL_below (B := w.heap.size) (β := w.heap.size + 1 + 1) (by omega) [.int .i64 r.rule.redex.roots, .slice (some ⟨g1, 0, none⟩) r.rule.redex.nodes.length r.rule.redex.nodes.length, .slice (some ⟨g2, 0, none⟩) r.rule.redex.sites.length r.rule.redex.sites.length, .int .i64 r.rule.redex.edges, .slice (some ⟨g4, 0, none⟩) r.rule.redex.outer.length r.rule.redex.outer.length, .slice (some ⟨g5, 0, none⟩) r.rule.redex.inner.length r.rule.redex.inner.length, .int .i64 r.rule.reactum.roots, .slice (some ⟨h1, 0, none⟩) r.rule.reactum.nodes.length r.rule.reactum.nodes.length, .slice (some ⟨h2, 0, none⟩) r.rule.reactum.sites.length r.rule.reactum.sites.length, .int .i64 r.rule.reactum.edges, .slice (some ⟨h4, 0, none⟩) r.rule.reactum.outer.length r.rule.reactum.outer.length, .slice (some ⟨h5, 0, none⟩) r.rule.reactum.inner.length r.rule.reactum.inner.length, .slice (some ⟨g7, 0, none⟩) r.rule.copies.length r.rule.copies.length] w1 0 hB1)
  have HBk := Lib.hid (fun (g : Nat) (hg : g ≠ w.heap.size + 1 + 1) => storesL_block hg [.int .i64 r.rule.redex.roots, .slice (some ⟨g1, 0, none⟩) r.rule.redex.nodes.length r.rule.redex.nodes.length, .slice (some ⟨g2, 0, none⟩) r.rule.redex.sites.length r.rule.redex.sites.length, .int .i64 r.rule.redex.edges, .slice (some ⟨g4, 0, none⟩) r.rule.redex.outer.length r.rule.redex.outer.length, .slice (some ⟨g5, 0, none⟩) r.rule.redex.inner.length r.rule.redex.inner.length, .int .i64 r.rule.reactum.roots, .slice (some ⟨h1, 0, none⟩) r.rule.reactum.nodes.length r.rule.reactum.nodes.length, .slice (some ⟨h2, 0, none⟩) r.rule.reactum.sites.length r.rule.reactum.sites.length, .int .i64 r.rule.reactum.edges, .slice (some ⟨h4, 0, none⟩) r.rule.reactum.outer.length r.rule.reactum.outer.length, .slice (some ⟨h5, 0, none⟩) r.rule.reactum.inner.length r.rule.reactum.inner.length, .slice (some ⟨g7, 0, none⟩) r.rule.copies.length r.rule.copies.length] w1 0)
  have HX1 : Hid (BoxN (storesL w1 (w.heap.size + 1 + 1) 0 [.int .i64 r.rule.redex.roots, .slice (some ⟨g1, 0, none⟩) r.rule.redex.nodes.length r.rule.redex.nodes.length, .slice (some ⟨g2, 0, none⟩) r.rule.redex.sites.length r.rule.redex.sites.length, .int .i64 r.rule.redex.edges, .slice (some ⟨g4, 0, none⟩) r.rule.redex.outer.length r.rule.redex.outer.length, .slice (some ⟨g5, 0, none⟩) r.rule.redex.inner.length r.rule.redex.inner.length, .int .i64 r.rule.reactum.roots, .slice (some ⟨h1, 0, none⟩) r.rule.reactum.nodes.length r.rule.reactum.nodes.length, .slice (some ⟨h2, 0, none⟩) r.rule.reactum.sites.length r.rule.reactum.sites.length, .int .i64 r.rule.reactum.edges, .slice (some ⟨h4, 0, none⟩) r.rule.reactum.outer.length r.rule.reactum.outer.length, .slice (some ⟨h5, 0, none⟩) r.rule.reactum.inner.length r.rule.reactum.inner.length, .slice (some ⟨g7, 0, none⟩) r.rule.copies.length r.rule.copies.length]) w.heap.size 48 [a0, a1, a2, a3, a4, a5, a6, a7, a8, a9, a10, a11, a12, .slice G n c, .int .i64 r.prio]) := Lib.hid (World.rowIs.of_block hX1 (HBk.out _ (by omega)))
  have HR1 : Hid (BoxN (storesL w1 (w.heap.size + 1 + 1) 0 [.int .i64 r.rule.redex.roots, .slice (some ⟨g1, 0, none⟩) r.rule.redex.nodes.length r.rule.redex.nodes.length, .slice (some ⟨g2, 0, none⟩) r.rule.redex.sites.length r.rule.redex.sites.length, .int .i64 r.rule.redex.edges, .slice (some ⟨g4, 0, none⟩) r.rule.redex.outer.length r.rule.redex.outer.length, .slice (some ⟨g5, 0, none⟩) r.rule.redex.inner.length r.rule.redex.inner.length, .int .i64 r.rule.reactum.roots, .slice (some ⟨h1, 0, none⟩) r.rule.reactum.nodes.length r.rule.reactum.nodes.length, .slice (some ⟨h2, 0, none⟩) r.rule.reactum.sites.length r.rule.reactum.sites.length, .int .i64 r.rule.reactum.edges, .slice (some ⟨h4, 0, none⟩) r.rule.reactum.outer.length r.rule.reactum.outer.length, .slice (some ⟨h5, 0, none⟩) r.rule.reactum.inner.length r.rule.reactum.inner.length, .slice (some ⟨g7, 0, none⟩) r.rule.copies.length r.rule.copies.length]) (w.heap.size + 1) 53 [.int .i64 0, .slice none 0 0, .slice none 0 0, .int .i64 0, .slice none 0 0, .slice none 0 0, .int .i64 0, .slice none 0 0, .slice none 0 0, .int .i64 0, .slice none 0 0, .slice none 0 0, .slice none 0 0, .slice none 0 0, .int .i64 0]) := Lib.hid (World.rowIs.of_block hR1 (HBk.out _ (by omega)))
  have HO1' : Hid (BoxN (storesL w1 (w.heap.size + 1 + 1) 0 [.int .i64 r.rule.redex.roots, .slice (some ⟨g1, 0, none⟩) r.rule.redex.nodes.length r.rule.redex.nodes.length, .slice (some ⟨g2, 0, none⟩) r.rule.redex.sites.length r.rule.redex.sites.length, .int .i64 r.rule.redex.edges, .slice (some ⟨g4, 0, none⟩) r.rule.redex.outer.length r.rule.redex.outer.length, .slice (some ⟨g5, 0, none⟩) r.rule.redex.inner.length r.rule.redex.inner.length, .int .i64 r.rule.reactum.roots, .slice (some ⟨h1, 0, none⟩) r.rule.reactum.nodes.length r.rule.reactum.nodes.length, .slice (some ⟨h2, 0, none⟩) r.rule.reactum.sites.length r.rule.reactum.sites.length, .int .i64 r.rule.reactum.edges, .slice (some ⟨h4, 0, none⟩) r.rule.reactum.outer.length r.rule.reactum.outer.length, .slice (some ⟨h5, 0, none⟩) r.rule.reactum.inner.length r.rule.reactum.inner.length, .slice (some ⟨g7, 0, none⟩) r.rule.copies.length r.rule.copies.length]) (w.heap.size + 1 + 1) 53 [.int .i64 r.rule.redex.roots, .slice (some ⟨g1, 0, none⟩) r.rule.redex.nodes.length r.rule.redex.nodes.length, .slice (some ⟨g2, 0, none⟩) r.rule.redex.sites.length r.rule.redex.sites.length, .int .i64 r.rule.redex.edges, .slice (some ⟨g4, 0, none⟩) r.rule.redex.outer.length r.rule.redex.outer.length, .slice (some ⟨g5, 0, none⟩) r.rule.redex.inner.length r.rule.redex.inner.length, .int .i64 r.rule.reactum.roots, .slice (some ⟨h1, 0, none⟩) r.rule.reactum.nodes.length r.rule.reactum.nodes.length, .slice (some ⟨h2, 0, none⟩) r.rule.reactum.sites.length r.rule.reactum.sites.length, .int .i64 r.rule.reactum.edges, .slice (some ⟨h4, 0, none⟩) r.rule.reactum.outer.length r.rule.reactum.outer.length, .slice (some ⟨h5, 0, none⟩) r.rule.reactum.inner.length r.rule.reactum.inner.length, .slice (some ⟨g7, 0, none⟩) r.rule.copies.length r.rule.copies.length, .slice none 0 0, .int .i64 0]) := Lib.hid ((((((((((((((hO1.set 0 _).set 1 _).set 2 _).set 3 _).set 4 _).set 5 _).set 6 _).set 7 _).set 8 _).set 9 _).set 10 _).set 11 _).set 12 _))
  have HZ1 := Lib.hid (storesL_size (β := w.heap.size + 1 + 1) [.int .i64 r.rule.redex.roots, .slice (some ⟨g1, 0, none⟩) r.rule.redex.nodes.length r.rule.redex.nodes.length, .slice (some ⟨g2, 0, none⟩) r.rule.redex.sites.length r.rule.redex.sites.length, .int .i64 r.rule.redex.edges, .slice (some ⟨g4, 0, none⟩) r.rule.redex.outer.length r.rule.redex.outer.length, .slice (some ⟨g5, 0, none⟩) r.rule.redex.inner.length r.rule.redex.inner.length, .int .i64 r.rule.reactum.roots, .slice (some ⟨h1, 0, none⟩) r.rule.reactum.nodes.length r.rule.reactum.nodes.length, .slice (some ⟨h2, 0, none⟩) r.rule.reactum.sites.length r.rule.reactum.sites.length, .int .i64 r.rule.reactum.edges, .slice (some ⟨h4, 0, none⟩) r.rule.reactum.outer.length r.rule.reactum.outer.length, .slice (some ⟨h5, 0, none⟩) r.rule.reactum.inner.length r.rule.reactum.inner.length, .slice (some ⟨g7, 0, none⟩) r.rule.copies.length r.rule.copies.length] w1 0)
  clear hb1 C x0 x1 x2 x3 x4 x5 x6 x7 x8 x9 x10 x11 x12 x13 x14 hB1
  obtain ⟨x0, x1, x2, x3, x4, x5, x6, x7, x8, x9, x10, x11, x12, x13, x14⟩ := get15 hX1
  obtain ⟨z0, z1, z2, z3, z4, z5, z6, z7, z8, z9, z10, z11, z12, z13, z14⟩ := get15 hO1
  have f0 := World.rowIs.frozen hO1 0
  have f1 := World.rowIs.frozen hO1 1
  have f2 := World.rowIs.frozen hO1 2
  have f3 := World.rowIs.frozen hO1 3
  have f4 := World.rowIs.frozen hO1 4
  have f5 := World.rowIs.frozen hO1 5
  have f6 := World.rowIs.frozen hO1 6
  have f7 := World.rowIs.frozen hO1 7
  have f8 := World.rowIs.frozen hO1 8
  have f9 := World.rowIs.frozen hO1 9
  have f10 := World.rowIs.frozen hO1 10
  have f11 := World.rowIs.frozen hO1 11
  have f12 := World.rowIs.frozen hO1 12
  have f13 := World.rowIs.frozen hO1 13
  have f14 := World.rowIs.frozen hO1 14
  clear hX1 hR1 hO1
  have HQ1 := Lib.hid (HO1.out.blocks (fun g k1 _ => HBk.out g (by have := HZ.out; omega)))
  go_wp2_with fail
  clear x0 x1 x2 x3 x4 x5 x6 x7 x8 x9 x10 x11 x12 x13 x14 z0 z1 z2 z3 z4 z5 z6 z7 z8 z9 z10 z11 z12 z13 z14 f0 f1 f2 f3 f4 f5 f6 f7 f8 f9 f10 f11 f12 f13 f14
  change Calls _ _ _ (storesL w1 (w.heap.size + 1 + 1) 0 [.int .i64 r.rule.redex.roots, .slice (some ⟨g1, 0, none⟩) r.rule.redex.nodes.length r.rule.redex.nodes.length, .slice (some ⟨g2, 0, none⟩) r.rule.redex.sites.length r.rule.redex.sites.length, .int .i64 r.rule.redex.edges, .slice (some ⟨g4, 0, none⟩) r.rule.redex.outer.length r.rule.redex.outer.length, .slice (some ⟨g5, 0, none⟩) r.rule.redex.inner.length r.rule.redex.inner.length, .int .i64 r.rule.reactum.roots, .slice (some ⟨h1, 0, none⟩) r.rule.reactum.nodes.length r.rule.reactum.nodes.length, .slice (some ⟨h2, 0, none⟩) r.rule.reactum.sites.length r.rule.reactum.sites.length, .int .i64 r.rule.reactum.edges, .slice (some ⟨h4, 0, none⟩) r.rule.reactum.outer.length r.rule.reactum.outer.length, .slice (some ⟨h5, 0, none⟩) r.rule.reactum.inner.length r.rule.reactum.inner.length, .slice (some ⟨g7, 0, none⟩) r.rule.copies.length r.rule.copies.length]) _
  obtain ⟨Y1, hY1⟩ : ∃ Y, storesL w1 (w.heap.size + 1 + 1) 0 [.int .i64 r.rule.redex.roots, .slice (some ⟨g1, 0, none⟩) r.rule.redex.nodes.length r.rule.redex.nodes.length, .slice (some ⟨g2, 0, none⟩) r.rule.redex.sites.length r.rule.redex.sites.length, .int .i64 r.rule.redex.edges, .slice (some ⟨g4, 0, none⟩) r.rule.redex.outer.length r.rule.redex.outer.length, .slice (some ⟨g5, 0, none⟩) r.rule.redex.inner.length r.rule.redex.inner.length, .int .i64 r.rule.reactum.roots, .slice (some ⟨h1, 0, none⟩) r.rule.reactum.nodes.length r.rule.reactum.nodes.length, .slice (some ⟨h2, 0, none⟩) r.rule.reactum.sites.length r.rule.reactum.sites.length, .int .i64 r.rule.reactum.edges, .slice (some ⟨h4, 0, none⟩) r.rule.reactum.outer.length r.rule.reactum.outer.length, .slice (some ⟨h5, 0, none⟩) r.rule.reactum.inner.length r.rule.reactum.inner.length, .slice (some ⟨g7, 0, none⟩) r.rule.copies.length r.rule.copies.length] = Y := ⟨_, rfl⟩
  rw [hY1] at HB1 HX1 HR1 HO1' HQ1 HZ1 ⊢
  clear hY1 HO1 HBk
  have hsz1 : w.heap.size + 1 + 1 + 1 ≤ Y1.heap.size := by rw [HZ1.out]; exact hs1
  refine (toGS_any G n c r.guards Y1 (HK2.out Y1 HB1.out) hn HS.out.2.2).mono ?_
  rintro e w2 ⟨gg, rfl, hgk, hg1, hg2, hb2⟩
  have HB2 := Lib.hid (HB1.out.trans (hb2.mono HB1.out.size))
  have hX2 := HX1.out.on hb2
  have hR2 := HR1.out.on hb2
  have hO2 := HO1'.out.on hb2
  have hs2 := hb2.size
  have HQ2 := Lib.hid (show RulOwn w2 (w.heap.size + 1 + 1 + 1) Y1.heap.size _ r.rule from (HQ1.out.blocks (fun g _ k2 => hb2.block g (by rw [HZ1.out]; exact k2))).wide (Nat.le_of_eq HZ.out.symm) (Nat.le_of_eq HZ1.out.symm))
  have HGk := Lib.hid hgk
  clear hb2 hgk
  obtain ⟨x0, x1, x2, x3, x4, x5, x6, x7, x8, x9, x10, x11, x12, x13, x14⟩ := get15 hX2
  obtain ⟨z0, z1, z2, z3, z4, z5, z6, z7, z8, z9, z10, z11, z12, z13, z14⟩ := get15 hO2
  obtain ⟨y0, y1, y2, y3, y4, y5, y6, y7, y8, y9, y10, y11, y12, y13, y14⟩ := get15 hR2
  have f13 := World.rowIs.frozen hO2 13
  have f14 := World.rowIs.frozen hO2 14
  have q0 := World.rowIs.frozen hR2 0
  have q1 := World.rowIs.frozen hR2 1
  have q2 := World.rowIs.frozen hR2 2
  have q3 := World.rowIs.frozen hR2 3
  have q4 := World.rowIs.frozen hR2 4
  have q5 := World.rowIs.frozen hR2 5
  have q6 := World.rowIs.frozen hR2 6
  have q7 := World.rowIs.frozen hR2 7
  have q8 := World.rowIs.frozen hR2 8
  have q9 := World.rowIs.frozen hR2 9
  have q10 := World.rowIs.frozen hR2 10
  have q11 := World.rowIs.frozen hR2 11
  have q12 := World.rowIs.frozen hR2 12
  have q13 := World.rowIs.frozen hR2 13
  have q14 := World.rowIs.frozen hR2 14
  clear hX2 hO2 hR2 HX1 HR1 HO1' HX HR HO
  dsimp only
  repeat (first | go_values | go_skip | go_guarded | go_step | go_upon)
  have hsz : (storesL ((w2.setCell ⟨w.heap.size + 1 + 1, 13, none⟩ (.slice (some ⟨gg, 0, none⟩) n n)).setCell ⟨w.heap.size + 1 + 1, 14, none⟩ (.int .i64 r.prio)) (w.heap.size + 1) 0 [.int .i64 r.rule.redex.roots, .slice (some ⟨g1, 0, none⟩) r.rule.redex.nodes.length r.rule.redex.nodes.length, .slice (some ⟨g2, 0, none⟩) r.rule.redex.sites.length r.rule.redex.sites.length, .int .i64 r.rule.redex.edges, .slice (some ⟨g4, 0, none⟩) r.rule.redex.outer.length r.rule.redex.outer.length, .slice (some ⟨g5, 0, none⟩) r.rule.redex.inner.length r.rule.redex.inner.length, .int .i64 r.rule.reactum.roots, .slice (some ⟨h1, 0, none⟩) r.rule.reactum.nodes.length r.rule.reactum.nodes.length, .slice (some ⟨h2, 0, none⟩) r.rule.reactum.sites.length r.rule.reactum.sites.length, .int .i64 r.rule.reactum.edges, .slice (some ⟨h4, 0, none⟩) r.rule.reactum.outer.length r.rule.reactum.outer.length, .slice (some ⟨h5, 0, none⟩) r.rule.reactum.inner.length r.rule.reactum.inner.length, .slice (some ⟨g7, 0, none⟩) r.rule.copies.length r.rule.copies.length, .slice (some ⟨gg, 0, none⟩) n n, .int .i64 r.prio]).heap.size = w2.heap.size := (storesL_size _ _ _).trans (by simp [World.setCell])
  have hbk : ∀ g, w.heap.size + 1 + 1 + 1 ≤ g → (storesL ((w2.setCell ⟨w.heap.size + 1 + 1, 13, none⟩ (.slice (some ⟨gg, 0, none⟩) n n)).setCell ⟨w.heap.size + 1 + 1, 14, none⟩ (.int .i64 r.prio)) (w.heap.size + 1) 0 [.int .i64 r.rule.redex.roots, .slice (some ⟨g1, 0, none⟩) r.rule.redex.nodes.length r.rule.redex.nodes.length, .slice (some ⟨g2, 0, none⟩) r.rule.redex.sites.length r.rule.redex.sites.length, .int .i64 r.rule.redex.edges, .slice (some ⟨g4, 0, none⟩) r.rule.redex.outer.length r.rule.redex.outer.length, .slice (some ⟨g5, 0, none⟩) r.rule.redex.inner.length r.rule.redex.inner.length, .int .i64 r.rule.reactum.roots, .slice (some ⟨h1, 0, none⟩) r.rule.reactum.nodes.length r.rule.reactum.nodes.length, .slice (some ⟨h2, 0, none⟩) r.rule.reactum.sites.length r.rule.reactum.sites.length, .int .i64 r.rule.reactum.edges, .slice (some ⟨h4, 0, none⟩) r.rule.reactum.outer.length r.rule.reactum.outer.length, .slice (some ⟨h5, 0, none⟩) r.rule.reactum.inner.length r.rule.reactum.inner.length, .slice (some ⟨g7, 0, none⟩) r.rule.copies.length r.rule.copies.length, .slice (some ⟨gg, 0, none⟩) n n, .int .i64 r.prio]).heap[g]? = w2.heap[g]? := fun g k1 =>
    (storesL_block (β := w.heap.size + 1) (by omega) _ _ 0).trans ((Below.heap_setCell _ _ _ _ (by dsimp only; omega)).trans (Below.heap_setCell _ _ _ _ (by dsimp only; omega)))
  refine bodyPost_ret (v := .agg #[.int .i64 r.rule.redex.roots, .slice (some ⟨g1, 0, none⟩) r.rule.redex.nodes.length r.rule.redex.nodes.length, .slice (some ⟨g2, 0, none⟩) r.rule.redex.sites.length r.rule.redex.sites.length, .int .i64 r.rule.redex.edges, .slice (some ⟨g4, 0, none⟩) r.rule.redex.outer.length r.rule.redex.outer.length, .slice (some ⟨g5, 0, none⟩) r.rule.redex.inner.length r.rule.redex.inner.length, .int .i64 r.rule.reactum.roots, .slice (some ⟨h1, 0, none⟩) r.rule.reactum.nodes.length r.rule.reactum.nodes.length, .slice (some ⟨h2, 0, none⟩) r.rule.reactum.sites.length r.rule.reactum.sites.length, .int .i64 r.rule.reactum.edges, .slice (some ⟨h4, 0, none⟩) r.rule.reactum.outer.length r.rule.reactum.outer.length, .slice (some ⟨h5, 0, none⟩) r.rule.reactum.inner.length r.rule.reactum.inner.length, .slice (some ⟨g7, 0, none⟩) r.rule.copies.length r.rule.copies.length, .slice (some ⟨gg, 0, none⟩) n n, .int .i64 r.prio]) (by simp [results, Try.results18, go_sem, y0, y1, y2, y3, y4, y5, y6, y7, y8, y9, y10, y11, y12, y13, y14]) rfl ⟨_, rfl, ?_, ?_⟩
  · have hgk2 : GrdsK (storesL ((w2.setCell ⟨w.heap.size + 1 + 1, 13, none⟩ (.slice (some ⟨gg, 0, none⟩) n n)).setCell ⟨w.heap.size + 1 + 1, 14, none⟩ (.int .i64 r.prio)) (w.heap.size + 1) 0 [.int .i64 r.rule.redex.roots, .slice (some ⟨g1, 0, none⟩) r.rule.redex.nodes.length r.rule.redex.nodes.length, .slice (some ⟨g2, 0, none⟩) r.rule.redex.sites.length r.rule.redex.sites.length, .int .i64 r.rule.redex.edges, .slice (some ⟨g4, 0, none⟩) r.rule.redex.outer.length r.rule.redex.outer.length, .slice (some ⟨g5, 0, none⟩) r.rule.redex.inner.length r.rule.redex.inner.length, .int .i64 r.rule.reactum.roots, .slice (some ⟨h1, 0, none⟩) r.rule.reactum.nodes.length r.rule.reactum.nodes.length, .slice (some ⟨h2, 0, none⟩) r.rule.reactum.sites.length r.rule.reactum.sites.length, .int .i64 r.rule.reactum.edges, .slice (some ⟨h4, 0, none⟩) r.rule.reactum.outer.length r.rule.reactum.outer.length, .slice (some ⟨h5, 0, none⟩) r.rule.reactum.inner.length r.rule.reactum.inner.length, .slice (some ⟨g7, 0, none⟩) r.rule.copies.length r.rule.copies.length, .slice (some ⟨gg, 0, none⟩) n n, .int .i64 r.prio]) gg n n r.guards := by
      obtain ⟨f, hr, hf⟩ := HGk.out
      refine ⟨f, hr.of_block (hbk gg (by omega)), fun j x hj hx => ?_⟩
      rw [hsz]
      exact (hf j x hj hx).blocks (fun g k1 _ => hbk g (by omega))
    exact ⟨_, _, _, _, _, _, _, _, _, _, _, _, _, _, _, _, rfl, ((HQ2.out.blocks (fun g k1 _ => hbk g k1)).at).wide (Nat.le_trans hs2 (Nat.le_of_eq hsz.symm)), hgk2.at HL2.out⟩
  · exact storesL_below (β := w.heap.size + 1) (by omega) [.int .i64 r.rule.redex.roots, .slice (some ⟨g1, 0, none⟩) r.rule.redex.nodes.length r.rule.redex.nodes.length, .slice (some ⟨g2, 0, none⟩) r.rule.redex.sites.length r.rule.redex.sites.length, .int .i64 r.rule.redex.edges, .slice (some ⟨g4, 0, none⟩) r.rule.redex.outer.length r.rule.redex.outer.length, .slice (some ⟨g5, 0, none⟩) r.rule.redex.inner.length r.rule.redex.inner.length, .int .i64 r.rule.reactum.roots, .slice (some ⟨h1, 0, none⟩) r.rule.reactum.nodes.length r.rule.reactum.nodes.length, .slice (some ⟨h2, 0, none⟩) r.rule.reactum.sites.length r.rule.reactum.sites.length, .int .i64 r.rule.reactum.edges, .slice (some ⟨h4, 0, none⟩) r.rule.reactum.outer.length r.rule.reactum.outer.length, .slice (some ⟨h5, 0, none⟩) r.rule.reactum.inner.length r.rule.reactum.inner.length, .slice (some ⟨g7, 0, none⟩) r.rule.copies.length r.rule.copies.length, .slice (some ⟨gg, 0, none⟩) n n, .int .i64 r.prio] _ 0 ((HB2.out.setCell (p := ⟨w.heap.size + 1 + 1, 13, none⟩) (by dsimp only; omega) _).setCell (p := ⟨w.heap.size + 1 + 1, 14, none⟩) (by dsimp only; omega) _)
end Go.Proofs.Ytfjgapkjpmkplaa.gdt
