/- Ht Sg Sig ISig Un Over Nm InN Gn Gd in one. -/
import Derived.Test.YtlpgldejmdiceabGreatQa
import Derived.Outline
import Derived.WalkLawsBesides
import Derived.Deep.QuietTactic
import Derived.BigQuiet
import Derived.Maps.AppendAt
set_option linter.unusedSimpArgs false
section
namespace Go.Proofs.YtlpgldejmdiceabGreat.ht
open kit bg opn only marks strs eqs hc hi hw hn hb
open Go.ChangeShapes Go.WideShapes Go.ChangeAt Go.RowKit
set_option linter.unusedVariables false

section
variable {w w' : World} {lo hi : Nat} {A : Option Addr} {n : Nat}
theorem NdsOwn_blocks {cs : List Nd} (h : NdsOwn w lo hi A n cs) (hb : ∀ k, lo ≤ k → k < hi → w'.heap[k]? = w.heap[k]?) : NdsOwn w' lo hi A n cs := by
  obtain ⟨hl, g, f, rfl, h1, h2, hr, hf⟩ := h
  refine ⟨hl, g, f, rfl, h1, h2, hr.of_block (hb g h1 h2), fun k x hk => ?_⟩
  obtain ⟨e0, e1, b, e2, hb1, hb2, hbr⟩ := hf k x hk
  exact ⟨e0, e1, b, e2, hb1, hb2, hbr.of_block (hb b (by omega) hb2)⟩
theorem WrsOwn_blocks {cs : List Wr} (h : WrsOwn w lo hi A n cs) (hb : ∀ k, lo ≤ k → k < hi → w'.heap[k]? = w.heap[k]?) : WrsOwn w' lo hi A n cs := by
  obtain ⟨hl, g, f, rfl, h1, h2, hr, hf⟩ := h
  exact ⟨hl, g, f, rfl, h1, h2, hr.of_block (hb g h1 h2), hf⟩
end

/-- a Bigraph in memory of the call's own -/
def BigOwn (w : World) (lo hi : Nat) (v : Value) (b : Big) : Prop :=
  ∃ g1 g2 g4 g5, v = .agg #[.int .i64 b.roots, .slice (some ⟨g1, 0, none⟩) b.nodes.length b.nodes.length, .slice (some ⟨g2, 0, none⟩) b.sites.length b.sites.length, .int .i64 b.edges, .slice (some ⟨g4, 0, none⟩) b.outer.length b.outer.length, .slice (some ⟨g5, 0, none⟩) b.inner.length b.inner.length] ∧
    NdsOwn w lo hi (some ⟨g1, 0, none⟩) b.nodes.length b.nodes ∧ (w.rowIs g2 3 b.sites.length (iat b.sites) ∧ lo ≤ g2 ∧ g2 < hi) ∧ (w.rowIs g4 9 b.outer.length (at_ b.outer) ∧ lo ≤ g4 ∧ g4 < hi) ∧ WrsOwn w lo hi (some ⟨g5, 0, none⟩) b.inner.length b.inner
theorem sr_at {w : World} {g B : Nat} {ss : List ByteArray} (h : w.rowIs g 9 ss.length (at_ ss)) (hB : g < B) : SR w B (some ⟨g, 0, none⟩) ss.length (ss.map Value.string) :=
  SR.of_row h hB (fun k u hu => by
    rw [List.getElem?_map] at hu
    obtain ⟨s, hs, rfl⟩ := Option.map_eq_some_iff.1 hu
    exact ⟨(List.getElem?_eq_some_iff.1 hs).1, at_of hs⟩) (by simp)
section
variable {w w' : World} {lo hi : Nat} {v : Value} {b : Big}
theorem BigOwn.at (h : BigOwn w lo hi v b) : BigAt w hi v b := by
  obtain ⟨g1, g2, g4, g5, rfl, h1, ⟨h2, l2, k2⟩, ⟨h4, l4, k4⟩, h5⟩ := h
  exact ⟨_, _, _, _, _, _, _, _, _, _, _, _, rfl, h1.at, ints_row h2 (Nat.le_refl _) k2 rfl (fun _ _ => rfl), sr_at h4 k4, h5.at⟩
theorem BigOwn.blocks (h : BigOwn w lo hi v b) (hb : ∀ k, lo ≤ k → k < hi → w'.heap[k]? = w.heap[k]?) : BigOwn w' lo hi v b := by
  obtain ⟨g1, g2, g4, g5, rfl, h1, ⟨h2, l2, k2⟩, ⟨h4, l4, k4⟩, h5⟩ := h
  exact ⟨_, _, _, _, rfl, NdsOwn_blocks h1 hb, ⟨h2.of_block (hb g2 l2 k2), l2, k2⟩, ⟨h4.of_block (hb g4 l4 k4), l4, k4⟩, WrsOwn_blocks h5 hb⟩
theorem BigOwn.below {B : Nat} (h : BigOwn w lo hi v b) (hb : Below B w w') (hB : hi ≤ B) : BigOwn w' lo hi v b := h.blocks (fun k _ hk => hb.block k (by omega))
theorem BigOwn.wide {lo' hi' : Nat} (h : BigOwn w lo hi v b) (a1 : lo' ≤ lo) (a2 : hi ≤ hi') : BigOwn w lo' hi' v b := by
  obtain ⟨g1, g2, g4, g5, rfl, h1, ⟨h2, l2, k2⟩, ⟨h4, l4, k4⟩, h5⟩ := h
  exact ⟨_, _, _, _, rfl, h1.wide a1 a2, ⟨h2, by omega, by omega⟩, ⟨h4, by omega, by omega⟩, h5.wide a1 a2⟩
end

/-- what is small enough to be copied -/
def BigS (b : Big) : Prop := b.nodes.length ≤ 1048576 ∧ (∀ x ∈ b.nodes, x.links.length ≤ 1048576) ∧ b.sites.length ≤ 1048576 ∧ b.outer.length ≤ 1048576 ∧ (∀ s ∈ b.outer, s.size ≤ 1048576) ∧ b.inner.length ≤ 1048576 ∧ ∀ x ∈ b.inner, x.name.size ≤ 1048576
theorem tot_mem {ss : List ByteArray} {s : ByteArray} (h : s ∈ ss) : s.size ≤ tot ss := by
  induction ss with
  | nil => cases h
  | cons y r ih =>
    simp only [tot]
    rcases List.mem_cons.1 h with rfl | h
    · omega
    · have := ih h; omega
theorem bigS_of {b : Big} (h : bigWt b ≤ 1048576) : BigS b := by
  unfold bigWt ndsWt wrsWt at h
  refine ⟨by omega, fun x hx => ?_, by omega, by omega, fun s hs => ?_, by omega, fun x hx => ?_⟩
  · have := sumBy_mem (fun c : Nd => c.links.length) hx; omega
  · have := tot_mem hs; omega
  · have := sumBy_mem (fun c : Wr => c.name.size) hx; omega

/-- the boxes of toBigraph: the argument at N, the result at N + 1, the variable at N + 2 -/
def Boxes (N : Nat) (fa fo : Nat → Value) (W : World) : Prop := W.rowIs N 52 6 fa ∧ (∃ fr, W.rowIs (N + 1) 31 6 fr) ∧ W.rowIs (N + 1 + 1) 31 6 fo
theorem Boxes.below {N : Nat} {fa fo : Nat → Value} {W W' : World} (h : Boxes N fa fo W) (hb : Below W.heap.size W W') : Boxes N fa fo W' := by
  obtain ⟨h1, ⟨fr, h2⟩, h3⟩ := h
  exact ⟨h1.of_block (hb.block _ h1.lt), ⟨fr, h2.of_block (hb.block _ h2.lt)⟩, h3.of_block (hb.block _ h3.lt)⟩
theorem Boxes.set {N : Nat} {fa fo : Nat → Value} {W : World} (h : Boxes N fa fo W) (k : Nat) (u : Value) : Boxes N fa (fun j => if j = k then u else fo j) (W.setCell ⟨N + 1 + 1, k, none⟩ u) := by
  obtain ⟨h1, ⟨fr, h2⟩, h3⟩ := h
  exact ⟨h1.setOther (a := ⟨N + 1 + 1, k, none⟩) (by dsimp only; omega) u, ⟨fr, h2.setOther (a := ⟨N + 1 + 1, k, none⟩) (by dsimp only; omega) u⟩, h3.set k u⟩

/-- a store into the variable, and six into the result -/
def put7 (N : Nat) (w : World) (k : Nat) (u a b c d e f : Value) : World :=
  ((((((w.setCell ⟨N + 1 + 1, k, none⟩ u).setCell ⟨N + 1, 0, none⟩ a).setCell ⟨N + 1, 1, none⟩ b).setCell ⟨N + 1, 2, none⟩ c).setCell ⟨N + 1, 3, none⟩ d).setCell ⟨N + 1, 4, none⟩ e).setCell ⟨N + 1, 5, none⟩ f
theorem last7 (N : Nat) (w : World) (k : Nat) (u a b c d e f : Value) : (∀ j, N + 3 ≤ j → (put7 N w k u a b c d e f).heap[j]? = w.heap[j]?) ∧ (put7 N w k u a b c d e f).heap.size = w.heap.size ∧ ∀ B x, Below B x w → B ≤ N → Below B x (put7 N w k u a b c d e f) := by
  refine ⟨fun j hj => ?_, by simp [put7, World.setCell], fun B x h hB => ?_⟩
  · unfold put7
    rw [Below.heap_setCell _ _ _ _ (by dsimp only; omega), Below.heap_setCell _ _ _ _ (by dsimp only; omega), Below.heap_setCell _ _ _ _ (by dsimp only; omega), Below.heap_setCell _ _ _ _ (by dsimp only; omega), Below.heap_setCell _ _ _ _ (by dsimp only; omega), Below.heap_setCell _ _ _ _ (by dsimp only; omega), Below.heap_setCell _ _ _ _ (by dsimp only; omega)]
  · unfold put7
    exact ((((((h.setCell (p := ⟨N + 1 + 1, k, none⟩) (by dsimp only; omega) u).setCell (p := ⟨N + 1, 0, none⟩) (by dsimp only; omega) a).setCell (p := ⟨N + 1, 1, none⟩) (by dsimp only; omega) b).setCell (p := ⟨N + 1, 2, none⟩) (by dsimp only; omega) c).setCell (p := ⟨N + 1, 3, none⟩) (by dsimp only; omega) d).setCell (p := ⟨N + 1, 4, none⟩) (by dsimp only; omega) e).setCell (p := ⟨N + 1, 5, none⟩) (by dsimp only; omega) f

set_option maxRecDepth 20000 in
set_option maxHeartbeats 3200000 in
theorem toB_any (v : Value) (b : Big) (w : World) (h : BigAt w w.heap.size v b) (hs : BigS b) :
    Calls Tryz.prog 24 #[v] w fun e w' => ∃ v', e = .returned v' ∧ BigOwn w' w.heap.size w'.heap.size v' b ∧ Below w.heap.size w w' := by
  obtain ⟨A1, n1, c1, A2, n2, c2, A4, n4, c4, A5, n5, c5, rfl, h1, h2, h4, h5⟩ := h
  obtain ⟨s1, sn, s2, s4, ss, s5, si⟩ := hs
  have l1 := h1.1
  have l2 := h2.len
  have l4 := h4.strlen
  have l5 := h5.1
  subst l1 l2 l4 l5
  have HSn := Lib.hid sn
  have HSs := Lib.hid ss
  have HSi := Lib.hid si
  clear sn ss si
  have HB0 := Lib.hid ((((Below.refl w.heap.size w).alloc (Nat.le_refl _) (.cells #[.int .i64 b.roots, .slice A1 b.nodes.length c1, .slice A2 b.sites.length c2, .int .i64 b.edges, .slice A4 b.outer.length c4, .slice A5 b.inner.length c5] 52)).alloc (by simp) (.cells #[.int .i64 0, .slice none 0 0, .slice none 0 0, .int .i64 0, .slice none 0 0, .slice none 0 0] 31)).alloc (by simp; omega) (.cells #[.int .i64 b.roots, .slice none 0 0, .slice none 0 0, .int .i64 0, .slice none 0 0, .slice none 0 0] 31))
  have HX0 : Hid (Boxes w.heap.size (six (.int .i64 b.roots) (.slice A1 b.nodes.length c1) (.slice A2 b.sites.length c2) (.int .i64 b.edges) (.slice A4 b.outer.length c4) (.slice A5 b.inner.length c5)) (six (.int .i64 b.roots) (.slice none 0 0) (.slice none 0 0) (.int .i64 0) (.slice none 0 0) (.slice none 0 0)) (((w.alloc (.cells #[.int .i64 b.roots, .slice A1 b.nodes.length c1, .slice A2 b.sites.length c2, .int .i64 b.edges, .slice A4 b.outer.length c4, .slice A5 b.inner.length c5] 52)).alloc (.cells #[.int .i64 0, .slice none 0 0, .slice none 0 0, .int .i64 0, .slice none 0 0, .slice none 0 0] 31)).alloc (.cells #[.int .i64 b.roots, .slice none 0 0, .slice none 0 0, .int .i64 0, .slice none 0 0, .slice none 0 0] 31))) := by
    refine Lib.hid ⟨((six_new w _ _ _ _ _ _ _).alloc _).alloc _, ?_, ?_⟩
    · have := (six_new (w.alloc (.cells #[.int .i64 b.roots, .slice A1 b.nodes.length c1, .slice A2 b.sites.length c2, .int .i64 b.edges, .slice A4 b.outer.length c4, .slice A5 b.inner.length c5] 52)) (.int .i64 0) (.slice none 0 0) (.slice none 0 0) (.int .i64 0) (.slice none 0 0) (.slice none 0 0) 31).alloc (.cells #[.int .i64 b.roots, .slice none 0 0, .slice none 0 0, .int .i64 0, .slice none 0 0, .slice none 0 0] 31)
      rw [World.size_alloc] at this
      exact ⟨_, this⟩
    · have := six_new ((w.alloc (.cells #[.int .i64 b.roots, .slice A1 b.nodes.length c1, .slice A2 b.sites.length c2, .int .i64 b.edges, .slice A4 b.outer.length c4, .slice A5 b.inner.length c5] 52)).alloc (.cells #[.int .i64 0, .slice none 0 0, .slice none 0 0, .int .i64 0, .slice none 0 0, .slice none 0 0] 31)) (.int .i64 b.roots) (.slice none 0 0) (.slice none 0 0) (.int .i64 0) (.slice none 0 0) (.slice none 0 0) 31
      rw [World.size_alloc, World.size_alloc] at this
      exact this
  go_enter Tryz.func24, Tryz.ntmps24
  go_wp2_with fail
  refine (toNS_any A1 b.nodes.length c1 b.nodes _ ((h1.below HB0.out).wide HB0.out.size) s1 HSn.out).mono ?_
  rintro e w1 ⟨g1, rfl, ho1, hb1⟩
  have hB1 := HB0.out.trans (hb1.mono HB0.out.size)
  have hX1 := HX0.out.below hb1
  have HO1 := Lib.hid (ho1.wide (lo' := w.heap.size + 3) (hi' := w1.heap.size) (by simp) (Nat.le_refl _))
  have hN1 : w.heap.size + 3 ≤ w1.heap.size := by have := hb1.size; simp at this; omega
  have HX1 := Lib.hid hX1
  obtain ⟨r1, ⟨fr, r2⟩, r3⟩ := hX1
  obtain ⟨x0, x1, x2, x3, x4, x5⟩ := row6 r1
  obtain ⟨z0, z1, z2, z3, z4, z5⟩ := row6 r3
  have f1 := r3.frozen 1
  simp only [six] at x0 x1 x2 x3 x4 x5 z0 z1 z2 z3 z4 z5
  simp at x0 x1 x2 x3 x4 x5 z0 z1 z2 z3 z4 z5
  clear hb1 ho1 r1 r2 r3
  have HB1' := Lib.hid (hB1.setCell (p := ⟨w.heap.size + 1 + 1, 1, none⟩) (by dsimp only; omega) (.slice (some ⟨g1, 0, none⟩) b.nodes.length b.nodes.length))
  have HX1' := Lib.hid (HX1.out.set 1 (.slice (some ⟨g1, 0, none⟩) b.nodes.length b.nodes.length))
  have HK1 := Lib.hid (fun k (hk : w.heap.size + 3 ≤ k) => Below.heap_setCell w1 ⟨w.heap.size + 1 + 1, 1, none⟩ (.slice (some ⟨g1, 0, none⟩) b.nodes.length b.nodes.length) k (by dsimp only; omega))
  have HZ1 : Hid ((w1.setCell ⟨w.heap.size + 1 + 1, 1, none⟩ (.slice (some ⟨g1, 0, none⟩) b.nodes.length b.nodes.length)).heap.size = w1.heap.size) := Lib.hid (by simp [World.setCell])
  clear hB1
  go_wp2_with fail
  refine (toIS_ex A2 _ c2 b.sites _ ((h2.below HB1'.out).wide HB1'.out.size) s2).mono ?_
  rintro e w2 ⟨g2, rfl, hg2, hg2', ho2, hb2⟩
  have hB2 := HB1'.out.trans (hb2.mono HB1'.out.size)
  have HX2 := Lib.hid (HX1'.out.below hb2)
  have HO12 := Lib.hid (((NdsOwn_blocks HO1.out (fun k hk _ => HK1.out k hk)).below hb2 (by rw [HZ1.out]; exact Nat.le_refl _)).wide (Nat.le_refl _) (show w1.heap.size ≤ w2.heap.size by have := hb2.size; rw [HZ1.out] at this; exact this))
  have hN2 : w.heap.size + 3 ≤ w2.heap.size := by have := hb2.size; rw [HZ1.out] at this; omega
  have HO2 := Lib.hid (And.intro ho2 (And.intro (show w.heap.size + 3 ≤ g2 by have := HZ1.out; omega) hg2'))
  clear hb2 ho2 x0 x1 x2 x3 x4 x5 z0 z1 z2 z3 z4 z5 f1
  obtain ⟨r1, ⟨fr, r2⟩, r3⟩ := HX2.out
  obtain ⟨x0, x1, x2, x3, x4, x5⟩ := row6 r1
  obtain ⟨z0, z1, z2, z3, z4, z5⟩ := row6 r3
  have f2 := r3.frozen 2
  have f3 := r3.frozen 3
  simp only [six] at x0 x1 x2 x3 x4 x5 z0 z1 z2 z3 z4 z5
  simp at x0 x1 x2 x3 x4 x5 z0 z1 z2 z3 z4 z5
  clear r1 r2 r3
  have HB2a := Lib.hid (hB2.setCell (p := ⟨w.heap.size + 1 + 1, 2, none⟩) (by dsimp only; omega) (.slice (some ⟨g2, 0, none⟩) b.sites.length b.sites.length))
  have HX2a := Lib.hid (HX2.out.set 2 (.slice (some ⟨g2, 0, none⟩) b.sites.length b.sites.length))
  have HB2' := Lib.hid (HB2a.out.setCell (p := ⟨w.heap.size + 1 + 1, 3, none⟩) (by dsimp only; omega) (.int .i64 b.edges))
  have HX2' := Lib.hid (HX2a.out.set 3 (.int .i64 b.edges))
  have HK2 := Lib.hid (fun k (hk : w.heap.size + 3 ≤ k) => (Below.heap_setCell (w2.setCell ⟨w.heap.size + 1 + 1, 2, none⟩ (.slice (some ⟨g2, 0, none⟩) b.sites.length b.sites.length)) ⟨w.heap.size + 1 + 1, 3, none⟩ (.int .i64 b.edges) k (by dsimp only; omega)).trans (Below.heap_setCell w2 ⟨w.heap.size + 1 + 1, 2, none⟩ (.slice (some ⟨g2, 0, none⟩) b.sites.length b.sites.length) k (by dsimp only; omega)))
  have HZ2 : Hid (((w2.setCell ⟨w.heap.size + 1 + 1, 2, none⟩ (.slice (some ⟨g2, 0, none⟩) b.sites.length b.sites.length)).setCell ⟨w.heap.size + 1 + 1, 3, none⟩ (.int .i64 b.edges)).heap.size = w2.heap.size) := Lib.hid (by simp [World.setCell])
  clear hB2
  go_wp2_with fail
  refine (to_any A4 _ c4 b.outer _ ((h4.below HB2'.out).wide HB2'.out.size) s4).mono ?_
  rintro e w4 ⟨g4, rfl, hg4, hg4', ho4, hb4⟩
  have hB4 := HB2'.out.trans (hb4.mono HB2'.out.size)
  have HX4 := Lib.hid (HX2'.out.below hb4)
  have hsz4 : w2.heap.size ≤ w4.heap.size := by have := hb4.size; rw [HZ2.out] at this; exact this
  have HO14 := Lib.hid (((NdsOwn_blocks HO12.out (fun k hk _ => HK2.out k hk)).below hb4 (by rw [HZ2.out]; exact Nat.le_refl _)).wide (Nat.le_refl _) hsz4)
  have HO24 := Lib.hid (And.intro ((HO2.out.1.of_block (HK2.out g2 HO2.out.2.1)).of_block (hb4.block g2 (by rw [HZ2.out]; exact HO2.out.2.2))) (And.intro HO2.out.2.1 (Nat.lt_of_lt_of_le HO2.out.2.2 hsz4)))
  have hN4 : w.heap.size + 3 ≤ w4.heap.size := by omega
  have HO4 := Lib.hid (And.intro ho4 (And.intro (show w.heap.size + 3 ≤ g4 by have := HZ2.out; omega) hg4'))
  clear hb4 ho4 x0 x1 x2 x3 x4 x5 z0 z1 z2 z3 z4 z5 f2 f3
  obtain ⟨r1, ⟨fr, r2⟩, r3⟩ := HX4.out
  obtain ⟨x0, x1, x2, x3, x4, x5⟩ := row6 r1
  obtain ⟨z0, z1, z2, z3, z4, z5⟩ := row6 r3
  have f4 := r3.frozen 4
  simp only [six] at x0 x1 x2 x3 x4 x5 z0 z1 z2 z3 z4 z5
  simp at x0 x1 x2 x3 x4 x5 z0 z1 z2 z3 z4 z5
  clear r1 r2 r3
  have HB4' := Lib.hid (hB4.setCell (p := ⟨w.heap.size + 1 + 1, 4, none⟩) (by dsimp only; omega) (.slice (some ⟨g4, 0, none⟩) b.outer.length b.outer.length))
  have HX4' := Lib.hid (HX4.out.set 4 (.slice (some ⟨g4, 0, none⟩) b.outer.length b.outer.length))
  have HK4 := Lib.hid (fun k (hk : w.heap.size + 3 ≤ k) => Below.heap_setCell w4 ⟨w.heap.size + 1 + 1, 4, none⟩ (.slice (some ⟨g4, 0, none⟩) b.outer.length b.outer.length) k (by dsimp only; omega))
  have HZ4 : Hid ((w4.setCell ⟨w.heap.size + 1 + 1, 4, none⟩ (.slice (some ⟨g4, 0, none⟩) b.outer.length b.outer.length)).heap.size = w4.heap.size) := Lib.hid (by simp [World.setCell])
  clear hB4
  go_wp2_with fail
  refine (toWS_any A5 _ c5 b.inner _ ((h5.below HB4'.out).wide HB4'.out.size) s5).mono ?_
  rintro e w5 ⟨g5, rfl, ho5, hb5⟩
  have hB5 := HB4'.out.trans (hb5.mono HB4'.out.size)
  have HX5 := Lib.hid (HX4'.out.below hb5)
  have hsz5 : w4.heap.size ≤ w5.heap.size := by have := hb5.size; rw [HZ4.out] at this; exact this
  have HO15 := Lib.hid (((NdsOwn_blocks HO14.out (fun k hk _ => HK4.out k hk)).below hb5 (by rw [HZ4.out]; exact Nat.le_refl _)).wide (Nat.le_refl _) hsz5)
  have HO25 := Lib.hid (And.intro ((HO24.out.1.of_block (HK4.out g2 HO24.out.2.1)).of_block (hb5.block g2 (by rw [HZ4.out]; exact HO24.out.2.2))) (And.intro HO24.out.2.1 (Nat.lt_of_lt_of_le HO24.out.2.2 hsz5)))
  have HO45 := Lib.hid (And.intro ((HO4.out.1.of_block (HK4.out g4 HO4.out.2.1)).of_block (hb5.block g4 (by rw [HZ4.out]; exact HO4.out.2.2))) (And.intro HO4.out.2.1 (Nat.lt_of_lt_of_le HO4.out.2.2 hsz5)))
  have hN5 : w.heap.size + 3 ≤ w5.heap.size := by omega
  have HO5 := Lib.hid (ho5.wide (lo' := w.heap.size + 3) (hi' := w5.heap.size) (by rw [HZ4.out]; exact hN4) (Nat.le_refl _))
  clear hb5 ho5 x0 x1 x2 x3 x4 x5 z0 z1 z2 z3 z4 z5 f4
  obtain ⟨r1, ⟨fr, r2⟩, r3⟩ := HX5.out
  obtain ⟨y0, y1, y2, y3, y4, y5⟩ := row6 r2
  obtain ⟨z0, z1, z2, z3, z4, z5⟩ := row6 r3
  have f5 := r3.frozen 5
  have q0 := r2.frozen 0
  have q1 := r2.frozen 1
  have q2 := r2.frozen 2
  have q3 := r2.frozen 3
  have q4 := r2.frozen 4
  have q5 := r2.frozen 5
  simp only [six] at z0 z1 z2 z3 z4 z5
  simp at z0 z1 z2 z3 z4 z5
  have HR2 := Lib.hid r2
  clear r1 r2 r3
  go_wp2_with fail
  have HO := Lib.hid (show BigOwn w5 (w.heap.size + 3) w5.heap.size (.agg #[.int .i64 b.roots, .slice (some ⟨g1, 0, none⟩) b.nodes.length b.nodes.length, .slice (some ⟨g2, 0, none⟩) b.sites.length b.sites.length, .int .i64 b.edges, .slice (some ⟨g4, 0, none⟩) b.outer.length b.outer.length, .slice (some ⟨g5, 0, none⟩) b.inner.length b.inner.length]) b from ⟨g1, g2, g4, g5, rfl, HO15.out, HO25.out, HO45.out, HO5.out⟩)
  refine bodyPost_ret (v := .agg #[.int .i64 b.roots, .slice (some ⟨g1, 0, none⟩) b.nodes.length b.nodes.length, .slice (some ⟨g2, 0, none⟩) b.sites.length b.sites.length, .int .i64 b.edges, .slice (some ⟨g4, 0, none⟩) b.outer.length b.outer.length, .slice (some ⟨g5, 0, none⟩) b.inner.length b.inner.length]) (by simp [results, Tryz.results24, go_sem, y0, y1, y2, y3, y4, y5]) rfl ⟨_, rfl, ?_, ?_⟩
  · exact (HO.out.blocks (fun k hk _ => (last7 w.heap.size w5 5 _ _ _ _ _ _ _).1 k hk)).wide (by omega) (Nat.le_of_eq (last7 w.heap.size w5 5 _ _ _ _ _ _ _).2.1.symm)
  · exact (last7 w.heap.size w5 5 _ _ _ _ _ _ _).2.2 _ _ hB5 (Nat.le_refl _)

theorem nodes_wt {b : Big} (h : bigWt b ≤ 1048576) : ndsWt b.nodes ≤ 1048576 ∧ b.nodes.length ≤ 1048576 ∧ sumBy (fun c : Nd => c.links.length) b.nodes ≤ 1048576 := by
  unfold bigWt at h
  unfold ndsWt at h ⊢
  omega

set_option maxHeartbeats 1600000 in
theorem markB2_any (v : Value) (b : Big) (k : Int) (w : World) (lo hi : Nat) (h : BigOwn w lo hi v b) (hhi : hi ≤ w.heap.size) (h0 : 0 < k) (h1 : k ≤ 3200000) (hwt : bigWt b ≤ 1048576) :
    Calls Tryz.prog 15 #[v, .int .i64 k] w fun e w' => ∃ r : Int, e = .returned (.int .i64 r) ∧ 0 < r ∧ r ≤ k + 2 * bigWt b ∧ Only lo hi w w' := by
  obtain ⟨g1, g2, g4, g5, rfl, o1, ⟨r2, l2, k2⟩, ⟨r4, l4, k4⟩, o5⟩ := h
  obtain ⟨n1, n2, n3⟩ := nodes_wt hwt
  have hS := bigS_of hwt
  obtain ⟨-, -, s2, s4, -, s5, -⟩ := hS
  have hw4 : 2 * b.nodes.length + sumBy (fun c : Nd => c.links.length) b.nodes + b.sites.length + b.outer.length + 2 * b.inner.length ≤ 4 * 1048576 := by
    unfold bigWt ndsWt wrsWt at hwt
    omega
  have hw5 : 2 * b.nodes.length + sumBy (fun c : Nd => c.links.length) b.nodes + b.sites.length + b.outer.length + 2 * b.inner.length ≤ 2 * bigWt b := by
    unfold bigWt ndsWt wrsWt
    omega
  have HW5 := Lib.hid hw5
  have HO1 := Lib.hid o1
  have HW4 := Lib.hid hw4
  have HBox := Lib.hid (six_new w (.int .i64 b.roots) (.slice (some ⟨g1, 0, none⟩) b.nodes.length b.nodes.length) (.slice (some ⟨g2, 0, none⟩) b.sites.length b.sites.length) (.int .i64 b.edges) (.slice (some ⟨g4, 0, none⟩) b.outer.length b.outer.length) (.slice (some ⟨g5, 0, none⟩) b.inner.length b.inner.length) 31)
  have HA := Lib.hid (Only.of_below (lo := lo) (hi := hi) ((Below.refl w.heap.size w).alloc (Nat.le_refl _) (.cells #[.int .i64 b.roots, .slice (some ⟨g1, 0, none⟩) b.nodes.length b.nodes.length, .slice (some ⟨g2, 0, none⟩) b.sites.length b.sites.length, .int .i64 b.edges, .slice (some ⟨g4, 0, none⟩) b.outer.length b.outer.length, .slice (some ⟨g5, 0, none⟩) b.inner.length b.inner.length] 31)))
  have HB0 := Lib.hid ((Below.refl w.heap.size w).alloc (Nat.le_refl _) (.cells #[.int .i64 b.roots, .slice (some ⟨g1, 0, none⟩) b.nodes.length b.nodes.length, .slice (some ⟨g2, 0, none⟩) b.sites.length b.sites.length, .int .i64 b.edges, .slice (some ⟨g4, 0, none⟩) b.outer.length b.outer.length, .slice (some ⟨g5, 0, none⟩) b.inner.length b.inner.length] 31))
  have HR2 := Lib.hid r2
  have HR4 := Lib.hid r4
  obtain ⟨-, g5', f5, e5, l5, k5, r5, -⟩ := o5
  injection e5 with e5
  injection e5 with e5 _
  subst e5
  have HR5 := Lib.hid r5
  clear o1 hw4 hw5 r2 r4 r5 hwt
  go_enter Tryz.func15, Tryz.ntmps15
  go_wp2_with fail
  refine (markNS_any (some ⟨g1, 0, none⟩) b.nodes.length b.nodes.length b.nodes k _ lo hi (HO1.out.below HB0.out (by omega)) (by have := HB0.out.size; omega) h0 h1 n1).mono ?_
  rintro e w1 ⟨q, rfl, hq, ho1⟩
  have hon1 := HA.out.trans ho1
  have hrow1 := HBox.out.of_block (ho1.block w.heap.size (by simp) (.inr hhi))
  obtain ⟨x0, x1, x2, x3, x4, x5⟩ := row6 hrow1
  simp only [six] at x0 x1 x2 x3 x4 x5
  simp at x0 x1 x2 x3 x4 x5
  obtain ⟨f2, hr2⟩ := hon1.rows _ _ _ ⟨_, HR2.out⟩
  have HR2' := Lib.hid hr2
  have HQ := Lib.hid hq
  have q1 : 0 < q := by omega
  have q2 : q ≤ 8000000 := by omega
  clear hq hr2 ho1
  go_wp2_with fail
  refine (markI_any g2 b.sites.length b.sites.length f2 q _ HR2'.out (Nat.le_refl _) q1 q2 (by omega)).mono ?_
  rintro e w2 ⟨rfl, hrm, hgm⟩
  have ho2 := Only.of_grown hgm HR2'.out hrm l2 k2
  have hon2 := hon1.trans ho2
  have hrow2 := hrow1.of_block (ho2.block w.heap.size hrow1.lt (.inr hhi))
  obtain ⟨y0, y1, y2, y3, y4, y5⟩ := row6 hrow2
  simp only [six] at y0 y1 y2 y3 y4 y5
  simp at y0 y1 y2 y3 y4 y5
  obtain ⟨f4, hr4⟩ := hon2.rows _ _ _ ⟨_, HR4.out⟩
  have HR4' := Lib.hid hr4
  clear hrm hgm hr4 ho2 hon1 hrow1 x0 x1 x2 x3 x4 x5
  go_wp2_with fail
  refine (markS_any g4 b.outer.length b.outer.length f4 (q + b.sites.length) _ HR4'.out (Nat.le_refl _) (by omega) (by have := HQ.out; have := HW4.out; omega) (by omega)).mono ?_
  rintro e w4 ⟨rfl, hrm, hgm⟩
  have ho4 := Only.of_grown hgm HR4'.out hrm l4 k4
  have hon4 := hon2.trans ho4
  have hrow4 := hrow2.of_block (ho4.block w.heap.size hrow2.lt (.inr hhi))
  obtain ⟨x0, x1, x2, x3, x4, x5⟩ := row6 hrow4
  simp only [six] at x0 x1 x2 x3 x4 x5
  simp at x0 x1 x2 x3 x4 x5
  obtain ⟨f5', hr5⟩ := hon4.rows _ _ _ ⟨_, HR5.out⟩
  have HR5' := Lib.hid hr5
  clear hrm hgm hr5 ho4 hon2 hrow2 y0 y1 y2 y3 y4 y5
  go_wp2_with fail
  refine (markWS_any g5 b.inner.length b.inner.length f5' (q + b.sites.length + b.outer.length) _ lo hi HR5'.out l5 k5 (by omega) (by have := HQ.out; have := HW4.out; omega) s5).mono ?_
  rintro e w5 ⟨rfl, ho5⟩
  have hon5 := hon4.trans ho5
  clear hon4 hrow4 ho5 x0 x1 x2 x3 x4 x5
  go_wp2_with fail
  go_ret
  exact ⟨_, rfl, by omega, by have := HQ.out; have := HW5.out; omega, hon5⟩
theorem markB_any (v : Value) (b : Big) (k : Int) (w : World) (lo hi : Nat) (h : BigOwn w lo hi v b) (hhi : hi ≤ w.heap.size) (h0 : 0 < k) (h1 : k ≤ 3200000) (hwt : bigWt b ≤ 1048576) :
    Calls Tryz.prog 15 #[v, .int .i64 k] w fun e w' => ∃ r : Int, e = .returned (.int .i64 r) ∧ 0 < r ∧ r ≤ k + 4 * 1048576 ∧ Only lo hi w w' :=
  (markB2_any v b k w lo hi h hhi h0 h1 hwt).mono fun e w' ⟨r, he, h2, h3, h4⟩ => ⟨r, he, h2, by omega, h4⟩
end Go.Proofs.YtlpgldejmdiceabGreat.ht
end

section
namespace Go.Proofs.YtlpgldejmdiceabGreat.sg
open kit bg
open Go.RowKit
set_option linter.unusedVariables false

theorem in_any (x a b : Int) (w : World) : Calls Tryz.prog 19 #[.int .i64 x, .int .i64 a, .int .i64 b] w fun e w' => e = .returned (.bool (inb x a b)) ∧ w = w' := by
  by_cases h1 : a ≤ x
  · by_cases h2 : x ≤ b
    · go_enter Tryz.func19, Tryz.ntmps19
      go_wp2
      go_ret
      exact ⟨by rw [inb_mk ⟨h1, h2⟩]; rfl, rfl⟩
    · have h2' : b < x := by omega
      go_enter Tryz.func19, Tryz.ntmps19
      go_wp2
      go_ret
      exact ⟨by rw [inb_not (fun h => absurd h.2 (by omega))]; rfl, rfl⟩
  · have h1' : x < a := by omega
    go_enter Tryz.func19, Tryz.ntmps19
    go_wp2
    go_ret
    exact ⟨by rw [inb_not (fun h => absurd h.1 (by omega))]; rfl, rfl⟩
theorem win_any (x a b : Int) (w : World) : Calls Tryz.prog 25 #[.int .i64 x, .int .i64 a, .int .i64 b] w fun e w' => e = .returned (.bool (inb x a b)) ∧ w = w' := by
  by_cases h1 : a ≤ x
  · by_cases h2 : x ≤ b
    · go_enter Tryz.func25, Tryz.ntmps25
      go_wp2
      go_ret
      exact ⟨by rw [inb_mk ⟨h1, h2⟩]; rfl, rfl⟩
    · have h2' : b < x := by omega
      go_enter Tryz.func25, Tryz.ntmps25
      go_wp2
      go_ret
      exact ⟨by rw [inb_not (fun h => absurd h.2 (by omega))]; rfl, rfl⟩
  · have h1' : x < a := by omega
    go_enter Tryz.func25, Tryz.ntmps25
    go_wp2
    go_ret
    exact ⟨by rw [inb_not (fun h => absurd h.1 (by omega))]; rfl, rfl⟩

theorem let_of {c : UInt8} (h1 : ¬ (c.toNat : Int) < 97) (h2 : ¬ (122 : Int) < (c.toNat : Int)) : letB c = true := decide_eq_true ⟨by omega, by omega⟩
theorem all_take {s : ByteArray} {k : Nat} (hk : k < s.size) (h : (s.data.toList.take k).all letB = true) (hc : letB s[k] = true) : (s.data.toList.take (k + 1)).all letB = true := by
  have e : s.data.toList[k]? = some s[k] := by
    have : k < s.data.toList.length := by simpa using hk
    rw [List.getElem?_eq_getElem this]; rfl
  rw [take_snoc e, List.all_append, h]
  simpa using hc
theorem name_no {s : ByteArray} {k : Nat} (hk : k < s.size) (hc : letB s[k] = false) : nameB s = false := by
  have h : s.data.toList.all letB = false := by
    rw [List.all_eq_false]
    exact ⟨s[k], by
      have : k < s.data.toList.length := by simpa using hk
      exact List.mem_of_getElem? (i := k) (by rw [List.getElem?_eq_getElem this]; rfl), by rw [hc]; decide⟩
  unfold nameB
  rw [h]; rfl
theorem name_all {s : ByteArray} {k : Nat} (hk : s.size ≤ k) (h : (s.data.toList.take k).all letB = true) : nameB s = inb s.size 1 4 := by
  rw [List.take_of_length_le (by simpa using hk)] at h
  unfold nameB
  rw [h]; simp

set_option maxHeartbeats 800000 in
theorem nm_any (s : ByteArray) (w : World) (hs : s.size ≤ maxLen) : Calls Tryz.prog 71 #[.string s] w fun e w' => e = .returned (.bool (nameB s)) ∧ w = w' := by
  unfold maxLen at hs
  go_enter Tryz.func71, Tryz.ntmps71
  go_wp2_with fail
  go_loop [3] (fun i => ∃ k : Nat, k ≤ s.size ∧ i = .int .i64 k ∧ (s.data.toList.take k).all letB = true) (fun i => s.size - (intOf i).toNat)
  case atStart => exact ⟨0, Nat.zero_le _, rfl, by simp⟩
  case round =>
    obtain ⟨k, hk, rfl, hall⟩ := hrel
    have HA := Lib.hid hall
    clear hall
    by_cases hlt : k < s.size
    · by_cases h1 : (s[k].toNat : Int) < 97
      · have HN := Lib.hid (name_no hlt (decide_eq_false (fun h => absurd h.1 (by omega))))
        go_wp2_with fail
        go_ret
        exact ⟨by rw [HN.out]; rfl, rfl⟩
      · by_cases h2 : (122 : Int) < (s[k].toNat : Int)
        · have HN := Lib.hid (name_no hlt (decide_eq_false (fun h => absurd h.2 (by omega))))
          go_wp2_with fail
          go_ret
          exact ⟨by rw [HN.out]; rfl, rfl⟩
        · have HN := Lib.hid (all_take hlt HA.out (let_of h1 h2))
          go_wp2_with fail
          go_round
          case rel => exact ⟨k + 1, by omega, by go_num, HN.out⟩
          case measure => simp [intOf]; omega
    · have HN := Lib.hid (name_all (s := s) (k := k) (by omega) HA.out)
      go_wp2_with (go_at_call 19; refine (in_any _ _ _ _).mono ?_; rintro e w' ⟨rfl, rfl⟩)
      go_ret
      exact ⟨by rw [HN.out]; rfl, rfl⟩

set_option maxHeartbeats 800000 in
theorem inm_any (s : ByteArray) (w : World) (hs : s.size ≤ maxLen) : Calls Tryz.prog 104 #[.string s] w fun e w' => e = .returned (.bool (nameB s)) ∧ w = w' := by
  unfold maxLen at hs
  cases hq : inb (s.size : Int) 1 4 with
  | false =>
    have HN : Hid (nameB s = false) := Lib.hid (by unfold nameB; rw [hq]; simp)
    go_enter Tryz.func104, Tryz.ntmps104
    go_wp2_with (go_at_call 25; refine (win_any _ _ _ _).mono ?_; rintro e w' ⟨rfl, rfl⟩)
    go_ret
    exact ⟨by rw [HN.out]; rfl, rfl⟩
  | true =>
    have HQ := Lib.hid hq
    go_enter Tryz.func104, Tryz.ntmps104
    go_wp2_with (go_at_call 25; refine (win_any _ _ _ _).mono ?_; rintro e w' ⟨rfl, rfl⟩)
    clear hq
    go_loop [3, 10] (fun _ i => ∃ k : Nat, k ≤ s.size ∧ i = .int .i64 k ∧ (s.data.toList.take k).all letB = true) (fun _ i => s.size - (intOf i).toNat)
    case atStart => exact ⟨0, Nat.zero_le _, rfl, by simp⟩
    case round =>
      obtain ⟨k, hk, rfl, hall⟩ := hrel
      have HA := Lib.hid hall
      clear hall
      by_cases hlt : k < s.size
      · by_cases h1 : (s[k].toNat : Int) < 97
        · have HN := Lib.hid (name_no hlt (decide_eq_false (fun h => absurd h.1 (by omega))))
          go_wp2_with fail
          go_ret
          exact ⟨by rw [HN.out]; rfl, rfl⟩
        · by_cases h2 : (122 : Int) < (s[k].toNat : Int)
          · have HN := Lib.hid (name_no hlt (decide_eq_false (fun h => absurd h.2 (by omega))))
            go_wp2_with fail
            go_ret
            exact ⟨by rw [HN.out]; rfl, rfl⟩
          · have HN := Lib.hid (all_take hlt HA.out (let_of h1 h2))
            go_wp2_with fail
            go_round
            case rel => exact ⟨k + 1, by omega, by go_num, HN.out⟩
            case measure => simp [intOf]; omega
      · have HN := Lib.hid (name_all (s := s) (k := k) (by omega) HA.out)
        go_wp2_with fail
        go_ret
        exact ⟨by rw [HN.out, HQ.out]; rfl, rfl⟩
end Go.Proofs.YtlpgldejmdiceabGreat.sg
end

section
namespace Go.Proofs.YtlpgldejmdiceabGreat.sig
open kit bg sg
open Go.RowKit
set_option linter.unusedVariables false

/-- the first k Controls are those of a signature -/
def SigK (cs : List Ctl) (k : Nat) : Prop :=
  (∀ (j : Nat) c, j < k → cs[j]? = some c → ctlB c = true) ∧ (∀ (i j : Nat) a b, i < k → j < i → cs[i]? = some a → cs[j]? = some b → b.name ≠ a.name)
theorem sigK_zero (cs : List Ctl) : SigK cs 0 := ⟨fun j c h => absurd h (Nat.not_lt_zero j), fun i j a b h => absurd h (Nat.not_lt_zero i)⟩
theorem sigK_next {cs : List Ctl} {k : Nat} {x : Ctl} (h : SigK cs k) (hx : cs[k]? = some x) (hc : ctlB x = true) (hd : ∀ (j : Nat) b, j < k → cs[j]? = some b → b.name ≠ x.name) : SigK cs (k + 1) := by
  refine ⟨fun j c hj hc' => ?_, fun i j a b hi hj ha hb => ?_⟩
  · by_cases e : j = k
    · subst e; rw [hx] at hc'; injection hc' with e; subst e; exact hc
    · exact h.1 j c (by omega) hc'
  · by_cases e : i = k
    · subst e; rw [hx] at ha; injection ha with e; subst e; exact hd j b hj hb
    · exact h.2 i j a b (by omega) hj ha hb
theorem sigK_all {cs : List Ctl} {k : Nat} (h : SigK cs k) (hk : cs.length ≤ k) : sigB cs = inb cs.length 1 6 := by
  cases hq : inb cs.length 1 6 with
  | true => exact sig_true ⟨fun j c hc => h.1 j c (by have := (List.getElem?_eq_some_iff.1 hc).1; omega) hc, fun i j a b hj ha hb => h.2 i j a b (by have := (List.getElem?_eq_some_iff.1 ha).1; omega) hj ha hb, hq⟩
  | false => exact sig_false (fun hp => by rw [hp.2.2] at hq; cases hq)
theorem sig_bad {cs : List Ctl} {k : Nat} {x : Ctl} (hx : cs[k]? = some x) (hc : ctlB x = false) : sigB cs = false := sig_false (fun hp => by rw [hp.1 k x hx] at hc; cases hc)
theorem sig_twice {cs : List Ctl} {i j : Nat} {a b : Ctl} (hj : j < i) (ha : cs[i]? = some a) (hb : cs[j]? = some b) (e : b.name = a.name) : sigB cs = false := sig_false (fun hp => hp.2.1 i j a b hj ha hb e)

def Post (b : Bool) (w : World) (e : Ending) (w' : World) : Prop := e = .returned (.bool b) ∧ Below w.heap.size w w'

set_option maxRecDepth 20000 in
set_option maxHeartbeats 1600000 in
theorem l2Sig_any (A : Option Addr) (n c : Nat) (cs : List Ctl) (w : World) (B : Nat) (h : CtlsAt w B A n cs) (hn : n ≤ 1048576) (hs : ∀ c ∈ cs, c.name.size ≤ 1048576) :
    Calls Tryz.prog 46 #[.slice A n c] w (Post (sigB cs) w) := by
  have HL := Lib.hid h.1
  have HS := Lib.hid hs
  clear hs
  go_enter Tryz.func46, Tryz.ntmps46
  go_wp2_with fail
  go_loopw [3, 4] (fun i _ wr => ∃ k : Nat, k ≤ n ∧ i = .int .i64 k ∧ SigK cs k ∧ Dr w wr) (fun i _ _ => n - (intOf i).toNat)
  case atStart => exact ⟨0, Nat.zero_le _, rfl, sigK_zero cs, Dr.refl w⟩
  case round =>
    obtain ⟨k, hk, rfl, hsk, hdr⟩ := hrel
    obtain ⟨wo, rfl⟩ : ∃ wo : World, wo = wr := ⟨_, rfl⟩
    have HK := Lib.hid hsk
    clear hsk
    by_cases hlt : k < n
    · obtain ⟨b, off, x, rfl, hbb, hx, c0, c1, c2⟩ := h.get hlt
      have hxs : x.name.size ≤ maxLen := by have := HS.out x (List.mem_of_getElem? hx); unfold maxLen; omega
      have d0 := (hdr.cell ⟨b, off + k * 3, none⟩).trans c0
      have d1 := (hdr.cell ⟨b, off + k * 3 + 1, none⟩).trans c1
      have d2 := (hdr.cell ⟨b, off + k * 3 + 2, none⟩).trans c2
      have HX := Lib.hid hx
      clear hx c0 c1 c2
      cases q0 : nameB x.name with
      | false =>
        have HB := Lib.hid (sig_bad HX.out (show ctlB x = false by unfold ctlB; rw [q0]; rfl))
        go_wp2_with (first | (go_at_call 71; refine (nm_any _ _ hxs).mono ?_; rintro e w' ⟨rfl, rfl⟩) | (go_at_call 19; refine (in_any _ _ _ _).mono ?_; rintro e w' ⟨rfl, rfl⟩))
        go_ret
        exact ⟨by rw [HB.out]; rfl, hdr.below _⟩
      | true =>
        cases q1 : inb x.ports 0 3 with
        | false =>
          have HB := Lib.hid (sig_bad HX.out (show ctlB x = false by unfold ctlB; rw [q0, q1]; rfl))
          go_wp2_with (first | (go_at_call 71; refine (nm_any _ _ hxs).mono ?_; rintro e w' ⟨rfl, rfl⟩) | (go_at_call 19; refine (in_any _ _ _ _).mono ?_; rintro e w' ⟨rfl, rfl⟩))
          go_ret
          exact ⟨by rw [HB.out]; rfl, hdr.below _⟩
        | true =>
          cases q2 : inb x.kind 0 2 with
          | false =>
            have HB := Lib.hid (sig_bad HX.out (show ctlB x = false by unfold ctlB; rw [q0, q1, q2]; rfl))
            go_wp2_with (first | (go_at_call 71; refine (nm_any _ _ hxs).mono ?_; rintro e w' ⟨rfl, rfl⟩) | (go_at_call 19; refine (in_any _ _ _ _).mono ?_; rintro e w' ⟨rfl, rfl⟩))
            go_ret
            exact ⟨by rw [HB.out]; rfl, hdr.below _⟩
          | true =>
            have HB := Lib.hid (show ctlB x = true by unfold ctlB; rw [q0, q1, q2]; rfl)
            go_wp2_with (first | (go_at_call 71; refine (nm_any _ _ hxs).mono ?_; rintro e w' ⟨rfl, rfl⟩) | (go_at_call 19; refine (in_any _ _ _ _).mono ?_; rintro e w' ⟨rfl, rfl⟩))
            go_loopw [4] (fun i wi => ∃ j : Nat, j ≤ k ∧ i = .int .i64 j ∧ (∀ (j' : Nat) b, j' < j → cs[j']? = some b → b.name ≠ x.name) ∧ Dr w wi) (fun i _ => k - (intOf i).toNat)
            case atStart => exact ⟨0, Nat.zero_le _, rfl, fun j b hj => absurd hj (Nat.not_lt_zero j), hdr⟩
            case round =>
              obtain ⟨j, hj, rfl, hdj, hdri⟩ := hrel
              have HD := Lib.hid hdj
              clear hdj
              by_cases hjk : j < k
              · obtain ⟨b', off', y, e', hbb', hy, c0', _, _⟩ := h.get (show j < n by omega)
                injection e' with e'
                injection e' with e1 e2
                subst e1 e2
                have g0 := (hdri.cell ⟨b, off + j * 3, none⟩).trans c0'
                have g1 := (hdri.cell ⟨b, off + k * 3, none⟩).trans ((hdr.cell ⟨b, off + k * 3, none⟩).symm.trans d0)
                have HY := Lib.hid hy
                clear hy c0'
                cases hq : (y.name.toList == x.name.toList) with
                | true =>
                  have HT := Lib.hid (sig_twice hjk HX.out HY.out (str_eq hq))
                  go_wp2_with fail
                  go_quiet (fail)
                  go_wp2_with fail
                  go_ret
                  exact ⟨by rw [HT.out]; rfl, (hdri.more _).below _⟩
                | false =>
                  have HE := Lib.hid (str_ne hq)
                  go_wp2_with fail
                  go_quiet (fail)
                  go_wp2_with fail
                  go_roundw
                  case rel => exact ⟨j + 1, by omega, by go_num, fun j' b' hj' hb' => by
                    by_cases e : j' = j
                    · subst e; rw [HY.out] at hb'; injection hb' with e; subst e; exact HE.out
                    · exact HD.out j' b' (by omega) hb', hdri.more _⟩
                  case measure => simp [intOf]; omega
              · obtain rfl : j = k := by omega
                go_wp2_with fail
                go_roundw
                case rel => exact ⟨j + 1, by omega, by go_num, sigK_next HK.out HX.out HB.out HD.out, hdri⟩
                case measure => simp [intOf]; omega
    · have HB := Lib.hid (sigK_all HK.out (by rw [HL.out]; omega))
      go_wp2_with (go_at_call 19; refine (in_any _ _ _ _).mono ?_; rintro e w' ⟨rfl, rfl⟩)
      go_ret
      exact ⟨by rw [HB.out, HL.out]; rfl, hdr.below _⟩
end Go.Proofs.YtlpgldejmdiceabGreat.sig
end

section
namespace Go.Proofs.YtlpgldejmdiceabGreat.isig
open kit bg sg sig mapb only
open Go.RowKit
open Go.Maps (Keyed)
set_option linter.unusedVariables false

set_option maxHeartbeats 400000 in
theorem isC_any (s : ByteArray) (p q : Int) (w : World) (hs : s.size ≤ maxLen) :
    Calls Tryz.prog 123 #[.agg #[.string s, .int .i64 p, .int .i64 q]] w (Post (ctlB ⟨s, p, q⟩) w) := by
  cases q0 : nameB s with
  | false =>
    have HB := Lib.hid (show ctlB ⟨s, p, q⟩ = false by unfold ctlB; rw [q0]; rfl)
    go_enter Tryz.func123, Tryz.ntmps123
    go_wp2_with (first | (go_at_call 104; refine (inm_any _ _ hs).mono ?_; rintro e w' ⟨rfl, rfl⟩) | (go_at_call 25; refine (win_any _ _ _ _).mono ?_; rintro e w' ⟨rfl, rfl⟩))
    go_ret
    exact ⟨by rw [HB.out]; rfl, (Below.refl _ _).alloc (Nat.le_refl _) _⟩
  | true =>
    cases q1 : inb p 0 3 with
    | false =>
      have HB := Lib.hid (show ctlB ⟨s, p, q⟩ = false by unfold ctlB; rw [q0, q1]; rfl)
      go_enter Tryz.func123, Tryz.ntmps123
      go_wp2_with (first | (go_at_call 104; refine (inm_any _ _ hs).mono ?_; rintro e w' ⟨rfl, rfl⟩) | (go_at_call 25; refine (win_any _ _ _ _).mono ?_; rintro e w' ⟨rfl, rfl⟩))
      go_ret
      exact ⟨by rw [HB.out]; rfl, (Below.refl _ _).alloc (Nat.le_refl _) _⟩
    | true =>
      have HB := Lib.hid (show ctlB ⟨s, p, q⟩ = inb q 0 2 by unfold ctlB; rw [q0, q1]; simp)
      go_enter Tryz.func123, Tryz.ntmps123
      go_wp2_with (first | (go_at_call 104; refine (inm_any _ _ hs).mono ?_; rintro e w' ⟨rfl, rfl⟩) | (go_at_call 25; refine (win_any _ _ _ _).mono ?_; rintro e w' ⟨rfl, rfl⟩))
      go_ret
      exact ⟨by rw [HB.out]; rfl, (Below.refl _ _).alloc (Nat.le_refl _) _⟩

theorem zeroB (w : World) : (zeroValue 4).run Tryz.prog w = .ok (.bool false) w := by kernel_rfl
theorem lawS : Keyed Tryz.prog 9 := Maps.string_keyed Tryz.underlying9

/-- the names of the first k Controls, as keys -/
def Seen (cs : List Ctl) (k : Nat) (l : Lit) : Prop := ∃ (j : Nat) (c : Ctl), j < k ∧ cs[j]? = some c ∧ l = .string c.name.data.toList
theorem seen_name {cs : List Ctl} {k : Nat} {s : ByteArray} (h : Seen cs k (.string s.data.toList)) : ∃ (j : Nat) (c : Ctl), j < k ∧ cs[j]? = some c ∧ c.name = s := by
  obtain ⟨j, c, hj, hc, e⟩ := h
  injection e with e
  exact ⟨j, c, hj, hc, Go.WideShapes.bytes_inj e.symm⟩

set_option maxRecDepth 20000 in
set_option maxHeartbeats 1600000 in
theorem isSig_any (A : Option Addr) (n c : Nat) (cs : List Ctl) (w : World) (B : Nat) (h : CtlsAt w B A n cs) (hB : B ≤ w.heap.size) (hn : n ≤ 1048576) (hs : ∀ c ∈ cs, c.name.size ≤ 1048576) :
    Calls Tryz.prog 108 #[.slice A n c] w (Post (sigB cs) w) := by
  have HL := Lib.hid h.1
  have HS := Lib.hid hs
  clear hs
  cases hq : inb (n : Int) 1 6 with
  | false =>
    have HB := Lib.hid (show sigB cs = false from sig_false (fun hp => by have := hp.2.2; rw [HL.out, hq] at this; cases this))
    go_enter Tryz.func108, Tryz.ntmps108
    go_wp2_with (go_at_call 25; refine (win_any _ _ _ _).mono ?_; rintro e w' ⟨rfl, rfl⟩)
    go_ret
    exact ⟨by rw [HB.out]; rfl, Below.refl _ _⟩
  | true =>
    have HQ := Lib.hid hq
    have hmm := @run_makeMap Tryz.prog
    go_enter Tryz.func108, Tryz.ntmps108
    go_wp2_with (go_at_call 25; refine (win_any _ _ _ _).mono ?_; rintro e w' ⟨rfl, rfl⟩)
    clear hmm hq
    go_loopw [13] (fun i wr => ∃ k : Nat, k ≤ n ∧ i = .int .i64 k ∧ SigK cs k ∧ SetAt Tryz.prog 9 4 wr w.heap.size k (Seen cs k) ∧ Below w.heap.size w wr) (fun i _ => n - (intOf i).toNat)
    case atStart => exact ⟨0, Nat.zero_le _, rfl, sigK_zero cs, (SetAt.made w _ _ _).congr (fun l => ⟨fun h => h.elim, fun ⟨j, _, hj, _⟩ => absurd hj (Nat.not_lt_zero j)⟩), (Below.refl _ _).alloc (Nat.le_refl _) _⟩
    case round =>
      obtain ⟨k, hk, rfl, hsk, hset, hb⟩ := hrel
      have HK := Lib.hid hsk
      clear hsk
      by_cases hlt : k < n
      · obtain ⟨b, off, x, rfl, hbb, hx, c0, c1, c2⟩ := h.get hlt
        have hxs : x.name.size ≤ maxLen := by have := HS.out x (List.mem_of_getElem? hx); unfold maxLen; omega
        have d0 := (hb.cell (p := ⟨b, off + k * 3, none⟩) (show b < w.heap.size by omega)).trans c0
        have d1 := (hb.cell (p := ⟨b, off + k * 3 + 1, none⟩) (show b < w.heap.size by omega)).trans c1
        have d2 := (hb.cell (p := ⟨b, off + k * 3 + 2, none⟩) (show b < w.heap.size by omega)).trans c2
        have HX := Lib.hid hx
        have hkey : keyOf Tryz.prog 9 (.string x.name) = some (.string x.name.data.toList) := Go.WideMaps.keyOf_string_mk Tryz.underlying9 hxs
        have hset1 := hset.kept (World.grownBy_alloc wr (.cells #[.string x.name, .int .i64 x.ports, .int .i64 x.kind] 57) none) (by simp)
        have hM := hset.lt
        have hb1 := hb.alloc hb.size (.cells #[.string x.name, .int .i64 x.ports, .int .i64 x.kind] 57)
        clear hx c0 c1 c2
        by_cases hin : Seen cs k (.string x.name.data.toList)
        · have hlook := hset1.run_true lawS Tryz.underlying138 Tryz.underlying4 (zeroB _) hkey trivial hin
          obtain ⟨j, y, hj, hy, he⟩ := seen_name hin
          have HT := Lib.hid (sig_twice hj HX.out hy he)
          have HB1 := Lib.hid hb1
          clear hset hset1 hin hy he hkey hb hb1
          go_wp2_with fail
          go_ret
          exact ⟨by rw [HT.out]; rfl, HB1.out⟩
        · have hlook := hset1.run_false lawS Tryz.underlying138 Tryz.underlying4 (zeroB _) hkey trivial hin
          have HN := Lib.hid hin
          have HKey := Lib.hid hkey
          have HSet := Lib.hid hset1
          have HB1 := Lib.hid hb1
          clear hset hset1 hin hkey hb hb1
          cases hc : ctlB x with
          | false =>
            have HBad := Lib.hid (sig_bad HX.out hc)
            have HC := Lib.hid hc
            clear hc
            go_wp2_with (go_at_call 123; refine (isC_any _ _ _ _ hxs).mono ?_; rintro e w2 ⟨rfl, hb2⟩; rw [HC.out])
            go_ret
            exact ⟨by rw [HBad.out]; rfl, HB1.out.trans (hb2.mono HB1.out.size)⟩
          | true =>
            have HC := Lib.hid hc
            have hrow := row_new wr #[.string x.name, .int .i64 x.ports, .int .i64 x.kind] 57 3 rfl
            have a0 : (wr.alloc (.cells #[.string x.name, .int .i64 x.ports, .int .i64 x.kind] 57)).cell? ⟨wr.heap.size, 0, none⟩ = some (.string x.name) := hrow.cell (by omega)
            have HA0 := Lib.hid a0
            clear hc hrow a0
            go_wp2_with (first | (go_at_call 123; refine (isC_any _ _ _ _ hxs).mono ?_; rintro e w2 ⟨rfl, hb2⟩; rw [HC.out]; have a1 := (hb2.cell (p := ⟨wr.heap.size, 0, none⟩) (by simp)).trans HA0.out; have HSet2 := Lib.hid (HSet.out.below hb2 (by simp; omega)); have HB2 := Lib.hid (HB1.out.trans (hb2.mono HB1.out.size)); clear hb2) | (at_mapUpdate; refine wpList_store_set _ rfl _ _ _ 138 rfl 9 4 lawS Tryz.underlying138 Tryz.underlying4 w.heap.size k (Seen cs k) rfl HSet2.out (by unfold maxLen; omega) _ true _ rfl rfl HKey.out trivial ?_; intro w3 hset3 hg3))
            have HSet3 := Lib.hid hset3
            have HB3 := Lib.hid (HB2.out.grown hg3 HB2.out.size (fun r e => by injection e with e; omega))
            clear hset3 hg3
            go_roundw
            case rel =>
              refine ⟨k + 1, by omega, by go_num, sigK_next HK.out HX.out HC.out (fun j y hj hy he => HN.out ⟨j, y, hj, hy, by rw [he]⟩), HSet3.out.congr (fun l => ?_), HB3.out⟩
              constructor
              · rintro (⟨rfl, -⟩ | ⟨-, j, y, hj, hy, e⟩)
                · exact ⟨k, x, by omega, HX.out, rfl⟩
                · exact ⟨j, y, by omega, hy, e⟩
              · rintro ⟨j, y, hj, hy, e⟩
                by_cases hjk : j = k
                · subst hjk
                  rw [HX.out] at hy
                  injection hy with hy
                  subst hy
                  exact .inl ⟨e, rfl⟩
                · by_cases hl : l = .string x.name.data.toList
                  · exact .inl ⟨hl, rfl⟩
                  · exact .inr ⟨hl, j, y, by omega, hy, e⟩
            case measure => simp [intOf]; omega
      · have HB := Lib.hid (sigK_all HK.out (by rw [HL.out]; omega))
        go_wp2_with fail
        go_ret
        exact ⟨by rw [HB.out, HL.out, HQ.out]; rfl, hb⟩
end Go.Proofs.YtlpgldejmdiceabGreat.isig
end

section
namespace Go.Proofs.YtlpgldejmdiceabGreat.un
open kit bg sg sig only
open Go.RowKit
set_option linter.unusedVariables false

set_option maxHeartbeats 400000 in
theorem lk_any (v0 v1 v2 v5 : Value) (E l : Int) (A4 : Option Addr) (n4 c4 : Nat) (w : World) (hE : 0 ≤ E ∧ E ≤ 8) (hn : n4 ≤ 16) :
    Calls Tryz.prog 51 #[.agg #[v0, v1, v2, .int .i64 E, .slice A4 n4 c4, v5], .int .i64 l] w (Post (inb l 0 (E + n4 - 1)) w) := by
  obtain ⟨h0, h1⟩ := hE
  go_enter Tryz.func51, Tryz.ntmps51
  go_wp2_with (go_at_call 19; refine (in_any _ _ _ _).mono ?_; rintro e w' ⟨rfl, rfl⟩)
  go_ret
  exact ⟨rfl, (Below.refl _ _).alloc (Nat.le_refl _) _⟩
set_option maxHeartbeats 400000 in
theorem ilk_any (v0 v1 v2 v5 : Value) (E l : Int) (A4 : Option Addr) (n4 c4 : Nat) (w : World) (hE : 0 ≤ E ∧ E ≤ 8) (hn : n4 ≤ 16) :
    Calls Tryz.prog 126 #[.agg #[v0, v1, v2, .int .i64 E, .slice A4 n4 c4, v5], .int .i64 l] w (Post (inb l 0 (E + n4 - 1)) w) := by
  obtain ⟨h0, h1⟩ := hE
  go_enter Tryz.func126, Tryz.ntmps126
  go_wp2_with (go_at_call 25; refine (win_any _ _ _ _).mono ?_; rintro e w' ⟨rfl, rfl⟩)
  go_ret
  exact ⟨rfl, (Below.refl _ _).alloc (Nat.le_refl _) _⟩
set_option maxHeartbeats 400000 in
theorem irt_any (v1 v2 v3 v4 v5 : Value) (R p : Int) (w : World) (hR : 0 ≤ R ∧ R ≤ 4) :
    Calls Tryz.prog 136 #[.agg #[.int .i64 R, v1, v2, v3, v4, v5], .int .i64 p] w (Post (inb p (-R) (-1)) w) := by
  obtain ⟨h0, h1⟩ := hR
  go_enter Tryz.func136, Tryz.ntmps136
  go_wp2_with (go_at_call 25; refine (win_any _ _ _ _).mono ?_; rintro e w' ⟨rfl, rfl⟩)
  go_ret
  exact ⟨rfl, (Below.refl _ _).alloc (Nat.le_refl _) _⟩
/-- what underB says of a parent that is a node -/
theorem under_node {cs : List Ctl} {b : Big} {p : Nat} {m : Int} {nd : Nd} {c : Ctl} (hp : (p : Int) < m) (hx : b.nodes[p]? = some nd) (hc : cs[nd.control.toNat]? = some c) : underB cs b p m = (c.kind != 2) := by
  unfold underB
  rw [if_neg (by omega)]
  simp only [Int.toNat_natCast, hx, hc, decide_eq_true hp, Bool.true_and]
theorem under_far {cs : List Ctl} {b : Big} {p m : Int} (h0 : ¬ p < 0) (hp : ¬ p < m) : underB cs b p m = false := by
  unfold underB
  rw [if_neg h0, decide_eq_false hp]; rfl
theorem under_root {cs : List Ctl} {b : Big} {p m : Int} (h0 : p < 0) : underB cs b p m = inb (-1 - p) 0 (b.roots - 1) := by
  unfold underB
  rw [if_pos h0]
theorem root_eq (p R : Int) : inb p (-R) (-1) = inb (-1 - p) 0 (R - 1) := by
  unfold inb
  congr 1
  exact propext ⟨fun h => by omega, fun h => by omega⟩

/-- the Controls of the first nodes are there -/
def Ctrl (cs : List Ctl) (ns : List Nd) (m : Nat) : Prop := ∀ (j : Nat) nd, j < m → ns[j]? = some nd → inb nd.control 0 (cs.length - 1) = true

set_option maxHeartbeats 800000 in
theorem under_any (A : Option Addr) (n c : Nat) (cs : List Ctl) (A1 : Option Addr) (n1 c1 : Nat) (v2 v3 v4 v5 : Value) (b : Big) (p : Int) (m : Nat) (w0 w : World) (hC : CtlsAt w0 w0.heap.size A n cs) (hN : NdsAt w0 w0.heap.size A1 n1 b.nodes) (hb : Below w0.heap.size w0 w)
    (hR : 0 ≤ b.roots ∧ b.roots ≤ 4) (hn1 : n1 ≤ 8) (hn : n ≤ 1048576) (hm : m ≤ n1) (hk : Ctrl cs b.nodes m) (hp : (Lit.int .i64 p).wf = true) :
    Calls Tryz.prog 50 #[.slice A n c, .agg #[.int .i64 b.roots, .slice A1 n1 c1, v2, v3, v4, v5], .int .i64 p, .int .i64 m] w (Post (underB cs b p m) w) := by
  obtain ⟨h0, h1⟩ := hR
  obtain ⟨hp0, hp1⟩ := bounds_i64 hp
  by_cases hneg : p < 0
  · have HU := Lib.hid (under_root (cs := cs) (b := b) (m := m) hneg)
    clear hp
    go_enter Tryz.func50, Tryz.ntmps50
    go_wp2_with (go_at_call 19; refine (in_any _ _ _ _).mono ?_; rintro e w' ⟨rfl, rfl⟩)
    go_ret
    exact ⟨by rw [HU.out]; rfl, (Below.refl _ _).alloc (Nat.le_refl _) _⟩
  · by_cases hlt : p < (m : Int)
    · obtain ⟨q, rfl⟩ : ∃ q : Nat, p = q := ⟨p.toNat, by omega⟩
      obtain ⟨b1, off1, x, rfl, hb1, hx, d0, d1, L, mL, cL, d2, -⟩ := hN.get (show q < n1 by omega)
      obtain ⟨k0, k1⟩ := inb_true (hk q x (by omega) hx)
      have hqn : q < n1 := by omega
      obtain ⟨t, ht⟩ : ∃ t : Nat, x.control = t := ⟨x.control.toNat, by omega⟩
      have htn : t < n := by have := hC.1; omega
      obtain ⟨b2, off2, y, rfl, hb2, hy, e0, e1, e2⟩ := hC.get htn
      have HU := Lib.hid (under_node (b := b) hlt hx (show cs[x.control.toNat]? = some y by rw [ht]; exact hy))
      rw [ht] at d0
      have g0 := (hb.cell (p := ⟨b1, off1 + q * 3, none⟩) hb1).trans d0
      have g2 := (hb.cell (p := ⟨b2, off2 + t * 3 + 2, none⟩) hb2).trans e2
      have hb1w : b1 < w.heap.size := Nat.lt_of_lt_of_le hb1 hb.size
      have hb2w : b2 < w.heap.size := Nat.lt_of_lt_of_le hb2 hb.size
      clear hp hx hy d0 d1 d2 e0 e1 e2 ht
      cases hq : (y.kind != 2) with
      | true =>
        have HQ := Lib.hid hq
        go_enter Tryz.func50, Tryz.ntmps50
        go_wp2_with fail
        go_ret
        exact ⟨by rw [HU.out, HQ.out]; rfl, (Below.refl _ _).alloc (Nat.le_refl _) _⟩
      | false =>
        have HQ := Lib.hid hq
        go_enter Tryz.func50, Tryz.ntmps50
        go_wp2_with fail
        go_ret
        exact ⟨by rw [HU.out, HQ.out]; rfl, (Below.refl _ _).alloc (Nat.le_refl _) _⟩
    · have hge : (m : Int) ≤ p := by omega
      have hd : decide (p < (m : Int)) = false := decide_eq_false hlt
      have HU := Lib.hid (under_far (cs := cs) (b := b) hneg hlt)
      clear hp
      go_enter Tryz.func50, Tryz.ntmps50
      go_wp2_with fail
      go_ret
      exact ⟨by rw [HU.out]; rfl, (Below.refl _ _).alloc (Nat.le_refl _) _⟩
end Go.Proofs.YtlpgldejmdiceabGreat.un
end

section
namespace Go.Proofs.YtlpgldejmdiceabGreat.over
open Go.RowKit
set_option linter.unusedVariables false

/-- the worlds over W -/
def Over (W : World) : Type := { w' : World // Below W.heap.size W w' }
def Over.w {W : World} (y : Over W) : World := y.1
theorem Over.below {W : World} (y : Over W) : Below W.heap.size W y.w := y.2
theorem Over.cell {W : World} (y : Over W) {p : Addr} (hp : p.block < W.heap.size) : y.w.cell? p = W.cell? p := y.2.cell hp
theorem Over.get {W : World} {b o : Nat} {v : Value} (h : W.cell? ⟨b, o, none⟩ = some v) (hb : b < W.heap.size) (y : Over W) : y.w.cell? ⟨b, o, none⟩ = some v := (y.cell (p := ⟨b, o, none⟩) hb).trans h
def Over.mk {W w' : World} (h : Below W.heap.size W w') : Over W := ⟨w', h⟩

instance Over.some_ {W : World} : Nonempty (Over W) := ⟨Over.mk (Below.refl _ W)⟩

theorem wp_region_over {P : Program} {id : Nat} {Q : Exit → Act → World → Prop} {a : Act} {w : World} {l : List Oper} (hm : P.follows .mixedOrders = true) (hB : Region.lexB .any l.toArray = true)
    (h : wpQuiet P l.toArray (fun w' => ∃ y : Over w, w' = y.w) (fun a' => ∀ w', (∃ y : Over w, w' = y.w) → Q .normal a' w') l a) : (Code.region id l.toArray true).wp P Q a w :=
  wp_region_quiet (C := fun w' => ∃ y : Over w, w' = y.w) hm hB ⟨Over.mk ((Below.refl _ w).drew), rfl⟩ (by simpa using h)

theorem over_call {P : Program} {W : World} {y : Over W} {f : FuncId} {args : Array Value} {v : Value} (h : Calls P f args y.w fun e w' => e = .returned v ∧ Below y.w.heap.size y.w w') :
    Calls P f args y.w fun e w'' => e = .returned v ∧ ∃ y' : Over W, w'' = y'.w :=
  h.mono fun _ w' ⟨he, hb⟩ => ⟨he, Over.mk (y.below.trans (hb.mono y.below.size)), rfl⟩
theorem over_same {P : Program} {W : World} {y : Over W} {f : FuncId} {args : Array Value} {v : Value} (h : Calls P f args y.w fun e w' => e = .returned v ∧ y.w = w') :
    Calls P f args y.w fun e w'' => e = .returned v ∧ ∃ y' : Over W, w'' = y'.w :=
  h.mono fun _ w' ⟨he, hb⟩ => ⟨he, y, hb.symm⟩
end Go.Proofs.YtlpgldejmdiceabGreat.over
end

section
namespace Go.Proofs.YtlpgldejmdiceabGreat.nm
open kit bg sg sig only
open Go.RowKit
set_option linter.unusedVariables false

theorem less_tri (a b : List UInt8) : Op.bytesLess a b = !(Op.bytesLess b a || b == a) := by
  induction a generalizing b with
  | nil => cases b <;> simp [Op.bytesLess]
  | cons x a ih =>
    cases b with
    | nil => simp [Op.bytesLess]
    | cons y b =>
      simp only [Op.bytesLess]
      have e1 : (y == x) = (x == y) := by
        cases hxy : (x == y) with
        | true => rw [eq_of_beq hxy]; simp
        | false =>
          cases hyx : (y == x) with
          | true => rw [eq_of_beq hyx] at hxy; simp at hxy
          | false => rfl
      have e2 : (y :: b == x :: a) = ((x == y) && (b == a)) := by
        rw [← e1]; rfl
      rw [e2, e1, ih b]
      cases hxy : (x == y) with
      | true =>
        have := eq_of_beq hxy
        subst this
        simp [UInt8.lt_irrefl]
      | false =>
        have hne : x ≠ y := fun e => by subst e; simp at hxy
        have hlt : decide (x < y) = !decide (y < x) := by
          rcases UInt8.lt_or_lt_of_ne hne with h | h
          · rw [decide_eq_true h, decide_eq_false (UInt8.lt_asymm h)]; rfl
          · rw [decide_eq_true h, decide_eq_false (UInt8.lt_asymm h)]; rfl
        simp [hlt]
theorem less_not {p s : ByteArray} : lessB p s = !(Op.bytesLess s.toList p.toList || s.toList == p.toList) := less_tri _ _

/-- the first k strings are names, strictly ascending -/
def NamesK (ss : List ByteArray) (k : Nat) : Prop :=
  (∀ (j : Nat) s, j < k → ss[j]? = some s → nameB s = true) ∧ (∀ (j : Nat) a b, j + 1 < k → ss[j]? = some a → ss[j + 1]? = some b → lessB a b = true)
open Classical in
/-- whether they are names -/
noncomputable def namesB (ss : List ByteArray) : Bool := decide (NamesP ss)
open Classical in
theorem names_true {ss : List ByteArray} (h : NamesP ss) : namesB ss = true := by unfold namesB; exact decide_eq_true h
open Classical in
theorem names_false {ss : List ByteArray} (h : ¬ NamesP ss) : namesB ss = false := by unfold namesB; exact decide_eq_false h
open Classical in
theorem names_of {ss : List ByteArray} (h : namesB ss = true) : NamesP ss := by unfold namesB at h; exact of_decide_eq_true h
theorem namesK_zero (ss : List ByteArray) : NamesK ss 0 := ⟨fun j s h => absurd h (Nat.not_lt_zero j), fun j a b h => absurd h (by omega)⟩
theorem namesK_one {ss : List ByteArray} {s : ByteArray} (hx : ss[0]? = some s) (hc : nameB s = true) : NamesK ss (0 + 1) :=
  ⟨fun j x hj hx' => by
    obtain rfl : j = 0 := by omega
    rw [hx] at hx'; injection hx' with e; subst e; exact hc, fun j a b h => absurd h (by omega)⟩
theorem namesK_next {ss : List ByteArray} {k : Nat} {p s : ByteArray} (h : NamesK ss (k + 1)) (hp : ss[k]? = some p) (hx : ss[k + 1]? = some s) (hc : nameB s = true) (hl : lessB p s = true) : NamesK ss (k + 1 + 1) := by
  refine ⟨fun j x hj hx' => ?_, fun j a b hj ha hb => ?_⟩
  · by_cases e : j = k + 1
    · subst e; rw [hx] at hx'; injection hx' with e; subst e; exact hc
    · exact h.1 j x (by omega) hx'
  · by_cases e : j = k
    · subst e
      rw [hp] at ha
      rw [hx] at hb
      injection ha with ha
      injection hb with hb
      subst ha hb
      exact hl
    · exact h.2 j a b (by omega) ha hb
theorem namesK_all {ss : List ByteArray} {k : Nat} (h : NamesK ss k) (hk : ss.length ≤ k) : NamesP ss :=
  ⟨fun j s hs => h.1 j s (by have := (List.getElem?_eq_some_iff.1 hs).1; omega) hs, fun j a b ha hb => h.2 j a b (by have := (List.getElem?_eq_some_iff.1 hb).1; omega) ha hb⟩
theorem names_bad {ss : List ByteArray} {k : Nat} {s : ByteArray} (hx : ss[k]? = some s) (hc : nameB s = false) : namesB ss = false := names_false (fun hp => by rw [hp.1 k s hx] at hc; cases hc)
theorem names_down {ss : List ByteArray} {k : Nat} {p s : ByteArray} (hp : ss[k]? = some p) (hx : ss[k + 1]? = some s) (hl : lessB p s = false) : namesB ss = false := names_false (fun h => by rw [h.2 k p s hp hx] at hl; cases hl)

set_option maxRecDepth 20000 in
set_option maxHeartbeats 1600000 in
theorem l2Names_any (A : Option Addr) (n c : Nat) (ss : List ByteArray) (w : World) (B : Nat) (h : SR w B A n (ss.map Value.string)) (hn : n ≤ 1048576) (hs : ∀ s ∈ ss, s.size ≤ 1048576) :
    Calls Tryz.prog 47 #[.slice A n c] w (Post (namesB ss && decide ((n : Int) ≤ 16)) w) := by
  have HL := Lib.hid h.strlen
  have HS := Lib.hid hs
  clear hs
  go_enter Tryz.func47, Tryz.ntmps47
  go_wp2_with fail
  go_loopw [3] (fun i wr => ∃ k : Nat, k ≤ n ∧ i = .int .i64 k ∧ NamesK ss k ∧ Dr w wr) (fun i _ => n - (intOf i).toNat)
  case atStart => exact ⟨0, Nat.zero_le _, rfl, namesK_zero ss, Dr.refl w⟩
  case round =>
    obtain ⟨k, hk, rfl, hsk, hdr⟩ := hrel
    have HK := Lib.hid hsk
    clear hsk
    by_cases hlt : k < n
    · obtain ⟨b, off, x, rfl, hbb, hx, c0⟩ := h.str hlt
      have hxs : x.size ≤ maxLen := by have := HS.out x (List.mem_of_getElem? hx); unfold maxLen; omega
      have d0 := (hdr.cell ⟨b, off + k, none⟩).trans c0
      have HX := Lib.hid hx
      clear hx c0
      cases q0 : nameB x with
      | false =>
        have HB := Lib.hid (names_bad HX.out q0)
        go_wp2_with fail
        go_quiet ((go_at_call 71; exact Calls.quiet_of_same ((nm_any x _ hxs).mono fun _ _ h => ⟨h.1, h.2.symm⟩)))
        simp only [q0]
        go_wp2_with fail
        go_ret
        exact ⟨by rw [HB.out]; rfl, (hdr.more _).below _⟩
      | true =>
        by_cases hk0 : 0 < k
        · obtain ⟨b', off', p, e', -, hp, c1⟩ := h.str (show k - 1 < n by omega)
          injection e' with e'
          injection e' with e1 e2
          subst e1 e2
          have hps : ss[(k - 1) + 1]? = some x := by rw [show k - 1 + 1 = k by omega]; exact HX.out
          have d1 := (hdr.cell ⟨b, off + (k - 1), none⟩).trans c1
          have hw : IntKind.i64.wrap ((k : Int) - 1) = (k : Int) - 1 := IntWalk.i64_in _ (by omega)
          have hw1 : (0 : Int) ≤ (k : Int) - 1 := by omega
          have hw2 : (k : Int) - 1 < (n : Int) := by omega
          have hw3 : ((k : Int) - 1).toNat = k - 1 := by omega
          have hw4 : (1 : Int) ≤ (k : Int) := by omega
          have HP := Lib.hid hp
          have HPS := Lib.hid hps
          clear hp hps c1
          cases hq : Op.bytesLess p.toList x.toList with
          | true =>
            have HQ := Lib.hid hq
            go_wp2_with fail
            go_quiet ((go_at_call 71; exact Calls.quiet_of_same ((nm_any x _ hxs).mono fun _ _ h => ⟨h.1, h.2.symm⟩)))
            simp only [q0]
            have HN := Lib.hid (namesK_next (show NamesK ss (k - 1 + 1) by rw [show k - 1 + 1 = k by omega]; exact HK.out) HP.out HPS.out q0 HQ.out)
            go_wp2_with fail
            go_roundw
            case rel => exact ⟨k + 1, by omega, by go_num, by have := HN.out; rw [show k - 1 + 1 + 1 = k + 1 by omega] at this; exact this, hdr.more _⟩
            case measure => simp [intOf]; omega
          | false =>
            have HQ := Lib.hid hq
            go_wp2_with fail
            go_quiet ((go_at_call 71; exact Calls.quiet_of_same ((nm_any x _ hxs).mono fun _ _ h => ⟨h.1, h.2.symm⟩)))
            simp only [q0]
            have HB := Lib.hid (names_down HP.out HPS.out HQ.out)
            go_wp2_with fail
            go_ret
            exact ⟨by rw [HB.out]; rfl, (hdr.more _).below _⟩
        · have HN := Lib.hid (show NamesK ss (k + 1) by
            obtain rfl : k = 0 := by omega
            exact namesK_one HX.out q0)
          have hd : decide ((0 : Int) < (k : Int)) = false := by simp; omega
          have hd2 : decide (0 < k) = false := by simp; omega
          go_wp2_with fail
          go_quiet ((go_at_call 71; exact Calls.quiet_of_same ((nm_any x _ hxs).mono fun _ _ h => ⟨h.1, h.2.symm⟩)))
          simp only [q0]
          go_wp2_with fail
          go_roundw
          case rel => exact ⟨k + 1, by omega, by go_num, HN.out, hdr.more _⟩
          case measure => simp [intOf]; omega
    · have hP : NamesP ss := namesK_all HK.out (by rw [HL.out]; omega)
      have HB := Lib.hid (names_true hP)
      clear hP
      go_wp2_with fail
      go_ret
      exact ⟨by rw [HB.out]; rfl, hdr.below _⟩

set_option maxRecDepth 20000 in
set_option maxHeartbeats 1600000 in
theorem areNames_any (A : Option Addr) (n c : Nat) (ss : List ByteArray) (w : World) (B : Nat) (h : SR w B A n (ss.map Value.string)) (hn : n ≤ 1048576) (hs : ∀ s ∈ ss, s.size ≤ 1048576) :
    Calls Tryz.prog 80 #[.slice A n c] w fun e w' => e = .returned (.bool (namesB ss)) ∧ w = w' := by
  have HL := Lib.hid h.strlen
  have HS := Lib.hid hs
  clear hs
  go_enter Tryz.func80, Tryz.ntmps80
  go_wp2_with fail
  go_loop [7] (fun i => ∃ k : Nat, k ≤ n ∧ i = .int .i64 k ∧ NamesK ss k) (fun i => n - (intOf i).toNat)
  case atStart => exact ⟨0, Nat.zero_le _, rfl, namesK_zero ss⟩
  case round =>
    obtain ⟨k, hk, rfl, hsk⟩ := hrel
    have HK := Lib.hid hsk
    clear hsk
    by_cases hlt : k < n
    · obtain ⟨b, off, x, rfl, hbb, hx, d0⟩ := h.str hlt
      have hxs : x.size ≤ maxLen := by have := HS.out x (List.mem_of_getElem? hx); unfold maxLen; omega
      have HX := Lib.hid hx
      clear hx
      cases q0 : nameB x with
      | false =>
        have HB := Lib.hid (names_bad HX.out q0)
        go_wp2_with (go_at_call 104; refine (inm_any _ _ hxs).mono ?_; rintro e w' ⟨rfl, rfl⟩)
        go_ret
        exact ⟨by rw [HB.out]; rfl, rfl⟩
      | true =>
        by_cases hk0 : 0 < k
        · obtain ⟨b', off', p, e', -, hp, d1⟩ := h.str (show k - 1 < n by omega)
          injection e' with e'
          injection e' with e1 e2
          subst e1 e2
          have hps : ss[(k - 1) + 1]? = some x := by rw [show k - 1 + 1 = k by omega]; exact HX.out
          have hw1 : (0 : Int) ≤ (k : Int) - 1 := by omega
          have hw2 : (k : Int) - 1 < (n : Int) := by omega
          have hw3 : ((k : Int) - 1).toNat = k - 1 := by omega
          have hw4 : (1 : Int) ≤ (k : Int) := by omega
          have HP := Lib.hid hp
          have HPS := Lib.hid hps
          clear hp hps
          have HLN := Lib.hid (less_not (p := p) (s := x))
          cases hq : Op.bytesLess x.toList p.toList with
          | true =>
            have HB := Lib.hid (names_down HP.out HPS.out (by rw [HLN.out, hq]; rfl))
            go_wp2_with (go_at_call 104; refine (inm_any _ _ hxs).mono ?_; rintro e w' ⟨rfl, rfl⟩)
            go_ret
            exact ⟨by rw [HB.out]; rfl, rfl⟩
          | false =>
            cases hq2 : (x.toList == p.toList) with
            | true =>
              have HB := Lib.hid (names_down HP.out HPS.out (by rw [HLN.out, hq, hq2]; rfl))
              go_wp2_with (go_at_call 104; refine (inm_any _ _ hxs).mono ?_; rintro e w' ⟨rfl, rfl⟩)
              go_ret
              exact ⟨by rw [HB.out]; rfl, rfl⟩
            | false =>
              have HN := Lib.hid (namesK_next (show NamesK ss (k - 1 + 1) by rw [show k - 1 + 1 = k by omega]; exact HK.out) HP.out HPS.out q0 (by rw [HLN.out, hq, hq2]; rfl))
              go_wp2_with (go_at_call 104; refine (inm_any _ _ hxs).mono ?_; rintro e w' ⟨rfl, rfl⟩)
              go_round
              case rel => exact ⟨k + 1, by omega, by go_num, by have := HN.out; rw [show k - 1 + 1 + 1 = k + 1 by omega] at this; exact this⟩
              case measure => simp [intOf]; omega
        · have HN := Lib.hid (show NamesK ss (k + 1) by
            obtain rfl : k = 0 := by omega
            exact namesK_one HX.out q0)
          have hd : decide ((0 : Int) < (k : Int)) = false := by simp; omega
          have hd2 : decide (0 < k) = false := by simp; omega
          go_wp2_with (go_at_call 104; refine (inm_any _ _ hxs).mono ?_; rintro e w' ⟨rfl, rfl⟩)
          go_round
          case rel => exact ⟨k + 1, by omega, by go_num, HN.out⟩
          case measure => simp [intOf]; omega
    · have HB := Lib.hid (names_true (namesK_all HK.out (by rw [HL.out]; omega)))
      go_wp2_with fail
      go_ret
      exact ⟨by rw [HB.out]; rfl, rfl⟩
end Go.Proofs.YtlpgldejmdiceabGreat.nm
end

section
namespace Go.Proofs.YtlpgldejmdiceabGreat.inn
open kit bg only strs hb sig
open Go.RowKit
set_option linter.unusedVariables false

/-- a row of the call's own, from block B on, that holds these values -/
def Owns (w : World) (B : Nat) (t : TypeId) (v : Value) (ys : List Value) : Prop := w.ownsRow B t 1 v ys.length ys ∧ v ≠ .slice none 0 0
theorem Owns.row {w : World} {B : Nat} {t : TypeId} {v : Value} {ys : List Value} (h : Owns w B t v ys) :
    ∃ g cap f, v = .slice (some ⟨g, 0, none⟩) ys.length cap ∧ B ≤ g ∧ ys.length ≤ cap ∧ w.rowIs g t cap f ∧ ∀ k u, ys[k]? = some u → f k = u := by
  obtain ⟨⟨h1, h2⟩, hn⟩ := h
  rcases h2 with ⟨e, _⟩ | ⟨g, cap, cur, rfl, hb, hh, hc, hm, hs, ht⟩
  · exact absurd e hn
  · refine ⟨g, cap, fun i => (cur[i]?).getD undef, rfl, hb, hc, ⟨cur, hh, by simpa using hs, fun i hi => ?_⟩, fun k u hu => ?_⟩
    · show cur[i]? = some ((cur[i]?).getD undef)
      rw [Array.getElem?_eq_getElem (show i < cur.size by omega)]; rfl
    · have hk : k < ys.length := (List.getElem?_eq_some_iff.1 hu).1
      rw [← ht, List.getElem?_take_of_lt (by omega)] at hu
      have hu2 : cur[k]? = some u := by simpa using hu
      show (cur[k]?).getD undef = u
      rw [hu2]; rfl
theorem Owns.at {w : World} {B : Nat} {t : TypeId} {v : Value} {ys : List Value} (h : Owns w B t v ys) : ∃ g cap, v = .slice (some ⟨g, 0, none⟩) ys.length cap ∧ B ≤ g ∧ g < w.heap.size ∧ ys.length ≤ cap ∧ SR w w.heap.size (some ⟨g, 0, none⟩) ys.length ys := by
  obtain ⟨g, cap, f, rfl, hb, hc, hr, hf⟩ := h.row
  exact ⟨g, cap, rfl, hb, hr.lt, hc, SR.of_row2 hr hc hr.lt (fun k u hu => ⟨(List.getElem?_eq_some_iff.1 hu).1, hf k u hu⟩) rfl⟩
theorem Owns.mono {w : World} {B B' : Nat} {t : TypeId} {v : Value} {ys : List Value} (h : Owns w B t v ys) (hB : B' ≤ B) : Owns w B' t v ys := by
  obtain ⟨⟨h1, h2⟩, hn⟩ := h
  refine ⟨⟨h1, ?_⟩, hn⟩
  rcases h2 with h | ⟨g, cap, cur, e, hb, r⟩
  · exact .inl h
  · exact .inr ⟨g, cap, cur, e, by omega, r⟩

/-- what a collecting function tells -/
def ColPost (t : TypeId) (ys : List Value) (w : World) (e : Ending) (w' : World) : Prop := ∃ v, e = .returned v ∧ Owns w' w.heap.size t v ys ∧ Below w.heap.size w w'

def nms (ws : List Wr) : List ByteArray := ws.map (·.name)
theorem nms_take {ws : List Wr} {k : Nat} {x : Wr} (h : ws[k]? = some x) : (nms (ws.take (k + 1))).map Value.string = (nms (ws.take k)).map Value.string ++ [.string x.name] := by
  unfold nms
  rw [take_snoc h]; simp
theorem nms_len {ws : List Wr} {k : Nat} (h : k ≤ ws.length) : ((nms (ws.take k)).map Value.string).length = k := by
  unfold nms
  simp [h]

set_option maxRecDepth 20000 in
set_option maxHeartbeats 1600000 in
theorem l2Inner_any (v0 v1 v2 v3 v4 : Value) (A5 : Option Addr) (n5 c5 : Nat) (ws : List Wr) (w0 w : World) (h : WrsAt w0 w0.heap.size A5 n5 ws) (hb0 : Below w0.heap.size w0 w) (hn : n5 ≤ 1048576) :
    Calls Tryz.prog 48 #[.agg #[v0, v1, v2, v3, v4, .slice A5 n5 c5]] w (ColPost 9 ((nms ws).map Value.string) w) := by
  obtain ⟨i0, hi, hz0, hz1, hz2⟩ := info_parts str_info
  have HI := Lib.hid (And.intro hi (And.intro hz0 (And.intro hz1 hz2)))
  have HL := Lib.hid h.1
  have HBox := Lib.hid (six_new w v0 v1 v2 v3 v4 (.slice A5 n5 c5) 31)
  clear hi hz0 hz1 hz2
  go_enter Tryz.func48, Tryz.ntmps48
  go_wp2_with fail
  go_loopw [3, 4] (fun v i wr => ∃ k : Nat, k ≤ n5 ∧ i = .int .i64 k ∧ Owns wr (w.heap.size + 1) 9 v ((nms (ws.take k)).map Value.string) ∧ Below (w.heap.size + 1) (w.alloc (.cells #[v0, v1, v2, v3, v4, .slice A5 n5 c5] 31)) wr) (fun _ i _ => n5 - (intOf i).toNat)
  case atStart =>
    exact ⟨0, Nat.zero_le _, rfl, ⟨by
      have := World.ownsRow_made (base := w.heap.size + 1) (e := 9) (size := 1) (w.alloc (.cells #[v0, v1, v2, v3, v4, .slice A5 n5 c5] 31)) #[] 0 (by simp) (by unfold maxLen; omega) (by simp)
      simpa [nms] using this, by simp⟩, (Below.refl _ _).alloc (by simp) _⟩
  case round =>
    obtain ⟨k, hk, rfl, ⟨hown, hnn⟩, hbel⟩ := hrel
    have hsz := hbel.size
    simp at hsz
    have hrow := HBox.out.of_block (hbel.block w.heap.size (by omega))
    obtain ⟨x0, x1, x2, x3, x4, x5⟩ := row6 hrow
    simp only [six] at x0 x1 x2 x3 x4 x5
    simp at x0 x1 x2 x3 x4 x5
    have hbw : Below w0.heap.size w0 wr := hb0.trans (((Below.refl w0.heap.size w).alloc hb0.size _).trans (hbel.mono (by have := hb0.size; omega)))
    clear hrow
    by_cases hlt : k < n5
    · obtain ⟨b, off, x, rfl, hbb, hx, c0, c1⟩ := h.get hlt
      have d0 := (hbw.cell (p := ⟨b, off + k * 2, none⟩) hbb).trans c0
      have hln := nms_len (ws := ws) (k := k) (by rw [HL.out]; omega)
      have HT := Lib.hid (nms_take hx)
      rw [hln] at hown
      have HLn := Lib.hid hln
      have HN := Lib.hid hnn
      obtain ⟨D, hD⟩ : ∃ D, (nms (ws.take k)).map Value.string = D := ⟨_, rfl⟩
      rw [hD] at hown
      have HD := Lib.hid hD
      clear hx c0 c1 hln hnn hD
      go_wp2_with (at_builtin; refine wpList_append_own _ rfl _ _ 28 rfl (w.heap.size + 1) 9 i0 (.string ⟨#[]⟩) 1 16 Tryz.underlying28 HI.out.1 HI.out.2.1 HI.out.2.2.1 HI.out.2.2.2 rfl (by decide) _ _ _ rfl (hown.alloc _) ⟨wr.heap.size, 0, none⟩ 1 1 [.string x.name] rfl rfl (cell_one_new _ _ _) (fun x hx => by simp at hx; subst hx; rfl) (by unfold maxLen; omega) (by omega) (by simp; omega) ?_; intro v1 w1 hown1 hgrow1 hnil1)
      have hb1 := Lib.hid ((hbel.alloc (by omega) (.cells #[.string x.name] 9)).grown hgrow1 (by simp; omega) (fun j hj => (hown.lt j hj).1))
      have HOwn := Lib.hid hown1
      have HN1 : Hid (v1 ≠ .slice none 0 0) := fun h => HN.out (hnil1.1 h).1
      clear hown1 hgrow1 hnil1 hown
      go_wp2_with fail
      go_roundw
      case rel => exact ⟨k + 1, by omega, by go_num, ⟨by rw [HT.out, HD.out]; have := HOwn.out; rw [List.length_append, List.length_singleton, ← HD.out, HLn.out, HD.out]; exact this, HN1.out⟩, hb1.out⟩
      case measure => simp [intOf]; omega
    · obtain rfl : k = n5 := by omega
      have hfull : ws.take k = ws := List.take_of_length_le (by rw [HL.out]; omega)
      rw [hfull] at hown
      have HOwn := Lib.hid (show Owns wr w.heap.size 9 _ _ from (Owns.mono ⟨hown, hnn⟩ (Nat.le_succ _)))
      clear hown hfull
      go_wp2_with fail
      go_ret
      exact ⟨_, rfl, HOwn.out, ((Below.refl w.heap.size w).alloc (Nat.le_refl _) _).trans (hbel.mono (Nat.le_succ _))⟩

set_option maxRecDepth 20000 in
set_option maxHeartbeats 1600000 in
theorem innerN_any (v0 v1 v2 v3 v4 : Value) (A5 : Option Addr) (n5 c5 : Nat) (ws : List Wr) (w0 w : World) (h : WrsAt w0 w0.heap.size A5 n5 ws) (hb0 : Below w0.heap.size w0 w) (hn : n5 ≤ 1048576) :
    Calls Tryz.prog 87 #[.agg #[v0, v1, v2, v3, v4, .slice A5 n5 c5]] w (ColPost 9 ((nms ws).map Value.string) w) := by
  obtain ⟨i0, hi, hz0, hz1, hz2⟩ := info_parts str_info
  have HI := Lib.hid (And.intro hi (And.intro hz0 (And.intro hz1 hz2)))
  have HL := Lib.hid h.1
  clear hi hz0 hz1 hz2
  go_enter Tryz.func87, Tryz.ntmps87
  go_wp2_with fail
  go_loopw [3, 10] (fun v i wr => ∃ k : Nat, k ≤ n5 ∧ i = .int .i64 k ∧ Owns wr (w.heap.size + 1) 9 v ((nms (ws.take k)).map Value.string) ∧ Below (w.heap.size + 1) (w.alloc (.cells #[v0, v1, v2, v3, v4, .slice A5 n5 c5] 31)) wr) (fun _ i _ => n5 - (intOf i).toNat)
  case atStart =>
    exact ⟨0, Nat.zero_le _, rfl, ⟨by
      have := World.ownsRow_made (base := w.heap.size + 1) (e := 9) (size := 1) (w.alloc (.cells #[v0, v1, v2, v3, v4, .slice A5 n5 c5] 31)) #[] 0 (by simp) (by unfold maxLen; omega) (by simp)
      simpa [nms] using this, by simp⟩, (Below.refl _ _).alloc (by simp) _⟩
  case round =>
    obtain ⟨k, hk, rfl, ⟨hown, hnn⟩, hbel⟩ := hrel
    have hsz := hbel.size
    simp at hsz
    have hbw : Below w0.heap.size w0 wr := hb0.trans (((Below.refl w0.heap.size w).alloc hb0.size _).trans (hbel.mono (by have := hb0.size; omega)))
    by_cases hlt : k < n5
    · obtain ⟨b, off, x, rfl, hbb, hx, c0, c1⟩ := h.get hlt
      have d0 := (hbw.cell (p := ⟨b, off + k * 2, none⟩) hbb).trans c0
      have d1 := (hbw.cell (p := ⟨b, off + k * 2 + 1, none⟩) hbb).trans c1
      have hln := nms_len (ws := ws) (k := k) (by rw [HL.out]; omega)
      have HT := Lib.hid (nms_take hx)
      rw [hln] at hown
      have HLn := Lib.hid hln
      have HN := Lib.hid hnn
      obtain ⟨D, hD⟩ : ∃ D, (nms (ws.take k)).map Value.string = D := ⟨_, rfl⟩
      rw [hD] at hown
      have HD := Lib.hid hD
      clear hx c0 c1 hln hnn hD
      go_wp2_with (at_builtin; refine wpList_append_own _ rfl _ _ 28 rfl (w.heap.size + 1) 9 i0 (.string ⟨#[]⟩) 1 16 Tryz.underlying28 HI.out.1 HI.out.2.1 HI.out.2.2.1 HI.out.2.2.2 rfl (by decide) _ _ _ rfl ((hown.alloc _).alloc _) ⟨wr.heap.size + 1, 0, none⟩ 1 1 [.string x.name] rfl rfl (by have := cell_one_new (wr.alloc (.cells #[.string x.name, .int .i64 x.link] 80)) (.string x.name) 9; rw [World.size_alloc] at this; exact this) (fun x hx => by simp at hx; subst hx; rfl) (by unfold maxLen; omega) (by omega) (by simp; omega) ?_; intro v1 w1 hown1 hgrow1 hnil1)
      have hb1 := Lib.hid (((hbel.alloc (by omega) (.cells #[.string x.name, .int .i64 x.link] 80)).alloc (by simp; omega) (.cells #[.string x.name] 9)).grown hgrow1 (by simp; omega) (fun j hj => (hown.lt j hj).1))
      have HOwn := Lib.hid hown1
      have HN1 : Hid (v1 ≠ .slice none 0 0) := fun h => HN.out (hnil1.1 h).1
      clear hown1 hgrow1 hnil1 hown
      go_wp2_with fail
      go_roundw
      case rel => exact ⟨k + 1, by omega, by go_num, ⟨by rw [HT.out, HD.out]; have := HOwn.out; rw [List.length_append, List.length_singleton, ← HD.out, HLn.out, HD.out]; exact this, HN1.out⟩, hb1.out⟩
      case measure => simp [intOf]; omega
    · obtain rfl : k = n5 := by omega
      have hfull : ws.take k = ws := List.take_of_length_le (by rw [HL.out]; omega)
      rw [hfull] at hown
      have HOwn := Lib.hid (show Owns wr w.heap.size 9 _ _ from (Owns.mono ⟨hown, hnn⟩ (Nat.le_succ _)))
      clear hown hfull
      go_wp2_with fail
      go_ret
      exact ⟨_, rfl, HOwn.out, ((Below.refl w.heap.size w).alloc (Nat.le_refl _) _).trans (hbel.mono (Nat.le_succ _))⟩
end Go.Proofs.YtlpgldejmdiceabGreat.inn
end

section
namespace Go.Proofs.YtlpgldejmdiceabGreat.gn
open kit bg sg sig only un hb opn over
open Go.RowKit
set_option linter.unusedVariables false

/-- whether the k-th node is as it must be -/
def nodeB (cs : List Ctl) (b : Big) (k : Nat) (nd : Nd) : Bool := seatB cs b k nd && portsB cs nd && nd.links.all (linkB b)
theorem row3 {w : World} {β : Nat} {t : TypeId} {a b c : Value} (h : w.rowIs β t 3 (fun i => (#[a, b, c][i]?).getD undef)) : w.cell? ⟨β, 0, none⟩ = some a ∧ w.cell? ⟨β, 1, none⟩ = some b ∧ w.cell? ⟨β, 2, none⟩ = some c :=
  ⟨h.cell (by omega), h.cell (by omega), h.cell (by omega)⟩
theorem links_all {b : Big} {ls : List Int} {k : Nat} (h : ∀ (i : Nat) l, i < k → ls[i]? = some l → linkB b l = true) (hk : ls.length ≤ k) : ls.all (linkB b) = true := by
  rw [List.all_eq_true]
  intro l hl
  obtain ⟨i, hi⟩ := List.getElem?_of_mem hl
  exact h i l (by have := (List.getElem?_eq_some_iff.1 hi).1; omega) hi
theorem links_bad {b : Big} {ls : List Int} {i : Nat} {l : Int} (hl : ls[i]? = some l) (h : linkB b l = false) : ls.all (linkB b) = false := by
  rw [List.all_eq_false]
  exact ⟨l, List.mem_of_getElem? hl, by rw [h]; decide⟩

set_option maxRecDepth 100000 in
set_option maxHeartbeats 3200000 in
theorem l2Node_any (A : Option Addr) (n c : Nat) (cs : List Ctl) (A1 : Option Addr) (n1 c1 : Nat) (v2 v5 : Value) (A4 : Option Addr) (n4 c4 : Nat) (b : Big) (k : Nat) (x : Nd) (w0 w : World)
    (hC : CtlsAt w0 w0.heap.size A n cs) (hN : NdsAt w0 w0.heap.size A1 n1 b.nodes) (hb0 : Below w0.heap.size w0 w) (hR : 0 ≤ b.roots ∧ b.roots ≤ 4) (hE : 0 ≤ b.edges ∧ b.edges ≤ 8) (h4 : n4 ≤ 16) (h4' : b.outer.length = n4) (hn1 : n1 ≤ 8) (hn : n ≤ 1048576)
    (hkn : k < n1) (hk : Ctrl cs b.nodes k) (hx : b.nodes[k]? = some x) (hw : NdW x) :
    Calls Tryz.prog 49 #[.slice A n c, .agg #[.int .i64 b.roots, .slice A1 n1 c1, v2, .int .i64 b.edges, .slice A4 n4 c4, v5], .int .i64 k] w (Post (nodeB cs b k x) w) := by
  obtain ⟨b1, off1, x', rfl, hb1, hx', c0, c1', L, m, cap, c2, hi⟩ := hN.get hkn
  rw [hx] at hx'
  injection hx' with e
  subst e
  obtain ⟨hp1, hp2, hml, hlw⟩ := hw
  have hlen := hi.len
  have hmm : m ≤ 9223372036854775807 := by unfold maxLen at hml; omega
  have hsz0 := hb0.size
  have d0 := (hb0.cell (p := ⟨b1, off1 + k * 3, none⟩) hb1).trans c0
  have d1 := (hb0.cell (p := ⟨b1, off1 + k * 3 + 1, none⟩) hb1).trans c1'
  have d2 := (hb0.cell (p := ⟨b1, off1 + k * 3 + 2, none⟩) hb1).trans c2
  have hb1w : b1 < w.heap.size := by omega
  have hcl := hC.1
  have HBox := Lib.hid ((six_new w (.int .i64 b.roots) (.slice (some ⟨b1, off1, none⟩) n1 c1) v2 (.int .i64 b.edges) (.slice A4 n4 c4) v5 31).alloc (.cells #[.int .i64 x.control, .int .i64 x.parent, .slice L m cap] 96))
  have HX3 := Lib.hid (row_new (w.alloc (.cells #[.int .i64 b.roots, .slice (some ⟨b1, off1, none⟩) n1 c1, v2, .int .i64 b.edges, .slice A4 n4 c4, v5] 31)) #[.int .i64 x.control, .int .i64 x.parent, .slice L m cap] 96 3 rfl)
  have HB0 := Lib.hid (((Below.refl w.heap.size w).alloc (Nat.le_refl _) (.cells #[.int .i64 b.roots, .slice (some ⟨b1, off1, none⟩) n1 c1, v2, .int .i64 b.edges, .slice A4 n4 c4, v5] 31)).alloc (by simp) (.cells #[.int .i64 x.control, .int .i64 x.parent, .slice L m cap] 96))
  have HSz : Hid (((w.alloc (.cells #[.int .i64 b.roots, .slice (some ⟨b1, off1, none⟩) n1 c1, v2, .int .i64 b.edges, .slice A4 n4 c4, v5] 31)).alloc (.cells #[.int .i64 x.control, .int .i64 x.parent, .slice L m cap] 96)).heap.size = w.heap.size + 2) := Lib.hid (by simp)
  have HX := Lib.hid hx
  have HLen := Lib.hid hlen
  have HCl := Lib.hid hcl
  have hnI : IntKind.i64.wrap ((n : Int) - 1) = (n : Int) - 1 := IntWalk.i64_in _ (by omega)
  clear hx c0 c1' c2 hlen hcl
  cases qc : inb x.control 0 ((n : Int) - 1) with
  | false =>
    have HNo := Lib.hid (show nodeB cs b k x = false by unfold nodeB seatB; rw [HCl.out, qc]; rfl)
    have HI := Lib.hid (fun W' => qc ▸ in_any x.control 0 ((n : Int) - 1) W')
    go_enter Tryz.func49, Tryz.ntmps49
    go_wp2_with fail
    obtain ⟨W, hW⟩ : ∃ W, ((w.alloc (.cells #[.int .i64 b.roots, .slice (some ⟨b1, off1, none⟩) n1 c1, v2, .int .i64 b.edges, .slice A4 n4 c4, v5] 31)).alloc (.cells #[.int .i64 x.control, .int .i64 x.parent, .slice L m cap] 96)) = W := ⟨_, rfl⟩
    rw [hW] at HBox HX3 HB0 HSz ⊢
    rw [World.size_alloc] at HX3
    obtain ⟨y0, y1, y2⟩ := row3 HX3.out
    have hWb := HB0.out.drew
    clear hW d0 d1 d2
    go_quiet ((go_at_call 19; exact Calls.quiet_of_same ((HI.out _).mono fun _ _ h => ⟨h.1, h.2.symm⟩)))
    go_wp2_with fail
    go_ret
    exact ⟨by rw [HNo.out]; rfl, below_drewN HB0.out _⟩
  | true =>
    have HI := Lib.hid (fun W' => qc ▸ in_any x.control 0 ((n : Int) - 1) W')
    have HU := Lib.hid (fun W' hb => under_any A n c cs (some ⟨b1, off1, none⟩) n1 c1 v2 (.int .i64 b.edges) (.slice A4 n4 c4) v5 b x.parent k w0 W' hC hN hb hR hn1 hn (by omega) hk hp2)
    obtain ⟨k0, k1⟩ := inb_true qc
    obtain ⟨t, ht⟩ : ∃ t : Nat, x.control = t := ⟨x.control.toNat, by omega⟩
    have htn : t < n := by omega
    rw [ht] at d0 HX3 HBox HB0 HSz HI
    have HTt := Lib.hid ht
    clear ht
    cases qu : underB cs b x.parent k with
    | false =>
      rw [qu] at HU
      have HNo := Lib.hid (show nodeB cs b k x = false by unfold nodeB seatB; rw [qu]; simp)
      go_enter Tryz.func49, Tryz.ntmps49
      go_wp2_with fail
      obtain ⟨W, hW⟩ : ∃ W, ((w.alloc (.cells #[.int .i64 b.roots, .slice (some ⟨b1, off1, none⟩) n1 c1, v2, .int .i64 b.edges, .slice A4 n4 c4, v5] 31)).alloc (.cells #[.int .i64 (t : Int), .int .i64 x.parent, .slice L m cap] 96)) = W := ⟨_, rfl⟩
      rw [hW] at HBox HX3 HB0 HSz ⊢
      rw [World.size_alloc] at HX3
      obtain ⟨y0, y1, y2⟩ := row3 HX3.out
      obtain ⟨x0, x1, x2, x3, x4, x5⟩ := row6 HBox.out
      simp only [six] at x0 x1 x2 x3 x4 x5
      simp at x0 x1 x2 x3 x4 x5
      have hb1W : w.heap.size + 1 < W.heap.size := by rw [HSz.out]; omega
      have hb0W : w.heap.size < W.heap.size := by omega
      have hWd : Below w0.heap.size w0 W := hb0.trans (HB0.out.mono hsz0)
      have q0 := Over.get y0 hb1W
      have q1 := Over.get y1 hb1W
      have q2 := Over.get y2 hb1W
      have z0 := Over.get x0 hb0W
      have z1 := Over.get x1 hb0W
      have z2 := Over.get x2 hb0W
      have z3 := Over.get x3 hb0W
      have z4 := Over.get x4 hb0W
      have z5 := Over.get x5 hb0W
      have HI2 := Lib.hid (fun y : Over W => over_same (HI.out y.w))
      have HU2 := Lib.hid (fun y : Over W => over_call (HU.out y.w (hWd.trans (y.below.mono hWd.size))))
      clear hW d0 d1 d2 x0 x1 x2 x3 x4 x5 y0 y1 y2
      refine wp_region_over (by kernel_rfl) (by kernel_rfl) ?_
      repeat (go_big_quiet_step (first | (go_at_call 19; exact HI2.out _) | (go_at_call 50; exact HU2.out _)))
      refine wpQuiet_nil ?_
      rintro _ ⟨y, rfl⟩
      have hy := y.below
      obtain ⟨w2, hw2⟩ : ∃ w2, y.w = w2 := ⟨_, rfl⟩
      rw [hw2] at hy ⊢
      clear hw2
      have hb2 := HB0.out.trans (hy.mono HB0.out.size)
      clear hy
      go_wp2_with fail
      go_ret
      exact ⟨by rw [HNo.out]; rfl, hb2⟩
    | true =>
      rw [qu] at HU
      obtain ⟨b2, off2, cy, rfl, hb2, hcy, e0, e1, e2⟩ := hC.get htn
      have HP := Lib.hid (show portsB cs x = ((m : Int) == cy.ports) by
        unfold portsB
        rw [HTt.out, Int.toNat_natCast, hcy, HLen.out])
      have HSeat := Lib.hid (show seatB cs b k x = true by unfold seatB; rw [HCl.out, qc, qu]; rfl)
      have hbb2 := hb2
      clear hcy e0 e2
      cases qp : ((m : Int) == cy.ports) with
      | false =>
        have qp2 : ((m : Int) != cy.ports) = true := by rw [bne, qp]; rfl
        have HNo := Lib.hid (show nodeB cs b k x = false by unfold nodeB; rw [HP.out, qp]; simp)
        go_enter Tryz.func49, Tryz.ntmps49
        go_wp2_with fail
        obtain ⟨W, hW⟩ : ∃ W, ((w.alloc (.cells #[.int .i64 b.roots, .slice (some ⟨b1, off1, none⟩) n1 c1, v2, .int .i64 b.edges, .slice A4 n4 c4, v5] 31)).alloc (.cells #[.int .i64 (t : Int), .int .i64 x.parent, .slice L m cap] 96)) = W := ⟨_, rfl⟩
        rw [hW] at HBox HX3 HB0 HSz ⊢
        rw [World.size_alloc] at HX3
        obtain ⟨y0, y1, y2⟩ := row3 HX3.out
        obtain ⟨x0, x1, x2, x3, x4, x5⟩ := row6 HBox.out
        simp only [six] at x0 x1 x2 x3 x4 x5
        simp at x0 x1 x2 x3 x4 x5
        have hb1W : w.heap.size + 1 < W.heap.size := by rw [HSz.out]; omega
        have hb0W : w.heap.size < W.heap.size := by omega
        have hWd : Below w0.heap.size w0 W := hb0.trans (HB0.out.mono hsz0)
        have q0 := Over.get y0 hb1W
        have q1 := Over.get y1 hb1W
        have q2 := Over.get y2 hb1W
        have z0 := Over.get x0 hb0W
        have z1 := Over.get x1 hb0W
        have z2 := Over.get x2 hb0W
        have z3 := Over.get x3 hb0W
        have z4 := Over.get x4 hb0W
        have z5 := Over.get x5 hb0W
        have HI2 := Lib.hid (fun y : Over W => over_same (HI.out y.w))
        have HU2 := Lib.hid (fun y : Over W => over_call (HU.out y.w (hWd.trans (y.below.mono hWd.size))))
        clear hW d0 d1 d2 x0 x1 x2 x3 x4 x5 y0 y1 y2
        have e1W := Over.get ((hWd.cell (p := ⟨b2, off2 + t * 3 + 1, none⟩) hbb2).trans e1) (Nat.lt_of_lt_of_le hbb2 hWd.size)
        clear e1
        refine wp_region_over (by kernel_rfl) (by kernel_rfl) ?_
        repeat (go_big_quiet_step (first | (go_at_call 19; exact HI2.out _) | (go_at_call 50; exact HU2.out _)))
        refine wpQuiet_nil ?_
        rintro _ ⟨y, rfl⟩
        have hy := y.below
        obtain ⟨w2, hw2⟩ : ∃ w2, y.w = w2 := ⟨_, rfl⟩
        rw [hw2] at hy ⊢
        clear hw2
        have hb2 := HB0.out.trans (hy.mono HB0.out.size)
        clear hy
        go_wp2_with fail
        go_ret
        exact ⟨by rw [HNo.out]; rfl, hb2⟩
      | true =>
        have qp2 : ((m : Int) != cy.ports) = false := by rw [bne, qp]; rfl
        go_enter Tryz.func49, Tryz.ntmps49
        go_wp2_with fail
        obtain ⟨W, hW⟩ : ∃ W, ((w.alloc (.cells #[.int .i64 b.roots, .slice (some ⟨b1, off1, none⟩) n1 c1, v2, .int .i64 b.edges, .slice A4 n4 c4, v5] 31)).alloc (.cells #[.int .i64 (t : Int), .int .i64 x.parent, .slice L m cap] 96)) = W := ⟨_, rfl⟩
        rw [hW] at HBox HX3 HB0 HSz ⊢
        rw [World.size_alloc] at HX3
        obtain ⟨y0, y1, y2⟩ := row3 HX3.out
        obtain ⟨x0, x1, x2, x3, x4, x5⟩ := row6 HBox.out
        simp only [six] at x0 x1 x2 x3 x4 x5
        simp at x0 x1 x2 x3 x4 x5
        have hb1W : w.heap.size + 1 < W.heap.size := by rw [HSz.out]; omega
        have hb0W : w.heap.size < W.heap.size := by omega
        have hWd : Below w0.heap.size w0 W := hb0.trans (HB0.out.mono hsz0)
        have q0 := Over.get y0 hb1W
        have q1 := Over.get y1 hb1W
        have q2 := Over.get y2 hb1W
        have z0 := Over.get x0 hb0W
        have z1 := Over.get x1 hb0W
        have z2 := Over.get x2 hb0W
        have z3 := Over.get x3 hb0W
        have z4 := Over.get x4 hb0W
        have z5 := Over.get x5 hb0W
        have HI2 := Lib.hid (fun y : Over W => over_same (HI.out y.w))
        have HU2 := Lib.hid (fun y : Over W => over_call (HU.out y.w (hWd.trans (y.below.mono hWd.size))))
        clear hW d0 d1 d2 x0 x1 x2 x3 x4 x5 y0 y1 y2
        have e1W := Over.get ((hWd.cell (p := ⟨b2, off2 + t * 3 + 1, none⟩) hbb2).trans e1) (Nat.lt_of_lt_of_le hbb2 hWd.size)
        clear e1
        refine wp_region_over (by kernel_rfl) (by kernel_rfl) ?_
        repeat (go_big_quiet_step (first | (go_at_call 19; exact HI2.out _) | (go_at_call 50; exact HU2.out _)))
        refine wpQuiet_nil ?_
        rintro _ ⟨y, rfl⟩
        have hy := y.below
        obtain ⟨w2, hw2⟩ : ∃ w2, y.w = w2 := ⟨_, rfl⟩
        rw [hw2] at hy ⊢
        clear hw2
        have hb2 := HB0.out.trans (hy.mono HB0.out.size)
        have HWy := Lib.hid hy
        have HWd := Lib.hid hWd
        have HNd := Lib.hid (show nodeB cs b k x = x.links.all (linkB b) by unfold nodeB; rw [HSeat.out, HP.out, qp]; rfl)
        have HIn := Lib.hid hi
        have hbW0 : w0.heap.size ≤ W.heap.size := hWd.size
        clear hy hWd hi q0 q1 q2 z0 z1 z2 z3 z4 z5 e1W qp qp2 hbb2 hb1 hb2
        go_wp2_with fail
        go_loopw [8] (fun i wr => ∃ j : Nat, j ≤ m ∧ i = .int .i64 j ∧ (∀ (j' : Nat) l, j' < j → x.links[j']? = some l → linkB b l = true) ∧ Below W.heap.size W wr) (fun i _ => m - (intOf i).toNat)
        case atStart => exact ⟨0, Nat.zero_le _, rfl, fun j l hj => absurd hj (Nat.not_lt_zero j), HWy.out⟩
        case round =>
          obtain ⟨j, hj, rfl, hlk, hbel⟩ := hrel
          have HLk := Lib.hid hlk
          obtain ⟨p0, p1, p2⟩ := row3 (HX3.out.of_block (hbel.block _ hb1W))
          obtain ⟨r0, r1, r2, r3, r4, r5⟩ := row6 (HBox.out.of_block (hbel.block _ hb0W))
          simp only [six] at r0 r1 r2 r3 r4 r5
          simp at r0 r1 r2 r3 r4 r5
          have hsr := hbel.size
          have HB := Lib.hid (HB0.out.trans (hbel.mono HB0.out.size))
          have HBel := Lib.hid hbel
          have HWr := Lib.hid (HWd.out.trans (hbel.mono hbW0))
          clear hlk hbel
          by_cases hlt : j < m
          · obtain ⟨bl, offl, l, rfl, hbl, hl, cl⟩ := HIn.out.get hlt
            have cl2 := (HWr.out.cell (p := ⟨bl, offl + j, none⟩) hbl).trans cl
            have HLl := Lib.hid hl
            have hblr : bl < wr.heap.size := by omega
            have g0 := Over.get p0 (show w.heap.size + 1 < wr.heap.size by omega)
            have g1 := Over.get p1 (show w.heap.size + 1 < wr.heap.size by omega)
            have g2 := Over.get p2 (show w.heap.size + 1 < wr.heap.size by omega)
            have s0 := Over.get r0 (show w.heap.size < wr.heap.size by omega)
            have s1 := Over.get r1 (show w.heap.size < wr.heap.size by omega)
            have s2 := Over.get r2 (show w.heap.size < wr.heap.size by omega)
            have s3 := Over.get r3 (show w.heap.size < wr.heap.size by omega)
            have s4 := Over.get r4 (show w.heap.size < wr.heap.size by omega)
            have s5 := Over.get r5 (show w.heap.size < wr.heap.size by omega)
            have sl := Over.get cl2 hblr
            have hLB : linkB b l = inb l 0 (b.edges + n4 - 1) := by unfold linkB; rw [h4']
            cases ql : inb l 0 (b.edges + n4 - 1) with
            | false =>
              have HK := Lib.hid (fun y : Over wr => over_call (ql ▸ lk_any (.int .i64 b.roots) (.slice (some ⟨b1, off1, none⟩) n1 c1) v2 v5 b.edges l A4 n4 c4 y.w hE h4))
              have HNo := Lib.hid (links_bad HLl.out (show linkB b l = false by rw [hLB]; exact ql))
              clear hl cl cl2 hLB ql
              go_wp2_with fail
              clear p0 p1 p2 r0 r1 r2 r3 r4 r5
              refine wp_region_over (by kernel_rfl) (by kernel_rfl) ?_
              repeat (go_big_quiet_step ((go_at_call 51; exact HK.out _)))
              refine wpQuiet_nil ?_
              rintro _ ⟨y, rfl⟩
              have hy := y.below
              obtain ⟨w5, hw5⟩ : ∃ w5, y.w = w5 := ⟨_, rfl⟩
              rw [hw5] at hy ⊢
              clear hw5 g0 g1 g2 s0 s1 s2 s3 s4 s5 sl
              go_wp2_with fail
              go_ret
              exact ⟨by rw [HNd.out, HNo.out]; rfl, HB.out.trans (hy.mono HB.out.size)⟩
            | true =>
              have HK := Lib.hid (fun y : Over wr => over_call (ql ▸ lk_any (.int .i64 b.roots) (.slice (some ⟨b1, off1, none⟩) n1 c1) v2 v5 b.edges l A4 n4 c4 y.w hE h4))
              have HYes := Lib.hid (show linkB b l = true by rw [hLB]; exact ql)
              clear hl cl cl2 hLB ql
              go_wp2_with fail
              clear p0 p1 p2 r0 r1 r2 r3 r4 r5
              refine wp_region_over (by kernel_rfl) (by kernel_rfl) ?_
              repeat (go_big_quiet_step ((go_at_call 51; exact HK.out _)))
              refine wpQuiet_nil ?_
              rintro _ ⟨y, rfl⟩
              have hy := y.below
              obtain ⟨w5, hw5⟩ : ∃ w5, y.w = w5 := ⟨_, rfl⟩
              rw [hw5] at hy ⊢
              clear hw5 g0 g1 g2 s0 s1 s2 s3 s4 s5 sl
              have HW5 := Lib.hid (HBel.out.trans (hy.mono hsr))
              clear hy
              go_wp2_with fail
              go_roundw
              case rel => exact ⟨j + 1, by omega, by go_num, fun j' l' hj' hl' => by
                by_cases e : j' = j
                · subst e; rw [HLl.out] at hl'; injection hl' with e; subst e; exact HYes.out
                · exact HLk.out j' l' (by omega) hl', HW5.out⟩
              case measure => simp [intOf]; omega
          · obtain rfl : j = m := by omega
            have HAll := Lib.hid (links_all HLk.out (by rw [HLen.out]; exact Nat.le_refl _))
            go_wp2_with fail
            go_ret
            exact ⟨by rw [HNd.out, HAll.out]; rfl, HB.out⟩
end Go.Proofs.YtlpgldejmdiceabGreat.gn
end

section
namespace Go.Proofs.YtlpgldejmdiceabGreat.gd
open kit bg sg sig only un hb opn over gn nm inn ht
open Go.RowKit
set_option linter.unusedVariables false

theorem sizes_of {b : Big} (h : sizesB b = true) : (0 ≤ b.roots ∧ b.roots ≤ 4) ∧ (0 ≤ b.edges ∧ b.edges ≤ 8) ∧ b.nodes.length ≤ 8 ∧ b.sites.length ≤ 4 ∧ b.outer.length ≤ 16 ∧ b.inner.length ≤ 16 := by
  unfold sizesB at h
  simp only [Bool.and_eq_true, decide_eq_true_eq] at h
  obtain ⟨⟨⟨⟨⟨h1, h2⟩, h3⟩, h4⟩, h5⟩, h6⟩ := h
  exact ⟨inb_true h1, inb_true h2, h3, h4, h5, h6⟩
theorem sizes_mk {b : Big} (h1 : 0 ≤ b.roots ∧ b.roots ≤ 4) (h2 : 0 ≤ b.edges ∧ b.edges ≤ 8) (h3 : b.nodes.length ≤ 8) (h4 : b.sites.length ≤ 4) (h5 : b.outer.length ≤ 16) (h6 : b.inner.length ≤ 16) : sizesB b = true := by
  unfold sizesB
  simp only [Bool.and_eq_true, decide_eq_true_eq]
  exact ⟨⟨⟨⟨⟨inb_mk h1, inb_mk h2⟩, h3⟩, h4⟩, h5⟩, h6⟩
theorem bad_sig {cs : List Ctl} {b : Big} (h : sigB cs = false) : bigB cs b = false := big_false (fun hp => by rw [sig_true hp.1] at h; cases h)
theorem bad_size {cs : List Ctl} {b : Big} (h : ¬ ((0 ≤ b.roots ∧ b.roots ≤ 4) ∧ (0 ≤ b.edges ∧ b.edges ≤ 8) ∧ b.nodes.length ≤ 8 ∧ b.sites.length ≤ 4 ∧ b.outer.length ≤ 16 ∧ b.inner.length ≤ 16)) : bigB cs b = false :=
  big_false (fun hp => h (sizes_of hp.2.1))
theorem bad_outer {cs : List Ctl} {b : Big} (h : namesB b.outer = false) : bigB cs b = false := big_false (fun hp => by rw [names_true hp.2.2.1] at h; cases h)
theorem bad_inner {cs : List Ctl} {b : Big} (h : namesB (nms b.inner) = false) : bigB cs b = false := big_false (fun hp => by have := names_true hp.2.2.2.1; unfold nms at h; rw [this] at h; cases h)
theorem bad_node {cs : List Ctl} {b : Big} {k : Nat} {x : Nd} (hx : b.nodes[k]? = some x) (h : nodeB cs b k x = false) : bigB cs b = false :=
  big_false (fun hp => by
    obtain ⟨h1, h2, h3⟩ := hp.2.2.2.2.1 k x hx
    unfold nodeB at h
    rw [h1, h2, links_all (fun i l _ hl => h3 i l hl) (Nat.le_refl _)] at h
    cases h)
theorem bad_site {cs : List Ctl} {b : Big} {i : Nat} {p : Int} (hp : b.sites[i]? = some p) (h : underB cs b p b.nodes.length = false) : bigB cs b = false :=
  big_false (fun hp' => by rw [hp'.2.2.2.2.2.1 i p hp] at h; cases h)
theorem bad_wire {cs : List Ctl} {b : Big} {i : Nat} {x : Wr} (hx : b.inner[i]? = some x) (h : linkB b x.link = false) : bigB cs b = false :=
  big_false (fun hp' => by rw [hp'.2.2.2.2.2.2 i x hx] at h; cases h)
theorem good_all {cs : List Ctl} {b : Big} (h1 : sigB cs = true) (h2 : (0 ≤ b.roots ∧ b.roots ≤ 4) ∧ (0 ≤ b.edges ∧ b.edges ≤ 8) ∧ b.nodes.length ≤ 8 ∧ b.sites.length ≤ 4 ∧ b.outer.length ≤ 16 ∧ b.inner.length ≤ 16) (h3 : namesB b.outer = true) (h4 : namesB (nms b.inner) = true)
    (h5 : ∀ (k : Nat) x, b.nodes[k]? = some x → nodeB cs b k x = true) (h6 : ∀ (i : Nat) p, b.sites[i]? = some p → underB cs b p b.nodes.length = true) (h7 : ∀ (i : Nat) x, b.inner[i]? = some x → linkB b x.link = true) : bigB cs b = true := by
  obtain ⟨a1, a2, a3, a4, a5, a6⟩ := h2
  refine big_true ⟨sig_of h1, sizes_mk a1 a2 a3 a4 a5 a6, names_of h3, names_of h4, fun k x hx => ?_, h6, h7⟩
  have := h5 k x hx
  unfold nodeB at this
  simp only [Bool.and_eq_true] at this
  obtain ⟨⟨q1, q2⟩, q3⟩ := this
  exact ⟨q1, q2, fun i l hl => List.all_eq_true.1 q3 l (List.mem_of_getElem? hl)⟩
theorem ctrl_of {cs : List Ctl} {b : Big} {m : Nat} (h : ∀ (j : Nat) x, j < m → b.nodes[j]? = some x → nodeB cs b j x = true) : Ctrl cs b.nodes m := fun j x hj hx => by
  have := h j x hj hx
  unfold nodeB seatB at this
  simp only [Bool.and_eq_true] at this
  exact this.1.1.1

set_option maxRecDepth 100000 in
set_option maxHeartbeats 6400000 in
theorem l2Good_any (A : Option Addr) (n c : Nat) (cs : List Ctl) (v : Value) (b : Big) (w : World) (hC : CtlsAt w w.heap.size A n cs) (hv : BigAt w w.heap.size v b) (hn : n ≤ 1048576) (hs : ∀ c ∈ cs, c.name.size ≤ 1048576) (hS : BigS b) (hw : BigW b) :
    Calls Tryz.prog 20 #[.slice A n c, v] w (Post (bigB cs b) w) := by
  obtain ⟨A1, n1, c1, A2, n2, c2, A4, n4, c4, A5, n5, c5, rfl, h1, h2, h4, h5⟩ := hv
  obtain ⟨s1, -, s2, s4, ss4, s5, ss5⟩ := hS
  obtain ⟨hwr, hwe, -, hwn, -, hws, -, -, -, hwi⟩ := hw
  have l1 := h1.1
  have l2 := h2.len
  have l4 := h4.strlen
  have l5 := h5.1
  have HL := Lib.hid (And.intro l1 (And.intro l2 (And.intro l4 l5)))
  have m1 : n1 ≤ 1048576 := by omega
  have m2 : n2 ≤ 1048576 := by omega
  have m4 : n4 ≤ 1048576 := by omega
  have m5 : n5 ≤ 1048576 := by omega
  have HSs := Lib.hid ss4
  have HSi := Lib.hid (show ∀ s ∈ nms b.inner, s.size ≤ 1048576 from fun s hs => by
    unfold nms at hs
    obtain ⟨x, hx, rfl⟩ := List.mem_map.1 hs
    exact ss5 x hx)
  have HWn := Lib.hid hwn
  have HWs := Lib.hid hws
  have HWi := Lib.hid hwi
  have HBox := Lib.hid (six_new w (.int .i64 b.roots) (.slice A1 n1 c1) (.slice A2 n2 c2) (.int .i64 b.edges) (.slice A4 n4 c4) (.slice A5 n5 c5) 31)
  have HB0 := Lib.hid ((Below.refl w.heap.size w).alloc (Nat.le_refl _) (.cells #[.int .i64 b.roots, .slice A1 n1 c1, .slice A2 n2 c2, .int .i64 b.edges, .slice A4 n4 c4, .slice A5 n5 c5] 31))
  have HNl := Lib.hid (show (nms b.inner).length = n5 by unfold nms; rw [List.length_map]; exact l5)
  clear l1 l2 l4 l5 s1 s2 s4 ss4 s5 ss5 hwr hwe hwn hws hwi
  obtain ⟨g, hg⟩ : ∃ g, bigB cs b = g := ⟨_, rfl⟩
  rw [hg]
  have HG := Lib.hid hg
  have HCS := Lib.hid (fun W h => l2Sig_any A n c cs W w.heap.size h hn hs)
  clear hg hs
  cases qs : sigB cs with
  | false =>
    rw [qs] at HCS
    have HNo := Lib.hid (HG.out.symm.trans (bad_sig qs))
    go_enter Tryz.func20, Tryz.ntmps20
    go_wp2_with fail
    refine (HCS.out _ (hC.below HB0.out)).mono ?_
    rintro e w1 ⟨rfl, hb⟩
    have hb1 := HB0.out.trans (hb.mono HB0.out.size)
    clear hb
    go_wp2_with fail
    go_ret
    exact ⟨by rw [HNo.out]; rfl, hb1⟩
  | true =>
    rw [qs] at HCS
    have HQs := Lib.hid qs
    clear qs
    cases q1 : inb b.roots 0 4 with
    | false =>
      have HNo := Lib.hid (HG.out.symm.trans (bad_size (fun h => inb_false q1 h.1)))
      go_enter Tryz.func20, Tryz.ntmps20
      go_wp2_with fail
      refine (HCS.out _ (hC.below HB0.out)).mono ?_
      rintro e w1 ⟨rfl, hb⟩
      have hb1 := HB0.out.trans (hb.mono HB0.out.size)
      obtain ⟨x0, x1, x2, x3, x4, x5⟩ := row6 (HBox.out.of_block (hb.block w.heap.size (by simp)))
      simp only [six] at x0 x1 x2 x3 x4 x5
      simp at x0 x1 x2 x3 x4 x5
      clear hb
      go_wp2_with (go_at_call 19; refine (in_any _ _ _ _).mono ?_; rintro e w' ⟨rfl, rfl⟩)
      go_ret
      exact ⟨by rw [HNo.out]; rfl, hb1⟩
    | true =>
      by_cases q2 : n1 ≤ 8
      · by_cases q3 : n2 ≤ 4
        · cases q4 : inb b.edges 0 8 with
          | false =>
            have HNo := Lib.hid (HG.out.symm.trans (bad_size (fun h => inb_false q4 h.2.1)))
            go_enter Tryz.func20, Tryz.ntmps20
            go_wp2_with fail
            refine (HCS.out _ (hC.below HB0.out)).mono ?_
            rintro e w1 ⟨rfl, hb⟩
            have hb1 := HB0.out.trans (hb.mono HB0.out.size)
            obtain ⟨x0, x1, x2, x3, x4, x5⟩ := row6 (HBox.out.of_block (hb.block w.heap.size (by simp)))
            simp only [six] at x0 x1 x2 x3 x4 x5
            simp at x0 x1 x2 x3 x4 x5
            clear hb
            go_wp2_with (go_at_call 19; refine (in_any _ _ _ _).mono ?_; rintro e w' ⟨rfl, rfl⟩)
            go_ret
            exact ⟨by rw [HNo.out]; rfl, hb1⟩
          | true =>
            have HQ1 := Lib.hid (inb_true q1)
            have HQ4 := Lib.hid (inb_true q4)
            go_enter Tryz.func20, Tryz.ntmps20
            go_wp2_with fail
            refine (HCS.out _ (hC.below HB0.out)).mono ?_
            rintro e w1 ⟨rfl, hb⟩
            have hb1 := HB0.out.trans (hb.mono HB0.out.size)
            have HBox1 := Lib.hid (HBox.out.of_block (hb.block w.heap.size (by simp)))
            obtain ⟨x0, x1, x2, x3, x4, x5⟩ := row6 HBox1.out
            simp only [six] at x0 x1 x2 x3 x4 x5
            simp at x0 x1 x2 x3 x4 x5
            clear hb
            go_wp2_with (go_at_call 19; refine (in_any _ _ _ _).mono ?_; rintro e w' ⟨rfl, rfl⟩)
            clear x0 x1 x2 x3 x4 x5 q1 q4
            have CN := l2Names_any A4 n4 c4 b.outer w1 w.heap.size (h4.below hb1) m4 HSs.out
            cases qo : (namesB b.outer && decide ((n4 : Int) ≤ 16)) with
            | false =>
              rw [qo] at CN
              have HNo : Hid (g = false) := by
                cases qn : namesB b.outer with
                | false => exact Lib.hid (HG.out.symm.trans (bad_outer qn))
                | true =>
                  rw [qn] at qo
                  have : ¬ (n4 : Int) ≤ 16 := by simpa using qo
                  exact Lib.hid (HG.out.symm.trans (bad_size (fun h => by have := h.2.2.2.2.1; have := HL.out.2.2.1; omega)))
              clear qo
              refine CN.mono ?_
              rintro e w2 ⟨rfl, hb⟩
              have hb2 := hb1.trans (hb.mono hb1.size)
              clear hb
              go_wp2_with fail
              go_ret
              exact ⟨by rw [HNo.out]; rfl, hb2⟩
            | true =>
              rw [qo] at CN
              simp only [Bool.and_eq_true, decide_eq_true_eq] at qo
              obtain ⟨qo1, qo2⟩ := qo
              have HO1 := Lib.hid qo1
              have p4 : n4 ≤ 16 := by omega
              clear qo1 qo2
              refine CN.mono ?_
              rintro e w2 ⟨rfl, hb⟩
              have hb2 := hb1.trans (hb.mono hb1.size)
              have HBox2 := Lib.hid (HBox1.out.of_block (hb.block w.heap.size HBox1.out.lt))
              clear hb CN
              obtain ⟨x0, x1, x2, x3, x4, x5⟩ := row6 HBox2.out
              simp only [six] at x0 x1 x2 x3 x4 x5
              simp at x0 x1 x2 x3 x4 x5
              by_cases q5 : n5 ≤ 16
              · go_wp2_with fail
                refine (l2Inner_any _ _ _ _ _ A5 n5 c5 b.inner w w2 h5 hb2 m5).mono ?_
                rintro e w3 ⟨v3, rfl, ho3, hb⟩
                have hb3 := hb2.trans (hb.mono hb2.size)
                have HBox3 := Lib.hid (HBox2.out.of_block (hb.block w.heap.size HBox2.out.lt))
                obtain ⟨g3, cap3, rfl, hg3, hg3', hc3, hs3⟩ := ho3.at
                have hlen3 : ((nms b.inner).map Value.string).length = n5 := by rw [List.length_map]; exact HNl.out
                rw [hlen3] at hs3 ⊢
                clear hb ho3 x0 x1 x2 x3 x4 x5
                go_wp2_with fail
                have CM := l2Names_any (some ⟨g3, 0, none⟩) n5 cap3 (nms b.inner) w3 w3.heap.size hs3 m5 HSi.out
                cases qn : (namesB (nms b.inner) && decide ((n5 : Int) ≤ 16)) with
                | false =>
                  rw [qn] at CM
                  have HNo : Hid (g = false) := by
                    cases qn2 : namesB (nms b.inner) with
                    | false => exact Lib.hid (HG.out.symm.trans (bad_inner qn2))
                    | true =>
                      rw [qn2] at qn
                      have : ¬ (n5 : Int) ≤ 16 := by simpa using qn
                      exact absurd (show (n5 : Int) ≤ 16 by omega) this
                  clear qn
                  refine CM.mono ?_
                  rintro e w4 ⟨rfl, hb⟩
                  have hb4 := hb3.trans (hb.mono hb3.size)
                  clear hb
                  go_wp2_with fail
                  go_ret
                  exact ⟨by rw [HNo.out]; rfl, hb4⟩
                | true =>
                  rw [qn] at CM
                  simp only [Bool.and_eq_true, decide_eq_true_eq] at qn
                  obtain ⟨qn1, -⟩ := qn
                  have HN1 := Lib.hid qn1
                  clear qn1
                  refine CM.mono ?_
                  rintro e w4 ⟨rfl, hb⟩
                  have hb4 := hb3.trans (hb.mono hb3.size)
                  have HBox4 := Lib.hid (HBox3.out.of_block (hb.block w.heap.size HBox3.out.lt))
                  have hW4 := HBox4.out.lt
                  clear hb CM hs3 hg3 hg3'
                  go_wp2_with fail
                  go_loopw [5] (fun i wr => ∃ j : Nat, j ≤ n1 ∧ i = .int .i64 j ∧ (∀ (j' : Nat) x, j' < j → b.nodes[j']? = some x → nodeB cs b j' x = true) ∧ Below w4.heap.size w4 wr) (fun i _ => n1 - (intOf i).toNat)
                  case atStart => exact ⟨0, Nat.zero_le _, rfl, fun j x hj => absurd hj (Nat.not_lt_zero j), Below.refl _ _⟩
                  case round =>
                    obtain ⟨j, hj, rfl, hnd, hbel⟩ := hrel
                    have HNd := Lib.hid hnd
                    have hbw := hb4.trans (hbel.mono hb4.size)
                    have HBel := Lib.hid hbel
                    clear hnd hbel
                    obtain ⟨x0, x1, x2, x3, x4, x5⟩ := row6 (HBox4.out.of_block (HBel.out.block w.heap.size hW4))
                    simp only [six] at x0 x1 x2 x3 x4 x5
                    simp at x0 x1 x2 x3 x4 x5
                    by_cases hlt : j < n1
                    · have hx : b.nodes[j]? = some (b.nodes[j]'(by have := HL.out.1; omega)) := List.getElem?_eq_getElem _
                      obtain ⟨x, hxe⟩ : ∃ x, b.nodes[j]'(by have := HL.out.1; omega) = x := ⟨_, rfl⟩
                      rw [hxe] at hx
                      have CX := l2Node_any A n c cs A1 n1 c1 (.slice A2 n2 c2) (.slice A5 n5 c5) A4 n4 c4 b j x w wr hC h1 hbw HQ1.out HQ4.out p4 HL.out.2.2.1 q2 hn hlt (ctrl_of HNd.out) hx (HWn.out x (List.mem_of_getElem? hx))
                      have HX := Lib.hid hx
                      clear hx hxe
                      cases qx : nodeB cs b j x with
                      | false =>
                        rw [qx] at CX
                        have HNo := Lib.hid (HG.out.symm.trans (bad_node HX.out qx))
                        clear qx
                        go_wp2_with fail
                        refine CX.mono ?_
                        rintro e w6 ⟨rfl, hb⟩
                        have hb6 := hbw.trans (hb.mono hbw.size)
                        clear hb CX x0 x1 x2 x3 x4 x5
                        go_wp2_with fail
                        go_ret
                        exact ⟨by rw [HNo.out]; rfl, hb6⟩
                      | true =>
                        rw [qx] at CX
                        have HYes := Lib.hid qx
                        clear qx
                        go_wp2_with fail
                        refine CX.mono ?_
                        rintro e w6 ⟨rfl, hb⟩
                        have HB6 := Lib.hid (HBel.out.trans (hb.mono HBel.out.size))
                        clear hb CX x0 x1 x2 x3 x4 x5
                        go_wp2_with fail
                        go_roundw
                        case rel => exact ⟨j + 1, by omega, by go_num, fun j' x' hj' hx' => by
                          by_cases e : j' = j
                          · subst e; rw [HX.out] at hx'; injection hx' with e; subst e; exact HYes.out
                          · exact HNd.out j' x' (by omega) hx', HB6.out⟩
                        case measure => simp [intOf]; omega
                    · obtain rfl : n1 = j := by omega
                      have HCt := Lib.hid (ctrl_of HNd.out)
                      have hW6 := (HBox4.out.of_block (HBel.out.block w.heap.size hW4)).lt
                      obtain ⟨w7, hw7⟩ : ∃ w7, wr = w7 := ⟨_, rfl⟩
                      rw [hw7] at hbw hW6 HBel ⊢
                      clear hw7 x0 x1 x2 x3 x4 x5
                      have HBox7 := Lib.hid (HBox4.out.of_block (HBel.out.block w.heap.size hW4))
                      obtain ⟨x0, x1, x2, x3, x4, x5⟩ := row6 HBox7.out
                      simp only [six] at x0 x1 x2 x3 x4 x5
                      simp at x0 x1 x2 x3 x4 x5
                      go_wp2_with fail
                      clear x0 x1 x2 x3 x4 x5
                      go_loopw [6] (fun i wr => ∃ j : Nat, j ≤ n2 ∧ i = .int .i64 j ∧ (∀ (j' : Nat) p, j' < j → b.sites[j']? = some p → underB cs b p n1 = true) ∧ Below w7.heap.size w7 wr) (fun i _ => n2 - (intOf i).toNat)
                      case atStart => exact ⟨0, Nat.zero_le _, rfl, fun j x hj => absurd hj (Nat.not_lt_zero j), Below.refl _ _⟩
                      case round =>
                        obtain ⟨j, hj, rfl, hnd2, hbel⟩ := hrel
                        have HS2 := Lib.hid hnd2
                        have hbw2 := hbw.trans (hbel.mono hbw.size)
                        have HBel2 := Lib.hid hbel
                        obtain ⟨x0, x1, x2, x3, x4, x5⟩ := row6 (HBox7.out.of_block (hbel.block w.heap.size hW6))
                        simp only [six] at x0 x1 x2 x3 x4 x5
                        simp at x0 x1 x2 x3 x4 x5
                        have hWr := (HBox7.out.of_block (hbel.block w.heap.size hW6)).lt
                        clear hnd2 hbel
                        by_cases hlt : j < n2
                        · obtain ⟨bs, offs, p, rfl, hbs, hp, cp⟩ := h2.get hlt
                          have cp2 := (hbw2.cell (p := ⟨bs, offs + j, none⟩) hbs).trans cp
                          have CU := fun y : Over wr => under_any A n c cs A1 n1 c1 (.slice (some ⟨bs, offs, none⟩) n2 c2) (.int .i64 b.edges) (.slice A4 n4 c4) (.slice A5 n5 c5) b p n1 w y.w hC h1 (hbw2.trans (y.below.mono hbw2.size)) HQ1.out q2 hn (Nat.le_refl _) HCt.out (HWs.out p (List.mem_of_getElem? hp))
                          have HP := Lib.hid hp
                          have hbsr : bs < wr.heap.size := Nat.lt_of_lt_of_le hbs hbw2.size
                          have s0 := Over.get x0 hWr
                          have s1 := Over.get x1 hWr
                          have s2 := Over.get x2 hWr
                          have s3 := Over.get x3 hWr
                          have s4 := Over.get x4 hWr
                          have s5 := Over.get x5 hWr
                          have sp := Over.get cp2 hbsr
                          clear hp cp cp2
                          cases qu : underB cs b p n1 with
                          | false =>
                            rw [qu] at CU
                            have HK := Lib.hid (fun y => over_call (CU y))
                            have HNo := Lib.hid (HG.out.symm.trans (bad_site HP.out (by rw [HL.out.1]; exact qu)))
                            clear qu CU
                            go_wp2_with fail
                            clear x0 x1 x2 x3 x4 x5
                            refine wp_region_over (by kernel_rfl) (by kernel_rfl) ?_
                            repeat (go_big_quiet_step ((go_at_call 50; exact HK.out _)))
                            refine wpQuiet_nil ?_
                            rintro _ ⟨y, rfl⟩
                            have hy := y.below
                            obtain ⟨w9, hw9⟩ : ∃ w9, y.w = w9 := ⟨_, rfl⟩
                            rw [hw9] at hy ⊢
                            clear hw9 s0 s1 s2 s3 s4 s5 sp
                            have hb9 := hbw2.trans (hy.mono hbw2.size)
                            clear hy
                            go_wp2_with fail
                            go_ret
                            exact ⟨by rw [HNo.out]; rfl, hb9⟩
                          | true =>
                            rw [qu] at CU
                            have HK := Lib.hid (fun y => over_call (CU y))
                            have HYes := Lib.hid qu
                            clear qu CU
                            go_wp2_with fail
                            clear x0 x1 x2 x3 x4 x5
                            refine wp_region_over (by kernel_rfl) (by kernel_rfl) ?_
                            repeat (go_big_quiet_step ((go_at_call 50; exact HK.out _)))
                            refine wpQuiet_nil ?_
                            rintro _ ⟨y, rfl⟩
                            have hy := y.below
                            obtain ⟨w9, hw9⟩ : ∃ w9, y.w = w9 := ⟨_, rfl⟩
                            rw [hw9] at hy ⊢
                            clear hw9 s0 s1 s2 s3 s4 s5 sp
                            have HB9 := Lib.hid (HBel2.out.trans (hy.mono HBel2.out.size))
                            clear hy
                            go_wp2_with fail
                            go_roundw
                            case rel => exact ⟨j + 1, by omega, by go_num, fun j' x' hj' hx' => by
                              by_cases e : j' = j
                              · subst e; rw [HP.out] at hx'; injection hx' with e; subst e; exact HYes.out
                              · exact HS2.out j' x' (by omega) hx', HB9.out⟩
                            case measure => simp [intOf]; omega
                        · obtain rfl : n2 = j := by omega
                          obtain ⟨w8, hw8⟩ : ∃ w8, wr = w8 := ⟨_, rfl⟩
                          rw [hw8] at hbw2 hWr HBel2 x0 x1 x2 x3 x4 x5 ⊢
                          clear hw8
                          have HBox8 := Lib.hid (HBox7.out.of_block (HBel2.out.block w.heap.size hW6))
                          go_wp2_with fail
                          clear x0 x1 x2 x3 x4 x5
                          go_loopw [7] (fun i wr => ∃ j : Nat, j ≤ n5 ∧ i = .int .i64 j ∧ (∀ (j' : Nat) x, j' < j → b.inner[j']? = some x → linkB b x.link = true) ∧ Below w8.heap.size w8 wr) (fun i _ => n5 - (intOf i).toNat)
                          case atStart => exact ⟨0, Nat.zero_le _, rfl, fun j x hj => absurd hj (Nat.not_lt_zero j), Below.refl _ _⟩
                          case round =>
                            obtain ⟨j, hj, rfl, hnd3, hbel⟩ := hrel
                            have HS3 := Lib.hid hnd3
                            have hbw3 := hbw2.trans (hbel.mono hbw2.size)
                            have HBel3 := Lib.hid hbel
                            obtain ⟨x0, x1, x2, x3, x4, x5⟩ := row6 (HBox8.out.of_block (hbel.block w.heap.size hWr))
                            simp only [six] at x0 x1 x2 x3 x4 x5
                            simp at x0 x1 x2 x3 x4 x5
                            have hWr3 := (HBox8.out.of_block (hbel.block w.heap.size hWr)).lt
                            clear hnd3 hbel
                            by_cases hlt : j < n5
                            · obtain ⟨bi, offi, x, rfl, hbi, hx, cn, cl⟩ := h5.get hlt
                              have cl2 := (hbw3.cell (p := ⟨bi, offi + j * 2 + 1, none⟩) hbi).trans cl
                              have CU := fun y : Over wr => lk_any (.int .i64 b.roots) (.slice A1 n1 c1) (.slice A2 n2 c2) (.slice (some ⟨bi, offi, none⟩) n5 c5) b.edges x.link A4 n4 c4 y.w HQ4.out p4
                              have HX := Lib.hid hx
                              have hbir : bi < wr.heap.size := Nat.lt_of_lt_of_le hbi hbw3.size
                              have HLB := Lib.hid (show linkB b x.link = inb x.link 0 (b.edges + n4 - 1) by unfold linkB; rw [HL.out.2.2.1])
                              have s0 := Over.get x0 hWr3
                              have s1 := Over.get x1 hWr3
                              have s2 := Over.get x2 hWr3
                              have s3 := Over.get x3 hWr3
                              have s4 := Over.get x4 hWr3
                              have s5 := Over.get x5 hWr3
                              have sp := Over.get cl2 hbir
                              clear hx cn cl cl2
                              cases qu : inb x.link 0 (b.edges + n4 - 1) with
                              | false =>
                                rw [qu] at CU
                                have HK := Lib.hid (fun y => over_call (CU y))
                                have HNo := Lib.hid (HG.out.symm.trans (bad_wire HX.out (HLB.out.trans qu)))
                                clear qu CU
                                go_wp2_with fail
                                clear x0 x1 x2 x3 x4 x5
                                refine wp_region_over (by kernel_rfl) (by kernel_rfl) ?_
                                repeat (go_big_quiet_step ((go_at_call 51; exact HK.out _)))
                                refine wpQuiet_nil ?_
                                rintro _ ⟨y, rfl⟩
                                have hy := y.below
                                obtain ⟨w9, hw9⟩ : ∃ w9, y.w = w9 := ⟨_, rfl⟩
                                rw [hw9] at hy ⊢
                                clear hw9 s0 s1 s2 s3 s4 s5 sp
                                have hb9 := hbw3.trans (hy.mono hbw3.size)
                                clear hy
                                go_wp2_with fail
                                go_ret
                                exact ⟨by rw [HNo.out]; rfl, hb9⟩
                              | true =>
                                rw [qu] at CU
                                have HK := Lib.hid (fun y => over_call (CU y))
                                have HYes := Lib.hid (HLB.out.trans qu)
                                clear qu CU
                                go_wp2_with fail
                                clear x0 x1 x2 x3 x4 x5
                                refine wp_region_over (by kernel_rfl) (by kernel_rfl) ?_
                                repeat (go_big_quiet_step ((go_at_call 51; exact HK.out _)))
                                refine wpQuiet_nil ?_
                                rintro _ ⟨y, rfl⟩
                                have hy := y.below
                                obtain ⟨w9, hw9⟩ : ∃ w9, y.w = w9 := ⟨_, rfl⟩
                                rw [hw9] at hy ⊢
                                clear hw9 s0 s1 s2 s3 s4 s5 sp
                                have HB9 := Lib.hid (HBel3.out.trans (hy.mono HBel3.out.size))
                                clear hy
                                go_wp2_with fail
                                go_roundw
                                case rel => exact ⟨j + 1, by omega, by go_num, fun j' x' hj' hx' => by
                                  by_cases e : j' = j
                                  · subst e; rw [HX.out] at hx'; injection hx' with e; subst e; exact HYes.out
                                  · exact HS3.out j' x' (by omega) hx', HB9.out⟩
                                case measure => simp [intOf]; omega
                            · obtain rfl : n5 = j := by omega
                              have HYes := Lib.hid (HG.out.symm.trans (good_all HQs.out ⟨HQ1.out, HQ4.out, by rw [HL.out.1]; exact q2, by rw [HL.out.2.1]; exact q3, by rw [HL.out.2.2.1]; exact p4, by rw [HL.out.2.2.2]; exact q5⟩ HO1.out HN1.out
                                (fun k x hx => HNd.out k x (by have := (List.getElem?_eq_some_iff.1 hx).1; have := HL.out.1; omega) hx)
                                (fun i p hp => by rw [HL.out.1]; exact HS2.out i p (by have := (List.getElem?_eq_some_iff.1 hp).1; have := HL.out.2.1; omega) hp)
                                (fun i x hx => HS3.out i x (by have := (List.getElem?_eq_some_iff.1 hx).1; have := HL.out.2.2.2; omega) hx)))
                              go_wp2_with fail
                              go_ret
                              exact ⟨by rw [HYes.out]; rfl, hbw3⟩
              · have q5' : 16 < n5 := by omega
                have HNo := Lib.hid (HG.out.symm.trans (bad_size (fun h => by have := h.2.2.2.2.2; have := HL.out.2.2.2; omega)))
                go_wp2_with fail
                go_ret
                exact ⟨by rw [HNo.out]; rfl, hb2⟩
        · have q3' : 4 < n2 := by omega
          have HNo := Lib.hid (HG.out.symm.trans (bad_size (fun h => by have := h.2.2.2.1; have := HL.out.2.1; omega)))
          go_enter Tryz.func20, Tryz.ntmps20
          go_wp2_with fail
          refine (HCS.out _ (hC.below HB0.out)).mono ?_
          rintro e w1 ⟨rfl, hb⟩
          have hb1 := HB0.out.trans (hb.mono HB0.out.size)
          obtain ⟨x0, x1, x2, x3, x4, x5⟩ := row6 (HBox.out.of_block (hb.block w.heap.size (by simp)))
          simp only [six] at x0 x1 x2 x3 x4 x5
          simp at x0 x1 x2 x3 x4 x5
          clear hb
          go_wp2_with (go_at_call 19; refine (in_any _ _ _ _).mono ?_; rintro e w' ⟨rfl, rfl⟩)
          go_ret
          exact ⟨by rw [HNo.out]; rfl, hb1⟩
      · have q2' : 8 < n1 := by omega
        have HNo := Lib.hid (HG.out.symm.trans (bad_size (fun h => by have := h.2.2.1; have := HL.out.1; omega)))
        go_enter Tryz.func20, Tryz.ntmps20
        go_wp2_with fail
        refine (HCS.out _ (hC.below HB0.out)).mono ?_
        rintro e w1 ⟨rfl, hb⟩
        have hb1 := HB0.out.trans (hb.mono HB0.out.size)
        obtain ⟨x0, x1, x2, x3, x4, x5⟩ := row6 (HBox.out.of_block (hb.block w.heap.size (by simp)))
        simp only [six] at x0 x1 x2 x3 x4 x5
        simp at x0 x1 x2 x3 x4 x5
        clear hb
        go_wp2_with (go_at_call 19; refine (in_any _ _ _ _).mono ?_; rintro e w' ⟨rfl, rfl⟩)
        go_ret
        exact ⟨by rw [HNo.out]; rfl, hb1⟩
end Go.Proofs.YtlpgldejmdiceabGreat.gd
end
