/- toBigraph and markBigraph: a Bigraph in memory of the call's own. -/
import Derived.Test.YtifialdkjnmfoabHb
namespace Go.Proofs.Ytifialdkjnmfoab.ht
open kit bg opn only marks strs eqs hc hi hw hn hb
open Go.ChangeShapes Go.WideShapes Go.ChangeAt Go.RowKit
set_option linter.unusedVariables false

section
variable {w w' : World} {lo hi : Nat} {A : Option Addr} {n : Nat}
theorem NdsOwn_blocks {cs : List Nd} (h : NdsOwn w lo hi A n cs) (hb : ∀ k, lo ≤ k → k < hi → w'.heap[k]? = w.heap[k]?) : NdsOwn w' lo hi A n cs := by
  obtain ⟨hl, g, f, rfl, h1, h2, hr, hf⟩ := h
  refine ⟨hl, g, f, rfl, h1, h2, hr.of_block (hb g h1 h2), fun k x hk => ?_⟩
  obtain ⟨e0, e1, b, e2, hb1, hb2, hbr⟩ := hf k x hk
  exact ⟨e0, e1, b, e2, hb1, hb2, hbr.of_block (hb b (by omega) hb2)⟩
theorem WrsOwn_blocks {cs : List Wr} (h : WrsOwn w lo hi A n cs) (hb : ∀ k, lo ≤ k → k < hi → w'.heap[k]? = w.heap[k]?) : WrsOwn w' lo hi A n cs := by
  obtain ⟨hl, g, f, rfl, h1, h2, hr, hf⟩ := h
  exact ⟨hl, g, f, rfl, h1, h2, hr.of_block (hb g h1 h2), hf⟩
end

/-- a Bigraph in memory of the call's own -/
def BigOwn (w : World) (lo hi : Nat) (v : Value) (b : Big) : Prop :=
  ∃ g1 g2 g4 g5, v = .agg #[.int .i64 b.roots, .slice (some ⟨g1, 0, none⟩) b.nodes.length b.nodes.length, .slice (some ⟨g2, 0, none⟩) b.sites.length b.sites.length, .int .i64 b.edges, .slice (some ⟨g4, 0, none⟩) b.outer.length b.outer.length, .slice (some ⟨g5, 0, none⟩) b.inner.length b.inner.length] ∧
    NdsOwn w lo hi (some ⟨g1, 0, none⟩) b.nodes.length b.nodes ∧ (w.rowIs g2 3 b.sites.length (iat b.sites) ∧ lo ≤ g2 ∧ g2 < hi) ∧ (w.rowIs g4 9 b.outer.length (at_ b.outer) ∧ lo ≤ g4 ∧ g4 < hi) ∧ WrsOwn w lo hi (some ⟨g5, 0, none⟩) b.inner.length b.inner
theorem sr_at {w : World} {g B : Nat} {ss : List ByteArray} (h : w.rowIs g 9 ss.length (at_ ss)) (hB : g < B) : SR w B (some ⟨g, 0, none⟩) ss.length (ss.map Value.string) :=
  SR.of_row h hB (fun k u hu => by
    rw [List.getElem?_map] at hu
    obtain ⟨s, hs, rfl⟩ := Option.map_eq_some_iff.1 hu
    exact ⟨(List.getElem?_eq_some_iff.1 hs).1, at_of hs⟩) (by simp)
section
variable {w w' : World} {lo hi : Nat} {v : Value} {b : Big}
theorem BigOwn.at (h : BigOwn w lo hi v b) : BigAt w hi v b := by
  obtain ⟨g1, g2, g4, g5, rfl, h1, ⟨h2, l2, k2⟩, ⟨h4, l4, k4⟩, h5⟩ := h
  exact ⟨_, _, _, _, _, _, _, _, _, _, _, _, rfl, h1.at, ints_row h2 (Nat.le_refl _) k2 rfl (fun _ _ => rfl), sr_at h4 k4, h5.at⟩
theorem BigOwn.blocks (h : BigOwn w lo hi v b) (hb : ∀ k, lo ≤ k → k < hi → w'.heap[k]? = w.heap[k]?) : BigOwn w' lo hi v b := by
  obtain ⟨g1, g2, g4, g5, rfl, h1, ⟨h2, l2, k2⟩, ⟨h4, l4, k4⟩, h5⟩ := h
  exact ⟨_, _, _, _, rfl, NdsOwn_blocks h1 hb, ⟨h2.of_block (hb g2 l2 k2), l2, k2⟩, ⟨h4.of_block (hb g4 l4 k4), l4, k4⟩, WrsOwn_blocks h5 hb⟩
theorem BigOwn.below {B : Nat} (h : BigOwn w lo hi v b) (hb : Below B w w') (hB : hi ≤ B) : BigOwn w' lo hi v b := h.blocks (fun k _ hk => hb.block k (by omega))
theorem BigOwn.wide {lo' hi' : Nat} (h : BigOwn w lo hi v b) (a1 : lo' ≤ lo) (a2 : hi ≤ hi') : BigOwn w lo' hi' v b := by
  obtain ⟨g1, g2, g4, g5, rfl, h1, ⟨h2, l2, k2⟩, ⟨h4, l4, k4⟩, h5⟩ := h
  exact ⟨_, _, _, _, rfl, h1.wide a1 a2, ⟨h2, by omega, by omega⟩, ⟨h4, by omega, by omega⟩, h5.wide a1 a2⟩
end

/-- what is small enough to be copied -/
def BigS (b : Big) : Prop := b.nodes.length ≤ 1048576 ∧ (∀ x ∈ b.nodes, x.links.length ≤ 1048576) ∧ b.sites.length ≤ 1048576 ∧ b.outer.length ≤ 1048576 ∧ (∀ s ∈ b.outer, s.size ≤ 1048576) ∧ b.inner.length ≤ 1048576 ∧ ∀ x ∈ b.inner, x.name.size ≤ 1048576
theorem tot_mem {ss : List ByteArray} {s : ByteArray} (h : s ∈ ss) : s.size ≤ tot ss := by
  induction ss with
  | nil => cases h
  | cons y r ih =>
    simp only [tot]
    rcases List.mem_cons.1 h with rfl | h
    · omega
    · have := ih h; omega
theorem bigS_of {b : Big} (h : bigWt b ≤ 1048576) : BigS b := by
  unfold bigWt ndsWt wrsWt at h
  refine ⟨by omega, fun x hx => ?_, by omega, by omega, fun s hs => ?_, by omega, fun x hx => ?_⟩
  · have := sumBy_mem (fun c : Nd => c.links.length) hx; omega
  · have := tot_mem hs; omega
  · have := sumBy_mem (fun c : Wr => c.name.size) hx; omega

/-- the boxes of toBigraph: the argument at N, the result at N + 1, the variable at N + 2 -/
def Boxes (N : Nat) (fa fo : Nat → Value) (W : World) : Prop := W.rowIs N 28 6 fa ∧ (∃ fr, W.rowIs (N + 1) 34 6 fr) ∧ W.rowIs (N + 1 + 1) 34 6 fo
theorem Boxes.below {N : Nat} {fa fo : Nat → Value} {W W' : World} (h : Boxes N fa fo W) (hb : Below W.heap.size W W') : Boxes N fa fo W' := by
  obtain ⟨h1, ⟨fr, h2⟩, h3⟩ := h
  exact ⟨h1.of_block (hb.block _ h1.lt), ⟨fr, h2.of_block (hb.block _ h2.lt)⟩, h3.of_block (hb.block _ h3.lt)⟩
theorem Boxes.set {N : Nat} {fa fo : Nat → Value} {W : World} (h : Boxes N fa fo W) (k : Nat) (u : Value) : Boxes N fa (fun j => if j = k then u else fo j) (W.setCell ⟨N + 1 + 1, k, none⟩ u) := by
  obtain ⟨h1, ⟨fr, h2⟩, h3⟩ := h
  exact ⟨h1.setOther (a := ⟨N + 1 + 1, k, none⟩) (by dsimp only; omega) u, ⟨fr, h2.setOther (a := ⟨N + 1 + 1, k, none⟩) (by dsimp only; omega) u⟩, h3.set k u⟩

/-- a store into the variable, and six into the result -/
def put7 (N : Nat) (w : World) (k : Nat) (u a b c d e f : Value) : World :=
  ((((((w.setCell ⟨N + 1 + 1, k, none⟩ u).setCell ⟨N + 1, 0, none⟩ a).setCell ⟨N + 1, 1, none⟩ b).setCell ⟨N + 1, 2, none⟩ c).setCell ⟨N + 1, 3, none⟩ d).setCell ⟨N + 1, 4, none⟩ e).setCell ⟨N + 1, 5, none⟩ f
theorem last7 (N : Nat) (w : World) (k : Nat) (u a b c d e f : Value) : (∀ j, N + 3 ≤ j → (put7 N w k u a b c d e f).heap[j]? = w.heap[j]?) ∧ (put7 N w k u a b c d e f).heap.size = w.heap.size ∧ ∀ B x, Below B x w → B ≤ N → Below B x (put7 N w k u a b c d e f) := by
  refine ⟨fun j hj => ?_, by simp [put7, World.setCell], fun B x h hB => ?_⟩
  · unfold put7
    rw [Below.heap_setCell _ _ _ _ (by dsimp only; omega), Below.heap_setCell _ _ _ _ (by dsimp only; omega), Below.heap_setCell _ _ _ _ (by dsimp only; omega), Below.heap_setCell _ _ _ _ (by dsimp only; omega), Below.heap_setCell _ _ _ _ (by dsimp only; omega), Below.heap_setCell _ _ _ _ (by dsimp only; omega), Below.heap_setCell _ _ _ _ (by dsimp only; omega)]
  · unfold put7
    exact ((((((h.setCell (p := ⟨N + 1 + 1, k, none⟩) (by dsimp only; omega) u).setCell (p := ⟨N + 1, 0, none⟩) (by dsimp only; omega) a).setCell (p := ⟨N + 1, 1, none⟩) (by dsimp only; omega) b).setCell (p := ⟨N + 1, 2, none⟩) (by dsimp only; omega) c).setCell (p := ⟨N + 1, 3, none⟩) (by dsimp only; omega) d).setCell (p := ⟨N + 1, 4, none⟩) (by dsimp only; omega) e).setCell (p := ⟨N + 1, 5, none⟩) (by dsimp only; omega) f

set_option maxRecDepth 20000 in
set_option maxHeartbeats 3200000 in
theorem toB_any (v : Value) (b : Big) (w : World) (h : BigAt w w.heap.size v b) (hs : BigS b) :
    Calls Try.prog 11 #[v] w fun e w' => ∃ v', e = .returned v' ∧ BigOwn w' w.heap.size w'.heap.size v' b ∧ Below w.heap.size w w' := by
  obtain ⟨A1, n1, c1, A2, n2, c2, A4, n4, c4, A5, n5, c5, rfl, h1, h2, h4, h5⟩ := h
  obtain ⟨s1, sn, s2, s4, ss, s5, si⟩ := hs
  have l1 := h1.1
  have l2 := h2.len
  have l4 := h4.strlen
  have l5 := h5.1
  subst l1 l2 l4 l5
  have HSn := Lib.hid sn
  have HSs := Lib.hid ss
  have HSi := Lib.hid si
  clear sn ss si
  have HB0 := Lib.hid ((((Below.refl w.heap.size w).alloc (Nat.le_refl _) (.cells #[.int .i64 b.roots, .slice A1 b.nodes.length c1, .slice A2 b.sites.length c2, .int .i64 b.edges, .slice A4 b.outer.length c4, .slice A5 b.inner.length c5] 28)).alloc (by simp) (.cells #[.int .i64 0, .slice none 0 0, .slice none 0 0, .int .i64 0, .slice none 0 0, .slice none 0 0] 34)).alloc (by simp; omega) (.cells #[.int .i64 b.roots, .slice none 0 0, .slice none 0 0, .int .i64 0, .slice none 0 0, .slice none 0 0] 34))
  have HX0 : Hid (Boxes w.heap.size (six (.int .i64 b.roots) (.slice A1 b.nodes.length c1) (.slice A2 b.sites.length c2) (.int .i64 b.edges) (.slice A4 b.outer.length c4) (.slice A5 b.inner.length c5)) (six (.int .i64 b.roots) (.slice none 0 0) (.slice none 0 0) (.int .i64 0) (.slice none 0 0) (.slice none 0 0)) (((w.alloc (.cells #[.int .i64 b.roots, .slice A1 b.nodes.length c1, .slice A2 b.sites.length c2, .int .i64 b.edges, .slice A4 b.outer.length c4, .slice A5 b.inner.length c5] 28)).alloc (.cells #[.int .i64 0, .slice none 0 0, .slice none 0 0, .int .i64 0, .slice none 0 0, .slice none 0 0] 34)).alloc (.cells #[.int .i64 b.roots, .slice none 0 0, .slice none 0 0, .int .i64 0, .slice none 0 0, .slice none 0 0] 34))) := by
    refine Lib.hid ⟨((six_new w _ _ _ _ _ _ _).alloc _).alloc _, ?_, ?_⟩
    · have := (six_new (w.alloc (.cells #[.int .i64 b.roots, .slice A1 b.nodes.length c1, .slice A2 b.sites.length c2, .int .i64 b.edges, .slice A4 b.outer.length c4, .slice A5 b.inner.length c5] 28)) (.int .i64 0) (.slice none 0 0) (.slice none 0 0) (.int .i64 0) (.slice none 0 0) (.slice none 0 0) 34).alloc (.cells #[.int .i64 b.roots, .slice none 0 0, .slice none 0 0, .int .i64 0, .slice none 0 0, .slice none 0 0] 34)
      rw [World.size_alloc] at this
      exact ⟨_, this⟩
    · have := six_new ((w.alloc (.cells #[.int .i64 b.roots, .slice A1 b.nodes.length c1, .slice A2 b.sites.length c2, .int .i64 b.edges, .slice A4 b.outer.length c4, .slice A5 b.inner.length c5] 28)).alloc (.cells #[.int .i64 0, .slice none 0 0, .slice none 0 0, .int .i64 0, .slice none 0 0, .slice none 0 0] 34)) (.int .i64 b.roots) (.slice none 0 0) (.slice none 0 0) (.int .i64 0) (.slice none 0 0) (.slice none 0 0) 34
      rw [World.size_alloc, World.size_alloc] at this
      exact this
  go_enter Try.func11, Try.ntmps11
  go_wp2_with fail
  refine (toNS_any A1 b.nodes.length c1 b.nodes _ ((h1.below HB0.out).wide HB0.out.size) s1 HSn.out).mono ?_
  rintro e w1 ⟨g1, rfl, ho1, hb1⟩
  have hB1 := HB0.out.trans (hb1.mono HB0.out.size)
  have hX1 := HX0.out.below hb1
  have HO1 := Lib.hid (ho1.wide (lo' := w.heap.size + 3) (hi' := w1.heap.size) (by simp) (Nat.le_refl _))
  have hN1 : w.heap.size + 3 ≤ w1.heap.size := by have := hb1.size; simp at this; omega
  have HX1 := Lib.hid hX1
  obtain ⟨r1, ⟨fr, r2⟩, r3⟩ := hX1
  obtain ⟨x0, x1, x2, x3, x4, x5⟩ := row6 r1
  obtain ⟨z0, z1, z2, z3, z4, z5⟩ := row6 r3
  have f1 := r3.frozen 1
  simp only [six] at x0 x1 x2 x3 x4 x5 z0 z1 z2 z3 z4 z5
  simp at x0 x1 x2 x3 x4 x5 z0 z1 z2 z3 z4 z5
  clear hb1 ho1 r1 r2 r3
  have HB1' := Lib.hid (hB1.setCell (p := ⟨w.heap.size + 1 + 1, 1, none⟩) (by dsimp only; omega) (.slice (some ⟨g1, 0, none⟩) b.nodes.length b.nodes.length))
  have HX1' := Lib.hid (HX1.out.set 1 (.slice (some ⟨g1, 0, none⟩) b.nodes.length b.nodes.length))
  have HK1 := Lib.hid (fun k (hk : w.heap.size + 3 ≤ k) => Below.heap_setCell w1 ⟨w.heap.size + 1 + 1, 1, none⟩ (.slice (some ⟨g1, 0, none⟩) b.nodes.length b.nodes.length) k (by dsimp only; omega))
  have HZ1 : Hid ((w1.setCell ⟨w.heap.size + 1 + 1, 1, none⟩ (.slice (some ⟨g1, 0, none⟩) b.nodes.length b.nodes.length)).heap.size = w1.heap.size) := Lib.hid (by simp [World.setCell])
  clear hB1
  go_wp2_with fail
  refine (toIS_ex A2 _ c2 b.sites _ ((h2.below HB1'.out).wide HB1'.out.size) s2).mono ?_
  rintro e w2 ⟨g2, rfl, hg2, hg2', ho2, hb2⟩
  have hB2 := HB1'.out.trans (hb2.mono HB1'.out.size)
  have HX2 := Lib.hid (HX1'.out.below hb2)
  have HO12 := Lib.hid (((NdsOwn_blocks HO1.out (fun k hk _ => HK1.out k hk)).below hb2 (by rw [HZ1.out]; exact Nat.le_refl _)).wide (Nat.le_refl _) (show w1.heap.size ≤ w2.heap.size by have := hb2.size; rw [HZ1.out] at this; exact this))
  have hN2 : w.heap.size + 3 ≤ w2.heap.size := by have := hb2.size; rw [HZ1.out] at this; omega
  have HO2 := Lib.hid (And.intro ho2 (And.intro (show w.heap.size + 3 ≤ g2 by have := HZ1.out; omega) hg2'))
  clear hb2 ho2 x0 x1 x2 x3 x4 x5 z0 z1 z2 z3 z4 z5 f1
  obtain ⟨r1, ⟨fr, r2⟩, r3⟩ := HX2.out
  obtain ⟨x0, x1, x2, x3, x4, x5⟩ := row6 r1
  obtain ⟨z0, z1, z2, z3, z4, z5⟩ := row6 r3
  have f2 := r3.frozen 2
  have f3 := r3.frozen 3
  simp only [six] at x0 x1 x2 x3 x4 x5 z0 z1 z2 z3 z4 z5
  simp at x0 x1 x2 x3 x4 x5 z0 z1 z2 z3 z4 z5
  clear r1 r2 r3
  have HB2a := Lib.hid (hB2.setCell (p := ⟨w.heap.size + 1 + 1, 2, none⟩) (by dsimp only; omega) (.slice (some ⟨g2, 0, none⟩) b.sites.length b.sites.length))
  have HX2a := Lib.hid (HX2.out.set 2 (.slice (some ⟨g2, 0, none⟩) b.sites.length b.sites.length))
  have HB2' := Lib.hid (HB2a.out.setCell (p := ⟨w.heap.size + 1 + 1, 3, none⟩) (by dsimp only; omega) (.int .i64 b.edges))
  have HX2' := Lib.hid (HX2a.out.set 3 (.int .i64 b.edges))
  have HK2 := Lib.hid (fun k (hk : w.heap.size + 3 ≤ k) => (Below.heap_setCell (w2.setCell ⟨w.heap.size + 1 + 1, 2, none⟩ (.slice (some ⟨g2, 0, none⟩) b.sites.length b.sites.length)) ⟨w.heap.size + 1 + 1, 3, none⟩ (.int .i64 b.edges) k (by dsimp only; omega)).trans (Below.heap_setCell w2 ⟨w.heap.size + 1 + 1, 2, none⟩ (.slice (some ⟨g2, 0, none⟩) b.sites.length b.sites.length) k (by dsimp only; omega)))
  have HZ2 : Hid (((w2.setCell ⟨w.heap.size + 1 + 1, 2, none⟩ (.slice (some ⟨g2, 0, none⟩) b.sites.length b.sites.length)).setCell ⟨w.heap.size + 1 + 1, 3, none⟩ (.int .i64 b.edges)).heap.size = w2.heap.size) := Lib.hid (by simp [World.setCell])
  clear hB2
  go_wp2_with fail
  refine (to_any A4 _ c4 b.outer _ ((h4.below HB2'.out).wide HB2'.out.size) s4).mono ?_
  rintro e w4 ⟨g4, rfl, hg4, hg4', ho4, hb4⟩
  have hB4 := HB2'.out.trans (hb4.mono HB2'.out.size)
  have HX4 := Lib.hid (HX2'.out.below hb4)
  have hsz4 : w2.heap.size ≤ w4.heap.size := by have := hb4.size; rw [HZ2.out] at this; exact this
  have HO14 := Lib.hid (((NdsOwn_blocks HO12.out (fun k hk _ => HK2.out k hk)).below hb4 (by rw [HZ2.out]; exact Nat.le_refl _)).wide (Nat.le_refl _) hsz4)
  have HO24 := Lib.hid (And.intro ((HO2.out.1.of_block (HK2.out g2 HO2.out.2.1)).of_block (hb4.block g2 (by rw [HZ2.out]; exact HO2.out.2.2))) (And.intro HO2.out.2.1 (Nat.lt_of_lt_of_le HO2.out.2.2 hsz4)))
  have hN4 : w.heap.size + 3 ≤ w4.heap.size := by omega
  have HO4 := Lib.hid (And.intro ho4 (And.intro (show w.heap.size + 3 ≤ g4 by have := HZ2.out; omega) hg4'))
  clear hb4 ho4 x0 x1 x2 x3 x4 x5 z0 z1 z2 z3 z4 z5 f2 f3
  obtain ⟨r1, ⟨fr, r2⟩, r3⟩ := HX4.out
  obtain ⟨x0, x1, x2, x3, x4, x5⟩ := row6 r1
  obtain ⟨z0, z1, z2, z3, z4, z5⟩ := row6 r3
  have f4 := r3.frozen 4
  simp only [six] at x0 x1 x2 x3 x4 x5 z0 z1 z2 z3 z4 z5
  simp at x0 x1 x2 x3 x4 x5 z0 z1 z2 z3 z4 z5
  clear r1 r2 r3
  have HB4' := Lib.hid (hB4.setCell (p := ⟨w.heap.size + 1 + 1, 4, none⟩) (by dsimp only; omega) (.slice (some ⟨g4, 0, none⟩) b.outer.length b.outer.length))
  have HX4' := Lib.hid (HX4.out.set 4 (.slice (some ⟨g4, 0, none⟩) b.outer.length b.outer.length))
  have HK4 := Lib.hid (fun k (hk : w.heap.size + 3 ≤ k) => Below.heap_setCell w4 ⟨w.heap.size + 1 + 1, 4, none⟩ (.slice (some ⟨g4, 0, none⟩) b.outer.length b.outer.length) k (by dsimp only; omega))
  have HZ4 : Hid ((w4.setCell ⟨w.heap.size + 1 + 1, 4, none⟩ (.slice (some ⟨g4, 0, none⟩) b.outer.length b.outer.length)).heap.size = w4.heap.size) := Lib.hid (by simp [World.setCell])
  clear hB4
  go_wp2_with fail
  refine (toWS_any A5 _ c5 b.inner _ ((h5.below HB4'.out).wide HB4'.out.size) s5).mono ?_
  rintro e w5 ⟨g5, rfl, ho5, hb5⟩
  have hB5 := HB4'.out.trans (hb5.mono HB4'.out.size)
  have HX5 := Lib.hid (HX4'.out.below hb5)
  have hsz5 : w4.heap.size ≤ w5.heap.size := by have := hb5.size; rw [HZ4.out] at this; exact this
  have HO15 := Lib.hid (((NdsOwn_blocks HO14.out (fun k hk _ => HK4.out k hk)).below hb5 (by rw [HZ4.out]; exact Nat.le_refl _)).wide (Nat.le_refl _) hsz5)
  have HO25 := Lib.hid (And.intro ((HO24.out.1.of_block (HK4.out g2 HO24.out.2.1)).of_block (hb5.block g2 (by rw [HZ4.out]; exact HO24.out.2.2))) (And.intro HO24.out.2.1 (Nat.lt_of_lt_of_le HO24.out.2.2 hsz5)))
  have HO45 := Lib.hid (And.intro ((HO4.out.1.of_block (HK4.out g4 HO4.out.2.1)).of_block (hb5.block g4 (by rw [HZ4.out]; exact HO4.out.2.2))) (And.intro HO4.out.2.1 (Nat.lt_of_lt_of_le HO4.out.2.2 hsz5)))
  have hN5 : w.heap.size + 3 ≤ w5.heap.size := by omega
  have HO5 := Lib.hid (ho5.wide (lo' := w.heap.size + 3) (hi' := w5.heap.size) (by rw [HZ4.out]; exact hN4) (Nat.le_refl _))
  clear hb5 ho5 x0 x1 x2 x3 x4 x5 z0 z1 z2 z3 z4 z5 f4
  obtain ⟨r1, ⟨fr, r2⟩, r3⟩ := HX5.out
  obtain ⟨y0, y1, y2, y3, y4, y5⟩ := row6 r2
  obtain ⟨z0, z1, z2, z3, z4, z5⟩ := row6 r3
  have f5 := r3.frozen 5
  have q0 := r2.frozen 0
  have q1 := r2.frozen 1
  have q2 := r2.frozen 2
  have q3 := r2.frozen 3
  have q4 := r2.frozen 4
  have q5 := r2.frozen 5
  simp only [six] at z0 z1 z2 z3 z4 z5
  simp at z0 z1 z2 z3 z4 z5
  have HR2 := Lib.hid r2
  clear r1 r2 r3
  go_wp2_with fail
  have HO := Lib.hid (show BigOwn w5 (w.heap.size + 3) w5.heap.size (.agg #[.int .i64 b.roots, .slice (some ⟨g1, 0, none⟩) b.nodes.length b.nodes.length, .slice (some ⟨g2, 0, none⟩) b.sites.length b.sites.length, .int .i64 b.edges, .slice (some ⟨g4, 0, none⟩) b.outer.length b.outer.length, .slice (some ⟨g5, 0, none⟩) b.inner.length b.inner.length]) b from ⟨g1, g2, g4, g5, rfl, HO15.out, HO25.out, HO45.out, HO5.out⟩)
  refine bodyPost_ret (v := .agg #[.int .i64 b.roots, .slice (some ⟨g1, 0, none⟩) b.nodes.length b.nodes.length, .slice (some ⟨g2, 0, none⟩) b.sites.length b.sites.length, .int .i64 b.edges, .slice (some ⟨g4, 0, none⟩) b.outer.length b.outer.length, .slice (some ⟨g5, 0, none⟩) b.inner.length b.inner.length]) (by simp [results, Try.results11, go_sem, y0, y1, y2, y3, y4, y5]) rfl ⟨_, rfl, ?_, ?_⟩
  · exact (HO.out.blocks (fun k hk _ => (last7 w.heap.size w5 5 _ _ _ _ _ _ _).1 k hk)).wide (by omega) (Nat.le_of_eq (last7 w.heap.size w5 5 _ _ _ _ _ _ _).2.1.symm)
  · exact (last7 w.heap.size w5 5 _ _ _ _ _ _ _).2.2 _ _ hB5 (Nat.le_refl _)

theorem nodes_wt {b : Big} (h : bigWt b ≤ 1048576) : ndsWt b.nodes ≤ 1048576 ∧ b.nodes.length ≤ 1048576 ∧ sumBy (fun c : Nd => c.links.length) b.nodes ≤ 1048576 := by
  unfold bigWt at h
  unfold ndsWt at h ⊢
  omega

set_option maxHeartbeats 1600000 in
theorem markB2_any (v : Value) (b : Big) (k : Int) (w : World) (lo hi : Nat) (h : BigOwn w lo hi v b) (hhi : hi ≤ w.heap.size) (h0 : 0 < k) (h1 : k ≤ 3200000) (hwt : bigWt b ≤ 1048576) :
    Calls Try.prog 16 #[v, .int .i64 k] w fun e w' => ∃ r : Int, e = .returned (.int .i64 r) ∧ 0 < r ∧ r ≤ k + 2 * bigWt b ∧ Only lo hi w w' := by
  obtain ⟨g1, g2, g4, g5, rfl, o1, ⟨r2, l2, k2⟩, ⟨r4, l4, k4⟩, o5⟩ := h
  obtain ⟨n1, n2, n3⟩ := nodes_wt hwt
  have hS := bigS_of hwt
  obtain ⟨-, -, s2, s4, -, s5, -⟩ := hS
  have hw4 : 2 * b.nodes.length + sumBy (fun c : Nd => c.links.length) b.nodes + b.sites.length + b.outer.length + 2 * b.inner.length ≤ 4 * 1048576 := by
    unfold bigWt ndsWt wrsWt at hwt
    omega
  have hw5 : 2 * b.nodes.length + sumBy (fun c : Nd => c.links.length) b.nodes + b.sites.length + b.outer.length + 2 * b.inner.length ≤ 2 * bigWt b := by
    unfold bigWt ndsWt wrsWt
    omega
  have HW5 := Lib.hid hw5
  have HO1 := Lib.hid o1
  have HW4 := Lib.hid hw4
  have HBox := Lib.hid (six_new w (.int .i64 b.roots) (.slice (some ⟨g1, 0, none⟩) b.nodes.length b.nodes.length) (.slice (some ⟨g2, 0, none⟩) b.sites.length b.sites.length) (.int .i64 b.edges) (.slice (some ⟨g4, 0, none⟩) b.outer.length b.outer.length) (.slice (some ⟨g5, 0, none⟩) b.inner.length b.inner.length) 34)
  have HA := Lib.hid (Only.of_below (lo := lo) (hi := hi) ((Below.refl w.heap.size w).alloc (Nat.le_refl _) (.cells #[.int .i64 b.roots, .slice (some ⟨g1, 0, none⟩) b.nodes.length b.nodes.length, .slice (some ⟨g2, 0, none⟩) b.sites.length b.sites.length, .int .i64 b.edges, .slice (some ⟨g4, 0, none⟩) b.outer.length b.outer.length, .slice (some ⟨g5, 0, none⟩) b.inner.length b.inner.length] 34)))
  have HB0 := Lib.hid ((Below.refl w.heap.size w).alloc (Nat.le_refl _) (.cells #[.int .i64 b.roots, .slice (some ⟨g1, 0, none⟩) b.nodes.length b.nodes.length, .slice (some ⟨g2, 0, none⟩) b.sites.length b.sites.length, .int .i64 b.edges, .slice (some ⟨g4, 0, none⟩) b.outer.length b.outer.length, .slice (some ⟨g5, 0, none⟩) b.inner.length b.inner.length] 34))
  have HR2 := Lib.hid r2
  have HR4 := Lib.hid r4
  obtain ⟨-, g5', f5, e5, l5, k5, r5, -⟩ := o5
  injection e5 with e5
  injection e5 with e5 _
  subst e5
  have HR5 := Lib.hid r5
  clear o1 hw4 hw5 r2 r4 r5 hwt
  go_enter Try.func16, Try.ntmps16
  go_wp2_with fail
  refine (markNS_any (some ⟨g1, 0, none⟩) b.nodes.length b.nodes.length b.nodes k _ lo hi (HO1.out.below HB0.out (by omega)) (by have := HB0.out.size; omega) h0 h1 n1).mono ?_
  rintro e w1 ⟨q, rfl, hq, ho1⟩
  have hon1 := HA.out.trans ho1
  have hrow1 := HBox.out.of_block (ho1.block w.heap.size (by simp) (.inr hhi))
  obtain ⟨x0, x1, x2, x3, x4, x5⟩ := row6 hrow1
  simp only [six] at x0 x1 x2 x3 x4 x5
  simp at x0 x1 x2 x3 x4 x5
  obtain ⟨f2, hr2⟩ := hon1.rows _ _ _ ⟨_, HR2.out⟩
  have HR2' := Lib.hid hr2
  have HQ := Lib.hid hq
  have q1 : 0 < q := by omega
  have q2 : q ≤ 8000000 := by omega
  clear hq hr2 ho1
  go_wp2_with fail
  refine (markI_any g2 b.sites.length b.sites.length f2 q _ HR2'.out (Nat.le_refl _) q1 q2 (by omega)).mono ?_
  rintro e w2 ⟨rfl, hrm, hgm⟩
  have ho2 := Only.of_grown hgm HR2'.out hrm l2 k2
  have hon2 := hon1.trans ho2
  have hrow2 := hrow1.of_block (ho2.block w.heap.size hrow1.lt (.inr hhi))
  obtain ⟨y0, y1, y2, y3, y4, y5⟩ := row6 hrow2
  simp only [six] at y0 y1 y2 y3 y4 y5
  simp at y0 y1 y2 y3 y4 y5
  obtain ⟨f4, hr4⟩ := hon2.rows _ _ _ ⟨_, HR4.out⟩
  have HR4' := Lib.hid hr4
  clear hrm hgm hr4 ho2 hon1 hrow1 x0 x1 x2 x3 x4 x5
  go_wp2_with fail
  refine (markS_any g4 b.outer.length b.outer.length f4 (q + b.sites.length) _ HR4'.out (Nat.le_refl _) (by omega) (by have := HQ.out; have := HW4.out; omega) (by omega)).mono ?_
  rintro e w4 ⟨rfl, hrm, hgm⟩
  have ho4 := Only.of_grown hgm HR4'.out hrm l4 k4
  have hon4 := hon2.trans ho4
  have hrow4 := hrow2.of_block (ho4.block w.heap.size hrow2.lt (.inr hhi))
  obtain ⟨x0, x1, x2, x3, x4, x5⟩ := row6 hrow4
  simp only [six] at x0 x1 x2 x3 x4 x5
  simp at x0 x1 x2 x3 x4 x5
  obtain ⟨f5', hr5⟩ := hon4.rows _ _ _ ⟨_, HR5.out⟩
  have HR5' := Lib.hid hr5
  clear hrm hgm hr5 ho4 hon2 hrow2 y0 y1 y2 y3 y4 y5
  go_wp2_with fail
  refine (markWS_any g5 b.inner.length b.inner.length f5' (q + b.sites.length + b.outer.length) _ lo hi HR5'.out l5 k5 (by omega) (by have := HQ.out; have := HW4.out; omega) s5).mono ?_
  rintro e w5 ⟨rfl, ho5⟩
  have hon5 := hon4.trans ho5
  clear hon4 hrow4 ho5 x0 x1 x2 x3 x4 x5
  go_wp2_with fail
  go_ret
  exact ⟨_, rfl, by omega, by have := HQ.out; have := HW5.out; omega, hon5⟩
theorem markB_any (v : Value) (b : Big) (k : Int) (w : World) (lo hi : Nat) (h : BigOwn w lo hi v b) (hhi : hi ≤ w.heap.size) (h0 : 0 < k) (h1 : k ≤ 3200000) (hwt : bigWt b ≤ 1048576) :
    Calls Try.prog 16 #[v, .int .i64 k] w fun e w' => ∃ r : Int, e = .returned (.int .i64 r) ∧ 0 < r ∧ r ≤ k + 4 * 1048576 ∧ Only lo hi w w' :=
  (markB2_any v b k w lo hi h hhi h0 h1 hwt).mono fun e w' ⟨r, he, h2, h3, h4⟩ => ⟨r, he, h2, by omega, h4⟩
end Go.Proofs.Ytifialdkjnmfoab.ht
