/- A Bigraph that a function gives back: markBigraph, heldBigraph, eqBigraph. -/
import Derived.Test.YtifialdkjnmfoabBm
namespace Go.Proofs.Ytifialdkjnmfoab.bw
open kit bg opn strs only hb sig inn ht marks eqs hc hi hw hn rs br bm cf
open Go.RowKit
set_option linter.unusedVariables false

section
variable {w w' : World} {lo hi n c n' c' sz sz' m : Nat} {t t' : TypeId} {A A' : Option Addr} {M M' : Nat → Value} {P : Plan} {ln : Nat → Nat} {mc mp : Nat → Value} {ml : Nat → Nat → Value}
theorem RowR.row (h : RowR w lo hi t sz A n c M) {g : Nat} (e : blk A g) : ∃ f m, w.rowIs g t m f := by
  rcases h with ⟨e2, _⟩ | ⟨g2, f, e2, h1, h2, _, h4, _⟩
  · rw [blk, e2] at e; cases e
  · rw [blk, e2] at e
    injection e with e
    injection e with e
    subst e
    exact ⟨f, _, h4⟩
theorem rows_ne (h : RowR w lo hi t sz A n c M) (h' : RowR w lo hi t' sz' A' n' c' M') (ht : t ≠ t') {g : Nat} (e : blk A g) : ¬ blk A' g := fun e' => by
  obtain ⟨f, m, hr⟩ := RowR.row h e
  obtain ⟨f', m', hr'⟩ := RowR.row h' e'
  exact ht (rowIs_uniq hr hr').1
/-- a change of a row of another type leaves a row -/
theorem row_other (h : RowR w lo hi t sz A n c M) (h' : RowR w lo hi t' sz' A' n' c' M') (ht : t ≠ t') (hc : Chg (blk A') w w') : RowR w' lo hi t sz A n c M := h.chg hc (fun g e _ => rows_ne h h' ht e)
theorem row_apart (h : RowR w lo hi t sz A n c M) (hne : A ≠ none → A ≠ A') (hc : Chg (blk A') w w') : RowR w' lo hi t sz A n c M := h.chg hc (fun g e _ e' => hne (by rw [e]; simp) (by rw [e, e']))
/-- a change of the nodes leaves a row of another type, and one apart from the links -/
theorem row_nodes (h : RowR w lo hi t sz A m c M) (hN : Nodes w lo hi P n ln mc mp ml) (ht : t ≠ 103) (hl : t ≠ 3 ∨ ∀ j, j < n → P.LA j ≠ none → P.LA j ≠ A) (hc : Chg (P.S1 n) w w') : RowR w' lo hi t sz A m c M := h.chg hc (fun g e _ e' => by
  rcases e' with e' | ⟨j, hj, e'⟩
  · exact rows_ne h hN.1 ht e e'
  · rcases hl with hl | hl
    · exact rows_ne h (hN.2 j hj) hl e e'
    · exact hl j hj (by rw [e']; simp) (by rw [e', e]))
theorem nodes_row (hN : Nodes w lo hi P n ln mc mp ml) (h : RowR w lo hi t sz A m c M) (ht : t ≠ 103) (hl : t ≠ 3 ∨ ∀ j, j < n → P.LA j ≠ none → P.LA j ≠ A) (hc : Chg (blk A) w w') : Nodes w' lo hi P n ln mc mp ml :=
  ⟨row_other hN.1 h (fun e => ht e.symm) hc, fun k hk => by
    rcases hl with hl | hl
    · exact row_other (hN.2 k hk) h (fun e => hl e.symm) hc
    · exact row_apart (hN.2 k hk) (hl k hk) hc⟩
theorem nodes_in (hN : Nodes w lo hi P n ln mc mp ml) {g : Nat} (e : P.S1 n g) : lo ≤ g ∧ g < hi := by
  rcases e with e | ⟨j, hj, e⟩
  · exact hN.1.in_ e
  · exact (hN.2 j hj).in_ e
end

theorem bigMk_parts {b : Big} (h : bigMk b ≤ 1048576) : ndMk b.nodes ≤ 1048576 ∧ b.sites.length ≤ 1048576 ∧ b.outer.length ≤ 1048576 ∧ b.inner.length ≤ 1048576 ∧ b.nodes.length ≤ 1048576 ∧ ∀ x ∈ b.nodes, x.links.length ≤ 1048576 := by
  unfold bigMk at h
  refine ⟨by omega, by omega, by omega, by omega, by unfold ndMk at h; omega, fun x hx => ?_⟩
  have := sumBy_mem (fun c : Nd => c.links.length) hx
  unfold ndMk at h
  omega

set_option maxRecDepth 20000 in
set_option maxHeartbeats 1600000 in
theorem markBR_any (v : Value) (b : Big) (k : Int) (w : World) (lo hi : Nat) (h : BigR w lo hi v b) (hhi : hi ≤ w.heap.size) (h0 : 0 < k) (h1 : k ≤ 2000000) (hm : bigMk b ≤ 1048576) :
    Calls Try.prog 16 #[v, .int .i64 k] w fun e w' => e = .returned (.int .i64 (k + bigMk b)) ∧ BigM w' lo hi v b k ∧ Only lo hi w w' := by
  obtain ⟨P, rfl, hap, hN, h2, h4, h5⟩ := h
  obtain ⟨m1, m2, m4, m5, -, -⟩ := bigMk_parts hm
  obtain ⟨nm, hnm⟩ : ∃ nm, ndMk b.nodes = nm := ⟨_, rfl⟩
  have HNm := Lib.hid hnm
  have HMk : Hid (bigMk b = nm + b.sites.length + b.outer.length + 2 * b.inner.length) := Lib.hid (by unfold bigMk; rw [hnm])
  have hmm : nm + b.sites.length + b.outer.length + 2 * b.inner.length ≤ 1048576 := by rw [← HMk.out]; exact hm
  have hbx := (Below.refl w.heap.size w).alloc (Nat.le_refl _) (.cells #[.int .i64 b.roots, .slice P.A1 b.nodes.length P.c1, .slice P.A2 b.sites.length P.c2, .int .i64 b.edges, .slice P.A4 b.outer.length P.c4, .slice P.A5 b.inner.length P.c5] 34)
  have HBox : Hid (BoxAt (w.alloc (.cells #[.int .i64 b.roots, .slice P.A1 b.nodes.length P.c1, .slice P.A2 b.sites.length P.c2, .int .i64 b.edges, .slice P.A4 b.outer.length P.c4, .slice P.A5 b.inner.length P.c5] 34)) w.heap.size 34 (.int .i64 b.roots) (.slice P.A1 b.nodes.length P.c1) (.slice P.A2 b.sites.length P.c2) (.int .i64 b.edges) (.slice P.A4 b.outer.length P.c4) (.slice P.A5 b.inner.length P.c5)) := Lib.hid (six_new w _ _ _ _ _ _ _)
  have HN0 := Lib.hid (hN.stay (fun g f m t hr _ _ => hbx.block g hr.lt))
  have H20 := Lib.hid (h2.on hbx)
  have H40 := Lib.hid (h4.on hbx)
  have H50 := Lib.hid (h5.on hbx)
  have HB0 := Lib.hid hbx
  have HAp := Lib.hid hap
  have HAp2 : Hid (∀ j, j < b.nodes.length → P.LA j ≠ none → P.LA j ≠ P.A2) := Lib.hid (fun j hj hn => (HAp.out j hj hn).1)
  have HO0 : Hid (Only lo hi w _) := Lib.hid (Only.of_below hbx)
  clear hN h2 h4 h5 hbx hap hm hnm
  go_enter Try.func16, Try.ntmps16
  go_wp2_with fail
  refine (markNR_any P b.nodes.length lo hi b.nodes _ _ _ k _ rfl HN0.out HAp.out h0 (by omega) m1).mono ?_
  rw [HNm.out]
  rintro e w1 ⟨rfl, hN1, hc1⟩
  have HBx1 := Lib.hid (show BoxAt w1 _ _ _ _ _ _ _ _ from World.rowIs.of_block HBox.out (hc1.block _ (by simp) (fun e => by have := nodes_in HN0.out e; omega)))
  have HN1 := Lib.hid hN1
  have H21 := Lib.hid (row_nodes H20.out HN0.out (by decide) (.inr HAp2.out) hc1)
  have H41 := Lib.hid (row_nodes H40.out HN0.out (by decide) (.inl (by decide)) hc1)
  have H51 := Lib.hid (row_nodes H50.out HN0.out (by decide) (.inl (by decide)) hc1)
  have HO1 := Lib.hid (HO0.out.trans (hc1.only (fun g _ e => nodes_in HN0.out e)))
  have hz1 : w.heap.size < w1.heap.size := by have := hc1.size; simp at this; omega
  obtain ⟨x0, x1, x2, x3, x4, x5⟩ := HBx1.out.get
  clear hN1 hc1 HN0 H20 H40 H50 HO0 HBox HB0
  go_wp2_with fail
  refine (markIR_any P.A2 b.sites.length P.c2 _ (k + nm) _ lo hi H21.out (by omega) (by omega) m2).mono ?_
  rintro e w2 ⟨rfl, h22, hc2⟩
  have HBx2 := Lib.hid (show BoxAt w2 _ _ _ _ _ _ _ _ from World.rowIs.of_block HBx1.out (hc2.block _ hz1 (fun e => by have := H21.out.in_ e; omega)))
  have HN2 := Lib.hid (nodes_row HN1.out H21.out (by decide) (.inr HAp2.out) hc2)
  have H22 := Lib.hid h22
  have H42 := Lib.hid (row_other H41.out H21.out (by decide) hc2)
  have H52 := Lib.hid (row_other H51.out H21.out (by decide) hc2)
  have HO2 := Lib.hid (HO1.out.trans (hc2.only (fun g _ e => H21.out.in_ e)))
  have hz2 : w.heap.size < w2.heap.size := Nat.lt_of_lt_of_le hz1 hc2.size
  clear x0 x1 x2 x3 x4 x5 h22 hc2 HN1 H21 H41 H51 HO1 HBx1 hz1
  obtain ⟨x0, x1, x2, x3, x4, x5⟩ := HBx2.out.get
  go_wp2_with fail
  refine (markSR_any P.A4 b.outer.length P.c4 _ (k + nm + b.sites.length) _ lo hi H42.out (by omega) (by omega) m4).mono ?_
  rintro e w4 ⟨rfl, h44, hc4⟩
  have HBx4 := Lib.hid (show BoxAt w4 _ _ _ _ _ _ _ _ from World.rowIs.of_block HBx2.out (hc4.block _ hz2 (fun e => by have := H42.out.in_ e; omega)))
  have HN4 := Lib.hid (nodes_row HN2.out H42.out (by decide) (.inl (by decide)) hc4)
  have H24 := Lib.hid (row_other H22.out H42.out (by decide) hc4)
  have H44 := Lib.hid h44
  have H54 := Lib.hid (row_other H52.out H42.out (by decide) hc4)
  have HO4 := Lib.hid (HO2.out.trans (hc4.only (fun g _ e => H42.out.in_ e)))
  have hz4 : w.heap.size < w4.heap.size := Nat.lt_of_lt_of_le hz2 hc4.size
  clear x0 x1 x2 x3 x4 x5 h44 hc4 HN2 H22 H42 H52 HO2 HBx2 hz2
  obtain ⟨x0, x1, x2, x3, x4, x5⟩ := HBx4.out.get
  go_wp2_with fail
  refine (markWR_any P.A5 b.inner.length P.c5 _ (k + nm + b.sites.length + b.outer.length) _ lo hi H54.out (by omega) (by omega) m5).mono ?_
  rintro e w5 ⟨rfl, h55, hc5⟩
  have HN5 := Lib.hid (nodes_row HN4.out H54.out (by decide) (.inl (by decide)) hc5)
  have H25 := Lib.hid (row_other H24.out H54.out (by decide) hc5)
  have H45 := Lib.hid (row_other H44.out H54.out (by decide) hc5)
  have H55 := Lib.hid h55
  have HO5 := Lib.hid (HO4.out.trans (hc5.only (fun g _ e => H54.out.in_ e)))
  clear x0 x1 x2 x3 x4 x5 h55 hc5 HN4 H24 H44 H54 HO4 HBx4 hz4
  go_wp2_with fail
  go_ret
  refine ⟨?_, ⟨P, rfl, HN5.out, ?_, ?_, ?_⟩, HO5.out⟩
  · rw [HMk.out]; go_num
  · rw [HNm.out]; exact H25.out
  · rw [HNm.out]; exact H45.out
  · rw [HNm.out]; exact H55.out

set_option maxRecDepth 20000 in
set_option maxHeartbeats 1600000 in
theorem heldBR_any (v : Value) (b : Big) (k : Int) (w : World) (lo hi : Nat) (h : BigM w lo hi v b k) (h0 : 0 < k) (h1 : k ≤ 2000000) (hm : bigMk b ≤ 1048576) :
    Calls Try.prog 17 #[v, .int .i64 k] w fun e w' => e = .returned (.int .i64 (k + bigMk b)) ∧ Below w.heap.size w w' := by
  obtain ⟨P, rfl, hN, h2, h4, h5⟩ := h
  obtain ⟨m1, m2, m4, m5, -, -⟩ := bigMk_parts hm
  obtain ⟨nm, hnm⟩ : ∃ nm, ndMk b.nodes = nm := ⟨_, rfl⟩
  rw [hnm] at h2 h4 h5
  have HNm := Lib.hid hnm
  have HMk : Hid (bigMk b = nm + b.sites.length + b.outer.length + 2 * b.inner.length) := Lib.hid (by unfold bigMk; rw [hnm])
  have hmm : nm + b.sites.length + b.outer.length + 2 * b.inner.length ≤ 1048576 := by rw [← HMk.out]; exact hm
  have hbx := (Below.refl w.heap.size w).alloc (Nat.le_refl _) (.cells #[.int .i64 b.roots, .slice P.A1 b.nodes.length P.c1, .slice P.A2 b.sites.length P.c2, .int .i64 b.edges, .slice P.A4 b.outer.length P.c4, .slice P.A5 b.inner.length P.c5] 34)
  have HBox : Hid (BoxAt (w.alloc (.cells #[.int .i64 b.roots, .slice P.A1 b.nodes.length P.c1, .slice P.A2 b.sites.length P.c2, .int .i64 b.edges, .slice P.A4 b.outer.length P.c4, .slice P.A5 b.inner.length P.c5] 34)) w.heap.size 34 (.int .i64 b.roots) (.slice P.A1 b.nodes.length P.c1) (.slice P.A2 b.sites.length P.c2) (.int .i64 b.edges) (.slice P.A4 b.outer.length P.c4) (.slice P.A5 b.inner.length P.c5)) := Lib.hid (six_new w _ _ _ _ _ _ _)
  obtain ⟨W, hW⟩ : ∃ W, w.alloc (.cells #[.int .i64 b.roots, .slice P.A1 b.nodes.length P.c1, .slice P.A2 b.sites.length P.c2, .int .i64 b.edges, .slice P.A4 b.outer.length P.c4, .slice P.A5 b.inner.length P.c5] 34) = W := ⟨_, rfl⟩
  have hWz : w.heap.size < W.heap.size := by rw [← hW]; simp
  rw [hW] at HBox hbx
  have HWq := Lib.hid hW
  have HN0 := Lib.hid hN
  have H20 := Lib.hid h2
  have H40 := Lib.hid h4
  have H50 := Lib.hid h5
  have HB0 := Lib.hid hbx
  clear hN h2 h4 h5 hbx hm hnm hW
  go_enter Try.func17, Try.ntmps17
  go_wp2_with fail
  rw [HWq.out]
  refine (heldNR_any P b.nodes.length lo hi b.nodes k _ rfl (HN0.out.stay (fun g f m t hr _ _ => HB0.out.block g hr.lt)) h0 (by omega) m1).mono ?_
  rw [HNm.out]
  rintro e w1 ⟨rfl, hb1⟩
  have hB1 := HB0.out.trans (hb1.mono HB0.out.size)
  have HBx1 := Lib.hid (HBox.out.below hb1 hWz)
  have hz1 : w.heap.size < w1.heap.size := Nat.lt_of_lt_of_le hWz hb1.size
  obtain ⟨x0, x1, x2, x3, x4, x5⟩ := HBx1.out.get
  have g1 : ¬ (k + (nm : Int) < 0) := by omega
  clear hb1
  go_wp2_with fail
  refine (heldIR_any P.A2 b.sites.length P.c2 (k + nm) _ lo hi (H20.out.on hB1) (by omega) (by omega) m2).mono ?_
  rintro e w2 ⟨rfl, hb2⟩
  have hB2 := hB1.trans (hb2.mono hB1.size)
  have HBx2 := Lib.hid (HBx1.out.below hb2 hz1)
  have hz2 : w.heap.size < w2.heap.size := Nat.lt_of_lt_of_le hz1 hb2.size
  clear x0 x1 x2 x3 x4 x5 hb2 hB1
  obtain ⟨x0, x1, x2, x3, x4, x5⟩ := HBx2.out.get
  have g2 : ¬ (k + (nm : Int) + (b.sites.length : Int) < 0) := by omega
  go_wp2_with fail
  refine (heldSR_any P.A4 b.outer.length P.c4 (k + nm + b.sites.length) _ lo hi (H40.out.on hB2) (by omega) (by omega) m4).mono ?_
  rintro e w4 ⟨rfl, hb4⟩
  have hB4 := hB2.trans (hb4.mono hB2.size)
  have HBx4 := Lib.hid (HBx2.out.below hb4 hz2)
  clear x0 x1 x2 x3 x4 x5 hb4 hB2
  obtain ⟨x0, x1, x2, x3, x4, x5⟩ := HBx4.out.get
  have g3 : ¬ (k + (nm : Int) + (b.sites.length : Int) + (b.outer.length : Int) < 0) := by omega
  go_wp2_with fail
  refine (heldWR_any P.A5 b.inner.length P.c5 (k + nm + b.sites.length + b.outer.length) _ lo hi (H50.out.on hB4) (by omega) (by omega) m5).mono ?_
  rintro e w5 ⟨rfl, hb5⟩
  have hB5 := hB4.trans (hb5.mono hB4.size)
  clear x0 x1 x2 x3 x4 x5 hb5 hB4
  have g4 : ¬ (k + (nm : Int) + (b.sites.length : Int) + (b.outer.length : Int) + 2 * (b.inner.length : Int) < 0) := by omega
  go_wp2_with fail
  go_ret
  exact ⟨by rw [HMk.out]; go_num, hB5⟩

theorem eqBR_any (v v' : Value) (b : Big) (w : World) (lo hi lo' hi' : Nat) (h : BigR w lo hi v b) (h' : BigR w lo' hi' v' b) (hh : hi ≤ w.heap.size) (hh' : hi' ≤ w.heap.size) (hm : bigMk b ≤ 1048576) :
    Calls Try.prog 13 #[v, v'] w fun e w' => e = .returned (.bool true) ∧ Below w.heap.size w w' := by
  obtain ⟨-, m2, m4, m5, m1, ml⟩ := bigMk_parts hm
  exact eqBL_any v v' b w hi hi' h.at h'.at hh hh' ⟨by unfold maxLen; omega, fun x hx => by have := ml x hx; unfold maxLen; omega, by unfold maxLen; omega, by unfold maxLen; omega⟩ m4
end Go.Proofs.Ytifialdkjnmfoab.bw
