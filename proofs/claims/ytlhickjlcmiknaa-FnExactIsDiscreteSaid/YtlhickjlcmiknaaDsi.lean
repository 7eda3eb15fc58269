/- impl.isDiscrete, walked. -/
import Derived.Test.YtlhickjlcmiknaaDsc
namespace Go.Proofs.Ytlhickjlcmiknaa.dsi
open kit bg opn strs only hb sg sig isig un gd inn ht hi cf pt ptm lf ib rs rt pts psp rfo lop dsc
open Go.RowKit
set_option linter.unusedVariables false
attribute [local go_sem] Oper.semAt_some

theorem set_grown (W : World) (g i : Nat) (v : Value) : W.grownBy (W.setCell ⟨g, i, none⟩ v) (some g) :=
  ⟨rfl, rfl, rfl, by simp [World.setCell], fun k _ hk => Below.heap_setCell _ _ _ k (fun e => hk (by rw [e]))⟩

set_option maxRecDepth 100000 in
set_option maxHeartbeats 6400000 in
theorem ids_any (cs : List Ctl) (v : Value) (b : Big) (w : World) (hv : BigAt w w.heap.size v b) (hq : bigB cs b = true) :
    Calls Try.prog 69 #[v] w (Post (sglB b) w) := by
  obtain ⟨A1, n1, c1, A2, n2, c2, A4, n4, c4, A5, n5, c5, rfl, h1, h2, h4, h5⟩ := hv
  have h8 := big8 hq
  have hL3 := links3 hq
  have hln := lks_len hq
  have hin := fun z (hz : z ∈ lks b) => lks_in hq hz
  have l1 := h1.1
  have l4 := h4.strlen
  have l5 := h5.1
  rw [l1, l4, l5] at h8
  obtain ⟨h81, ⟨h82, h83⟩, h84, h85⟩ := h8
  obtain ⟨W, hW⟩ : ∃ W, w.alloc (.cells #[.int .i64 b.roots, .slice A1 n1 c1, .slice A2 n2 c2, .int .i64 b.edges, .slice A4 n4 c4, .slice A5 n5 c5] 38) = W := ⟨_, rfl⟩
  have hWz : W.heap.size = w.heap.size + 1 := by rw [← hW]; simp
  have HB0 := Lib.hid ((Below.refl w.heap.size w).alloc (Nat.le_refl _) (.cells #[.int .i64 b.roots, .slice A1 n1 c1, .slice A2 n2 c2, .int .i64 b.edges, .slice A4 n4 c4, .slice A5 n5 c5] 38))
  have HBox : Hid (BoxAt (w.alloc (.cells #[.int .i64 b.roots, .slice A1 n1 c1, .slice A2 n2 c2, .int .i64 b.edges, .slice A4 n4 c4, .slice A5 n5 c5] 38)) w.heap.size 38 (.int .i64 b.roots) (.slice A1 n1 c1) (.slice A2 n2 c2) (.int .i64 b.edges) (.slice A4 n4 c4) (.slice A5 n5 c5)) := Lib.hid (six_new w _ _ _ _ _ _ _)
  rw [hW] at HBox HB0
  have HWq := Lib.hid hW
  clear hW
  by_cases hE : 0 < b.edges
  · have hs : sglB b = false := by
      unfold sglB
      rw [decide_eq_false (show ¬ b.edges = 0 by omega)]
      simp
    rw [hs]
    obtain ⟨x0, x1, x2, x3, x4, x5⟩ := HBox.out.get
    clear hs hq hL3 hln hin
    go_enter Try.func69, Try.ntmps69
    go_wp2_with fail
    rw [HWq.out]
    go_wp2_with fail
    go_ret
    exact ⟨rfl, HB0.out⟩
  · have hE0 : b.edges = 0 := by omega
    have hmk := fun W => run_make_row' (P := Try.prog) 24 3 (.int .i64 0) 8 Try.underlying24 int_info rfl .i64 .i64 n4 (by omega) (by omega) W
    have HL4 := Lib.hid l4
    have HIn := Lib.hid (fun z hz => (⟨(hin z hz).1, by have := (hin z hz).2; rw [hE0, l4] at this; omega⟩ : 0 ≤ z ∧ z < (n4 : Int)))
    have HL3 := Lib.hid (fun x hx => Nat.le_trans (hL3 x hx) (by omega : 3 ≤ 1048576))
    have HSg : Hid (sglB b = ((List.range n4).map fun i : Nat => ((lks b).count (i : Int) : Int)).all fun z => decide (z = 1)) := Lib.hid (by
      unfold sglB oneB
      rw [hE0, l4, decide_eq_true (rfl : (0 : Int) = 0), Bool.and_true, List.all_map]
      congr 1
      funext i
      simp only [Function.comp, Int.zero_add]
      refine decide_eq_decide.2 ?_
      show ptsN b (i : Int) = 1 ↔ (((lks b).count (i : Int) : Nat) : Int) = 1
      rw [lks_count]
      omega)
    rw [hE0] at HWq HBox
    clear hin HB0
    obtain ⟨W3, hW3⟩ : ∃ W3, ((w.alloc (.cells #[.int .i64 b.roots, .slice A1 n1 c1, .slice A2 n2 c2, .int .i64 0, .slice A4 n4 c4, .slice A5 n5 c5] 38)).alloc (.cells (madeCells #[.int .i64 0] n4) 3)).alloc (.cells #[.slice (some ⟨w.heap.size + 1, 0, none⟩) n4 n4] 24) = W3 := ⟨_, rfl⟩
    have hz3 : W3.heap.size = w.heap.size + 3 := by rw [← hW3]; simp
    have HB3 : Hid (Below w.heap.size w W3) := Lib.hid (by rw [← hW3]; exact (((Below.refl _ w).alloc (Nat.le_refl _) _).alloc (by simp) _).alloc (by simp; omega) _)
    have bS : Hid (Boxed W3 (w.heap.size + 1 + 1) 24 (.slice (some ⟨w.heap.size + 1, 0, none⟩) n4 n4)) := Lib.hid (by
      rw [← hW3]
      have := Boxed.new ((w.alloc (.cells #[.int .i64 b.roots, .slice A1 n1 c1, .slice A2 n2 c2, .int .i64 0, .slice A4 n4 c4, .slice A5 n5 c5] 38)).alloc (.cells (madeCells #[.int .i64 0] n4) 3)) 24 (.slice (some ⟨w.heap.size + 1, 0, none⟩) n4 n4)
      simpa using this)
    have hRow : Hid (W3.rowIs (w.heap.size + 1) 3 n4 (cntF [])) := Lib.hid (by
      rw [← hW3]
      have h := World.rowIs_made (w.alloc (.cells #[.int .i64 b.roots, .slice A1 n1 c1, .slice A2 n2 c2, .int .i64 0, .slice A4 n4 c4, .slice A5 n5 c5] 38)) (.int .i64 0) n4 3
      rw [World.size_alloc] at h
      exact World.rowIs.of_block (h.congr (fun j _ => by simp [cntF])) (Below.heap_alloc _ _ _ (by simp)))
    obtain ⟨x0, x1, x2, x3, x4, x5⟩ := HBox.out.get
    have HW3 := Lib.hid hW3
    rw [← HWq.out] at x0 x1 x2 x3 x4 x5
    clear hq hL3 l4 l1 l5 hE hW3
    refine callsIn_wide (n := 9) |>.1 ?_
    refine callsIn_of_wp_marks Try.func69 rfl trivial ?_ rfl
    simp only [Try.ntmps69, List.size_toArray, List.length_cons, List.length_nil, Nat.reduceAdd, Nat.reduceSub, Array.replicate_succ, Array.replicate_zero, List.push_toArray, List.append_toArray, List.nil_append, List.cons_append]
    refine wpIn_wide.2 ?_
    rw [hE0]
    go_wp2_with fail
    rw [HW3.out]
    refine ((callsIn_wide (n := 9)).1 (lop_in Fence.wide 9 trivial rfl #[.int .i64 b.roots, .slice A1 n1 c1, .slice A2 n2 c2, .int .i64 0, .slice A4 n4 c4, .slice A5 n5 c5] rfl W3)).mono ?_
    rintro e W0 ⟨rfl, hw8⟩
    have hbx : Hid (BoxAt W0 W3.heap.size 38 (.int .i64 b.roots) (.slice A1 n1 c1) (.slice A2 n2 c2) (.int .i64 0) (.slice A4 n4 c4) (.slice A5 n5 c5)) := Lib.hid (by rw [hw8]; exact six_new W3 _ _ _ _ _ _ _)
    have hb8 : Below W3.heap.size W3 W0 := by rw [hw8]; exact (Below.refl _ _).alloc (Nat.le_refl _) _
    have hz8 : W0.heap.size = w.heap.size + 4 := by rw [hw8]; simp; omega
    have bS8 : Hid (Boxed W0 (w.heap.size + 1 + 1) 24 (.slice (some ⟨w.heap.size + 1, 0, none⟩) n4 n4)) := Lib.hid ((hb8.block _ (by omega)).trans bS.out)
    have hRow8 : Hid (W0.rowIs (w.heap.size + 1) 3 n4 (cntF [])) := Lib.hid (hRow.out.of_block (hb8.block _ (by omega)))
    have HB8 := Lib.hid (HB3.out.trans (hb8.mono (by omega)))
    rw [hz3] at hbx
    clear hw8 hb8 x0 x1 x2 x3 x4 x5 hmk
    have hN8 := h1.below HB8.out
    have hI8 := h5.below HB8.out
    go_wp2_with fail
    refine wpIn_wide (n := 9) |>.1 ?_
    refine range_all rfl (by omega) (gf := 106) (lb := #[.pointer (some ⟨w.heap.size + 3, 0, none⟩)]) rfl trivial (enters_of Try.func106 (by kernel_rfl) rfl)
      (lop_gives (w.heap.size + 3) w.heap.size (w.heap.size + 1) A1 n1 c1 A5 n5 c5 _ _ _ _ b W0 (by omega) (by omega) (by omega) (by omega) hbx.out hN8 hI8 (by omega) (by omega) HL3.out) (Below.refl _ _) (by omega) (fun _ => rfl)
      (fun pre W' => W'.rowIs (w.heap.size + 1) 3 n4 (cntF pre) ∧ W0.grownBy W' (some (w.heap.size + 1)))
      (OwnFrom.and (fun s A B row hs hg hr => by
        refine World.rowIs.of_block hs (hg.block _ hs.lt (fun e => ?_))
        obtain ⟨-, o, ho, hc⟩ := hr _ e.symm
        obtain ⟨cur, hh, -⟩ := hs
        rw [hh] at ho
        injection ho with ho
        subst ho
        cases hc) (own_grown (Nat.le_refl _)))
      ⟨hRow8.out, World.grownBy.refl _ _⟩
      (fun z => { tmps := #[.agg #[.int .i64 b.roots, .slice A1 n1 c1, .slice A2 n2 c2, .int .i64 0, .slice A4 n4 c4, .slice A5 n5 c5], .pointer (some ⟨w.heap.size, 0, none⟩), .bool false, .pointer (some ⟨w.heap.size + 1 + 1, 0, none⟩), .int .i64 z, .pointer (some ⟨w.heap.size, 3, none⟩), .int .i64 0, .bool false, .pointer (some ⟨w.heap.size, 4, none⟩), .slice A4 n4 c4, .int .i64 n4, .slice (some ⟨w.heap.size + 1, 0, none⟩) n4 n4, .agg #[.int .i64 b.roots, .slice A1 n1 c1, .slice A2 n2 c2, .int .i64 0, .slice A4 n4 c4, .slice A5 n5 c5], .func (.func 106) #[] #[.pointer (some ⟨w.heap.size + 3, 0, none⟩)], .int .i64 z, undef, undef, undef, undef, undef, undef, undef, undef, undef], defers := [] }) ?assign ?body ?done
    case assign =>
      intro l z W' K hK
      gi_wp2
      exact hK
    case body =>
      rintro l pre z W' ⟨hr, hg⟩ ⟨hm, hlen⟩
      obtain ⟨hz0, hz1⟩ := HIn.out z hm
      obtain ⟨t, rfl⟩ : ∃ t : Nat, z = t := ⟨z.toNat, by omega⟩
      have ht : t < n4 := by omega
      have hbS := (hg.block _ (by omega) (fun e => by injection e with e; omega)).trans bS8.out
      have c2 := Boxed.cell (show Boxed W' (w.heap.size + 1 + 1) 24 (.slice (some ⟨w.heap.size + 1, 0, none⟩) n4 n4) from hbS)
      have c3 := hr.cell ht
      have hfz := hr.frozen t
      have hcl := List.count_le_length (a := (t : Int)) (l := pre)
      have HNx := Lib.hid (row_next (t := t) hr)
      have HG := Lib.hid hg
      unfold cntF at c3
      obtain ⟨q, hq⟩ : ∃ q, pre.count (t : Int) = q := ⟨_, rfl⟩
      rw [hq] at c3 HNx hcl
      have hw1 : IntKind.i64.wrap ((q : Int) + 1) = (q : Int) + 1 := IntWalk.i64_in _ (by omega)
      clear hr hg hm hbS hq
      gi_wp2
      exact ⟨set_grown _ _ _ _, HNx.out, HG.out.trans (set_grown _ _ _ _)⟩
    case done =>
      rintro D W' hD ⟨hr, hg⟩ hK
      have hsz := hg.size
      have hbS := (hg.block _ (by omega) (fun e => by injection e with e; omega)).trans bS8.out
      have c2 := Boxed.cell (show Boxed W' (w.heap.size + 1 + 1) 24 (.slice (some ⟨w.heap.size + 1, 0, none⟩) n4 n4) from hbS)
      have hDl := lt_of_block hK
      have hI : IntsAt W' W'.heap.size (some ⟨w.heap.size + 1, 0, none⟩) n4 ((List.range n4).map fun i : Nat => ((lks b).count (i : Int) : Int)) := SR.of_row hr hr.lt (fun k u hu => by
        have hk : k < n4 := by have := (List.getElem?_eq_some_iff.1 hu).1; simpa using this
        refine ⟨hk, ?_⟩
        rw [List.map_map, List.getElem?_map, List.getElem?_range hk] at hu
        simpa [cntF] using hu) (by simp)
      have CQ := nsc_any _ n4 n4 _ W' hI (by omega)
      rw [← HSg.out] at CQ
      have HBw := Lib.hid (HB8.out.trans ((Below.refl w.heap.size W0).grown hg (by omega) (fun k e => by injection e with e; omega)))
      have HK := Lib.hid hK
      have hDW : w.heap.size ≤ D := by omega
      clear hr hg hbS hK hI
      cases hq : sglB b with
      | false =>
        rw [hq] at CQ
        have HQ := Lib.hid hq
        clear hq
        go_wp2_with fail
        refine CQ.mono ?_
        rintro e w9 ⟨rfl, hb9⟩
        have HK9 := Lib.hid ((hb9.block D hDl).trans HK.out)
        have HB9 := Lib.hid (HBw.out.trans (hb9.mono HBw.out.size))
        clear CQ hb9 c2
        go_wp2_with fail
        refine ⟨by simp, .inl ⟨_, _, rfl, run_takeDeferred HK9.out, ?_⟩⟩
        refine ⟨_, results_tmp rfl _ _ _, ?_⟩
        exact ⟨by rw [HQ.out]; rfl, HB9.out.trans (belowK_b (w := w) (Nat.le_refl _) _ D _ _ hDW HK9.out rfl rfl)⟩
      | true =>
        rw [hq] at CQ
        have HQ := Lib.hid hq
        clear hq
        go_wp2_with fail
        refine CQ.mono ?_
        rintro e w9 ⟨rfl, hb9⟩
        have HK9 := Lib.hid ((hb9.block D hDl).trans HK.out)
        have HB9 := Lib.hid (HBw.out.trans (hb9.mono HBw.out.size))
        clear CQ hb9 c2
        go_wp2_with fail
        refine ⟨by simp, .inl ⟨_, _, rfl, run_takeDeferred HK9.out, ?_⟩⟩
        refine ⟨_, results_tmp rfl _ _ _, ?_⟩
        exact ⟨by rw [HQ.out]; rfl, HB9.out.trans (belowK_b (w := w) (Nat.le_refl _) _ D _ _ hDW HK9.out rfl rfl)⟩
end Go.Proofs.Ytlhickjlcmiknaa.dsi
