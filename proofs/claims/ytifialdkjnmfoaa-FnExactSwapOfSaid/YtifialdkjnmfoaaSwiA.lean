/- SwapOf of impl. -/
import Derived.Test.YtifialdkjnmfoaaSw
import Derived.Test.YtifialdkjnmfoaaCz
import Derived.Laws.CopyOwn
namespace Go.Proofs.Ytifialdkjnmfoaa.swi
open kit bg sg opn strs only hb sig inn ht marks eqs hc hi hw hn rs br bm bw cf lawb lw cl pl mb pm has sa pn cz sw
open Go.RowKit
set_option linter.unusedVariables false

theorem swp_eq : ∀ m : Fin 5, ∀ n : Fin 5, m.val + n.val ≤ 4 → splice (splice (List.replicate (m.val + n.val) (0 : Int)) 0 ((nums (m.val + n.val)).drop n.val)) m.val ((nums (m.val + n.val)).take n.val) = swapped m.val n.val := by decide
theorem addr_add (g o j : Nat) : (⟨g, o, none⟩ : Addr).add j = ⟨g, o + j, none⟩ := by simp [Addr.add]
theorem splice_map {α β : Type} (f : α → β) (L : List α) (o : Nat) (cs : List α) : (splice L o cs).map f = splice (L.map f) o (cs.map f) := by unfold splice; simp [List.map_append, List.map_take, List.map_drop]

theorem swp_at {w : World} {b m n S : Nat} (h : w.heap[b]? = some (.cells ((swapped m n).map (Value.int .i64)).toArray 3 (0, 0))) (hS : m + n = S) : IntsAt w w.heap.size (some ⟨b, 0, none⟩) S (swapped m n) := by
  have hr : w.rowIs b 3 S (iat (swapped m n)) := ⟨_, h, by simp [swp_len, hS], fun i hi => by
    have hlt : i < (swapped m n).length := by rw [swp_len]; omega
    rw [List.getElem?_toArray, List.getElem?_map, List.getElem?_eq_getElem hlt, Option.map_some, iat_of (List.getElem?_eq_getElem hlt)]⟩
  exact ints_row hr (Nat.le_refl _) hr.lt (by rw [swp_len, hS]) (fun _ _ => rfl)

set_option maxRecDepth 20000 in
set_option maxHeartbeats 6400000 in
theorem iSwp_mn (m : Nat) (n : Nat) (hm0 : 0 < m) (hn0 : 0 < n) (h4 : (m + n) ≤ 4) (R0 : Big) (w : World) (hR : placing ((m : Int) + (n : Int)) (turned (swapped m n)) = R0) :
    Calls Try.prog 48 #[.int .i64 (m : Int), .int .i64 (n : Int)] w (BigPost true R0 w) := by
  have hb0 := (Below.refl w.heap.size w).alloc (Nat.le_refl _) (.cells #[.int .i64 0, .slice none 0 0, .slice none 0 0, .int .i64 0, .slice none 0 0, .slice none 0 0] 39)
  have HBx0 : Hid (BoxAt (w.alloc (.cells #[.int .i64 0, .slice none 0 0, .slice none 0 0, .int .i64 0, .slice none 0 0, .slice none 0 0] 39)) w.heap.size 39 (.int .i64 0) (.slice none 0 0) (.slice none 0 0) (.int .i64 0) (.slice none 0 0) (.slice none 0 0)) := Lib.hid (six_new w _ _ _ _ _ _ _)
  obtain ⟨W, hW⟩ : ∃ W, w.alloc (.cells #[.int .i64 0, .slice none 0 0, .slice none 0 0, .int .i64 0, .slice none 0 0, .slice none 0 0] 39) = W := ⟨_, rfl⟩
  have hWz : W.heap.size = w.heap.size + 1 := by rw [← hW]; simp
  rw [hW] at hb0 HBx0
  have HWq := Lib.hid hW
  have HB0 := Lib.hid hb0
  have HWz := Lib.hid hWz
  clear hW hb0 hWz
  have CW := win_any (m : Int) 0 4 W
  have CW2 := win_any (n : Int) 0 (4 - (m : Int)) W
  rw [inb_mk (by omega)] at CW
  rw [inb_mk (by omega)] at CW2
  have hw4 : IntKind.i64.wrap (4 - (m : Int)) = 4 - (m : Int) := IntWalk.i64_in _ (by omega)
  have hwmn : IntKind.i64.wrap ((m : Int) + (n : Int)) = (m : Int) + (n : Int) := IntWalk.i64_in _ (by omega)
  have hmk := fun W => run_make_row' (P := Try.prog) 24 3 (.int .i64 0) 8 Try.underlying24 int_info rfl .i64 .i64 (m + n) (by omega) (by omega) W
  have CB := below_any (m + n) W (by omega)
  try rw [show (((m + n) : Nat) : Int) = (m : Int) + (n : Int) by omega] at hmk CB
  have HC := Lib.hid (fun (A : Option Addr) (c : Nat) (w2 : World) (h2 : IntsAt w2 w2.heap.size A (m + n) (swapped m n)) => hR ▸ placing_any A (m + n) c (swapped m n) ((m : Int) + (n : Int)) w2 h2 (by omega) (swp_in (by omega)))
  have hfe := congrArg (List.map (Value.int .i64)) (swp_eq ⟨m, by omega⟩ ⟨n, by omega⟩ (by show m + n ≤ 4; omega))
  dsimp only at hfe
  try simp only [Nat.zero_add, Nat.add_zero] at hfe
  have hZ := toList_madeCells_one (.int .i64 0) (m + n)
  obtain ⟨Z, hZe⟩ : ∃ Z, List.replicate (m + n) (Value.int .i64 0) = Z := ⟨_, rfl⟩
  rw [hZe] at hZ
  have hZl : Z.length = (m + n) := by rw [← hZe]; simp
  obtain ⟨X1, hX1⟩ : ∃ X, ((nums (m + n)).drop n).map (Value.int .i64) = X := ⟨_, rfl⟩
  obtain ⟨X2, hX2⟩ : ∃ X, ((nums (m + n)).take n).map (Value.int .i64) = X := ⟨_, rfl⟩
  have hl1 : X1.length = m := by
    have e : X1.length = (m + n) - n := by rw [← hX1, List.length_map, List.length_drop, nums_len]
    omega
  have hl2 : X2.length = n := by
    have e : X2.length = min n (m + n) := by rw [← hX2, List.length_map, List.length_take, nums_len]
    omega
  have o1 : ∀ v ∈ X1, v.oneCell' = true := fun v hv => by
    rw [← hX1] at hv
    obtain ⟨z, -, rfl⟩ := List.mem_map.1 hv
    rfl
  have o2 : ∀ v ∈ X2, v.oneCell' = true := fun v hv => by
    rw [← hX2] at hv
    obtain ⟨z, -, rfl⟩ := List.mem_map.1 hv
    rfl
  have hfin : splice (splice Z 0 X1) m X2 = (swapped m n).map (Value.int .i64) := by
    rw [splice_map, splice_map, List.map_replicate, hX1, hX2, hZe] at hfe
    exact hfe
  have hl3 : (splice Z 0 X1).length = (m + n) := by rw [length_splice _ _ _ (by omega), hZl]
  have HSz : Hid ((Try.prog.info? 3).map (·.size) = some 1) := Lib.hid (by
    obtain ⟨i0, hi, hz0, hz1, hz2⟩ := info_parts int_info
    rw [hi]; exact congrArg some hz1)
  have HN1 : Hid (X1.length = Nat.min m (m + n)) := Lib.hid (by rw [hl1]; exact (Nat.min_eq_left (by omega)).symm)
  have HF1 : Hid (0 + X1.length ≤ Z.length) := Lib.hid (by omega)
  have HN2 : Hid (X2.length = Nat.min n n) := Lib.hid (by rw [hl2]; exact (Nat.min_self _).symm)
  have HF2 : Hid (m + X2.length ≤ (splice Z 0 X1).length) := Lib.hid (by omega)
  have HO1 := Lib.hid o1
  have HO2 := Lib.hid o2
  have HFin := Lib.hid hfin
  have HX1 := Lib.hid hX1
  have HX2 := Lib.hid hX2
  have HL1 := Lib.hid hl1
  have HL2 := Lib.hid hl2
  have HZm := Lib.hid hZ
  clear hfe hZ hZe hZl hX1 hX2 hl1 hl2 hl3 o1 o2 hfin hR
  go_enter Try.func48, Try.ntmps48
  go_wp2_with fail
  rw [HWq.out]
  refine CW.mono ?_
  rintro e w1 ⟨rfl, rfl⟩
  clear CW
  go_wp2_with fail
  refine CW2.mono ?_
  rintro e w1 ⟨rfl, rfl⟩
  clear CW2
  go_wp2_with fail
  refine CB.mono ?_
  rintro e w1 ⟨g, rfl, hg1, hg2, hrow, hb1⟩
  clear CB
  have HBx1 := Lib.hid (HBx0.out.on hb1)
  have HB1 := Lib.hid (HB0.out.trans (hb1.mono HB0.out.size))
  clear hb1
  have HG0 : Hid ((w1.alloc (.cells (madeCells #[.int .i64 0] (m + n)) 3)).heap[w1.heap.size]? = some (.cells Z.toArray 3 (0, 0))) := Lib.hid (by rw [← HZm.out]; exact Go.Deep.blk_alloc_new _ _)
  have hbA := (Below.refl w1.heap.size w1).alloc (Nat.le_refl _) (.cells (madeCells #[.int .i64 0] (m + n)) 3)
  have src1 : ∀ (j : Nat) v, X1[j]? = some v → (w1.alloc (.cells (madeCells #[.int .i64 0] (m + n)) 3)).cell? ((⟨g, n, none⟩ : Addr).add j) = some v := fun j v hv => by
    rw [← HX1.out, List.getElem?_map, List.getElem?_drop] at hv
    obtain ⟨z, hz, rfl⟩ := Option.map_eq_some_iff.1 hv
    have hlt : n + j < (m + n) := by
      have := (List.getElem?_eq_some_iff.1 hz).1
      rw [nums_len] at this
      exact this
    have hc := hrow.cell hlt
    rw [iat_of hz] at hc
    rw [addr_add]
    exact (hbA.cell (p := ⟨g, n + j, none⟩) hg2).trans hc
  have src2 : ∀ w2 : World, Below w1.heap.size w1 w2 → ∀ (j : Nat) v, X2[j]? = some v → w2.cell? ((⟨g, 0, none⟩ : Addr).add j) = some v := fun w2 hb2 j v hv => by
    have hlt : j < n := by
      have := (List.getElem?_eq_some_iff.1 hv).1
      rw [HL2.out] at this
      exact this
    rw [← HX2.out, List.getElem?_map, List.getElem?_take, if_pos hlt] at hv
    obtain ⟨z, hz, rfl⟩ := Option.map_eq_some_iff.1 hv
    have hc := hrow.cell (i := j) (by omega)
    rw [iat_of hz] at hc
    rw [addr_add, Nat.zero_add]
    exact (hb2.cell (p := ⟨g, j, none⟩) hg2).trans hc
  have HSrc1 := Lib.hid src1
  have HSrc2 := Lib.hid src2
  have HbA := Lib.hid hbA
  clear hbA src1 src2 hrow hg1
  have hc1 : (m : Int) ≤ (m : Int) + (n : Int) := by omega
  have hc2 : (n : Int) ≤ (m : Int) + (n : Int) := by omega
  have hz1 : ¬ n = 0 := by omega
  have hz2 : ¬ m = 0 := by omega
  go_wp2_with (with_reducible show wpList _ _ _ _ _ _; go_loud (refine wpList_copy_splice (o := ⟨some 31, _, _, _, _, _⟩) rfl (.tmp 27) (.tmp 30) 24 24 rfl 3 Try.underlying24 HSz.out _ _ _ _ _ _ rfl rfl w1.heap.size 0 Z 3 HG0.out X1 HN1.out (fun _ => ⟨rfl, _, rfl, HSrc1.out⟩) HF1.out HO1.out w1.heap.size w1 HbA.out (Nat.le_refl _) ?_; intro w2 HG1 hb2; have Hb2 := Lib.hid hb2.drew; have HSrc3 := Lib.hid (HSrc2.out w2.drew hb2.drew); clear hb2))
  go_region_law (go_loud (refine step_copy_splice (o := ⟨some 38, _, _, _, _, _⟩) rfl (.tmp 34) (.tmp 37) 24 24 rfl 3 Try.underlying24 HSz.out _ _ _ _ _ _ (by first | rfl | simp [Act.eval, Act.put]) (by first | rfl | simp [Act.eval, Act.put]) w1.heap.size m (splice Z 0 X1) 3 HG1.out X2 HN2.out (fun _ => ⟨rfl, _, rfl, HSrc3.out⟩) HF2.out HO2.out w1.heap.size w1 Hb2.out (Nat.le_refl _) ?_; intro w3 HG2 hb3; have Hb3 := Lib.hid hb3; clear hb3))
  go_wp2_with fail
  have hg3 := HG2.out
  rw [HFin.out] at hg3
  refine (HC.out _ (m + n) w3 (swp_at hg3 (by omega))).mono ?_
  rintro e w4 ⟨v, rfl, hr, hb4⟩
  have hbx3 := HBx1.out.on Hb3.out
  have HBx2 := Lib.hid (hbx3.on hb4)
  have hB3 := HB1.out.trans (Hb3.out.mono HB1.out.size)
  have HB2 := Lib.hid (hB3.trans (hb4.mono hB3.size))
  obtain ⟨B1, d1, B2, d2, B4, d4, B5, d5, rfl⟩ := hr.shape
  have HRr := Lib.hid (hr.wide (lo' := w.heap.size) hB3.size (Nat.le_refl _))
  clear hr hb4 hbx3 hB3 hg3
  obtain ⟨z0, z1, z2, z3, z4, z5⟩ := HBx2.out.get
  have f0 := World.rowIs.frozen HBx2.out 0
  have f1 := World.rowIs.frozen HBx2.out 1
  have f2 := World.rowIs.frozen HBx2.out 2
  have f3 := World.rowIs.frozen HBx2.out 3
  have f4 := World.rowIs.frozen HBx2.out 4
  have f5 := World.rowIs.frozen HBx2.out 5
  go_wp2_with fail
  have hbig := (sets6_big HBx2.out HRr.out (.int .i64 R0.roots) (.slice B1 R0.nodes.length d1) (.slice B2 R0.sites.length d2) (.int .i64 R0.edges) (.slice B4 R0.outer.length d4) (.slice B5 R0.inner.length d5)).here
  have hbel := sets6_below HB2.out (Nat.le_refl w.heap.size) (.int .i64 R0.roots) (.slice B1 R0.nodes.length d1) (.slice B2 R0.sites.length d2) (.int .i64 R0.edges) (.slice B4 R0.outer.length d4) (.slice B5 R0.inner.length d5)
  unfold sets6 at hbig hbel
  refine bodyPost_ret (v := .tuple #[.agg #[.int .i64 R0.roots, .slice B1 R0.nodes.length d1, .slice B2 R0.sites.length d2, .int .i64 R0.edges, .slice B4 R0.outer.length d4, .slice B5 R0.inner.length d5], .bool true]) (by simp [results, Try.results48, go_sem, z0, z1, z2, z3, z4, z5]) rfl ⟨_, rfl, hbig, hbel⟩

end Go.Proofs.Ytifialdkjnmfoaa.swi
