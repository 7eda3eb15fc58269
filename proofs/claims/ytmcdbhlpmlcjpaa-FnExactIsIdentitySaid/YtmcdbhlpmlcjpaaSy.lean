/- spec.l3Substitution; SubstitutionOf of spec and impl. -/
import Derived.Test.YtmcdbhlpmlcjpaaSx
import Derived.Test.YtmcdbhlpmlcjpaaSo
import Derived.Test.YtmcdbhlpmlcjpaaQe
namespace Go.Proofs.Ytmcdbhlpmlcjpaa.sy
open kit bg sg opn strs only hb sig isig un over gn nm inn ht gd im pt marks eqs hc hi hw hn rs br bm bw cf lf ib lawb lw cl pl mb wb nw cz ix su asc so sx
open Go.RowKit
set_option linter.unusedVariables false
set_option linter.unusedSimpArgs false
set_option maxRecDepth 20000 in
set_option maxHeartbeats 6400000 in
theorem ssub_any (A A' : Option Addr) (n c c' : Nat) (fr tt : List ByteArray) (w : World) (h : SR w w.heap.size A n (fr.map Value.string)) (h' : SR w w.heap.size A' n (tt.map Value.string)) (hn : n ≤ 1000000) :
    Calls Try.prog 60 #[.slice A n c, .slice A' n c'] w fun e w' => ∃ v, e = .returned v ∧ BigR w' w.heap.size w'.heap.size v (subB fr tt) ∧ Below w.heap.size w w' := by
  obtain ⟨i0, hi, hz0, hz1, hz2⟩ := info_parts wire_info
  have HI := Lib.hid (And.intro hi (And.intro hz0 (And.intro hz1 hz2)))
  have hb0 := (Below.refl w.heap.size w).alloc (Nat.le_refl _) (.cells #[.int .i64 0, .slice none 0 0, .slice none 0 0, .int .i64 0, .slice none 0 0, .slice none 0 0] 28)
  have HBx0 : Hid (BoxAt (w.alloc (.cells #[.int .i64 0, .slice none 0 0, .slice none 0 0, .int .i64 0, .slice none 0 0, .slice none 0 0] 28)) w.heap.size 28 (.int .i64 0) (.slice none 0 0) (.slice none 0 0) (.int .i64 0) (.slice none 0 0) (.slice none 0 0)) := Lib.hid (six_new w _ _ _ _ _ _ _)
  obtain ⟨W, hW⟩ : ∃ W, w.alloc (.cells #[.int .i64 0, .slice none 0 0, .slice none 0 0, .int .i64 0, .slice none 0 0, .slice none 0 0] 28) = W := ⟨_, rfl⟩
  have hWz : W.heap.size = w.heap.size + 1 := by rw [← hW]; simp
  rw [hW] at hb0 HBx0
  have HWq := Lib.hid hW
  have HB0 := Lib.hid hb0
  have HWz := Lib.hid hWz
  clear hW hb0 hWz hi hz0 hz1 hz2
  have HL := Lib.hid h.strlen
  have HL' := Lib.hid h'.strlen
  have HH := Lib.hid h
  have HH' := Lib.hid h'
  have HTi : Hid ((tied fr (idxL (sortU tt) tt)).length = n) := Lib.hid (by rw [sub_tied fr tt (by rw [h.strlen, h'.strlen]), h.strlen])
  have HSl := Lib.hid (sortU_len tt)
  clear h h'
  have CA := l2Sorted_any A' n c' tt W ((HH'.out.below HB0.out).wide HB0.out.size) (by omega)
  go_enter Try.func60, Try.ntmps60
  go_wp2_with fail
  rw [HWq.out]
  refine CA.mono ?_
  rintro e w1 ⟨A4, c4, rfl, hr4, hb1⟩
  clear CA
  have HB1 := Lib.hid (HB0.out.trans (hb1.mono HB0.out.size))
  have HBx1 := Lib.hid (HBx0.out.on hb1)
  have HR4 := Lib.hid (hr4.wide (lo' := w.heap.size) HB0.out.size (Nat.le_refl _))
  have hw1 : w.heap.size < w1.heap.size := by have := HWz.out; have := hb1.size; omega
  clear hr4 hb1
  obtain ⟨sl, hsl'⟩ : ∃ sl, (sortU tt).length = sl := ⟨_, rfl⟩
  have HSq := Lib.hid hsl'
  have hsl : sl ≤ 1048576 := by have := HSl.out; have := HL'.out; omega
  rw [hsl']
  clear hsl'
  have hbU := (Below.refl w1.heap.size w1).alloc (Nat.le_refl _) (.cells #[.int .i64 0, .slice none 0 0, .slice none 0 0, .int .i64 0, .slice A4 sl c4, .slice none 0 0] 28)
  have HBo : Hid (BoxAt (w1.alloc (.cells #[.int .i64 0, .slice none 0 0, .slice none 0 0, .int .i64 0, .slice A4 sl c4, .slice none 0 0] 28)) w1.heap.size 28 (.int .i64 0) (.slice none 0 0) (.slice none 0 0) (.int .i64 0) (.slice A4 sl c4) (.slice none 0 0)) := Lib.hid (six_new w1 _ _ _ _ _ _ _)
  obtain ⟨U, hU⟩ : ∃ U, w1.alloc (.cells #[.int .i64 0, .slice none 0 0, .slice none 0 0, .int .i64 0, .slice A4 sl c4, .slice none 0 0] 28) = U := ⟨_, rfl⟩
  have hUz : U.heap.size = w1.heap.size + 1 := by rw [← hU]; simp
  rw [hU] at hbU HBo
  have HUq := Lib.hid hU
  have HBU := Lib.hid hbU
  have HUz := Lib.hid hUz
  have HSL : Hid (∀ Y, Below w1.heap.size w1 Y → SR Y w1.heap.size A4 sl ((sortU tt).map Value.string)) := Lib.hid (fun Y hY => by have := strsR_at HR4.out; rw [HSq.out] at this; exact this.below hY)
  clear hU hbU hUz
  go_wp2_with fail
  rw [HUq.out]
  go_wp2_with fail
  go_loopw [7] (fun i wr => ∃ (k : Nat) (v : Value), k ≤ n ∧ i = .int .i64 k ∧ wr.ownsRow (w1.heap.size + 1) 93 2 v k (wcs ((tied fr (idxL (sortU tt) tt)).take k)) ∧ BoxAt wr w1.heap.size 28 (.int .i64 0) (.slice none 0 0) (.slice none 0 0) (.int .i64 0) (.slice A4 sl c4) v ∧ Below w1.heap.size w1 wr ∧ w1.heap.size + 1 ≤ wr.heap.size) (fun i _ => n - (intOf i).toNat)
  case atStart => exact ⟨0, .slice none 0 0, Nat.zero_le _, rfl, World.ownsRow_nil _ _ _ _, HBo.out, HBU.out, by have := HUz.out; omega⟩
  case round =>
    obtain ⟨k, v, hk, rfl, hown, hbo, hB, hsz⟩ := hrel
    rename World => wr
    by_cases hlt : k < n
    · obtain ⟨b1, o1, x, rfl, hbb, hx, c1⟩ := HH.out.str hlt
      obtain ⟨b2, o2, y, rfl, hbb2, hy, c2⟩ := HH'.out.str hlt
      have HBw := Lib.hid (HB1.out.trans (hB.mono HB1.out.size))
      have d1 := (HBw.out.cell (p := ⟨b1, o1 + k, none⟩) hbb).trans c1
      have d2 := (HBw.out.cell (p := ⟨b2, o2 + k, none⟩) hbb2).trans c2
      have hx5 := hbo.get.2.2.2.2.2
      have HAt := Lib.hid (fun (Y : World) (hY : Below w1.heap.size w1 Y) => l2At_any A4 sl c4 (sortU tt) y Y _ (HSL.out Y hY) hsl)
      have HTk : Hid (wcs ((tied fr (idxL (sortU tt) tt)).take (k + 1)) = wcs ((tied fr (idxL (sortU tt) tt)).take k) ++ [.string x, .int .i64 (ixF (sortU tt) y)]) := Lib.hid (by rw [take_snoc (tied_at hx (idx_at hy)), wcs_snoc])
      obtain ⟨D, hD⟩ : ∃ D, wcs ((tied fr (idxL (sortU tt) tt)).take k) = D := ⟨_, rfl⟩
      obtain ⟨z, hz⟩ : ∃ z, ixF (sortU tt) y = z := ⟨_, rfl⟩
      rw [hD] at hown HTk
      rw [hz] at HAt HTk
      have HO := Lib.hid hown
      have HBo' := Lib.hid hbo
      have HB' := Lib.hid hB
      have HS : Hid (∀ w', Below wr.heap.size wr w' → w'.cell? ⟨w1.heap.size, 5, none⟩ = some v ∧ (w'.cell? ⟨b1, o1 + k, none⟩ = some (.string x) ∧ w'.cell? ⟨b2, o2 + k, none⟩ = some (.string y))) := Lib.hid (fun w' hq => ⟨(HBo'.out.on hq).get.2.2.2.2.2, (hq.cell (p := ⟨b1, o1 + k, none⟩) (by dsimp only; have := HBw.out.size; omega)).trans d1, (hq.cell (p := ⟨b2, o2 + k, none⟩) (by dsimp only; have := HBw.out.size; omega)).trans d2⟩)
      have e1 : k + 1 ≤ maxLen := by unfold maxLen; omega
      have e2 : (k + 1) * 24 ≤ 140737488355328 := by omega
      have e4 : ∀ u ∈ [Value.string x, Value.int .i64 z], u.oneCell' = true := fun u hu => by
        simp at hu
        rcases hu with rfl | rfl <;> rfl
      have hkD := (Below.refl wr.heap.size wr).drew
      clear hx hy c1 c2 d1 d2 hD hz hown hbo hB hx5
      go_wp2_with fail
      refine rh.go_begin 16 (fun w' => w'.cell? ⟨w1.heap.size, 5, none⟩ = some v ∧ (w'.cell? ⟨b1, o1 + k, none⟩ = some (.string x) ∧ w'.cell? ⟨b2, o2 + k, none⟩ = some (.string y))) (by kernel_rfl) ?_ (fun hHeld => ?_)
      · ((try dsimp only); exact HS.out _ hkD)
      refine rh.go_take (i := 0) (v := ?v1) rfl (by kernel_rfl) (fun _ _ _ h => h) (Or.inl ⟨by rfl, ?hy1⟩) (by assumption) ?rest1
      case hy1 => (intro wS hSw; (try dsimp only at hSw); go_simp; try (with_reducible rfl))
      try simp only [Act.put, List.setIfInBounds_toArray, List.set_cons_zero, List.set_cons_succ]
      refine rh.go_take (i := 1) (v := ?v2) rfl (by kernel_rfl) (fun _ _ _ h => h) (Or.inl ⟨by rfl, ?hy2⟩) (by assumption) ?rest2
      case hy2 => (intro wS hSw; (try dsimp only at hSw); go_simp; try (with_reducible rfl))
      try simp only [Act.put, List.setIfInBounds_toArray, List.set_cons_zero, List.set_cons_succ]
      refine rh.go_take (i := 2) (v := ?v3) rfl (by kernel_rfl) (fun _ _ _ h => h) (Or.inl ⟨by rfl, ?hy3⟩) (by assumption) ?rest3
      case hy3 => (intro wS hSw; (try dsimp only at hSw); go_simp; try (with_reducible rfl))
      try simp only [Act.put, List.setIfInBounds_toArray, List.set_cons_zero, List.set_cons_succ]
      refine rh.go_take (i := 3) (v := ?v4) rfl (by kernel_rfl) (fun _ _ _ h => h) (Or.inl ⟨by rfl, ?hy4⟩) (by assumption) ?rest4
      case hy4 => (intro wS hSw; (try dsimp only at hSw); go_simp; try (with_reducible rfl))
      try simp only [Act.put, List.setIfInBounds_toArray, List.set_cons_zero, List.set_cons_succ]
      refine rh.go_take (i := 4) (v := ?v5) rfl (by kernel_rfl) (fun _ _ _ h => h) (Or.inl ⟨by rfl, ?hy5⟩) (by assumption) ?rest5
      case hy5 => (intro wS hSw; (try dsimp only at hSw); go_simp; try (with_reducible rfl))
      try simp only [Act.put, List.setIfInBounds_toArray, List.set_cons_zero, List.set_cons_succ]
      refine rh.go_take (i := 5) (v := ?v6) rfl (by kernel_rfl) (fun _ _ _ h => h) (Or.inl ⟨by rfl, ?hy6⟩) (by assumption) ?rest6
      case hy6 => (intro wS hSw; (try dsimp only at hSw); go_simp; try (with_reducible rfl))
      try simp only [Act.put, List.setIfInBounds_toArray, List.set_cons_zero, List.set_cons_succ]
      refine rh.go_take (i := 6) (v := ?v7) rfl (by kernel_rfl) (fun _ _ _ h => h) (Or.inl ⟨by rfl, ?hy7⟩) (by assumption) ?rest7
      case hy7 => (intro wS hSw; (try dsimp only at hSw); go_simp; try (with_reducible rfl))
      try simp only [Act.put, List.setIfInBounds_toArray, List.set_cons_zero, List.set_cons_succ]
      refine rh.go_take (i := 7) (v := ?v8) rfl (by kernel_rfl) (fun _ _ _ h => h) (Or.inl ⟨by rfl, ?hy8⟩) (by assumption) ?rest8
      case hy8 => (intro wS hSw; (try dsimp only at hSw); go_simp; try (with_reducible rfl))
      try simp only [Act.put, List.setIfInBounds_toArray, List.set_cons_zero, List.set_cons_succ]
      refine rh.go_take (i := 8) (v := ?v9) rfl (by kernel_rfl) (fun _ _ _ h => h) (Or.inl ⟨by rfl, ?hy9⟩) (by assumption) ?rest9
      case hy9 => (intro wS hSw; (try dsimp only at hSw); go_simp; try (with_reducible rfl))
      try simp only [Act.put, List.setIfInBounds_toArray, List.set_cons_zero, List.set_cons_succ]
      refine rh.go_take (i := 9) (v := ?v10) rfl (by kernel_rfl) (fun _ _ _ h => h) (Or.inl ⟨by rfl, ?hy10⟩) (by assumption) ?rest10
      case hy10 => (intro wS hSw; (try dsimp only at hSw); go_simp; try (with_reducible rfl))
      try simp only [Act.put, List.setIfInBounds_toArray, List.set_cons_zero, List.set_cons_succ]
      refine rh.go_take (i := 10) (v := ?v11) rfl (by kernel_rfl) (fun _ _ _ h => h) (Or.inl ⟨by rfl, ?hy11⟩) (by assumption) ?rest11
      case hy11 => (intro wS hSw; (try dsimp only at hSw); go_simp; try (with_reducible rfl))
      try simp only [Act.put, List.setIfInBounds_toArray, List.set_cons_zero, List.set_cons_succ]
      refine rh.go_next (i := 11) rfl (by kernel_rfl) (fun K2 hK => ?_)
      (go_simp; go_at_call 82; refine (HAt.out wr.drew (HB'.out.drew)).mono ?_; rintro e w5 ⟨rfl, rfl⟩; go_wp2_with fail)
      refine hK.out _ _ ?_ (fun hHeld => ?_)
      · ((try dsimp only); exact HS.out _ hkD)
      clear hK K2
      try simp only [Act.put, List.setIfInBounds_toArray, List.set_cons_zero, List.set_cons_succ]
      refine rh.go_take (i := 12) (v := ?v12) rfl (by kernel_rfl) (fun _ _ _ h => h) (Or.inl ⟨by rfl, ?hy12⟩) (by assumption) ?rest12
      case hy12 => (intro wS hSw; (try dsimp only at hSw); go_simp; try (with_reducible rfl))
      try simp only [Act.put, List.setIfInBounds_toArray, List.set_cons_zero, List.set_cons_succ]
      refine rh.go_next (i := 13) rfl (by kernel_rfl) (fun K2 hK => ?_)
      go_simp
      have hbA0 := hkD.alloc (Nat.le_refl _) (.cells #[.string x, .int .i64 z] 93)
      have e7 := cells_two_new wr (.string x) (.int .i64 z) 93
      refine hK.out _ _ ?_ (fun hHeld => ?_)
      · ((try dsimp only); exact HS.out _ hbA0)
      clear hK K2 hHeld
      try simp only [Act.put, List.setIfInBounds_toArray, List.set_cons_zero, List.set_cons_succ]
      have hbA : Below wr.heap.size wr (wr.alloc (.cells #[.string x, .int .i64 z] 93)).drew := hbA0
      have e7' : ∀ (j : Nat) u, [Value.string x, Value.int .i64 z][j]? = some u → (wr.alloc (.cells #[.string x, .int .i64 z] 93)).drew.cell? ((⟨wr.heap.size, 0, none⟩ : Addr).add j) = some u := e7
      have hoA := cz.owns_below HO.out hbA
      obtain ⟨W1, hW1⟩ : ∃ W1, (wr.alloc (.cells #[.string x, .int .i64 z] 93)).drew = W1 := ⟨_, rfl⟩
      rw [hW1] at hbA e7' hoA ⊢
      clear hW1 hbA0 e7
      have hboA := HBo'.out.on hbA
      have hBA := HB'.out.trans (hbA.mono HB'.out.size)
      have hlA := Nat.le_trans hsz hbA.size
      refine rh.go_next (i := 14) rfl (by kernel_rfl) (fun K2 hK => ?_)
      refine sa.step_append_own rfl _ _ 26 rfl (w1.heap.size + 1) 93 i0 (.agg #[.string ⟨#[]⟩, .int .i64 0]) 2 24 Try.underlying26 HI.out.1 HI.out.2.1 HI.out.2.2.1 HI.out.2.2.2 rfl (by decide) _ _ _ (by first | rfl | simp [Act.eval, Act.put]) hoA ⟨wr.heap.size, 0, none⟩ 1 1 [.string x, .int .i64 z] (by first | rfl | simp [Act.eval, Act.put]) rfl e7' e4 e1 e2 hlA ?_
      intro v1 W2 own1 grow1 nil1
      obtain ⟨Av, cv, rfl, -⟩ := rowR_owns own1
      have hne : ∀ r, v.ownBlock = some r → w1.heap.size + 1 ≤ r := fun r e => (hoA.lt r e).1
      have hbo2 : BoxAt W2 w1.heap.size 28 (.int .i64 0) (.slice none 0 0) (.slice none 0 0) (.int .i64 0) (.slice A4 sl c4) v := World.rowIs.of_block hboA (grow1.block w1.heap.size (by omega) (fun e => by have := hne _ e.symm; omega))
      have hB2 := hBA.grown grow1 (by omega) (fun r e => by have := hne r e; omega)
      have hcx : W2.cell? ⟨b1, o1 + k, none⟩ = some (.string x) := by
        rw [World.cell?_of_block (w := W1) (grow1.block b1 (by have := HBw.out.size; omega) (fun e => by have := hne _ e.symm; omega))]
        exact (HS.out _ hbA).2.1
      have hcy : W2.cell? ⟨b2, o2 + k, none⟩ = some (.string y) := by
        rw [World.cell?_of_block (w := W1) (grow1.block b2 (by have := HBw.out.size; omega) (fun e => by have := hne _ e.symm; omega))]
        exact (HS.out _ hbA).2.2
      refine hK.out _ _ ?_ (fun hHeld => ?_)
      · ((try dsimp only); exact ⟨hbo2.get.2.2.2.2.2, hcx, hcy⟩)
      have hl2 := Nat.le_trans hlA grow1.size
      clear hK K2 grow1 nil1 hcx hcy hboA hBA hoA e7'
      try simp only [Act.put, List.setIfInBounds_toArray, List.set_cons_zero, List.set_cons_succ]
      have g5 := World.rowIs.frozen hbo2 5
      have hx5 := hbo2.get.2.2.2.2.2
      have HO2 := Lib.hid own1
      have HBo2 := Lib.hid hbo2
      have HB2 := Lib.hid hB2
      clear own1 hbo2 hB2
      refine rh.go_take (i := 15) (v := ?v13) rfl (by kernel_rfl) (fun _ _ _ h => h) (Or.inl ⟨by rfl, ?hy13⟩) (by assumption) ?rest13
      case hy13 => (intro wS hSw; (try dsimp only at hSw); go_simp; try (with_reducible rfl))
      try simp only [Act.put, List.setIfInBounds_toArray, List.set_cons_zero, List.set_cons_succ]
      refine rh.go_last rfl (by kernel_rfl) (fun K2 hK => ?_)
      go_simp
      refine hK.out _ _ ?_
      refine NoPanic.normal ?_
      clear hK K2
      go_wp2_with fail
      go_roundw
      case rel => exact ⟨k + 1, _, by omega, by go_num, by rw [HTk.out]; exact owns_set HO2.out (by omega), HBo2.out.put5 _, HB2.out.setCell (p := ⟨w1.heap.size, 5, none⟩) (Nat.le_refl _) _, by simp [World.setCell]; omega⟩
      case measure => simp [intOf]; omega
    · obtain rfl : k = n := by omega
      rw [List.take_of_length_le (by rw [HTi.out]; exact Nat.le_refl _)] at hown
      obtain ⟨A', c', rfl, hrow⟩ := wrs_owned hown
      have hBw := HB1.out.trans (hB.mono HB1.out.size)
      have HR4' := Lib.hid (rowR_here (HR4.out.on hB))
      have HBig := Lib.hid (wiring_big (E := 0) HR4'.out (hrow.wide (lo' := w.heap.size) (by omega) (Nat.le_refl _)))
      have HBx := Lib.hid (HBx1.out.on hB)
      have HB := Lib.hid hBw
      rw [HTi.out, HSq.out] at HBig
      rw [HTi.out] at hbo
      obtain ⟨x0, x1, x2, x3, x4, x5⟩ := hbo.get
      clear hown hrow hbo hB hBw
      obtain ⟨z0, z1, z2, z3, z4, z5⟩ := HBx.out.get
      have f0 := World.rowIs.frozen HBx.out 0
      have f1 := World.rowIs.frozen HBx.out 1
      have f2 := World.rowIs.frozen HBx.out 2
      have f3 := World.rowIs.frozen HBx.out 3
      have f4 := World.rowIs.frozen HBx.out 4
      have f5 := World.rowIs.frozen HBx.out 5
      go_wp2_with fail
      have hbig := (sets6_big HBx.out HBig.out (.int .i64 0) (.slice none 0 0) (.slice none 0 0) (.int .i64 0) (.slice A4 sl c4) (.slice A' k c')).here
      have hbel := sets6_below HB.out (Nat.le_refl w.heap.size) (.int .i64 0) (.slice none 0 0) (.slice none 0 0) (.int .i64 0) (.slice A4 sl c4) (.slice A' k c')
      unfold sets6 at hbig hbel
      refine bodyPost_ret (v := .agg #[.int .i64 0, .slice none 0 0, .slice none 0 0, .int .i64 0, .slice A4 sl c4, .slice A' k c']) (by simp [results, Try.results60, go_sem, z0, z1, z2, z3, z4, z5]) rfl ⟨_, rfl, hbig, hbel⟩
end Go.Proofs.Ytmcdbhlpmlcjpaa.sy
