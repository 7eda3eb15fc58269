/- spec.l4Wires: the inner names with other links. -/
import Derived.Test.YtlpgldejmdiceabGreatEk
import Derived.Test.YtlpgldejmdiceabGreatQg
import Derived.Test.YtlpgldejmdiceabGreatQe
import Derived.Handy
namespace Go.Proofs.YtlpgldejmdiceabGreat.wk
open kit bg sg opn strs only hb sig isig un over gn nm inn ht gd im pt marks eqs hc hi hw hn rs br bm bw cf lf ib isa lawb lw cl pl mb sb wb ek rn rnm tp
open Go.RowKit
set_option linter.unusedVariables false
set_option linter.unusedSimpArgs false
/-- the link in a list -/
def lkF (lks : List Int) (l : Int) : Int := (lks[l.toNat]?).getD 0
theorem lkF_get {lks : List Int} {l : Nat} {z : Int} (h : lks[l]? = some z) : lkF lks l = z := by unfold lkF; rw [Int.toNat_natCast, h]; rfl
def wrK (b : Big) (lks : List Int) : List Wr := b.inner.map (fun x => ⟨x.name, lkF lks x.link⟩)
set_option maxRecDepth 20000 in
set_option maxHeartbeats 3200000 in
theorem wrk_any (v : Value) (b : Big) (Ak : Option Addr) (nk ck : Nat) (lks : List Int) (w : World) (hv : BigAt w w.heap.size v b) (hk : IntsAt w w.heap.size Ak nk lks) (hnk : nk ≤ 1048576) (hn : b.inner.length ≤ 16) (hl : ∀ x ∈ b.inner, 0 ≤ x.link ∧ x.link < nk) :
    Calls Tryz.prog 103 #[v, .slice Ak nk ck] w fun e w' => ∃ A' c', e = .returned (.slice A' b.inner.length c') ∧ RowR w' w.heap.size w'.heap.size 80 2 A' b.inner.length c' (wic (wrK b lks)) ∧ Below w.heap.size w w' := by
  obtain ⟨A1, n1, c1, A2, n2, c2, A4, n4, c4, A5, n5, c5, rfl, h1, h2, h4, h5⟩ := hv
  have hl5 : b.inner.length = n5 := h5.1
  have HL5 := Lib.hid hl5
  rw [hl5] at hn ⊢
  have HBox0 : Hid (BoxAt (w.alloc (.cells #[.int .i64 b.roots, .slice A1 n1 c1, .slice A2 n2 c2, .int .i64 b.edges, .slice A4 n4 c4, .slice A5 n5 c5] 31)) w.heap.size 31 (.int .i64 b.roots) (.slice A1 n1 c1) (.slice A2 n2 c2) (.int .i64 b.edges) (.slice A4 n4 c4) (.slice A5 n5 c5)) := Lib.hid (six_new w _ _ _ _ _ _ _)
  have hb0 := (Below.refl w.heap.size w).alloc (Nat.le_refl _) (.cells #[.int .i64 b.roots, .slice A1 n1 c1, .slice A2 n2 c2, .int .i64 b.edges, .slice A4 n4 c4, .slice A5 n5 c5] 31)
  obtain ⟨U, hU⟩ : ∃ U, w.alloc (.cells #[.int .i64 b.roots, .slice A1 n1 c1, .slice A2 n2 c2, .int .i64 b.edges, .slice A4 n4 c4, .slice A5 n5 c5] 31) = U := ⟨_, rfl⟩
  have hUz : U.heap.size = w.heap.size + 1 := by rw [← hU]; simp
  rw [hU] at HBox0 hb0
  have HUq := Lib.hid hU
  have HB0 := Lib.hid hb0
  obtain ⟨i2, hi, hz0, hz1, hz2⟩ := info_parts wire_info
  have HI2 := Lib.hid (And.intro hi (And.intro hz0 (And.intro hz1 hz2)))
  have HOt := Lib.hid (ownsRow_nil_new U 80 2 U.heap.size (Nat.le_refl _))
  rw [hUz] at HOt
  have HbV := Lib.hid ((Below.refl U.heap.size U).alloc (Nat.le_refl _) (.cells #[] 80))
  have HLk := Lib.hid hl
  have HK := Lib.hid hk
  have HWl : Hid ((wrK b lks).length = n5) := Lib.hid (by unfold wrK; rw [List.length_map]; exact hl5)
  clear hb0 hU hi hz0 hz1 hz2 hl hk hl5
  go_enter Tryz.func103, Tryz.ntmps103
  go_wp2_with fail
  rw [HUq.out]
  have hWs : w.heap.size < U.heap.size := by omega
  clear HUq
  go_loopw [5, 6] (fun l i wr => ∃ (k : Nat) (v : Value), k ≤ n5 ∧ i = .int .i64 k ∧ v = l ∧ wr.ownsRow (w.heap.size + 1) 80 2 v k (wcs ((wrK b lks).take k)) ∧ Below U.heap.size U wr) (fun _ i _ => n5 - (intOf i).toNat)
  case atStart => exact ⟨0, _, Nat.zero_le _, rfl, rfl, HOt.out, HbV.out⟩
  case round =>
    obtain ⟨k, v, hk, rfl, rfl, hown, hbel⟩ := hrel
    have hbw := HB0.out.trans (hbel.mono HB0.out.size)
    have hwU := hbel.size
    obtain ⟨x0, x1, x2, x3, x4, x5⟩ := (HBox0.out.below hbel hWs).get
    by_cases hlt : k < n5
    · obtain ⟨bs, offs, z, rfl, hbs, hz, cz0, cz1⟩ := h5.get hlt
      have hzl := HLk.out z (List.mem_of_getElem? hz)
      obtain ⟨zn, zl⟩ := z
      dsimp only at hzl cz0 cz1
      obtain ⟨li, rfl⟩ : ∃ li : Nat, zl = li := ⟨zl.toNat, by omega⟩
      have hlin : li < nk := by omega
      obtain ⟨bk, ok, T, rfl, hbk, hT, ct⟩ := HK.out.get hlin
      have HTk2 : Hid (wcs ((wrK b lks).take (k + 1)) = wcs ((wrK b lks).take k) ++ [.string zn, .int .i64 T]) := Lib.hid (by
        have e : (wrK b lks)[k]? = some ⟨zn, T⟩ := by unfold wrK; rw [List.getElem?_map, hz]; show some (⟨zn, lkF lks (li : Int)⟩ : Wr) = _; rw [lkF_get hT]
        rw [List.take_add_one, e]
        exact wcs_snoc _ _)
      obtain ⟨D, hD⟩ : ∃ D, wcs ((wrK b lks).take k) = D := ⟨_, rfl⟩
      rw [hD] at hown HTk2
      have q0 := (hbw.cell (p := ⟨bs, offs + k * 2, none⟩) hbs).trans cz0
      have q1 := (hbw.cell (p := ⟨bs, offs + k * 2 + 1, none⟩) hbs).trans cz1
      have q2 := (hbw.cell (p := ⟨bk, ok + li, none⟩) hbk).trans ct
      have hwr := hbw.size
      have HBl := Lib.hid hbel
      have HS : Hid (∀ w', Below U.heap.size U w' → w'.cell? ⟨w.heap.size, 5, none⟩ = some (.slice (some ⟨bs, offs, none⟩) n5 c5) ∧ w'.cell? ⟨bs, offs + k * 2, none⟩ = some (.string zn) ∧ w'.cell? ⟨bs, offs + k * 2 + 1, none⟩ = some (.int .i64 (li : Int)) ∧ w'.cell? ⟨bk, ok + li, none⟩ = some (.int .i64 T)) := Lib.hid (fun w' hq => by
        have hqw := HB0.out.trans (hq.mono HB0.out.size)
        exact ⟨(HBox0.out.below hq hWs).get.2.2.2.2.2, (hqw.cell (p := ⟨bs, offs + k * 2, none⟩) hbs).trans cz0, (hqw.cell (p := ⟨bs, offs + k * 2 + 1, none⟩) hbs).trans cz1, (hqw.cell (p := ⟨bk, ok + li, none⟩) hbk).trans ct⟩)
      have e1 : k + 1 ≤ maxLen := by unfold maxLen; omega
      have e2 : (k + 1) * 24 ≤ 140737488355328 := by omega
      have e4' : ∀ u ∈ [Value.string zn, Value.int .i64 T], u.oneCell' = true := fun u hu => by
        simp at hu
        rcases hu with rfl | rfl <;> rfl
      have hkD := hbel.drew
      have hkW := ((Below.refl wr.heap.size wr).drew).alloc (Nat.le_refl _) (.cells #[.string zn, .int .i64 T] 80)
      have hkA := hkD.alloc hkD.size (.cells #[.string zn, .int .i64 T] 80)
      have HkA := Lib.hid hkA
      have HOA := Lib.hid (owns_on hown hkW)
      have e3 : w.heap.size + 1 ≤ (wr.drew.alloc (.cells #[.string zn, .int .i64 T] 80)).heap.size := by have := hkA.size; omega
      have HGr := Lib.hid (fun (w1 : World) (hg1 : (wr.drew.alloc (.cells #[.string zn, .int .i64 T] 80)).grownBy w1 v.ownBlock) => hkA.grown hg1 hkA.size (fun j hj => by have := (hown.lt j hj).1; omega))
      clear hz cz0 cz1 hT ct hown hD hkA hzl hkW
      go_wp2_with fail
      clear x0 x1 x2 x3 x4 x5 q0 q1 q2
      refine rh.go_begin 19 (fun w' => w'.cell? ⟨w.heap.size, 5, none⟩ = some (.slice (some ⟨bs, offs, none⟩) n5 c5) ∧ w'.cell? ⟨bs, offs + k * 2, none⟩ = some (.string zn) ∧ w'.cell? ⟨bs, offs + k * 2 + 1, none⟩ = some (.int .i64 (li : Int)) ∧ w'.cell? ⟨bk, ok + li, none⟩ = some (.int .i64 T)) (by kernel_rfl) ?_ (fun hHeld => ?_)
      · ((try dsimp only); exact HS.out _ (by go_grown))
      refine rh.go_take (i := 0) (v := ?v1) rfl (by kernel_rfl) (fun _ _ _ h => h) (Or.inl ⟨by rfl, ?hy1⟩) (by assumption) ?rest1
      case hy1 => (intro wS hSw; (try dsimp only at hSw); go_simp; try (with_reducible rfl))
      try simp only [Act.put, List.setIfInBounds_toArray, List.set_cons_zero, List.set_cons_succ]
      refine rh.go_take (i := 1) (v := ?v2) rfl (by kernel_rfl) (fun _ _ _ h => h) (Or.inl ⟨by rfl, ?hy2⟩) (by assumption) ?rest2
      case hy2 => (intro wS hSw; (try dsimp only at hSw); go_simp; try (with_reducible rfl))
      try simp only [Act.put, List.setIfInBounds_toArray, List.set_cons_zero, List.set_cons_succ]
      refine rh.go_take (i := 2) (v := ?v3) rfl (by kernel_rfl) (fun _ _ _ h => h) (Or.inl ⟨by rfl, ?hy3⟩) (by assumption) ?rest3
      case hy3 => (intro wS hSw; (try dsimp only at hSw); go_simp; try (with_reducible rfl))
      try simp only [Act.put, List.setIfInBounds_toArray, List.set_cons_zero, List.set_cons_succ]
      refine rh.go_take (i := 3) (v := ?v4) rfl (by kernel_rfl) (fun _ _ _ h => h) (Or.inl ⟨by rfl, ?hy4⟩) (by assumption) ?rest4
      case hy4 => (intro wS hSw; (try dsimp only at hSw); go_simp; try (with_reducible rfl))
      try simp only [Act.put, List.setIfInBounds_toArray, List.set_cons_zero, List.set_cons_succ]
      refine rh.go_take (i := 4) (v := ?v5) rfl (by kernel_rfl) (fun _ _ _ h => h) (Or.inl ⟨by rfl, ?hy5⟩) (by assumption) ?rest5
      case hy5 => (intro wS hSw; (try dsimp only at hSw); go_simp; try (with_reducible rfl))
      try simp only [Act.put, List.setIfInBounds_toArray, List.set_cons_zero, List.set_cons_succ]
      refine rh.go_take (i := 5) (v := ?v6) rfl (by kernel_rfl) (fun _ _ _ h => h) (Or.inl ⟨by rfl, ?hy6⟩) (by assumption) ?rest6
      case hy6 => (intro wS hSw; (try dsimp only at hSw); go_simp; try (with_reducible rfl))
      try simp only [Act.put, List.setIfInBounds_toArray, List.set_cons_zero, List.set_cons_succ]
      refine rh.go_take (i := 6) (v := ?v7) rfl (by kernel_rfl) (fun _ _ _ h => h) (Or.inl ⟨by rfl, ?hy7⟩) (by assumption) ?rest7
      case hy7 => (intro wS hSw; (try dsimp only at hSw); go_simp; try (with_reducible rfl))
      try simp only [Act.put, List.setIfInBounds_toArray, List.set_cons_zero, List.set_cons_succ]
      refine rh.go_take (i := 7) (v := ?v8) rfl (by kernel_rfl) (fun _ _ _ h => h) (Or.inl ⟨by rfl, ?hy8⟩) (by assumption) ?rest8
      case hy8 => (intro wS hSw; (try dsimp only at hSw); go_simp; try (with_reducible rfl))
      try simp only [Act.put, List.setIfInBounds_toArray, List.set_cons_zero, List.set_cons_succ]
      refine rh.go_take (i := 8) (v := ?v9) rfl (by kernel_rfl) (fun _ _ _ h => h) (Or.inl ⟨by rfl, ?hy9⟩) (by assumption) ?rest9
      case hy9 => (intro wS hSw; (try dsimp only at hSw); go_simp; try (with_reducible rfl))
      try simp only [Act.put, List.setIfInBounds_toArray, List.set_cons_zero, List.set_cons_succ]
      refine rh.go_take (i := 9) (v := ?v10) rfl (by kernel_rfl) (fun _ _ _ h => h) (Or.inl ⟨by rfl, ?hy10⟩) (by assumption) ?rest10
      case hy10 => (intro wS hSw; (try dsimp only at hSw); go_simp; try (with_reducible rfl))
      try simp only [Act.put, List.setIfInBounds_toArray, List.set_cons_zero, List.set_cons_succ]
      refine rh.go_take (i := 10) (v := ?v11) rfl (by kernel_rfl) (fun _ _ _ h => h) (Or.inl ⟨by rfl, ?hy11⟩) (by assumption) ?rest11
      case hy11 => (intro wS hSw; (try dsimp only at hSw); go_simp; try (with_reducible rfl))
      try simp only [Act.put, List.setIfInBounds_toArray, List.set_cons_zero, List.set_cons_succ]
      refine rh.go_take (i := 11) (v := ?v12) rfl (by kernel_rfl) (fun _ _ _ h => h) (Or.inl ⟨by rfl, ?hy12⟩) (by assumption) ?rest12
      case hy12 => (intro wS hSw; (try dsimp only at hSw); go_simp; try (with_reducible rfl))
      try simp only [Act.put, List.setIfInBounds_toArray, List.set_cons_zero, List.set_cons_succ]
      refine rh.go_take (i := 12) (v := ?v13) rfl (by kernel_rfl) (fun _ _ _ h => h) (Or.inl ⟨by rfl, ?hy13⟩) (by assumption) ?rest13
      case hy13 => (intro wS hSw; (try dsimp only at hSw); go_simp; try (with_reducible rfl))
      try simp only [Act.put, List.setIfInBounds_toArray, List.set_cons_zero, List.set_cons_succ]
      refine rh.go_take (i := 13) (v := ?v14) rfl (by kernel_rfl) (fun _ _ _ h => h) (Or.inl ⟨by rfl, ?hy14⟩) (by assumption) ?rest14
      case hy14 => (intro wS hSw; (try dsimp only at hSw); go_simp; try (with_reducible rfl))
      try simp only [Act.put, List.setIfInBounds_toArray, List.set_cons_zero, List.set_cons_succ]
      refine rh.go_take (i := 14) (v := ?v15) rfl (by kernel_rfl) (fun _ _ _ h => h) (Or.inl ⟨by rfl, ?hy15⟩) (by assumption) ?rest15
      case hy15 => (intro wS hSw; (try dsimp only at hSw); go_simp; try (with_reducible rfl))
      try simp only [Act.put, List.setIfInBounds_toArray, List.set_cons_zero, List.set_cons_succ]
      refine rh.go_take (i := 15) (v := ?v16) rfl (by kernel_rfl) (fun _ _ _ h => h) (Or.inl ⟨by rfl, ?hy16⟩) (by assumption) ?rest16
      case hy16 => (intro wS hSw; (try dsimp only at hSw); go_simp; try (with_reducible rfl))
      try simp only [Act.put, List.setIfInBounds_toArray, List.set_cons_zero, List.set_cons_succ]
      refine rh.go_take (i := 16) (v := ?v17) rfl (by kernel_rfl) (fun _ _ _ h => h) (Or.inl ⟨by rfl, ?hy17⟩) (by assumption) ?rest17
      case hy17 => (intro wS hSw; (try dsimp only at hSw); go_simp; try (with_reducible rfl))
      try simp only [Act.put, List.setIfInBounds_toArray, List.set_cons_zero, List.set_cons_succ]
      refine rh.go_next (i := 17) rfl (by kernel_rfl) (fun K2 hK => ?_)
      go_simp
      refine hK.out _ _ ?_ (fun hHeld => ?_)
      · ((try dsimp only); exact HS.out _ (by go_grown))
      clear hK K2
      try simp only [Act.put, List.setIfInBounds_toArray, List.set_cons_zero, List.set_cons_succ]
      refine rh.go_next (i := 18) rfl (by kernel_rfl) (fun K2 hK => ?_)
      (refine step_append_own rfl _ _ 29 rfl (w.heap.size + 1) 80 i2 (.agg #[.string ⟨#[]⟩, .int .i64 0]) 2 24 Tryz.underlying29 HI2.out.1 HI2.out.2.1 HI2.out.2.2.1 HI2.out.2.2.2 rfl (by decide) _ _ _ (by first | rfl | simp [Act.eval, Act.put]) HOA.out ⟨wr.drew.heap.size, 0, none⟩ 1 1 [.string zn, .int .i64 T] (by first | rfl | simp [Act.eval, Act.put]) rfl (cells_two_new wr.drew (.string zn) (.int .i64 T) 80) e4' e1 e2 e3 ?_; intro v1 w5 hown1 hgrow1 hnil1; have HOw5 := Lib.hid hown1; have hq5 := HGr.out _ hgrow1; clear hgrow1 hnil1 hown1; (try go_simp))
      refine hK.out _ _ ?_ (fun hHeld => ?_)
      · ((try dsimp only); exact HS.out _ (by go_grown))
      clear hK K2
      try simp only [Act.put, List.setIfInBounds_toArray, List.set_cons_zero, List.set_cons_succ]
      refine rh.go_last rfl (by kernel_rfl) (fun K2 hK => ?_)
      go_simp
      refine hK.out _ _ ?_
      refine NoPanic.normal ?_
      clear hK K2
      go_wp2_with fail
      go_roundw
      case rel => exact ⟨k + 1, _, by omega, by go_num, rfl, by rw [HTk2.out]; exact HOw5.out, hq5⟩
      case measure => simp [intOf]; omega
    · obtain rfl : n5 = k := by omega
      rw [List.take_of_length_le (by rw [HWl.out]; exact Nat.le_refl _)] at hown
      obtain ⟨A5o, c5o, rfl, hrs⟩ := wrs_owned hown
      rw [HWl.out] at hrs ⊢
      have HR := Lib.hid (hrs.wide (lo' := w.heap.size) (Nat.le_succ _) (Nat.le_refl _))
      have HBw := Lib.hid hbw
      clear hown hrs hbel hbw
      go_wp2_with fail
      go_ret
      exact ⟨_, _, rfl, HR.out, HBw.out⟩
end Go.Proofs.YtlpgldejmdiceabGreat.wk
