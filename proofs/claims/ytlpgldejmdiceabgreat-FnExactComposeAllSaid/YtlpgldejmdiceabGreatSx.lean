/- Names and their indices: spec.l3AllNames, impl.indicesIn, impl.substitutionOf. -/
import Derived.Test.YtlpgldejmdiceabGreatIx
import Derived.Test.YtlpgldejmdiceabGreatAsc
import Derived.Test.YtlpgldejmdiceabGreatCz
namespace Go.Proofs.YtlpgldejmdiceabGreat.sx
open kit bg sg opn strs only hb sig isig un over gn nm inn ht gd im pt marks eqs hc hi hw hn rs br bm bw cf lf ib lawb lw cl pl mb wb nw sa cz ix su asc
open Go.RowKit
set_option linter.unusedVariables false
/-- all strings are names -/
noncomputable def allB (ss : List ByteArray) : Bool := ss.all nameB
theorem all_yes {ss : List ByteArray} (h : ∀ s ∈ ss, nameB s = true) : allB ss = true := List.all_eq_true.2 h
theorem all_no {ss : List ByteArray} {s : ByteArray} (hs : s ∈ ss) (h : nameB s = false) : allB ss = false := List.all_eq_false.2 ⟨s, hs, by simp [h]⟩
theorem all_sort (ss : List ByteArray) : namesB (sortU ss) = allB ss := by
  cases h : allB ss with
  | true => exact names_true (sortU_names.2 (List.all_eq_true.1 h))
  | false => exact names_false (fun hp => by rw [all_yes (sortU_names.1 hp)] at h; cases h)
/-- the indices of names in a list -/
noncomputable def idxL (ls es : List ByteArray) : List Int := es.map (ixF ls)
theorem idx_at {ls es : List ByteArray} {k : Nat} {s : ByteArray} (h : es[k]? = some s) : (idxL ls es)[k]? = some (ixF ls s) := by unfold idxL; rw [List.getElem?_map, h]; rfl
theorem idx_len (ls es : List ByteArray) : (idxL ls es).length = es.length := by unfold idxL; rw [List.length_map]
set_option maxHeartbeats 800000 in
theorem idxs_any (A A' : Option Addr) (n c m c' : Nat) (ls es : List ByteArray) (w : World) (h : SR w w.heap.size A n (ls.map Value.string)) (h' : SR w w.heap.size A' m (es.map Value.string)) (hn : n ≤ 1048576) (hm : m ≤ 1048576) :
    Calls Tryz.prog 84 #[.slice A n c, .slice A' m c'] w fun e w' => ∃ g, e = .returned (.slice (some ⟨g, 0, none⟩) m m) ∧ w.heap.size ≤ g ∧ g < w'.heap.size ∧ w'.rowIs g 3 m (iat (idxL ls es)) ∧ Below w.heap.size w w' := by
  have hmk := fun W => run_make_row' (P := Tryz.prog) 27 3 (.int .i64 0) 8 Tryz.underlying27 int_info rfl .i64 .i64 m (by omega) (by omega) W
  have HL := Lib.hid h
  go_enter Tryz.func84, Tryz.ntmps84
  go_wp2_with fail
  clear hmk
  go_loopw [13] (fun i wr => ∃ k : Nat, k ≤ m ∧ i = .int .i64 k ∧ wr.rowIs w.heap.size 3 m (fun j => if j < k then iat (idxL ls es) j else .int .i64 0) ∧ Below w.heap.size w wr) (fun i _ => m - (intOf i).toNat)
  case atStart => exact ⟨0, Nat.zero_le _, rfl, (World.rowIs_made w (.int .i64 0) m 3).congr (fun _ _ => by simp), (Below.refl _ _).alloc (Nat.le_refl _) _⟩
  case round =>
    obtain ⟨k, hk, rfl, hrow, hbel⟩ := hrel
    by_cases hlt : k < m
    · obtain ⟨b, off, u, rfl, hbb, hx, hc⟩ := h'.str hlt
      have hcx := (hbel.cell (p := ⟨b, off + k, none⟩) hbb).trans hc
      have CI := index_any A n c ls u wr _ (HL.out.below hbel) hn
      have HA : Hid (iat (idxL ls es) k = .int .i64 (ixF ls u)) := Lib.hid (iat_of (idx_at hx))
      obtain ⟨z, hz⟩ : ∃ z, ixF ls u = z := ⟨_, rfl⟩
      rw [hz] at CI HA
      have hcell := hrow.cell hlt
      have hfz := hrow.frozen k
      have HRow := Lib.hid (hrow.set k (.int .i64 z))
      have HB := Lib.hid (hbel.setCell (p := ⟨w.heap.size, k, none⟩) (Nat.le_refl _) (.int .i64 z))
      clear hrow hbel hx hc hz
      go_wp2_with fail
      refine CI.mono ?_
      rintro e w1 ⟨rfl, rfl⟩
      clear CI
      go_wp2_with fail
      go_roundw
      case rel =>
        refine ⟨k + 1, by omega, by go_num, HRow.out.congr (fun j hj => ?_), HB.out⟩
        show (if j = k then _ else if j < k then _ else _) = if j < k + 1 then _ else _
        by_cases e : j = k
        · subst e; rw [if_pos rfl, if_pos (by omega), HA.out]
        · rw [if_neg e]
          by_cases e2 : j < k
          · rw [if_pos e2, if_pos (by omega)]
          · rw [if_neg e2, if_neg (by omega)]
      case measure => simp [intOf]; omega
    · obtain rfl : k = m := by omega
      have HRw := Lib.hid (hrow.congr (g := iat (idxL ls es)) (fun j hj => if_pos hj))
      clear hrow
      go_wp2_with fail
      go_ret
      exact ⟨_, rfl, Nat.le_refl _, HRw.out.lt, HRw.out, hbel⟩
/-- a substitution -/
noncomputable def subB (fr tt : List ByteArray) : Big := wiring 0 (sortU tt) (tied fr (idxL (sortU tt) tt))
theorem sub_tied (fr tt : List ByteArray) (h : tt.length = fr.length) : (tied fr (idxL (sortU tt) tt)).length = fr.length := tied_len (by rw [idx_len, h])
set_option maxRecDepth 20000 in
set_option maxHeartbeats 1600000 in
theorem isub_any (A A' : Option Addr) (n c c' : Nat) (fr tt : List ByteArray) (w : World) (h : SR w w.heap.size A n (fr.map Value.string)) (h' : SR w w.heap.size A' n (tt.map Value.string)) (hn : n ≤ 1048576) :
    Calls Tryz.prog 63 #[.slice A n c, .slice A' n c'] w fun e w' => ∃ v, e = .returned v ∧ BigR w' w.heap.size w'.heap.size v (subB fr tt) ∧ Below w.heap.size w w' := by
  have hb0 := (Below.refl w.heap.size w).alloc (Nat.le_refl _) (.cells #[.int .i64 0, .slice none 0 0, .slice none 0 0, .int .i64 0, .slice none 0 0, .slice none 0 0] 31)
  have HBx0 : Hid (BoxAt (w.alloc (.cells #[.int .i64 0, .slice none 0 0, .slice none 0 0, .int .i64 0, .slice none 0 0, .slice none 0 0] 31)) w.heap.size 31 (.int .i64 0) (.slice none 0 0) (.slice none 0 0) (.int .i64 0) (.slice none 0 0) (.slice none 0 0)) := Lib.hid (six_new w _ _ _ _ _ _ _)
  obtain ⟨W, hW⟩ : ∃ W, w.alloc (.cells #[.int .i64 0, .slice none 0 0, .slice none 0 0, .int .i64 0, .slice none 0 0, .slice none 0 0] 31) = W := ⟨_, rfl⟩
  have hWz : W.heap.size = w.heap.size + 1 := by rw [← hW]; simp
  rw [hW] at hb0 HBx0
  have HWq := Lib.hid hW
  have HB0 := Lib.hid hb0
  have HWz := Lib.hid hWz
  clear hW hb0 hWz
  have HL := Lib.hid h.strlen
  have HL' := Lib.hid h'.strlen
  have HH := Lib.hid h
  have HH' := Lib.hid h'
  have HSl := Lib.hid (sortU_len tt)
  have HTi : Hid ((tied fr (idxL (sortU tt) tt)).length = n) := Lib.hid (by rw [sub_tied fr tt (by rw [h.strlen, h'.strlen]), h.strlen])
  clear h h'
  have CA := asc_any A' n c' tt W ((HH'.out.below HB0.out).wide HB0.out.size) hn
  go_enter Tryz.func63, Tryz.ntmps63
  go_wp2_with fail
  rw [HWq.out]
  refine CA.mono ?_
  rintro e w1 ⟨A4, c4, rfl, hr4, hb1⟩
  clear CA
  have HB1 := Lib.hid (HB0.out.trans (hb1.mono HB0.out.size))
  have HBx1 := Lib.hid (HBx0.out.on hb1)
  have HR4 := Lib.hid (hr4.wide (lo' := w.heap.size) HB0.out.size (Nat.le_refl _))
  have hsl : (sortU tt).length ≤ 1048576 := by have := HSl.out; have := HL'.out; omega
  have CI := idxs_any A4 A' (sortU tt).length c4 n c' (sortU tt) tt w1 (strsR_at HR4.out) ((HH'.out.below HB1.out).wide HB1.out.size) hsl hn
  clear hr4 hb1
  obtain ⟨sl, hsl'⟩ : ∃ sl, (sortU tt).length = sl := ⟨_, rfl⟩
  have HSq := Lib.hid hsl'
  rw [hsl'] at CI hsl ⊢
  clear hsl'
  go_wp2_with fail
  refine CI.mono ?_
  rintro e w2 ⟨g, rfl, hg1, hg2, hrow, hb2⟩
  clear CI
  have HB2 := Lib.hid (HB1.out.trans (hb2.mono HB1.out.size))
  have HBx2 := Lib.hid (HBx1.out.on hb2)
  have HR42 := Lib.hid (HR4.out.on hb2)
  have CT := wiresTo_any A (some ⟨g, 0, none⟩) n c n fr (idxL (sortU tt) tt) w2 ((HH.out.below HB2.out).wide HB2.out.size) (ints_row hrow (Nat.le_refl _) hg2 (by rw [idx_len, HL'.out]) (fun _ _ => rfl)) hn
  clear hrow hb2
  go_wp2_with fail
  refine CT.mono ?_
  rintro e w3 ⟨g', rfl, hr, hb3⟩
  have HBx3 := Lib.hid (HBx2.out.on hb3)
  have HB3 := Lib.hid (HB2.out.trans (hb3.mono HB2.out.size))
  have HBR := Lib.hid (wiring_big (E := 0) (rowR_here (HR42.out.on hb3)) (wrs_row HTi.out (hr.wide (lo' := w.heap.size) HB2.out.size (Nat.le_refl _))))
  rw [HTi.out, HSq.out] at HBR
  clear hr hb3 CT
  obtain ⟨z0, z1, z2, z3, z4, z5⟩ := HBx3.out.get
  have f0 := World.rowIs.frozen HBx3.out 0
  have f1 := World.rowIs.frozen HBx3.out 1
  have f2 := World.rowIs.frozen HBx3.out 2
  have f3 := World.rowIs.frozen HBx3.out 3
  have f4 := World.rowIs.frozen HBx3.out 4
  have f5 := World.rowIs.frozen HBx3.out 5
  go_wp2_with fail
  have hbig := (sets6_big HBx3.out HBR.out (.int .i64 0) (.slice none 0 0) (.slice none 0 0) (.int .i64 0) (.slice A4 sl c4) (.slice (some ⟨g', 0, none⟩) n n)).here
  have hbel := sets6_below HB3.out (Nat.le_refl w.heap.size) (.int .i64 0) (.slice none 0 0) (.slice none 0 0) (.int .i64 0) (.slice A4 sl c4) (.slice (some ⟨g', 0, none⟩) n n)
  unfold sets6 at hbig hbel
  refine bodyPost_ret (v := .agg #[.int .i64 0, .slice none 0 0, .slice none 0 0, .int .i64 0, .slice A4 sl c4, .slice (some ⟨g', 0, none⟩) n n]) (by simp [results, Tryz.results63, go_sem, z0, z1, z2, z3, z4, z5]) rfl ⟨_, rfl, hbig, hbel⟩
end Go.Proofs.YtlpgldejmdiceabGreat.sx
