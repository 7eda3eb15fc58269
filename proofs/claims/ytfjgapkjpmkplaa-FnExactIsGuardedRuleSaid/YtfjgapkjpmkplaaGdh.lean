/- The law's sizes and comparisons of Guards and guarded Rules. -/
import Derived.Test.YtfjgapkjpmkplaaGdb
namespace Go.Proofs.Ytfjgapkjpmkplaa.gdh
open kit bg sg opn strs only hb sig isig un over gn nm inn ht gd im pt marks eqs hc hi hw hn rs br bm bw cf lf ib isa lawb lw cl rub rui ruh rut gdb
open Go.RowKit Go.ChangeShapes Go.WideShapes Go.ChangeAt
set_option linter.unusedVariables false
set_option linter.unusedSimpArgs false
theorem get8 {w : World} {β : Nat} {t : TypeId} {a0 a1 a2 a3 a4 a5 a6 a7 : Value} (h : BoxN w β t [a0, a1, a2, a3, a4, a5, a6, a7]) :
    w.cell? ⟨β, 0, none⟩ = some a0 ∧ w.cell? ⟨β, 1, none⟩ = some a1 ∧ w.cell? ⟨β, 2, none⟩ = some a2 ∧ w.cell? ⟨β, 3, none⟩ = some a3 ∧ w.cell? ⟨β, 4, none⟩ = some a4 ∧ w.cell? ⟨β, 5, none⟩ = some a5 ∧ w.cell? ⟨β, 6, none⟩ = some a6 ∧ w.cell? ⟨β, 7, none⟩ = some a7 :=
  ⟨h.cell rfl, h.cell rfl, h.cell rfl, h.cell rfl, h.cell rfl, h.cell rfl, h.cell rfl, h.cell rfl⟩
theorem get15 {w : World} {β : Nat} {t : TypeId} {a0 a1 a2 a3 a4 a5 a6 a7 a8 a9 a10 a11 a12 a13 a14 : Value} (h : BoxN w β t [a0, a1, a2, a3, a4, a5, a6, a7, a8, a9, a10, a11, a12, a13, a14]) :
    w.cell? ⟨β, 0, none⟩ = some a0 ∧ w.cell? ⟨β, 1, none⟩ = some a1 ∧ w.cell? ⟨β, 2, none⟩ = some a2 ∧ w.cell? ⟨β, 3, none⟩ = some a3 ∧ w.cell? ⟨β, 4, none⟩ = some a4 ∧ w.cell? ⟨β, 5, none⟩ = some a5 ∧ w.cell? ⟨β, 6, none⟩ = some a6 ∧ w.cell? ⟨β, 7, none⟩ = some a7 ∧ w.cell? ⟨β, 8, none⟩ = some a8 ∧ w.cell? ⟨β, 9, none⟩ = some a9 ∧ w.cell? ⟨β, 10, none⟩ = some a10 ∧ w.cell? ⟨β, 11, none⟩ = some a11 ∧ w.cell? ⟨β, 12, none⟩ = some a12 ∧ w.cell? ⟨β, 13, none⟩ = some a13 ∧ w.cell? ⟨β, 14, none⟩ = some a14 :=
  ⟨h.cell rfl, h.cell rfl, h.cell rfl, h.cell rfl, h.cell rfl, h.cell rfl, h.cell rfl, h.cell rfl, h.cell rfl, h.cell rfl, h.cell rfl, h.cell rfl, h.cell rfl, h.cell rfl, h.cell rfl⟩
set_option maxHeartbeats 1600000 in
theorem szG_any (v : Value) (x : Grd) (left : Int) (w : World) (B : Nat) (h : GrdAt w B v x) (hB : B ≤ w.heap.size) (hl0 : -1 ≤ left) (hl : left ≤ 1048576) (hw : GrdW x) :
    Calls Try.prog 100 #[v, .int .i64 left] w (szP (bigWt x.pat) left w) := by
  obtain ⟨A1, n1, c1, A2, n2, c2, A4, n4, c4, A5, n5, c5, rfl, h1⟩ := h
  have HBox : BoxN (w.alloc (.cells #[.int .i64 x.whr, .bool x.no, .int .i64 x.pat.roots, .slice A1 n1 c1, .slice A2 n2 c2, .int .i64 x.pat.edges, .slice A4 n4 c4, .slice A5 n5 c5] 134)) w.heap.size 134 [.int .i64 x.whr, .bool x.no, .int .i64 x.pat.roots, .slice A1 n1 c1, .slice A2 n2 c2, .int .i64 x.pat.edges, .slice A4 n4 c4, .slice A5 n5 c5] := BoxN.new w #[.int .i64 x.whr, .bool x.no, .int .i64 x.pat.roots, .slice A1 n1 c1, .slice A2 n2 c2, .int .i64 x.pat.edges, .slice A4 n4 c4, .slice A5 n5 c5] 134
  have hB0 := (Below.refl w.heap.size w).alloc (Nat.le_refl _) (.cells #[.int .i64 x.whr, .bool x.no, .int .i64 x.pat.roots, .slice A1 n1 c1, .slice A2 n2 c2, .int .i64 x.pat.edges, .slice A4 n4 c4, .slice A5 n5 c5] 134)
  obtain ⟨W, hW⟩ : ∃ W, w.alloc (.cells #[.int .i64 x.whr, .bool x.no, .int .i64 x.pat.roots, .slice A1 n1 c1, .slice A2 n2 c2, .int .i64 x.pat.edges, .slice A4 n4 c4, .slice A5 n5 c5] 134) = W := ⟨_, rfl⟩
  rw [hW] at HBox hB0
  have HB0 := Lib.hid hB0
  have HWq := Lib.hid hW
  have C := szB_any _ x.pat left W w.heap.size ((h1.wide hB).below hB0) hB0.size hl0 hl hw.2
  obtain ⟨x0, x1, x2, x3, x4, x5, x6, x7⟩ := get8 HBox
  clear hB0 hW h1 hw HBox
  go_enter Try.func100, Try.ntmps100
  go_wp2_with fail
  rw [HWq.out]
  go_wp2_with fail
  refine C.mono ?_
  rintro e w6 ⟨z, rfl, hr, hr1, hr2, hb⟩
  have hk := HB0.out.trans (hb.mono HB0.out.size)
  clear hb C x0 x1 x2 x3 x4 x5 x6 x7
  by_cases hneg : z < 0
  · go_wp2_with fail
    go_ret
    exact ⟨-1, rfl, .inl (by omega), by omega, by omega, hk⟩
  · have HZ := Lib.hid (show z = left - (bigWt x.pat : Int) by omega)
    clear hr
    go_wp2_with fail
    go_ret
    exact ⟨z, rfl, .inr HZ.out, by omega, by omega, hk⟩

set_option maxRecDepth 20000 in
set_option maxHeartbeats 3200000 in
theorem szGS_any (A : Option Addr) (n c : Nat) (gs : List Grd) (left : Int) (w : World) (B : Nat) (h : GrdsAt w B A n gs) (hB : B ≤ w.heap.size) (hl0 : -1 ≤ left) (hl : left ≤ 1048576) (hw : GrdsW gs) :
    Calls Try.prog 48 #[.slice A n c, .int .i64 left] w (szP (grdsWt gs) left w) := by
  have HL := Lib.hid h.1
  have hn : n ≤ maxLen := by have := hw.1; have := h.1; omega
  have HW := Lib.hid hw
  clear hw
  unfold maxLen at hn
  by_cases hneg : left - (n : Int) < 0
  · go_enter Try.func48, Try.ntmps48
    go_wp2_with fail
    go_ret
    exact ⟨-1, rfl, .inl (by omega), by omega, by omega, Below.refl _ _⟩
  · have hneg' : ¬ (left - (n : Int) < 0) := hneg
    go_enter Try.func48, Try.ntmps48
    go_wp2_with fail
    go_loopw [1, 5] (fun l i wr => ∃ k : Nat, k ≤ n ∧ i = .int .i64 k ∧ l = .int .i64 (left - n - sumBy (fun x => bigWt x.pat) (gs.take k)) ∧ 0 ≤ left - n - sumBy (fun x => bigWt x.pat) (gs.take k) ∧ Below w.heap.size w wr) (fun _ i _ => n - (intOf i).toNat)
    case atStart => exact ⟨0, Nat.zero_le _, rfl, by simp [sumBy], by simp [sumBy]; omega, Below.refl _ _⟩
    case round =>
      obtain ⟨k, hk, rfl, rfl, h0, hb⟩ := hrel
      by_cases hlt : k < n
      · obtain ⟨g, off, x, rfl, hbb, hx, A1, n1, c1, A2, n2, c2, A4, n4, c4, A5, n5, c5, e0, e1, e2, e3, e4, e5, e6, e7, hv⟩ := h.get hlt
        have d0 := (hb.cell (p := ⟨g, off + k * 8, none⟩) (show g < w.heap.size by omega)).trans e0
        have d1 := (hb.cell (p := ⟨g, off + k * 8 + 1, none⟩) (show g < w.heap.size by omega)).trans e1
        have d2 := (hb.cell (p := ⟨g, off + k * 8 + 2, none⟩) (show g < w.heap.size by omega)).trans e2
        have d3 := (hb.cell (p := ⟨g, off + k * 8 + 3, none⟩) (show g < w.heap.size by omega)).trans e3
        have d4 := (hb.cell (p := ⟨g, off + k * 8 + 4, none⟩) (show g < w.heap.size by omega)).trans e4
        have d5 := (hb.cell (p := ⟨g, off + k * 8 + 5, none⟩) (show g < w.heap.size by omega)).trans e5
        have d6 := (hb.cell (p := ⟨g, off + k * 8 + 6, none⟩) (show g < w.heap.size by omega)).trans e6
        have d7 := (hb.cell (p := ⟨g, off + k * 8 + 7, none⟩) (show g < w.heap.size by omega)).trans e7
        have hv' := hv.below (hb.mono hB)
        have HT := Lib.hid (sumBy_snoc (fun x : Grd => bigWt x.pat) hx)
        have hxw := HW.out.2 x (List.mem_of_getElem? hx)
        obtain ⟨T, hT⟩ : ∃ T, sumBy (fun x : Grd => bigWt x.pat) (gs.take k) = T := ⟨_, rfl⟩
        have HTe := Lib.hid hT
        rw [hT] at h0 ⊢
        have C := szG_any _ x (left - (n : Int) - T) wr B hv' (Nat.le_trans hB hb.size) (by omega) (by omega) hxw
        clear hx e0 e1 e2 e3 e4 e5 e6 e7 hT hv hv' hxw
        go_wp2_with fail
        refine C.mono ?_
        rintro e w1 ⟨r, rfl, hr, hr1, hr2, hb1⟩
        have hb2 := hb.trans (hb1.mono hb.size)
        clear hb1 C d0 d1 d2 d3 d4 d5 d6 d7
        by_cases hr0 : r < 0
        · go_wp2_with fail
          go_ret
          exact ⟨-1, rfl, .inl (by omega), by omega, by omega, hb2⟩
        · have hr3 : r = left - (n : Int) - T - bigWt x.pat := by omega
          have HR3 := Lib.hid hr3
          clear hr hr3
          go_wp2_with fail
          go_roundw
          case rel => exact ⟨k + 1, by omega, by go_num, by rw [HT.out, HTe.out, HR3.out]; go_num, by rw [HT.out, HTe.out]; have := HR3.out; push_cast; omega, hb2⟩
          case measure => simp [intOf]; omega
      · have hkn : k = n := by omega
        subst hkn
        go_wp2_with fail
        go_ret
        refine ⟨left - k - sumBy (fun x => bigWt x.pat) (gs.take k), rfl, .inr ?_, by omega, by omega, hb⟩
        rw [List.take_of_length_le (by rw [HL.out]; omega)]
        unfold grdsWt
        rw [HL.out]
        push_cast
        omega

set_option maxRecDepth 20000 in
set_option maxHeartbeats 1600000 in
theorem szGR_any (v : Value) (r : GRul) (left : Int) (w : World) (B : Nat) (h : GRulAt w B v r) (hB : B ≤ w.heap.size) (hl0 : -1 ≤ left) (hl : left ≤ 1048576) (hw : GRulW r) :
    Calls Try.prog 16 #[v, .int .i64 left] w (szP (gruWt r) left w) := by
  obtain ⟨a0, a1, a2, a3, a4, a5, a6, a7, a8, a9, a10, a11, a12, G, n, c, rfl, h1, h2⟩ := h
  have HBox : BoxN (w.alloc (.cells #[a0, a1, a2, a3, a4, a5, a6, a7, a8, a9, a10, a11, a12, .slice G n c, .int .i64 r.prio] 48)) w.heap.size 48 [a0, a1, a2, a3, a4, a5, a6, a7, a8, a9, a10, a11, a12, .slice G n c, .int .i64 r.prio] := BoxN.new w #[a0, a1, a2, a3, a4, a5, a6, a7, a8, a9, a10, a11, a12, .slice G n c, .int .i64 r.prio] 48
  have hB0 := (Below.refl w.heap.size w).alloc (Nat.le_refl _) (.cells #[a0, a1, a2, a3, a4, a5, a6, a7, a8, a9, a10, a11, a12, .slice G n c, .int .i64 r.prio] 48)
  obtain ⟨W, hW⟩ : ∃ W, w.alloc (.cells #[a0, a1, a2, a3, a4, a5, a6, a7, a8, a9, a10, a11, a12, .slice G n c, .int .i64 r.prio] 48) = W := ⟨_, rfl⟩
  rw [hW] at HBox hB0
  have HBox := Lib.hid HBox
  have HB0 := Lib.hid hB0
  have HWq := Lib.hid hW
  have HV2 := Lib.hid (fun (Y : World) (hY : Below w.heap.size w Y) => (h2.wide hB).below hY)
  have C := szR_any _ r.rule left W w.heap.size ((h1.wide hB).below hB0) hB0.size hl0 hl hw.1
  have HWd := Lib.hid hw
  clear hB0 hW h1 h2 hw
  obtain ⟨x0, x1, x2, x3, x4, x5, x6, x7, x8, x9, x10, x11, x12, x13, x14⟩ := get15 HBox.out
  go_enter Try.func16, Try.ntmps16
  go_wp2_with fail
  rw [HWq.out]
  go_wp2_with fail
  refine C.mono ?_
  rintro e w6 ⟨z, rfl, hr, hr1, hr2, hb⟩
  have hk := HB0.out.trans (hb.mono HB0.out.size)
  have HBx := HBox.out.on hb
  clear hb C x0 x1 x2 x3 x4 x5 x6 x7 x8 x9 x10 x11 x12 x13 x14
  by_cases hneg : z < 0
  · go_wp2_with fail
    go_ret
    exact ⟨-1, rfl, .inl (by omega), by omega, by omega, hk⟩
  have hneg1 : 0 ≤ z := by omega
  have HR1 := Lib.hid (show z = left - (rulWt r.rule : Int) by omega)
  clear hr
  obtain ⟨x0, x1, x2, x3, x4, x5, x6, x7, x8, x9, x10, x11, x12, x13, x14⟩ := get15 HBx
  go_wp2_with fail
  refine (szGS_any G n c r.guards z w6 w.heap.size (HV2.out w6 hk) hk.size hr1 (by omega) HWd.out.2.1).mono ?_
  rintro e w7 ⟨z2, rfl, hr, hr3, hr4, hb⟩
  have hk := hk.trans (hb.mono hk.size)
  clear hb x0 x1 x2 x3 x4 x5 x6 x7 x8 x9 x10 x11 x12 x13 x14
  by_cases hneg2 : z2 < 0
  · go_wp2_with fail
    go_ret
    exact ⟨-1, rfl, .inl (by omega), by omega, by omega, hk⟩
  have hneg3 : 0 ≤ z2 := by omega
  have HR2 := Lib.hid (show z2 = z - (grdsWt r.guards : Int) by omega)
  clear hr
  go_wp2_with fail
  go_ret
  refine ⟨z2, rfl, .inr ?_, by omega, by omega, hk⟩
  have q1 := HR1.out
  have q2 := HR2.out
  unfold gruWt
  push_cast
  omega
end Go.Proofs.Ytfjgapkjpmkplaa.gdh
