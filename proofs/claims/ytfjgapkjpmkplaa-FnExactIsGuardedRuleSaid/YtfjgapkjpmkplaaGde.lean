/- The law's comparisons of Guards and guarded Rules. -/
import Derived.Test.YtfjgapkjpmkplaaGdh
namespace Go.Proofs.Ytfjgapkjpmkplaa.gde
open kit bg sg opn strs only hb sig isig un over gn nm inn ht gd im pt marks eqs hc hi hw hn rs br bm bw cf lf ib isa lawb lw cl rub rui ruh rut gdb gdh
open Go.RowKit Go.ChangeShapes Go.WideShapes Go.ChangeAt
set_option linter.unusedVariables false
set_option linter.unusedSimpArgs false
set_option maxRecDepth 20000 in
set_option maxHeartbeats 1600000 in
theorem eqG_any (v v' : Value) (x : Grd) (w : World) (B B' : Nat) (h : GrdAt w B v x) (h' : GrdAt w B' v' x) (hB : B ≤ w.heap.size) (hB' : B' ≤ w.heap.size) (hw : GrdW x) (hs : BigS x.pat) :
    Calls Try.prog 105 #[v, v'] w fun e w' => e = .returned (.bool true) ∧ Below w.heap.size w w' := by
  obtain ⟨A1, n1, c1, A2, n2, c2, A4, n4, c4, A5, n5, c5, rfl, h1⟩ := h
  obtain ⟨B1, m1, d1, B2, m2, d2, B4, m4, d4, B5, m5, d5, rfl, k1⟩ := h'
  have HX0 : BoxN (w.alloc (.cells #[.int .i64 x.whr, .bool x.no, .int .i64 x.pat.roots, .slice A1 n1 c1, .slice A2 n2 c2, .int .i64 x.pat.edges, .slice A4 n4 c4, .slice A5 n5 c5] 89)) w.heap.size 89 [.int .i64 x.whr, .bool x.no, .int .i64 x.pat.roots, .slice A1 n1 c1, .slice A2 n2 c2, .int .i64 x.pat.edges, .slice A4 n4 c4, .slice A5 n5 c5] := BoxN.new w #[.int .i64 x.whr, .bool x.no, .int .i64 x.pat.roots, .slice A1 n1 c1, .slice A2 n2 c2, .int .i64 x.pat.edges, .slice A4 n4 c4, .slice A5 n5 c5] 89
  have hb0 := (Below.refl w.heap.size w).alloc (Nat.le_refl _) (.cells #[.int .i64 x.whr, .bool x.no, .int .i64 x.pat.roots, .slice A1 n1 c1, .slice A2 n2 c2, .int .i64 x.pat.edges, .slice A4 n4 c4, .slice A5 n5 c5] 89)
  obtain ⟨U, hU⟩ : ∃ U, w.alloc (.cells #[.int .i64 x.whr, .bool x.no, .int .i64 x.pat.roots, .slice A1 n1 c1, .slice A2 n2 c2, .int .i64 x.pat.edges, .slice A4 n4 c4, .slice A5 n5 c5] 89) = U := ⟨_, rfl⟩
  have hUz : U.heap.size = w.heap.size + 1 := by rw [← hU]; simp
  rw [hU] at HX0 hb0
  have HY0 : BoxN (U.alloc (.cells #[.int .i64 x.whr, .bool x.no, .int .i64 x.pat.roots, .slice B1 m1 d1, .slice B2 m2 d2, .int .i64 x.pat.edges, .slice B4 m4 d4, .slice B5 m5 d5] 89)) U.heap.size 89 [.int .i64 x.whr, .bool x.no, .int .i64 x.pat.roots, .slice B1 m1 d1, .slice B2 m2 d2, .int .i64 x.pat.edges, .slice B4 m4 d4, .slice B5 m5 d5] := BoxN.new U #[.int .i64 x.whr, .bool x.no, .int .i64 x.pat.roots, .slice B1 m1 d1, .slice B2 m2 d2, .int .i64 x.pat.edges, .slice B4 m4 d4, .slice B5 m5 d5] 89
  have hb1 := (Below.refl U.heap.size U).alloc (Nat.le_refl _) (.cells #[.int .i64 x.whr, .bool x.no, .int .i64 x.pat.roots, .slice B1 m1 d1, .slice B2 m2 d2, .int .i64 x.pat.edges, .slice B4 m4 d4, .slice B5 m5 d5] 89)
  have HX1 := HX0.on hb1
  obtain ⟨W, hW⟩ : ∃ W, U.alloc (.cells #[.int .i64 x.whr, .bool x.no, .int .i64 x.pat.roots, .slice B1 m1 d1, .slice B2 m2 d2, .int .i64 x.pat.edges, .slice B4 m4 d4, .slice B5 m5 d5] 89) = W := ⟨_, rfl⟩
  rw [hW] at HX1 HY0 hb1
  rw [hUz] at HY0
  have HB0 := Lib.hid (hb0.trans (hb1.mono hb0.size))
  have HUq := Lib.hid hU
  have HWq := Lib.hid hW
  have C := eqB_any _ _ x.pat W w.heap.size w.heap.size ((h1.wide hB).below HB0.out) ((k1.wide hB').below HB0.out) HB0.out.size HB0.out.size hw.2 hs.2.2.2.1
  obtain ⟨x0, x1, x2, x3, x4, x5, x6, x7⟩ := get8 HX1
  obtain ⟨y0, y1, y2, y3, y4, y5, y6, y7⟩ := get8 HY0
  obtain ⟨q, hq⟩ : ∃ q, x.no = q := ⟨_, rfl⟩
  rw [hq] at x1 y1 HUq HWq ⊢
  clear HX0 HX1 HY0 hb0 hb1 hU hW h1 k1 hw hs hq
  cases q <;>
  · go_enter Try.func105, Try.ntmps105
    go_wp2_with fail
    rw [HUq.out, HWq.out]
    go_wp2_with fail
    refine C.mono ?_
    rintro e w6 ⟨rfl, hb⟩
    have hk := HB0.out.trans (hb.mono HB0.out.size)
    clear hb C x0 x1 x2 x3 x4 x5 x6 x7 y0 y1 y2 y3 y4 y5 y6 y7
    go_wp2_with fail
    go_ret
    exact ⟨rfl, hk⟩

set_option maxRecDepth 20000 in
set_option maxHeartbeats 3200000 in
theorem eqGS_any (A A' : Option Addr) (n c c' : Nat) (gs : List Grd) (w : World) (B B' : Nat) (h : GrdsAt w B A n gs) (h' : GrdsAt w B' A' n gs) (hB : B ≤ w.heap.size) (hB' : B' ≤ w.heap.size) (hw : GrdsW gs) (hs : ∀ x ∈ gs, BigS x.pat) :
    Calls Try.prog 54 #[.slice A n c, .slice A' n c'] w fun e w' => e = .returned (.bool true) ∧ Below w.heap.size w w' := by
  have HW := Lib.hid hw
  have HS := Lib.hid hs
  have hn : n ≤ maxLen := by have := hw.1; have := h.1; omega
  clear hw hs
  unfold maxLen at hn
  go_enter Try.func54, Try.ntmps54
  go_wp2_with fail
  go_loopw [5] (fun i wr => ∃ k : Nat, k ≤ n ∧ i = .int .i64 k ∧ Below w.heap.size w wr) (fun i _ => n - (intOf i).toNat)
  case atStart => exact ⟨0, Nat.zero_le _, rfl, Below.refl _ _⟩
  case round =>
    obtain ⟨k, hk, rfl, hb⟩ := hrel
    by_cases hlt : k < n
    · obtain ⟨g, off, x, rfl, hbb, hx, A1, n1, c1, A2, n2, c2, A4, n4, c4, A5, n5, c5, e0, e1, e2, e3, e4, e5, e6, e7, hv⟩ := h.get hlt
      obtain ⟨g', off', x', rfl, hbb', hx', B1, m1, d1, B2, m2, d2, B4, m4, d4, B5, m5, d5, q0, q1, q2, q3, q4, q5, q6, q7, hv'⟩ := h'.get hlt
      rw [hx] at hx'
      injection hx' with e
      subst e
      have hxw := HW.out.2 x (List.mem_of_getElem? hx)
      have hxs := HS.out x (List.mem_of_getElem? hx)
      have HCl := Lib.hid (fun (Y : World) (hY : Below w.heap.size w Y) => (
        show (Y.cell? ⟨g, off + k * 8, none⟩ = some (.int .i64 x.whr) ∧ Y.cell? ⟨g, off + k * 8 + 1, none⟩ = some (.bool x.no) ∧ Y.cell? ⟨g, off + k * 8 + 2, none⟩ = some (.int .i64 x.pat.roots) ∧ Y.cell? ⟨g, off + k * 8 + 3, none⟩ = some (.slice A1 n1 c1) ∧ Y.cell? ⟨g, off + k * 8 + 4, none⟩ = some (.slice A2 n2 c2) ∧ Y.cell? ⟨g, off + k * 8 + 5, none⟩ = some (.int .i64 x.pat.edges) ∧ Y.cell? ⟨g, off + k * 8 + 6, none⟩ = some (.slice A4 n4 c4) ∧ Y.cell? ⟨g, off + k * 8 + 7, none⟩ = some (.slice A5 n5 c5)) ∧ (Y.cell? ⟨g', off' + k * 8, none⟩ = some (.int .i64 x.whr) ∧ Y.cell? ⟨g', off' + k * 8 + 1, none⟩ = some (.bool x.no) ∧ Y.cell? ⟨g', off' + k * 8 + 2, none⟩ = some (.int .i64 x.pat.roots) ∧ Y.cell? ⟨g', off' + k * 8 + 3, none⟩ = some (.slice B1 m1 d1) ∧ Y.cell? ⟨g', off' + k * 8 + 4, none⟩ = some (.slice B2 m2 d2) ∧ Y.cell? ⟨g', off' + k * 8 + 5, none⟩ = some (.int .i64 x.pat.edges) ∧ Y.cell? ⟨g', off' + k * 8 + 6, none⟩ = some (.slice B4 m4 d4) ∧ Y.cell? ⟨g', off' + k * 8 + 7, none⟩ = some (.slice B5 m5 d5)) from by
          have hg : g < w.heap.size := by omega
          have hg' : g' < w.heap.size := by omega
          exact ⟨⟨(hY.cell (p := ⟨g, _, none⟩) hg).trans e0, (hY.cell (p := ⟨g, _, none⟩) hg).trans e1, (hY.cell (p := ⟨g, _, none⟩) hg).trans e2, (hY.cell (p := ⟨g, _, none⟩) hg).trans e3, (hY.cell (p := ⟨g, _, none⟩) hg).trans e4, (hY.cell (p := ⟨g, _, none⟩) hg).trans e5, (hY.cell (p := ⟨g, _, none⟩) hg).trans e6, (hY.cell (p := ⟨g, _, none⟩) hg).trans e7⟩, (hY.cell (p := ⟨g', _, none⟩) hg').trans q0, (hY.cell (p := ⟨g', _, none⟩) hg').trans q1, (hY.cell (p := ⟨g', _, none⟩) hg').trans q2, (hY.cell (p := ⟨g', _, none⟩) hg').trans q3, (hY.cell (p := ⟨g', _, none⟩) hg').trans q4, (hY.cell (p := ⟨g', _, none⟩) hg').trans q5, (hY.cell (p := ⟨g', _, none⟩) hg').trans q6, (hY.cell (p := ⟨g', _, none⟩) hg').trans q7⟩))
      have HC := Lib.hid (fun (Y : World) (hY : Below w.heap.size w Y) => eqG_any _ _ x Y B B' (hv.below (hY.mono hB)) (hv'.below (hY.mono hB')) (Nat.le_trans hB hY.size) (Nat.le_trans hB' hY.size) hxw hxs)
      clear hx e0 e1 e2 e3 e4 e5 e6 e7 q0 q1 q2 q3 q4 q5 q6 q7 hv hv' hxw hxs
      go_wp2_with fail
      have hbD := hb.drew
      go_region_held3 (fun Y => (Y.cell? ⟨g, off + k * 8, none⟩ = some (.int .i64 x.whr) ∧ Y.cell? ⟨g, off + k * 8 + 1, none⟩ = some (.bool x.no) ∧ Y.cell? ⟨g, off + k * 8 + 2, none⟩ = some (.int .i64 x.pat.roots) ∧ Y.cell? ⟨g, off + k * 8 + 3, none⟩ = some (.slice A1 n1 c1) ∧ Y.cell? ⟨g, off + k * 8 + 4, none⟩ = some (.slice A2 n2 c2) ∧ Y.cell? ⟨g, off + k * 8 + 5, none⟩ = some (.int .i64 x.pat.edges) ∧ Y.cell? ⟨g, off + k * 8 + 6, none⟩ = some (.slice A4 n4 c4) ∧ Y.cell? ⟨g, off + k * 8 + 7, none⟩ = some (.slice A5 n5 c5)) ∧ (Y.cell? ⟨g', off' + k * 8, none⟩ = some (.int .i64 x.whr) ∧ Y.cell? ⟨g', off' + k * 8 + 1, none⟩ = some (.bool x.no) ∧ Y.cell? ⟨g', off' + k * 8 + 2, none⟩ = some (.int .i64 x.pat.roots) ∧ Y.cell? ⟨g', off' + k * 8 + 3, none⟩ = some (.slice B1 m1 d1) ∧ Y.cell? ⟨g', off' + k * 8 + 4, none⟩ = some (.slice B2 m2 d2) ∧ Y.cell? ⟨g', off' + k * 8 + 5, none⟩ = some (.int .i64 x.pat.edges) ∧ Y.cell? ⟨g', off' + k * 8 + 6, none⟩ = some (.slice B4 m4 d4) ∧ Y.cell? ⟨g', off' + k * 8 + 7, none⟩ = some (.slice B5 m5 d5))) (first | exact HCl.out _ hk3 | exact HCl.out _ hbD)
        (first
         | (go_at_call 105; refine (HC.out _ hbD).mono ?_; rintro e w3 ⟨rfl, hb3⟩; have hk3 := hbD.trans (hb3.mono hbD.size)))
      clear hb3 hbD hb
      go_wp2_with fail
      go_roundw
      case rel => exact ⟨k + 1, by omega, by go_num, hk3⟩
      case measure => simp [intOf]; omega
    · have hkn : k = n := by omega
      subst hkn
      go_wp2_with fail
      go_ret
      exact ⟨rfl, hb⟩

set_option maxRecDepth 20000 in
set_option maxHeartbeats 1600000 in
theorem eqGR_any (v v' : Value) (r : GRul) (w : World) (B B' : Nat) (h : GRulAt w B v r) (h' : GRulAt w B' v' r) (hB : B ≤ w.heap.size) (hB' : B' ≤ w.heap.size) (hw : GRulW r) (hs : GRulS r) :
    Calls Try.prog 20 #[v, v'] w fun e w' => e = .returned (.bool true) ∧ Below w.heap.size w w' := by
  obtain ⟨a0, a1, a2, a3, a4, a5, a6, a7, a8, a9, a10, a11, a12, G, n, c, rfl, h1, h2⟩ := h
  obtain ⟨b0, b1, b2, b3, b4, b5, b6, b7, b8, b9, b10, b11, b12, G', n', c', rfl, k1, k2⟩ := h'
  obtain rfl : n = n' := h2.1.symm.trans k2.1
  have HX0 : BoxN (w.alloc (.cells #[a0, a1, a2, a3, a4, a5, a6, a7, a8, a9, a10, a11, a12, .slice G n c, .int .i64 r.prio] 53)) w.heap.size 53 [a0, a1, a2, a3, a4, a5, a6, a7, a8, a9, a10, a11, a12, .slice G n c, .int .i64 r.prio] := BoxN.new w #[a0, a1, a2, a3, a4, a5, a6, a7, a8, a9, a10, a11, a12, .slice G n c, .int .i64 r.prio] 53
  have hb0 := (Below.refl w.heap.size w).alloc (Nat.le_refl _) (.cells #[a0, a1, a2, a3, a4, a5, a6, a7, a8, a9, a10, a11, a12, .slice G n c, .int .i64 r.prio] 53)
  obtain ⟨U, hU⟩ : ∃ U, w.alloc (.cells #[a0, a1, a2, a3, a4, a5, a6, a7, a8, a9, a10, a11, a12, .slice G n c, .int .i64 r.prio] 53) = U := ⟨_, rfl⟩
  have hUz : U.heap.size = w.heap.size + 1 := by rw [← hU]; simp
  rw [hU] at HX0 hb0
  have HY0 : BoxN (U.alloc (.cells #[b0, b1, b2, b3, b4, b5, b6, b7, b8, b9, b10, b11, b12, .slice G' n c', .int .i64 r.prio] 53)) U.heap.size 53 [b0, b1, b2, b3, b4, b5, b6, b7, b8, b9, b10, b11, b12, .slice G' n c', .int .i64 r.prio] := BoxN.new U #[b0, b1, b2, b3, b4, b5, b6, b7, b8, b9, b10, b11, b12, .slice G' n c', .int .i64 r.prio] 53
  have hb1 := (Below.refl U.heap.size U).alloc (Nat.le_refl _) (.cells #[b0, b1, b2, b3, b4, b5, b6, b7, b8, b9, b10, b11, b12, .slice G' n c', .int .i64 r.prio] 53)
  have HX1 := HX0.on hb1
  obtain ⟨W, hW⟩ : ∃ W, U.alloc (.cells #[b0, b1, b2, b3, b4, b5, b6, b7, b8, b9, b10, b11, b12, .slice G' n c', .int .i64 r.prio] 53) = W := ⟨_, rfl⟩
  rw [hW] at HX1 HY0 hb1
  rw [hUz] at HY0
  have HB0 := Lib.hid (hb0.trans (hb1.mono hb0.size))
  have HUq := Lib.hid hU
  have HWq := Lib.hid hW
  have HX := Lib.hid (fun (Y : World) (hY : Below W.heap.size W Y) => get15 (HX1.on hY))
  have HY := Lib.hid (fun (Y : World) (hY : Below W.heap.size W Y) => get15 (HY0.on hY))
  have C := eqR_any _ _ r.rule W w.heap.size w.heap.size ((h1.wide hB).below HB0.out) ((k1.wide hB').below HB0.out) HB0.out.size HB0.out.size hw.1 hs.1
  have HC2 := Lib.hid (fun (Y : World) (hY : Below w.heap.size w Y) => eqGS_any G G' n c c' r.guards Y w.heap.size w.heap.size ((h2.wide hB).below hY) ((k2.wide hB').below hY) hY.size hY.size hw.2.1 hs.2.2)
  clear HX0 HX1 HY0 hb0 hb1 hU hW h1 h2 k1 k2 hw hs
  have hm := Below.refl W.heap.size W
  obtain ⟨x0, x1, x2, x3, x4, x5, x6, x7, x8, x9, x10, x11, x12, x13, x14⟩ := HX.out W hm
  obtain ⟨y0, y1, y2, y3, y4, y5, y6, y7, y8, y9, y10, y11, y12, y13, y14⟩ := HY.out W hm
  go_enter Try.func20, Try.ntmps20
  go_wp2_with fail
  rw [HUq.out, HWq.out]
  go_wp2_with fail
  refine C.mono ?_
  rintro e w6 ⟨rfl, hb⟩
  have hm := hm.trans (hb.mono hm.size)
  have hk := HB0.out.trans (hm.mono HB0.out.size)
  clear hb C x0 x1 x2 x3 x4 x5 x6 x7 x8 x9 x10 x11 x12 x13 x14 y0 y1 y2 y3 y4 y5 y6 y7 y8 y9 y10 y11 y12 y13 y14
  obtain ⟨x0, x1, x2, x3, x4, x5, x6, x7, x8, x9, x10, x11, x12, x13, x14⟩ := HX.out _ hm
  obtain ⟨y0, y1, y2, y3, y4, y5, y6, y7, y8, y9, y10, y11, y12, y13, y14⟩ := HY.out _ hm
  go_wp2_with fail
  refine (HC2.out w6 hk).mono ?_
  rintro e w7 ⟨rfl, hb⟩
  have hm := hm.trans (hb.mono hm.size)
  have hk := HB0.out.trans (hm.mono HB0.out.size)
  clear hb x0 x1 x2 x3 x4 x5 x6 x7 x8 x9 x10 x11 x12 x13 x14 y0 y1 y2 y3 y4 y5 y6 y7 y8 y9 y10 y11 y12 y13 y14
  obtain ⟨x0, x1, x2, x3, x4, x5, x6, x7, x8, x9, x10, x11, x12, x13, x14⟩ := HX.out _ hm
  obtain ⟨y0, y1, y2, y3, y4, y5, y6, y7, y8, y9, y10, y11, y12, y13, y14⟩ := HY.out _ hm
  go_wp2_with fail
  go_ret
  exact ⟨rfl, hk⟩
end Go.Proofs.Ytfjgapkjpmkplaa.gde
