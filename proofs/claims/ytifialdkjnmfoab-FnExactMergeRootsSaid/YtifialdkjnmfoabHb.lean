/- The law's own helpers on Bigraphs: szBigraph, toBigraph, eqBigraph, markBigraph. -/
import Derived.Test.YtifialdkjnmfoabHn
import Derived.Test.YtifialdkjnmfoabHw
import Derived.Test.YtifialdkjnmfoabEs
namespace Go.Proofs.Ytifialdkjnmfoab.hb
open kit bg opn only marks strs eqs hc hi hw hn
open Go.ChangeShapes Go.WideShapes Go.ChangeAt Go.RowKit
set_option linter.unusedVariables false

/-! ### boxes of six cells -/
theorem row6 {w : World} {β : Nat} {t : TypeId} {f : Nat → Value} (h : w.rowIs β t 6 f) : w.cell? ⟨β, 0, none⟩ = some (f 0) ∧ w.cell? ⟨β, 1, none⟩ = some (f 1) ∧ w.cell? ⟨β, 2, none⟩ = some (f 2) ∧ w.cell? ⟨β, 3, none⟩ = some (f 3) ∧ w.cell? ⟨β, 4, none⟩ = some (f 4) ∧ w.cell? ⟨β, 5, none⟩ = some (f 5) :=
  ⟨h.cell (by omega), h.cell (by omega), h.cell (by omega), h.cell (by omega), h.cell (by omega), h.cell (by omega)⟩
/-- the content of six cells -/
def six (a b c d e f : Value) (i : Nat) : Value := if i = 0 then a else if i = 1 then b else if i = 2 then c else if i = 3 then d else if i = 4 then e else f
theorem six_new (w : World) (a b c d e f : Value) (t : TypeId) : (w.alloc (.cells #[a, b, c, d, e, f] t)).rowIs w.heap.size t 6 (six a b c d e f) :=
  (row_new w #[a, b, c, d, e, f] t 6 rfl).congr (fun i hi => by
    match i, hi with
    | 0, _ => rfl
    | 1, _ => rfl
    | 2, _ => rfl
    | 3, _ => rfl
    | 4, _ => rfl
    | 5, _ => rfl)

/-- how much a Bigraph takes -/
def bigWt (b : Big) : Nat := ndsWt b.nodes + b.sites.length + (b.outer.length + tot b.outer) + wrsWt b.inner

theorem below_box {w w1 : World} {o : Obj} (hb : Below (w.alloc o).heap.size (w.alloc o) w1) : Below w.heap.size w w1 := ((Below.refl w.heap.size w).alloc (Nat.le_refl _) o).trans (hb.mono (by simp))

set_option maxHeartbeats 1600000 in
theorem szB_any (v : Value) (b : Big) (left : Int) (w : World) (B : Nat) (h : BigAt w B v b) (hB : B ≤ w.heap.size) (hl0 : -1 ≤ left) (hl : left ≤ 1048576) (hw : BigW b) :
    Calls Try.prog 8 #[v, .int .i64 left] w (szP (bigWt b) left w) := by
  obtain ⟨A1, n1, c1, A2, n2, c2, A4, n4, c4, A5, n5, c5, rfl, h1, h2, h4, h5⟩ := h
  obtain ⟨-, -, w1, wn, w2, -, w4, ws, w5, wi⟩ := hw
  have l1 := h1.1
  have l2 := h2.len
  have l4 := h4.strlen
  have l5 := h5.1
  have HL := Lib.hid (And.intro l1 (And.intro l2 (And.intro l4 l5)))
  rw [l1] at w1
  rw [l2] at w2
  rw [l4] at w4
  rw [l5] at w5
  have HWn := Lib.hid wn
  have HWs := Lib.hid ws
  have HWi := Lib.hid wi
  have HBox := Lib.hid (six_new w (.int .i64 b.roots) (.slice A1 n1 c1) (.slice A2 n2 c2) (.int .i64 b.edges) (.slice A4 n4 c4) (.slice A5 n5 c5) 28)
  clear l1 l2 l4 l5 wn ws wi
  go_enter Try.func8, Try.ntmps8
  go_wp2_with fail
  refine (szNS_any A1 n1 c1 b.nodes left _ w.heap.size ((h1.wide hB).below ((Below.refl _ w).alloc (Nat.le_refl _) _)) (by simp) hl0 hl w1 HWn.out).mono ?_
  rintro e w6 ⟨r, rfl, hr, hr1, hr2, hb⟩
  have hb6 := below_box hb
  have hrow := HBox.out.of_block (hb.block w.heap.size (by simp))
  clear hb
  by_cases hneg : r < 0
  · go_wp2_with fail
    go_ret
    exact ⟨-1, rfl, .inl (by omega), by omega, by omega, hb6⟩
  · have hneg' : 0 ≤ r := by omega
    have hr' : r = left - (ndsWt b.nodes : Int) := by omega
    have HR := Lib.hid hr'
    obtain ⟨x0, x1, x2, x3, x4, x5⟩ := row6 hrow
    simp only [six] at x0 x1 x2 x3 x4 x5
    simp at x0 x1 x2 x3 x4 x5
    clear hr hr'
    go_wp2_with fail
    refine (szI_any A2 n2 c2 r _ hr1 (by omega) w2).mono ?_
    rintro e w7 ⟨r2, rfl, hr, hr3, hr4, hb⟩
    have hb7 := hb6.trans (hb.mono hb6.size)
    have hrow7 := hrow.of_block (hb.block w.heap.size hrow.lt)
    clear hb hrow x0 x1 x2 x3 x4 x5
    by_cases hneg : r2 < 0
    · go_wp2_with fail
      go_ret
      exact ⟨-1, rfl, .inl (by omega), by omega, by omega, hb7⟩
    · have hneg2 : 0 ≤ r2 := by omega
      have hr' : r2 = r - (n2 : Int) := by omega
      have HR2 := Lib.hid hr'
      obtain ⟨x0, x1, x2, x3, x4, x5⟩ := row6 hrow7
      simp only [six] at x0 x1 x2 x3 x4 x5
      simp at x0 x1 x2 x3 x4 x5
      clear hr hr'
      go_wp2_with fail
      refine (sz_any A4 n4 c4 b.outer r2 _ w.heap.size ((h4.wide hB).below hb7) hr3 (by omega) w4 HWs.out).mono ?_
      rintro e w8 ⟨r3, rfl, hr, hr5, rfl⟩
      by_cases hneg : r3 < 0
      · go_wp2_with fail
        go_ret
        exact ⟨-1, rfl, .inl (by omega), by omega, by omega, hb7⟩
      · have hneg3 : 0 ≤ r3 := by omega
        have hr' : r3 = r2 - (b.outer.length : Int) - (tot b.outer : Int) := by omega
        have HR3 := Lib.hid hr'
        clear hr hr'
        go_wp2_with fail
        refine (szWS_any A5 n5 c5 b.inner r3 _ w.heap.size ((h5.wide hB).below hb7) hb7.size (by omega) (by omega) w5 HWi.out).mono ?_
        rintro e w9 ⟨r4, rfl, hr, hr6, hr7, hb⟩
        have hb9 := hb7.trans (hb.mono hb7.size)
        clear hb hrow7 x0 x1 x2 x3 x4 x5
        by_cases hneg : r4 < 0
        · go_wp2_with fail
          go_ret
          exact ⟨-1, rfl, .inl (by omega), by omega, by omega, hb9⟩
        · have hneg4 : 0 ≤ r4 := by omega
          have hr' : r4 = r3 - (wrsWt b.inner : Int) := by omega
          have HR4 := Lib.hid hr'
          clear hr hr'
          go_wp2_with fail
          go_ret
          refine ⟨r4, rfl, .inr ?_, by omega, by omega, hb9⟩
          have q1 := HR.out
          have q2 := HR2.out
          have q3 := HR3.out
          have q4 := HR4.out
          have q5 := HL.out.2.1
          unfold bigWt
          omega

/-- a Bigraph whose slices are no longer than slices can be -/
def BigLn (b : Big) : Prop := b.nodes.length ≤ maxLen ∧ (∀ x ∈ b.nodes, x.links.length ≤ maxLen) ∧ b.sites.length ≤ maxLen ∧ b.inner.length ≤ maxLen
theorem bigLn_of {b : Big} (h : BigW b) : BigLn b := ⟨h.2.2.1, fun x hx => (h.2.2.2.1 x hx).2.2.1, h.2.2.2.2.1, h.2.2.2.2.2.2.2.2.1⟩

set_option maxHeartbeats 1600000 in
theorem eqBL_any (v v' : Value) (b : Big) (w : World) (B B' : Nat) (h : BigAt w B v b) (h' : BigAt w B' v' b) (hB : B ≤ w.heap.size) (hB' : B' ≤ w.heap.size) (hw : BigLn b) (hs : b.outer.length ≤ 1048576) :
    Calls Try.prog 13 #[v, v'] w fun e w' => e = .returned (.bool true) ∧ Below w.heap.size w w' := by
  obtain ⟨A1, n1, c1, A2, n2, c2, A4, n4, c4, A5, n5, c5, rfl, h1, h2, h4, h5⟩ := h
  obtain ⟨A1', n1', c1', A2', n2', c2', A4', n4', c4', A5', n5', c5', rfl, h1', h2', h4', h5'⟩ := h'
  obtain rfl : n1 = n1' := h1.1.symm.trans h1'.1
  obtain rfl : n2 = n2' := h2.len.symm.trans h2'.len
  obtain rfl : n4 = n4' := h4.strlen.symm.trans h4'.strlen
  obtain rfl : n5 = n5' := h5.1.symm.trans h5'.1
  obtain ⟨w1, wn, w2, w5⟩ := hw
  have l1 := h1.1
  have l2 := h2.len
  have l4 := h4.strlen
  have l5 := h5.1
  rw [l1] at w1
  rw [l2] at w2
  rw [l4] at hs
  rw [l5] at w5
  have HWn := Lib.hid (fun x hx => wn x hx)
  clear l1 l2 l4 l5 wn
  have HBox := Lib.hid ((six_new w (.int .i64 b.roots) (.slice A1 n1 c1) (.slice A2 n2 c2) (.int .i64 b.edges) (.slice A4 n4 c4) (.slice A5 n5 c5) 34).alloc (.cells #[.int .i64 b.roots, .slice A1' n1 c1', .slice A2' n2 c2', .int .i64 b.edges, .slice A4' n4 c4', .slice A5' n5 c5'] 34))
  have HBox' := Lib.hid (six_new (w.alloc (.cells #[.int .i64 b.roots, .slice A1 n1 c1, .slice A2 n2 c2, .int .i64 b.edges, .slice A4 n4 c4, .slice A5 n5 c5] 34)) (.int .i64 b.roots) (.slice A1' n1 c1') (.slice A2' n2 c2') (.int .i64 b.edges) (.slice A4' n4 c4') (.slice A5' n5 c5') 34)
  have HB0 := Lib.hid (((Below.refl w.heap.size w).alloc (Nat.le_refl _) (.cells #[.int .i64 b.roots, .slice A1 n1 c1, .slice A2 n2 c2, .int .i64 b.edges, .slice A4 n4 c4, .slice A5 n5 c5] 34)).alloc (by simp) (.cells #[.int .i64 b.roots, .slice A1' n1 c1', .slice A2' n2 c2', .int .i64 b.edges, .slice A4' n4 c4', .slice A5' n5 c5'] 34))
  go_enter Try.func13, Try.ntmps13
  go_wp2_with fail
  refine (eqNS_any A1 A1' n1 c1 c1' b.nodes _ w.heap.size w.heap.size ((h1.wide hB).below HB0.out) ((h1'.wide hB').below HB0.out) HB0.out.size HB0.out.size w1 HWn.out).mono ?_
  rintro e w6 ⟨rfl, hb⟩
  have hb6 := HB0.out.trans (hb.mono HB0.out.size)
  have hrow := HBox.out.of_block (hb.block w.heap.size HBox.out.lt)
  have hrow' := HBox'.out.of_block (hb.block _ HBox'.out.lt)
  rw [World.size_alloc] at hrow'
  obtain ⟨x0, x1, x2, x3, x4, x5⟩ := row6 hrow
  obtain ⟨y0, y1, y2, y3, y4, y5⟩ := row6 hrow'
  simp only [six] at x0 x1 x2 x3 x4 x5 y0 y1 y2 y3 y4 y5
  simp at x0 x1 x2 x3 x4 x5 y0 y1 y2 y3 y4 y5
  clear hb
  go_wp2_with fail
  refine (eqIS_any A2 A2' n2 c2 c2' b.sites _ w.heap.size w.heap.size ((h2.wide hB).below hb6) ((h2'.wide hB').below hb6) w2).mono ?_
  rintro e w7 ⟨rfl, hd⟩
  have hb7 := hb6.trans (hd.below _)
  have hrow7 := hrow.of_block ((hd.below w6.heap.size).block w.heap.size hrow.lt)
  have hrow7' := hrow'.of_block ((hd.below w6.heap.size).block _ hrow'.lt)
  clear x0 x1 x2 x3 x4 x5 y0 y1 y2 y3 y4 y5 hrow hrow' hd hb6
  obtain ⟨x0, x1, x2, x3, x4, x5⟩ := row6 hrow7
  obtain ⟨y0, y1, y2, y3, y4, y5⟩ := row6 hrow7'
  simp only [six] at x0 x1 x2 x3 x4 x5 y0 y1 y2 y3 y4 y5
  simp at x0 x1 x2 x3 x4 x5 y0 y1 y2 y3 y4 y5
  go_wp2_with fail
  refine (eq_any A4 A4' n4 c4 c4' b.outer _ w.heap.size w.heap.size ((h4.wide hB).below hb7) ((h4'.wide hB').below hb7) hs).mono ?_
  rintro e w8 ⟨rfl, hd⟩
  have hb8 := hb7.trans (hd.below _)
  have hrow8 := hrow7.of_block ((hd.below w7.heap.size).block w.heap.size hrow7.lt)
  have hrow8' := hrow7'.of_block ((hd.below w7.heap.size).block _ hrow7'.lt)
  clear x0 x1 x2 x3 x4 x5 y0 y1 y2 y3 y4 y5 hrow7 hrow7' hd hb7
  obtain ⟨x0, x1, x2, x3, x4, x5⟩ := row6 hrow8
  obtain ⟨y0, y1, y2, y3, y4, y5⟩ := row6 hrow8'
  simp only [six] at x0 x1 x2 x3 x4 x5 y0 y1 y2 y3 y4 y5
  simp at x0 x1 x2 x3 x4 x5 y0 y1 y2 y3 y4 y5
  go_wp2_with fail
  refine (eqWS_any A5 A5' n5 c5 c5' b.inner _ w.heap.size w.heap.size ((h5.wide hB).below hb8) ((h5'.wide hB').below hb8) hb8.size hb8.size w5).mono ?_
  rintro e w9 ⟨rfl, hb⟩
  have hb9 := hb8.trans (hb.mono hb8.size)
  clear x0 x1 x2 x3 x4 x5 y0 y1 y2 y3 y4 y5 hrow8 hrow8' hb
  go_wp2_with fail
  go_ret
  exact ⟨rfl, hb9⟩
theorem eqB_any (v v' : Value) (b : Big) (w : World) (B B' : Nat) (h : BigAt w B v b) (h' : BigAt w B' v' b) (hB : B ≤ w.heap.size) (hB' : B' ≤ w.heap.size) (hw : BigW b) (hs : b.outer.length ≤ 1048576) :
    Calls Try.prog 13 #[v, v'] w fun e w' => e = .returned (.bool true) ∧ Below w.heap.size w w' := eqBL_any v v' b w B B' h h' hB hB' (bigLn_of hw) hs
end Go.Proofs.Ytifialdkjnmfoab.hb
