/- The laws' helpers on [][3]int and Systems, rows: copy, comparison, size. -/
import Derived.Test.YtlpgldejmdiceaaSyh
import Derived.StillTailTactics
namespace Go.Proofs.Ytlpgldejmdiceaa.syi
open kit bg sg opn strs only hb sig isig un over gn nm inn ht gd im pt marks eqs hc hi hw hn rs br bm bw cf lf ib isa lawb lw cl bgs cz syx sya syh
open Go.RowKit
set_option linter.unusedVariables false
set_option linter.unusedSimpArgs false
theorem tri_info : (Try.prog.info? 76).map (fun i => (i.zero, i.size, i.bytes)) = some (some (.agg #[.int .i64 0, .int .i64 0, .int .i64 0]), 3, 24) := by kernel_rfl

set_option maxRecDepth 20000 in
set_option maxHeartbeats 3200000 in
theorem toA3S_any (A : Option Addr) (n c : Nat) (ts : List Tri) (w : World) (h : TriAt w w.heap.size A n ts) (hn : n ≤ 1048576) :
    Calls Try.prog 19 #[.slice A n c] w fun e w' => e = .returned (.slice (some ⟨w.heap.size, 0, none⟩) n n) ∧ w'.rowIs w.heap.size 76 (n * 3) (trc ts) ∧ Below w.heap.size w w' := by
  have HL := Lib.hid h.1
  have hmk : ∀ W : World, (Instr.makeSlice 23 (.int .i64 (n : Int)) (.int .i64 (n : Int))).run Try.prog W = .ok (.slice (some ⟨W.heap.size, 0, none⟩) n n) (W.alloc (.cells (madeCells #[.int .i64 0, .int .i64 0, .int .i64 0] (n * 3)) 76)) := by
    intro W
    obtain ⟨i0, hi, hz0, hz1, hz2⟩ := info_parts tri_info
    have hr := run_make (P := Try.prog) W 23 76 i0 _ Try.underlying23 hi hz0 .i64 .i64 n n (by omega) (Int.le_refl _) (by rw [hz2]; omega) (by omega)
    simp only [Int.toNat_natCast, hz1] at hr
    exact hr
  go_enter Try.func19, Try.ntmps19
  go_wp2_with fail
  clear hmk
  go_loopw [4] (fun i wr => ∃ k : Nat, k ≤ n ∧ i = .int .i64 k ∧ (∃ f, wr.rowIs w.heap.size 76 (n * 3) f ∧ ∀ j, j < k * 3 → f j = trc ts j) ∧ Below w.heap.size w wr) (fun i _ => n - (intOf i).toNat)
  case atStart => exact ⟨0, Nat.zero_le _, rfl, ⟨_, row_new w _ _ _ (size_madeCells _ _), fun j hj => absurd hj (by omega)⟩, (Below.refl _ _).alloc (Nat.le_refl _) _⟩
  case round =>
    obtain ⟨k, hk, rfl, ⟨f, hrow, hf⟩, hbel⟩ := hrel
    have hlt0 := hrow.lt
    by_cases hlt : k < n
    · obtain ⟨g, off, x, rfl, hbb, hx, c0, c1, c2⟩ := h.get hlt
      have d0 := (hbel.cell (p := ⟨g, off + k * 3, none⟩) hbb).trans c0
      have d1 := (hbel.cell (p := ⟨g, off + k * 3 + 1, none⟩) hbb).trans c1
      have d2 := (hbel.cell (p := ⟨g, off + k * 3 + 2, none⟩) hbb).trans c2
      have C := toA3_any x.1 x.2.1 x.2.2 wr
      obtain ⟨t0, t1, t2⟩ := trc_at hx
      have HT := Lib.hid (And.intro t0 (And.intro t1 t2))
      have HF := Lib.hid hf
      clear hx c0 c1 c2 t0 t1 t2 hf
      go_wp2_with fail
      refine C.mono ?_
      rintro e w1 ⟨rfl, hb1⟩
      have hbel1 := hbel.trans (hb1.mono hbel.size)
      have hrow1 := hrow.of_block (hb1.block _ hlt0)
      have z0 := hrow1.cell (show k * 3 < n * 3 by omega)
      have z1 := hrow1.cell (show k * 3 + 1 < n * 3 by omega)
      have z2 := hrow1.cell (show k * 3 + 2 < n * 3 by omega)
      have f0 := hrow1.frozen (k * 3)
      have f1 := hrow1.frozen (k * 3 + 1)
      have f2 := hrow1.frozen (k * 3 + 2)
      have HN := Lib.hid (((hrow1.set (k * 3) (.int .i64 x.1)).set (k * 3 + 1) (.int .i64 x.2.1)).set (k * 3 + 2) (.int .i64 x.2.2))
      have HB := Lib.hid (((hbel1.setCell (p := ⟨w.heap.size, k * 3, none⟩) (Nat.le_refl _) (.int .i64 x.1)).setCell (p := ⟨w.heap.size, k * 3 + 1, none⟩) (Nat.le_refl _) (.int .i64 x.2.1)).setCell (p := ⟨w.heap.size, k * 3 + 2, none⟩) (Nat.le_refl _) (.int .i64 x.2.2))
      clear hb1 hbel1 hrow hrow1 hbel C d0 d1 d2
      go_wp2_with fail
      go_roundw
      case rel =>
        refine ⟨k + 1, by omega, by go_num, ⟨_, HN.out, fun j hj => ?_⟩, HB.out⟩
        show (if j = k * 3 + 2 then _ else if j = k * 3 + 1 then _ else if j = k * 3 then _ else f j) = _
        by_cases e2 : j = k * 3 + 2
        · rw [if_pos e2, e2, HT.out.2.2]
        · rw [if_neg e2]
          by_cases e1 : j = k * 3 + 1
          · rw [if_pos e1, e1, HT.out.2.1]
          · rw [if_neg e1]
            by_cases e0 : j = k * 3
            · rw [if_pos e0, e0, HT.out.1]
            · rw [if_neg e0]
              exact HF.out j (by omega)
      case measure => simp [intOf]; omega
    · obtain rfl : k = n := by omega
      have HR := Lib.hid (hrow.congr (g := trc ts) (fun j hj => hf j hj))
      clear hrow hf
      go_wp2_with fail
      go_ret
      exact ⟨rfl, HR.out, hbel⟩

set_option maxRecDepth 20000 in
set_option maxHeartbeats 1600000 in
theorem eqA3S_any (A A' : Option Addr) (n c c' : Nat) (ts : List Tri) (w : World) (B B' : Nat) (h : TriAt w B A n ts) (h' : TriAt w B' A' n ts) (hB : B ≤ w.heap.size) (hB' : B' ≤ w.heap.size) (hn : n ≤ maxLen) :
    Calls Try.prog 22 #[.slice A n c, .slice A' n c'] w fun e w' => e = .returned (.bool true) ∧ Below w.heap.size w w' := by
  unfold maxLen at hn
  go_enter Try.func22, Try.ntmps22
  go_wp2_with fail
  go_loopw [5] (fun i wr => ∃ k : Nat, k ≤ n ∧ i = .int .i64 k ∧ Below w.heap.size w wr) (fun i _ => n - (intOf i).toNat)
  case atStart => exact ⟨0, Nat.zero_le _, rfl, Below.refl _ _⟩
  case round =>
    obtain ⟨k, hk, rfl, hb⟩ := hrel
    by_cases hlt : k < n
    · obtain ⟨b, off, x, rfl, hbb, hx, c0, c1, c2⟩ := h.get hlt
      obtain ⟨b', off', x', rfl, hbb', hx', c0', c1', c2'⟩ := h'.get hlt
      rw [hx] at hx'
      injection hx' with e
      subst e
      have d0 := (hb.cell (p := ⟨b, off + k * 3, none⟩) (show b < w.heap.size by omega)).trans c0
      have d1 := (hb.cell (p := ⟨b, off + k * 3 + 1, none⟩) (show b < w.heap.size by omega)).trans c1
      have d2 := (hb.cell (p := ⟨b, off + k * 3 + 2, none⟩) (show b < w.heap.size by omega)).trans c2
      have d0' := (hb.cell (p := ⟨b', off' + k * 3, none⟩) (show b' < w.heap.size by omega)).trans c0'
      have d1' := (hb.cell (p := ⟨b', off' + k * 3 + 1, none⟩) (show b' < w.heap.size by omega)).trans c1'
      have d2' := (hb.cell (p := ⟨b', off' + k * 3 + 2, none⟩) (show b' < w.heap.size by omega)).trans c2'
      clear hx c0 c1 c2 c0' c1' c2'
      go_wp2_with fail
      go_still_tail 8, (by kernel_rfl)
      change wpList _ _ _ _ _ wr.drew
      obtain ⟨w2, hw2⟩ : ∃ w2, wr.drew = w2 := ⟨_, rfl⟩
      have hb2 : Below w.heap.size w w2 := hw2 ▸ hb.drew
      rw [hw2]
      clear hw2
      go_wp2_with fail
      refine (eqA3_any _ _ _ _).mono ?_
      rintro e w3 ⟨rfl, hb3⟩
      have hb3' := hb2.trans (hb3.mono hb2.size)
      clear hb3
      go_wp2_with fail
      go_roundw
      case rel => exact ⟨k + 1, by omega, by go_num, hb3'⟩
      case measure => simp [intOf]; omega
    · obtain rfl : k = n := by omega
      go_wp2_with fail
      go_ret
      exact ⟨rfl, hb⟩

set_option maxRecDepth 20000 in
set_option maxHeartbeats 1600000 in
theorem szSys_any (v : Value) (x : Sysm) (left : Int) (w : World) (h : SysAt w w.heap.size v x) (hl0 : -1 ≤ left) (hl : left ≤ 1048576) (hw : SysW x) :
    Calls Try.prog 15 #[v, .int .i64 left] w (szP (sysWt x) left w) := by
  obtain ⟨A1, n1, c1, A2, n2, c2, rfl, h1, h2⟩ := h
  have HBx := Lib.hid (BoxN.new w #[.slice A1 n1 c1, .slice A2 n2 c2] 25)
  have HB0 := Lib.hid ((Below.refl w.heap.size w).alloc (Nat.le_refl _) (.cells #[.slice A1 n1 c1, .slice A2 n2 c2] 25))
  obtain ⟨W, hW⟩ : ∃ W, w.alloc (.cells #[.slice A1 n1 c1, .slice A2 n2 c2] 25) = W := ⟨_, rfl⟩
  rw [hW] at HBx HB0
  have HWq := Lib.hid hW
  have hWs : w.heap.size < W.heap.size := HBx.out.lt
  have C := szBS_any A1 n1 c1 x.states left W W.heap.size ((h1.below HB0.out).wide HB0.out.size) (Nat.le_refl _) hl0 hl hw.1
  have HT2 := Lib.hid h2.1
  have HW := Lib.hid hw
  obtain ⟨x0, x1⟩ := box2 HBx.out
  clear hW h1 h2 hw
  go_enter Try.func15, Try.ntmps15
  go_wp2_with fail
  rw [HWq.out]
  go_wp2_with fail
  refine C.mono ?_
  rintro e w1 ⟨r, rfl, hr, hr1, hr2, hb⟩
  have hb1 := HB0.out.trans (hb.mono HB0.out.size)
  obtain ⟨y0, y1⟩ := box2 (HBx.out.below hb hWs)
  have HR := Lib.hid hr
  clear C x0 x1 hb hr
  by_cases hneg : r < 0
  · go_wp2_with fail
    go_ret
    exact ⟨-1, rfl, .inl (by omega), by omega, by omega, hb1⟩
  · have C2 := szA3S_any A2 n2 c2 r w1 hr1 (by omega) (by have := HW.out.2.1; have := HT2.out; omega)
    go_wp2_with fail
    refine C2.mono ?_
    rintro e w2 ⟨r2, rfl, hr', hr1', hr2', hb⟩
    have hb2 := hb1.trans (hb.mono hb1.size)
    have HR2 := Lib.hid hr'
    clear C2 y0 y1 hb hr'
    by_cases hneg2 : r2 < 0
    · go_wp2_with fail
      go_ret
      exact ⟨-1, rfl, .inl (by omega), by omega, by omega, hb2⟩
    · go_wp2_with fail
      go_ret
      exact ⟨r2, rfl, .inr (by have := HR.out; have := HR2.out; have := HT2.out; unfold sysWt; omega), by omega, by omega, hb2⟩

set_option maxRecDepth 20000 in
set_option maxHeartbeats 3200000 in
theorem toSys_any (v : Value) (x : Sysm) (w : World) (h : SysAt w w.heap.size v x) (hs : sysWt x ≤ 1048576) :
    Calls Try.prog 18 #[v] w fun e w' => ∃ v', e = .returned v' ∧ SysOwn w' w.heap.size v' x ∧ Below w.heap.size w w' := by
  obtain ⟨A1, n1, c1, A2, n2, c2, rfl, h1, h2⟩ := h
  have hl1 := h1.1
  have hl2 := h2.1
  have B0 : BoxN (((w.alloc (.cells #[.slice A1 n1 c1, .slice A2 n2 c2] 25)).alloc (.cells #[.slice none 0 0, .slice none 0 0] 32)).alloc (.cells #[.slice none 0 0, .slice none 0 0] 32)) w.heap.size 25 [.slice A1 n1 c1, .slice A2 n2 c2] := ((BoxN.new w #[.slice A1 n1 c1, .slice A2 n2 c2] 25).below ((Below.refl _ _).alloc (Nat.le_refl _) _) (by simp)).below ((Below.refl _ _).alloc (Nat.le_refl _) _) (by simp; omega)
  have B1 : BoxN (((w.alloc (.cells #[.slice A1 n1 c1, .slice A2 n2 c2] 25)).alloc (.cells #[.slice none 0 0, .slice none 0 0] 32)).alloc (.cells #[.slice none 0 0, .slice none 0 0] 32)) (w.heap.size + 1) 32 [.slice none 0 0, .slice none 0 0] := by
    have := (BoxN.new (w.alloc (.cells #[.slice A1 n1 c1, .slice A2 n2 c2] 25)) #[.slice none 0 0, .slice none 0 0] 32).below ((Below.refl _ _).alloc (Nat.le_refl _) (.cells #[.slice none 0 0, .slice none 0 0] 32)) (by simp)
    rw [World.size_alloc] at this
    exact this
  have B2 : BoxN (((w.alloc (.cells #[.slice A1 n1 c1, .slice A2 n2 c2] 25)).alloc (.cells #[.slice none 0 0, .slice none 0 0] 32)).alloc (.cells #[.slice none 0 0, .slice none 0 0] 32)) (w.heap.size + 1 + 1) 32 [.slice none 0 0, .slice none 0 0] := by
    have := BoxN.new ((w.alloc (.cells #[.slice A1 n1 c1, .slice A2 n2 c2] 25)).alloc (.cells #[.slice none 0 0, .slice none 0 0] 32)) #[.slice none 0 0, .slice none 0 0] 32
    rw [World.size_alloc, World.size_alloc] at this
    exact this
  have HB : Below w.heap.size w (((w.alloc (.cells #[.slice A1 n1 c1, .slice A2 n2 c2] 25)).alloc (.cells #[.slice none 0 0, .slice none 0 0] 32)).alloc (.cells #[.slice none 0 0, .slice none 0 0] 32)) := (((Below.refl w.heap.size w).alloc (Nat.le_refl _) _).alloc (by simp) _).alloc (by simp; omega) _
  have hsz : (((w.alloc (.cells #[.slice A1 n1 c1, .slice A2 n2 c2] 25)).alloc (.cells #[.slice none 0 0, .slice none 0 0] 32)).alloc (.cells #[.slice none 0 0, .slice none 0 0] 32)).heap.size = w.heap.size + 3 := by simp
  obtain ⟨W, hW⟩ : ∃ W, ((w.alloc (.cells #[.slice A1 n1 c1, .slice A2 n2 c2] 25)).alloc (.cells #[.slice none 0 0, .slice none 0 0] 32)).alloc (.cells #[.slice none 0 0, .slice none 0 0] 32) = W := ⟨_, rfl⟩
  rw [hW] at B0 B1 B2 HB hsz
  have HWq := Lib.hid hW
  have H0 := Lib.hid B0
  have H1 := Lib.hid B1
  have H2 := Lib.hid B2
  have HB0 := Lib.hid HB
  have HSz := Lib.hid hsz
  have hWs : w.heap.size < W.heap.size := by omega
  unfold sysWt bgsWt at hs
  have C := toBS_any A1 n1 c1 x.states W ((h1.below HB).wide HB.size) (by omega) (fun b hb => bgs_big (by unfold bgsWt; omega) hb)
  have HT := Lib.hid h2
  obtain ⟨x0, x1⟩ := box2 B0
  obtain ⟨z0, z1⟩ := box2 B2
  clear hW B0 B1 B2 HB h1 h2 hsz
  go_enter Try.func18, Try.ntmps18
  go_wp2_with fail
  rw [HWq.out]
  go_wp2_with fail
  refine C.mono ?_
  rintro e w1 ⟨g, rfl, hbk, hg, hgl, hb⟩
  have hb1 := HB0.out.trans (hb.mono HB0.out.size)
  have hz1 := hb.size
  have hfz := World.rowIs.frozen (H2.out.below hb (by have := HSz.out; omega)) 0
  have H2b := Lib.hid (H2.out.below hb (by have := HSz.out; omega))
  have H1b := Lib.hid (H1.out.below hb (by have := HSz.out; omega))
  have H0b := Lib.hid (H0.out.below hb (by have := HSz.out; omega))
  have HB1 := Lib.hid hb1
  have HK := Lib.hid hbk
  have hgW : W.heap.size ≤ g := hg
  have HG := Lib.hid (And.intro hg hgl)
  have hv2 : Hid (Below w1.heap.size w1 w1) := Lib.hid (Below.refl _ _)
  obtain ⟨v1, hv1⟩ : ∃ v1, Value.slice (some ⟨g, 0, none⟩) n1 n1 = v1 := ⟨_, rfl⟩
  have HV1 := Lib.hid hv1
  have b20 := H2b.out.set 0 (.slice (some ⟨g, 0, none⟩) n1 n1)
  have b10 := H1b.out.other (γ := w.heap.size + 1 + 1) (by omega) 0 (.slice (some ⟨g, 0, none⟩) n1 n1)
  have b00 := H0b.out.other (γ := w.heap.size + 1 + 1) (by omega) 0 (.slice (some ⟨g, 0, none⟩) n1 n1)
  have bel0 := hb1.setCell (p := ⟨w.heap.size + 1 + 1, 0, none⟩) (by show w.heap.size ≤ w.heap.size + 1 + 1; omega) (.slice (some ⟨g, 0, none⟩) n1 n1)
  have hblk : ∀ i, i ≠ w.heap.size + 1 + 1 → (w1.setCell ⟨w.heap.size + 1 + 1, 0, none⟩ (.slice (some ⟨g, 0, none⟩) n1 n1)).heap[i]? = w1.heap[i]? := fun i hi => Below.heap_setCell _ _ _ _ (by simpa using hi)
  have hgs : (w1.setCell ⟨w.heap.size + 1 + 1, 0, none⟩ (.slice (some ⟨g, 0, none⟩) n1 n1)).heap.size = w1.heap.size := by simp [World.setCell]
  have y1 := (box2 b00).2
  obtain ⟨w2, hw2⟩ : ∃ w2, w1.setCell ⟨w.heap.size + 1 + 1, 0, none⟩ (.slice (some ⟨g, 0, none⟩) n1 n1) = w2 := ⟨_, rfl⟩
  have HW2 := Lib.hid hw2
  rw [hw2] at b20 b10 b00 bel0 hblk hgs
  have HX2 := Lib.hid (And.intro b20 (And.intro b10 (And.intro bel0 (And.intro hblk hgs))))
  have y0 := (box2 H2b.out).1
  clear hw2 b20 b10 b00 bel0 hblk hgs hb hb1 hbk hv1 x0 x1 z0 z1 C hg hgl hz1 hgW
  go_wp2_with fail
  rw [HW2.out]
  obtain ⟨b20, b10, bel0, hblk, hgs⟩ := HX2.out
  have C2 := toA3S_any A2 n2 c2 x.steps w2 ((HT.out.below bel0).wide bel0.size) (by omega)
  have HB2 := Lib.hid bel0
  have HS2 := Lib.hid hgs
  obtain ⟨y2, y3⟩ := box2 b20
  clear y0 y1 bel0 hgs
  go_wp2_with fail
  refine C2.mono ?_
  rintro e w3 ⟨rfl, hrow3, hb3⟩
  have hsz2 : w.heap.size + 1 + 1 < w2.heap.size := by have := HS2.out; have := HG.out; have := HSz.out; omega
  have c20 := b20.below hb3 hsz2
  have c10 := b10.below hb3 (by omega)
  have z2 := (box2 c20).2
  have hfz2 := World.rowIs.frozen c20 1
  have bel3 := HB2.out.trans (hb3.mono HB2.out.size)
  have d20 := c20.set 1 (.slice (some ⟨w2.heap.size, 0, none⟩) n2 n2)
  have d10 := c10.other (γ := w.heap.size + 1 + 1) (by omega) 1 (.slice (some ⟨w2.heap.size, 0, none⟩) n2 n2)
  obtain ⟨u0, u1⟩ := box2 d20
  obtain ⟨s0, s1⟩ := box2 d10
  have f0 := World.rowIs.frozen d10 0
  have f1 := World.rowIs.frozen d10 1
  obtain ⟨r0, r1⟩ := box2 d10
  have HD10 := Lib.hid d10
  have bel4 := Lib.hid (((bel3.setCell (p := ⟨w.heap.size + 1 + 1, 1, none⟩) (by show w.heap.size ≤ w.heap.size + 1 + 1; omega) (.slice (some ⟨w2.heap.size, 0, none⟩) n2 n2)).setCell (p := ⟨w.heap.size + 1, 0, none⟩) (by show w.heap.size ≤ w.heap.size + 1; omega) (.slice (some ⟨g, 0, none⟩) n1 n1)).setCell (p := ⟨w.heap.size + 1, 1, none⟩) (by show w.heap.size ≤ w.heap.size + 1; omega) (.slice (some ⟨w2.heap.size, 0, none⟩) n2 n2))
  have hblk4 : Hid (∀ i, i ≠ w.heap.size + 1 + 1 → i ≠ w.heap.size + 1 → ((((w3.setCell ⟨w.heap.size + 1 + 1, 1, none⟩ (.slice (some ⟨w2.heap.size, 0, none⟩) n2 n2)).setCell ⟨w.heap.size + 1, 0, none⟩ (.slice (some ⟨g, 0, none⟩) n1 n1)).setCell ⟨w.heap.size + 1, 1, none⟩ (.slice (some ⟨w2.heap.size, 0, none⟩) n2 n2))).heap[i]? = w3.heap[i]?) := Lib.hid (fun i h1 h2 => by
    rw [Below.heap_setCell _ _ _ _ (by simpa using h2), Below.heap_setCell _ _ _ _ (by simpa using h2), Below.heap_setCell _ _ _ _ (by simpa using h1)])
  have hsz4 : Hid ((((w3.setCell ⟨w.heap.size + 1 + 1, 1, none⟩ (.slice (some ⟨w2.heap.size, 0, none⟩) n2 n2)).setCell ⟨w.heap.size + 1, 0, none⟩ (.slice (some ⟨g, 0, none⟩) n1 n1)).setCell ⟨w.heap.size + 1, 1, none⟩ (.slice (some ⟨w2.heap.size, 0, none⟩) n2 n2)).heap.size = w3.heap.size) := Lib.hid (by simp [World.setCell])
  have HB3 := Lib.hid hb3
  have HR3 := Lib.hid hrow3
  have HL := Lib.hid (And.intro hl1 hl2)
  clear d20 d10 c20 c10 b20 b10 bel3 hb3 hrow3 C2 hl1 hl2
  go_wp2_with fail
  refine bodyPost_ret (v := .agg #[.slice (some ⟨g, 0, none⟩) n1 n1, .slice (some ⟨w2.heap.size, 0, none⟩) n2 n2]) (by simp [results, Try.results18, go_sem, r0, r1]) rfl ?_
  obtain ⟨f, L, hfr, hLL, hfb⟩ := HK.out
  have hgt := HG.out
  have hz := HSz.out
  have hs2 := HS2.out
  have hrl := HR3.out.lt
  have hb3 := HB3.out
  obtain ⟨l1, l2⟩ := HL.out
  refine ⟨_, rfl, ?_, bel4.out⟩
  have keep : ∀ i, w.heap.size + 3 ≤ i → i < w2.heap.size → _ := fun i h1 h2 => (hblk4.out i (by omega) (by omega)).trans ((hb3.block i h2).trans (hblk i (by omega)))
  refine ⟨g, w2.heap.size, by rw [l1, l2], by omega, by omega, by rw [hsz4.out]; exact hrl, ⟨f, L, ?_, fun j hj => ⟨(hLL j (by omega)).1, by have := (hLL j (by omega)).2; omega⟩, fun j b hj hjb => ?_⟩, ?_⟩
  · rw [l1]
    exact hfr.of_block (keep g (by omega) (by omega))
  · exact (hfb j b (by omega) hjb).blocks (fun i h1 h2 => keep i (by have := (hLL j (by omega)).1; omega) (by have := (hLL (j + 1) (by omega)).2; omega))
  · rw [l2]
    exact HR3.out.of_block (hblk4.out _ (by omega) (by omega))

set_option maxRecDepth 20000 in
set_option maxHeartbeats 1600000 in
theorem eqSys_any (v v' : Value) (x : Sysm) (w : World) (h : SysAt w w.heap.size v x) (h' : SysAt w w.heap.size v' x) (hw : SysW x) (hs : sysWt x ≤ 1048576) :
    Calls Try.prog 21 #[v, v'] w fun e w' => e = .returned (.bool true) ∧ Below w.heap.size w w' := by
  obtain ⟨A1, n1, c1, A2, n2, c2, rfl, h1, h2⟩ := h
  obtain ⟨B1, m1, d1, B2, m2, d2, rfl, k1, k2⟩ := h'
  obtain rfl : n1 = m1 := h1.1.symm.trans k1.1
  obtain rfl : n2 = m2 := h2.1.symm.trans k2.1
  have hn1 : n1 ≤ maxLen := by have := hw.1.1; have := h1.1; omega
  have hn2 : n2 ≤ maxLen := by have := hw.2.1; have := h2.1; omega
  have X0 : BoxN ((w.alloc (.cells #[.slice A1 n1 c1, .slice A2 n2 c2] 32)).alloc (.cells #[.slice B1 n1 d1, .slice B2 n2 d2] 32)) w.heap.size 32 [.slice A1 n1 c1, .slice A2 n2 c2] := (BoxN.new w #[.slice A1 n1 c1, .slice A2 n2 c2] 32).below ((Below.refl _ _).alloc (Nat.le_refl _) _) (by simp)
  have X1 : BoxN ((w.alloc (.cells #[.slice A1 n1 c1, .slice A2 n2 c2] 32)).alloc (.cells #[.slice B1 n1 d1, .slice B2 n2 d2] 32)) (w.heap.size + 1) 32 [.slice B1 n1 d1, .slice B2 n2 d2] := by
    have := BoxN.new (w.alloc (.cells #[.slice A1 n1 c1, .slice A2 n2 c2] 32)) #[.slice B1 n1 d1, .slice B2 n2 d2] 32
    rw [World.size_alloc] at this
    exact this
  have HB : Below w.heap.size w ((w.alloc (.cells #[.slice A1 n1 c1, .slice A2 n2 c2] 32)).alloc (.cells #[.slice B1 n1 d1, .slice B2 n2 d2] 32)) := ((Below.refl w.heap.size w).alloc (Nat.le_refl _) _).alloc (by simp) _
  have hsz : ((w.alloc (.cells #[.slice A1 n1 c1, .slice A2 n2 c2] 32)).alloc (.cells #[.slice B1 n1 d1, .slice B2 n2 d2] 32)).heap.size = w.heap.size + 2 := by simp
  obtain ⟨W, hW⟩ : ∃ W, (w.alloc (.cells #[.slice A1 n1 c1, .slice A2 n2 c2] 32)).alloc (.cells #[.slice B1 n1 d1, .slice B2 n2 d2] 32) = W := ⟨_, rfl⟩
  rw [hW] at X0 X1 HB hsz
  have HWq := Lib.hid hW
  have H0 := Lib.hid X0
  have H1 := Lib.hid X1
  have HSz := Lib.hid hsz
  have HB0 := Lib.hid HB
  have C := eqBS_any A1 B1 n1 c1 d1 x.states W W.heap.size W.heap.size ((h1.below HB).wide HB.size) ((k1.below HB).wide HB.size) (Nat.le_refl _) (Nat.le_refl _) hn1 (fun b hb => ⟨hw.1.2 b hb, (bgs_big (by unfold sysWt at hs; omega) hb).2.2.2.1⟩)
  have HC2 := Lib.hid (fun w2 (hb : Below W.heap.size W w2) => eqA3S_any A2 B2 n2 c2 d2 x.steps w2 w2.heap.size w2.heap.size ((((h2.below HB).wide HB.size).below hb).wide hb.size) ((((k2.below HB).wide HB.size).below hb).wide hb.size) (Nat.le_refl _) (Nat.le_refl _) hn2)
  obtain ⟨x0, x1⟩ := box2 X0
  obtain ⟨y0, y1⟩ := box2 X1
  clear hW X0 X1 HB hsz h1 h2 k1 k2
  go_enter Try.func21, Try.ntmps21
  go_wp2_with fail
  rw [HWq.out]
  go_wp2_with fail
  refine C.mono ?_
  rintro e w1 ⟨rfl, hb⟩
  have hb1 := HB0.out.trans (hb.mono HB0.out.size)
  have C2 := HC2.out w1 hb
  clear x0 x1 y0 y1 C
  obtain ⟨x0, x1⟩ := box2 (H0.out.below hb (by have := HSz.out; omega))
  obtain ⟨y0, y1⟩ := box2 (H1.out.below hb (by have := HSz.out; omega))
  clear hb
  go_wp2_with fail
  refine C2.mono ?_
  rintro e w2 ⟨rfl, hb⟩
  have hb2 := hb1.trans (hb.mono hb1.size)
  clear C2 x0 x1 y0 y1 hb
  go_wp2_with fail
  go_ret
  exact ⟨rfl, hb2⟩
end Go.Proofs.Ytlpgldejmdiceaa.syi
