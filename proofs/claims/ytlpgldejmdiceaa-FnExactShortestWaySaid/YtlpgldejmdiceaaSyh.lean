/- The laws' helpers on [][3]int and Systems: size, copy, comparison. -/
import Derived.Test.YtlpgldejmdiceaaSya
import Derived.StillTailTactics
namespace Go.Proofs.Ytlpgldejmdiceaa.syh
open kit bg sg opn strs only hb sig isig un over gn nm inn ht gd im pt marks eqs hc hi hw hn rs br bm bw cf lf ib isa lawb lw cl bgs cz syx sya
open Go.RowKit
set_option linter.unusedVariables false
set_option linter.unusedSimpArgs false

set_option maxRecDepth 20000 in
set_option maxHeartbeats 1600000 in
theorem szA3S_any (A : Option Addr) (n c : Nat) (left : Int) (w : World) (hl0 : -1 ≤ left) (hl : left ≤ 1048576) (hn : n ≤ maxLen) :
    Calls Try.prog 16 #[.slice A n c, .int .i64 left] w (szP n left w) := by
  unfold maxLen at hn
  by_cases hneg : left - (n : Int) < 0
  · go_enter Try.func16, Try.ntmps16
    go_wp2_with fail
    go_ret
    exact ⟨-1, rfl, .inl (by omega), by omega, by omega, Below.refl _ _⟩
  · have hneg' : ¬ (left - (n : Int) < 0) := hneg
    go_enter Try.func16, Try.ntmps16
    go_wp2_with fail
    go_ret
    exact ⟨left - n, rfl, .inr rfl, by omega, by omega, Below.refl _ _⟩

def T3 (a b c : Int) : Array Value := #[.int .i64 a, .int .i64 b, .int .i64 c]
set_option maxRecDepth 20000 in
set_option maxHeartbeats 3200000 in
theorem toA3_any (p q r : Int) (w : World) :
    Calls Try.prog 60 #[.agg #[.int .i64 p, .int .i64 q, .int .i64 r]] w fun e w' => e = .returned (.agg #[.int .i64 p, .int .i64 q, .int .i64 r]) ∧ Below w.heap.size w w' := by
  have B0 : BoxN (((w.alloc (.cells #[.int .i64 p, .int .i64 q, .int .i64 r] 76)).alloc (.cells #[.int .i64 0, .int .i64 0, .int .i64 0] 76)).alloc (.cells #[.int .i64 0, .int .i64 0, .int .i64 0] 76)) w.heap.size 76 [.int .i64 p, .int .i64 q, .int .i64 r] := ((BoxN.new w #[.int .i64 p, .int .i64 q, .int .i64 r] 76).below ((Below.refl _ _).alloc (Nat.le_refl _) _) (by simp)).below ((Below.refl _ _).alloc (Nat.le_refl _) _) (by simp; omega)
  have B1 : BoxN (((w.alloc (.cells #[.int .i64 p, .int .i64 q, .int .i64 r] 76)).alloc (.cells #[.int .i64 0, .int .i64 0, .int .i64 0] 76)).alloc (.cells #[.int .i64 0, .int .i64 0, .int .i64 0] 76)) (w.heap.size + 1) 76 [.int .i64 0, .int .i64 0, .int .i64 0] := by
    have := (BoxN.new (w.alloc (.cells #[.int .i64 p, .int .i64 q, .int .i64 r] 76)) #[.int .i64 0, .int .i64 0, .int .i64 0] 76).below ((Below.refl _ _).alloc (Nat.le_refl _) (.cells #[.int .i64 0, .int .i64 0, .int .i64 0] 76)) (by simp)
    rw [World.size_alloc] at this
    exact this
  have B2 : BoxN (((w.alloc (.cells #[.int .i64 p, .int .i64 q, .int .i64 r] 76)).alloc (.cells #[.int .i64 0, .int .i64 0, .int .i64 0] 76)).alloc (.cells #[.int .i64 0, .int .i64 0, .int .i64 0] 76)) (w.heap.size + 1 + 1) 76 [.int .i64 0, .int .i64 0, .int .i64 0] := by
    have := BoxN.new ((w.alloc (.cells #[.int .i64 p, .int .i64 q, .int .i64 r] 76)).alloc (.cells #[.int .i64 0, .int .i64 0, .int .i64 0] 76)) #[.int .i64 0, .int .i64 0, .int .i64 0] 76
    rw [World.size_alloc, World.size_alloc] at this
    exact this
  have HB : Below w.heap.size w (((w.alloc (.cells #[.int .i64 p, .int .i64 q, .int .i64 r] 76)).alloc (.cells #[.int .i64 0, .int .i64 0, .int .i64 0] 76)).alloc (.cells #[.int .i64 0, .int .i64 0, .int .i64 0] 76)) := (((Below.refl w.heap.size w).alloc (Nat.le_refl _) _).alloc (by simp) _).alloc (by simp; omega) _
  obtain ⟨W, hW⟩ : ∃ W, ((w.alloc (.cells #[.int .i64 p, .int .i64 q, .int .i64 r] 76)).alloc (.cells #[.int .i64 0, .int .i64 0, .int .i64 0] 76)).alloc (.cells #[.int .i64 0, .int .i64 0, .int .i64 0] 76) = W := ⟨_, rfl⟩
  rw [hW] at B0 B1 B2 HB
  have HWq := Lib.hid hW
  have H0 := Lib.hid B0
  have H1 := Lib.hid B1
  have H2 := Lib.hid B2
  have HB0 := Lib.hid HB
  clear hW B0 B1 B2 HB
  go_enter Try.func60, Try.ntmps60
  go_wp2_with fail
  rw [HWq.out]
  go_loopw [4] (fun i wr => ∃ k : Nat, k ≤ 3 ∧ i = .int .i64 k ∧ BoxN wr w.heap.size 76 [.int .i64 p, .int .i64 q, .int .i64 r] ∧ BoxN wr (w.heap.size + 1) 76 [.int .i64 0, .int .i64 0, .int .i64 0] ∧ BoxN wr (w.heap.size + 1 + 1) 76 [.int .i64 (if 0 < k then p else 0), .int .i64 (if 1 < k then q else 0), .int .i64 (if 2 < k then r else 0)] ∧ Below w.heap.size w wr) (fun i _ => 3 - (intOf i).toNat)
  case atStart => exact ⟨0, by omega, rfl, H0.out, H1.out, H2.out, HB0.out⟩
  case round =>
    obtain ⟨k, hk, rfl, b0, b1, b2, hb⟩ := hrel
    obtain ⟨x0, x1, x2⟩ := box3 b0
    obtain ⟨z0, z1, z2⟩ := box3 b2
    obtain ⟨y0, y1, y2⟩ := box3 b1
    have HB1 := Lib.hid b1
    have HB2 := Lib.hid b2
    have HBB := Lib.hid b0
    have HBl := Lib.hid hb
    match k, hk with
    | 0, _ =>
      have hfz := World.rowIs.frozen b2 0
      clear b0 b1 b2 hb
      go_wp2_with fail
      go_roundw
      case rel => exact ⟨1, by omega, by go_num, HBB.out.other (by omega) _ _, HB1.out.other (by omega) _ _, HB2.out.set 0 _, HBl.out.setCell (by show w.heap.size ≤ w.heap.size + 1 + 1; omega) _⟩
      case measure => simp [intOf]
    | 1, _ =>
      have hfz := World.rowIs.frozen b2 1
      clear b0 b1 b2 hb
      go_wp2_with fail
      go_roundw
      case rel => exact ⟨2, by omega, by go_num, HBB.out.other (by omega) _ _, HB1.out.other (by omega) _ _, HB2.out.set 1 _, HBl.out.setCell (by show w.heap.size ≤ w.heap.size + 1 + 1; omega) _⟩
      case measure => simp [intOf]
    | 2, _ =>
      have hfz := World.rowIs.frozen b2 2
      clear b0 b1 b2 hb
      go_wp2_with fail
      go_roundw
      case rel => exact ⟨3, by omega, by go_num, HBB.out.other (by omega) _ _, HB1.out.other (by omega) _ _, HB2.out.set 2 _, HBl.out.setCell (by show w.heap.size ≤ w.heap.size + 1 + 1; omega) _⟩
      case measure => simp [intOf]
    | 3, _ =>
      have f0 := World.rowIs.frozen b1 0
      have f1 := World.rowIs.frozen b1 1
      have f2 := World.rowIs.frozen b1 2
      simp only [show (0 : Nat) < 3 by omega, show (1 : Nat) < 3 by omega, show (2 : Nat) < 3 by omega, if_true] at z0 z1 z2
      clear b0 b1 b2 hb
      go_wp2_with fail
      refine bodyPost_ret (v := .agg #[.int .i64 p, .int .i64 q, .int .i64 r]) (by simp [results, Try.results60, go_sem, y0, y1, y2]) rfl ?_
      exact ⟨rfl, ((HBl.out.setCell (by show w.heap.size ≤ w.heap.size + 1; omega) _).setCell (by show w.heap.size ≤ w.heap.size + 1; omega) _).setCell (by show w.heap.size ≤ w.heap.size + 1; omega) _⟩

set_option maxRecDepth 20000 in
set_option maxHeartbeats 1600000 in
theorem eqA3_any (p q r : Int) (w : World) :
    Calls Try.prog 65 #[.agg #[.int .i64 p, .int .i64 q, .int .i64 r], .agg #[.int .i64 p, .int .i64 q, .int .i64 r]] w fun e w' => e = .returned (.bool true) ∧ Below w.heap.size w w' := by
  have B0 : BoxN ((w.alloc (.cells #[.int .i64 p, .int .i64 q, .int .i64 r] 76)).alloc (.cells #[.int .i64 p, .int .i64 q, .int .i64 r] 76)) w.heap.size 76 [.int .i64 p, .int .i64 q, .int .i64 r] := (BoxN.new w #[.int .i64 p, .int .i64 q, .int .i64 r] 76).below ((Below.refl _ _).alloc (Nat.le_refl _) _) (by simp)
  have B1 : BoxN ((w.alloc (.cells #[.int .i64 p, .int .i64 q, .int .i64 r] 76)).alloc (.cells #[.int .i64 p, .int .i64 q, .int .i64 r] 76)) (w.heap.size + 1) 76 [.int .i64 p, .int .i64 q, .int .i64 r] := by
    have := BoxN.new (w.alloc (.cells #[.int .i64 p, .int .i64 q, .int .i64 r] 76)) #[.int .i64 p, .int .i64 q, .int .i64 r] 76
    rw [World.size_alloc] at this
    exact this
  have HB : Below w.heap.size w ((w.alloc (.cells #[.int .i64 p, .int .i64 q, .int .i64 r] 76)).alloc (.cells #[.int .i64 p, .int .i64 q, .int .i64 r] 76)) := ((Below.refl w.heap.size w).alloc (Nat.le_refl _) _).alloc (by simp) _
  obtain ⟨W, hW⟩ : ∃ W, (w.alloc (.cells #[.int .i64 p, .int .i64 q, .int .i64 r] 76)).alloc (.cells #[.int .i64 p, .int .i64 q, .int .i64 r] 76) = W := ⟨_, rfl⟩
  rw [hW] at B0 B1 HB
  have HWq := Lib.hid hW
  have H0 := Lib.hid B0
  have H1 := Lib.hid B1
  have HB0 := Lib.hid HB
  clear hW B0 B1 HB
  go_enter Try.func65, Try.ntmps65
  go_wp2_with fail
  rw [HWq.out]
  go_loopw [5] (fun i wr => ∃ k : Nat, k ≤ 3 ∧ i = .int .i64 k ∧ Dr W wr) (fun i _ => 3 - (intOf i).toNat)
  case atStart => exact ⟨0, Nat.zero_le _, rfl, Dr.refl _⟩
  case round =>
    obtain ⟨k, hk, rfl, hd⟩ := hrel
    obtain ⟨x0, x1, x2⟩ := box3 H0.out
    obtain ⟨y0, y1, y2⟩ := box3 H1.out
    have d0 := (hd.cell _).trans x0
    have d1 := (hd.cell _).trans x1
    have d2 := (hd.cell _).trans x2
    have g0 := (hd.cell _).trans y0
    have g1 := (hd.cell _).trans y1
    have g2 := (hd.cell _).trans y2
    clear x0 x1 x2 y0 y1 y2
    match k, hk with
    | 0, _ =>
      go_wp2_with fail
      go_quiet (fail)
      go_wp2_with fail
      go_roundw
      case rel => exact ⟨1, by omega, by go_num, by first | exact hd.more _ | exact hd⟩
      case measure => simp [intOf]
    | 1, _ =>
      go_wp2_with fail
      go_quiet (fail)
      go_wp2_with fail
      go_roundw
      case rel => exact ⟨2, by omega, by go_num, by first | exact hd.more _ | exact hd⟩
      case measure => simp [intOf]
    | 2, _ =>
      go_wp2_with fail
      go_quiet (fail)
      go_wp2_with fail
      go_roundw
      case rel => exact ⟨3, by omega, by go_num, by first | exact hd.more _ | exact hd⟩
      case measure => simp [intOf]
    | 3, _ =>
      go_wp2_with fail
      go_ret
      exact ⟨rfl, HB0.out.trans ((hd.below _).mono HB0.out.size)⟩
end Go.Proofs.Ytlpgldejmdiceaa.syh
