/- Whether a System is valid: spec.l10Before, spec.l10Good. -/
import Derived.Test.YtlpgldejmdiceaaSyg
namespace Go.Proofs.Ytlpgldejmdiceaa.syb
open kit bg sg opn strs only hb sig isig un over gn nm inn ht gd im pt marks eqs hc hi hw hn rs br bm bw cf lf ib isa lawb lw cl bgs cz syx sya syh syi syc syg
open Go.RowKit
set_option linter.unusedVariables false
set_option linter.unusedSimpArgs false
theorem lt3_a {a b : Tri} (h : ¬ a.1 = b.1) : lt3 a b = decide (a.1 < b.1) := by unfold lt3; simp [h]
theorem lt3_b {a b : Tri} (h0 : a.1 = b.1) (h : ¬ a.2.1 = b.2.1) : lt3 a b = decide (a.2.1 < b.2.1) := by unfold lt3; simp [h0, h]
theorem lt3_c {a b : Tri} (h0 : a.1 = b.1) (h1 : a.2.1 = b.2.1) : lt3 a b = decide (a.2.2 < b.2.2) := by unfold lt3; simp [h0, h1]

set_option maxRecDepth 20000 in
set_option maxHeartbeats 3200000 in
theorem before_any (a b : Tri) (w : World) :
    Calls Try.prog 104 #[triV a, triV b] w fun e w' => e = .returned (.bool (lt3 a b)) ∧ Below w.heap.size w w' := by
  obtain ⟨a0, a1, a2⟩ := a
  obtain ⟨b0, b1, b2⟩ := b
  unfold triV
  simp only
  have X0 : BoxN ((w.alloc (.cells #[.int .i64 a0, .int .i64 a1, .int .i64 a2] 76)).alloc (.cells #[.int .i64 b0, .int .i64 b1, .int .i64 b2] 76)) w.heap.size 76 [.int .i64 a0, .int .i64 a1, .int .i64 a2] := (BoxN.new w #[.int .i64 a0, .int .i64 a1, .int .i64 a2] 76).below ((Below.refl _ _).alloc (Nat.le_refl _) _) (by simp)
  have X1 : BoxN ((w.alloc (.cells #[.int .i64 a0, .int .i64 a1, .int .i64 a2] 76)).alloc (.cells #[.int .i64 b0, .int .i64 b1, .int .i64 b2] 76)) (w.heap.size + 1) 76 [.int .i64 b0, .int .i64 b1, .int .i64 b2] := by
    have := BoxN.new (w.alloc (.cells #[.int .i64 a0, .int .i64 a1, .int .i64 a2] 76)) #[.int .i64 b0, .int .i64 b1, .int .i64 b2] 76
    rw [World.size_alloc] at this
    exact this
  have HB : Below w.heap.size w ((w.alloc (.cells #[.int .i64 a0, .int .i64 a1, .int .i64 a2] 76)).alloc (.cells #[.int .i64 b0, .int .i64 b1, .int .i64 b2] 76)) := ((Below.refl w.heap.size w).alloc (Nat.le_refl _) _).alloc (by simp) _
  obtain ⟨W, hW⟩ : ∃ W, (w.alloc (.cells #[.int .i64 a0, .int .i64 a1, .int .i64 a2] 76)).alloc (.cells #[.int .i64 b0, .int .i64 b1, .int .i64 b2] 76) = W := ⟨_, rfl⟩
  rw [hW] at X0 X1 HB
  have HWq := Lib.hid hW
  have HB0 := Lib.hid HB
  have H0 := Lib.hid X0
  have H1 := Lib.hid X1
  obtain ⟨z, hz⟩ : ∃ z, lt3 (a0, a1, a2) (b0, b1, b2) = z := ⟨_, rfl⟩
  have HZ := Lib.hid hz
  rw [hz]
  clear hz hW X0 X1 HB
  go_enter Try.func104, Try.ntmps104
  go_wp2_with fail
  rw [HWq.out]
  go_loopw [5] (fun i wr => ∃ k : Nat, k ≤ 3 ∧ i = .int .i64 k ∧ (0 < k → a0 = b0) ∧ (1 < k → a1 = b1) ∧ (2 < k → a2 = b2) ∧ Dr W wr) (fun i _ => 3 - (intOf i).toNat)
  case atStart => exact ⟨0, by omega, rfl, by omega, by omega, by omega, Dr.refl _⟩
  case round =>
    obtain ⟨k, hk, rfl, e0, e1, e2, hd⟩ := hrel
    have HE := Lib.hid (And.intro e0 (And.intro e1 e2))
    obtain ⟨x0, x1, x2⟩ := box3 H0.out
    obtain ⟨y0, y1, y2⟩ := box3 H1.out
    have d0 := (hd.cell _).trans x0
    have d1 := (hd.cell _).trans x1
    have d2 := (hd.cell _).trans x2
    have g0 := (hd.cell _).trans y0
    have g1 := (hd.cell _).trans y1
    have g2 := (hd.cell _).trans y2
    have HD := Lib.hid hd
    clear x0 x1 x2 y0 y1 y2 e0 e1 e2 hd
    match k, hk with
    | 0, _ =>
      by_cases hq : a0 = b0
      · subst hq
        go_wp2_with fail
        go_quiet (fail)
        go_wp2_with fail
        go_roundw
        case rel => exact ⟨1, by omega, by go_num, fun _ => by trivial, by omega, by omega, by first | exact HD.out.more _ | exact HD.out⟩
        case measure => simp [intOf]
      · have hz2 := HZ.out.symm.trans (lt3_a (a := (a0, a1, a2)) (b := (b0, b1, b2)) hq)
        simp only at hz2
        have HQ := Lib.hid hz2
        have hne : (a0 != b0) = true := by simp [hq]
        clear hz2
        by_cases hl : a0 < b0
        · have HLe := Lib.hid (decide_eq_true hl)
          go_wp2_with fail
          go_quiet (fail)
          go_wp2_with fail
          go_quiet (fail)
          go_wp2_with fail
          go_ret
          exact ⟨by rw [HQ.out, HLe.out]; first | rfl | simp [hl], HB0.out.trans (((HD.out.more _).more _).below _ |>.mono HB0.out.size)⟩
        · have HLe := Lib.hid (decide_eq_false hl)
          go_wp2_with fail
          go_quiet (fail)
          go_wp2_with fail
          go_quiet (fail)
          go_wp2_with fail
          go_ret
          exact ⟨by rw [HQ.out, HLe.out]; first | rfl | simp [hl], HB0.out.trans (((HD.out.more _).more _).below _ |>.mono HB0.out.size)⟩
    | 1, _ =>
      by_cases hq : a1 = b1
      · subst hq
        go_wp2_with fail
        go_quiet (fail)
        go_wp2_with fail
        go_roundw
        case rel => exact ⟨2, by omega, by go_num, fun _ => HE.out.1 (by omega), fun _ => by trivial, by omega, by first | exact HD.out.more _ | exact HD.out⟩
        case measure => simp [intOf]
      · have hz2 := HZ.out.symm.trans (lt3_b (a := (a0, a1, a2)) (b := (b0, b1, b2)) (HE.out.1 (by omega)) hq)
        simp only at hz2
        have HQ := Lib.hid hz2
        have hne : (a1 != b1) = true := by simp [hq]
        clear hz2
        by_cases hl : a1 < b1
        · have HLe := Lib.hid (decide_eq_true hl)
          go_wp2_with fail
          go_quiet (fail)
          go_wp2_with fail
          go_quiet (fail)
          go_wp2_with fail
          go_ret
          exact ⟨by rw [HQ.out, HLe.out]; first | rfl | simp [hl], HB0.out.trans (((HD.out.more _).more _).below _ |>.mono HB0.out.size)⟩
        · have HLe := Lib.hid (decide_eq_false hl)
          go_wp2_with fail
          go_quiet (fail)
          go_wp2_with fail
          go_quiet (fail)
          go_wp2_with fail
          go_ret
          exact ⟨by rw [HQ.out, HLe.out]; first | rfl | simp [hl], HB0.out.trans (((HD.out.more _).more _).below _ |>.mono HB0.out.size)⟩
    | 2, _ =>
      by_cases hq : a2 = b2
      · subst hq
        go_wp2_with fail
        go_quiet (fail)
        go_wp2_with fail
        go_roundw
        case rel => exact ⟨3, by omega, by go_num, fun _ => HE.out.1 (by omega), fun _ => HE.out.2.1 (by omega), fun _ => by trivial, by first | exact HD.out.more _ | exact HD.out⟩
        case measure => simp [intOf]
      · have hz2 := HZ.out.symm.trans (lt3_c (a := (a0, a1, a2)) (b := (b0, b1, b2)) (HE.out.1 (by omega)) (HE.out.2.1 (by omega)))
        simp only at hz2
        have HQ := Lib.hid hz2
        have hne : (a2 != b2) = true := by simp [hq]
        clear hz2
        by_cases hl : a2 < b2
        · have HLe := Lib.hid (decide_eq_true hl)
          go_wp2_with fail
          go_quiet (fail)
          go_wp2_with fail
          go_quiet (fail)
          go_wp2_with fail
          go_ret
          exact ⟨by rw [HQ.out, HLe.out]; first | rfl | simp [hl], HB0.out.trans (((HD.out.more _).more _).below _ |>.mono HB0.out.size)⟩
        · have HLe := Lib.hid (decide_eq_false hl)
          go_wp2_with fail
          go_quiet (fail)
          go_wp2_with fail
          go_quiet (fail)
          go_wp2_with fail
          go_ret
          exact ⟨by rw [HQ.out, HLe.out]; first | rfl | simp [hl], HB0.out.trans (((HD.out.more _).more _).below _ |>.mono HB0.out.size)⟩
    | 3, _ =>
      have hz2 := HZ.out.symm.trans (lt3_c (a := (a0, a1, a2)) (b := (b0, b1, b2)) (HE.out.1 (by omega)) (HE.out.2.1 (by omega)))
      have hz3 : z = false := by rw [hz2]; exact decide_eq_false (by have := HE.out.2.2 (by omega); show ¬ a2 < b2; omega)
      have HZ3 := Lib.hid hz3
      clear hz2 hz3 d0 d1 d2 g0 g1 g2
      go_wp2_with fail
      go_ret
      exact ⟨by rw [HZ3.out]; rfl, HB0.out.trans ((HD.out.below _).mono HB0.out.size)⟩
end Go.Proofs.Ytlpgldejmdiceaa.syb
