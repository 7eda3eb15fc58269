/- cmp.Compare and slices.Compare at ints; impl.compareSteps, spec.l10Before; states of a System. -/
import Derived.Test.YtlpgldejmdiceaaSyi
namespace Go.Proofs.Ytlpgldejmdiceaa.syc
open kit bg sg opn strs only hb sig isig un over gn nm inn ht gd im pt marks eqs hc hi hw hn rs br bm bw cf lf ib isa lawb lw cl bgs cz syx sya syh syi
open Go.RowKit
set_option linter.unusedVariables false
set_option linter.unusedSimpArgs false

def cmpI (x y : Int) : Int := if x < y then -1 else if y < x then 1 else 0
theorem cmpI_lt {x y : Int} : (cmpI x y < 0) ↔ x < y := by unfold cmpI; split <;> (try split) <;> omega
theorem cmpI_eq {x y : Int} : (cmpI x y = 0) ↔ x = y := by unfold cmpI; split <;> (try split) <;> omega
theorem nan_any (x : Int) (w : World) : Calls Try.prog 138 #[.int .i64 x] w fun e w' => e = .returned (.bool false) ∧ w = w' := by
  go_enter Try.func138, Try.ntmps138
  go_wp2_with fail
  go_ret
  exact ⟨by simp, rfl⟩
theorem cmpI_any (x y : Int) (w : World) : Calls Try.prog 112 #[.int .i64 x, .int .i64 y] w fun e w' => e = .returned (.int .i64 (cmpI x y)) ∧ w = w' := by
  by_cases h1 : x < y
  · have HC : Hid (cmpI x y = -1) := Lib.hid (by unfold cmpI; rw [if_pos h1])
    rw [HC.out]
    go_enter Try.func112, Try.ntmps112
    go_wp2_with fail
    refine (nan_any _ _).mono ?_
    rintro e w1 ⟨rfl, rfl⟩
    go_wp2_with fail
    refine (nan_any _ _).mono ?_
    rintro e w1 ⟨rfl, rfl⟩
    go_wp2_with fail
    go_ret
    exact ⟨rfl, rfl⟩
  · by_cases h2 : y < x
    · have HC : Hid (cmpI x y = 1) := Lib.hid (by unfold cmpI; rw [if_neg h1, if_pos h2])
      rw [HC.out]
      go_enter Try.func112, Try.ntmps112
      go_wp2_with fail
      refine (nan_any _ _).mono ?_
      rintro e w1 ⟨rfl, rfl⟩
      go_wp2_with fail
      refine (nan_any _ _).mono ?_
      rintro e w1 ⟨rfl, rfl⟩
      go_wp2_with fail
      go_ret
      exact ⟨rfl, rfl⟩
    · have HC : Hid (cmpI x y = 0) := Lib.hid (by unfold cmpI; rw [if_neg h1, if_neg h2])
      rw [HC.out]
      go_enter Try.func112, Try.ntmps112
      go_wp2_with fail
      refine (nan_any _ _).mono ?_
      rintro e w1 ⟨rfl, rfl⟩
      go_wp2_with fail
      refine (nan_any _ _).mono ?_
      rintro e w1 ⟨rfl, rfl⟩
      go_wp2_with fail
      go_ret
      exact ⟨rfl, rfl⟩

theorem cmp3_a {a b : Tri} (h : ¬ a.1 = b.1) : cmp3 a b = cmpI a.1 b.1 := by
  have hne : a ≠ b := fun e => h (by rw [e])
  unfold cmp3 cmpI lt3
  by_cases h1 : a.1 < b.1
  · simp [h1]
  · have : b.1 < a.1 := by omega
    simp [h, h1, hne, this]
theorem cmp3_b {a b : Tri} (h0 : a.1 = b.1) (h : ¬ a.2.1 = b.2.1) : cmp3 a b = cmpI a.2.1 b.2.1 := by
  have hne : a ≠ b := fun e => h (by rw [e])
  unfold cmp3 cmpI lt3
  by_cases h1 : a.2.1 < b.2.1
  · simp [h0, h1]
  · have : b.2.1 < a.2.1 := by omega
    simp [h0, h, h1, hne, this]
theorem cmp3_c {a b : Tri} (h0 : a.1 = b.1) (h1 : a.2.1 = b.2.1) (h : ¬ a.2.2 = b.2.2) : cmp3 a b = cmpI a.2.2 b.2.2 := by
  have hne : a ≠ b := fun e => h (by rw [e])
  unfold cmp3 cmpI lt3
  by_cases h2 : a.2.2 < b.2.2
  · simp [h0, h1, h2]
  · have : b.2.2 < a.2.2 := by omega
    simp [h0, h1, h2, hne, this]
theorem cmp3_z {a b : Tri} (h0 : a.1 = b.1) (h1 : a.2.1 = b.2.1) (h : a.2.2 = b.2.2) : cmp3 a b = 0 := cmp3_eq.2 (Prod.ext h0 (Prod.ext h1 h))
theorem cmpI_same {x : Int} : cmpI x x = 0 := cmpI_eq.2 rfl

set_option maxRecDepth 20000 in
set_option maxHeartbeats 3200000 in
/-- slices.Compare at two arrays of three numbers -/
theorem cmpS3_any (g h : Nat) (a b : Tri) (w : World) (ha : BoxN w g 76 [.int .i64 a.1, .int .i64 a.2.1, .int .i64 a.2.2]) (hb : BoxN w h 76 [.int .i64 b.1, .int .i64 b.2.1, .int .i64 b.2.2]) :
    Calls Try.prog 134 #[.slice (some ⟨g, 0, none⟩) 3 3, .slice (some ⟨h, 0, none⟩) 3 3] w fun e w' => e = .returned (.int .i64 (cmp3 a b)) ∧ w = w' := by
  obtain ⟨x0, x1, x2⟩ := box3 ha
  obtain ⟨y0, y1, y2⟩ := box3 hb
  clear ha hb
  obtain ⟨a0, a1, a2⟩ := a
  obtain ⟨b0, b1, b2⟩ := b
  simp only at x0 x1 x2 y0 y1 y2
  obtain ⟨z, hz⟩ : ∃ z, cmp3 (a0, a1, a2) (b0, b1, b2) = z := ⟨_, rfl⟩
  have HZ := Lib.hid hz
  rw [hz]
  clear hz
  go_enter Try.func134, Try.ntmps134
  go_wp2_with fail
  go_loopw [5, 6, 7, 8, 11] (fun _ _ _ _ i wr => ∃ k : Nat, k ≤ 3 ∧ i = .int .i64 k ∧ (0 < k → a0 = b0) ∧ (1 < k → a1 = b1) ∧ (2 < k → a2 = b2) ∧ w = wr) (fun _ _ _ _ i _ => 3 - (intOf i).toNat)
  case atStart => exact ⟨0, by omega, rfl, by omega, by omega, by omega, rfl⟩
  case round =>
    obtain ⟨k, hk, rfl, e0, e1, e2, rfl⟩ := hrel
    have HE := Lib.hid (And.intro e0 (And.intro e1 e2))
    clear e0 e1 e2
    match k, hk with
    | 0, _ =>
      have C := cmpI_any a0 b0 w
      by_cases hq : a0 = b0
      · subst hq
        rw [cmpI_same] at C
        go_wp2_with fail
        refine C.mono ?_
        rintro e w1 ⟨rfl, rfl⟩
        clear C
        go_wp2_with fail
        go_roundw
        case rel => exact ⟨1, by omega, by go_num, fun _ => by trivial, by omega, by omega, by trivial⟩
        case measure => simp [intOf]
      · have hn : ¬ cmpI a0 b0 = 0 := fun h => hq (cmpI_eq.1 h)
        have hz2 := HZ.out.symm.trans (cmp3_a (a := (a0, a1, a2)) (b := (b0, b1, b2)) hq)
        simp only at hz2
        rw [← hz2] at hn C
        have HQ := Lib.hid hz2
        clear hz2 hq
        go_wp2_with fail
        refine C.mono ?_
        rintro e w1 ⟨rfl, rfl⟩
        clear C
        go_wp2_with fail
        go_ret
        exact ⟨rfl, rfl⟩
    | 1, _ =>
      have C := cmpI_any a1 b1 w
      by_cases hq : a1 = b1
      · subst hq
        rw [cmpI_same] at C
        go_wp2_with fail
        refine C.mono ?_
        rintro e w1 ⟨rfl, rfl⟩
        clear C
        go_wp2_with fail
        go_roundw
        case rel => exact ⟨2, by omega, by go_num, fun _ => HE.out.1 (by omega), fun _ => by trivial, by omega, by trivial⟩
        case measure => simp [intOf]
      · have hn : ¬ cmpI a1 b1 = 0 := fun h => hq (cmpI_eq.1 h)
        have hz2 := HZ.out.symm.trans (cmp3_b (a := (a0, a1, a2)) (b := (b0, b1, b2)) (HE.out.1 (by omega)) hq)
        simp only at hz2
        rw [← hz2] at hn C
        have HQ := Lib.hid hz2
        clear hz2 hq
        go_wp2_with fail
        refine C.mono ?_
        rintro e w1 ⟨rfl, rfl⟩
        clear C
        go_wp2_with fail
        go_ret
        exact ⟨rfl, rfl⟩
    | 2, _ =>
      have C := cmpI_any a2 b2 w
      by_cases hq : a2 = b2
      · subst hq
        rw [cmpI_same] at C
        go_wp2_with fail
        refine C.mono ?_
        rintro e w1 ⟨rfl, rfl⟩
        clear C
        go_wp2_with fail
        go_roundw
        case rel => exact ⟨3, by omega, by go_num, fun _ => HE.out.1 (by omega), fun _ => HE.out.2.1 (by omega), fun _ => by trivial, by trivial⟩
        case measure => simp [intOf]
      · have hn : ¬ cmpI a2 b2 = 0 := fun h => hq (cmpI_eq.1 h)
        have hz2 := HZ.out.symm.trans (cmp3_c (a := (a0, a1, a2)) (b := (b0, b1, b2)) (HE.out.1 (by omega)) (HE.out.2.1 (by omega)) hq)
        simp only at hz2
        rw [← hz2] at hn C
        have HQ := Lib.hid hz2
        clear hz2 hq
        go_wp2_with fail
        refine C.mono ?_
        rintro e w1 ⟨rfl, rfl⟩
        clear C
        go_wp2_with fail
        go_ret
        exact ⟨rfl, rfl⟩
    | 3, _ =>
      have hz2 := HZ.out.symm.trans (cmp3_z (a := (a0, a1, a2)) (b := (b0, b1, b2)) (HE.out.1 (by omega)) (HE.out.2.1 (by omega)) (HE.out.2.2 (by omega)))
      subst hz2
      go_wp2_with fail
      go_ret
      exact ⟨rfl, rfl⟩

def triV (a : Tri) : Value := .agg #[.int .i64 a.1, .int .i64 a.2.1, .int .i64 a.2.2]
set_option maxRecDepth 20000 in
set_option maxHeartbeats 1600000 in
theorem cmpSt_any (a b : Tri) (w : World) :
    Calls Try.prog 108 #[triV a, triV b] w fun e w' => e = .returned (.int .i64 (cmp3 a b)) ∧ Below w.heap.size w w' := by
  unfold triV
  have X0 : BoxN ((w.alloc (.cells #[.int .i64 a.1, .int .i64 a.2.1, .int .i64 a.2.2] 76)).alloc (.cells #[.int .i64 b.1, .int .i64 b.2.1, .int .i64 b.2.2] 76)) w.heap.size 76 [.int .i64 a.1, .int .i64 a.2.1, .int .i64 a.2.2] := (BoxN.new w #[.int .i64 a.1, .int .i64 a.2.1, .int .i64 a.2.2] 76).below ((Below.refl _ _).alloc (Nat.le_refl _) _) (by simp)
  have X1 : BoxN ((w.alloc (.cells #[.int .i64 a.1, .int .i64 a.2.1, .int .i64 a.2.2] 76)).alloc (.cells #[.int .i64 b.1, .int .i64 b.2.1, .int .i64 b.2.2] 76)) (w.heap.size + 1) 76 [.int .i64 b.1, .int .i64 b.2.1, .int .i64 b.2.2] := by
    have := BoxN.new (w.alloc (.cells #[.int .i64 a.1, .int .i64 a.2.1, .int .i64 a.2.2] 76)) #[.int .i64 b.1, .int .i64 b.2.1, .int .i64 b.2.2] 76
    rw [World.size_alloc] at this
    exact this
  have HB : Below w.heap.size w ((w.alloc (.cells #[.int .i64 a.1, .int .i64 a.2.1, .int .i64 a.2.2] 76)).alloc (.cells #[.int .i64 b.1, .int .i64 b.2.1, .int .i64 b.2.2] 76)) := ((Below.refl w.heap.size w).alloc (Nat.le_refl _) _).alloc (by simp) _
  obtain ⟨W, hW⟩ : ∃ W, (w.alloc (.cells #[.int .i64 a.1, .int .i64 a.2.1, .int .i64 a.2.2] 76)).alloc (.cells #[.int .i64 b.1, .int .i64 b.2.1, .int .i64 b.2.2] 76) = W := ⟨_, rfl⟩
  rw [hW] at X0 X1 HB
  have HWq := Lib.hid hW
  have HB0 := Lib.hid HB
  have HC := Lib.hid (fun W' (h : Below W.heap.size W W') => cmpS3_any w.heap.size (w.heap.size + 1) a b W' (X0.on h) (X1.on h))
  have H0 := Lib.hid X0
  have H1 := Lib.hid X1
  clear hW X0 X1 HB
  go_enter Try.func108, Try.ntmps108
  go_wp2_with fail
  rw [HWq.out]
  have HK := Lib.hid (fun y : Over W => over_same (HC.out y.w y.below))
  refine wp_region_over (by kernel_rfl) (by kernel_rfl) ?_
  repeat (go_big_quiet_step ((go_at_call 134; exact HK.out _)))
  refine wpQuiet_nil ?_
  rintro _ ⟨y, rfl⟩
  have hy := y.below
  obtain ⟨w9, hw9⟩ : ∃ w9, y.w = w9 := ⟨_, rfl⟩
  rw [hw9] at hy ⊢
  clear hw9
  have hb9 := HB0.out.trans (hy.mono HB0.out.size)
  clear hy
  go_wp2_with fail
  go_ret
  exact ⟨rfl, hb9⟩
end Go.Proofs.Ytlpgldejmdiceaa.syc
