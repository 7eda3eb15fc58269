/- Whether a System is valid: spec.l10Good. -/
import Derived.Test.YtlpgldejmdiceaaSyb
namespace Go.Proofs.Ytlpgldejmdiceaa.syk
open kit bg sg opn strs only hb sig isig un over gn nm inn ht gd im pt marks eqs hc hi hw hn rs br bm bw cf lf ib isa lawb lw cl bgs cz syx sya syh syi syc syg syb
open Go.RowKit
set_option linter.unusedVariables false
set_option linter.unusedSimpArgs false

set_option maxRecDepth 20000 in
set_option maxHeartbeats 6400000 in
theorem good_any (v : Value) (x : Sysm) (w : World) (h : SysAt w w.heap.size v x) (hs : sysWt x ≤ 1048576) :
    Calls Try.prog 56 #[v] w fun e w' => e = .returned (.bool (goodB x.states.length x.steps)) ∧ Below w.heap.size w w' := by
  obtain ⟨A1, n1, c1, A2, n2, c2, rfl, h1, h2⟩ := h
  have hl1 := h1.1
  have hl2 := h2.1
  unfold sysWt bgsWt at hs
  have hn1 : n1 ≤ 1048576 := by omega
  have hn2 : n2 ≤ 1048576 := by omega
  rw [hl1]
  obtain ⟨ts, hts⟩ : ∃ ts, x.steps = ts := ⟨_, rfl⟩
  rw [hts] at h2 hl2 ⊢
  clear hs hts hl1 h1
  have HB0 := Lib.hid ((Below.refl w.heap.size w).alloc (Nat.le_refl _) (.cells #[.slice A1 n1 c1, .slice A2 n2 c2] 32))
  have HBx := Lib.hid (BoxN.new w #[.slice A1 n1 c1, .slice A2 n2 c2] 32)
  obtain ⟨W, hW⟩ : ∃ W, w.alloc (.cells #[.slice A1 n1 c1, .slice A2 n2 c2] 32) = W := ⟨_, rfl⟩
  rw [hW] at HBx HB0
  have HWq := Lib.hid hW
  have hWs := HBx.out.lt
  have HL := Lib.hid hl2
  obtain ⟨x0, x1⟩ := box2 HBx.out
  clear hW hl2
  obtain ⟨G, hG⟩ : ∃ G, goodB n1 ts = G := ⟨_, rfl⟩
  rw [hG]
  have HG := Lib.hid hG
  have hnI : IntKind.i64.wrap ((n1 : Int) - 1) = (n1 : Int) - 1 := IntWalk.i64_in _ (by omega)
  clear hG
  go_enter Try.func56, Try.ntmps56
  go_wp2_with fail
  rw [HWq.out]
  go_wp2_with fail
  go_loopw [4, 5] (fun i _ wr => ∃ k : Nat, k ≤ n2 ∧ i = .int .i64 k ∧ (∀ j, j < k → stepB n1 ts j = true) ∧ Below W.heap.size W wr) (fun i _ _ => n2 - (intOf i).toNat)
  case atStart => exact ⟨0, Nat.zero_le _, rfl, fun j hj => absurd hj (Nat.not_lt_zero j), Below.refl _ _⟩
  case round =>
    obtain ⟨k, hk, rfl, hok, hbel⟩ := hrel
    have HOk := Lib.hid hok
    have HBel := Lib.hid hbel
    have hbw := HB0.out.trans (hbel.mono HB0.out.size)
    clear hok hbel x0 x1
    obtain ⟨x0, x1⟩ := box2 (HBx.out.below HBel.out hWs)
    by_cases hlt : k < n2
    · obtain ⟨g, off, s, rfl, hbb, hx, e0, e1, e2⟩ := h2.get hlt
      have d0 := (hbw.cell (p := ⟨g, off + k * 3, none⟩) hbb).trans e0
      have d1 := (hbw.cell (p := ⟨g, off + k * 3 + 1, none⟩) hbb).trans e1
      have d2 := (hbw.cell (p := ⟨g, off + k * 3 + 2, none⟩) hbb).trans e2
      have HX := Lib.hid hx
      have b3 := BoxN.new wr #[.int .i64 s.1, .int .i64 s.2.1, .int .i64 s.2.2] 76
      have hb3 := HBel.out.alloc HBel.out.size (.cells #[.int .i64 s.1, .int .i64 s.2.1, .int .i64 s.2.2] 76)
      obtain ⟨W3, hW3⟩ : ∃ W3, wr.alloc (.cells #[.int .i64 s.1, .int .i64 s.2.1, .int .i64 s.2.2] 76) = W3 := ⟨_, rfl⟩
      have HW3 := Lib.hid hW3
      rw [hW3] at b3 hb3
      have B3 := Lib.hid b3
      have HB3 := Lib.hid hb3
      obtain ⟨y0, y1⟩ := box2 (HBx.out.below hb3 hWs)
      obtain ⟨z0, z1, z2⟩ := box3 b3
      have HP := Lib.hid (And.intro y0 (And.intro y1 (And.intro z0 (And.intro z1 z2))))
      have hr0 := Over.get y0 (Nat.lt_of_lt_of_le hWs hb3.size)
      have hr1 := Over.get y1 (Nat.lt_of_lt_of_le hWs hb3.size)
      have ht0 := Over.get z0 b3.lt
      have ht1 := Over.get z1 b3.lt
      have ht2 := Over.get z2 b3.lt
      have HO := Lib.hid (And.intro hr0 (And.intro hr1 (And.intro ht0 (And.intro ht1 ht2))))
      have hk0 : ((k : Int) > 0) ∨ k = 0 := by omega
      clear hW3 b3 hb3 hx e0 e1 e2 y0 y1 z0 z1 z2 hr0 hr1 ht0 ht1 ht2 hk0
      go_wp2_with fail
      rw [HW3.out]
      clear d0 d1 d2 x0 x1
      cases hp1 : inb s.1 0 ((n1 : Int) - 1) with
      | false =>
        have HF : Hid (G = false) := Lib.hid (by rw [← HG.out]; exact good_no HX.out (step_no1 HX.out hp1))
        have HI1 := Lib.hid (fun W' => hp1 ▸ in_any s.1 0 ((n1 : Int) - 1) W')
        clear hp1
        obtain ⟨hr0, hr1, ht0, ht1, ht2⟩ := HP.out
        go_quiet (first | (go_at_call 92; with_reducible exact Calls.quiet_of_same ((HI1.out _).mono fun _ _ h => ⟨h.1, h.2.symm⟩)))
        go_wp2_with fail
        go_ret
        exact ⟨by rw [HF.out]; rfl, HB0.out.trans ((below_drewN HB3.out _).mono HB0.out.size)⟩
      | true =>
        have HI1 := Lib.hid (fun W' => hp1 ▸ in_any s.1 0 ((n1 : Int) - 1) W')
        have HP1 := Lib.hid hp1
        clear hp1
        cases hp2 : inb s.2.1 0 5 with
        | false =>
          have HF : Hid (G = false) := Lib.hid (by rw [← HG.out]; exact good_no HX.out (step_no2 HX.out hp2))
          have HI2 := Lib.hid (fun W' => hp2 ▸ in_any s.2.1 0 5 W')
          clear hp2
          obtain ⟨hr0, hr1, ht0, ht1, ht2⟩ := HP.out
          go_quiet (first | (go_at_call 92; with_reducible exact Calls.quiet_of_same ((HI1.out _).mono fun _ _ h => ⟨h.1, h.2.symm⟩)) | (go_at_call 92; with_reducible exact Calls.quiet_of_same ((HI2.out _).mono fun _ _ h => ⟨h.1, h.2.symm⟩)))
          go_wp2_with fail
          go_ret
          exact ⟨by rw [HF.out]; rfl, HB0.out.trans ((below_drewN HB3.out _).mono HB0.out.size)⟩
        | true =>
          have HI2 := Lib.hid (fun W' => hp2 ▸ in_any s.2.1 0 5 W')
          have HP2 := Lib.hid hp2
          clear hp2
          cases hp3 : inb s.2.2 0 ((n1 : Int) - 1) with
          | false =>
            have HF : Hid (G = false) := Lib.hid (by rw [← HG.out]; exact good_no HX.out (step_no3 HX.out hp3))
            have HI3 := Lib.hid (fun W' => hp3 ▸ in_any s.2.2 0 ((n1 : Int) - 1) W')
            clear hp3
            obtain ⟨hr0, hr1, ht0, ht1, ht2⟩ := HP.out
            go_quiet (first | (go_at_call 92; with_reducible exact Calls.quiet_of_same ((HI1.out _).mono fun _ _ h => ⟨h.1, h.2.symm⟩)) | (go_at_call 92; with_reducible exact Calls.quiet_of_same ((HI2.out _).mono fun _ _ h => ⟨h.1, h.2.symm⟩)) | (go_at_call 92; with_reducible exact Calls.quiet_of_same ((HI3.out _).mono fun _ _ h => ⟨h.1, h.2.symm⟩)))
            go_wp2_with fail
            go_ret
            exact ⟨by rw [HF.out]; rfl, HB0.out.trans ((below_drewN HB3.out _).mono HB0.out.size)⟩
          | true =>
            have HI3 := Lib.hid (fun W' => hp3 ▸ in_any s.2.2 0 ((n1 : Int) - 1) W')
            have HP3 := Lib.hid hp3
            clear hp3
            cases k with
            | zero =>
              have HY := Lib.hid (step_zero HX.out HP1.out HP2.out HP3.out)
              obtain ⟨hr0, hr1, ht0, ht1, ht2⟩ := HP.out
              go_quiet (first | (go_at_call 92; with_reducible exact Calls.quiet_of_same ((HI1.out _).mono fun _ _ h => ⟨h.1, h.2.symm⟩)) | (go_at_call 92; with_reducible exact Calls.quiet_of_same ((HI2.out _).mono fun _ _ h => ⟨h.1, h.2.symm⟩)) | (go_at_call 92; with_reducible exact Calls.quiet_of_same ((HI3.out _).mono fun _ _ h => ⟨h.1, h.2.symm⟩)))
              go_wp2_with fail
              go_roundw
              case rel => exact ⟨1, by omega, by go_num, fun j hj => by rw [show j = 0 by omega]; exact HY.out, by first | exact below_drewN HB3.out _ | exact HB3.out.drew⟩
              case measure => simp [intOf]; omega
            | succ k =>
              obtain ⟨g', off', p, eA, hbb', hxp, e0, e1, e2⟩ := h2.get (show k < n2 by omega)
              injection eA with eA
              injection eA with eg eo
              subst eg eo
              have HY := Lib.hid (step_succ HX.out hxp HP1.out HP2.out HP3.out)
              have hb03 := HB0.out.trans (HB3.out.mono HB0.out.size)
              have hgl : g < W3.heap.size := Nat.lt_of_lt_of_le hbb' hb03.size
              have q0 := Over.get ((hb03.cell (p := ⟨g, off + k * 3, none⟩) hbb').trans e0) hgl
              have q1 := Over.get ((hb03.cell (p := ⟨g, off + k * 3 + 1, none⟩) hbb').trans e1) hgl
              have q2 := Over.get ((hb03.cell (p := ⟨g, off + k * 3 + 2, none⟩) hbb').trans e2) hgl
              have hw1 : IntKind.i64.wrap (((k + 1 : Nat) : Int) - 1) = (k : Int) := by rw [IntWalk.i64_in _ (by omega)]; omega
              have hk1 : (0 : Int) < ((k + 1 : Nat) : Int) := by omega
              have HQ := Lib.hid (And.intro q0 (And.intro q1 q2))
              have HC := Lib.hid (fun Y => before_any p s Y)
              unfold triV at HC
              clear hxp e0 e1 e2 q0 q1 q2
              cases hl : lt3 p s with
              | false =>
                have HF : Hid (G = false) := Lib.hid (by rw [← HG.out]; exact good_no HX.out (HY.out.trans hl))
                rw [hl] at HC
                have HK := Lib.hid (fun y : Over W3 => over_call (HC.out y.w))
                clear hl
                obtain ⟨hr0, hr1, ht0, ht1, ht2⟩ := HO.out
                obtain ⟨q0, q1, q2⟩ := HQ.out
                refine wp_region_over (by kernel_rfl) (by kernel_rfl) ?_
                repeat (go_big_quiet_step (first | (go_at_call 92; with_reducible exact over_same (HI1.out _)) | (go_at_call 92; with_reducible exact over_same (HI2.out _)) | (go_at_call 92; with_reducible exact over_same (HI3.out _)) | (go_at_call 104; exact HK.out _)))
                refine wpQuiet_nil ?_
                rintro _ ⟨y, rfl⟩
                have hy := y.below
                obtain ⟨w9, hw9⟩ : ∃ w9, y.w = w9 := ⟨_, rfl⟩
                rw [hw9] at hy ⊢
                clear hw9 hr0 hr1 ht0 ht1 ht2 q0 q1 q2
                have hb9 := HB3.out.trans (hy.mono HB3.out.size)
                clear hy
                go_wp2_with fail
                go_ret
                exact ⟨by rw [HF.out]; rfl, HB0.out.trans (hb9.mono HB0.out.size)⟩
              | true =>
                have HT := Lib.hid (HY.out.trans hl)
                rw [hl] at HC
                have HK := Lib.hid (fun y : Over W3 => over_call (HC.out y.w))
                clear hl
                obtain ⟨hr0, hr1, ht0, ht1, ht2⟩ := HO.out
                obtain ⟨q0, q1, q2⟩ := HQ.out
                refine wp_region_over (by kernel_rfl) (by kernel_rfl) ?_
                repeat (go_big_quiet_step (first | (go_at_call 92; with_reducible exact over_same (HI1.out _)) | (go_at_call 92; with_reducible exact over_same (HI2.out _)) | (go_at_call 92; with_reducible exact over_same (HI3.out _)) | (go_at_call 104; exact HK.out _)))
                refine wpQuiet_nil ?_
                rintro _ ⟨y, rfl⟩
                have hy := y.below
                obtain ⟨w9, hw9⟩ : ∃ w9, y.w = w9 := ⟨_, rfl⟩
                rw [hw9] at hy ⊢
                clear hw9 hr0 hr1 ht0 ht1 ht2 q0 q1 q2
                have hb9 := HB3.out.trans (hy.mono HB3.out.size)
                clear hy
                go_wp2_with fail
                go_roundw
                case rel => exact ⟨k + 1 + 1, by omega, by go_num, fun j hj => by
                  by_cases e : j = k + 1
                  · rw [e]; exact HT.out
                  · exact HOk.out j (by omega), hb9⟩
                case measure => simp [intOf]; omega
    · obtain rfl : k = n2 := by omega
      have HT : Hid (G = inb (n1 : Int) 1 40) := Lib.hid (by rw [← HG.out, good_yes (by rw [HL.out]; exact HOk.out)])
      go_wp2_with fail
      refine (in_any (n1 : Int) 1 40 wr).mono ?_
      rintro e w5 ⟨rfl, rfl⟩
      go_wp2_with fail
      go_ret
      exact ⟨by rw [HT.out]; rfl, HB0.out.trans (HBel.out.mono HB0.out.size)⟩
end Go.Proofs.Ytlpgldejmdiceaa.syk
