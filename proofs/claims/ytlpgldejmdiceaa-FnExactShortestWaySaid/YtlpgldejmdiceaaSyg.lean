/- Whether a System is valid: impl.isState, impl.isSystem, spec.l10State, spec.l10Before, spec.l10Good. -/
import Derived.Test.YtlpgldejmdiceaaSyc
namespace Go.Proofs.Ytlpgldejmdiceaa.syg
open kit bg sg opn strs only hb sig isig un over gn nm inn ht gd im pt marks eqs hc hi hw hn rs br bm bw cf lf ib isa lawb lw cl bgs cz syx sya syh syi syc
open Go.RowKit
set_option linter.unusedVariables false
set_option linter.unusedSimpArgs false

set_option maxRecDepth 20000 in
set_option maxHeartbeats 1600000 in
theorem isState_any (A1 A2 : Option Addr) (n1 c1 n2 c2 : Nat) (z : Int) (w : World) (hn : n1 ≤ 1048576) :
    Calls Try.prog 62 #[.agg #[.slice A1 n1 c1, .slice A2 n2 c2], .int .i64 z] w fun e w' => e = .returned (.bool (inb z 0 (n1 - 1))) ∧ Below w.heap.size w w' := by
  have HB0 := Lib.hid ((Below.refl w.heap.size w).alloc (Nat.le_refl _) (.cells #[.slice A1 n1 c1, .slice A2 n2 c2] 32))
  obtain ⟨x0, x1⟩ := box2 (BoxN.new w #[.slice A1 n1 c1, .slice A2 n2 c2] 32)
  obtain ⟨W, hW⟩ : ∃ W, w.alloc (.cells #[.slice A1 n1 c1, .slice A2 n2 c2] 32) = W := ⟨_, rfl⟩
  rw [hW] at x0 x1 HB0
  have HWq := Lib.hid hW
  have hwr : IntKind.i64.wrap ((n1 : Int) - 1) = (n1 : Int) - 1 := IntWalk.i64_in _ (by omega)
  clear hW
  go_enter Try.func62, Try.ntmps62
  go_wp2_with fail
  rw [HWq.out]
  go_wp2_with fail
  refine (win_any z 0 ((n1 : Int) - 1) W).mono ?_
  rintro e w1 ⟨rfl, rfl⟩
  go_wp2_with fail
  go_ret
  exact ⟨rfl, HB0.out⟩

set_option maxRecDepth 20000 in
set_option maxHeartbeats 1600000 in
theorem l10State_any (A1 A2 : Option Addr) (n1 c1 n2 c2 : Nat) (z : Int) (w : World) (hn : n1 ≤ 1048576) :
    Calls Try.prog 57 #[.agg #[.slice A1 n1 c1, .slice A2 n2 c2], .int .i64 z] w fun e w' => e = .returned (.bool (inb z 0 (n1 - 1))) ∧ Below w.heap.size w w' := by
  have HB0 := Lib.hid ((Below.refl w.heap.size w).alloc (Nat.le_refl _) (.cells #[.slice A1 n1 c1, .slice A2 n2 c2] 32))
  obtain ⟨x0, x1⟩ := box2 (BoxN.new w #[.slice A1 n1 c1, .slice A2 n2 c2] 32)
  obtain ⟨W, hW⟩ : ∃ W, w.alloc (.cells #[.slice A1 n1 c1, .slice A2 n2 c2] 32) = W := ⟨_, rfl⟩
  rw [hW] at x0 x1 HB0
  have HWq := Lib.hid hW
  have hwr : IntKind.i64.wrap ((n1 : Int) - 1) = (n1 : Int) - 1 := IntWalk.i64_in _ (by omega)
  clear hW
  go_enter Try.func57, Try.ntmps57
  go_wp2_with fail
  rw [HWq.out]
  go_wp2_with fail
  refine (in_any z 0 ((n1 : Int) - 1) W).mono ?_
  rintro e w1 ⟨rfl, rfl⟩
  go_wp2_with fail
  go_ret
  exact ⟨rfl, HB0.out⟩

theorem step_no1 {n : Nat} {ts : List Tri} {k : Nat} {s : Tri} (hs : ts[k]? = some s) (h : inb s.1 0 (n - 1) = false) : stepB n ts k = false := by unfold stepB; rw [hs]; simp [h]
theorem step_no2 {n : Nat} {ts : List Tri} {k : Nat} {s : Tri} (hs : ts[k]? = some s) (h : inb s.2.1 0 5 = false) : stepB n ts k = false := by unfold stepB; rw [hs]; simp [h]
theorem step_no3 {n : Nat} {ts : List Tri} {k : Nat} {s : Tri} (hs : ts[k]? = some s) (h : inb s.2.2 0 (n - 1) = false) : stepB n ts k = false := by unfold stepB; rw [hs]; simp [h]
theorem step_zero {n : Nat} {ts : List Tri} {s : Tri} (hs : ts[0]? = some s) (h1 : inb s.1 0 (n - 1) = true) (h2 : inb s.2.1 0 5 = true) (h3 : inb s.2.2 0 (n - 1) = true) : stepB n ts 0 = true := by unfold stepB; rw [hs]; simp [h1, h2, h3]
theorem step_succ {n : Nat} {ts : List Tri} {k : Nat} {p s : Tri} (hs : ts[k + 1]? = some s) (hp : ts[k]? = some p) (h1 : inb s.1 0 (n - 1) = true) (h2 : inb s.2.1 0 5 = true) (h3 : inb s.2.2 0 (n - 1) = true) : stepB n ts (k + 1) = lt3 p s := by unfold stepB; rw [hs]; simp [h1, h2, h3, hp]
theorem good_no {n : Nat} {ts : List Tri} {k : Nat} {s : Tri} (hs : ts[k]? = some s) (h : stepB n ts k = false) : goodB n ts = false := by
  unfold goodB
  rw [stepsB_no (List.getElem?_eq_some_iff.1 hs).1 h, Bool.and_false]
theorem good_yes {n : Nat} {ts : List Tri} (h : ∀ i, i < ts.length → stepB n ts i = true) : goodB n ts = inb n 1 40 := by
  unfold goodB
  rw [stepsB_yes h, Bool.and_true]

/-- the step at i, by one of r + 1 rules or actions, between n states -/
def stepM (r : Int) (n : Nat) (ts : List Tri) (i : Nat) : Bool :=
  match ts[i]? with
  | none => true
  | some s => inb s.1 0 (n - 1) && inb s.2.1 0 r && inb s.2.2 0 (n - 1) && (decide (i = 0) || match ts[i - 1]? with | some p => lt3 p s | none => true)
def stepsM (r : Int) (n : Nat) (ts : List Tri) : Bool := (List.range ts.length).all (stepM r n ts)
theorem stepM_five (n : Nat) (ts : List Tri) (i : Nat) : stepM 5 n ts i = stepB n ts i := rfl
theorem stepsM_five (n : Nat) (ts : List Tri) : stepsM 5 n ts = stepsB n ts := rfl
theorem stepsM_yes {r : Int} {n : Nat} {ts : List Tri} (h : ∀ i, i < ts.length → stepM r n ts i = true) : stepsM r n ts = true := by
  unfold stepsM
  exact List.all_eq_true.2 fun x hx => h x (List.mem_range.1 hx)
theorem stepsM_no {r : Int} {n : Nat} {ts : List Tri} {i : Nat} {s : Tri} (hs : ts[i]? = some s) (h : stepM r n ts i = false) : stepsM r n ts = false := by
  unfold stepsM
  rw [List.all_eq_false]
  exact ⟨i, List.mem_range.2 (List.getElem?_eq_some_iff.1 hs).1, by simp [h]⟩
theorem stepM_no1 {r : Int} {n : Nat} {ts : List Tri} {k : Nat} {s : Tri} (hs : ts[k]? = some s) (h : inb s.1 0 (n - 1) = false) : stepM r n ts k = false := by unfold stepM; rw [hs]; simp [h]
theorem stepM_no2 {r : Int} {n : Nat} {ts : List Tri} {k : Nat} {s : Tri} (hs : ts[k]? = some s) (h : inb s.2.1 0 r = false) : stepM r n ts k = false := by unfold stepM; rw [hs]; simp [h]
theorem stepM_no3 {r : Int} {n : Nat} {ts : List Tri} {k : Nat} {s : Tri} (hs : ts[k]? = some s) (h : inb s.2.2 0 (n - 1) = false) : stepM r n ts k = false := by unfold stepM; rw [hs]; simp [h]
theorem stepM_zero {r : Int} {n : Nat} {ts : List Tri} {s : Tri} (hs : ts[0]? = some s) (h1 : inb s.1 0 (n - 1) = true) (h2 : inb s.2.1 0 r = true) (h3 : inb s.2.2 0 (n - 1) = true) : stepM r n ts 0 = true := by unfold stepM; rw [hs]; simp [h1, h2, h3]
theorem stepM_succ {r : Int} {n : Nat} {ts : List Tri} {k : Nat} {p s : Tri} (hs : ts[k + 1]? = some s) (hp : ts[k]? = some p) (h1 : inb s.1 0 (n - 1) = true) (h2 : inb s.2.1 0 r = true) (h3 : inb s.2.2 0 (n - 1) = true) : stepM r n ts (k + 1) = lt3 p s := by unfold stepM; rw [hs]; simp [h1, h2, h3, hp]

set_option maxRecDepth 20000 in
set_option maxHeartbeats 6400000 in
theorem areSteps_any (m r : Int) (hwm : IntKind.i64.wrap (m - 1) = r) (n1 : Nat) (A2 : Option Addr) (n2 c2 : Nat) (ts : List Tri) (w : World) (h2 : TriAt w w.heap.size A2 n2 ts) (hn1 : n1 ≤ 1048576) (hn2 : n2 ≤ 1048576) :
    Calls Try.prog 98 #[.slice A2 n2 c2, .int .i64 (n1 : Int), .int .i64 m] w fun e w' => e = .returned (.bool (stepsM r n1 ts)) ∧ Below w.heap.size w w' := by
  have HL := Lib.hid h2.1
  have hwr : IntKind.i64.wrap ((n1 : Int) - 1) = (n1 : Int) - 1 := IntWalk.i64_in _ (by omega)
  obtain ⟨G, hG⟩ : ∃ G, stepsM r n1 ts = G := ⟨_, rfl⟩
  rw [hG]
  have HG := Lib.hid hG
  clear hG
  go_enter Try.func98, Try.ntmps98
  go_wp2_with fail
  go_loopw [7, 8, 11] (fun _ _ i wr => ∃ k : Nat, k ≤ n2 ∧ i = .int .i64 k ∧ (∀ j, j < k → stepM r n1 ts j = true) ∧ Below w.heap.size w wr) (fun _ _ i _ => n2 - (intOf i).toNat)
  case atStart => exact ⟨0, Nat.zero_le _, rfl, fun j hj => absurd hj (Nat.not_lt_zero j), Below.refl _ _⟩
  case round =>
    obtain ⟨k, hk, rfl, hok, hbel⟩ := hrel
    have HOk := Lib.hid hok
    have HBel := Lib.hid hbel
    clear hok
    by_cases hlt : k < n2
    · obtain ⟨g, off, s, rfl, hbb, hx, e0, e1, e2⟩ := h2.get hlt
      have d0 := (hbel.cell (p := ⟨g, off + k * 3, none⟩) hbb).trans e0
      have d1 := (hbel.cell (p := ⟨g, off + k * 3 + 1, none⟩) hbb).trans e1
      have d2 := (hbel.cell (p := ⟨g, off + k * 3 + 2, none⟩) hbb).trans e2
      have HX := Lib.hid hx
      have b3 := BoxN.new wr #[.int .i64 s.1, .int .i64 s.2.1, .int .i64 s.2.2] 76
      have hb3 := HBel.out.alloc HBel.out.size (.cells #[.int .i64 s.1, .int .i64 s.2.1, .int .i64 s.2.2] 76)
      obtain ⟨z0, z1, z2⟩ := box3 b3
      obtain ⟨W3, hW3⟩ : ∃ W3, wr.alloc (.cells #[.int .i64 s.1, .int .i64 s.2.1, .int .i64 s.2.2] 76) = W3 := ⟨_, rfl⟩
      have HW3 := Lib.hid hW3
      rw [hW3] at b3 hb3
      have B3 := Lib.hid b3
      have HB3 := Lib.hid hb3
      clear hW3 b3 hb3 hx e0 e1 e2
      go_wp2_with fail
      rw [HW3.out]
      rw [HW3.out] at z0 z1 z2
      try go_wp2_with fail
      refine (win_any s.1 0 ((n1 : Int) - 1) W3).mono ?_
      rintro e w4 ⟨rfl, rfl⟩
      cases hp1 : inb s.1 0 ((n1 : Int) - 1) with
      | false =>
        have HF : Hid (G = false) := Lib.hid (by rw [← HG.out]; exact stepsM_no HX.out (stepM_no1 HX.out hp1))
        clear hp1
        go_wp2_with fail
        go_ret
        exact ⟨by rw [HF.out]; rfl, HB3.out⟩
      | true =>
        have HP1 := Lib.hid hp1
        clear hp1
        go_wp2_with fail
        refine (win_any s.2.1 0 r W3).mono ?_
        rintro e w5 ⟨rfl, rfl⟩
        cases hp2 : inb s.2.1 0 r with
        | false =>
          have HF : Hid (G = false) := Lib.hid (by rw [← HG.out]; exact stepsM_no HX.out (stepM_no2 HX.out hp2))
          clear hp2
          go_wp2_with fail
          go_ret
          exact ⟨by rw [HF.out]; rfl, HB3.out⟩
        | true =>
          have HP2 := Lib.hid hp2
          clear hp2
          go_wp2_with fail
          refine (win_any s.2.2 0 ((n1 : Int) - 1) W3).mono ?_
          rintro e W3 ⟨rfl, rfl⟩
          cases hp3 : inb s.2.2 0 ((n1 : Int) - 1) with
          | false =>
            have HF : Hid (G = false) := Lib.hid (by rw [← HG.out]; exact stepsM_no HX.out (stepM_no3 HX.out hp3))
            clear hp3
            go_wp2_with fail
            go_ret
            exact ⟨by rw [HF.out]; rfl, HB3.out⟩
          | true =>
            have HP3 := Lib.hid hp3
            clear hp3
            cases k with
            | zero =>
              have HY := Lib.hid (stepM_zero HX.out HP1.out HP2.out HP3.out)
              go_wp2_with fail
              go_quiet (fail)
              go_wp2_with fail
              go_roundw
              case rel => exact ⟨1, by omega, by go_num, fun j hj => by rw [show j = 0 by omega]; exact HY.out, by first | exact below_drewN HB3.out _ | exact HB3.out.drew | exact HB3.out⟩
              case measure => simp [intOf]; omega
            | succ k =>
              obtain ⟨g', off', p, eA, hbb', hxp, e0, e1, e2⟩ := h2.get (show k < n2 by omega)
              injection eA with eA
              injection eA with eg eo
              subst eg eo
              have HY := Lib.hid (stepM_succ HX.out hxp HP1.out HP2.out HP3.out)
              have hgl : g < W3.heap.size := Nat.lt_of_lt_of_le hbb' HB3.out.size
              have q0 := Over.get ((HB3.out.cell (p := ⟨g, off + k * 3, none⟩) hbb').trans e0) hgl
              have q1 := Over.get ((HB3.out.cell (p := ⟨g, off + k * 3 + 1, none⟩) hbb').trans e1) hgl
              have q2 := Over.get ((HB3.out.cell (p := ⟨g, off + k * 3 + 2, none⟩) hbb').trans e2) hgl
              have t0 := Over.get z0 B3.out.lt
              have t1 := Over.get z1 B3.out.lt
              have t2 := Over.get z2 B3.out.lt
              have hw1 : IntKind.i64.wrap (((k + 1 : Nat) : Int) - 1) = (k : Int) := by rw [IntWalk.i64_in _ (by omega)]; omega
              have HC := Lib.hid (fun Y => cmpSt_any p s Y)
              unfold triV at HC
              clear hxp e0 e1 e2
              cases hl : lt3 p s with
              | false =>
                have HF : Hid (G = false) := Lib.hid (by rw [← HG.out]; exact stepsM_no HX.out (HY.out.trans hl))
                have hz : ¬ cmp3 p s < 0 := fun h => by rw [cmp3_lt.1 h] at hl; cases hl
                have HK := Lib.hid (fun y : Over W3 => over_call (HC.out y.w))
                obtain ⟨z, hz2⟩ : ∃ z, cmp3 p s = z := ⟨_, rfl⟩
                rw [hz2] at hz HK
                have hz' : (0 : Int) ≤ z := by omega
                clear hl hz2 hz
                go_wp2_with fail
                clear z0 z1 z2
                refine wp_region_over (by kernel_rfl) (by kernel_rfl) ?_
                repeat (go_big_quiet_step ((go_at_call 108; exact HK.out _)))
                refine wpQuiet_nil ?_
                rintro _ ⟨y, rfl⟩
                have hy := y.below
                obtain ⟨w9, hw9⟩ : ∃ w9, y.w = w9 := ⟨_, rfl⟩
                rw [hw9] at hy ⊢
                clear hw9
                have hb9 := HB3.out.trans (hy.mono HB3.out.size)
                clear hy
                go_wp2_with fail
                go_ret
                exact ⟨by rw [HF.out]; rfl, hb9⟩
              | true =>
                have HT := Lib.hid (HY.out.trans hl)
                have hz : cmp3 p s < 0 := cmp3_lt.2 hl
                have HK := Lib.hid (fun y : Over W3 => over_call (HC.out y.w))
                obtain ⟨z, hz2⟩ : ∃ z, cmp3 p s = z := ⟨_, rfl⟩
                rw [hz2] at hz HK
                have hz' : ¬ (0 : Int) ≤ z := by omega
                clear hl hz2
                go_wp2_with fail
                clear z0 z1 z2
                refine wp_region_over (by kernel_rfl) (by kernel_rfl) ?_
                repeat (go_big_quiet_step ((go_at_call 108; exact HK.out _)))
                refine wpQuiet_nil ?_
                rintro _ ⟨y, rfl⟩
                have hy := y.below
                obtain ⟨w9, hw9⟩ : ∃ w9, y.w = w9 := ⟨_, rfl⟩
                rw [hw9] at hy ⊢
                clear hw9
                have hb9 := HB3.out.trans (hy.mono HB3.out.size)
                clear hy
                go_wp2_with fail
                go_roundw
                case rel => exact ⟨k + 1 + 1, by omega, by go_num, fun j hj => by
                  by_cases e : j = k + 1
                  · rw [e]; exact HT.out
                  · exact HOk.out j (by omega), hb9⟩
                case measure => simp [intOf]; omega
    · obtain rfl : k = n2 := by omega
      have HT : Hid (G = true) := Lib.hid (by rw [← HG.out]; exact stepsM_yes (by rw [HL.out]; exact HOk.out))
      go_wp2_with fail
      go_ret
      exact ⟨by rw [HT.out]; rfl, HBel.out⟩

set_option maxRecDepth 20000 in
set_option maxHeartbeats 3200000 in
theorem isSys_any (v : Value) (x : Sysm) (w : World) (h : SysAt w w.heap.size v x) (hs : sysWt x ≤ 1048576) :
    Calls Try.prog 61 #[v] w fun e w' => e = .returned (.bool (goodB x.states.length x.steps)) ∧ Below w.heap.size w w' := by
  obtain ⟨A1, n1, c1, A2, n2, c2, rfl, h1, h2⟩ := h
  have hl1 := h1.1
  unfold sysWt bgsWt at hs
  have hl2 := h2.1
  have hn1 : n1 ≤ 1048576 := by omega
  have hn2 : n2 ≤ 1048576 := by omega
  rw [hl1]
  have HB0 := Lib.hid ((Below.refl w.heap.size w).alloc (Nat.le_refl _) (.cells #[.slice A1 n1 c1, .slice A2 n2 c2] 32))
  have HBx := Lib.hid (BoxN.new w #[.slice A1 n1 c1, .slice A2 n2 c2] 32)
  obtain ⟨W, hW⟩ : ∃ W, w.alloc (.cells #[.slice A1 n1 c1, .slice A2 n2 c2] 32) = W := ⟨_, rfl⟩
  rw [hW] at HBx HB0
  have HWq := Lib.hid hW
  have C := areSteps_any 6 5 rfl n1 A2 n2 c2 x.steps W ((h2.below HB0.out).wide HB0.out.size) hn1 hn2
  rw [stepsM_five] at C
  obtain ⟨G, hG⟩ : ∃ G, goodB n1 x.steps = G := ⟨_, rfl⟩
  rw [hG]
  have HG := Lib.hid hG
  obtain ⟨x0, x1⟩ := box2 HBx.out
  clear hW hG h1 h2 hl1 hl2 hs
  go_enter Try.func61, Try.ntmps61
  go_wp2_with fail
  rw [HWq.out]
  go_wp2_with fail
  refine (win_any (n1 : Int) 1 40 W).mono ?_
  rintro e w1 ⟨rfl, rfl⟩
  cases hq : inb (n1 : Int) 1 40 with
  | false =>
    have HF : Hid (G = false) := Lib.hid (by rw [← HG.out]; unfold goodB; rw [hq]; rfl)
    clear hq
    go_wp2_with fail
    go_ret
    exact ⟨by rw [HF.out]; rfl, HB0.out⟩
  | true =>
    have HF : Hid (stepsB n1 x.steps = G) := Lib.hid (by rw [← HG.out]; unfold goodB; rw [hq]; rfl)
    clear hq
    go_wp2_with fail
    refine C.mono ?_
    rintro e w2 ⟨rfl, hb⟩
    rw [HF.out]
    have HB2 := Lib.hid (HB0.out.trans (hb.mono HB0.out.size))
    clear hb C x0 x1
    cases G with
    | false =>
      go_wp2_with fail
      go_ret
      exact ⟨rfl, HB2.out⟩
    | true =>
      go_wp2_with fail
      go_ret
      exact ⟨rfl, HB2.out⟩
end Go.Proofs.Ytlpgldejmdiceaa.syg
