/- Whether a Labelled system is valid: spec.l11Good, spec.IsLabelled, impl.IsLabelled; slices.IndexFunc and ContainsFunc at slices of ints. -/
import Derived.Test.YtlpgldejmdiceaaLab
import Derived.Test.YtlpgldejmdiceaaSyk
import Derived.Test.YtlpgldejmdiceaaSym
namespace Go.Proofs.Ytlpgldejmdiceaa.lgd
open kit bg sg opn strs only hb sig isig un over gn nm inn ht gd im pt marks eqs hc hi hw hn rs br bm bw cf lf ib isa lawb lw cl bgs cz syx sya syh syi syc syg syb syk syl sym iss lab
open Go.RowKit
set_option linter.unusedVariables false
set_option linter.unusedSimpArgs false
def labB (n : Nat) (bs : List (List Int)) (ts : List Tri) : Bool := bs.all (golB 8) && (stepsM 7 n ts && inb n 1 40)
theorem lab_row {n : Nat} {bs : List (List Int)} {ts : List Tri} {k : Nat} {b : List Int} (hb : bs[k]? = some b) (h : golB 8 b = false) : labB n bs ts = false := by
  have : bs.all (golB 8) = false := List.all_eq_false.2 ⟨b, List.mem_of_getElem? hb, by simp [h]⟩
  unfold labB
  rw [this]; rfl
theorem lab_rows {n : Nat} {bs : List (List Int)} {ts : List Tri} (h : ∀ (j : Nat) b, j < bs.length → bs[j]? = some b → golB 8 b = true) : labB n bs ts = (stepsM 7 n ts && inb n 1 40) := by
  have : bs.all (golB 8) = true := List.all_eq_true.2 fun x hx => by
    obtain ⟨j, hj⟩ := List.getElem?_of_mem hx
    exact h j x (List.getElem?_eq_some_iff.1 hj).1 hj
  unfold labB
  rw [this]; rfl
theorem sm_no {n : Nat} {ts : List Tri} {k : Nat} {s : Tri} (hs : ts[k]? = some s) (h : stepM 7 n ts k = false) : (stepsM 7 n ts && inb n 1 40) = false := by rw [stepsM_no hs h]; rfl
set_option maxRecDepth 20000 in
set_option maxHeartbeats 6400000 in
theorem lgood_any (v : Value) (x : Lab) (w : World) (h : LabAt w w.heap.size v x) (hs : labWt x ≤ 1048576) :
    Calls Try.prog 96 #[v] w fun e w' => e = .returned (.bool (labB x.shows.length x.shows x.steps)) ∧ Below w.heap.size w w' := by
  obtain ⟨A1, n1, c1, A2, n2, c2, rfl, h1, h2⟩ := h
  have hl1 := h1.1
  have hl2 := h2.1
  unfold labWt issWt at hs
  have hn1 : n1 ≤ 1048576 := by omega
  have hn2 : n2 ≤ 1048576 := by omega
  rw [hl1]
  obtain ⟨ts, hts⟩ : ∃ ts, x.steps = ts := ⟨_, rfl⟩
  rw [hts] at h2 hl2 ⊢
  have hlen := Lib.hid (fun b (hb : b ∈ x.shows) => iss_len (bs := x.shows) (by unfold issWt; omega) hb)
  have HSl := Lib.hid hl1
  clear hs hts hl1
  have HB0 := Lib.hid ((Below.refl w.heap.size w).alloc (Nat.le_refl _) (.cells #[.slice A1 n1 c1, .slice A2 n2 c2] 67))
  have HBx := Lib.hid (BoxN.new w #[.slice A1 n1 c1, .slice A2 n2 c2] 67)
  obtain ⟨W, hW⟩ : ∃ W, w.alloc (.cells #[.slice A1 n1 c1, .slice A2 n2 c2] 67) = W := ⟨_, rfl⟩
  rw [hW] at HBx HB0
  have HWq := Lib.hid hW
  have hWs := HBx.out.lt
  have HL := Lib.hid hl2
  obtain ⟨x0, x1⟩ := box2 HBx.out
  clear hW hl2
  obtain ⟨G, hG⟩ : ∃ G, labB n1 x.shows ts = G := ⟨_, rfl⟩
  rw [hG]
  have HG := Lib.hid hG
  have hnI : IntKind.i64.wrap ((n1 : Int) - 1) = (n1 : Int) - 1 := IntWalk.i64_in _ (by omega)
  clear hG
  go_enter Try.func96, Try.ntmps96
  go_wp2_with fail
  rw [HWq.out]
  go_wp2_with fail
  go_loopw [4] (fun i wr => ∃ k : Nat, k ≤ n1 ∧ i = .int .i64 k ∧ (∀ (j : Nat) b, j < k → x.shows[j]? = some b → golB 8 b = true) ∧ Below W.heap.size W wr) (fun i _ => n1 - (intOf i).toNat)
  case atStart => exact ⟨0, Nat.zero_le _, rfl, fun j b hj => absurd hj (Nat.not_lt_zero j), Below.refl _ _⟩
  case round =>
    obtain ⟨k, hk, rfl, hok, hbel⟩ := hrel
    have HOk := Lib.hid hok
    have HBel := Lib.hid hbel
    have hbw := HB0.out.trans (hbel.mono HB0.out.size)
    clear hok hbel x0 x1
    obtain ⟨x0, x1⟩ := box2 (HBx.out.below HBel.out hWs)
    by_cases hlt : k < n1
    · obtain ⟨g, off, b, A3, n3, c3, rfl, hbb, hx, e0, hv⟩ := h1.get hlt
      have d0 := (hbw.cell (p := ⟨g, off + k, none⟩) hbb).trans e0
      have hbl := hlen.out b (List.mem_of_getElem? hx)
      have C := rising_any A3 n3 c3 8 b wr wr.heap.size ((hv.below hbw).wide hbw.size) (by omega) (by have := hv.len; omega)
      rw [show (((8 : Nat) : Int) - 1) = 7 from rfl] at C
      have HX := Lib.hid hx
      clear hx e0 hv
      go_wp2_with fail
      refine C.mono ?_
      rintro e w3 ⟨rfl, hd⟩
      have HB3 := Lib.hid (HBel.out.trans (hd.below _))
      clear C hd d0
      cases hq : golB 8 b with
      | false =>
        have HF : Hid (G = false) := Lib.hid (by rw [← HG.out]; exact lab_row HX.out hq)
        clear hq
        go_wp2_with fail
        go_ret
        exact ⟨by rw [HF.out]; rfl, HB0.out.trans (HB3.out.mono HB0.out.size)⟩
      | true =>
        have HQ := Lib.hid hq
        clear hq
        go_wp2_with fail
        go_roundw
        case rel => exact ⟨k + 1, by omega, by go_num, fun j y hj hy => by
          by_cases e : j = k
          · subst e; rw [HX.out] at hy; injection hy with e; subst e; exact HQ.out
          · exact HOk.out j y (by omega) hy, HB3.out⟩
        case measure => simp [intOf]; omega
    · obtain rfl : n1 = k := by omega
      have HSh := Lib.hid (lab_rows (n := n1) (ts := ts) (bs := x.shows) (by rw [HSl.out]; exact HOk.out))
      go_wp2_with fail
      clear x0 x1
      rename World => wl
      go_loopw [5, 6] (fun i _ wr => ∃ k : Nat, k ≤ n2 ∧ i = .int .i64 k ∧ (∀ j, j < k → stepM 7 n1 ts j = true) ∧ Below W.heap.size W wr) (fun i _ _ => n2 - (intOf i).toNat)
      case atStart => exact ⟨0, Nat.zero_le _, rfl, fun j hj => absurd hj (Nat.not_lt_zero j), HBel.out⟩
      case round =>
        obtain ⟨k, hk, rfl, hok, hbel⟩ := hrel
        have HOk := Lib.hid hok
        have HBel := Lib.hid hbel
        have hbw := HB0.out.trans (hbel.mono HB0.out.size)
        clear hok hbel
        obtain ⟨x0, x1⟩ := box2 (HBx.out.below HBel.out hWs)
        by_cases hlt : k < n2
        · obtain ⟨g, off, s, rfl, hbb, hx, e0, e1, e2⟩ := h2.get hlt
          have d0 := (hbw.cell (p := ⟨g, off + k * 3, none⟩) hbb).trans e0
          have d1 := (hbw.cell (p := ⟨g, off + k * 3 + 1, none⟩) hbb).trans e1
          have d2 := (hbw.cell (p := ⟨g, off + k * 3 + 2, none⟩) hbb).trans e2
          have HX := Lib.hid hx
          have b3 := BoxN.new wr #[.int .i64 s.1, .int .i64 s.2.1, .int .i64 s.2.2] 76
          have hb3 := HBel.out.alloc HBel.out.size (.cells #[.int .i64 s.1, .int .i64 s.2.1, .int .i64 s.2.2] 76)
          obtain ⟨W3, hW3⟩ : ∃ W3, wr.alloc (.cells #[.int .i64 s.1, .int .i64 s.2.1, .int .i64 s.2.2] 76) = W3 := ⟨_, rfl⟩
          have HW3 := Lib.hid hW3
          rw [hW3] at b3 hb3
          have B3 := Lib.hid b3
          have HB3 := Lib.hid hb3
          obtain ⟨y0, y1⟩ := box2 (HBx.out.below hb3 hWs)
          obtain ⟨z0, z1, z2⟩ := box3 b3
          have HP := Lib.hid (And.intro y0 (And.intro y1 (And.intro z0 (And.intro z1 z2))))
          have hr0 := Over.get y0 (Nat.lt_of_lt_of_le hWs hb3.size)
          have hr1 := Over.get y1 (Nat.lt_of_lt_of_le hWs hb3.size)
          have ht0 := Over.get z0 b3.lt
          have ht1 := Over.get z1 b3.lt
          have ht2 := Over.get z2 b3.lt
          have HO := Lib.hid (And.intro hr0 (And.intro hr1 (And.intro ht0 (And.intro ht1 ht2))))
          have hk0 : ((k : Int) > 0) ∨ k = 0 := by omega
          clear hW3 b3 hb3 hx e0 e1 e2 y0 y1 z0 z1 z2 hr0 hr1 ht0 ht1 ht2 hk0
          go_wp2_with fail
          rw [HW3.out]
          clear d0 d1 d2 x0 x1
          cases hp1 : inb s.1 0 ((n1 : Int) - 1) with
          | false =>
            have HF : Hid (G = false) := Lib.hid (by rw [← HG.out]; rw [HSh.out]; exact sm_no HX.out (stepM_no1 HX.out hp1))
            have HI1 := Lib.hid (fun W' => hp1 ▸ in_any s.1 0 ((n1 : Int) - 1) W')
            clear hp1
            obtain ⟨hr0, hr1, ht0, ht1, ht2⟩ := HP.out
            go_quiet (first | (go_at_call 92; with_reducible exact Calls.quiet_of_same ((HI1.out _).mono fun _ _ h => ⟨h.1, h.2.symm⟩)))
            go_wp2_with fail
            go_ret
            exact ⟨by rw [HF.out]; rfl, HB0.out.trans ((below_drewN HB3.out _).mono HB0.out.size)⟩
          | true =>
            have HI1 := Lib.hid (fun W' => hp1 ▸ in_any s.1 0 ((n1 : Int) - 1) W')
            have HP1 := Lib.hid hp1
            clear hp1
            cases hp2 : inb s.2.1 0 7 with
            | false =>
              have HF : Hid (G = false) := Lib.hid (by rw [← HG.out]; rw [HSh.out]; exact sm_no HX.out (stepM_no2 HX.out hp2))
              have HI2 := Lib.hid (fun W' => hp2 ▸ in_any s.2.1 0 7 W')
              clear hp2
              obtain ⟨hr0, hr1, ht0, ht1, ht2⟩ := HP.out
              go_quiet (first | (go_at_call 92; with_reducible exact Calls.quiet_of_same ((HI1.out _).mono fun _ _ h => ⟨h.1, h.2.symm⟩)) | (go_at_call 92; with_reducible exact Calls.quiet_of_same ((HI2.out _).mono fun _ _ h => ⟨h.1, h.2.symm⟩)))
              go_wp2_with fail
              go_ret
              exact ⟨by rw [HF.out]; rfl, HB0.out.trans ((below_drewN HB3.out _).mono HB0.out.size)⟩
            | true =>
              have HI2 := Lib.hid (fun W' => hp2 ▸ in_any s.2.1 0 7 W')
              have HP2 := Lib.hid hp2
              clear hp2
              cases hp3 : inb s.2.2 0 ((n1 : Int) - 1) with
              | false =>
                have HF : Hid (G = false) := Lib.hid (by rw [← HG.out]; rw [HSh.out]; exact sm_no HX.out (stepM_no3 HX.out hp3))
                have HI3 := Lib.hid (fun W' => hp3 ▸ in_any s.2.2 0 ((n1 : Int) - 1) W')
                clear hp3
                obtain ⟨hr0, hr1, ht0, ht1, ht2⟩ := HP.out
                go_quiet (first | (go_at_call 92; with_reducible exact Calls.quiet_of_same ((HI1.out _).mono fun _ _ h => ⟨h.1, h.2.symm⟩)) | (go_at_call 92; with_reducible exact Calls.quiet_of_same ((HI2.out _).mono fun _ _ h => ⟨h.1, h.2.symm⟩)) | (go_at_call 92; with_reducible exact Calls.quiet_of_same ((HI3.out _).mono fun _ _ h => ⟨h.1, h.2.symm⟩)))
                go_wp2_with fail
                go_ret
                exact ⟨by rw [HF.out]; rfl, HB0.out.trans ((below_drewN HB3.out _).mono HB0.out.size)⟩
              | true =>
                have HI3 := Lib.hid (fun W' => hp3 ▸ in_any s.2.2 0 ((n1 : Int) - 1) W')
                have HP3 := Lib.hid hp3
                clear hp3
                cases k with
                | zero =>
                  have HY := Lib.hid (stepM_zero HX.out HP1.out HP2.out HP3.out)
                  obtain ⟨hr0, hr1, ht0, ht1, ht2⟩ := HP.out
                  go_quiet (first | (go_at_call 92; with_reducible exact Calls.quiet_of_same ((HI1.out _).mono fun _ _ h => ⟨h.1, h.2.symm⟩)) | (go_at_call 92; with_reducible exact Calls.quiet_of_same ((HI2.out _).mono fun _ _ h => ⟨h.1, h.2.symm⟩)) | (go_at_call 92; with_reducible exact Calls.quiet_of_same ((HI3.out _).mono fun _ _ h => ⟨h.1, h.2.symm⟩)))
                  go_wp2_with fail
                  go_roundw
                  case rel => exact ⟨1, by omega, by go_num, fun j hj => by rw [show j = 0 by omega]; exact HY.out, by first | exact below_drewN HB3.out _ | exact HB3.out.drew⟩
                  case measure => simp [intOf]; omega
                | succ k =>
                  obtain ⟨g', off', p, eA, hbb', hxp, e0, e1, e2⟩ := h2.get (show k < n2 by omega)
                  injection eA with eA
                  injection eA with eg eo
                  subst eg eo
                  have HY := Lib.hid (stepM_succ HX.out hxp HP1.out HP2.out HP3.out)
                  have hb03 := HB0.out.trans (HB3.out.mono HB0.out.size)
                  have hgl : g < W3.heap.size := Nat.lt_of_lt_of_le hbb' hb03.size
                  have q0 := Over.get ((hb03.cell (p := ⟨g, off + k * 3, none⟩) hbb').trans e0) hgl
                  have q1 := Over.get ((hb03.cell (p := ⟨g, off + k * 3 + 1, none⟩) hbb').trans e1) hgl
                  have q2 := Over.get ((hb03.cell (p := ⟨g, off + k * 3 + 2, none⟩) hbb').trans e2) hgl
                  have hw1 : IntKind.i64.wrap (((k + 1 : Nat) : Int) - 1) = (k : Int) := by rw [IntWalk.i64_in _ (by omega)]; omega
                  have hk1 : (0 : Int) < ((k + 1 : Nat) : Int) := by omega
                  have HQ := Lib.hid (And.intro q0 (And.intro q1 q2))
                  have HC := Lib.hid (fun Y => before_any p s Y)
                  unfold triV at HC
                  clear hxp e0 e1 e2 q0 q1 q2
                  cases hl : lt3 p s with
                  | false =>
                    have HF : Hid (G = false) := Lib.hid (by rw [← HG.out]; rw [HSh.out]; exact sm_no HX.out (HY.out.trans hl))
                    rw [hl] at HC
                    have HK := Lib.hid (fun y : Over W3 => over_call (HC.out y.w))
                    clear hl
                    obtain ⟨hr0, hr1, ht0, ht1, ht2⟩ := HO.out
                    obtain ⟨q0, q1, q2⟩ := HQ.out
                    refine wp_region_over (by kernel_rfl) (by kernel_rfl) ?_
                    repeat (go_big_quiet_step (first | (go_at_call 92; with_reducible exact over_same (HI1.out _)) | (go_at_call 92; with_reducible exact over_same (HI2.out _)) | (go_at_call 92; with_reducible exact over_same (HI3.out _)) | (go_at_call 104; exact HK.out _)))
                    refine wpQuiet_nil ?_
                    rintro _ ⟨y, rfl⟩
                    have hy := y.below
                    obtain ⟨w9, hw9⟩ : ∃ w9, y.w = w9 := ⟨_, rfl⟩
                    rw [hw9] at hy ⊢
                    clear hw9 hr0 hr1 ht0 ht1 ht2 q0 q1 q2
                    have hb9 := HB3.out.trans (hy.mono HB3.out.size)
                    clear hy
                    go_wp2_with fail
                    go_ret
                    exact ⟨by rw [HF.out]; rfl, HB0.out.trans (hb9.mono HB0.out.size)⟩
                  | true =>
                    have HT := Lib.hid (HY.out.trans hl)
                    rw [hl] at HC
                    have HK := Lib.hid (fun y : Over W3 => over_call (HC.out y.w))
                    clear hl
                    obtain ⟨hr0, hr1, ht0, ht1, ht2⟩ := HO.out
                    obtain ⟨q0, q1, q2⟩ := HQ.out
                    refine wp_region_over (by kernel_rfl) (by kernel_rfl) ?_
                    repeat (go_big_quiet_step (first | (go_at_call 92; with_reducible exact over_same (HI1.out _)) | (go_at_call 92; with_reducible exact over_same (HI2.out _)) | (go_at_call 92; with_reducible exact over_same (HI3.out _)) | (go_at_call 104; exact HK.out _)))
                    refine wpQuiet_nil ?_
                    rintro _ ⟨y, rfl⟩
                    have hy := y.below
                    obtain ⟨w9, hw9⟩ : ∃ w9, y.w = w9 := ⟨_, rfl⟩
                    rw [hw9] at hy ⊢
                    clear hw9 hr0 hr1 ht0 ht1 ht2 q0 q1 q2
                    have hb9 := HB3.out.trans (hy.mono HB3.out.size)
                    clear hy
                    go_wp2_with fail
                    go_roundw
                    case rel => exact ⟨k + 1 + 1, by omega, by go_num, fun j hj => by
                      by_cases e : j = k + 1
                      · rw [e]; exact HT.out
                      · exact HOk.out j (by omega), hb9⟩
                    case measure => simp [intOf]; omega
        · obtain rfl : k = n2 := by omega
          have HT : Hid (G = inb (n1 : Int) 1 40) := Lib.hid (by rw [← HG.out, HSh.out, stepsM_yes (by rw [HL.out]; exact HOk.out)]; rfl)
          go_wp2_with fail
          refine (in_any (n1 : Int) 1 40 wr).mono ?_
          rintro e w5 ⟨rfl, rfl⟩
          go_wp2_with fail
          go_ret
          exact ⟨by rw [HT.out]; rfl, HB0.out.trans (HBel.out.mono HB0.out.size)⟩
set_option maxRecDepth 20000 in
set_option maxHeartbeats 1600000 in
theorem sIsl_any (v : Value) (x : Lab) (w : World) (h : LabAt w w.heap.size v x) (hs : labWt x ≤ 1048576) :
    Calls Try.prog 51 #[v] w fun e w' => e = .returned (.bool (labB x.shows.length x.shows x.steps)) ∧ Below w.heap.size w w' := by
  have h0 := h
  obtain ⟨A1, n1, c1, A2, n2, c2, rfl, h1, h2⟩ := h
  have HB0 := Lib.hid ((Below.refl w.heap.size w).alloc (Nat.le_refl _) (.cells #[.slice A1 n1 c1, .slice A2 n2 c2] 67))
  have HBx := Lib.hid (BoxN.new w #[.slice A1 n1 c1, .slice A2 n2 c2] 67)
  obtain ⟨W, hW⟩ : ∃ W, w.alloc (.cells #[.slice A1 n1 c1, .slice A2 n2 c2] 67) = W := ⟨_, rfl⟩
  rw [hW] at HBx HB0
  have HWq := Lib.hid hW
  have C := lgood_any _ x W ((h0.below HB0.out).wide HB0.out.size) hs
  obtain ⟨x0, x1⟩ := box2 HBx.out
  clear hW h0 h1 h2
  go_enter Try.func51, Try.ntmps51
  go_wp2_with fail
  rw [HWq.out]
  go_wp2_with fail
  refine C.mono ?_
  rintro e w1 ⟨rfl, hb⟩
  have HB1 := Lib.hid (HB0.out.trans (hb.mono HB0.out.size))
  clear C hb x0 x1
  go_wp2_with fail
  go_ret
  exact ⟨rfl, HB1.out⟩
/-- what IndexFunc gives: the first place, or -1 -/
def FoundL (P : List Int → Bool) (xs : List (List Int)) (w : World) (e : Ending) (w' : World) : Prop :=
  (∃ (k : Nat) (x : List Int), e = .returned (.int .i64 k) ∧ xs[k]? = some x ∧ P x = true ∧ (∀ (j : Nat) y, j < k → xs[j]? = some y → P y = false) ∧ Below w.heap.size w w') ∨ (e = .returned (.int .i64 (-1)) ∧ (∀ (j : Nat) x, j < xs.length → xs[j]? = some x → P x = false) ∧ Below w.heap.size w w')
theorem foundL_none {P : List Int → Bool} {xs : List (List Int)} (h : ∀ (j : Nat) x, j < xs.length → xs[j]? = some x → P x = false) : xs.any P = false := by
  refine List.any_eq_false.2 (fun x hx => ?_)
  obtain ⟨j, hj⟩ := List.getElem?_of_mem hx
  rw [h j x (List.getElem?_eq_some_iff.1 hj).1 hj]; simp
set_option maxRecDepth 20000 in
set_option maxHeartbeats 1600000 in
theorem idxL_any (G : FuncId) (lb : Array Value) (P : List Int → Bool) (eg : ∀ args w, (callFunc G args).run Try.prog w = .ok (.enter G args) w) (Ax : Option Addr) (nx cx : Nat) (xs : List (List Int)) (w0 w : World)
    (hG : ∀ (x : List Int) (Y : World) (A1 : Option Addr) (n1 c1 : Nat), x ∈ xs → Below w.heap.size w Y → IntsAt Y Y.heap.size A1 n1 x → Calls Try.prog G (#[.slice A1 n1 c1] ++ lb) Y (Post (P x) Y))
    (hx : IssAt w0 w0.heap.size Ax nx xs) (hb0 : Below w0.heap.size w0 w) (hn : nx ≤ 1048576) :
    Calls Try.prog 127 #[.slice Ax nx cx, .func (.func G) #[] lb] w (FoundL P xs w) := by
  have HL := Lib.hid hx.1
  have HG := Lib.hid hG
  clear hG
  go_enter Try.func127, Try.ntmps127
  go_wp2_with fail
  go_loopw [5, 8] (fun _ i wr => ∃ k : Nat, k ≤ nx ∧ i = .int .i64 k ∧ (∀ (j : Nat) x, j < k → xs[j]? = some x → P x = false) ∧ Below w.heap.size w wr) (fun _ i _ => nx - (intOf i).toNat)
  case atStart => exact ⟨0, Nat.zero_le _, rfl, fun j x hj => absurd hj (Nat.not_lt_zero j), Below.refl _ _⟩
  case round =>
    obtain ⟨k, hk, rfl, hok, hbel⟩ := hrel
    have HOk := Lib.hid hok
    have HBel := Lib.hid hbel
    have hbw := hb0.trans (hbel.mono hb0.size)
    clear hok hbel
    by_cases hlt : k < nx
    · obtain ⟨bi, offi, x, A1, n1, c1, rfl, hbi, hx, c0, hv⟩ := hx.get hlt
      have g0 := (hbw.cell (p := ⟨bi, offi + k, none⟩) hbi).trans c0
      have CK := HG.out x wr A1 n1 c1 (List.mem_of_getElem? hx) HBel.out ((hv.below hbw).wide hbw.size)
      have HX := Lib.hid hx
      obtain ⟨q, hq⟩ : ∃ q, P x = q := ⟨_, rfl⟩
      have HQ := Lib.hid hq
      rw [hq] at CK
      clear hx hq c0 hv
      cases q with
      | true =>
        go_wp2_with (go_at_fn G; refine CK.mono ?_; rintro e w3 ⟨rfl, hb3⟩; have HB3 := Lib.hid (HBel.out.trans (hb3.mono HBel.out.size)); clear CK hb3)
        go_wp2_with fail
        go_ret
        exact .inl ⟨k, x, rfl, HX.out, HQ.out, HOk.out, HB3.out⟩
      | false =>
        go_wp2_with (go_at_fn G; refine CK.mono ?_; rintro e w3 ⟨rfl, hb3⟩; have HB3 := Lib.hid (HBel.out.trans (hb3.mono HBel.out.size)); clear CK hb3)
        go_wp2_with fail
        go_roundw
        case rel => exact ⟨k + 1, by omega, by go_num, fun j' x' hj' hx' => by
          by_cases e : j' = k
          · subst e; rw [HX.out] at hx'; injection hx' with e; subst e; exact HQ.out
          · exact HOk.out j' x' (by omega) hx', HB3.out⟩
        case measure => simp [intOf]; omega
    · obtain rfl : k = nx := by omega
      go_wp2_with fail
      go_ret
      exact .inr ⟨rfl, by rw [HL.out]; exact HOk.out, HBel.out⟩

set_option maxHeartbeats 800000 in
/-- slices.ContainsFunc at slices of ints -/
theorem conL_any (G : FuncId) (lb : Array Value) (P : List Int → Bool) (eg : ∀ args w, (callFunc G args).run Try.prog w = .ok (.enter G args) w) (Ax : Option Addr) (nx cx : Nat) (xs : List (List Int)) (w0 w : World)
    (hG : ∀ (x : List Int) (Y : World) (A1 : Option Addr) (n1 c1 : Nat), x ∈ xs → Below w.heap.size w Y → IntsAt Y Y.heap.size A1 n1 x → Calls Try.prog G (#[.slice A1 n1 c1] ++ lb) Y (Post (P x) Y))
    (hx : IssAt w0 w0.heap.size Ax nx xs) (hb0 : Below w0.heap.size w0 w) (hn : nx ≤ 1048576) :
    Calls Try.prog 99 #[.slice Ax nx cx, .func (.func G) #[] lb] w (Post (xs.any P) w) := by
  have C := Lib.hid (idxL_any G lb P eg Ax nx cx xs w0 w hG hx hb0 hn)
  obtain ⟨q, hq⟩ : ∃ q, xs.any P = q := ⟨_, rfl⟩
  rw [hq]
  have HQ := Lib.hid hq
  clear hq hG
  go_enter Try.func99, Try.ntmps99
  go_wp2_with fail
  refine C.out.mono ?_
  rintro e w1 (⟨k, x, rfl, hx2, hl, -, hb⟩ | ⟨rfl, hok, hb⟩)
  · have HY := Lib.hid (HQ.out.symm.trans (List.any_eq_true.2 ⟨x, List.mem_of_getElem? hx2, hl⟩))
    clear hx2 hl
    go_wp2_with fail
    go_ret
    exact ⟨by rw [HY.out]; rfl, hb⟩
  · have HN := Lib.hid (HQ.out.symm.trans (foundL_none hok))
    clear hok
    go_wp2_with fail
    go_ret
    exact ⟨by rw [HN.out]; rfl, hb⟩


set_option maxRecDepth 20000 in
set_option maxHeartbeats 1600000 in
theorem isl1_any (A : Option Addr) (n c : Nat) (gs : List Int) (w : World) (h : IntsAt w w.heap.size A n gs) (hn : n ≤ 1048576) :
    Calls Try.prog 100 #[.slice A n c] w (Post (!golB 8 gs) w) := by
  have HG := Lib.hid h
  rw [← sel_ris]
  clear h
  go_enter Try.func100, Try.ntmps100
  go_wp2_with fail
  have CB := below_any 8 w (by omega)
  rw [show ((8 : Nat) : Int) = 8 from rfl] at CB
  refine CB.mono ?_
  rintro e w1 ⟨g, rfl, hg1, hg2, hrow, hb⟩
  have hb1 := hb
  have hI : IntsAt w1 w1.heap.size (some ⟨g, 0, none⟩) 8 (nums 8) := by
    refine ⟨by rw [List.length_map, nums_len], fun _ => ⟨g, 0, rfl, hg2, fun k u hk => ?_⟩⟩
    rw [List.getElem?_map] at hk
    obtain ⟨z, hz, rfl⟩ := Option.map_eq_some_iff.1 hk
    have hlt := (List.getElem?_eq_some_iff.1 hz).1
    rw [nums_len] at hlt
    rw [Nat.zero_add, hrow.cell hlt, iat_of hz]
  have C := sel_any A (some ⟨g, 0, none⟩) n c 8 gs (nums 8) w1 w1.heap.size ((HG.out.below hb1).wide hb1.size) hI hn (by omega)
  clear hI hrow hb CB
  go_wp2_with fail
  refine C.mono ?_
  rintro e w2 ⟨rfl, rfl⟩
  clear C
  go_wp2_with fail
  go_ret
  exact ⟨rfl, hb1⟩
set_option maxRecDepth 20000 in
set_option maxHeartbeats 3200000 in
theorem iIsl_any (v : Value) (x : Lab) (w : World) (h : LabAt w w.heap.size v x) (hs : labWt x ≤ 1048576) :
    Calls Try.prog 53 #[v] w fun e w' => e = .returned (.bool (labB x.shows.length x.shows x.steps)) ∧ Below w.heap.size w w' := by
  obtain ⟨A1, n1, c1, A2, n2, c2, rfl, h1, h2⟩ := h
  have hl1 := h1.1
  have hl2 := h2.1
  unfold labWt at hs
  have hlen := Lib.hid (fun b (hb : b ∈ x.shows) => iss_len (bs := x.shows) (by omega) hb)
  unfold issWt at hs
  have hn1 : n1 ≤ 1048576 := by omega
  have hn2 : n2 ≤ 1048576 := by omega
  rw [hl1]
  have HB0 := Lib.hid ((Below.refl w.heap.size w).alloc (Nat.le_refl _) (.cells #[.slice A1 n1 c1, .slice A2 n2 c2] 67))
  have HBx := Lib.hid (BoxN.new w #[.slice A1 n1 c1, .slice A2 n2 c2] 67)
  obtain ⟨W, hW⟩ : ∃ W, w.alloc (.cells #[.slice A1 n1 c1, .slice A2 n2 c2] 67) = W := ⟨_, rfl⟩
  rw [hW] at HBx HB0
  have HWq := Lib.hid hW
  have hWs := HBx.out.lt
  have C := areSteps_any 8 7 rfl n1 A2 n2 c2 x.steps W ((h2.below HB0.out).wide HB0.out.size) hn1 hn2
  have HR := Lib.hid ((h1.below HB0.out).wide HB0.out.size)
  obtain ⟨G, hG⟩ : ∃ G, labB n1 x.shows x.steps = G := ⟨_, rfl⟩
  rw [hG]
  have HG := Lib.hid hG
  obtain ⟨x0, x1⟩ := box2 HBx.out
  clear hW hG h1 h2 hl1 hl2 hs
  go_enter Try.func53, Try.ntmps53
  go_wp2_with fail
  rw [HWq.out]
  go_wp2_with fail
  refine (win_any (n1 : Int) 1 40 W).mono ?_
  rintro e w1 ⟨rfl, rfl⟩
  cases hq : inb (n1 : Int) 1 40 with
  | false =>
    have HF : Hid (G = false) := Lib.hid (by rw [← HG.out]; unfold labB; rw [hq]; simp)
    clear hq
    go_wp2_with fail
    go_ret
    exact ⟨by rw [HF.out]; rfl, HB0.out⟩
  | true =>
    have HQ := Lib.hid hq
    clear hq
    go_wp2_with fail
    refine C.mono ?_
    rintro e w2 ⟨rfl, hb⟩
    have HB2 := Lib.hid hb
    clear hb C x0 x1
    obtain ⟨x0, x1⟩ := box2 (HBx.out.below HB2.out hWs)
    cases hq2 : stepsM 7 n1 x.steps with
    | false =>
      have HF : Hid (G = false) := Lib.hid (by rw [← HG.out]; unfold labB; rw [hq2]; simp)
      clear hq2
      go_wp2_with fail
      go_ret
      exact ⟨by rw [HF.out]; rfl, HB0.out.trans (HB2.out.mono HB0.out.size)⟩
    | true =>
      have HF : Hid ((!x.shows.any (fun b => !golB 8 b)) = G) := Lib.hid (by rw [← HG.out]; unfold labB; rw [hq2, HQ.out]; simp [List.all_eq_not_any_not])
      clear hq2
      have CC := conL_any 100 #[] (fun b => !golB 8 b) (fun args w => rfl) A1 n1 c1 x.shows W w2 (fun b Y A3 n3 c3 hb hY hv => isl1_any A3 n3 c3 b Y hv (by have h1 := hlen.out b hb; have h2 := hv.len; omega)) HR.out HB2.out hn1
      go_wp2_with fail
      refine CC.mono ?_
      rintro e w3 ⟨rfl, hb⟩
      have HB3 := Lib.hid (HB0.out.trans ((HB2.out.trans (hb.mono HB2.out.size)).mono HB0.out.size))
      clear CC hb x0 x1
      go_wp2_with fail
      go_ret
      exact ⟨by rw [← HF.out]; rfl, HB3.out⟩
end Go.Proofs.Ytlpgldejmdiceaa.lgd
