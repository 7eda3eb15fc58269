/- impl.IsRedex. -/
import Derived.Test.YtfjgapkjpmkplaaRdx
namespace Go.Proofs.Ytfjgapkjpmkplaa.rdi
open kit bg sg opn strs only hb sig isig un over gn nm inn ht gd im pt marks eqs hc hi hw hn rs br bm bw cf lf ib isa lawb lw cl rt chd pts psp idl idm pl chk rdx
open Go.RowKit
set_option linter.unusedVariables false
set_option linter.unusedSimpArgs false
theorem rd_no {b : Big} (h : ¬ 0 < b.roots) : rdB b = false := by unfold rdB; rw [decide_eq_false h]; rfl
theorem rd_no2 {b : Big} (h : ¬ b.inner.length = 0) : rdB b = false := by unfold rdB; rw [decide_eq_false h, Bool.and_false]; rfl
theorem rd_no3 {b : Big} (h : busyB b = false) : rdB b = false := by unfold rdB; rw [h, Bool.and_false]; rfl
theorem rd_yes {b : Big} (h1 : 0 < b.roots) (h2 : b.inner.length = 0) (h3 : busyB b = true) : rdB b = fitRB b := by unfold rdB; rw [decide_eq_true h1, decide_eq_true h2, h3]; rfl
set_option maxRecDepth 20000 in
set_option maxHeartbeats 3200000 in
theorem iRd_any (A : Option Addr) (n c : Nat) (cs : List Ctl) (v : Value) (b : Big) (w : World) (hC : CtlsAt w w.heap.size A n cs) (hv : BigAt w w.heap.size v b) (hn : n ≤ 1048576) (hs : ∀ c ∈ cs, c.name.size ≤ 1048576) (hS : BigS b) (hw : BigW b) :
    Calls Try.prog 41 #[.slice A n c, v] w fun e w' => e = .returned (.tuple #[.bool (rdQ cs b), .bool (bigB cs b)]) ∧ Below w.heap.size w w' := by
  obtain ⟨A1, n1, c1, A2, n2, c2, A4, n4, c4, A5, n5, c5, rfl, h1, h2, h4, h5⟩ := hv
  have HBox : Hid (BoxAt (w.alloc (.cells #[.int .i64 b.roots, .slice A1 n1 c1, .slice A2 n2 c2, .int .i64 b.edges, .slice A4 n4 c4, .slice A5 n5 c5] 39)) w.heap.size 39 (.int .i64 b.roots) (.slice A1 n1 c1) (.slice A2 n2 c2) (.int .i64 b.edges) (.slice A4 n4 c4) (.slice A5 n5 c5)) := Lib.hid (six_new w _ _ _ _ _ _ _)
  have HB0 := Lib.hid ((Below.refl w.heap.size w).alloc (Nat.le_refl _) (.cells #[.int .i64 b.roots, .slice A1 n1 c1, .slice A2 n2 c2, .int .i64 b.edges, .slice A4 n4 c4, .slice A5 n5 c5] 39))
  obtain ⟨W, hW⟩ : ∃ W, w.alloc (.cells #[.int .i64 b.roots, .slice A1 n1 c1, .slice A2 n2 c2, .int .i64 b.edges, .slice A4 n4 c4, .slice A5 n5 c5] 39) = W := ⟨_, rfl⟩
  have hWs : w.heap.size < W.heap.size := by rw [← hW]; simp
  rw [hW] at HBox HB0
  have HWq := Lib.hid hW
  have hVW : BigAt W W.heap.size (.agg #[.int .i64 b.roots, .slice A1 n1 c1, .slice A2 n2 c2, .int .i64 b.edges, .slice A4 n4 c4, .slice A5 n5 c5]) b := BigAt.wide (BigAt.below ⟨_, _, _, _, _, _, _, _, _, _, _, _, rfl, h1, h2, h4, h5⟩ HB0.out) HB0.out.size
  obtain ⟨N, hN⟩ : ∃ N, (idlR cs b).length = N := ⟨_, rfl⟩
  have CI := (iIdl_any A n c cs _ b W ((hC.below HB0.out).wide HB0.out.size) hVW hn hs hS hw).mono (R' := fun e w' => ∃ (A7 : Option Addr) (c7 : Nat), e = .returned (.tuple #[.slice A7 N c7, .bool (bigB cs b)]) ∧ Below W.heap.size W w') (fun e w' h => by
    obtain ⟨v, rfl, ⟨A7, c7, rfl, -, -⟩, hb⟩ := h
    refine ⟨A7, c7, ?_, hb⟩
    rw [List.length_map, hN])
  have l5 : b.inner.length = n5 := h5.1
  have HVb := Lib.hid (fun (Y : World) (hY : Below w.heap.size w Y) => (BigAt.wide (BigAt.below ⟨_, _, _, _, _, _, _, _, _, _, _, _, rfl, h1, h2, h4, h5⟩ hY) hY.size : BigAt Y Y.heap.size (.agg #[.int .i64 b.roots, .slice A1 n1 c1, .slice A2 n2 c2, .int .i64 b.edges, .slice A4 n4 c4, .slice A5 n5 c5]) b))
  obtain ⟨x0, x1, x2, x3, x4, x5⟩ := HBox.out.get
  clear hW hVW h1 h2 h4 h5 hC hn hs hS hw
  cases hq : bigB cs b with
  | false =>
    rw [hq] at CI
    have HQ : Hid (rdQ cs b = false) := Lib.hid (by unfold rdQ; rw [hq]; rfl)
    clear hq hN l5
    go_enter Try.func41, Try.ntmps41
    go_wp2_with fail
    rw [HWq.out]
    go_wp2_with fail
    refine CI.mono ?_
    rintro e w1 ⟨A7, c7, rfl, hb⟩
    have hb1 := HB0.out.trans (hb.mono HB0.out.size)
    have HBx1 := HBox.out.below hb hWs
    clear hb CI x0 x1 x2 x3 x4 x5
    obtain ⟨x0, x1, x2, x3, x4, x5⟩ := HBx1.get
    go_wp2_with fail
    refine bodyPost_ret (results_tmp2 rfl _ _ _) rfl ?_
    exact ⟨by first | rfl | (rw [HQ.out]; rfl), hb1⟩
  | true =>
    rw [hq] at CI
    have hz := sizes_of (big_of hq).2.1
    have hrd : rdQ cs b = rdB b := by unfold rdQ; rw [hq]; rfl
    have hNb : decide (N = 0) = busyB b := by
      rw [← hN, idlR_yes hq]
      exact upto_sel _ _
    by_cases a1 : 0 < b.roots
    · by_cases a2 : n5 = 0
      · by_cases a3 : N = 0
        · have hby : busyB b = true := by rw [← hNb, decide_eq_true a3]
          have HQ : Hid (rdQ cs b = fitRB b) := Lib.hid (by rw [hrd]; exact rd_yes a1 (by rw [l5]; exact a2) hby)
          have HF := Lib.hid (fun (Y : World) (hY : Below w.heap.size w Y) => cfr_any _ b Y (HVb.out Y hY) hz.1 hz.2.2.1 hz.2.2.2.1)
          obtain ⟨q, hfq⟩ : ∃ q, fitRB b = q := ⟨_, rfl⟩
          rw [hfq] at HF HQ
          subst a2 a3
          clear hq hN l5 hz hrd hNb hby hfq
          go_enter Try.func41, Try.ntmps41
          go_wp2_with fail
          rw [HWq.out]
          go_wp2_with fail
          refine CI.mono ?_
          rintro e w1 ⟨A7, c7, rfl, hb⟩
          have hb1 := HB0.out.trans (hb.mono HB0.out.size)
          have HBx1 := HBox.out.below hb hWs
          clear hb CI x0 x1 x2 x3 x4 x5
          obtain ⟨x0, x1, x2, x3, x4, x5⟩ := HBx1.get
          go_wp2_with fail
          refine (HF.out w1 hb1).mono ?_
          rintro e w2 ⟨rfl, hb⟩
          have hb2 := hb1.trans (hb.mono hb1.size)
          clear hb x0 x1 x2 x3 x4 x5
          go_wp2_with fail
          refine bodyPost_ret (results_tmp2 rfl _ _ _) rfl ?_
          exact ⟨by first | rfl | (rw [HQ.out]; rfl), hb2⟩
        · have hby : busyB b = false := by rw [← hNb, decide_eq_false a3]
          have HQ : Hid (rdQ cs b = false) := Lib.hid (by rw [hrd]; exact rd_no3 hby)
          have a3' : ¬ ((N : Int) = 0) := by omega
          subst a2
          clear hq hN l5 hz hrd hNb hby
          go_enter Try.func41, Try.ntmps41
          go_wp2_with fail
          rw [HWq.out]
          go_wp2_with fail
          refine CI.mono ?_
          rintro e w1 ⟨A7, c7, rfl, hb⟩
          have hb1 := HB0.out.trans (hb.mono HB0.out.size)
          have HBx1 := HBox.out.below hb hWs
          clear hb CI x0 x1 x2 x3 x4 x5
          obtain ⟨x0, x1, x2, x3, x4, x5⟩ := HBx1.get
          go_wp2_with fail
          refine bodyPost_ret (results_tmp2 rfl _ _ _) rfl ?_
          exact ⟨by first | rfl | (rw [HQ.out]; rfl), hb1⟩
      · have HQ : Hid (rdQ cs b = false) := Lib.hid (by rw [hrd]; exact rd_no2 (by rw [l5]; exact a2))
        have a2' : ¬ ((n5 : Int) = 0) := by omega
        clear hq hN l5 hz hrd hNb
        go_enter Try.func41, Try.ntmps41
        go_wp2_with fail
        rw [HWq.out]
        go_wp2_with fail
        refine CI.mono ?_
        rintro e w1 ⟨A7, c7, rfl, hb⟩
        have hb1 := HB0.out.trans (hb.mono HB0.out.size)
        have HBx1 := HBox.out.below hb hWs
        clear hb CI x0 x1 x2 x3 x4 x5
        obtain ⟨x0, x1, x2, x3, x4, x5⟩ := HBx1.get
        go_wp2_with fail
        refine bodyPost_ret (results_tmp2 rfl _ _ _) rfl ?_
        exact ⟨by first | rfl | (rw [HQ.out]; rfl), hb1⟩
    · have HQ : Hid (rdQ cs b = false) := Lib.hid (by rw [hrd]; exact rd_no a1)
      clear hq hN l5 hz hrd hNb
      go_enter Try.func41, Try.ntmps41
      go_wp2_with fail
      rw [HWq.out]
      go_wp2_with fail
      refine CI.mono ?_
      rintro e w1 ⟨A7, c7, rfl, hb⟩
      have hb1 := HB0.out.trans (hb.mono HB0.out.size)
      have HBx1 := HBox.out.below hb hWs
      clear hb CI x0 x1 x2 x3 x4 x5
      obtain ⟨x0, x1, x2, x3, x4, x5⟩ := HBx1.get
      go_wp2_with fail
      refine bodyPost_ret (results_tmp2 rfl _ _ _) rfl ?_
      exact ⟨by first | rfl | (rw [HQ.out]; rfl), hb1⟩
end Go.Proofs.Ytfjgapkjpmkplaa.rdi
