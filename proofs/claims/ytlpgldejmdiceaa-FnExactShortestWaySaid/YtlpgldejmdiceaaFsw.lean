/- ShortestWay of spec. -/
import Derived.Test.YtlpgldejmdiceaaFsp
import Derived.Test.YtlpgldejmdiceaaFas
import Derived.Test.YtlpgldejmdiceaaFsl
import Derived.Test.YtlpgldejmdiceaaSym
namespace Go.Proofs.Ytlpgldejmdiceaa.fsw
open kit bg sg opn strs only hb sig isig un over gn nm inn ht gd im pt marks eqs hc hi hw hn rs br bm bw cf lf ib isa lawb lw cl bgs cz has syx sya rea rkx fax fay syh syi syc syg syb syk syl sym syt syr rcs rci rcf rks rki syz rep rkf fai rtt loi fsp fas fsl
open Go.RowKit
set_option linter.unusedVariables false
set_option linter.unusedSimpArgs false

set_option maxRecDepth 20000 in
set_option maxHeartbeats 12800000 in
theorem sSw_any (v : Value) (x : Sysm) (z : Int) (B : Option Addr) (m d : Nat) (gs : List Int) (w : World) (hv : SysAt w w.heap.size v x) (hs : sysWt x ≤ 1048576) (hg : IntsAt w w.heap.size B m gs) (hm : m ≤ 1048576) :
    Calls Try.prog 23 #[v, .int .i64 z, .slice B m d] w (TriPost (swQ x.states.length x.steps z gs) (swA x.states.length x.steps z gs) w) := by
  obtain ⟨A1, n1, c1, A2, n2, c2, rfl, h1, h2⟩ := hv
  have hl1 := h1.1
  have hl2 := h2.1
  have hn1 : n1 ≤ 1048576 := by unfold sysWt bgsWt at hs; omega
  have hn2 : n2 ≤ 1048576 := by unfold sysWt bgsWt at hs; omega
  have hb0 := (Below.refl w.heap.size w).alloc (Nat.le_refl _) (.cells #[.slice A1 n1 c1, .slice A2 n2 c2] 32)
  have hBx := BoxN.new w #[.slice A1 n1 c1, .slice A2 n2 c2] 32
  have hsz : (w.alloc (.cells #[.slice A1 n1 c1, .slice A2 n2 c2] 32)).heap.size = w.heap.size + 1 := by simp
  have hOn := OwnT.new (w.alloc (.cells #[.slice A1 n1 c1, .slice A2 n2 c2] 32))
  have hb1 := hb0.alloc hb0.size (.cells #[] 76)
  have hBx1 := hBx.on ((Below.refl _ _).alloc (Nat.le_refl _) (.cells #[] 76))
  rw [hsz] at hOn
  obtain ⟨W, hW⟩ : ∃ W, (w.alloc (.cells #[.slice A1 n1 c1, .slice A2 n2 c2] 32)).alloc (.cells #[] 76) = W := ⟨_, rfl⟩
  have hWz : W.heap.size = w.heap.size + 2 := by rw [← hW]; simp
  rw [hW] at hOn hb1 hBx1
  have HB0 := Lib.hid hb1
  have HBx := Lib.hid hBx1
  have HOn := Lib.hid hOn
  have HWq := Lib.hid hW
  have HWz := Lib.hid hWz
  have hWs : w.heap.size < W.heap.size := by omega
  have HX : Hid (SysAt W W.heap.size (.agg #[.slice A1 n1 c1, .slice A2 n2 c2]) x) := Lib.hid (((show SysAt w w.heap.size _ x from ⟨A1, n1, c1, _, _, _, rfl, h1, h2⟩).below HB0.out).wide HB0.out.size)
  have HT := Lib.hid ((h2.below HB0.out).wide HB0.out.size)
  have HL2 := Lib.hid hl2
  have HT0 := Lib.hid h2
  obtain ⟨i0, hi, hz0, hz1, hz2⟩ := info_parts tri_info
  have HI := Lib.hid (And.intro hi (And.intro hz0 (And.intro hz1 hz2)))
  obtain ⟨x0, x1⟩ := box2 HBx.out
  have HGs := Lib.hid ((hg.below HB0.out).wide HB0.out.size)
  have CG := good_any _ x W HX.out hs
  rw [hl1] at CG
  rw [hl1]
  obtain ⟨ts, hts⟩ : ∃ ts, x.steps = ts := ⟨_, rfl⟩
  rw [hts] at HT HT0 CG HL2 ⊢
  obtain ⟨V, hV⟩ : ∃ V, swA n1 ts z gs = V := ⟨_, rfl⟩
  obtain ⟨Q, hQ⟩ : ∃ Q, swQ n1 ts z gs = Q := ⟨_, rfl⟩
  rw [hV, hQ]
  have HQd := Lib.hid hQ
  have HVd := Lib.hid hV
  clear hW hWz hb0 hBx hsz hb1 hBx1 hOn h1 h2 hV hQ hl1 hl2 hts hs hg hi hz0 hz1 hz2
  go_enter Try.func23, Try.ntmps23
  go_wp2_with fail
  rw [HWq.out]
  try go_wp2_with fail
  refine CG.mono ?_
  rintro e w1 ⟨rfl, hb1⟩
  clear CG x0 x1
  obtain ⟨x0, x1⟩ := box2 (HBx.out.below hb1 hWs)
  have HB1 := Lib.hid hb1
  clear hb1
  cases hq1 : goodB n1 ts with
  | false =>
    have hqf : swQ n1 ts z gs = false := by
      unfold swQ
      rw [hq1]
      rfl
    have HF := Lib.hid (And.intro (HQd.out.symm.trans hqf) (HVd.out.symm.trans (sw_no hqf)))
    have HBr := Lib.hid (HB0.out.trans (HB1.out.mono HB0.out.size))
    have HOr := Lib.hid ((ResT.of_own (ownT_on HOn.out HB1.out)).wide (lo' := w.heap.size) (Nat.le_succ _) (Nat.le_refl _))
    clear hq1 hqf
    go_wp2_with fail
    refine bodyPost_ret (results_tmp2 rfl _ _ _) rfl ?_
    exact ⟨_, by rw [HF.out.1]; rfl, by rw [HF.out.2]; exact HOr.out, HBr.out⟩
  | true =>
    have HQ1 := Lib.hid hq1
    clear hq1
    have hn4 := goodB_n HQ1.out
    have CT := l10State_any A1 A2 n1 c1 n2 c2 z w1 hn1
    go_wp2_with fail
    refine CT.mono ?_
    rintro e w2 ⟨rfl, hb2⟩
    have HB2 := Lib.hid (HB1.out.trans (hb2.mono HB1.out.size))
    clear CT x0 x1 hb2
    obtain ⟨x0, x1⟩ := box2 (HBx.out.below HB2.out hWs)
    cases hq2 : inb z 0 ((n1 : Int) - 1) with
    | false =>
      have hqf : swQ n1 ts z gs = false := by
        unfold swQ
        rw [HQ1.out, hq2]
        rfl
      have HF := Lib.hid (And.intro (HQd.out.symm.trans hqf) (HVd.out.symm.trans (sw_no hqf)))
      have HBr := Lib.hid (HB0.out.trans (HB2.out.mono HB0.out.size))
      have HOr := Lib.hid ((ResT.of_own (ownT_on HOn.out HB2.out)).wide (lo' := w.heap.size) (Nat.le_succ _) (Nat.le_refl _))
      clear hq2 hqf
      go_wp2_with fail
      refine bodyPost_ret (results_tmp2 rfl _ _ _) rfl ?_
      exact ⟨_, by rw [HF.out.1]; rfl, by rw [HF.out.2]; exact HOr.out, HBr.out⟩
    | true =>
      have HQ2 := Lib.hid hq2
      clear hq2
      have CS := goals_any A1 A2 n1 c1 n2 c2 B m d gs w2 ((HGs.out.below HB2.out).wide HB2.out.size) hn1 hm
      go_wp2_with fail
      refine CS.mono ?_
      rintro e w3 ⟨rfl, hb3⟩
      have HB3 := Lib.hid (HB2.out.trans (hb3.mono HB2.out.size))
      clear CS x0 x1 hb3
      obtain ⟨x0, x1⟩ := box2 (HBx.out.below HB3.out hWs)
      cases hq3 : golB n1 gs with
      | false =>
        have hqf : swQ n1 ts z gs = false := by
          unfold swQ
          rw [HQ1.out, HQ2.out, hq3]
          rfl
        have HF := Lib.hid (And.intro (HQd.out.symm.trans hqf) (HVd.out.symm.trans (sw_no hqf)))
        have HBr := Lib.hid (HB0.out.trans (HB3.out.mono HB0.out.size))
        have HOr := Lib.hid ((ResT.of_own (ownT_on HOn.out HB3.out)).wide (lo' := w.heap.size) (Nat.le_succ _) (Nat.le_refl _))
        clear hq3 hqf
        go_wp2_with fail
        refine bodyPost_ret (results_tmp2 rfl _ _ _) rfl ?_
        exact ⟨_, by rw [HF.out.1]; rfl, by rw [HF.out.2]; exact HOr.out, HBr.out⟩
      | true =>
        have HQ3 := Lib.hid hq3
        clear hq3
        have HTo := Lib.hid (good_ends HQ1.out)
        have CR := lfar_any A1 A2 n1 c1 n2 c2 ts B m d gs w3 ((HT.out.below HB3.out).wide HB3.out.size) ((HGs.out.below HB3.out).wide HB3.out.size) (by omega) hn2 hm HTo.out
        go_wp2_with fail
        refine CR.mono ?_
        rintro e w4 ⟨v4, rfl, ho4, hb4⟩
        have HB4 := Lib.hid (HB3.out.trans (hb4.mono HB3.out.size))
        have HOn4 := Lib.hid (ownT_on HOn.out HB4.out)
        have HWf := Lib.hid (fal_wit (gs := gs) HTo.out)
        obtain ⟨δ, hδ⟩ : ∃ δ, faL n1 ts gs = δ := ⟨_, rfl⟩
        rw [hδ] at ho4 HWf
        have HDd := Lib.hid hδ
        obtain ⟨g3, cp, rfl, hg3, hg3l, hat3⟩ := own_ints ho4 HWf.out.1.len
        have HO4 := Lib.hid (ho4.mono HB3.out.size)
        clear CR x0 x1 ho4 hb4 hδ
        obtain ⟨hza, hzb⟩ := in_to HQ2.out
        obtain ⟨q, rfl⟩ : ∃ q : Nat, z = (q : Int) := ⟨z.toNat, by omega⟩
        have hqn : q < n1 := by omega
        obtain ⟨_, _, D, eA, _, hDx, f0⟩ := IntsAt.get hat3 hqn
        injection eA with eA
        injection eA with eg eo
        subst eg eo
        have HDx := Lib.hid hDx
        have HlowD := Lib.hid (HWf.out.1.low q D hDx)
        have hDu := HWf.out.2.2 q D hDx
        have hDl := HlowD.out
        have hgD : (faL n1 ts gs).getD (q : Int).toNat 0 = D := by
          rw [HDd.out, List.getD_eq_getElem?_getD, Int.toNat_natCast, HDx.out]
          rfl
        have HGD := Lib.hid hgD
        rw [Nat.zero_add] at f0
        clear hDx hat3 hgD
        by_cases hD0 : D < 0
        · have hqf : swQ n1 ts (q : Int) gs = false := by
            unfold swQ
            rw [HQ1.out, HQ2.out, HQ3.out, HGD.out]
            simp; omega
          have HF := Lib.hid (And.intro (HQd.out.symm.trans hqf) (HVd.out.symm.trans (sw_no hqf)))
          have HBr := Lib.hid (HB0.out.trans (HB4.out.mono HB0.out.size))
          have HOr := Lib.hid ((ResT.of_own HOn4.out).wide (lo' := w.heap.size) (Nat.le_succ _) (Nat.le_refl _))
          clear hqf
          go_wp2_with fail
          refine bodyPost_ret (results_tmp2 rfl _ _ _) rfl ?_
          exact ⟨_, by rw [HF.out.1]; rfl, by rw [HF.out.2]; exact HOr.out, HBr.out⟩
        · obtain ⟨r0, rfl⟩ : ∃ r0 : Nat, D = (r0 : Int) := ⟨D.toNat, by omega⟩
          have hqt : swQ n1 ts (q : Int) gs = true := by
            unfold swQ
            rw [HQ1.out, HQ2.out, HQ3.out, HGD.out]
            simp
          have hVw := HVd.out.symm.trans (sw_yes hqt)
          rw [HGD.out, HDd.out, Int.toNat_natCast] at hVw
          have HTq := Lib.hid (And.intro (HQd.out.symm.trans hqt) hVw)
          clear hqt hVw hD0
          go_wp2_with fail
          clear f0
          rename World => wdead
          go_loopw [1, 8, 10, 11] (fun i v _ _ wr => ∃ (u r : Nat) (P : List Tri), i = .int .i64 u ∧ u < n1 ∧ δ[u]? = some (r : Int) ∧ r ≤ r0 ∧ P.length + r = r0 ∧ P ++ wayF ts δ r (u : Int) = V ∧ OwnT wr (w.heap.size + 1) v P ∧ Owns wr W.heap.size 3 (.slice (some ⟨g3, 0, none⟩) n1 cp) (δ.map (Value.int .i64)) ∧ Below (w.heap.size + 1) W wr) (fun i _ _ _ _ => (δ.getD (intOf i).toNat 0).toNat)
          case atStart => exact ⟨q, r0, [], rfl, hqn, HDx.out, Nat.le_refl _, by simp, by rw [List.nil_append, HTq.out.2], HOn4.out, HO4.out, HB4.out.mono (by have := HWz.out; omega)⟩
          case round =>
            obtain ⟨u, r, P, rfl, hun, hux, hrr, hPl, hPw, hown, hown3, hbel⟩ := hrel
            have HO := Lib.hid hown
            have HO3 := Lib.hid hown3
            have HBel := Lib.hid hbel
            have hszW := HWz.out
            have hbz : W.heap.size ≤ wr.heap.size := hbel.size
            have HBw := Lib.hid (HB0.out.trans (hbel.mono (Nat.le_succ _)))
            obtain ⟨x0, x1⟩ := box2 (HBx.out.below hbel (Nat.lt_succ_self _))
            obtain ⟨_, _, eA, hgW, hgl, hat3⟩ := own_ints hown3 HWf.out.1.len
            injection eA with eA eB eC
            injection eA with eA
            injection eA with eA _
            subst eA
            subst eC
            have HAt3 := Lib.hid hat3
            obtain ⟨_, _, D, eA, _, hDx, f0⟩ := IntsAt.get hat3 hun
            injection eA with eA
            injection eA with eg eo
            subst eg eo
            rw [hux] at hDx
            injection hDx with hDx
            subst hDx
            rw [Nat.zero_add] at f0
            have HUx := Lib.hid hux
            have HPw := Lib.hid hPw
            clear hown hown3 hbel hat3 hux hPw
            by_cases hr : r = 0
            · subst hr
              have hPV := HPw.out
              unfold wayF at hPV
              rw [List.append_nil] at hPV
              have HPV := Lib.hid hPV
              have HRs := Lib.hid ((ResT.of_own HO.out).wide (lo' := w.heap.size) (Nat.le_succ _) (Nat.le_refl _))
              clear hPV
              go_wp2_with fail
              refine bodyPost_ret (results_tmp2 rfl _ _ _) rfl ?_
              exact ⟨_, by rw [HTq.out.1]; rfl, by rw [← HPV.out]; exact HRs.out, HBw.out⟩
            · obtain ⟨r', rfl⟩ : ∃ r', r = r' + 1 := ⟨r - 1, by omega⟩
              have hux2 : δ[((u : Nat) : Int).toNat]? = some ((r' : Int) + 1) := by rw [Int.toNat_natCast, HUx.out]; rfl
              obtain ⟨k0, s, hk0, hs, hno⟩ := way_next HTo.out HWf.out.1 HWf.out.2.1 (z := (u : Int)) ⟨by omega, by omega⟩ hux2
              have hws := way_step hk0 hs hno
              have HWs := Lib.hid hws
              have HK0 := Lib.hid hk0
              have HS := Lib.hid hs
              have HNo := Lib.hid hno
              have hsm := HTo.out s (out_mem' (List.mem_of_getElem? hk0)).1
              have hkl : k0 < (outOf ts (u : Int)).length := (List.getElem?_eq_some_iff.1 hk0).1
              have hol := out_len ts (u : Int)
              have hlen2 := HL2.out
              have CF := lfrom_own A1 A2 n1 c1 n2 c2 ts (u : Int) wr ((HT0.out.below HBw.out).wide HBw.out.size) hn2
              clear hux2 hws hk0 hs hno
              go_wp2_with fail
              refine CF.mono ?_
              rintro e w5 ⟨g5, c5, rfl, hat5, hg5, hb5⟩
              have HAt5 := Lib.hid hat5
              have HB5 := Lib.hid hb5
              have HO5 := Lib.hid (ownT_on HO.out hb5)
              have HO35 := Lib.hid (own_keep HO3.out hb5)
              have HAt35 := Lib.hid ((HAt3.out.below hb5).wide hb5.size)
              have f5 := (hb5.cell (p := ⟨g3, u, none⟩) hgl).trans f0
              have hz5 := hb5.size
              clear CF x0 x1 f0 hat5 hb5
              obtain ⟨x0, x1⟩ := box2 (HBx.out.below (HBel.out.trans (HB5.out.mono (by omega))) (Nat.lt_succ_self _))
              obtain ⟨O, hO⟩ : ∃ O, outOf ts (u : Int) = O := ⟨_, rfl⟩
              have HOd := Lib.hid hO
              rw [hO] at HAt5 HK0 HNo hkl hol ⊢
              have hsub : IntKind.i64.wrap (((r' + 1 : Nat) : Int) - 1) = (r' : Int) := by rw [IntWalk.i64_in _ (by omega)]; omega
              go_wp2_with fail
              go_loopw [11] (fun i wr => ∃ kk : Nat, kk ≤ k0 ∧ i = .int .i64 kk ∧ Dr w5 wr) (fun i _ => k0 - (intOf i).toNat)
              case atStart => exact ⟨0, Nat.zero_le _, rfl, Dr.refl _⟩
              case round =>
                obtain ⟨kk, hkk, rfl, hd⟩ := hrel
                have hkl2 : kk < O.length := by omega
                obtain ⟨_, off, t, eA, hb5l, hx, e0, e1, e2⟩ := HAt5.out.get hkl2
                injection eA with eA
                injection eA with eg eo
                subst eg eo
                have htm := HTo.out t (out_mem' (z := (u : Int)) (by rw [HOd.out]; exact List.mem_of_getElem? hx)).1
                obtain ⟨q2, _, _, hq2, hq2n, eA, hb3l, c3⟩ := rank_cell HAt35.out htm.2
                injection eA with eA
                injection eA with eg eo
                subst eg eo
                rw [Nat.zero_add] at e0 e1 e2 c3
                rw [hq2] at e2
                have d2 := (hd.cell _).trans e2
                have d3 := (hd.cell _).trans c3
                have d5 := (hd.cell _).trans f5
                have HX := Lib.hid hx
                have HDr := Lib.hid hd
                have HE := Lib.hid (And.intro e0 (And.intro e1 e2))
                clear e0 e1 e2 c3 hd x0 x1 hx
                by_cases hlt : kk < k0
                · have hne := HNo.out kk t hlt HX.out
                  obtain ⟨a, ha⟩ : ∃ a, at' δ t = a := ⟨_, rfl⟩
                  rw [ha] at hne d3
                  clear ha
                  go_wp2_with fail
                  go_quiet (fail)
                  go_wp2_with fail
                  go_roundw
                  case rel => exact ⟨kk + 1, by omega, by go_num, by first | exact HDr.out.more _ | exact HDr.out⟩
                  case measure => simp [intOf]; omega
                · obtain rfl : kk = k0 := by omega
                  obtain rfl : s = t := by have := HK0.out; rw [HX.out] at this; injection this with this; exact this.symm
                  rw [HS.out] at d3
                  have hsw := HDr.out.size
                  have p2 := Over.get d2 (by rw [hsw]; exact hb5l)
                  have p3 := Over.get d3 (by rw [hsw]; exact hb3l)
                  have p5 := Over.get d5 (by rw [hsw]; exact hb3l)
                  clear d2 d3 d5
                  go_wp2_with fail
                  refine wp_region_over (by kernel_rfl) (by kernel_rfl) ?_
                  repeat (go_big_quiet_step (fail))
                  refine wpQuiet_nil ?_
                  rintro _ ⟨y, rfl⟩
                  have hy := y.below
                  obtain ⟨w9, hw9⟩ : ∃ w9, y.w = w9 := ⟨_, rfl⟩
                  rw [hw9] at hy ⊢
                  rw [hsw] at hy
                  have hb59 := (HDr.out.below w5.heap.size).trans hy
                  have HB59 := Lib.hid hb59
                  have e0 := (hb59.cell (p := ⟨g5, kk * 3, none⟩) hb5l).trans HE.out.1
                  have e1 := (hb59.cell (p := ⟨g5, kk * 3 + 1, none⟩) hb5l).trans HE.out.2.1
                  have e2 := (hb59.cell (p := ⟨g5, kk * 3 + 2, none⟩) hb5l).trans HE.out.2.2
                  have HE9 := Lib.hid (And.intro e0 (And.intro e1 e2))
                  have ho9 := ownT_on HO5.out hb59
                  have HO9 := Lib.hid ho9
                  have HO39 := Lib.hid (own_keep HO35.out hb59)
                  have hz9 := hb59.size
                  clear hw9 hy p2 p3 p5 hb59
                  obtain ⟨hown, hnn⟩ := ho9
                  have HN := Lib.hid hnn
                  have hltO := hown.lt
                  obtain ⟨np, hnp⟩ : ∃ np, P.length = np := ⟨_, rfl⟩
                  rw [hnp] at hown hPl
                  have HNp := Lib.hid hnp
                  obtain ⟨Dc, hDc⟩ : ∃ Dc, tcs P = Dc := ⟨_, rfl⟩
                  rw [hDc] at hown
                  have HDc := Lib.hid hDc
                  have hnl : np ≤ 40 := by omega
                  clear hnn hnp hDc
                  go_wp2_with (at_builtin; refine wpList_append_own _ rfl _ _ 23 rfl (w.heap.size + 1) 76 i0 (.agg #[.int .i64 0, .int .i64 0, .int .i64 0]) 3 24 Try.underlying23 HI.out.1 HI.out.2.1 HI.out.2.2.1 HI.out.2.2.2 rfl (by decide) _ _ _ rfl (hown.alloc _) ⟨w9.heap.size, 0, none⟩ 1 1 [.int .i64 s.1, .int .i64 s.2.1, .int .i64 (q2 : Int)] rfl rfl (cell_three_new _ _ _ _ _) (fun x hx => by simp at hx; rcases hx with rfl | rfl | rfl <;> rfl) (by unfold maxLen; omega) (by omega) (by simp; omega) ?_; intro v1 w10 hown1 hgrow1 hnil1; have hal := (Below.refl w9.heap.size w9).alloc (Nat.le_refl _) (.cells #[.int .i64 s.1, .int .i64 s.2.1, .int .i64 (q2 : Int)] 76); have e10 := grow_cell HO.out hg5 (Nat.lt_of_lt_of_le hb5l (Nat.le_trans hz9 hal.size)) hgrow1 ((hal.cell (p := ⟨g5, kk * 3 + 2, none⟩) (Nat.lt_of_lt_of_le hb5l hz9)).trans HE9.out.2.2))
                  have hO10 : OwnT w10 (w.heap.size + 1) v1 (P ++ [s]) := ⟨by
                    have := hown1
                    rw [tcs_snoc, HDc.out, List.length_append, List.length_singleton, HNp.out, hq2]
                    exact this, fun h => HN.out (hnil1.1 h).1⟩
                  have hO310 : Owns w10 W.heap.size 3 (.slice (some ⟨g3, 0, none⟩) n1 cp) (δ.map (Value.int .i64)) := ints_stay (own_keep HO39.out hal) (ownT_on HO9.out hal) hgrow1
                  have hB9 : Below (w.heap.size + 1) W w9 := HBel.out.trans ((HB5.out.mono (by omega)).trans (HB59.out.mono (by omega)))
                  have hB10 : Below (w.heap.size + 1) W w10 := (hB9.alloc (by omega) (.cells #[.int .i64 s.1, .int .i64 s.2.1, .int .i64 (q2 : Int)] 76)).grown hgrow1 (by simp; omega) (fun j hj => (hltO j hj).1)
                  have hcat : (P ++ [s]) ++ wayF ts δ r' (q2 : Int) = V := by
                    rw [List.append_assoc, ← HPw.out, HWs.out, hq2]
                    rfl
                  have hx2 : δ[q2]? = some (r' : Int) := by
                    have hg := at_get (ρ := δ) (s := s) (by rw [HWf.out.1.len]; exact hsm.2)
                    rw [hq2, Int.toNat_natCast, HS.out] at hg
                    exact hg
                  have HU2 := Lib.hid hx2
                  have HF10 := Lib.hid (And.intro hO10 (And.intro hO310 (And.intro hB10 hcat)))
                  have hmu : (δ.getD u 0).toNat = r' + 1 := by rw [List.getD_eq_getElem?_getD, HUx.out]; simp
                  have hmq : (δ.getD q2 0).toNat = r' := by rw [List.getD_eq_getElem?_getD, hx2]; simp
                  have HMs := Lib.hid (And.intro hmu hmq)
                  clear hown1 hgrow1 hnil1 hal hO10 hO310 hB9 hB10 hcat hx2 hmu hmq hown hltO e10
                  go_wp2_with fail
                  go_roundw
                  case rel => exact ⟨q2, r', P ++ [s], rfl, hq2n, HU2.out, by omega, by have := HNp.out; simp; omega, HF10.out.2.2.2, HF10.out.1, HF10.out.2.1, HF10.out.2.2.1⟩
                  case measure =>
                    have := HMs.out
                    simp only [intOf, Int.toNat_natCast]
                    omega
end Go.Proofs.Ytlpgldejmdiceaa.fsw
