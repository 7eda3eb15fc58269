/- ShortestWay of impl. -/
import Derived.Test.YtlpgldejmdiceaaFsp
import Derived.Test.YtlpgldejmdiceaaSym
namespace Go.Proofs.Ytlpgldejmdiceaa.fsv
open kit bg sg opn strs only hb sig isig un over gn nm inn ht gd im pt marks eqs hc hi hw hn rs br bm bw cf lf ib isa lawb lw cl bgs cz has syx sya rea rkx fax fay syh syi syc syg syb syk syl sym syt syr rcs rci rcf rks rki syz rep rkf fai rtt loi fsp 
open Go.RowKit
set_option linter.unusedVariables false
set_option linter.unusedSimpArgs false

set_option maxRecDepth 20000 in
set_option maxHeartbeats 3200000 in
theorem sw1_any (β γ g3 n1 cp u r' : Nat) (δ : List Int) (s : Tri) (w : World) (hβ : w.cell? ⟨β, 0, none⟩ = some (.slice (some ⟨g3, 0, none⟩) n1 cp)) (hβl : β < w.heap.size) (hγ : w.cell? ⟨γ, 0, none⟩ = some (.int .i64 (u : Int))) (hγl : γ < w.heap.size) (h : IntsAt w w.heap.size (some ⟨g3, 0, none⟩) n1 δ) (hu : δ[u]? = some ((r' : Int) + 1)) (hr : r' ≤ 1048576) (hs : 0 ≤ s.2.2 ∧ s.2.2 < (n1 : Int)) :
    Calls Try.prog 73 #[triV s, .pointer (some ⟨β, 0, none⟩), .pointer (some ⟨γ, 0, none⟩)] w (Post (decide (at' δ s = r')) w) := by
  obtain ⟨q2, _, _, hq2, hq2n, eA, hg3, c3⟩ := rank_cell h hs
  injection eA with eA
  injection eA with eg eo
  subst eg eo
  have hun : u < n1 := by rw [← h.len]; exact (List.getElem?_eq_some_iff.1 hu).1
  obtain ⟨_, _, D, eA, _, hDx, cu⟩ := IntsAt.get h hun
  injection eA with eA
  injection eA with eg eo
  subst eg eo
  rw [hu] at hDx
  injection hDx with hDx
  subst hDx
  rw [Nat.zero_add] at c3 cu
  unfold triV
  rw [hq2]
  obtain ⟨a, ha⟩ : ∃ a, at' δ s = a := ⟨_, rfl⟩
  rw [ha] at c3 ⊢
  have hb0 := (Below.refl w.heap.size w).alloc (Nat.le_refl _) (.cells #[.int .i64 s.1, .int .i64 s.2.1, .int .i64 (q2 : Int)] 76)
  obtain ⟨y0, y1, y2⟩ := box3 (BoxN.new w #[.int .i64 s.1, .int .i64 s.2.1, .int .i64 (q2 : Int)] 76)
  have z0 := (hb0.cell (p := ⟨β, 0, none⟩) hβl).trans hβ
  have z1 := (hb0.cell (p := ⟨γ, 0, none⟩) hγl).trans hγ
  have z2 := (hb0.cell (p := ⟨g3, q2, none⟩) hg3).trans c3
  have z3 := (hb0.cell (p := ⟨g3, u, none⟩) hg3).trans cu
  have hwr : IntKind.i64.wrap ((r' : Int) + 1 - 1) = (r' : Int) := by rw [IntWalk.i64_in _ (by omega)]; omega
  obtain ⟨W, hW⟩ : ∃ W, w.alloc (.cells #[.int .i64 s.1, .int .i64 s.2.1, .int .i64 (q2 : Int)] 76) = W := ⟨_, rfl⟩
  rw [hW] at hb0
  have HWq := Lib.hid hW
  have HB0 := Lib.hid hb0
  clear hb0 hW hβ hγ c3 cu h
  by_cases he : a = (r' : Int)
  · have hd : decide (a = (r' : Int)) = true := decide_eq_true he
    have HD := Lib.hid hd
    rw [hd]
    clear hd
    go_enter Try.func73, Try.ntmps73
    go_wp2_with fail
    go_quiet (fail)
    go_wp2_with fail
    go_ret
    exact ⟨by simp [he], by first | exact HB0.out | (rw [HWq.out]; exact HB0.out) | (rw [HWq.out]; exact HB0.out.drew) | (rw [HWq.out]; exact below_drewN HB0.out _)⟩
  · have hd : decide (a = (r' : Int)) = false := decide_eq_false he
    rw [hd]
    clear hd
    go_enter Try.func73, Try.ntmps73
    go_wp2_with fail
    go_quiet (fail)
    go_wp2_with fail
    go_ret
    exact ⟨by simp [he], by first | exact HB0.out | (rw [HWq.out]; exact HB0.out) | (rw [HWq.out]; exact HB0.out.drew) | (rw [HWq.out]; exact below_drewN HB0.out _)⟩
set_option maxRecDepth 20000 in
set_option maxHeartbeats 12800000 in
theorem iSw_any (v : Value) (x : Sysm) (z : Int) (B : Option Addr) (m d : Nat) (gs : List Int) (w : World) (hv : SysAt w w.heap.size v x) (hs : sysWt x ≤ 1048576) (hg : IntsAt w w.heap.size B m gs) (hm : m ≤ 1048576) (hcap : CapS v) :
    Calls Try.prog 25 #[v, .int .i64 z, .slice B m d] w (TriPost (swQ x.states.length x.steps z gs) (swA x.states.length x.steps z gs) w) := by
  obtain ⟨A1, n1, c1, A2, n2, c2, rfl, h1, h2⟩ := hv
  obtain ⟨A1', n1', c1', g2, n2', ecap⟩ := hcap
  simp only [Value.agg.injEq, Array.mk.injEq, List.cons.injEq, Value.slice.injEq, and_true] at ecap
  obtain ⟨⟨e1, e2, e3⟩, e4, e5, e6⟩ := ecap
  subst e1 e2 e3 e4 e6
  subst e5
  have hl1 := h1.1
  have hl2 := h2.1
  have hn1 : n1 ≤ 1048576 := by unfold sysWt bgsWt at hs; omega
  have hn2 : n2 ≤ 1048576 := by unfold sysWt bgsWt at hs; omega
  have hb0 := ((Below.refl w.heap.size w).alloc (Nat.le_refl _) (.cells #[.slice A1 n1 c1, .slice (some ⟨g2, 0, none⟩) n2 n2] 32)).alloc (by simp) (.cells #[.int .i64 z] 3)
  have hBx := (BoxN.new w #[.slice A1 n1 c1, .slice (some ⟨g2, 0, none⟩) n2 n2] 32).below ((Below.refl _ _).alloc (Nat.le_refl _) (.cells #[.int .i64 z] 3)) (by simp)
  have hBf := BoxN.new (w.alloc (.cells #[.slice A1 n1 c1, .slice (some ⟨g2, 0, none⟩) n2 n2] 32)) #[.int .i64 z] 3
  rw [World.size_alloc] at hBf
  obtain ⟨W, hW⟩ : ∃ W, (w.alloc (.cells #[.slice A1 n1 c1, .slice (some ⟨g2, 0, none⟩) n2 n2] 32)).alloc (.cells #[.int .i64 z] 3) = W := ⟨_, rfl⟩
  have hWz : W.heap.size = w.heap.size + 2 := by rw [← hW]; simp
  rw [hW] at hBx hb0 hBf
  have HB0 := Lib.hid hb0
  have HBx := Lib.hid hBx
  have HBf := Lib.hid hBf
  have HWq := Lib.hid hW
  have HWz := Lib.hid hWz
  have hWs : w.heap.size < W.heap.size := by omega
  have hWf : w.heap.size + 1 < W.heap.size := by omega
  have HX : Hid (SysAt W W.heap.size (.agg #[.slice A1 n1 c1, .slice (some ⟨g2, 0, none⟩) n2 n2]) x) := Lib.hid (((show SysAt w w.heap.size _ x from ⟨A1, n1, c1, _, _, _, rfl, h1, h2⟩).below hb0).wide hb0.size)
  have HT := Lib.hid ((h2.below hb0).wide hb0.size)
  have HT0 := Lib.hid h2
  have HL2 := Lib.hid hl2
  obtain ⟨i0, hi, hz0, hz1, hz2⟩ := info_parts tri_info
  have HI := Lib.hid (And.intro hi (And.intro hz0 (And.intro hz1 hz2)))
  obtain ⟨x0, x1⟩ := box2 hBx
  have z0 := hBf.cell (i := 0) rfl
  have HGs := Lib.hid ((hg.below hb0).wide hb0.size)
  have CG := isSys_any _ x W HX.out hs
  rw [hl1] at CG
  rw [hl1]
  obtain ⟨ts, hts⟩ : ∃ ts, x.steps = ts := ⟨_, rfl⟩
  rw [hts] at HT HT0 CG HL2 ⊢
  obtain ⟨V, hV⟩ : ∃ V, swA n1 ts z gs = V := ⟨_, rfl⟩
  obtain ⟨Q, hQ⟩ : ∃ Q, swQ n1 ts z gs = Q := ⟨_, rfl⟩
  rw [hV, hQ]
  have HQd := Lib.hid hQ
  have HVd := Lib.hid hV
  clear hW hWz hb0 hBx hBf h1 h2 hV hQ hl1 hl2 hts hs hg hi hz0 hz1 hz2
  go_enter Try.func25, Try.ntmps25
  go_wp2_with fail
  rw [HWq.out]
  try go_wp2_with fail
  refine CG.mono ?_
  rintro e w1 ⟨rfl, hb1⟩
  clear CG x0 x1 z0
  obtain ⟨x0, x1⟩ := box2 (HBx.out.below hb1 hWs)
  have z0 := (HBf.out.below hb1 hWf).cell (i := 0) rfl
  have HB1 := Lib.hid hb1
  clear hb1
  cases hq1 : goodB n1 ts with
  | false =>
    have hqf : swQ n1 ts z gs = false := by
      unfold swQ
      rw [hq1]
      rfl
    have HF := Lib.hid (And.intro (HQd.out.symm.trans hqf) (HVd.out.symm.trans (sw_no hqf)))
    have HBr := Lib.hid (HB0.out.trans (HB1.out.mono HB0.out.size))
    clear hq1 hqf
    go_wp2_with fail
    refine bodyPost_ret (results_tmp2 rfl _ _ _) rfl ?_
    exact ⟨_, by rw [HF.out.1]; rfl, by rw [HF.out.2]; exact ResT.nil, HBr.out⟩
  | true =>
    have HQ1 := Lib.hid hq1
    clear hq1
    have hn4 := goodB_n HQ1.out
    have CT := isState_any A1 (some ⟨g2, 0, none⟩) n1 c1 n2 n2 z w1 hn1
    go_wp2_with fail
    refine CT.mono ?_
    rintro e w2 ⟨rfl, hb2⟩
    have HB2 := Lib.hid (HB1.out.trans (hb2.mono HB1.out.size))
    clear CT x0 x1 z0 hb2
    obtain ⟨x0, x1⟩ := box2 (HBx.out.below HB2.out hWs)
    have z0 := (HBf.out.below HB2.out hWf).cell (i := 0) rfl
    cases hq2 : inb z 0 ((n1 : Int) - 1) with
    | false =>
      have hqf : swQ n1 ts z gs = false := by
        unfold swQ
        rw [HQ1.out, hq2]
        rfl
      have HF := Lib.hid (And.intro (HQd.out.symm.trans hqf) (HVd.out.symm.trans (sw_no hqf)))
      have HBr := Lib.hid (HB0.out.trans (HB2.out.mono HB0.out.size))
      clear hq2 hqf
      go_wp2_with fail
      refine bodyPost_ret (results_tmp2 rfl _ _ _) rfl ?_
      exact ⟨_, by rw [HF.out.1]; rfl, by rw [HF.out.2]; exact ResT.nil, HBr.out⟩
    | true =>
      have HQ2 := Lib.hid hq2
      clear hq2
      have CS := areSt_any A1 (some ⟨g2, 0, none⟩) n1 c1 n2 n2 B m d gs w2 ((HGs.out.below HB2.out).wide HB2.out.size) hn1 hm
      go_wp2_with fail
      refine CS.mono ?_
      rintro e w3 ⟨rfl, hb3⟩
      have HB3 := Lib.hid (HB2.out.trans (hb3.mono HB2.out.size))
      clear CS x0 x1 z0 hb3
      obtain ⟨x0, x1⟩ := box2 (HBx.out.below HB3.out hWs)
      have z0 := (HBf.out.below HB3.out hWf).cell (i := 0) rfl
      cases hq3 : golB n1 gs with
      | false =>
        have hqf : swQ n1 ts z gs = false := by
          unfold swQ
          rw [HQ1.out, HQ2.out, hq3]
          rfl
        have HF := Lib.hid (And.intro (HQd.out.symm.trans hqf) (HVd.out.symm.trans (sw_no hqf)))
        have HBr := Lib.hid (HB0.out.trans (HB3.out.mono HB0.out.size))
        clear hq3 hqf
        go_wp2_with fail
        refine bodyPost_ret (results_tmp2 rfl _ _ _) rfl ?_
        exact ⟨_, by rw [HF.out.1]; rfl, by rw [HF.out.2]; exact ResT.nil, HBr.out⟩
      | true =>
        have HQ3 := Lib.hid hq3
        clear hq3
        have HTo := Lib.hid (good_ends HQ1.out)
        have CR := ilen_any A1 (some ⟨g2, 0, none⟩) n1 c1 n2 n2 ts B m d gs w3 ((HT.out.below HB3.out).wide HB3.out.size) ((HGs.out.below HB3.out).wide HB3.out.size) (by omega) (by omega) hn2 hm (fun z hz => gol_mem HQ3.out hz) HTo.out
        go_wp2_with fail
        refine CR.mono ?_
        rintro e w4 ⟨v4, rfl, ho4, hb4⟩
        have HB4 := Lib.hid (HB3.out.trans (hb4.mono HB3.out.size))
        have HWf := Lib.hid (fal_wit (gs := gs) HTo.out)
        obtain ⟨δ, hδ⟩ : ∃ δ, faL n1 ts gs = δ := ⟨_, rfl⟩
        rw [hδ] at ho4 HWf
        have HDd := Lib.hid hδ
        obtain ⟨g3, cp, rfl, hg3, hg3l, hat3⟩ := own_ints ho4 HWf.out.1.len
        have hz4 : W.heap.size ≤ w4.heap.size := HB4.out.size
        have hb5 := (Below.refl w4.heap.size w4).alloc (Nat.le_refl _) (.cells #[.slice (some ⟨g3, 0, none⟩) n1 cp] 38)
        have hBl := BoxN.new w4 #[.slice (some ⟨g3, 0, none⟩) n1 cp] 38
        have hs5 : (w4.alloc (.cells #[.slice (some ⟨g3, 0, none⟩) n1 cp] 38)).heap.size = w4.heap.size + 1 := by simp
        obtain ⟨w5, hw5⟩ : ∃ w5, w4.alloc (.cells #[.slice (some ⟨g3, 0, none⟩) n1 cp] 38) = w5 := ⟨_, rfl⟩
        rw [hw5] at hb5 hBl hs5
        have HW5 := Lib.hid hw5
        have HB5 := Lib.hid (HB4.out.trans (hb5.mono hz4))
        have HBl := Lib.hid hBl
        have hg3w : W.heap.size ≤ g3 := Nat.le_trans HB3.out.size hg3
        have HO5 := Lib.hid (own_keep (ho4.mono HB3.out.size) hb5)
        have HS5 := Lib.hid hs5
        have hat5 := (hat3.below hb5).wide hb5.size
        clear CR x0 x1 z0 ho4 hb4 hδ hw5 hb5 hBl hs5 hat3
        obtain ⟨hza, hzb⟩ := in_to HQ2.out
        obtain ⟨q, rfl⟩ : ∃ q : Nat, z = (q : Int) := ⟨z.toNat, by omega⟩
        have hqn : q < n1 := by omega
        obtain ⟨_, _, D, eA, _, hDx, f0⟩ := IntsAt.get hat5 hqn
        injection eA with eA
        injection eA with eg eo
        subst eg eo
        have HDx := Lib.hid hDx
        have HlowD := Lib.hid (HWf.out.1.low q D hDx)
        have hDu := HWf.out.2.2 q D hDx
        have hDl := HlowD.out
        have hgD : (faL n1 ts gs).getD (q : Int).toNat 0 = D := by
          rw [HDd.out, List.getD_eq_getElem?_getD, Int.toNat_natCast, HDx.out]
          rfl
        have HGD := Lib.hid hgD
        rw [Nat.zero_add] at f0
        have HF0 := Lib.hid f0
        clear hDx hat5 hgD
        obtain ⟨x0, x1⟩ := box2 (HBx.out.below HB5.out hWs)
        have z0 := (HBf.out.below HB5.out hWf).cell (i := 0) rfl
        have y0 := HBl.out.cell (i := 0) rfl
        rw [← HW5.out] at x0 x1 z0 y0 f0
        by_cases hD0 : D < 0
        · have hqf : swQ n1 ts (q : Int) gs = false := by
            unfold swQ
            rw [HQ1.out, HQ2.out, HQ3.out, HGD.out]
            simp; omega
          have HF := Lib.hid (And.intro (HQd.out.symm.trans hqf) (HVd.out.symm.trans (sw_no hqf)))
          have HBr := Lib.hid (HB0.out.trans (HB5.out.mono HB0.out.size))
          clear hqf
          go_wp2_with fail
          refine bodyPost_ret (results_tmp2 rfl _ _ _) rfl ?_
          exact ⟨_, by rw [HF.out.1]; rfl, by rw [HF.out.2]; exact ResT.nil, by rw [HW5.out]; exact HBr.out⟩
        · obtain ⟨r0, rfl⟩ : ∃ r0 : Nat, D = (r0 : Int) := ⟨D.toNat, by omega⟩
          have hqt : swQ n1 ts (q : Int) gs = true := by
            unfold swQ
            rw [HQ1.out, HQ2.out, HQ3.out, HGD.out]
            simp
          have hVw := HVd.out.symm.trans (sw_yes hqt)
          rw [HGD.out, HDd.out, Int.toNat_natCast] at hVw
          have HTq := Lib.hid (And.intro (HQd.out.symm.trans hqt) hVw)
          have hOn := OwnT.new w5
          have hb6 := (Below.refl w5.heap.size w5).alloc (Nat.le_refl _) (.cells #[] 76)
          obtain ⟨w6, hw6⟩ : ∃ w6, w5.alloc (.cells #[] 76) = w6 := ⟨_, rfl⟩
          rw [hw6] at hOn hb6
          have HW6 := Lib.hid hw6
          have HOn := Lib.hid hOn
          have HB6 := Lib.hid (HB5.out.trans (hb6.mono (by have := HS5.out; omega)))
          have HBl6 := Lib.hid (HBl.out.below hb6 (by have := HS5.out; omega))
          have HO6 := Lib.hid (own_keep HO5.out hb6)
          have y6 := HBl6.out.cell (i := 0) rfl
          have f6 := (hb6.cell (p := ⟨g3, q, none⟩) (by have := HS5.out; omega)).trans HF0.out
          obtain ⟨x6, x7⟩ := box2 (HBx.out.below HB6.out hWs)
          have z6 := (HBf.out.below HB6.out hWf).cell (i := 0) rfl
          clear hqt hVw hD0 hOn hb6 hw6
          have h5z := HS5.out
          rw [← HW6.out, ← HW5.out] at x6 x7 z6 y6 f6
          go_wp2_with fail
          rw [HW5.out, HW6.out]
          clear x0 x1 z0 y0 f0 x6 x7 z6 y6 f6
          go_loopw [9, 10, 11, 40] (fun v _ _ i wr => ∃ (k u r : Nat) (P : List Tri), i = .int .i64 k ∧ k + r = r0 ∧ u < n1 ∧ δ[u]? = some (r : Int) ∧ P.length = k ∧ P ++ wayF ts δ r (u : Int) = V ∧ OwnT wr (w4.heap.size + 1) v P ∧ Owns wr W.heap.size 3 (.slice (some ⟨g3, 0, none⟩) n1 cp) (δ.map (Value.int .i64)) ∧ BoxN wr w.heap.size 32 [.slice A1 n1 c1, .slice (some ⟨g2, 0, none⟩) n2 n2] ∧ BoxN wr (w.heap.size + 1) 3 [.int .i64 (u : Int)] ∧ BoxN wr w4.heap.size 38 [.slice (some ⟨g3, 0, none⟩) n1 cp] ∧ Below w.heap.size w wr) (fun _ _ _ i _ => r0 - (intOf i).toNat)
          case atStart => exact ⟨0, q, r0, [], rfl, by omega, hqn, HDx.out, rfl, by rw [List.nil_append, HTq.out.2], by have := HOn.out; rw [h5z] at this; exact this, HO6.out, HBx.out.below HB6.out hWs, HBf.out.below HB6.out hWf, HBl6.out, HB0.out.trans (HB6.out.mono HB0.out.size)⟩
          case round =>
            obtain ⟨k, u, r, P, rfl, hkr, hun, hux, hPl, hPw, hown, hown3, hbx, hbf, hbl, hbel⟩ := hrel
            have HO := Lib.hid hown
            have HO3 := Lib.hid hown3
            have HBel := Lib.hid hbel
            have HX1 := Lib.hid hbx
            have HF1 := Lib.hid hbf
            have HL1 := Lib.hid hbl
            obtain ⟨x0, x1⟩ := box2 hbx
            have z0 := hbf.cell (i := 0) rfl
            have HUx := Lib.hid hux
            have HPw := Lib.hid hPw
            have hszW := HWz.out
            clear hown hown3 hbx hbf hbl hbel hux hPw
            by_cases hr : r = 0
            · subst hr
              obtain rfl : k = r0 := by omega
              have hPV := HPw.out
              unfold wayF at hPV
              rw [List.append_nil] at hPV
              have HPV := Lib.hid hPV
              have HRs := Lib.hid ((ResT.of_own HO.out).wide (lo' := w.heap.size) (by omega) (Nat.le_refl _))
              clear hPV
              go_wp2_with fail
              refine bodyPost_ret (results_tmp2 rfl _ _ _) rfl ?_
              exact ⟨_, by rw [HTq.out.1]; rfl, by rw [← HPV.out]; exact HRs.out, HBel.out⟩
            · obtain ⟨r', rfl⟩ : ∃ r', r = r' + 1 := ⟨r - 1, by omega⟩
              have hux2 : δ[((u : Nat) : Int).toNat]? = some ((r' : Int) + 1) := by rw [Int.toNat_natCast, HUx.out]; rfl
              obtain ⟨k0, s0, hk0, hs0, -⟩ := way_next HTo.out HWf.out.1 HWf.out.2.1 (z := (u : Int)) ⟨by omega, by omega⟩ hux2
              have HK0 := Lib.hid (And.intro hk0 hs0)
              have hux3 : δ[u]? = some ((r' : Int) + 1) := by rw [HUx.out]; rfl
              have HUx3 := Lib.hid hux3
              have hol := out_len ts (u : Int)
              have hlen2 := HL2.out
              have hkl0 : k0 < (outOf ts (u : Int)).length := (List.getElem?_eq_some_iff.1 hk0).1
              have hg2l : g2 < w.heap.size := by
                have := HT0.out.2 (by omega)
                obtain ⟨_, _, e, h, _⟩ := this
                injection e with e
                injection e with e _
                omega
              have CF := sfrom_any A1 g2 n1 c1 n2 ts (u : Int) wr ((HT0.out.below HBel.out).wide HBel.out.size) hn2 (goodB_fst HQ1.out) ⟨by omega, by omega⟩
              clear hux2 hk0 hs0 hux3
              go_wp2_with fail
              refine CF.mono ?_
              rintro e w7 ⟨off, c7, rfl, hat7, hb7⟩
              have HAt7 := Lib.hid hat7
              have HB7 := Lib.hid hb7
              have HX7 := Lib.hid (HX1.out.on hb7)
              have HF7 := Lib.hid (HF1.out.on hb7)
              have HL7 := Lib.hid (HL1.out.on hb7)
              have HO7 := Lib.hid (ownT_on HO.out hb7)
              have HO37 := Lib.hid (own_keep HO3.out hb7)
              have hz7 := hb7.size
              clear CF x0 x1 z0 hat7 hb7
              obtain ⟨x0, x1⟩ := box2 HX7.out
              have z0 := HF7.out.cell (i := 0) rfl
              have y0 := HL7.out.cell (i := 0) rfl
              obtain ⟨_, _, eA, hgW, hgl, hat3⟩ := own_ints HO37.out HWf.out.1.len
              injection eA with eA eB eC
              injection eA with eA
              injection eA with eA _
              subst eA
              subst eC
              have HAt3 := Lib.hid hat3
              obtain ⟨O, hO⟩ : ∃ O, outOf ts (u : Int) = O := ⟨_, rfl⟩
              have HOd := Lib.hid hO
              rw [hO] at HAt7 HK0 hkl0 hol ⊢
              have CI := idxT_any 73 #[.pointer (some ⟨w4.heap.size, 0, none⟩), .pointer (some ⟨w.heap.size + 1, 0, none⟩)] (fun s => decide (at' δ s = r')) (fun _ _ => by rfl) (some ⟨g2, off, none⟩) O.length c7 O w7 w7 (fun s Y hs hY => sw1_any w4.heap.size (w.heap.size + 1) g3 n1 cp u r' δ s Y ((HL7.out.on hY).cell (i := 0) rfl) (HL7.out.on hY).lt ((HF7.out.on hY).cell (i := 0) rfl) (HF7.out.on hY).lt ((HAt3.out.below hY).wide hY.size) HUx3.out (by omega) (HTo.out s (out_mem' (z := (u : Int)) (by rw [HOd.out]; exact hs)).1).2) HAt7.out (Below.refl _ _) (by omega)
              clear hat3 hO
              go_wp2_with fail
              refine CI.mono ?_
              rintro e w8 hfound
              clear CI
              rcases hfound with ⟨kk, s, rfl, hxs, hPs, hno, hb8⟩ | ⟨rfl, hno, hb8⟩
              · have hAs : at' δ s = (r' : Int) := of_decide_eq_true hPs
                have hws := way_step (ts := ts) (δ := δ) (z := (u : Int)) (k := kk) (by rw [HOd.out]; exact hxs) hAs (fun j t hj ht => of_decide_eq_false (hno j t hj (by rw [← HOd.out]; exact ht)))
                have HWs := Lib.hid hws
                have hsm := HTo.out s (out_mem' (z := (u : Int)) (by rw [HOd.out]; exact List.mem_of_getElem? hxs)).1
                have HAs := Lib.hid hAs
                have hkl : kk < O.length := (List.getElem?_eq_some_iff.1 hxs).1
                obtain ⟨_, _, t, eA, hb2l, hx, e0, e1, e2⟩ := HAt7.out.get hkl
                injection eA with eA
                injection eA with eg eo
                subst eg eo
                rw [hxs] at hx
                injection hx with hx
                subst hx
                obtain ⟨q2, hq2⟩ : ∃ q2 : Nat, s.2.2 = (q2 : Int) := ⟨s.2.2.toNat, by omega⟩
                have hq2n : q2 < n1 := by omega
                rw [hq2] at e2
                have d0 := (hb8.cell (p := ⟨g2, off + kk * 3, none⟩) hb2l).trans e0
                have d1 := (hb8.cell (p := ⟨g2, off + kk * 3 + 1, none⟩) hb2l).trans e1
                have d2 := (hb8.cell (p := ⟨g2, off + kk * 3 + 2, none⟩) hb2l).trans e2
                have HE := Lib.hid d2
                have HB8 := Lib.hid hb8
                have HX8 := Lib.hid (HX7.out.on hb8)
                have HF8 := Lib.hid (HF7.out.on hb8)
                have HL8 := Lib.hid (HL7.out.on hb8)
                have ho8 := ownT_on HO7.out hb8
                have HO8 := Lib.hid ho8
                have HO38 := Lib.hid (own_keep HO37.out hb8)
                have hz8 := hb8.size
                have HBe8 := Lib.hid (HBel.out.trans ((HB7.out.mono HBel.out.size).trans (hb8.mono (Nat.le_trans HBel.out.size hz7))))
                clear hws hAs hPs hno hb8 e0 e1 e2 x0 x1 z0 y0 hxs
                obtain ⟨x0, x1⟩ := box2 HX8.out
                have z0 := HF8.out.cell (i := 0) rfl
                obtain ⟨hown, hnn⟩ := ho8
                have HN := Lib.hid hnn
                have hltO := hown.lt
                obtain ⟨np, hnp⟩ : ∃ np, P.length = np := ⟨_, rfl⟩
                rw [hnp] at hown hPl
                have HNp := Lib.hid hnp
                obtain ⟨Dc, hDc⟩ : ∃ Dc, tcs P = Dc := ⟨_, rfl⟩
                rw [hDc] at hown
                have HDc := Lib.hid hDc
                have hnl : np ≤ 40 := by omega
                have hl8 : w4.heap.size < w8.heap.size := HL8.out.lt
                have hbw8 := HBe8.out.size
                clear hnn hnp hDc
                go_wp2_with (at_builtin; refine wpList_append_own _ rfl _ _ 23 rfl (w4.heap.size + 1) 76 i0 (.agg #[.int .i64 0, .int .i64 0, .int .i64 0]) 3 24 Try.underlying23 HI.out.1 HI.out.2.1 HI.out.2.2.1 HI.out.2.2.2 rfl (by decide) _ _ _ rfl (hown.alloc _) ⟨w8.heap.size, 0, none⟩ 1 1 [.int .i64 s.1, .int .i64 s.2.1, .int .i64 (q2 : Int)] rfl rfl (cell_three_new _ _ _ _ _) (fun x hx => by simp at hx; rcases hx with rfl | rfl | rfl <;> rfl) (by unfold maxLen; omega) (by omega) (by simp; omega) ?_; intro v1 w10 hown1 hgrow1 hnil1; have hal := (Below.refl w8.heap.size w8).alloc (Nat.le_refl _) (.cells #[.int .i64 s.1, .int .i64 s.2.1, .int .i64 (q2 : Int)] 76); have hB10 := (HBe8.out.alloc HBe8.out.size (.cells #[.int .i64 s.1, .int .i64 s.2.1, .int .i64 (q2 : Int)] 76)).grown hgrow1 (by have := HBe8.out.size; simp; omega) (fun j hj => by have := (hltO j hj).1; omega); have hB8x := ((Below.refl w.heap.size w8).alloc (by have := HBe8.out.size; omega) (.cells #[.int .i64 s.1, .int .i64 s.2.1, .int .i64 (q2 : Int)] 76)).grown hgrow1 (by have := HBe8.out.size; simp; omega) (fun j hj => by have := (hltO j hj).1; omega); have e10 := (hB8x.cell (p := ⟨g2, off + kk * 3 + 2, none⟩) hg2l).trans HE.out; have hX10 : BoxN w10 w.heap.size 32 _ := row_stay (HX8.out.on hal) (by decide) (ownT_on HO8.out hal) hgrow1; have hF10 : BoxN w10 (w.heap.size + 1) 3 _ := row_stay (HF8.out.on hal) (by decide) (ownT_on HO8.out hal) hgrow1; have hL10 : BoxN w10 w4.heap.size 38 _ := row_stay (HL8.out.on hal) (by decide) (ownT_on HO8.out hal) hgrow1; have z10 := hF10.cell (i := 0) rfl; have f10 := World.rowIs.frozen hF10 0)
                have hO10 : OwnT w10 (w4.heap.size + 1) v1 (P ++ [s]) := ⟨by
                  have := hown1
                  rw [tcs_snoc, HDc.out, List.length_append, List.length_singleton, HNp.out, hq2]
                  exact this, fun h => HN.out (hnil1.1 h).1⟩
                have hO310 : Owns w10 W.heap.size 3 (.slice (some ⟨g3, 0, none⟩) n1 cp) (δ.map (Value.int .i64)) := ints_stay (own_keep HO38.out hal) (ownT_on HO8.out hal) hgrow1
                have hcat : (P ++ [s]) ++ wayF ts δ r' (q2 : Int) = V := by
                  rw [List.append_assoc, ← HPw.out, HWs.out, hq2]
                  rfl
                have hx2 : δ[q2]? = some (r' : Int) := by
                  have hg := at_get (ρ := δ) (s := s) (by rw [HWf.out.1.len]; exact hsm.2)
                  rw [hq2, Int.toNat_natCast, HAs.out] at hg
                  exact hg
                have HU2 := Lib.hid hx2
                have HP2 : Hid ((P ++ [s]).length = k + 1) := Lib.hid (by have := HNp.out; simp; omega)
                have HG1 := Lib.hid (And.intro (ownT_set (a := ⟨w.heap.size + 1, 0, none⟩) (u := .int .i64 (q2 : Int)) hO10 (by show w.heap.size + 1 < w4.heap.size + 1; omega)) (owns_set (a := ⟨w.heap.size + 1, 0, none⟩) (u := .int .i64 (q2 : Int)) hO310 (by show w.heap.size + 1 < W.heap.size; omega)))
                have HG2 := Lib.hid (And.intro (hX10.other (γ := w.heap.size + 1) (by omega) 0 (.int .i64 (q2 : Int))) (And.intro (hF10.set 0 (.int .i64 (q2 : Int))) (hL10.other (γ := w.heap.size + 1) (by omega) 0 (.int .i64 (q2 : Int)))))
                have HG3 := Lib.hid (hB10.setCell (p := ⟨w.heap.size + 1, 0, none⟩) (by show w.heap.size ≤ w.heap.size + 1; omega) (.int .i64 (q2 : Int)))
                have HCat := Lib.hid hcat
                clear hown1 hgrow1 hnil1 hal hO10 hO310 hB10 hB8x hcat hx2 hown hltO e10 hX10 hF10 hL10 z10 f10
                go_wp2_with fail
                go_roundw
                case rel => exact ⟨k + 1, q2, r', P ++ [s], by go_num, by omega, hq2n, HU2.out, HP2.out, HCat.out, HG1.out.1, HG1.out.2, HG2.out.1, HG2.out.2.1, HG2.out.2.2, HG3.out⟩
                case measure => simp [intOf]; omega
              · exfalso
                have := hno k0 s0 hkl0 HK0.out.1
                exact absurd this (by show ¬ decide (at' δ s0 = (r' : Int)) = false; rw [HK0.out.2]; simp)
end Go.Proofs.Ytlpgldejmdiceaa.fsv
