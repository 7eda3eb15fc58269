/- IsRanking of spec and impl. -/
import Derived.Test.YtlpgldejmdiceaaSyv
import Derived.Test.YtlpgldejmdiceaaSyk
namespace Go.Proofs.Ytlpgldejmdiceaa.syz
open kit bg sg opn strs only hb sig isig un over gn nm inn ht gd im pt marks eqs hc hi hw hn rs br bm bw cf lf ib isa lawb lw cl bgs cz syx sya syh syi syc syg syb syk syl syt sym has syu syv
open Go.RowKit
set_option linter.unusedVariables false
set_option linter.unusedSimpArgs false
/-- the Steps of a System lie in a row of just their number, at its begin -/
def CapS (v : Value) : Prop := ∃ A1 n1 c1 g2 n2, v = .agg #[.slice A1 n1 c1, .slice (some ⟨g2, 0, none⟩) n2 n2]
theorem CapS.of_own {w : World} {lo : Nat} {v : Value} {x : Sysm} (h : SysOwn w lo v x) : CapS v := by
  obtain ⟨g1, g2, rfl, -⟩ := h
  exact ⟨_, _, _, _, _, rfl⟩
def rkgQ (n : Nat) (ts : List Tri) (gs : List Int) : Bool := goodB n ts && golB n gs
def rkgV (n : Nat) (ts : List Tri) (gs rs : List Int) : Bool := rkgQ n ts gs && rankB n ts gs rs
theorem rkg_no {n : Nat} {ts : List Tri} {gs rs : List Int} (h : rkgQ n ts gs = false) : rkgV n ts gs rs = false := by unfold rkgV; rw [h]; rfl
theorem rkg_yes {n : Nat} {ts : List Tri} {gs rs : List Int} (h : rkgQ n ts gs = true) : rkgV n ts gs rs = rankB n ts gs rs := by unfold rkgV; rw [h]; rfl
set_option maxRecDepth 20000 in
set_option maxHeartbeats 3200000 in
theorem sRkg_any (v : Value) (x : Sysm) (Ag : Option Addr) (ng cg : Nat) (gs : List Int) (Ar : Option Addr) (nr cr : Nat) (rs : List Int) (w : World) (hv : SysAt w w.heap.size v x) (hs : sysWt x ≤ 1048576) (hg : IntsAt w w.heap.size Ag ng gs) (hng : ng ≤ 1048576) (hr : IntsAt w w.heap.size Ar nr rs) (hnr : nr ≤ 1048576) (hwf : ∀ z ∈ rs, (Lit.int .i64 z).wf = true) :
    Calls Try.prog 40 #[v, .slice Ag ng cg, .slice Ar nr cr] w fun e w' => e = .returned (.tuple #[.bool (rkgV x.states.length x.steps gs rs), .bool (rkgQ x.states.length x.steps gs)]) ∧ Below w.heap.size w w' := by
  obtain ⟨A1, n1, c1, A2, n2, c2, rfl, h1, h2⟩ := hv
  have hl1 := h1.1
  have hl2 := h2.1
  have hn1 : n1 ≤ 1048576 := by unfold sysWt bgsWt at hs; omega
  have hn2 : n2 ≤ 1048576 := by unfold sysWt bgsWt at hs; omega
  have HB0 := Lib.hid ((Below.refl w.heap.size w).alloc (Nat.le_refl _) (.cells #[.slice A1 n1 c1, .slice A2 n2 c2] 32))
  have HBx := Lib.hid (BoxN.new w #[.slice A1 n1 c1, .slice A2 n2 c2] 32)
  obtain ⟨W, hW⟩ : ∃ W, w.alloc (.cells #[.slice A1 n1 c1, .slice A2 n2 c2] 32) = W := ⟨_, rfl⟩
  rw [hW] at HBx HB0
  have HWq := Lib.hid hW
  have hWs := HBx.out.lt
  have HX : Hid (SysAt W W.heap.size (.agg #[.slice A1 n1 c1, .slice A2 n2 c2]) x) := Lib.hid (((show SysAt w w.heap.size _ x from ⟨A1, n1, c1, A2, n2, c2, rfl, h1, h2⟩).below HB0.out).wide HB0.out.size)
  have HT := Lib.hid ((h2.below HB0.out).wide HB0.out.size)
  have HL2 := Lib.hid hl2
  have HS := Lib.hid hs
  obtain ⟨x0, x1⟩ := box2 HBx.out
  have HG := Lib.hid ((hg.below HB0.out).wide HB0.out.size)
  have HR := Lib.hid ((hr.below HB0.out).wide HB0.out.size)
  have HWf := Lib.hid hwf
  have CG := good_any _ x W HX.out hs
  have HC2 := Lib.hid (fun (Y : World) (hY : Below W.heap.size W Y) => goals_any A1 A2 n1 c1 n2 c2 Ag ng cg gs Y ((HG.out.below hY).wide hY.size) hn1 hng)
  rw [hl1] at CG
  rw [hl1]
  have HL1 := Lib.hid hl1
  obtain ⟨ts, hts⟩ : ∃ ts, x.steps = ts := ⟨_, rfl⟩
  rw [hts] at HT CG HL2 ⊢
  have HTs := Lib.hid hts
  obtain ⟨V, hV⟩ : ∃ V, rkgV n1 ts gs rs = V := ⟨_, rfl⟩
  obtain ⟨Q, hQ⟩ : ∃ Q, rkgQ n1 ts gs = Q := ⟨_, rfl⟩
  rw [hV, hQ]
  have HQd := Lib.hid hQ
  have HVd := Lib.hid hV
  clear hW h1 h2 hV hQ hl1 hl2 hts hs
  go_enter Try.func40, Try.ntmps40
  go_wp2_with fail
  rw [HWq.out]
  try go_wp2_with fail
  refine CG.mono ?_
  rintro e w1 ⟨rfl, hb1⟩
  clear CG x0 x1
  obtain ⟨x0, x1⟩ := box2 (HBx.out.below hb1 hWs)
  have HB1 := Lib.hid hb1
  clear hb1
  cases hq1 : goodB n1 ts with
  | false =>
    have hqf : rkgQ n1 ts gs = false := by
      unfold rkgQ
      rw [hq1]
      simp
    have HF := Lib.hid (And.intro (HQd.out.symm.trans hqf) (HVd.out.symm.trans (rkg_no hqf)))
    clear hq1 hqf
    go_wp2_with fail
    refine bodyPost_ret (results_tmp2 rfl _ _ _) rfl ?_
    exact ⟨by rw [HF.out.1, HF.out.2]; rfl, HB0.out.trans (HB1.out.mono HB0.out.size)⟩
  | true =>
    have HQ1 := Lib.hid hq1
    clear hq1
    go_wp2_with fail
    refine (HC2.out w1 HB1.out).mono ?_
    rintro e w2 ⟨rfl, hb⟩
    have HB2 := Lib.hid (HB1.out.trans (hb.mono HB1.out.size))
    clear x0 x1 hb
    obtain ⟨x0, x1⟩ := box2 (HBx.out.below HB2.out hWs)
    cases hq2 : golB n1 gs with
    | false =>
      have hqf : rkgQ n1 ts gs = false := by
        unfold rkgQ
        rw [hq2]
        simp
      have HF := Lib.hid (And.intro (HQd.out.symm.trans hqf) (HVd.out.symm.trans (rkg_no hqf)))
      clear hq2 hqf
      go_wp2_with fail
      refine bodyPost_ret (results_tmp2 rfl _ _ _) rfl ?_
      exact ⟨by rw [HF.out.1, HF.out.2]; rfl, HB0.out.trans (HB2.out.mono HB0.out.size)⟩
    | true =>
      have HQ2 := Lib.hid hq2
      clear hq2
      have hqt : rkgQ n1 ts gs = true := by
        unfold rkgQ
        rw [HQ1.out, HQ2.out]
        rfl
      have HT1 := Lib.hid (And.intro (HQd.out.symm.trans hqt) (HVd.out.symm.trans (rkg_yes hqt)))
      clear hqt
      have CW := lrank_any A1 A2 n1 c1 n2 c2 ts Ag ng cg gs Ar nr cr rs w2 ((HT.out.below HB2.out).wide HB2.out.size) ((HG.out.below HB2.out).wide HB2.out.size) ((HR.out.below HB2.out).wide HB2.out.size) hn1 hn2 hng hnr (fun s hs => ⟨(goodB_mem HQ1.out hs).2.2.2.2.1, (goodB_mem HQ1.out hs).2.2.2.2.2⟩) HWf.out
      obtain ⟨R, hR⟩ : ∃ R, rankB n1 ts gs rs = R := ⟨_, rfl⟩
      have HRk := Lib.hid hR
      rw [hR] at CW
      clear hR
      go_wp2_with fail
      refine CW.mono ?_
      rintro e w3 ⟨rfl, hb⟩
      have HB3 := Lib.hid (HB2.out.trans (hb.mono HB2.out.size))
      clear CW hb x0 x1
      go_wp2_with fail
      refine bodyPost_ret (results_tmp2 rfl _ _ _) rfl ?_
      exact ⟨by rw [HT1.out.1, HT1.out.2, HRk.out]; rfl, HB0.out.trans (HB3.out.mono HB0.out.size)⟩


set_option maxRecDepth 20000 in
set_option maxHeartbeats 6400000 in
theorem iRkg_any (v : Value) (x : Sysm) (Ag : Option Addr) (ng cg : Nat) (gs : List Int) (Ar : Option Addr) (nr cr : Nat) (rs : List Int) (w : World) (hv : SysAt w w.heap.size v x) (hs : sysWt x ≤ 1048576) (hg : IntsAt w w.heap.size Ag ng gs) (hng : ng ≤ 1048576) (hr : IntsAt w w.heap.size Ar nr rs) (hnr : nr ≤ 1048576) (hwf : ∀ z ∈ rs, (Lit.int .i64 z).wf = true) (hcap : CapS v) :
    Calls Try.prog 41 #[v, .slice Ag ng cg, .slice Ar nr cr] w fun e w' => e = .returned (.tuple #[.bool (rkgV x.states.length x.steps gs rs), .bool (rkgQ x.states.length x.steps gs)]) ∧ Below w.heap.size w w' := by
  obtain ⟨A1, n1, c1, A2, n2, c2, rfl, h1, h2⟩ := hv
  obtain ⟨A1', n1', c1', g2, n2', ecap⟩ := hcap
  simp only [Value.agg.injEq, Array.mk.injEq, List.cons.injEq, Value.slice.injEq, and_true] at ecap
  obtain ⟨⟨e1, e2, e3⟩, e4, e5, e6⟩ := ecap
  subst e1 e2 e3 e4 e6
  subst e5
  have hl1 := h1.1
  have hl2 := h2.1
  have hn1 : n1 ≤ 1048576 := by unfold sysWt bgsWt at hs; omega
  have hn2 : n2 ≤ 1048576 := by unfold sysWt bgsWt at hs; omega
  have HB0 := Lib.hid ((Below.refl w.heap.size w).alloc (Nat.le_refl _) (.cells #[.slice A1 n1 c1, .slice (some ⟨g2, 0, none⟩) n2 n2] 32))
  have HBx := Lib.hid (BoxN.new w #[.slice A1 n1 c1, .slice (some ⟨g2, 0, none⟩) n2 n2] 32)
  obtain ⟨W, hW⟩ : ∃ W, w.alloc (.cells #[.slice A1 n1 c1, .slice (some ⟨g2, 0, none⟩) n2 n2] 32) = W := ⟨_, rfl⟩
  rw [hW] at HBx HB0
  have HWq := Lib.hid hW
  have hWs := HBx.out.lt
  have HX : Hid (SysAt W W.heap.size (.agg #[.slice A1 n1 c1, .slice (some ⟨g2, 0, none⟩) n2 n2]) x) := Lib.hid (((show SysAt w w.heap.size _ x from ⟨A1, n1, c1, (some ⟨g2, 0, none⟩), n2, n2, rfl, h1, h2⟩).below HB0.out).wide HB0.out.size)
  have HT := Lib.hid ((h2.below HB0.out).wide HB0.out.size)
  have HL2 := Lib.hid hl2
  have HS := Lib.hid hs
  obtain ⟨x0, x1⟩ := box2 HBx.out
  have HG := Lib.hid ((hg.below HB0.out).wide HB0.out.size)
  have HR := Lib.hid ((hr.below HB0.out).wide HB0.out.size)
  have HWf := Lib.hid hwf
  have CG := isSys_any _ x W HX.out hs
  have HC2 := Lib.hid (fun (Y : World) (hY : Below W.heap.size W Y) => areSt_any A1 (some ⟨g2, 0, none⟩) n1 c1 n2 n2 Ag ng cg gs Y ((HG.out.below hY).wide hY.size) hn1 hng)
  rw [hl1] at CG
  rw [hl1]
  have HL1 := Lib.hid hl1
  obtain ⟨ts, hts⟩ : ∃ ts, x.steps = ts := ⟨_, rfl⟩
  rw [hts] at HT CG HL2 ⊢
  have HTs := Lib.hid hts
  obtain ⟨V, hV⟩ : ∃ V, rkgV n1 ts gs rs = V := ⟨_, rfl⟩
  obtain ⟨Q, hQ⟩ : ∃ Q, rkgQ n1 ts gs = Q := ⟨_, rfl⟩
  rw [hV, hQ]
  have HQd := Lib.hid hQ
  have HVd := Lib.hid hV
  clear hW h1 h2 hV hQ hl1 hl2 hts hs
  go_enter Try.func41, Try.ntmps41
  go_wp2_with fail
  rw [HWq.out]
  try go_wp2_with fail
  refine CG.mono ?_
  rintro e w1 ⟨rfl, hb1⟩
  clear CG x0 x1
  obtain ⟨x0, x1⟩ := box2 (HBx.out.below hb1 hWs)
  have HB1 := Lib.hid hb1
  clear hb1
  cases hq1 : goodB n1 ts with
  | false =>
    have hqf : rkgQ n1 ts gs = false := by
      unfold rkgQ
      rw [hq1]
      simp
    have HF := Lib.hid (And.intro (HQd.out.symm.trans hqf) (HVd.out.symm.trans (rkg_no hqf)))
    clear hq1 hqf
    go_wp2_with fail
    refine bodyPost_ret (results_tmp2 rfl _ _ _) rfl ?_
    exact ⟨by rw [HF.out.1, HF.out.2]; rfl, HB0.out.trans (HB1.out.mono HB0.out.size)⟩
  | true =>
    have HQ1 := Lib.hid hq1
    clear hq1
    go_wp2_with fail
    refine (HC2.out w1 HB1.out).mono ?_
    rintro e w2 ⟨rfl, hb⟩
    have HB2 := Lib.hid (HB1.out.trans (hb.mono HB1.out.size))
    clear x0 x1 hb
    obtain ⟨x0, x1⟩ := box2 (HBx.out.below HB2.out hWs)
    cases hq2 : golB n1 gs with
    | false =>
      have hqf : rkgQ n1 ts gs = false := by
        unfold rkgQ
        rw [hq2]
        simp
      have HF := Lib.hid (And.intro (HQd.out.symm.trans hqf) (HVd.out.symm.trans (rkg_no hqf)))
      clear hq2 hqf
      go_wp2_with fail
      refine bodyPost_ret (results_tmp2 rfl _ _ _) rfl ?_
      exact ⟨by rw [HF.out.1, HF.out.2]; rfl, HB0.out.trans (HB2.out.mono HB0.out.size)⟩
    | true =>
      have HQ2 := Lib.hid hq2
      clear hq2
      have hqt : rkgQ n1 ts gs = true := by
        unfold rkgQ
        rw [HQ1.out, HQ2.out]
        rfl
      have HT1 := Lib.hid (And.intro (HQd.out.symm.trans hqt) (HVd.out.symm.trans (rkg_yes hqt)))
      clear hqt
      have HLr := Lib.hid HR.out.len
      have HFs := Lib.hid (goodB_fst HQ1.out)
      have HMem : Hid (∀ s ∈ ts, 0 ≤ s.2.2 ∧ s.2.2 < n1) := Lib.hid (fun s hs => ⟨(goodB_mem HQ1.out hs).2.2.2.2.1, (goodB_mem HQ1.out hs).2.2.2.2.2⟩)
      have hnz := (goodB_n HQ1.out).1
      by_cases hnn : nr = n1
      · subst hnn
        have CM := min_any Ar nr cr rs w2 W.heap.size (HR.out.below HB2.out) hnr (by omega)
        go_wp2_with fail
        refine CM.mono ?_
        rintro e w3 ⟨⟨mn, rfl, hmn, hle⟩, rfl⟩
        clear CM
        by_cases hlow : mn < -1
        · obtain ⟨i, hi⟩ := List.getElem?_of_mem hmn
          have HF : Hid (Q = true ∧ V = false) := Lib.hid ⟨HT1.out.1, HT1.out.2.trans (rank_no hi (rk_low hi hlow))⟩
          clear hi hmn hle
          go_wp2_with fail
          refine bodyPost_ret (results_tmp2 rfl _ _ _) rfl ?_
          exact ⟨by rw [HF.out.1, HF.out.2]; rfl, HB0.out.trans (HB2.out.mono HB0.out.size)⟩
        · have HLe : Hid (∀ z ∈ rs, -1 ≤ z) := Lib.hid (fun z hz => by have := hle z hz; omega)
          clear hmn hle
          go_wp2_with fail
          clear x0 x1
          go_loopw [8, 9, 32] (fun _ _ i wr => ∃ k : Nat, k ≤ nr ∧ i = .int .i64 k ∧ (∀ j, j < k → rkAt ts gs rs j = true) ∧ Below w2.heap.size w2 wr) (fun _ _ i _ => nr - (intOf i).toNat)
          case atStart => exact ⟨0, Nat.zero_le _, rfl, fun j hj => absurd hj (Nat.not_lt_zero j), Below.refl _ _⟩
          case round =>
            obtain ⟨k, hk, rfl, hok, hbel⟩ := hrel
            have HOk := Lib.hid hok
            have HBl := Lib.hid (HB2.out.trans (hbel.mono HB2.out.size))
            have HB2l := Lib.hid hbel
            clear hok hbel
            obtain ⟨x0, x1⟩ := box2 (HBx.out.below HBl.out hWs)
            by_cases hlt : k < nr
            · obtain ⟨b, off, r, rfl, hb, hx, e0⟩ := IntsAt.get (HR.out.below HBl.out) hlt
              have HX2 := Lib.hid hx
              have hrb := bounds_i64 (HWf.out r (List.mem_of_getElem? hx))
              have hrl := HLe.out r (List.mem_of_getElem? hx)
              have HNx : Hid (rkAt ts gs rs k = true → ∀ j, j < k + 1 → rkAt ts gs rs j = true) := Lib.hid (fun h j hj => by
                by_cases e : j = k
                · rw [e]; exact h
                · exact HOk.out j (by omega))
              clear hx
              by_cases hneg : r = -1
              · have HN := Lib.hid (HNx.out (rk_none HX2.out hneg))
                subst hneg
                go_wp2_with fail
                go_roundw
                case rel => exact ⟨k + 1, by omega, by go_num, HN.out, HB2l.out⟩
                case measure => simp [intOf]; omega
              · have hr0 : 0 ≤ r := by omega
                have hr1 : -1 < r := by omega
                have CH := contains_any Ag ng cg gs (k : Int) wr _ (HG.out.below HBl.out) hng
                cases hh : hasB gs (k : Int) with
                | true =>
                  have HN := Lib.hid (HNx.out (rk_goal HX2.out hr0 hh))
                  rw [hh] at CH
                  clear hh
                  go_wp2_with fail
                  refine CH.mono ?_
                  rintro e w4 ⟨rfl, rfl⟩
                  clear CH
                  go_wp2_with fail
                  go_roundw
                  case rel => exact ⟨k + 1, by omega, by go_num, HN.out, HB2l.out⟩
                  case measure => simp [intOf]; omega
                | false =>
                  have HO := Lib.hid (rk_over (ts := ts) HX2.out hr0 hh)
                  rw [hh] at CH
                  have CF := sfrom_any A1 g2 nr c1 n2 ts (k : Int) wr ((HT.out.below HBl.out).wide HBl.out.size) hn2 HFs.out (by omega)
                  have hml := out_len ts (k : Int)
                  have HOm := Lib.hid (fun (s : Tri) (hs : s ∈ outOf ts (k : Int)) => HMem.out s (out_mem hs))
                  obtain ⟨out, hout⟩ : ∃ out, outOf ts (k : Int) = out := ⟨_, rfl⟩
                  rw [hout] at CF HO hml HOm
                  obtain ⟨m, hm⟩ : ∃ m, out.length = m := ⟨_, rfl⟩
                  rw [hm] at CF hml
                  have HM := Lib.hid hm
                  have hm2 : m ≤ 1048576 := by have := HT.out.1; omega
                  clear hh hout hm hml
                  go_wp2_with fail
                  refine CH.mono ?_
                  rintro e w4 ⟨rfl, rfl⟩
                  clear CH
                  go_wp2_with fail
                  refine CF.mono ?_
                  rintro e w5 ⟨off2, c5, rfl, hat, hb5⟩
                  have HB5 := Lib.hid (HBl.out.trans (hb5.mono HBl.out.size))
                  have HB25 := Lib.hid (HB2l.out.trans (hb5.mono HB2l.out.size))
                  have CO := rko_any (some ⟨g2, off2, none⟩) m c5 out (some ⟨b, off, none⟩) nr cr rs r w5 hat ((HR.out.below HB5.out).wide HB5.out.size) hm2 hnr HOm.out ⟨hr0, hrb.2⟩
                  clear CF hat hb5 x0 x1 e0
                  cases ho : overB rs r out with
                  | true =>
                    have HN := Lib.hid (HNx.out (HO.out.trans ho))
                    rw [ho] at CO
                    clear ho
                    go_wp2_with fail
                    refine CO.mono ?_
                    rintro e w6 ⟨rfl, hb6⟩
                    have HB26 := Lib.hid (HB25.out.trans (hb6.mono HB25.out.size))
                    clear CO hb6
                    go_wp2_with fail
                    go_roundw
                    case rel => exact ⟨k + 1, by omega, by go_num, HN.out, HB26.out⟩
                    case measure => simp [intOf]; omega
                  | false =>
                    have HF : Hid (Q = true ∧ V = false) := Lib.hid ⟨HT1.out.1, HT1.out.2.trans (rank_no HX2.out (HO.out.trans ho))⟩
                    rw [ho] at CO
                    clear ho
                    go_wp2_with fail
                    refine CO.mono ?_
                    rintro e w6 ⟨rfl, hb6⟩
                    have HB6 := Lib.hid (HB5.out.trans (hb6.mono HB5.out.size))
                    clear CO hb6
                    go_wp2_with fail
                    refine bodyPost_ret (results_tmp2 rfl _ _ _) rfl ?_
                    exact ⟨by rw [HF.out.1, HF.out.2]; rfl, HB0.out.trans (HB6.out.mono HB0.out.size)⟩
            · obtain rfl : k = nr := by omega
              have HF : Hid (Q = true ∧ V = true) := Lib.hid ⟨HT1.out.1, HT1.out.2.trans (rank_yes HLr.out (by rw [HLr.out]; exact HOk.out))⟩
              go_wp2_with fail
              refine bodyPost_ret (results_tmp2 rfl _ _ _) rfl ?_
              exact ⟨by rw [HF.out.1, HF.out.2]; rfl, HB0.out.trans (HBl.out.mono HB0.out.size)⟩
      · have HF : Hid (Q = true ∧ V = false) := Lib.hid ⟨HT1.out.1, HT1.out.2.trans (rank_len (by rw [HLr.out]; exact hnn))⟩
        have hne : ¬ (nr : Int) = (n1 : Int) := by omega
        go_wp2_with fail
        refine bodyPost_ret (results_tmp2 rfl _ _ _) rfl ?_
        exact ⟨by rw [HF.out.1, HF.out.2]; rfl, HB0.out.trans (HB2.out.mono HB0.out.size)⟩

end Go.Proofs.Ytlpgldejmdiceaa.syz
