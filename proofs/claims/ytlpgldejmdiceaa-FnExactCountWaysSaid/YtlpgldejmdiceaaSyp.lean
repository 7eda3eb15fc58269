/- Numbers of ways: pure part; CountWays of spec and impl. -/
import Derived.Test.YtlpgldejmdiceaaRep
import Derived.Test.YtlpgldejmdiceaaSyk
import Derived.StillTailTactics
namespace Go.Proofs.Ytlpgldejmdiceaa.syp
open kit bg sg opn strs only hb sig isig un over gn nm inn ht gd im pt marks eqs hc hi hw hn rs br bm bw cf lf ib isa lawb lw cl bgs cz syx sya syh syi syc syg syb syk syl rep has
open Go.RowKit
set_option linter.unusedVariables false
set_option linter.unusedSimpArgs false
def cwS (cs : List Int) (acc : List Int) (s : Tri) : List Int := acc.set s.1.toNat (min (acc.getD s.1.toNat 0 + cs.getD s.2.2.toNat 0) 1000000001)
def cwP (n : Nat) (ts : List Tri) (cs : List Int) (j : Nat) : List Int := (ts.take j).foldl (cwS cs) (List.replicate n 0)
def cwN (n : Nat) (ts : List Tri) : Nat → List Int
  | 0 => List.replicate n 1
  | k + 1 => cwP n ts (cwN n ts k) ts.length
def okL (n : Nat) (l : List Int) : Prop := l.length = n ∧ ∀ i, 0 ≤ l.getD i 0 ∧ l.getD i 0 ≤ 1000000001
theorem okL_rep {n : Nat} {z : Int} (h : 0 ≤ z ∧ z ≤ 1000000001) : okL n (List.replicate n z) := by
  refine ⟨by simp, fun i => ?_⟩
  rw [List.getD, List.getElem?_replicate]
  split <;> simp <;> omega
theorem okL_step {n : Nat} {cs acc : List Int} {s : Tri} (h : okL n acc) (hc : okL n cs) : okL n (cwS cs acc s) := by
  refine ⟨by unfold cwS; rw [List.length_set]; exact h.1, fun i => ?_⟩
  unfold cwS
  have h1 := h.2 s.1.toNat
  have h2 := hc.2 s.2.2.toNat
  have h3 := h.2 i
  simp only [List.getD_eq_getElem?_getD] at h1 h2 h3 ⊢
  rw [List.getElem?_set]
  split
  · split
    · simp; omega
    · simp
  · exact h3
theorem cwP_succ {n : Nat} {ts : List Tri} {cs : List Int} {j : Nat} {s : Tri} (h : ts[j]? = some s) : cwP n ts cs (j + 1) = cwS cs (cwP n ts cs j) s := by
  unfold cwP
  rw [List.take_add_one, h, List.foldl_append]
  rfl
theorem okL_P {n : Nat} {ts : List Tri} {cs : List Int} (hc : okL n cs) (j : Nat) : okL n (cwP n ts cs j) := by
  unfold cwP
  generalize ts.take j = l
  have : ∀ (acc : List Int), okL n acc → okL n (l.foldl (cwS cs) acc) := by
    induction l with
    | nil => exact fun acc h => h
    | cons s l ih => exact fun acc h => ih _ (okL_step h hc)
  exact this _ (okL_rep (by omega))
theorem okL_N {n : Nat} {ts : List Tri} (k : Nat) : okL n (cwN n ts k) := by
  induction k with
  | zero => exact okL_rep (by omega)
  | succ k ih => exact okL_P ih _
theorem iat_set {L : List Int} {t : Nat} {v : Int} (h : t < L.length) : iat (L.set t v) = fun i => if i = t then .int .i64 v else iat L i := by
  funext i
  unfold iat
  rw [List.getD, List.getElem?_set]
  by_cases e : t = i
  · subst e; simp [h]
  · rw [if_neg e, if_neg (Ne.symm e)]; rfl
theorem row_set {w : World} {g n : Nat} {L : List Int} (h : w.rowIs g 3 n (iat L)) (hl : L.length = n) {t : Nat} (ht : t < n) (v : Int) : (w.setCell ⟨g, t, none⟩ (.int .i64 v)).rowIs g 3 n (iat (L.set t v)) := by
  rw [iat_set (by omega)]
  exact h.set t _
theorem row_int {w : World} {g n : Nat} {L : List Int} (h : w.rowIs g 3 n (iat L)) {t : Nat} (ht : t < n) : w.cell? ⟨g, t, none⟩ = some (.int .i64 (L.getD t 0)) := h.cell ht
def cwQ (n : Nat) (ts : List Tri) (z l : Int) : Bool := goodB n ts && inb z 0 (n - 1) && inb l 0 60 && decide ((cwN n ts l.toNat).getD z.toNat 0 ≤ 1000000000)
def cwV (n : Nat) (ts : List Tri) (z l : Int) : Int := if cwQ n ts z l = true then (cwN n ts l.toNat).getD z.toNat 0 else 0
theorem cw_no {n : Nat} {ts : List Tri} {z l : Int} (h : cwQ n ts z l = false) : cwV n ts z l = 0 := by unfold cwV; rw [h]; rfl
theorem least_any (x y : Int) (w : World) : Calls Try.prog 93 #[.int .i64 x, .int .i64 y] w fun e w' => e = .returned (.int .i64 (min x y)) ∧ w = w' := by
  by_cases h : x < y
  · go_enter Try.func93, Try.ntmps93
    go_wp2_with fail
    go_ret
    exact ⟨by rw [Int.min_eq_left (by omega)]; rfl, rfl⟩
  · go_enter Try.func93, Try.ntmps93
    go_wp2_with fail
    go_ret
    exact ⟨by rw [Int.min_eq_right (by omega)]; rfl, rfl⟩

set_option maxRecDepth 20000 in
set_option maxHeartbeats 12800000 in
theorem iCw_any (v : Value) (x : Sysm) (z l : Int) (w : World) (hv : SysAt w w.heap.size v x) (hs : sysWt x ≤ 1048576) :
    Calls Try.prog 47 #[v, .int .i64 z, .int .i64 l] w fun e w' => e = .returned (.tuple #[.int .i64 (cwV x.states.length x.steps z l), .bool (cwQ x.states.length x.steps z l)]) ∧ Below w.heap.size w w' := by
  obtain ⟨A1, n1, c1, A2, n2, c2, rfl, h1, h2⟩ := hv
  have hl1 := h1.1
  have hl2 := h2.1
  have hn1 : n1 ≤ 1048576 := by unfold sysWt bgsWt at hs; omega
  have hn2 : n2 ≤ 1048576 := by unfold sysWt bgsWt at hs; omega
  have HB0 := Lib.hid ((Below.refl w.heap.size w).alloc (Nat.le_refl _) (.cells #[.slice A1 n1 c1, .slice A2 n2 c2] 32))
  have HBx := Lib.hid (BoxN.new w #[.slice A1 n1 c1, .slice A2 n2 c2] 32)
  obtain ⟨W, hW⟩ : ∃ W, w.alloc (.cells #[.slice A1 n1 c1, .slice A2 n2 c2] 32) = W := ⟨_, rfl⟩
  rw [hW] at HBx HB0
  have HWq := Lib.hid hW
  have hWs := HBx.out.lt
  have HX : Hid (SysAt W W.heap.size (.agg #[.slice A1 n1 c1, .slice A2 n2 c2]) x) := Lib.hid (((show SysAt w w.heap.size _ x from ⟨A1, n1, c1, A2, n2, c2, rfl, h1, h2⟩).below HB0.out).wide HB0.out.size)
  have HT := Lib.hid ((h2.below HB0.out).wide HB0.out.size)
  have HL2 := Lib.hid hl2
  have HS := Lib.hid hs
  obtain ⟨x0, x1⟩ := box2 HBx.out
  have CG := isSys_any _ x W HX.out hs
  have HC2 := Lib.hid (fun (Y : World) (hY : Below W.heap.size W Y) => isState_any A1 A2 n1 c1 n2 c2 z Y hn1)
  have HC3 := Lib.hid (fun (Y : World) (hY : Below W.heap.size W Y) => win_any l 0 60 Y)
  rw [hl1] at CG
  rw [hl1]
  have HL1 := Lib.hid hl1
  obtain ⟨ts, hts⟩ : ∃ ts, x.steps = ts := ⟨_, rfl⟩
  rw [hts] at HT CG HL2 ⊢
  have HTs := Lib.hid hts
  obtain ⟨V, hV⟩ : ∃ V, cwV n1 ts z l = V := ⟨_, rfl⟩
  obtain ⟨Q, hQ⟩ : ∃ Q, cwQ n1 ts z l = Q := ⟨_, rfl⟩
  rw [hV, hQ]
  have HQd := Lib.hid hQ
  have HVd := Lib.hid hV
  clear hW h1 h2 hV hQ hl1 hl2 hts hs
  go_enter Try.func47, Try.ntmps47
  go_wp2_with fail
  rw [HWq.out]
  try go_wp2_with fail
  refine CG.mono ?_
  rintro e w1 ⟨rfl, hb1⟩
  clear CG x0 x1
  obtain ⟨x0, x1⟩ := box2 (HBx.out.below hb1 hWs)
  have HB1 := Lib.hid hb1
  clear hb1
  cases hq1 : goodB n1 ts with
  | false =>
    have hqf : cwQ n1 ts z l = false := by
      unfold cwQ
      rw [hq1]
      simp
    have HF := Lib.hid (And.intro (HQd.out.symm.trans hqf) (HVd.out.symm.trans (cw_no hqf)))
    clear hq1 hqf
    go_wp2_with fail
    refine bodyPost_ret (results_tmp2 rfl _ _ _) rfl ?_
    exact ⟨by rw [HF.out.1, HF.out.2]; rfl, HB0.out.trans (HB1.out.mono HB0.out.size)⟩
  | true =>
    have HQ1 := Lib.hid hq1
    clear hq1
    go_wp2_with fail
    refine (HC2.out w1 HB1.out).mono ?_
    rintro e w2 ⟨rfl, hb⟩
    have HB2 := Lib.hid (HB1.out.trans (hb.mono HB1.out.size))
    clear x0 x1 hb
    obtain ⟨x0, x1⟩ := box2 (HBx.out.below HB2.out hWs)
    cases hq2 : inb z 0 ((n1 : Int) - 1) with
    | false =>
      have hqf : cwQ n1 ts z l = false := by
        unfold cwQ
        rw [hq2]
        simp
      have HF := Lib.hid (And.intro (HQd.out.symm.trans hqf) (HVd.out.symm.trans (cw_no hqf)))
      clear hq2 hqf
      go_wp2_with fail
      refine bodyPost_ret (results_tmp2 rfl _ _ _) rfl ?_
      exact ⟨by rw [HF.out.1, HF.out.2]; rfl, HB0.out.trans (HB2.out.mono HB0.out.size)⟩
    | true =>
      have HQ2 := Lib.hid hq2
      clear hq2
      go_wp2_with fail
      refine (HC3.out w2 HB2.out).mono ?_
      rintro e w3 ⟨rfl, hsame⟩
      subst hsame
      have HB3 := HB2
      cases hq3 : inb l 0 60 with
      | false =>
        have hqf : cwQ n1 ts z l = false := by
          unfold cwQ
          rw [hq3]
          simp
        have HF := Lib.hid (And.intro (HQd.out.symm.trans hqf) (HVd.out.symm.trans (cw_no hqf)))
        clear hq3 hqf
        go_wp2_with fail
        refine bodyPost_ret (results_tmp2 rfl _ _ _) rfl ?_
        exact ⟨by rw [HF.out.1, HF.out.2]; rfl, HB0.out.trans (HB3.out.mono HB0.out.size)⟩
      | true =>
        have HQ3 := Lib.hid hq3
        clear hq3
        obtain ⟨hz1, hz2⟩ := inb_true HQ2.out
        obtain ⟨hl1, hl2⟩ := inb_true HQ3.out
        obtain ⟨hn1a, hn1b⟩ := goodB_n HQ1.out
        obtain ⟨zt, hzt⟩ : ∃ t : Nat, z = t := ⟨z.toNat, by omega⟩
        obtain ⟨len, hlen⟩ : ∃ t : Nat, l = t := ⟨l.toNat, by omega⟩
        have HZt : Hid (z.toNat = zt) := Lib.hid (by omega)
        have HLen : Hid (l.toNat = len) := Lib.hid (by omega)
        have HQz : Hid (cwQ n1 ts z l = decide ((cwN n1 ts len).getD zt 0 ≤ 1000000000)) := Lib.hid (by
          unfold cwQ
          rw [HQ1.out, HQ2.out, HQ3.out, HLen.out, HZt.out]
          simp)
        have HVz : Hid (cwQ n1 ts z l = true → cwV n1 ts z l = (cwN n1 ts len).getD zt 0) := Lib.hid (fun h => by unfold cwV; rw [if_pos h, HLen.out, HZt.out])
        have HMem : Hid (∀ s ∈ ts, 0 ≤ s.1 ∧ s.1 < n1 ∧ 0 ≤ s.2.2 ∧ s.2.2 < n1) := Lib.hid (fun s hs => by have := goodB_mem HQ1.out hs; omega)
        clear hz1 hl1
        subst hzt hlen
        have hztn : zt < n1 := by omega
        clear hz2
        have CRep := rep_any w2.heap.size 1 n1 1 (w2.alloc (.cells #[.int .i64 1] 3)) ((BoxN.new w2 #[.int .i64 1] 3).cell (i := 0) rfl) (by simp) hn1a hn1
        have hbo := (Below.refl w2.heap.size w2).alloc (Nat.le_refl _) (.cells #[.int .i64 1] 3)
        have HBo := Lib.hid hbo
        clear x0 x1
        obtain ⟨x0, x1⟩ := box2 (HBx.out.below (HB2.out.trans (hbo.mono HB2.out.size)) hWs)
        clear hbo
        go_wp2_with fail
        refine CRep.mono ?_
        rintro e w3 ⟨rfl, hrow, hb⟩
        have hb23 := HBo.out.trans (hb.mono HBo.out.size)
        have HB3 := Lib.hid (HB2.out.trans (hb23.mono HB2.out.size))
        have hg3 := hrow.lt
        have hrow3 := hrow.congr (g := iat (cwN n1 ts 0)) (fun i hi => by
          show _ = iat (List.replicate n1 1) i
          rw [iat_of (by rw [List.getElem?_replicate, if_pos hi])])
        have HRow3 := Lib.hid hrow3
        have hge : W.heap.size ≤ (w2.alloc (.cells #[.int .i64 1] 3)).heap.size := Nat.le_trans HB2.out.size HBo.out.size
        clear CRep hb hb23 hrow hrow3 x0 x1
        obtain ⟨G, hG⟩ : ∃ G, (w2.alloc (.cells #[.int .i64 1] 3)).heap.size = G := ⟨_, rfl⟩
        rw [hG] at HRow3 hge hg3 ⊢
        clear hG
        go_wp2_with fail
        go_loopw [8, 9, 11, 32] (fun cv _ _ i wr => ∃ (k g : Nat), k ≤ len ∧ i = .int .i64 k ∧ cv = .slice (some ⟨g, 0, none⟩) n1 n1 ∧ wr.rowIs g 3 n1 (iat (cwN n1 ts k)) ∧ W.heap.size ≤ g ∧ Below W.heap.size W wr) (fun _ _ _ i _ => len - (intOf i).toNat)
        case atStart => exact ⟨0, G, Nat.zero_le _, rfl, rfl, HRow3.out, hge, HB3.out⟩
        case round =>
          obtain ⟨k, g, hk, rfl, rfl, hrow, hgW, hbel⟩ := hrel
          rename World => wo
          have HBel := Lib.hid hbel
          have HRow := Lib.hid hrow
          have hgl := hrow.lt
          clear hrow
          by_cases hlt : k < len
          · have hmk := fun W => run_make_row' (P := Try.prog) 38 3 (.int .i64 0) 8 Try.underlying38 int_info rfl .i64 .i64 n1 (by omega) (by omega) W
            have hba := hbel.alloc hbel.size (.cells (madeCells #[.int .i64 0] n1) 3)
            obtain ⟨x0, x1⟩ := box2 (HBx.out.below hba hWs)
            obtain ⟨y0, y1⟩ := box2 (HBx.out.below hbel hWs)
            have hrA := (World.rowIs_made wo (.int .i64 0) n1 3).congr (g := iat (cwP n1 ts (cwN n1 ts k) 0)) (fun i hi => by
              show _ = iat (List.replicate n1 0) i
              rw [iat_of (by rw [List.getElem?_replicate, if_pos hi])])
            have hrG : (wo.alloc (.cells (madeCells #[.int .i64 0] n1) 3)).rowIs g 3 n1 (iat (cwN n1 ts k)) := HRow.out.of_block (((Below.refl wo.heap.size wo).alloc (Nat.le_refl _) _).block g hgl)
            have HrA := Lib.hid hrA
            have HrG := Lib.hid hrG
            have HbA := Lib.hid hba
            clear hba hrA hrG hbel
            go_wp2_with fail
            clear hmk x0 x1 y0 y1
            go_loopw [11, 41] (fun _ i wq => ∃ j : Nat, j ≤ n2 ∧ i = .int .i64 j ∧ wq.rowIs wo.heap.size 3 n1 (iat (cwP n1 ts (cwN n1 ts k) j)) ∧ wq.rowIs g 3 n1 (iat (cwN n1 ts k)) ∧ Below W.heap.size W wq) (fun _ i _ => n2 - (intOf i).toNat)
            case atStart => exact ⟨0, Nat.zero_le _, rfl, HrA.out, HrG.out, HbA.out⟩
            case round =>
              obtain ⟨j, hj, rfl, hrA, hrG, hbq⟩ := hrel
              rename World => wq
              have HBq := Lib.hid hbq
              by_cases hlt2 : j < n2
              · obtain ⟨b, off, s, rfl, hbb, hx, e0, e1, e2⟩ := HT.out.get hlt2
                obtain ⟨hs1, hs2, hs3, hs4⟩ := HMem.out s (List.mem_of_getElem? hx)
                obtain ⟨p, hp⟩ : ∃ t : Nat, s.1 = t := ⟨s.1.toNat, by omega⟩
                obtain ⟨q, hq⟩ : ∃ t : Nat, s.2.2 = t := ⟨s.2.2.toNat, by omega⟩
                have hpn : p < n1 := by omega
                have hqn : q < n1 := by omega
                have hS := cwP_succ (n := n1) (cs := cwN n1 ts k) hx
                unfold cwS at hS
                rw [hp, hq, Int.toNat_natCast, Int.toNat_natCast] at hS
                have hoa := okL_P (n := n1) (ts := ts) (okL_N (ts := ts) k) j
                have hoc := okL_N (n := n1) (ts := ts) k
                obtain ⟨LA, hLA⟩ : ∃ L, cwP n1 ts (cwN n1 ts k) j = L := ⟨_, rfl⟩
                obtain ⟨LC, hLC⟩ : ∃ L, cwN n1 ts k = L := ⟨_, rfl⟩
                rw [hLA] at hS hoa hrA
                rw [hLC] at hS hoc hrG
                obtain ⟨hoa1, hoa2⟩ := hoa
                have ha := hoa2 p
                have hc := hoc.2 q
                have hb3 := hbq.alloc hbq.size (.cells #[.int .i64 (p : Int), .int .i64 s.2.1, .int .i64 (q : Int)] 76)
                have hw3 := (Below.refl wq.heap.size wq).alloc (Nat.le_refl _) (.cells #[.int .i64 (p : Int), .int .i64 s.2.1, .int .i64 (q : Int)] 76)
                have rA := hrA.of_block (hw3.block _ hrA.lt)
                have rG := hrG.of_block (hw3.block _ hrG.lt)
                obtain ⟨t0, t1, t2⟩ := box3 (BoxN.new wq #[.int .i64 (p : Int), .int .i64 s.2.1, .int .i64 (q : Int)] 76)
                rw [hp] at e0
                rw [hq] at e2
                have d0 := (hbq.cell (p := ⟨b, off + j * 3, none⟩) hbb).trans e0
                have d1 := (hbq.cell (p := ⟨b, off + j * 3 + 1, none⟩) hbb).trans e1
                have d2 := (hbq.cell (p := ⟨b, off + j * 3 + 2, none⟩) hbb).trans e2
                obtain ⟨w5, hw5⟩ : ∃ w5, wq.alloc (.cells #[.int .i64 (p : Int), .int .i64 s.2.1, .int .i64 (q : Int)] 76) = w5 := ⟨_, rfl⟩
                rw [hw5] at rA rG hb3 t0 t1 t2
                have HW5 := Lib.hid hw5
                have c0 := row_int rA hpn
                have c1 := row_int rG hqn
                obtain ⟨av, hav⟩ : ∃ a, LA.getD p 0 = a := ⟨_, rfl⟩
                obtain ⟨cv, hcv⟩ : ∃ a, LC.getD q 0 = a := ⟨_, rfl⟩
                rw [hav] at c0 ha hS
                rw [hcv] at c1 hc hS
                have hwr : IntKind.i64.wrap (av + cv) = av + cv := IntWalk.i64_in _ (by omega)
                have hfz := rA.frozen p
                obtain ⟨mv, hmv⟩ : ∃ m, min (av + cv) 1000000001 = m := ⟨_, rfl⟩
                rw [hmv] at hS
                have HN : Hid ((w5.drew.setCell ⟨wo.heap.size, p, none⟩ (.int .i64 mv)).rowIs wo.heap.size 3 n1 (iat (cwP n1 ts (cwN n1 ts k) (j + 1)))) := Lib.hid (by
                  rw [hLC, hS]
                  exact row_set (World.rowIs.drew rA) hoa1 hpn mv)
                have hgne : g ≠ wo.heap.size := by omega
                have HNg : Hid ((w5.drew.setCell ⟨wo.heap.size, p, none⟩ (.int .i64 mv)).rowIs g 3 n1 (iat (cwN n1 ts k))) := Lib.hid (by
                  rw [hLC]
                  exact World.rowIs.setOther (a := ⟨wo.heap.size, p, none⟩) (World.rowIs.drew rG) hgne _)
                have HNb : Hid (Below W.heap.size W (w5.drew.setCell ⟨wo.heap.size, p, none⟩ (.int .i64 mv))) := Lib.hid (hb3.drew.setCell (by show W.heap.size ≤ wo.heap.size; exact HBel.out.size) _)
                have HMv := Lib.hid hmv
                clear hx e0 e1 e2 hs1 hs2 hs3 hs4 hp hq hS hoa1 hoa2 hoc hLA hLC hrA hrG hbq hb3 hw3 rA rG hw5 hav hcv
                by_cases hle : av + cv ≤ 1000000001
                · have hmv2 : mv = av + cv := by omega
                  subst hmv2
                  go_wp2_with fail
                  rw [HW5.out]
                  clear d0 d1 d2
                  go_still_tail 15, (by kernel_rfl)
                  change wpList _ _ _ _ _ w5.drew
                  try simp only [hmv]
                  go_wp2_with fail
                  go_roundw
                  case rel => exact ⟨j + 1, by omega, by go_num, HN.out, HNg.out, HNb.out⟩
                  case measure => simp [intOf]; omega
                · have hmv2 : mv = 1000000001 := by omega
                  subst hmv2
                  go_wp2_with fail
                  rw [HW5.out]
                  clear d0 d1 d2
                  go_still_tail 15, (by kernel_rfl)
                  change wpList _ _ _ _ _ w5.drew
                  try simp only [hmv]
                  go_wp2_with fail
                  go_roundw
                  case rel => exact ⟨j + 1, by omega, by go_num, HN.out, HNg.out, HNb.out⟩
                  case measure => simp [intOf]; omega
              · obtain rfl : j = n2 := by omega
                have HN : Hid (wq.rowIs wo.heap.size 3 n1 (iat (cwN n1 ts (k + 1)))) := Lib.hid (by
                  show wq.rowIs _ _ _ (iat (cwP n1 ts (cwN n1 ts k) ts.length))
                  rw [HL2.out]
                  exact hrA)
                clear hrA hrG hbq
                go_wp2_with fail
                go_roundw
                case rel => exact ⟨k + 1, wo.heap.size, by omega, by go_num, rfl, HN.out, HBel.out.size, HBq.out⟩
                case measure => simp [intOf]; omega
          · obtain rfl : k = len := by omega
            have c0 := row_int HRow.out hztn
            obtain ⟨R, hR⟩ : ∃ R, (cwN n1 ts k).getD zt 0 = R := ⟨_, rfl⟩
            rw [hR] at c0
            have HR := Lib.hid hR
            clear hR hbel
            by_cases hbig : R ≤ 1000000000
            · have hbig' : ¬ (1000000000 : Int) < R := by omega
              have hqt := HQz.out.trans (decide_eq_true (by rw [HR.out]; exact hbig))
              have HF : Hid (Q = true ∧ V = R) := Lib.hid ⟨HQd.out.symm.trans hqt, HVd.out.symm.trans ((HVz.out hqt).trans HR.out)⟩
              clear hqt
              go_wp2_with fail
              refine bodyPost_ret (results_tmp2 rfl _ _ _) rfl ?_
              exact ⟨by rw [HF.out.1, HF.out.2]; rfl, HB0.out.trans (HBel.out.mono HB0.out.size)⟩
            · have hbig' : (1000000000 : Int) < R := by omega
              have hqf := HQz.out.trans (decide_eq_false (by rw [HR.out]; exact hbig))
              have HF : Hid (Q = false ∧ V = 0) := Lib.hid ⟨HQd.out.symm.trans hqf, HVd.out.symm.trans (cw_no hqf)⟩
              clear hqf
              go_wp2_with fail
              refine bodyPost_ret (results_tmp2 rfl _ _ _) rfl ?_
              exact ⟨by rw [HF.out.1, HF.out.2]; rfl, HB0.out.trans (HBel.out.mono HB0.out.size)⟩

end Go.Proofs.Ytlpgldejmdiceaa.syp
