/- LoopsOf of spec. -/
import Derived.Test.YtlpgldejmdiceaaLox
import Derived.Test.YtlpgldejmdiceaaRcf
namespace Go.Proofs.Ytlpgldejmdiceaa.los
open kit bg sg opn strs only hb sig isig un over gn nm inn ht gd im pt marks eqs hc hi hw hn rs br bm bw cf lf ib isa lawb lw cl bgs cz has syx sya rea lox syh syi syc syg syb syk syl syt syr rcs rci rcf
open Go.RowKit
set_option linter.unusedVariables false
set_option linter.unusedSimpArgs false
def loQ (n : Nat) (ts : List Tri) : Bool := goodB n ts
def loA (n : Nat) (ts : List Tri) : List Int := if loQ n ts = true then loL n ts n else []
theorem lo_no {n : Nat} {ts : List Tri} (h : loQ n ts = false) : loA n ts = [] := by unfold loA; rw [h]; rfl
theorem lo_yes {n : Nat} {ts : List Tri} (h : loQ n ts = true) : loA n ts = loL n ts n := by unfold loA; rw [if_pos h]
theorem loA_len {n : Nat} {ts : List Tri} : (loA n ts).length ≤ n := by
  unfold loA
  split
  · rw [loL_len]; exact Nat.le_refl _
  · simp
set_option maxRecDepth 20000 in
set_option maxHeartbeats 6400000 in
theorem sLo_any (v : Value) (x : Sysm) (w : World) (hv : SysAt w w.heap.size v x) (hs : sysWt x ≤ 1048576) :
    Calls Try.prog 44 #[v] w (ResPost 3 (loQ x.states.length x.steps) ((loA x.states.length x.steps).map (Value.int .i64)) w) := by
  obtain ⟨A1, n1, c1, A2, n2, c2, rfl, h1, h2⟩ := hv
  have hl1 := h1.1
  have hl2 := h2.1
  have hn1 : n1 ≤ 1048576 := by unfold sysWt bgsWt at hs; omega
  have hn2 : n2 ≤ 1048576 := by unfold sysWt bgsWt at hs; omega
  have HB0 := Lib.hid ((Below.refl w.heap.size w).alloc (Nat.le_refl _) (.cells #[.slice A1 n1 c1, .slice A2 n2 c2] 32))
  have HBx := Lib.hid (BoxN.new w #[.slice A1 n1 c1, .slice A2 n2 c2] 32)
  obtain ⟨W, hW⟩ : ∃ W, w.alloc (.cells #[.slice A1 n1 c1, .slice A2 n2 c2] 32) = W := ⟨_, rfl⟩
  rw [hW] at HBx HB0
  have HWq := Lib.hid hW
  have hWs := HBx.out.lt
  have HX : Hid (SysAt W W.heap.size (.agg #[.slice A1 n1 c1, .slice A2 n2 c2]) x) := Lib.hid (((show SysAt w w.heap.size _ x from ⟨A1, n1, c1, A2, n2, c2, rfl, h1, h2⟩).below HB0.out).wide HB0.out.size)
  have HT := Lib.hid ((h2.below HB0.out).wide HB0.out.size)
  have HL2 := Lib.hid hl2
  have HS := Lib.hid hs
  obtain ⟨x0, x1⟩ := box2 HBx.out
  have HT0 := Lib.hid h2
  rw [hl1]
  have HLx := Lib.hid hl1
  obtain ⟨ts, hts⟩ : ∃ ts, x.steps = ts := ⟨_, rfl⟩
  have HTs := Lib.hid hts
  rw [hts] at HT HT0 HL2 ⊢
  obtain ⟨A, hA⟩ : ∃ V, loA n1 ts = V := ⟨_, rfl⟩
  obtain ⟨Q, hQ⟩ : ∃ Q, loQ n1 ts = Q := ⟨_, rfl⟩
  rw [hA, hQ]
  have HQd := Lib.hid hQ
  have HAd := Lib.hid hA
  obtain ⟨i0, hi, hz0, hz1, hz2⟩ := info_parts int_info
  have HI := Lib.hid (And.intro hi (And.intro hz0 (And.intro hz1 hz2)))
  clear hW h1 h2 hA hQ hl1 hl2 hts hs hi hz0 hz1 hz2
  have hsz1 : W.heap.size = w.heap.size + 1 := by rw [← HWq.out]; simp
  have hOn : Owns (W.alloc (.cells #[] 3)) W.heap.size 3 (.slice (some ⟨w.heap.size + 1, 0, none⟩) 0 0) [] := by rw [← hsz1]; exact own_new W
  have hb2 := (Below.refl W.heap.size W).alloc (Nat.le_refl _) (.cells #[] 3)
  obtain ⟨W2, hW2⟩ : ∃ W2, W.alloc (.cells #[] 3) = W2 := ⟨_, rfl⟩
  rw [hW2] at hOn hb2
  have HOn := Lib.hid hOn
  have HB2 := Lib.hid hb2
  have HW2 := Lib.hid hW2
  have hWs2 : w.heap.size < W2.heap.size := Nat.lt_of_lt_of_le hWs hb2.size
  clear hW2 hOn x0 x1
  obtain ⟨x0, x1⟩ := box2 (HBx.out.below hb2 hWs)
  have CG := good_any _ x W2 ((HX.out.below hb2).wide hb2.size) HS.out
  rw [HLx.out, HTs.out] at CG
  clear hb2
  cases hq1 : goodB n1 ts with
  | false =>
    have hqf : loQ n1 ts = false := by unfold loQ; exact hq1
    have HF := Lib.hid (And.intro (HQd.out.symm.trans hqf) (HAd.out.symm.trans (lo_no hqf)))
    rw [hq1] at CG
    clear hq1 hqf
    go_enter Try.func44, Try.ntmps44
    go_wp2_with fail
    rw [HWq.out]
    try go_wp2_with fail
    rw [HW2.out]
    try go_wp2_with fail
    refine CG.mono ?_
    rintro e w9 ⟨rfl, hy⟩
    have HYB := Lib.hid hy
    clear CG x0 x1
    have hb9 := HB2.out.trans (hy.mono HB2.out.size)
    clear hy
    have HBz := Lib.hid (HB0.out.trans (hb9.mono HB0.out.size))
    have hOz := own_keep HOn.out ((Below.refl _ _).trans (show Below W2.heap.size W2 w9 from HYB.out))
    have HRz := Lib.hid ((Res.of_owns hOz).wide (lo' := w.heap.size) (hi' := w9.heap.size) (by omega) (Nat.le_refl _))
    clear hOz hb9
    go_wp2_with fail
    refine bodyPost_ret (results_tmp2 rfl _ _ _) rfl ?_
    exact ⟨_, by rw [HF.out.1]; rfl, by rw [HF.out.2]; exact HRz.out, HBz.out⟩
  | true =>
    have HQ1 := Lib.hid hq1
    rw [hq1] at CG
    clear hq1
    have hqt : loQ n1 ts = true := HQ1.out
    have HTq := Lib.hid (And.intro (HQd.out.symm.trans hqt) (HAd.out.symm.trans (lo_yes hqt)))
    clear hqt
    go_enter Try.func44, Try.ntmps44
    go_wp2_with fail
    rw [HWq.out]
    try go_wp2_with fail
    rw [HW2.out]
    try go_wp2_with fail
    refine CG.mono ?_
    rintro e w9 ⟨rfl, hy⟩
    have HYB := Lib.hid hy
    clear CG x0 x1
    have hb9 := HB2.out.trans (hy.mono HB2.out.size)
    clear hy
    have HB9W := Lib.hid hb9
    have HO9 := Lib.hid (own_keep HOn.out HYB.out)
    have hz9 := hb9.size
    clear hb9
    go_wp2_with fail
    have hn4 := goodB_n HQ1.out
    have HReach := Lib.hid (fun (i : Nat) (hi : i < n1) (Y : World) (hY : Below W.heap.size W Y) => lreach_any A1 A2 n1 c1 n2 c2 ts (i : Int) Y ((HT.out.below hY).wide hY.size) (by omega) hn2 (by omega) (good_to HQ1.out))
    have HRln := Lib.hid (fun (i : Nat) (hi : i < n1) => show (rcL n1 ts i).length ≤ n1 from rnds_len (by omega) (good_to HQ1.out) n1)
    go_loopw [4, 5] (fun v i wr => ∃ k : Nat, k ≤ n1 ∧ i = .int .i64 k ∧ Owns wr W.heap.size 3 v ((loL n1 ts k).map (Value.int .i64)) ∧ Below W.heap.size W wr) (fun _ i _ => n1 - (intOf i).toNat)
    case atStart => exact ⟨0, Nat.zero_le _, rfl, HO9.out, HB9W.out⟩
    case round =>
      obtain ⟨k, hk, rfl, hown, hbel⟩ := hrel
      have HO := Lib.hid hown
      have HBW := Lib.hid hbel
      have HBel := Lib.hid (HB0.out.trans (hbel.mono HB0.out.size))
      have hWw : w.heap.size ≤ W.heap.size := by have := HB0.out.size; omega
      obtain ⟨x0, x1⟩ := box2 (HBx.out.below hbel hWs)
      clear hown hbel
      by_cases hlt : k < n1
      · have hm1 : (k : Int) - 1 = ((k : Nat) : Int) - 1 := rfl
        have HLs := Lib.hid (show loL n1 ts (k + 1) = loL n1 ts k ++ [(lpF (bothB n1 ts k) k 0 : Int)] from loL_succ n1 ts k)
        have HLl := Lib.hid (loL_len n1 ts k)
        obtain ⟨zs, hzs⟩ : ∃ zs, loL n1 ts k = zs := ⟨_, rfl⟩
        rw [hzs] at HO HLs HLl
        obtain ⟨F, hF⟩ : ∃ F, bothB n1 ts k = F := ⟨_, rfl⟩
        rw [hF] at HLs
        have HFd := Lib.hid hF
        clear hzs hF
        go_wp2_with fail
        rename World => wo
        clear x0 x1
        go_loopw [6, 7] (fun l q wr => ∃ j : Nat, j ≤ k ∧ q = .int .i64 ((j : Int) - 1) ∧ l = .int .i64 (lpF F k j : Int) ∧ Below wo.heap.size wo wr) (fun _ q _ => (intOf q + 1).toNat)
        case atStart => exact ⟨k, Nat.le_refl _, by first | rfl | go_num, by rw [lpF_end], Below.refl _ _⟩
        case round =>
          obtain ⟨j, hj, rfl, rfl, hbel⟩ := hrel
          have HBi := Lib.hid hbel
          have HBWi := Lib.hid (HBW.out.trans (hbel.mono HBW.out.size))
          obtain ⟨x0, x1⟩ := box2 (HBx.out.below HBWi.out hWs)
          have hle : lpF F k j ≤ k := lpF_le (k - j) j (by omega)
          clear hbel
          by_cases hj0 : 0 < j
          · obtain ⟨q, rfl⟩ : ∃ q, j = q + 1 := ⟨j - 1, by omega⟩
            have hqe : ((q + 1 : Nat) : Int) - 1 = (q : Int) := by omega
            rw [hqe]
            have HY := Lib.hid (@lpF_yes F k q (by omega))
            have HN := Lib.hid (@lpF_no F k q (by omega))
            have CR := HReach.out k hlt wr HBWi.out
            have hrl := HRln.out k hlt
            go_wp2_with fail
            refine CR.mono ?_
            rintro e w3 ⟨v3, rfl, ho3, hb3⟩
            have HBi3 := Lib.hid (HBi.out.trans (hb3.mono HBi.out.size))
            have HBW3 := Lib.hid (HBWi.out.trans (hb3.mono HBWi.out.size))
            clear CR x0 x1 hb3
            obtain ⟨x0, x1⟩ := box2 (HBx.out.below HBW3.out hWs)
            obtain ⟨g4, cp4, rfl, hg1, hg2', hmc, hsr⟩ := ho3.at
            rw [List.length_map] at hsr ⊢
            have CH := l1Has_any (some ⟨g4, 0, none⟩) (rcL n1 ts k).length cp4 (rcL n1 ts k) (q : Int) w3 _ hsr (by omega)
            obtain ⟨R, hR⟩ : ∃ R, (rcL n1 ts k).length = R := ⟨_, rfl⟩
            rw [hR] at CH ⊢
            clear ho3 hg1 hg2' hmc hsr hR
            cases hq1 : hasB (rcL n1 ts k) q with
            | false =>
              rw [hq1] at CH
              have hFq : F q = false := by rw [← HFd.out]; unfold bothB; rw [hq1]; rfl
              have HE := Lib.hid (HN.out hFq)
              clear hq1 hFq
              go_wp2_with fail
              refine CH.mono ?_
              rintro e w4 ⟨rfl, rfl⟩
              clear CH
              go_wp2_with fail
              go_roundw
              case rel => exact ⟨q, by omega, by first | rfl | go_num, by rw [HE.out], HBi3.out⟩
              case measure => simp [intOf] <;> omega
            | true =>
              rw [hq1] at CH
              have HQ1' := Lib.hid hq1
              clear hq1
              have CR2 := HReach.out q (by omega) w3 HBW3.out
              have hrl2 := HRln.out q (by omega)
              go_wp2_with fail
              refine CH.mono ?_
              rintro e w4 ⟨rfl, rfl⟩
              clear CH
              go_wp2_with fail
              refine CR2.mono ?_
              rintro e w4 ⟨v4, rfl, ho4, hb4⟩
              have HBi4 := Lib.hid (HBi3.out.trans (hb4.mono HBi3.out.size))
              have HBW4 := Lib.hid (HBW3.out.trans (hb4.mono HBW3.out.size))
              clear CR2 x0 x1 hb4
              obtain ⟨x0, x1⟩ := box2 (HBx.out.below HBW4.out hWs)
              obtain ⟨g5, cp5, rfl, hg1, hg2', hmc, hsr⟩ := ho4.at
              rw [List.length_map] at hsr ⊢
              have CH := l1Has_any (some ⟨g5, 0, none⟩) (rcL n1 ts q).length cp5 (rcL n1 ts q) (k : Int) w4 _ hsr (by omega)
              obtain ⟨R2, hR2⟩ : ∃ R, (rcL n1 ts q).length = R := ⟨_, rfl⟩
              rw [hR2] at CH ⊢
              clear ho4 hg1 hg2' hmc hsr hR2
              cases hq2 : hasB (rcL n1 ts q) k with
              | false =>
                rw [hq2] at CH
                have hFq : F q = false := by rw [← HFd.out]; unfold bothB; rw [hq2, Bool.and_false]
                have HE := Lib.hid (HN.out hFq)
                clear hq2 hFq
                go_wp2_with fail
                refine CH.mono ?_
                rintro e w5 ⟨rfl, rfl⟩
                clear CH
                go_wp2_with fail
                go_roundw
                case rel => exact ⟨q, by omega, by first | rfl | go_num, by rw [HE.out], HBi4.out⟩
                case measure => simp [intOf] <;> omega
              | true =>
                rw [hq2] at CH
                have hFq : F q = true := by rw [← HFd.out]; unfold bothB; rw [hq2, HQ1'.out]; rfl
                have HE := Lib.hid (HY.out hFq)
                clear hq2 hFq
                go_wp2_with fail
                refine CH.mono ?_
                rintro e w5 ⟨rfl, rfl⟩
                clear CH
                go_wp2_with fail
                go_roundw
                case rel => exact ⟨q, by omega, by first | rfl | go_num, by rw [HE.out], HBi4.out⟩
                case measure => simp [intOf] <;> omega
          · obtain rfl : j = 0 := by omega
            have HO5 := Lib.hid (own_keep HO.out HBi.out)
            have hg5 : W.heap.size ≤ wr.heap.size := HBWi.out.size
            obtain ⟨M, hM⟩ : ∃ M, lpF F k 0 = M := ⟨_, rfl⟩
            rw [hM] at HLs hle ⊢
            obtain ⟨hown, hnn⟩ := HO5.out
            have HN := Lib.hid hnn
            obtain ⟨D, hD⟩ : ∃ D, zs.map (Value.int .i64) = D := ⟨_, rfl⟩
            have hDl : D.length = zs.length := by rw [← hD, List.length_map]
            rw [hD] at hown
            obtain ⟨q, hq⟩ : ∃ q, D.length = q := ⟨_, rfl⟩
            have hq2 : q ≤ 1048576 := by have := HLl.out; omega
            have HOq : Hid (wr.ownsRow W.heap.size 3 1 _ q D) := Lib.hid (by rw [← hq]; exact hown)
            have HD := Lib.hid hD
            have HQq : Hid (zs.length = q) := Lib.hid (hDl.symm.trans hq)
            have hlt0 := hown.lt
            clear hnn hD hq hown hDl hM
            go_wp2_with (at_builtin; refine wpList_append_own _ rfl _ _ 38 rfl W.heap.size 3 i0 (.int .i64 0) 1 8 Try.underlying38 HI.out.1 HI.out.2.1 HI.out.2.2.1 HI.out.2.2.2 rfl (by decide) _ _ _ rfl (HOq.out.alloc _) ⟨wr.heap.size, 0, none⟩ 1 1 [.int .i64 (M : Int)] rfl rfl (cell_one_new _ _ _) (fun u hu => by rw [List.mem_singleton.1 hu]; rfl) (by unfold maxLen; omega) (by omega) (by simp; omega) ?_; intro v1 w6 hown1 hgrow1 hnil1)
            have HB6 := Lib.hid ((HBWi.out.alloc hg5 (.cells #[.int .i64 (M : Int)] 3)).grown hgrow1 (by simp; omega) (fun j hj => (hlt0 j hj).1))
            have HOn1 := Lib.hid (own_push hown1 HD.out HQq.out (fun h => HN.out (hnil1.1 h).1))
            clear hown1 hgrow1 hnil1 hlt0
            go_wp2_with fail
            go_roundw
            case rel => exact ⟨k + 1, by omega, by go_num, by rw [HLs.out]; exact HOn1.out, HB6.out⟩
            case measure => simp [intOf]; omega
      · obtain rfl : n1 = k := by omega
        have HRz := Lib.hid ((Res.of_owns HO.out).wide (lo' := w.heap.size) (hi' := wr.heap.size) hWw (Nat.le_refl _))
        clear HO
        go_wp2_with fail
        refine bodyPost_ret (results_tmp2 rfl _ _ _) rfl ?_
        exact ⟨_, by rw [HTq.out.1]; rfl, by rw [HTq.out.2]; exact HRz.out, HBel.out⟩
end Go.Proofs.Ytlpgldejmdiceaa.los
