/- EndStates of spec and impl. -/
import Derived.Test.YtlpgldejmdiceaaSyr
import Derived.Test.YtlpgldejmdiceaaNwh
import Derived.Test.YtlpgldejmdiceaaSyz
namespace Go.Proofs.Ytlpgldejmdiceaa.eds
open kit bg sg opn strs only hb sig isig un over gn nm inn ht gd im pt marks eqs hc hi hw hn rs br bm bw cf lf ib isa lawb lw cl bgs cz syx sya syh syi syc syg syb syk syl syt has syr nwh syz
open Go.RowKit
set_option linter.unusedVariables false
set_option linter.unusedSimpArgs false

/-- no step leads from it -/
def endB (ts : List Tri) (z : Int) : Bool := decide ((outOf ts z).length = 0)
def esL (n : Nat) (ts : List Tri) : List Int := (nums n).filter (endB ts)
def esQ (n : Nat) (ts : List Tri) : Bool := goodB n ts
def esA (n : Nat) (ts : List Tri) : List Int := if esQ n ts = true then esL n ts else []
theorem es_no {n : Nat} {ts : List Tri} (h : esQ n ts = false) : esA n ts = [] := by unfold esA; rw [h]; rfl
theorem es_yes {n : Nat} {ts : List Tri} (h : esQ n ts = true) : esA n ts = esL n ts := by unfold esA; rw [if_pos h]
theorem esL_len (n : Nat) (ts : List Tri) : (esL n ts).length ≤ n := by
  unfold esL
  exact Nat.le_trans (List.length_filter_le _ _) (Nat.le_of_eq (nums_len n))
theorem esA_len {n : Nat} {ts : List Tri} : (esA n ts).length ≤ n := by
  unfold esA
  split
  · exact esL_len n ts
  · simp
theorem nums_succ (n : Nat) : nums (n + 1) = nums n ++ [(n : Int)] := by unfold nums; rw [List.range_succ, List.map_append]; rfl
theorem esL_in {k : Nat} {ts : List Tri} (h : (outOf ts k).length = 0) : esL (k + 1) ts = esL k ts ++ [(k : Int)] := by
  unfold esL
  rw [nums_succ, List.filter_append]
  simp [endB, h]
theorem esL_out {k : Nat} {ts : List Tri} (h : ¬ (outOf ts k).length = 0) : esL (k + 1) ts = esL k ts := by
  unfold esL
  rw [nums_succ, List.filter_append]
  simp [endB, h]
set_option maxRecDepth 20000 in
set_option maxHeartbeats 6400000 in
theorem sEs_any (v : Value) (x : Sysm) (w : World) (hv : SysAt w w.heap.size v x) (hs : sysWt x ≤ 1048576) :
    Calls Try.prog 42 #[v] w (ResPost 3 (esQ x.states.length x.steps) ((esA x.states.length x.steps).map (Value.int .i64)) w) := by
  obtain ⟨A1, n1, c1, A2, n2, c2, rfl, h1, h2⟩ := hv
  have hl1 := h1.1
  have hl2 := h2.1
  have hn1 : n1 ≤ 1048576 := by unfold sysWt bgsWt at hs; omega
  have hn2 : n2 ≤ 1048576 := by unfold sysWt bgsWt at hs; omega
  have HB0 := Lib.hid ((Below.refl w.heap.size w).alloc (Nat.le_refl _) (.cells #[.slice A1 n1 c1, .slice A2 n2 c2] 32))
  have HBx := Lib.hid (BoxN.new w #[.slice A1 n1 c1, .slice A2 n2 c2] 32)
  obtain ⟨W, hW⟩ : ∃ W, w.alloc (.cells #[.slice A1 n1 c1, .slice A2 n2 c2] 32) = W := ⟨_, rfl⟩
  rw [hW] at HBx HB0
  have HWq := Lib.hid hW
  have hWs := HBx.out.lt
  have HX : Hid (SysAt W W.heap.size (.agg #[.slice A1 n1 c1, .slice A2 n2 c2]) x) := Lib.hid (((show SysAt w w.heap.size _ x from ⟨A1, n1, c1, A2, n2, c2, rfl, h1, h2⟩).below HB0.out).wide HB0.out.size)
  have HT := Lib.hid ((h2.below HB0.out).wide HB0.out.size)
  have HL2 := Lib.hid hl2
  have HS := Lib.hid hs
  obtain ⟨x0, x1⟩ := box2 HBx.out
  have HT0 := Lib.hid h2
  rw [hl1]
  have HLx := Lib.hid hl1
  obtain ⟨ts, hts⟩ : ∃ ts, x.steps = ts := ⟨_, rfl⟩
  have HTs := Lib.hid hts
  rw [hts] at HT HT0 HL2 ⊢
  obtain ⟨A, hA⟩ : ∃ V, esA n1 ts = V := ⟨_, rfl⟩
  obtain ⟨Q, hQ⟩ : ∃ Q, esQ n1 ts = Q := ⟨_, rfl⟩
  rw [hA, hQ]
  have HQd := Lib.hid hQ
  have HAd := Lib.hid hA
  obtain ⟨i0, hi, hz0, hz1, hz2⟩ := info_parts int_info
  have HI := Lib.hid (And.intro hi (And.intro hz0 (And.intro hz1 hz2)))
  clear hW h1 h2 hA hQ hl1 hl2 hts hs hi hz0 hz1 hz2
  have hsz1 : W.heap.size = w.heap.size + 1 := by rw [← HWq.out]; simp
  have hOn : Owns (W.alloc (.cells #[] 3)) W.heap.size 3 (.slice (some ⟨w.heap.size + 1, 0, none⟩) 0 0) [] := by rw [← hsz1]; exact own_new W
  have hb2 := (Below.refl W.heap.size W).alloc (Nat.le_refl _) (.cells #[] 3)
  obtain ⟨W2, hW2⟩ : ∃ W2, W.alloc (.cells #[] 3) = W2 := ⟨_, rfl⟩
  rw [hW2] at hOn hb2
  have HOn := Lib.hid hOn
  have HB2 := Lib.hid hb2
  have HW2 := Lib.hid hW2
  have hWs2 : w.heap.size < W2.heap.size := Nat.lt_of_lt_of_le hWs hb2.size
  clear hW2 hOn x0 x1
  obtain ⟨x0, x1⟩ := box2 (HBx.out.below hb2 hWs)
  have CG := good_any _ x W2 ((HX.out.below hb2).wide hb2.size) HS.out
  rw [HLx.out, HTs.out] at CG
  clear hb2
  cases hq1 : goodB n1 ts with
  | false =>
    have hqf : esQ n1 ts = false := by unfold esQ; exact hq1
    have HF := Lib.hid (And.intro (HQd.out.symm.trans hqf) (HAd.out.symm.trans (es_no hqf)))
    rw [hq1] at CG
    clear hq1 hqf
    go_enter Try.func42, Try.ntmps42
    go_wp2_with fail
    rw [HWq.out]
    try go_wp2_with fail
    rw [HW2.out]
    try go_wp2_with fail
    refine CG.mono ?_
    rintro e w9 ⟨rfl, hy⟩
    have HYB := Lib.hid hy
    clear CG x0 x1
    have hb9 := HB2.out.trans (hy.mono HB2.out.size)
    clear hy
    have HBz := Lib.hid (HB0.out.trans (hb9.mono HB0.out.size))
    have hOz := own_keep HOn.out ((Below.refl _ _).trans (show Below W2.heap.size W2 w9 from HYB.out))
    have HRz := Lib.hid ((Res.of_owns hOz).wide (lo' := w.heap.size) (hi' := w9.heap.size) (by omega) (Nat.le_refl _))
    clear hOz hb9
    go_wp2_with fail
    refine bodyPost_ret (results_tmp2 rfl _ _ _) rfl ?_
    exact ⟨_, by rw [HF.out.1]; rfl, by rw [HF.out.2]; exact HRz.out, HBz.out⟩
  | true =>
    have HQ1 := Lib.hid hq1
    rw [hq1] at CG
    clear hq1
    have hqt : esQ n1 ts = true := HQ1.out
    have HTq := Lib.hid (And.intro (HQd.out.symm.trans hqt) (HAd.out.symm.trans (es_yes hqt)))
    clear hqt
    go_enter Try.func42, Try.ntmps42
    go_wp2_with fail
    rw [HWq.out]
    try go_wp2_with fail
    rw [HW2.out]
    try go_wp2_with fail
    refine CG.mono ?_
    rintro e w9 ⟨rfl, hy⟩
    have HYB := Lib.hid hy
    clear CG x0 x1
    have hb9 := HB2.out.trans (hy.mono HB2.out.size)
    clear hy
    have HB9W := Lib.hid hb9
    have HO9 := Lib.hid (own_keep HOn.out HYB.out)
    have hz9 := hb9.size
    clear hb9
    go_wp2_with fail
    go_loopw [4, 5] (fun v i wr => ∃ k : Nat, k ≤ n1 ∧ i = .int .i64 k ∧ Owns wr W.heap.size 3 v ((esL k ts).map (Value.int .i64)) ∧ Below W.heap.size W wr) (fun _ i _ => n1 - (intOf i).toNat)
    case atStart => exact ⟨0, Nat.zero_le _, rfl, HO9.out, HB9W.out⟩
    case round =>
      obtain ⟨k, hk, rfl, hown, hbel⟩ := hrel
      have HO := Lib.hid hown
      have HBW := Lib.hid hbel
      have HBel := Lib.hid (HB0.out.trans (hbel.mono HB0.out.size))
      have hWw : w.heap.size ≤ W.heap.size := by have := HB0.out.size; omega
      have hgw : W.heap.size ≤ wr.heap.size := hbel.size
      obtain ⟨x0, x1⟩ := box2 (HBx.out.below hbel hWs)
      clear hown hbel
      by_cases hlt : k < n1
      · have hti : TriAt wr wr.heap.size A2 n2 ts := (HT.out.below HBW.out).wide HBW.out.size
        have CF := lfrom_any A1 A2 n1 c1 n2 c2 ts (k : Int) wr hti hn2
        have hol := out_len ts (k : Int)
        have hol2 : (outOf ts (k : Int)).length ≤ 1048576 := by have := HL2.out; omega
        go_wp2_with fail
        refine CF.mono ?_
        rintro e w5 ⟨g5, c5, rfl, -, hb5⟩
        have HO5 := Lib.hid (own_keep HO.out hb5)
        have HBW5 := Lib.hid (HBW.out.trans (hb5.mono hgw))
        have hg5 : W.heap.size ≤ w5.heap.size := HBW5.out.size
        clear CF hti x0 x1 hb5
        obtain ⟨R, hR⟩ : ∃ R, (outOf ts (k : Int)).length = R := ⟨_, rfl⟩
        rw [hR] at hol hol2 ⊢
        by_cases hR0 : R = 0
        · have HEs := Lib.hid (esL_in (k := k) (ts := ts) (hR.trans hR0))
          subst hR0
          obtain ⟨hown, hnn⟩ := HO5.out
          have hlen := esL_len k ts
          have HN := Lib.hid hnn
          obtain ⟨zs, hzs⟩ : ∃ zs, esL k ts = zs := ⟨_, rfl⟩
          rw [hzs] at hlen HEs hown
          obtain ⟨D, hD⟩ : ∃ D, zs.map (Value.int .i64) = D := ⟨_, rfl⟩
          have hDl : D.length = zs.length := by rw [← hD, List.length_map]
          rw [hD] at hown
          obtain ⟨q, hq⟩ : ∃ q, D.length = q := ⟨_, rfl⟩
          have hq2 : q ≤ 1048576 := by omega
          have HOq : Hid (w5.ownsRow W.heap.size 3 1 _ q D) := Lib.hid (by rw [← hq]; exact hown)
          have HD := Lib.hid hD
          have HQq : Hid (zs.length = q) := Lib.hid (hDl.symm.trans hq)
          have hlt0 := hown.lt
          clear hnn hzs hD hq hlen hown hDl hR
          go_wp2_with (at_builtin; refine wpList_append_own _ rfl _ _ 38 rfl W.heap.size 3 i0 (.int .i64 0) 1 8 Try.underlying38 HI.out.1 HI.out.2.1 HI.out.2.2.1 HI.out.2.2.2 rfl (by decide) _ _ _ rfl (HOq.out.alloc _) ⟨w5.heap.size, 0, none⟩ 1 1 [.int .i64 (k : Int)] rfl rfl (cell_one_new _ _ _) (fun u hu => by rw [List.mem_singleton.1 hu]; rfl) (by unfold maxLen; omega) (by omega) (by simp; omega) ?_; intro v1 w6 hown1 hgrow1 hnil1)
          have HB6 := Lib.hid ((HBW5.out.alloc hg5 (.cells #[.int .i64 (k : Int)] 3)).grown hgrow1 (by simp; omega) (fun j hj => (hlt0 j hj).1))
          have HOn1 := Lib.hid (own_push hown1 HD.out HQq.out (fun h => HN.out (hnil1.1 h).1))
          clear hown1 hgrow1 hnil1 hlt0
          go_wp2_with fail
          go_roundw
          case rel => exact ⟨k + 1, by omega, by go_num, by rw [HEs.out]; exact HOn1.out, HB6.out⟩
          case measure => simp [intOf]; omega
        · have HEs := Lib.hid (esL_out (k := k) (ts := ts) (by rw [hR]; exact hR0))
          clear hR
          go_wp2_with fail
          go_roundw
          case rel => exact ⟨k + 1, by omega, by go_num, by rw [HEs.out]; exact HO5.out, HBW5.out⟩
          case measure => simp [intOf]; omega
      · obtain rfl : n1 = k := by omega
        have HRz := Lib.hid ((Res.of_owns HO.out).wide (lo' := w.heap.size) (hi' := wr.heap.size) hWw (Nat.le_refl _))
        clear HO
        go_wp2_with fail
        refine bodyPost_ret (results_tmp2 rfl _ _ _) rfl ?_
        exact ⟨_, by rw [HTq.out.1]; rfl, by rw [HTq.out.2]; exact HRz.out, HBel.out⟩

set_option maxRecDepth 20000 in
set_option maxHeartbeats 1600000 in
theorem es1_any (β : Nat) (A1 : Option Addr) (g2 n1 c1 n2 : Nat) (ts : List Tri) (z : Int) (w : World) (hx0 : w.cell? ⟨β, 0, none⟩ = some (.slice A1 n1 c1)) (hx1 : w.cell? ⟨β, 1, none⟩ = some (.slice (some ⟨g2, 0, none⟩) n2 n2)) (h : TriAt w w.heap.size (some ⟨g2, 0, none⟩) n2 ts) (hn2 : n2 ≤ 1048576) (hp : ts.Pairwise (fun a b => a.1 ≤ b.1)) (hz : -1048576 ≤ z ∧ z ≤ 1048576) :
    Calls Try.prog 89 #[.int .i64 z, .pointer (some ⟨β, 0, none⟩)] w (Post (endB ts z) w) := by
  have C := sfrom_any A1 g2 n1 c1 n2 ts z w h hn2 hp hz
  have hol := out_len ts z
  have hl2 := h.1
  have hol2 : (outOf ts z).length ≤ 1048576 := by omega
  unfold endB
  obtain ⟨R, hR⟩ : ∃ R, (outOf ts z).length = R := ⟨_, rfl⟩
  rw [hR] at hol2 ⊢
  clear hol hl2 h
  go_enter Try.func89, Try.ntmps89
  go_wp2_with fail
  refine C.mono ?_
  rintro e w1 ⟨off, c, rfl, -, hb⟩
  rw [hR]
  have HB := Lib.hid hb
  clear C hb hR
  by_cases hR0 : R = 0
  · subst hR0
    go_wp2_with fail
    go_ret
    exact ⟨rfl, HB.out⟩
  · have hd : decide (R = 0) = false := decide_eq_false hR0
    go_wp2_with fail
    go_ret
    have hneg : ((R : Int) == 0) = false := by rw [beq_eq_false_iff_ne]; omega
    exact ⟨by rw [hd]; show Ending.returned (.bool ((R : Int) == 0)) = _; rw [hneg], HB.out⟩
set_option maxRecDepth 20000 in
set_option maxHeartbeats 6400000 in
theorem iEs_any (v : Value) (x : Sysm) (w : World) (hv : SysAt w w.heap.size v x) (hs : sysWt x ≤ 1048576) (hcap : CapS v) :
    Calls Try.prog 43 #[v] w (ResPost 3 (esQ x.states.length x.steps) ((esA x.states.length x.steps).map (Value.int .i64)) w) := by
  obtain ⟨A1, n1, c1, A2, n2, c2, rfl, h1, h2⟩ := hv
  obtain ⟨A1', n1', c1', g2, n2', ecap⟩ := hcap
  simp only [Value.agg.injEq, Array.mk.injEq, List.cons.injEq, Value.slice.injEq, and_true] at ecap
  obtain ⟨⟨e1, e2, e3⟩, e4, e5, e6⟩ := ecap
  subst e1 e2 e3 e4 e6
  subst e5
  have hl1 := h1.1
  have hl2 := h2.1
  have hn1 : n1 ≤ 1048576 := by unfold sysWt bgsWt at hs; omega
  have hn2 : n2 ≤ 1048576 := by unfold sysWt bgsWt at hs; omega
  have HB0 := Lib.hid ((Below.refl w.heap.size w).alloc (Nat.le_refl _) (.cells #[.slice A1 n1 c1, .slice (some ⟨g2, 0, none⟩) n2 n2] 32))
  have HBx := Lib.hid (BoxN.new w #[.slice A1 n1 c1, .slice (some ⟨g2, 0, none⟩) n2 n2] 32)
  obtain ⟨W, hW⟩ : ∃ W, w.alloc (.cells #[.slice A1 n1 c1, .slice (some ⟨g2, 0, none⟩) n2 n2] 32) = W := ⟨_, rfl⟩
  rw [hW] at HBx HB0
  have HWq := Lib.hid hW
  have hWs := HBx.out.lt
  have HX : Hid (SysAt W W.heap.size (.agg #[.slice A1 n1 c1, .slice (some ⟨g2, 0, none⟩) n2 n2]) x) := Lib.hid (((show SysAt w w.heap.size _ x from ⟨A1, n1, c1, (some ⟨g2, 0, none⟩), n2, n2, rfl, h1, h2⟩).below HB0.out).wide HB0.out.size)
  have HT := Lib.hid ((h2.below HB0.out).wide HB0.out.size)
  have HL2 := Lib.hid hl2
  have HS := Lib.hid hs
  obtain ⟨x0, x1⟩ := box2 HBx.out
  have CG := isSys_any _ x W HX.out hs
  rw [hl1] at CG
  rw [hl1]
  have HL1 := Lib.hid hl1
  obtain ⟨ts, hts⟩ : ∃ ts, x.steps = ts := ⟨_, rfl⟩
  rw [hts] at HT CG HL2 ⊢
  have HTs := Lib.hid hts
  obtain ⟨V, hV⟩ : ∃ V, esA n1 ts = V := ⟨_, rfl⟩
  obtain ⟨Q, hQ⟩ : ∃ Q, esQ n1 ts = Q := ⟨_, rfl⟩
  rw [hV, hQ]
  have HQd := Lib.hid hQ
  have HVd := Lib.hid hV
  clear hW h1 h2 hV hQ hl1 hl2 hts hs
  go_enter Try.func43, Try.ntmps43
  go_wp2_with fail
  rw [HWq.out]
  try go_wp2_with fail
  refine CG.mono ?_
  rintro e w1 ⟨rfl, hb1⟩
  clear CG x0 x1
  obtain ⟨x0, x1⟩ := box2 (HBx.out.below hb1 hWs)
  have HB1 := Lib.hid hb1
  clear hb1
  cases hq1 : goodB n1 ts with
  | false =>
    have hqf : esQ n1 ts = false := hq1
    have HF := Lib.hid (And.intro (HQd.out.symm.trans hqf) (HVd.out.symm.trans (es_no hqf)))
    clear hq1 hqf
    go_wp2_with fail
    refine bodyPost_ret (results_tmp2 rfl _ _ _) rfl ?_
    exact ⟨_, by rw [HF.out.1]; rfl, by rw [HF.out.2]; exact Res.nil, HB0.out.trans (HB1.out.mono HB0.out.size)⟩
  | true =>
    have hqt : esQ n1 ts = true := hq1
    have HTq := Lib.hid (And.intro (HQd.out.symm.trans hqt) (HVd.out.symm.trans (es_yes hqt)))
    have HFs := Lib.hid (goodB_fst hq1)
    clear hq1 hqt
    have CN := Lib.hid (nwh_any 89 #[.pointer (some ⟨w.heap.size, 0, none⟩)] (endB ts) (fun _ _ => by rfl) n1 w1 hn1 (fun z Y hz hY => by
      have hYW := HB1.out.trans (hY.mono HB1.out.size)
      have hbz : -1048576 ≤ z ∧ z ≤ 1048576 := by
        unfold nums at hz
        obtain ⟨k, hk, rfl⟩ := List.mem_map.1 hz
        have := List.mem_range.1 hk
        omega
      exact es1_any w.heap.size A1 g2 n1 c1 n2 ts z Y ((HBx.out.below hYW hWs).cell (i := 0) rfl) ((HBx.out.below hYW hWs).cell (i := 1) rfl) ((HT.out.below hYW).wide hYW.size) hn2 HFs.out hbz))
    go_wp2_with fail
    refine CN.out.mono ?_
    rintro e w2 ⟨v2, rfl, hr, hb2⟩
    have HB2 := Lib.hid (HB0.out.trans ((HB1.out.trans (hb2.mono HB1.out.size)).mono HB0.out.size))
    have HR := Lib.hid (hr.wide (lo' := w.heap.size) (hi' := w2.heap.size) (Nat.le_trans HB0.out.size HB1.out.size) (Nat.le_refl _))
    clear hr hb2
    go_wp2_with fail
    refine bodyPost_ret (results_tmp2 rfl _ _ _) rfl ?_
    exact ⟨_, by rw [HTq.out.1]; rfl, by rw [HTq.out.2]; exact HR.out, HB2.out⟩
end Go.Proofs.Ytlpgldejmdiceaa.eds
