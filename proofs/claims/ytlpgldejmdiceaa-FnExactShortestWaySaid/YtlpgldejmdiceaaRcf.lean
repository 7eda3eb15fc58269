/- ReachedFrom and AlwaysHas of spec and impl. -/
import Derived.Test.YtlpgldejmdiceaaRci
import Derived.Test.YtlpgldejmdiceaaSyz
namespace Go.Proofs.Ytlpgldejmdiceaa.rcf
open kit bg sg opn strs only hb sig isig un over gn nm inn ht gd im pt marks eqs hc hi hw hn rs br bm bw cf lf ib isa lawb lw cl bgs cz has syx sya rea syh syi syc syg syb syk syl syt syr rcs rci syz
open Go.RowKit
set_option linter.unusedVariables false
set_option linter.unusedSimpArgs false
def rfQ (n : Nat) (ts : List Tri) (z : Int) : Bool := goodB n ts && inb z 0 ((n : Int) - 1)
def rfA (n : Nat) (ts : List Tri) (z : Int) : List Int := if rfQ n ts z = true then rcL n ts z else []
def ahQ (n : Nat) (ts : List Tri) (z : Int) (gs : List Int) : Bool := goodB n ts && (inb z 0 ((n : Int) - 1) && golB n gs)
def ahV (n : Nat) (ts : List Tri) (z : Int) (gs : List Int) : Bool := ahQ n ts z gs && (rcL n ts z).all (hasB gs)
theorem rf_no {n : Nat} {ts : List Tri} {z : Int} (h : rfQ n ts z = false) : rfA n ts z = [] := by unfold rfA; rw [h]; rfl
theorem rf_yes {n : Nat} {ts : List Tri} {z : Int} (h : rfQ n ts z = true) : rfA n ts z = rcL n ts z := by unfold rfA; rw [if_pos h]
theorem ah_no {n : Nat} {ts : List Tri} {z : Int} {gs : List Int} (h : ahQ n ts z gs = false) : ahV n ts z gs = false := by unfold ahV; rw [h]; rfl
theorem ah_yes {n : Nat} {ts : List Tri} {z : Int} {gs : List Int} (h : ahQ n ts z gs = true) : ahV n ts z gs = (rcL n ts z).all (hasB gs) := by unfold ahV; rw [h]; rfl
theorem good_to {n : Nat} {ts : List Tri} (h : goodB n ts = true) : ∀ t ∈ ts, 0 ≤ t.2.2 ∧ t.2.2 < (n : Int) := fun t ht => ⟨(goodB_mem h ht).2.2.2.2.1, (goodB_mem h ht).2.2.2.2.2⟩
theorem in_to {n : Nat} {z : Int} (h : inb z 0 ((n : Int) - 1) = true) : 0 ≤ z ∧ z < (n : Int) := by have := inb_true h; omega
theorem rcL_len {n : Nat} {ts : List Tri} {z : Int} (h : goodB n ts = true) (hz : inb z 0 ((n : Int) - 1) = true) : (rcL n ts z).length ≤ n := rnds_len (in_to hz) (good_to h) n
theorem rfA_len {n : Nat} {ts : List Tri} {z : Int} : (rfA n ts z).length ≤ n := by
  unfold rfA
  split
  · rename_i h
    unfold rfQ at h
    rw [Bool.and_eq_true] at h
    exact rcL_len h.1 h.2
  · simp
theorem gol_asc {n : Nat} {gs : List Int} (h : golB n gs = true) : gs.Pairwise (· < ·) := by
  rw [← sel_ris, List.isSublist_iff_sublist] at h
  refine List.Pairwise.sublist h ?_
  unfold nums
  rw [List.pairwise_map]
  exact List.pairwise_lt_range.imp (fun hab => by omega)
theorem sel_has {L gs : List Int} (hl : Asc L) (hg : gs.Pairwise (· < ·)) : L.isSublist gs = L.all (hasB gs) := by
  rw [sel_all hl hg]
  congr 1
  funext x
  unfold hasB
  simp
set_option maxRecDepth 20000 in
set_option maxHeartbeats 6400000 in
theorem sRf_any (v : Value) (x : Sysm) (z : Int) (w : World) (hv : SysAt w w.heap.size v x) (hs : sysWt x ≤ 1048576) :
    Calls Try.prog 31 #[v, .int .i64 z] w (ResPost 3 (rfQ x.states.length x.steps z) ((rfA x.states.length x.steps z).map (Value.int .i64)) w) := by
  obtain ⟨A1, n1, c1, A2, n2, c2, rfl, h1, h2⟩ := hv
  have hl1 := h1.1
  have hl2 := h2.1
  have hn1 : n1 ≤ 1048576 := by unfold sysWt bgsWt at hs; omega
  have hn2 : n2 ≤ 1048576 := by unfold sysWt bgsWt at hs; omega
  have HB0 := Lib.hid ((Below.refl w.heap.size w).alloc (Nat.le_refl _) (.cells #[.slice A1 n1 c1, .slice A2 n2 c2] 32))
  have HBx := Lib.hid (BoxN.new w #[.slice A1 n1 c1, .slice A2 n2 c2] 32)
  obtain ⟨W, hW⟩ : ∃ W, w.alloc (.cells #[.slice A1 n1 c1, .slice A2 n2 c2] 32) = W := ⟨_, rfl⟩
  rw [hW] at HBx HB0
  have HWq := Lib.hid hW
  have hWs := HBx.out.lt
  have HX : Hid (SysAt W W.heap.size (.agg #[.slice A1 n1 c1, .slice A2 n2 c2]) x) := Lib.hid (((show SysAt w w.heap.size _ x from ⟨A1, n1, c1, _, _, _, rfl, h1, h2⟩).below HB0.out).wide HB0.out.size)
  have HT := Lib.hid ((h2.below HB0.out).wide HB0.out.size)
  have HL2 := Lib.hid hl2
  obtain ⟨x0, x1⟩ := box2 HBx.out
  have CG := good_any _ x W HX.out hs
  rw [hl1] at CG
  rw [hl1]
  obtain ⟨ts, hts⟩ : ∃ ts, x.steps = ts := ⟨_, rfl⟩
  rw [hts] at HT CG HL2 ⊢
  obtain ⟨V, hV⟩ : ∃ V, rfA n1 ts z = V := ⟨_, rfl⟩
  obtain ⟨Q, hQ⟩ : ∃ Q, rfQ n1 ts z = Q := ⟨_, rfl⟩
  rw [hV, hQ]
  have HQd := Lib.hid hQ
  have HVd := Lib.hid hV
  clear hW h1 h2 hV hQ hl1 hl2 hts hs
  go_enter Try.func31, Try.ntmps31
  go_wp2_with fail
  rw [HWq.out]
  try go_wp2_with fail
  refine CG.mono ?_
  rintro e w1 ⟨rfl, hb1⟩
  clear CG x0 x1
  obtain ⟨x0, x1⟩ := box2 (HBx.out.below hb1 hWs)
  have HB1 := Lib.hid hb1
  clear hb1
  cases hq1 : goodB n1 ts with
  | false =>
    have hqf : rfQ n1 ts z = false := by
      unfold rfQ
      rw [hq1]
      rfl
    have HF := Lib.hid (And.intro (HQd.out.symm.trans hqf) (HVd.out.symm.trans (rf_no hqf)))
    have HBr := Lib.hid (HB0.out.trans (HB1.out.mono HB0.out.size))
    clear hq1 hqf
    go_wp2_with fail
    refine bodyPost_ret (results_tmp2 rfl _ _ _) rfl ?_
    exact ⟨_, by rw [HF.out.1]; rfl, by rw [HF.out.2]; exact Res.empty HBr.out.size, HBr.out.alloc HBr.out.size _⟩
  | true =>
    have HQ1 := Lib.hid hq1
    clear hq1
    have hn4 := goodB_n HQ1.out
    have CT := l10State_any A1 A2 n1 c1 n2 c2 z w1 hn1
    go_wp2_with fail
    refine CT.mono ?_
    rintro e w2 ⟨rfl, hb2⟩
    have HB2 := Lib.hid (HB1.out.trans (hb2.mono HB1.out.size))
    clear CT x0 x1 hb2
    obtain ⟨x0, x1⟩ := box2 (HBx.out.below HB2.out hWs)
    cases hq2 : inb z 0 ((n1 : Int) - 1) with
    | false =>
      have hqf : rfQ n1 ts z = false := by
        unfold rfQ
        rw [HQ1.out, hq2]
        rfl
      have HF := Lib.hid (And.intro (HQd.out.symm.trans hqf) (HVd.out.symm.trans (rf_no hqf)))
      have HBr := Lib.hid (HB0.out.trans (HB2.out.mono HB0.out.size))
      clear hq2 hqf
      go_wp2_with fail
      refine bodyPost_ret (results_tmp2 rfl _ _ _) rfl ?_
      exact ⟨_, by rw [HF.out.1]; rfl, by rw [HF.out.2]; exact Res.empty HBr.out.size, HBr.out.alloc HBr.out.size _⟩
    | true =>
      have HQ2 := Lib.hid hq2
      clear hq2
      have hqt : rfQ n1 ts z = true := by
        unfold rfQ
        rw [HQ1.out, HQ2.out]
        rfl
      have HTq := Lib.hid (And.intro (HQd.out.symm.trans hqt) (HVd.out.symm.trans (rf_yes hqt)))
      have CR := lreach_any A1 A2 n1 c1 n2 c2 ts z w2 ((HT.out.below HB2.out).wide HB2.out.size) (by omega) hn2 (in_to HQ2.out) (good_to HQ1.out)
      clear hqt
      go_wp2_with fail
      refine CR.mono ?_
      rintro e w3 ⟨v3, rfl, ho3, hb3⟩
      have HB3 := Lib.hid (HB0.out.trans ((HB2.out.trans (hb3.mono HB2.out.size)).mono HB0.out.size))
      have HRz := Lib.hid ((Res.of_owns ho3).wide (lo' := w.heap.size) (hi' := w3.heap.size) (Nat.le_trans HB0.out.size HB2.out.size) (Nat.le_refl _))
      clear CR ho3 hb3
      go_wp2_with fail
      refine bodyPost_ret (results_tmp2 rfl _ _ _) rfl ?_
      exact ⟨_, by rw [HTq.out.1]; rfl, by rw [HTq.out.2]; exact HRz.out, HB3.out⟩
set_option maxRecDepth 20000 in
set_option maxHeartbeats 6400000 in
theorem iRf_any (v : Value) (x : Sysm) (z : Int) (w : World) (hv : SysAt w w.heap.size v x) (hs : sysWt x ≤ 1048576) (hcap : CapS v) :
    Calls Try.prog 32 #[v, .int .i64 z] w (ResPost 3 (rfQ x.states.length x.steps z) ((rfA x.states.length x.steps z).map (Value.int .i64)) w) := by
  obtain ⟨A1, n1, c1, A2, n2, c2, rfl, h1, h2⟩ := hv
  obtain ⟨A1', n1', c1', g2, n2', ecap⟩ := hcap
  simp only [Value.agg.injEq, Array.mk.injEq, List.cons.injEq, Value.slice.injEq, and_true] at ecap
  obtain ⟨⟨e1, e2, e3⟩, e4, e5, e6⟩ := ecap
  subst e1 e2 e3 e4 e6
  subst e5
  have hl1 := h1.1
  have hl2 := h2.1
  have hn1 : n1 ≤ 1048576 := by unfold sysWt bgsWt at hs; omega
  have hn2 : n2 ≤ 1048576 := by unfold sysWt bgsWt at hs; omega
  have HB0 := Lib.hid ((Below.refl w.heap.size w).alloc (Nat.le_refl _) (.cells #[.slice A1 n1 c1, .slice (some ⟨g2, 0, none⟩) n2 n2] 32))
  have HBx := Lib.hid (BoxN.new w #[.slice A1 n1 c1, .slice (some ⟨g2, 0, none⟩) n2 n2] 32)
  obtain ⟨W, hW⟩ : ∃ W, w.alloc (.cells #[.slice A1 n1 c1, .slice (some ⟨g2, 0, none⟩) n2 n2] 32) = W := ⟨_, rfl⟩
  rw [hW] at HBx HB0
  have HWq := Lib.hid hW
  have hWs := HBx.out.lt
  have HX : Hid (SysAt W W.heap.size (.agg #[.slice A1 n1 c1, .slice (some ⟨g2, 0, none⟩) n2 n2]) x) := Lib.hid (((show SysAt w w.heap.size _ x from ⟨A1, n1, c1, _, _, _, rfl, h1, h2⟩).below HB0.out).wide HB0.out.size)
  have HT := Lib.hid ((h2.below HB0.out).wide HB0.out.size)
  have HL2 := Lib.hid hl2
  obtain ⟨x0, x1⟩ := box2 HBx.out
  have CG := isSys_any _ x W HX.out hs
  rw [hl1] at CG
  rw [hl1]
  obtain ⟨ts, hts⟩ : ∃ ts, x.steps = ts := ⟨_, rfl⟩
  rw [hts] at HT CG HL2 ⊢
  obtain ⟨V, hV⟩ : ∃ V, rfA n1 ts z = V := ⟨_, rfl⟩
  obtain ⟨Q, hQ⟩ : ∃ Q, rfQ n1 ts z = Q := ⟨_, rfl⟩
  rw [hV, hQ]
  have HQd := Lib.hid hQ
  have HVd := Lib.hid hV
  clear hW h1 h2 hV hQ hl1 hl2 hts hs
  go_enter Try.func32, Try.ntmps32
  go_wp2_with fail
  rw [HWq.out]
  try go_wp2_with fail
  refine CG.mono ?_
  rintro e w1 ⟨rfl, hb1⟩
  clear CG x0 x1
  obtain ⟨x0, x1⟩ := box2 (HBx.out.below hb1 hWs)
  have HB1 := Lib.hid hb1
  clear hb1
  cases hq1 : goodB n1 ts with
  | false =>
    have hqf : rfQ n1 ts z = false := by
      unfold rfQ
      rw [hq1]
      rfl
    have HF := Lib.hid (And.intro (HQd.out.symm.trans hqf) (HVd.out.symm.trans (rf_no hqf)))
    have HBr := Lib.hid (HB0.out.trans (HB1.out.mono HB0.out.size))
    clear hq1 hqf
    go_wp2_with fail
    refine bodyPost_ret (results_tmp2 rfl _ _ _) rfl ?_
    exact ⟨_, by rw [HF.out.1]; rfl, by rw [HF.out.2]; exact Res.nil, HBr.out⟩
  | true =>
    have HQ1 := Lib.hid hq1
    clear hq1
    have hn4 := goodB_n HQ1.out
    have CT := isState_any A1 (some ⟨g2, 0, none⟩) n1 c1 n2 n2 z w1 hn1
    go_wp2_with fail
    refine CT.mono ?_
    rintro e w2 ⟨rfl, hb2⟩
    have HB2 := Lib.hid (HB1.out.trans (hb2.mono HB1.out.size))
    clear CT x0 x1 hb2
    obtain ⟨x0, x1⟩ := box2 (HBx.out.below HB2.out hWs)
    cases hq2 : inb z 0 ((n1 : Int) - 1) with
    | false =>
      have hqf : rfQ n1 ts z = false := by
        unfold rfQ
        rw [HQ1.out, hq2]
        rfl
      have HF := Lib.hid (And.intro (HQd.out.symm.trans hqf) (HVd.out.symm.trans (rf_no hqf)))
      have HBr := Lib.hid (HB0.out.trans (HB2.out.mono HB0.out.size))
      clear hq2 hqf
      go_wp2_with fail
      refine bodyPost_ret (results_tmp2 rfl _ _ _) rfl ?_
      exact ⟨_, by rw [HF.out.1]; rfl, by rw [HF.out.2]; exact Res.nil, HBr.out⟩
    | true =>
      have HQ2 := Lib.hid hq2
      clear hq2
      have hqt : rfQ n1 ts z = true := by
        unfold rfQ
        rw [HQ1.out, HQ2.out]
        rfl
      have HTq := Lib.hid (And.intro (HQd.out.symm.trans hqt) (HVd.out.symm.trans (rf_yes hqt)))
      have CR := ireach_any A1 g2 n1 c1 n2 ts z w2 ((HT.out.below HB2.out).wide HB2.out.size) (by omega) hn2 (goodB_fst HQ1.out) (in_to HQ2.out) (good_to HQ1.out)
      clear hqt
      go_wp2_with fail
      refine CR.mono ?_
      rintro e w3 ⟨v3, rfl, ho3, hb3⟩
      have HB3 := Lib.hid (HB0.out.trans ((HB2.out.trans (hb3.mono HB2.out.size)).mono HB0.out.size))
      have HRz := Lib.hid ((Res.of_owns ho3).wide (lo' := w.heap.size) (hi' := w3.heap.size) (Nat.le_trans HB0.out.size HB2.out.size) (Nat.le_refl _))
      clear CR ho3 hb3
      go_wp2_with fail
      refine bodyPost_ret (results_tmp2 rfl _ _ _) rfl ?_
      exact ⟨_, by rw [HTq.out.1]; rfl, by rw [HTq.out.2]; exact HRz.out, HB3.out⟩
set_option maxRecDepth 20000 in
set_option maxHeartbeats 6400000 in
theorem sAh_any (v : Value) (x : Sysm) (z : Int) (B : Option Addr) (m d : Nat) (gs : List Int) (w : World) (hv : SysAt w w.heap.size v x) (hs : sysWt x ≤ 1048576) (hg : IntsAt w w.heap.size B m gs) (hm : m ≤ 1048576) :
    Calls Try.prog 36 #[v, .int .i64 z, .slice B m d] w fun e w' => e = .returned (.tuple #[.bool (ahV x.states.length x.steps z gs), .bool (ahQ x.states.length x.steps z gs)]) ∧ Below w.heap.size w w' := by
  obtain ⟨A1, n1, c1, A2, n2, c2, rfl, h1, h2⟩ := hv
  have hl1 := h1.1
  have hl2 := h2.1
  have hn1 : n1 ≤ 1048576 := by unfold sysWt bgsWt at hs; omega
  have hn2 : n2 ≤ 1048576 := by unfold sysWt bgsWt at hs; omega
  have HB0 := Lib.hid ((Below.refl w.heap.size w).alloc (Nat.le_refl _) (.cells #[.slice A1 n1 c1, .slice A2 n2 c2] 32))
  have HBx := Lib.hid (BoxN.new w #[.slice A1 n1 c1, .slice A2 n2 c2] 32)
  obtain ⟨W, hW⟩ : ∃ W, w.alloc (.cells #[.slice A1 n1 c1, .slice A2 n2 c2] 32) = W := ⟨_, rfl⟩
  rw [hW] at HBx HB0
  have HWq := Lib.hid hW
  have hWs := HBx.out.lt
  have HX : Hid (SysAt W W.heap.size (.agg #[.slice A1 n1 c1, .slice A2 n2 c2]) x) := Lib.hid (((show SysAt w w.heap.size _ x from ⟨A1, n1, c1, _, _, _, rfl, h1, h2⟩).below HB0.out).wide HB0.out.size)
  have HT := Lib.hid ((h2.below HB0.out).wide HB0.out.size)
  have HL2 := Lib.hid hl2
  obtain ⟨x0, x1⟩ := box2 HBx.out
  have HGs := Lib.hid ((hg.below HB0.out).wide HB0.out.size)
  have CG := good_any _ x W HX.out hs
  rw [hl1] at CG
  rw [hl1]
  obtain ⟨ts, hts⟩ : ∃ ts, x.steps = ts := ⟨_, rfl⟩
  rw [hts] at HT CG HL2 ⊢
  obtain ⟨V, hV⟩ : ∃ V, ahV n1 ts z gs = V := ⟨_, rfl⟩
  obtain ⟨Q, hQ⟩ : ∃ Q, ahQ n1 ts z gs = Q := ⟨_, rfl⟩
  rw [hV, hQ]
  have HQd := Lib.hid hQ
  have HVd := Lib.hid hV
  clear hW h1 h2 hV hQ hl1 hl2 hts hs hg
  go_enter Try.func36, Try.ntmps36
  go_wp2_with fail
  rw [HWq.out]
  try go_wp2_with fail
  refine CG.mono ?_
  rintro e w1 ⟨rfl, hb1⟩
  clear CG x0 x1
  obtain ⟨x0, x1⟩ := box2 (HBx.out.below hb1 hWs)
  have HB1 := Lib.hid hb1
  clear hb1
  cases hq1 : goodB n1 ts with
  | false =>
    have hqf : ahQ n1 ts z gs = false := by
      unfold ahQ
      rw [hq1]
      rfl
    have HF := Lib.hid (And.intro (HQd.out.symm.trans hqf) (HVd.out.symm.trans (ah_no hqf)))
    have HBr := Lib.hid (HB0.out.trans (HB1.out.mono HB0.out.size))
    clear hq1 hqf
    go_wp2_with fail
    refine bodyPost_ret (results_tmp2 rfl _ _ _) rfl ?_
    exact ⟨by rw [HF.out.1, HF.out.2]; rfl, HBr.out⟩
  | true =>
    have HQ1 := Lib.hid hq1
    clear hq1
    have hn4 := goodB_n HQ1.out
    have CT := l10State_any A1 A2 n1 c1 n2 c2 z w1 hn1
    go_wp2_with fail
    refine CT.mono ?_
    rintro e w2 ⟨rfl, hb2⟩
    have HB2 := Lib.hid (HB1.out.trans (hb2.mono HB1.out.size))
    clear CT x0 x1 hb2
    obtain ⟨x0, x1⟩ := box2 (HBx.out.below HB2.out hWs)
    cases hq2 : inb z 0 ((n1 : Int) - 1) with
    | false =>
      have hqf : ahQ n1 ts z gs = false := by
        unfold ahQ
        rw [HQ1.out, hq2]
        rfl
      have HF := Lib.hid (And.intro (HQd.out.symm.trans hqf) (HVd.out.symm.trans (ah_no hqf)))
      have HBr := Lib.hid (HB0.out.trans (HB2.out.mono HB0.out.size))
      clear hq2 hqf
      go_wp2_with fail
      refine bodyPost_ret (results_tmp2 rfl _ _ _) rfl ?_
      exact ⟨by rw [HF.out.1, HF.out.2]; rfl, HBr.out⟩
    | true =>
      have HQ2 := Lib.hid hq2
      clear hq2
      have CGl := goals_any A1 A2 n1 c1 n2 c2 B m d gs w2 ((HGs.out.below HB2.out).wide HB2.out.size) hn1 hm
      go_wp2_with fail
      refine CGl.mono ?_
      rintro e w3 ⟨rfl, hb3⟩
      have HB3 := Lib.hid (HB2.out.trans (hb3.mono HB2.out.size))
      clear CGl x0 x1 hb3
      obtain ⟨x0, x1⟩ := box2 (HBx.out.below HB3.out hWs)
      cases hq3 : golB n1 gs with
      | false =>
        have hqf : ahQ n1 ts z gs = false := by
          unfold ahQ
          rw [HQ1.out, HQ2.out, hq3]
          rfl
        have HF := Lib.hid (And.intro (HQd.out.symm.trans hqf) (HVd.out.symm.trans (ah_no hqf)))
        have HBr := Lib.hid (HB0.out.trans (HB3.out.mono HB0.out.size))
        clear hq3 hqf
        go_wp2_with fail
        refine bodyPost_ret (results_tmp2 rfl _ _ _) rfl ?_
        exact ⟨by rw [HF.out.1, HF.out.2]; rfl, HBr.out⟩
      | true =>
        have HQ3 := Lib.hid hq3
        have hqt : ahQ n1 ts z gs = true := by
          unfold ahQ
          rw [HQ1.out, HQ2.out, hq3]
          rfl
        have HTq := Lib.hid (And.intro (HQd.out.symm.trans hqt) (HVd.out.symm.trans (ah_yes hqt)))
        have HLn := Lib.hid (rcL_len HQ1.out HQ2.out)
        have CR := lreach_any A1 A2 n1 c1 n2 c2 ts z w3 ((HT.out.below HB3.out).wide HB3.out.size) (by omega) hn2 (in_to HQ2.out) (good_to HQ1.out)
        clear hqt hq3
        go_wp2_with fail
        refine CR.mono ?_
        rintro e w4 ⟨v4, rfl, ho4, hb4⟩
        have HB4 := Lib.hid (HB3.out.trans (hb4.mono HB3.out.size))
        clear CR x0 x1
        obtain ⟨g4, cp4, rfl, hg1, hg2', hmc, hsr⟩ := ho4.at
        rw [List.length_map] at hsr ⊢
        have HSr := Lib.hid hsr
        obtain ⟨L, hL⟩ : ∃ L, rcL n1 ts z = L := ⟨_, rfl⟩
        rw [hL] at HSr HTq HLn ⊢
        obtain ⟨R, hR⟩ : ∃ R, L.length = R := ⟨_, rfl⟩
        rw [hR] at HSr HLn ⊢
        have HRl := Lib.hid hR
        have HBz := Lib.hid (HB0.out.trans (HB4.out.mono HB0.out.size))
        have hR2 := HLn.out
        clear ho4 hb4 hsr hL hR hmc hg1 hg2'
        go_wp2_with fail
        go_loopw [9] (fun i wr => ∃ k : Nat, k ≤ R ∧ i = .int .i64 k ∧ (∀ (j : Nat) a, j < k → L[j]? = some a → hasB gs a = true) ∧ w4 = wr) (fun i _ => R - (intOf i).toNat)
        case atStart => exact ⟨0, Nat.zero_le _, rfl, fun j a hj => absurd hj (Nat.not_lt_zero j), rfl⟩
        case round =>
          obtain ⟨k, hk, rfl, hok, rfl⟩ := hrel
          have HOk := Lib.hid hok
          clear hok
          by_cases hlt : k < R
          · obtain ⟨b, off, a, eA, hbb, hx, e0⟩ := IntsAt.get HSr.out hlt
            injection eA with eA
            injection eA with e1 e2
            subst e1 e2
            rw [Nat.zero_add] at e0
            have HX2 := Lib.hid hx
            have CH := l1Has_any B m d gs a w4 _ (HGs.out.below HB4.out) hm
            clear hx
            cases hq : hasB gs a with
            | true =>
              rw [hq] at CH
              have HN : Hid (∀ (j : Nat) u, j < k + 1 → L[j]? = some u → hasB gs u = true) := Lib.hid (fun j u hj hu => by
                by_cases e : j = k
                · subst e; rw [HX2.out] at hu; injection hu with hu; subst hu; exact hq
                · exact HOk.out j u (by omega) hu)
              clear hq
              go_wp2_with fail
              refine CH.mono ?_
              rintro e w5 ⟨rfl, rfl⟩
              clear CH
              go_wp2_with fail
              go_roundw
              case rel => exact ⟨k + 1, by omega, by go_num, HN.out, trivial⟩
              case measure => simp [intOf]; omega
            | false =>
              rw [hq] at CH
              have hal : L.all (hasB gs) = false := List.all_eq_false.2 ⟨a, List.mem_of_getElem? HX2.out, by rw [hq]; simp⟩
              have HV := Lib.hid (HTq.out.2.trans hal)
              clear hq hal
              go_wp2_with fail
              refine CH.mono ?_
              rintro e w5 ⟨rfl, rfl⟩
              clear CH
              go_wp2_with fail
              refine bodyPost_ret (results_tmp2 rfl _ _ _) rfl ?_
              exact ⟨by rw [HTq.out.1, HV.out]; rfl, HBz.out⟩
          · obtain rfl : k = R := by omega
            have hal : L.all (hasB gs) = true := List.all_eq_true.2 (fun a ha => by
              obtain ⟨j, hj⟩ := List.getElem?_of_mem ha
              exact HOk.out j a (by have := (List.getElem?_eq_some_iff.1 hj).1; have := HRl.out; omega) hj)
            have HV := Lib.hid (HTq.out.2.trans hal)
            clear hal
            go_wp2_with fail
            refine bodyPost_ret (results_tmp2 rfl _ _ _) rfl ?_
            exact ⟨by rw [HTq.out.1, HV.out]; rfl, HBz.out⟩
set_option maxRecDepth 20000 in
set_option maxHeartbeats 6400000 in
theorem iAh_any (v : Value) (x : Sysm) (z : Int) (B : Option Addr) (m d : Nat) (gs : List Int) (w : World) (hv : SysAt w w.heap.size v x) (hs : sysWt x ≤ 1048576) (hg : IntsAt w w.heap.size B m gs) (hm : m ≤ 1048576) (hd : d = m) (hcap : CapS v) :
    Calls Try.prog 37 #[v, .int .i64 z, .slice B m d] w fun e w' => e = .returned (.tuple #[.bool (ahV x.states.length x.steps z gs), .bool (ahQ x.states.length x.steps z gs)]) ∧ Below w.heap.size w w' := by
  subst hd
  obtain ⟨A1, n1, c1, A2, n2, c2, rfl, h1, h2⟩ := hv
  obtain ⟨A1', n1', c1', g2, n2', ecap⟩ := hcap
  simp only [Value.agg.injEq, Array.mk.injEq, List.cons.injEq, Value.slice.injEq, and_true] at ecap
  obtain ⟨⟨e1, e2, e3⟩, e4, e5, e6⟩ := ecap
  subst e1 e2 e3 e4 e6
  subst e5
  have hl1 := h1.1
  have hl2 := h2.1
  have hn1 : n1 ≤ 1048576 := by unfold sysWt bgsWt at hs; omega
  have hn2 : n2 ≤ 1048576 := by unfold sysWt bgsWt at hs; omega
  have HB0 := Lib.hid ((Below.refl w.heap.size w).alloc (Nat.le_refl _) (.cells #[.slice A1 n1 c1, .slice (some ⟨g2, 0, none⟩) n2 n2] 32))
  have HBx := Lib.hid (BoxN.new w #[.slice A1 n1 c1, .slice (some ⟨g2, 0, none⟩) n2 n2] 32)
  obtain ⟨W, hW⟩ : ∃ W, w.alloc (.cells #[.slice A1 n1 c1, .slice (some ⟨g2, 0, none⟩) n2 n2] 32) = W := ⟨_, rfl⟩
  rw [hW] at HBx HB0
  have HWq := Lib.hid hW
  have hWs := HBx.out.lt
  have HX : Hid (SysAt W W.heap.size (.agg #[.slice A1 n1 c1, .slice (some ⟨g2, 0, none⟩) n2 n2]) x) := Lib.hid (((show SysAt w w.heap.size _ x from ⟨A1, n1, c1, _, _, _, rfl, h1, h2⟩).below HB0.out).wide HB0.out.size)
  have HT := Lib.hid ((h2.below HB0.out).wide HB0.out.size)
  have HL2 := Lib.hid hl2
  obtain ⟨x0, x1⟩ := box2 HBx.out
  have HGs := Lib.hid ((hg.below HB0.out).wide HB0.out.size)
  have CG := isSys_any _ x W HX.out hs
  rw [hl1] at CG
  rw [hl1]
  obtain ⟨ts, hts⟩ : ∃ ts, x.steps = ts := ⟨_, rfl⟩
  rw [hts] at HT CG HL2 ⊢
  obtain ⟨V, hV⟩ : ∃ V, ahV n1 ts z gs = V := ⟨_, rfl⟩
  obtain ⟨Q, hQ⟩ : ∃ Q, ahQ n1 ts z gs = Q := ⟨_, rfl⟩
  rw [hV, hQ]
  have HQd := Lib.hid hQ
  have HVd := Lib.hid hV
  clear hW h1 h2 hV hQ hl1 hl2 hts hs hg
  go_enter Try.func37, Try.ntmps37
  go_wp2_with fail
  rw [HWq.out]
  try go_wp2_with fail
  refine CG.mono ?_
  rintro e w1 ⟨rfl, hb1⟩
  clear CG x0 x1
  obtain ⟨x0, x1⟩ := box2 (HBx.out.below hb1 hWs)
  have HB1 := Lib.hid hb1
  clear hb1
  cases hq1 : goodB n1 ts with
  | false =>
    have hqf : ahQ n1 ts z gs = false := by
      unfold ahQ
      rw [hq1]
      rfl
    have HF := Lib.hid (And.intro (HQd.out.symm.trans hqf) (HVd.out.symm.trans (ah_no hqf)))
    have HBr := Lib.hid (HB0.out.trans (HB1.out.mono HB0.out.size))
    clear hq1 hqf
    go_wp2_with fail
    refine bodyPost_ret (results_tmp2 rfl _ _ _) rfl ?_
    exact ⟨by rw [HF.out.1, HF.out.2]; rfl, HBr.out⟩
  | true =>
    have HQ1 := Lib.hid hq1
    clear hq1
    have hn4 := goodB_n HQ1.out
    have CT := isState_any A1 (some ⟨g2, 0, none⟩) n1 c1 n2 n2 z w1 hn1
    go_wp2_with fail
    refine CT.mono ?_
    rintro e w2 ⟨rfl, hb2⟩
    have HB2 := Lib.hid (HB1.out.trans (hb2.mono HB1.out.size))
    clear CT x0 x1 hb2
    obtain ⟨x0, x1⟩ := box2 (HBx.out.below HB2.out hWs)
    cases hq2 : inb z 0 ((n1 : Int) - 1) with
    | false =>
      have hqf : ahQ n1 ts z gs = false := by
        unfold ahQ
        rw [HQ1.out, hq2]
        rfl
      have HF := Lib.hid (And.intro (HQd.out.symm.trans hqf) (HVd.out.symm.trans (ah_no hqf)))
      have HBr := Lib.hid (HB0.out.trans (HB2.out.mono HB0.out.size))
      clear hq2 hqf
      go_wp2_with fail
      refine bodyPost_ret (results_tmp2 rfl _ _ _) rfl ?_
      exact ⟨by rw [HF.out.1, HF.out.2]; rfl, HBr.out⟩
    | true =>
      have HQ2 := Lib.hid hq2
      clear hq2
      have CGl := areSt_any A1 (some ⟨g2, 0, none⟩) n1 c1 n2 n2 B d d gs w2 ((HGs.out.below HB2.out).wide HB2.out.size) hn1 hm
      go_wp2_with fail
      refine CGl.mono ?_
      rintro e w3 ⟨rfl, hb3⟩
      have HB3 := Lib.hid (HB2.out.trans (hb3.mono HB2.out.size))
      clear CGl x0 x1 hb3
      obtain ⟨x0, x1⟩ := box2 (HBx.out.below HB3.out hWs)
      cases hq3 : golB n1 gs with
      | false =>
        have hqf : ahQ n1 ts z gs = false := by
          unfold ahQ
          rw [HQ1.out, HQ2.out, hq3]
          rfl
        have HF := Lib.hid (And.intro (HQd.out.symm.trans hqf) (HVd.out.symm.trans (ah_no hqf)))
        have HBr := Lib.hid (HB0.out.trans (HB3.out.mono HB0.out.size))
        clear hq3 hqf
        go_wp2_with fail
        refine bodyPost_ret (results_tmp2 rfl _ _ _) rfl ?_
        exact ⟨by rw [HF.out.1, HF.out.2]; rfl, HBr.out⟩
      | true =>
        have HQ3 := Lib.hid hq3
        have hqt : ahQ n1 ts z gs = true := by
          unfold ahQ
          rw [HQ1.out, HQ2.out, hq3]
          rfl
        have HTq := Lib.hid (And.intro (HQd.out.symm.trans hqt) (HVd.out.symm.trans (ah_yes hqt)))
        have HLn := Lib.hid (rcL_len HQ1.out HQ2.out)
        have CR := ireach_any A1 g2 n1 c1 n2 ts z w3 ((HT.out.below HB3.out).wide HB3.out.size) (by omega) hn2 (goodB_fst HQ1.out) (in_to HQ2.out) (good_to HQ1.out)
        clear hqt hq3
        go_wp2_with fail
        refine CR.mono ?_
        rintro e w4 ⟨v4, rfl, ho4, hb4⟩
        have HB4 := Lib.hid (HB3.out.trans (hb4.mono HB3.out.size))
        clear CR x0 x1
        obtain ⟨g4, cp4, rfl, hg1, hg2', hmc, hsr⟩ := ho4.at
        rw [List.length_map] at hsr ⊢
        have CS := sel_any (some ⟨g4, 0, none⟩) B (rcL n1 ts z).length cp4 d (rcL n1 ts z) gs w4 w4.heap.size hsr ((HGs.out.below HB4.out).wide HB4.out.size) (by have := HLn.out; omega) hm
        rw [sel_has rcL_asc (gol_asc HQ3.out)] at CS
        have HBz := Lib.hid (HB0.out.trans (HB4.out.mono HB0.out.size))
        obtain ⟨q, hq⟩ : ∃ q, (rcL n1 ts z).all (hasB gs) = q := ⟨_, rfl⟩
        obtain ⟨R, hR⟩ : ∃ R, (rcL n1 ts z).length = R := ⟨_, rfl⟩
        rw [hq] at CS HTq
        rw [hR] at CS ⊢
        clear ho4 hb4 hsr hq hR hmc hg1 hg2'
        go_wp2_with fail
        refine CS.mono ?_
        rintro e w5 ⟨rfl, rfl⟩
        clear CS
        go_wp2_with fail
        refine bodyPost_ret (results_tmp2 rfl _ _ _) rfl ?_
        exact ⟨by rw [HTq.out.1, HTq.out.2]; rfl, HBz.out⟩
end Go.Proofs.Ytlpgldejmdiceaa.rcf
