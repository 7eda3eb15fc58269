/- RuleWord of spec and impl. -/
import Derived.Test.YtlpgldejmdiceaaSyw
namespace Go.Proofs.Ytlpgldejmdiceaa.syr
open kit bg sg opn strs only hb sig isig un over gn nm inn ht gd im pt marks eqs hc hi hw hn rs br bm bw cf lf ib isa lawb lw cl bgs cz syx sya syh syi syc syg syb syk syl sye has tre syf syw
open Go.RowKit
set_option linter.unusedVariables false
set_option linter.unusedSimpArgs false
theorem own_new (w : World) : Owns (w.alloc (.cells #[] 3)) w.heap.size 3 (.slice (some ⟨w.heap.size, 0, none⟩) 0 0) [] :=
  ⟨by
    have := World.ownsRow_made (base := w.heap.size) (e := 3) (size := 1) w #[] 0 (Nat.le_refl _) (by unfold maxLen; omega) (by simp)
    simpa using this, by simp⟩
theorem own_keep {w w' : World} {B : Nat} {t : TypeId} {v : Value} {ys : List Value} (h : Owns w B t v ys) (hb : Below w.heap.size w w') : Owns w' B t v ys := by
  refine ⟨?_, h.2⟩
  rcases h.1 with ⟨h1, ⟨e, h2⟩ | ⟨g, cap, cur, e, hg, hh, hr⟩⟩
  · exact ⟨h1, .inl ⟨e, h2⟩⟩
  · exact ⟨h1, .inr ⟨g, cap, cur, e, hg, (hb.block g (Array.getElem?_eq_some_iff.1 hh).1).trans hh, hr⟩⟩
theorem own_push {w : World} {B m : Nat} {v : Value} {zs : List Int} {y : Int} {D : List Value} (h : w.ownsRow B 3 1 v (m + 1) (D ++ [.int .i64 y])) (hD : zs.map (Value.int .i64) = D) (hm : zs.length = m) (hn : v ≠ .slice none 0 0) : Owns w B 3 v ((zs ++ [y]).map (Value.int .i64)) := by
  subst hm hD
  refine ⟨?_, hn⟩
  rw [List.map_append, List.length_append, List.length_map]
  exact h
def rwQ (n : Nat) (ts ws : List Tri) : Bool := goodB n ts && match ws with | [] => true | s :: r => wayB ts s.1 (s :: r)
def rwA (n : Nat) (ts ws : List Tri) : List Int := if rwQ n ts ws = true then ws.map (fun s => s.2.1) else []
theorem rw_no {n : Nat} {ts ws : List Tri} (h : rwQ n ts ws = false) : rwA n ts ws = [] := by unfold rwA; rw [h]; rfl
theorem rw_yes {n : Nat} {ts ws : List Tri} (h : rwQ n ts ws = true) : rwA n ts ws = ws.map (fun s => s.2.1) := by unfold rwA; rw [if_pos h]
theorem rwA_len {n : Nat} {ts ws : List Tri} : (rwA n ts ws).length ≤ ws.length := by unfold rwA; split <;> simp
theorem word_snoc {ws : List Tri} {k : Nat} {s : Tri} (h : ws[k]? = some s) : (ws.take (k + 1)).map (fun s => s.2.1) = (ws.take k).map (fun s => s.2.1) ++ [s.2.1] := by rw [List.take_add_one, h, List.map_append]; rfl
theorem fst_some {ws : List Tri} {s : Tri} (h : ws[0]? = some s) : ∃ r, ws = s :: r := by
  cases ws with
  | nil => simp at h
  | cons a r => simp at h; exact ⟨r, by rw [h]⟩
set_option maxRecDepth 20000 in
set_option maxHeartbeats 6400000 in
theorem sRw_any (v : Value) (x : Sysm) (B : Option Addr) (m d : Nat) (ws : List Tri) (w : World) (hv : SysAt w w.heap.size v x) (hs : sysWt x ≤ 1048576) (hg : TriAt w w.heap.size B m ws) (hm : m ≤ 1048576) :
    Calls Try.prog 48 #[v, .slice B m d] w (ResPost 3 (rwQ x.states.length x.steps ws) ((rwA x.states.length x.steps ws).map (Value.int .i64)) w) := by
  obtain ⟨A1, n1, c1, A2, n2, c2, rfl, h1, h2⟩ := hv
  have hl1 := h1.1
  have hl2 := h2.1
  have hn1 : n1 ≤ 1048576 := by unfold sysWt bgsWt at hs; omega
  have hn2 : n2 ≤ 1048576 := by unfold sysWt bgsWt at hs; omega
  have HB0 := Lib.hid ((Below.refl w.heap.size w).alloc (Nat.le_refl _) (.cells #[.slice A1 n1 c1, .slice A2 n2 c2] 32))
  have HBx := Lib.hid (BoxN.new w #[.slice A1 n1 c1, .slice A2 n2 c2] 32)
  obtain ⟨W, hW⟩ : ∃ W, w.alloc (.cells #[.slice A1 n1 c1, .slice A2 n2 c2] 32) = W := ⟨_, rfl⟩
  rw [hW] at HBx HB0
  have HWq := Lib.hid hW
  have hWs := HBx.out.lt
  have HX : Hid (SysAt W W.heap.size (.agg #[.slice A1 n1 c1, .slice A2 n2 c2]) x) := Lib.hid (((show SysAt w w.heap.size _ x from ⟨A1, n1, c1, A2, n2, c2, rfl, h1, h2⟩).below HB0.out).wide HB0.out.size)
  have HT := Lib.hid ((h2.below HB0.out).wide HB0.out.size)
  have HL2 := Lib.hid hl2
  have HS := Lib.hid hs
  obtain ⟨x0, x1⟩ := box2 HBx.out
  have HLw := Lib.hid hg.1
  have HU := Lib.hid ((hg.below HB0.out).wide HB0.out.size)
  have HU0 := Lib.hid hg
  have HT0 := Lib.hid h2
  rw [hl1]
  have HLx := Lib.hid hl1
  obtain ⟨ts, hts⟩ : ∃ ts, x.steps = ts := ⟨_, rfl⟩
  have HTs := Lib.hid hts
  rw [hts] at HT HT0 HL2 ⊢
  obtain ⟨A, hA⟩ : ∃ V, rwA n1 ts ws = V := ⟨_, rfl⟩
  obtain ⟨Q, hQ⟩ : ∃ Q, rwQ n1 ts ws = Q := ⟨_, rfl⟩
  rw [hA, hQ]
  have HQd := Lib.hid hQ
  have HAd := Lib.hid hA
  obtain ⟨i0, hi, hz0, hz1, hz2⟩ := info_parts int_info
  have HI := Lib.hid (And.intro hi (And.intro hz0 (And.intro hz1 hz2)))
  clear hW h1 h2 hA hQ hl1 hl2 hts hs hg hi hz0 hz1 hz2
  have hsz1 : W.heap.size = w.heap.size + 1 := by rw [← HWq.out]; simp
  have hOn : Owns (W.alloc (.cells #[] 3)) W.heap.size 3 (.slice (some ⟨w.heap.size + 1, 0, none⟩) 0 0) [] := by rw [← hsz1]; exact own_new W
  have hb2 := (Below.refl W.heap.size W).alloc (Nat.le_refl _) (.cells #[] 3)
  obtain ⟨W2, hW2⟩ : ∃ W2, W.alloc (.cells #[] 3) = W2 := ⟨_, rfl⟩
  rw [hW2] at hOn hb2
  have HOn := Lib.hid hOn
  have HB2 := Lib.hid hb2
  have HW2 := Lib.hid hW2
  have hWs2 : w.heap.size < W2.heap.size := Nat.lt_of_lt_of_le hWs hb2.size
  clear hW2 hOn x0 x1
  obtain ⟨x0, x1⟩ := box2 (HBx.out.below hb2 hWs)
  have r0 := Over.get x0 hWs2
  have r1 := Over.get x1 hWs2
  have HOv := Lib.hid (And.intro r0 r1)
  have HG := Lib.hid (fun y : Over W2 => over_call (good_any _ x y.w ((HX.out.below (hb2.trans (y.below.mono hb2.size))).wide (Nat.le_trans hb2.size y.below.size)) HS.out))
  rw [HLx.out, HTs.out] at HG
  clear hb2 r0 r1
  cases hq1 : goodB n1 ts with
  | false =>
    have hqf : rwQ n1 ts ws = false := by unfold rwQ; rw [hq1]; rfl
    have HF := Lib.hid (And.intro (HQd.out.symm.trans hqf) (HAd.out.symm.trans (rw_no hqf)))
    rw [hq1] at HG
    clear hq1 hqf
    go_enter Try.func48, Try.ntmps48
    go_wp2_with fail
    rw [HWq.out]
    try go_wp2_with fail
    rw [HW2.out]
    try go_wp2_with fail
    obtain ⟨r0, r1⟩ := HOv.out
    clear x0 x1
    refine wp_region_over (by kernel_rfl) (by kernel_rfl) ?_
    repeat (go_big_quiet_step (first | (go_at_call 56; exact HG.out _)))
    refine wpQuiet_nil ?_
    rintro _ ⟨y', rfl⟩
    have hy := y'.below
    have HYB0 := y'.below
    obtain ⟨w9, hw9⟩ : ∃ w9, y'.w = w9 := ⟨_, rfl⟩
    rw [hw9] at hy HYB0 ⊢
    have HYB := Lib.hid HYB0
    clear HYB0
    clear hw9
    have hb9 := HB2.out.trans (hy.mono HB2.out.size)
    clear hy r0 r1
    have HBz := Lib.hid (HB0.out.trans (hb9.mono HB0.out.size))
    have hOz := own_keep HOn.out ((Below.refl _ _).trans (show Below W2.heap.size W2 w9 from HYB.out))
    have HRz := Lib.hid ((Res.of_owns hOz).wide (lo' := w.heap.size) (hi' := w9.heap.size) (by omega) (Nat.le_refl _))
    clear hOz hb9
    go_wp2_with fail
    refine bodyPost_ret (results_tmp2 rfl _ _ _) rfl ?_
    exact ⟨_, by rw [HF.out.1]; rfl, by rw [HF.out.2]; exact HRz.out, HBz.out⟩
  | true =>
    have HQ1 := Lib.hid hq1
    rw [hq1] at HG
    clear hq1
    by_cases hm0 : m = 0
    · subst hm0
      have hnil : ws = [] := List.eq_nil_of_length_eq_zero HLw.out
      have hqt : rwQ n1 ts ws = true := by unfold rwQ; rw [HQ1.out, hnil]; rfl
      have HTq := Lib.hid (And.intro (HQd.out.symm.trans hqt) (HAd.out.symm.trans (rw_yes hqt)))
      clear hqt
      go_enter Try.func48, Try.ntmps48
      go_wp2_with fail
      rw [HWq.out]
      try go_wp2_with fail
      rw [HW2.out]
      try go_wp2_with fail
      obtain ⟨r0, r1⟩ := HOv.out
      clear x0 x1
      refine wp_region_over (by kernel_rfl) (by kernel_rfl) ?_
      repeat (go_big_quiet_step (first | (go_at_call 56; exact HG.out _)))
      refine wpQuiet_nil ?_
      rintro _ ⟨y', rfl⟩
      have hy := y'.below
      have HYB0 := y'.below
      obtain ⟨w9, hw9⟩ : ∃ w9, y'.w = w9 := ⟨_, rfl⟩
      rw [hw9] at hy HYB0 ⊢
      have HYB := Lib.hid HYB0
      clear HYB0
      clear hw9
      have hb9 := HB2.out.trans (hy.mono HB2.out.size)
      clear hy r0 r1
      have HB9 := Lib.hid (HB0.out.trans (hb9.mono HB0.out.size))
      have HO9 := Lib.hid (own_keep HOn.out HYB.out)
      have hz9 := hb9.size
      clear hb9
      go_wp2_with fail
      go_loopw [6, 7] (fun v i wr => ∃ k : Nat, k ≤ 0 ∧ i = .int .i64 k ∧ Owns wr W.heap.size 3 v (((ws.take k).map (fun s => s.2.1)).map (Value.int .i64)) ∧ Below w.heap.size w wr ∧ W.heap.size ≤ wr.heap.size) (fun _ i _ => 0 - (intOf i).toNat)
      case atStart => exact ⟨0, Nat.zero_le _, rfl, HO9.out, HB9.out, hz9⟩
      case round =>
        obtain ⟨k, hk, rfl, hown, hbel, hgw⟩ := hrel
        have HO := Lib.hid hown
        have HBel := Lib.hid hbel
        have hWw : w.heap.size ≤ W.heap.size := by have := HB0.out.size; omega
        by_cases hlt : k < 0
        · obtain ⟨g7, off7, s, eA, hbb7, hx, e0, e1, e2⟩ := HU0.out.get hlt
          exact absurd hlt (by omega)
        · obtain rfl : k = 0 := by omega
          have hall : ws.take 0 = ws := List.take_of_length_le (by have := HLw.out; omega)
          rw [hall] at hown
          have HRz := Lib.hid ((Res.of_owns hown).wide (lo' := w.heap.size) (hi' := wr.heap.size) hWw (Nat.le_refl _))
          clear hown hall hbel HO
          go_wp2_with fail
          refine bodyPost_ret (results_tmp2 rfl _ _ _) rfl ?_
          exact ⟨_, by rw [HTq.out.1]; rfl, by rw [HTq.out.2]; exact HRz.out, HBel.out⟩
    · obtain ⟨g, off, s0, rfl, hbb, hx, e0, e1, e2⟩ := HU0.out.get (show 0 < m by omega)
      obtain ⟨r', hr'⟩ := fst_some hx
      rw [Nat.zero_mul, Nat.add_zero] at e0 e1 e2
      have hm1 : (0 : Int) < (m : Int) := by omega
      have hmd : decide (0 < m) = true := decide_eq_true (by omega)
      have hbU := HB0.out.trans (HB2.out.mono HB0.out.size)
      have hgl : g < W2.heap.size := Nat.lt_of_lt_of_le hbb hbU.size
      have s0c := Over.get ((hbU.cell (p := ⟨g, off, none⟩) hbb).trans e0) hgl
      have HWy := Lib.hid (fun y : Over W2 => over_call (lway_any A1 A2 n1 c1 n2 c2 ts s0.1 (some ⟨g, off, none⟩) m d ws y.w ((HT.out.below (HB2.out.trans (y.below.mono HB2.out.size))).wide (Nat.le_trans HB2.out.size y.below.size)) ((HU.out.below (HB2.out.trans (y.below.mono HB2.out.size))).wide (Nat.le_trans HB2.out.size y.below.size)) hn2 hm))
      have HSc := Lib.hid s0c
      clear hx e0 e1 e2 hgl hbU s0c
      cases hw : wayB ts s0.1 ws with
      | false =>
        have hqf : rwQ n1 ts ws = false := by unfold rwQ; rw [HQ1.out]; rw [hr'] at hw ⊢; exact hw
        have HF := Lib.hid (And.intro (HQd.out.symm.trans hqf) (HAd.out.symm.trans (rw_no hqf)))
        rw [hw] at HWy
        clear hw hqf
        go_enter Try.func48, Try.ntmps48
        go_wp2_with fail
        rw [HWq.out]
        try go_wp2_with fail
        rw [HW2.out]
        try go_wp2_with fail
        obtain ⟨r0, r1⟩ := HOv.out
        clear x0 x1
        have s0c := HSc.out
        refine wp_region_over (by kernel_rfl) (by kernel_rfl) ?_
        repeat (go_big_quiet_step (first | (go_at_call 56; exact HG.out _) | (go_at_call 58; exact HWy.out _)))
        refine wpQuiet_nil ?_
        rintro _ ⟨y', rfl⟩
        have hy := y'.below
        have HYB0 := y'.below
        obtain ⟨w9, hw9⟩ : ∃ w9, y'.w = w9 := ⟨_, rfl⟩
        rw [hw9] at hy HYB0 ⊢
        have HYB := Lib.hid HYB0
        clear HYB0
        clear hw9
        clear s0c
        have hb9 := HB2.out.trans (hy.mono HB2.out.size)
        clear hy r0 r1
        have HBz := Lib.hid (HB0.out.trans (hb9.mono HB0.out.size))
        have hOz := own_keep HOn.out ((Below.refl _ _).trans (show Below W2.heap.size W2 w9 from HYB.out))
        have HRz := Lib.hid ((Res.of_owns hOz).wide (lo' := w.heap.size) (hi' := w9.heap.size) (by omega) (Nat.le_refl _))
        clear hOz hb9
        go_wp2_with fail
        refine bodyPost_ret (results_tmp2 rfl _ _ _) rfl ?_
        exact ⟨_, by rw [HF.out.1]; rfl, by rw [HF.out.2]; exact HRz.out, HBz.out⟩
      | true =>
        have hqt : rwQ n1 ts ws = true := by unfold rwQ; rw [HQ1.out]; rw [hr'] at hw ⊢; exact hw
        have HTq := Lib.hid (And.intro (HQd.out.symm.trans hqt) (HAd.out.symm.trans (rw_yes hqt)))
        rw [hw] at HWy
        clear hw hqt
        go_enter Try.func48, Try.ntmps48
        go_wp2_with fail
        rw [HWq.out]
        try go_wp2_with fail
        rw [HW2.out]
        try go_wp2_with fail
        obtain ⟨r0, r1⟩ := HOv.out
        clear x0 x1
        have s0c := HSc.out
        refine wp_region_over (by kernel_rfl) (by kernel_rfl) ?_
        repeat (go_big_quiet_step (first | (go_at_call 56; exact HG.out _) | (go_at_call 58; exact HWy.out _)))
        refine wpQuiet_nil ?_
        rintro _ ⟨y', rfl⟩
        have hy := y'.below
        have HYB0 := y'.below
        obtain ⟨w9, hw9⟩ : ∃ w9, y'.w = w9 := ⟨_, rfl⟩
        rw [hw9] at hy HYB0 ⊢
        have HYB := Lib.hid HYB0
        clear HYB0
        clear hw9
        clear s0c
        have hb9 := HB2.out.trans (hy.mono HB2.out.size)
        clear hy r0 r1
        have HB9 := Lib.hid (HB0.out.trans (hb9.mono HB0.out.size))
        have HO9 := Lib.hid (own_keep HOn.out HYB.out)
        have hz9 := hb9.size
        clear hb9
        go_wp2_with fail
        go_loopw [6, 7] (fun v i wr => ∃ k : Nat, k ≤ m ∧ i = .int .i64 k ∧ Owns wr W.heap.size 3 v (((ws.take k).map (fun s => s.2.1)).map (Value.int .i64)) ∧ Below w.heap.size w wr ∧ W.heap.size ≤ wr.heap.size) (fun _ i _ => m - (intOf i).toNat)
        case atStart => exact ⟨0, Nat.zero_le _, rfl, HO9.out, HB9.out, hz9⟩
        case round =>
          obtain ⟨k, hk, rfl, hown, hbel, hgw⟩ := hrel
          have HO := Lib.hid hown
          have HBel := Lib.hid hbel
          have hWw : w.heap.size ≤ W.heap.size := by have := HB0.out.size; omega
          by_cases hlt : k < m
          · obtain ⟨g7, off7, s, eA, hbb7, hx, e0, e1, e2⟩ := HU0.out.get hlt
            injection eA with eA
            injection eA with eg eo
            subst eg eo
            have d0 := (hbel.cell (p := ⟨g, off + k * 3, none⟩) hbb7).trans e0
            have d1 := (hbel.cell (p := ⟨g, off + k * 3 + 1, none⟩) hbb7).trans e1
            have d2 := (hbel.cell (p := ⟨g, off + k * 3 + 2, none⟩) hbb7).trans e2
            have HWd := Lib.hid (word_snoc hx)
            obtain ⟨hown, hnn⟩ := hown
            have hlen : (((ws.take k).map (fun s => s.2.1)).map (Value.int .i64)).length ≤ m := by rw [List.length_map, List.length_map, List.length_take]; omega
            have HN := Lib.hid hnn
            obtain ⟨zs, hzs⟩ : ∃ zs, (ws.take k).map (fun s => s.2.1) = zs := ⟨_, rfl⟩
            rw [hzs] at hlen HWd HO hown
            obtain ⟨D, hD⟩ : ∃ D, zs.map (Value.int .i64) = D := ⟨_, rfl⟩
            rw [hD] at hlen HO hown
            obtain ⟨q, hq⟩ : ∃ q, D.length = q := ⟨_, rfl⟩
            have hq2 : q ≤ 1048576 := by omega
            have HOq : Hid (wr.ownsRow W.heap.size 3 1 _ q D) := Lib.hid (by rw [← hq]; exact hown)
            have HD := Lib.hid hD
            have HQq := Lib.hid hq
            have hlt0 := hown.lt
            clear hnn hzs hD hq hlen hx e0 e1 e2 hbel hown
            go_wp2_with (at_builtin; refine wpList_append_own _ rfl _ _ 38 rfl W.heap.size 3 i0 (.int .i64 0) 1 8 Try.underlying38 HI.out.1 HI.out.2.1 HI.out.2.2.1 HI.out.2.2.2 rfl (by decide) _ _ _ rfl (HOq.out.alloc _) ⟨wr.heap.size, 0, none⟩ 1 1 [.int .i64 s.2.1] rfl rfl (cell_one_new _ _ _) (fun u hu => by rw [List.mem_singleton.1 hu]; rfl) (by unfold maxLen; omega) (by omega) (by simp; omega) ?_; intro v1 w3 hown1 hgrow1 hnil1)
            have HB3 := Lib.hid ((HBel.out.alloc (Nat.le_trans hWw hgw) (.cells #[.int .i64 s.2.1] 3)).grown hgrow1 (by simp; omega) (fun j hj => Nat.le_trans hWw ((hlt0 j hj).1)))
            have HOn1 := Lib.hid (own_push hown1 HD.out (by have := HQq.out; rw [← HD.out, List.length_map] at this; exact this) (fun h => HN.out (hnil1.1 h).1))
            have hgz : w3.heap.size ≥ wr.heap.size := by have := hgrow1.size; simp at this; omega
            clear hown1 hgrow1 hnil1 hlt0
            go_wp2_with fail
            go_roundw
            case rel => exact ⟨k + 1, by omega, by go_num, by rw [HWd.out]; exact HOn1.out, HB3.out, by omega⟩
            case measure => simp [intOf]; omega
          · obtain rfl : m = k := by omega
            have hall : ws.take m = ws := List.take_of_length_le (by have := HLw.out; omega)
            rw [hall] at hown
            have HRz := Lib.hid ((Res.of_owns hown).wide (lo' := w.heap.size) (hi' := wr.heap.size) hWw (Nat.le_refl _))
            clear hown hall hbel HO
            go_wp2_with fail
            refine bodyPost_ret (results_tmp2 rfl _ _ _) rfl ?_
            exact ⟨_, by rw [HTq.out.1]; rfl, by rw [HTq.out.2]; exact HRz.out, HBel.out⟩


set_option maxRecDepth 20000 in
set_option maxHeartbeats 6400000 in
theorem iRw_any (v : Value) (x : Sysm) (B : Option Addr) (m d : Nat) (ws : List Tri) (w : World) (hv : SysAt w w.heap.size v x) (hs : sysWt x ≤ 1048576) (hg : TriAt w w.heap.size B m ws) (hm : m ≤ 1048576) :
    Calls Try.prog 49 #[v, .slice B m d] w (ResPost 3 (rwQ x.states.length x.steps ws) ((rwA x.states.length x.steps ws).map (Value.int .i64)) w) := by
  obtain ⟨A1, n1, c1, A2, n2, c2, rfl, h1, h2⟩ := hv
  have hl1 := h1.1
  have hl2 := h2.1
  have hn1 : n1 ≤ 1048576 := by unfold sysWt bgsWt at hs; omega
  have hn2 : n2 ≤ 1048576 := by unfold sysWt bgsWt at hs; omega
  have HB0 := Lib.hid ((Below.refl w.heap.size w).alloc (Nat.le_refl _) (.cells #[.slice A1 n1 c1, .slice A2 n2 c2] 32))
  have HBx := Lib.hid (BoxN.new w #[.slice A1 n1 c1, .slice A2 n2 c2] 32)
  obtain ⟨W, hW⟩ : ∃ W, w.alloc (.cells #[.slice A1 n1 c1, .slice A2 n2 c2] 32) = W := ⟨_, rfl⟩
  rw [hW] at HBx HB0
  have HWq := Lib.hid hW
  have hWs := HBx.out.lt
  have HX : Hid (SysAt W W.heap.size (.agg #[.slice A1 n1 c1, .slice A2 n2 c2]) x) := Lib.hid (((show SysAt w w.heap.size _ x from ⟨A1, n1, c1, A2, n2, c2, rfl, h1, h2⟩).below HB0.out).wide HB0.out.size)
  have HT := Lib.hid ((h2.below HB0.out).wide HB0.out.size)
  have HL2 := Lib.hid hl2
  have HS := Lib.hid hs
  obtain ⟨x0, x1⟩ := box2 HBx.out
  have HLw := Lib.hid hg.1
  have HU := Lib.hid ((hg.below HB0.out).wide HB0.out.size)
  have HU0 := Lib.hid hg
  have HT0 := Lib.hid h2
  rw [hl1]
  have HLx := Lib.hid hl1
  obtain ⟨ts, hts⟩ : ∃ ts, x.steps = ts := ⟨_, rfl⟩
  have HTs := Lib.hid hts
  rw [hts] at HT HT0 HL2 ⊢
  obtain ⟨A, hA⟩ : ∃ V, rwA n1 ts ws = V := ⟨_, rfl⟩
  obtain ⟨Q, hQ⟩ : ∃ Q, rwQ n1 ts ws = Q := ⟨_, rfl⟩
  rw [hA, hQ]
  have HQd := Lib.hid hQ
  have HAd := Lib.hid hA
  obtain ⟨i0, hi, hz0, hz1, hz2⟩ := info_parts int_info
  have HI := Lib.hid (And.intro hi (And.intro hz0 (And.intro hz1 hz2)))
  clear hW h1 h2 hA hQ hl1 hl2 hts hs hg hi hz0 hz1 hz2
  have HB2 := Lib.hid (Below.refl W.heap.size W)
  have hb2 := Below.refl W.heap.size W
  have hWs2 := hWs
  have r0 := Over.get x0 hWs2
  have r1 := Over.get x1 hWs2
  have HOv := Lib.hid (And.intro r0 r1)
  have HG := Lib.hid (fun y : Over W => over_call (isSys_any _ x y.w ((HX.out.below (hb2.trans (y.below.mono hb2.size))).wide (Nat.le_trans hb2.size y.below.size)) HS.out))
  rw [HLx.out, HTs.out] at HG
  clear hb2 r0 r1
  cases hq1 : goodB n1 ts with
  | false =>
    have hqf : rwQ n1 ts ws = false := by unfold rwQ; rw [hq1]; rfl
    have HF := Lib.hid (And.intro (HQd.out.symm.trans hqf) (HAd.out.symm.trans (rw_no hqf)))
    rw [hq1] at HG
    clear hq1 hqf
    go_enter Try.func49, Try.ntmps49
    go_wp2_with fail
    rw [HWq.out]
    try go_wp2_with fail
    obtain ⟨r0, r1⟩ := HOv.out
    clear x0 x1
    refine wp_region_over (by kernel_rfl) (by kernel_rfl) ?_
    repeat (go_big_quiet_step (first | (go_at_call 61; exact HG.out _)))
    refine wpQuiet_nil ?_
    rintro _ ⟨y', rfl⟩
    have hy := y'.below
    have HYB0 := y'.below
    obtain ⟨w9, hw9⟩ : ∃ w9, y'.w = w9 := ⟨_, rfl⟩
    rw [hw9] at hy HYB0 ⊢
    have HYB := Lib.hid HYB0
    clear HYB0
    clear hw9
    have hb9 := HB2.out.trans (hy.mono HB2.out.size)
    clear hy r0 r1
    have HBz := Lib.hid (HB0.out.trans (hb9.mono HB0.out.size))
    clear hb9
    go_wp2_with fail
    refine bodyPost_ret (results_tmp2 rfl _ _ _) rfl ?_
    exact ⟨_, by rw [HF.out.1]; rfl, by rw [HF.out.2]; exact Res.nil, HBz.out⟩
  | true =>
    have HQ1 := Lib.hid hq1
    rw [hq1] at HG
    clear hq1
    by_cases hm0 : m = 0
    · subst hm0
      have hnil : ws = [] := List.eq_nil_of_length_eq_zero HLw.out
      have hqt : rwQ n1 ts ws = true := by unfold rwQ; rw [HQ1.out, hnil]; rfl
      have HTq := Lib.hid (And.intro (HQd.out.symm.trans hqt) (HAd.out.symm.trans (rw_yes hqt)))
      clear hqt
      go_enter Try.func49, Try.ntmps49
      go_wp2_with fail
      rw [HWq.out]
      try go_wp2_with fail
      obtain ⟨r0, r1⟩ := HOv.out
      clear x0 x1
      refine wp_region_over (by kernel_rfl) (by kernel_rfl) ?_
      repeat (go_big_quiet_step (first | (go_at_call 61; exact HG.out _)))
      refine wpQuiet_nil ?_
      rintro _ ⟨y', rfl⟩
      have hy := y'.below
      have HYB0 := y'.below
      obtain ⟨w9, hw9⟩ : ∃ w9, y'.w = w9 := ⟨_, rfl⟩
      rw [hw9] at hy HYB0 ⊢
      have HYB := Lib.hid HYB0
      clear HYB0
      clear hw9
      have hb9 := HB2.out.trans (hy.mono HB2.out.size)
      clear hy r0 r1
      have HB9 := Lib.hid (HB0.out.trans (hb9.mono HB0.out.size))
      have HO9 := Lib.hid (own_new w9)
      have hz9 := hb9.size
      have hz10 : w9.heap.size ≤ (w9.alloc (.cells #[] 3)).heap.size := by simp
      have HB10 := Lib.hid (HB9.out.alloc (Nat.le_trans HB0.out.size hz9) (.cells #[] 3))
      clear hb9
      go_wp2_with fail
      go_loopw [6, 8, 30] (fun v _ i wr => ∃ k : Nat, k ≤ 0 ∧ i = .int .i64 k ∧ Owns wr w9.heap.size 3 v (((ws.take k).map (fun s => s.2.1)).map (Value.int .i64)) ∧ Below w.heap.size w wr ∧ w9.heap.size ≤ wr.heap.size) (fun _ _ i _ => 0 - (intOf i).toNat)
      case atStart => exact ⟨0, Nat.zero_le _, rfl, HO9.out, HB10.out, hz10⟩
      case round =>
        obtain ⟨k, hk, rfl, hown, hbel, hgw⟩ := hrel
        have HO := Lib.hid hown
        have HBel := Lib.hid hbel
        have hWw : w.heap.size ≤ w9.heap.size := by have := HB0.out.size; omega
        by_cases hlt : k < 0
        · obtain ⟨g7, off7, s, eA, hbb7, hx, e0, e1, e2⟩ := HU0.out.get hlt
          exact absurd hlt (by omega)
        · obtain rfl : k = 0 := by omega
          have hall : ws.take 0 = ws := List.take_of_length_le (by have := HLw.out; omega)
          rw [hall] at hown
          have HRz := Lib.hid ((Res.of_owns hown).wide (lo' := w.heap.size) (hi' := wr.heap.size) hWw (Nat.le_refl _))
          clear hown hall hbel HO
          go_wp2_with fail
          refine bodyPost_ret (results_tmp2 rfl _ _ _) rfl ?_
          exact ⟨_, by rw [HTq.out.1]; rfl, by rw [HTq.out.2]; exact HRz.out, HBel.out⟩
    · obtain ⟨g, off, s0, rfl, hbb, hx, e0, e1, e2⟩ := HU0.out.get (show 0 < m by omega)
      obtain ⟨r', hr'⟩ := fst_some hx
      rw [Nat.zero_mul, Nat.add_zero] at e0 e1 e2
      have hm1 : (0 : Int) < (m : Int) := by omega
      have hmd : decide (0 < m) = true := decide_eq_true (by omega)
      have hbU := HB0.out.trans (HB2.out.mono HB0.out.size)
      have hgl : g < W.heap.size := Nat.lt_of_lt_of_le hbb hbU.size
      have s0c := Over.get ((hbU.cell (p := ⟨g, off, none⟩) hbb).trans e0) hgl
      have HWy := Lib.hid (fun y : Over W => over_call (iway_any A1 A2 n1 c1 n2 c2 ts s0.1 (some ⟨g, off, none⟩) m d ws y.w ((HT.out.below (HB2.out.trans (y.below.mono HB2.out.size))).wide (Nat.le_trans HB2.out.size y.below.size)) ((HU.out.below (HB2.out.trans (y.below.mono HB2.out.size))).wide (Nat.le_trans HB2.out.size y.below.size)) hn2 hm (goodB_pw HQ1.out)))
      have HSc := Lib.hid s0c
      clear hx e0 e1 e2 hgl hbU s0c
      cases hw : wayB ts s0.1 ws with
      | false =>
        have hqf : rwQ n1 ts ws = false := by unfold rwQ; rw [HQ1.out]; rw [hr'] at hw ⊢; exact hw
        have HF := Lib.hid (And.intro (HQd.out.symm.trans hqf) (HAd.out.symm.trans (rw_no hqf)))
        rw [hw] at HWy
        clear hw hqf
        go_enter Try.func49, Try.ntmps49
        go_wp2_with fail
        rw [HWq.out]
        try go_wp2_with fail
        obtain ⟨r0, r1⟩ := HOv.out
        clear x0 x1
        have s0c := HSc.out
        refine wp_region_over (by kernel_rfl) (by kernel_rfl) ?_
        repeat (go_big_quiet_step (first | (go_at_call 61; exact HG.out _) | (go_at_call 63; exact HWy.out _)))
        refine wpQuiet_nil ?_
        rintro _ ⟨y', rfl⟩
        have hy := y'.below
        have HYB0 := y'.below
        obtain ⟨w9, hw9⟩ : ∃ w9, y'.w = w9 := ⟨_, rfl⟩
        rw [hw9] at hy HYB0 ⊢
        have HYB := Lib.hid HYB0
        clear HYB0
        clear hw9
        clear s0c
        have hb9 := HB2.out.trans (hy.mono HB2.out.size)
        clear hy r0 r1
        have HBz := Lib.hid (HB0.out.trans (hb9.mono HB0.out.size))
        clear hb9
        go_wp2_with fail
        refine bodyPost_ret (results_tmp2 rfl _ _ _) rfl ?_
        exact ⟨_, by rw [HF.out.1]; rfl, by rw [HF.out.2]; exact Res.nil, HBz.out⟩
      | true =>
        have hqt : rwQ n1 ts ws = true := by unfold rwQ; rw [HQ1.out]; rw [hr'] at hw ⊢; exact hw
        have HTq := Lib.hid (And.intro (HQd.out.symm.trans hqt) (HAd.out.symm.trans (rw_yes hqt)))
        rw [hw] at HWy
        clear hw hqt
        go_enter Try.func49, Try.ntmps49
        go_wp2_with fail
        rw [HWq.out]
        try go_wp2_with fail
        obtain ⟨r0, r1⟩ := HOv.out
        clear x0 x1
        have s0c := HSc.out
        refine wp_region_over (by kernel_rfl) (by kernel_rfl) ?_
        repeat (go_big_quiet_step (first | (go_at_call 61; exact HG.out _) | (go_at_call 63; exact HWy.out _)))
        refine wpQuiet_nil ?_
        rintro _ ⟨y', rfl⟩
        have hy := y'.below
        have HYB0 := y'.below
        obtain ⟨w9, hw9⟩ : ∃ w9, y'.w = w9 := ⟨_, rfl⟩
        rw [hw9] at hy HYB0 ⊢
        have HYB := Lib.hid HYB0
        clear HYB0
        clear hw9
        clear s0c
        have hb9 := HB2.out.trans (hy.mono HB2.out.size)
        clear hy r0 r1
        have HB9 := Lib.hid (HB0.out.trans (hb9.mono HB0.out.size))
        have HO9 := Lib.hid (own_new w9)
        have hz9 := hb9.size
        have hz10 : w9.heap.size ≤ (w9.alloc (.cells #[] 3)).heap.size := by simp
        have HB10 := Lib.hid (HB9.out.alloc (Nat.le_trans HB0.out.size hz9) (.cells #[] 3))
        clear hb9
        go_wp2_with fail
        go_loopw [6, 8, 30] (fun v _ i wr => ∃ k : Nat, k ≤ m ∧ i = .int .i64 k ∧ Owns wr w9.heap.size 3 v (((ws.take k).map (fun s => s.2.1)).map (Value.int .i64)) ∧ Below w.heap.size w wr ∧ w9.heap.size ≤ wr.heap.size) (fun _ _ i _ => m - (intOf i).toNat)
        case atStart => exact ⟨0, Nat.zero_le _, rfl, HO9.out, HB10.out, hz10⟩
        case round =>
          obtain ⟨k, hk, rfl, hown, hbel, hgw⟩ := hrel
          have HO := Lib.hid hown
          have HBel := Lib.hid hbel
          have hWw : w.heap.size ≤ w9.heap.size := by have := HB0.out.size; omega
          by_cases hlt : k < m
          · obtain ⟨g7, off7, s, eA, hbb7, hx, e0, e1, e2⟩ := HU0.out.get hlt
            injection eA with eA
            injection eA with eg eo
            subst eg eo
            have d0 := (hbel.cell (p := ⟨g, off + k * 3, none⟩) hbb7).trans e0
            have d1 := (hbel.cell (p := ⟨g, off + k * 3 + 1, none⟩) hbb7).trans e1
            have d2 := (hbel.cell (p := ⟨g, off + k * 3 + 2, none⟩) hbb7).trans e2
            have HWd := Lib.hid (word_snoc hx)
            obtain ⟨hown, hnn⟩ := hown
            have hlen : (((ws.take k).map (fun s => s.2.1)).map (Value.int .i64)).length ≤ m := by rw [List.length_map, List.length_map, List.length_take]; omega
            have HN := Lib.hid hnn
            obtain ⟨zs, hzs⟩ : ∃ zs, (ws.take k).map (fun s => s.2.1) = zs := ⟨_, rfl⟩
            rw [hzs] at hlen HWd HO hown
            obtain ⟨D, hD⟩ : ∃ D, zs.map (Value.int .i64) = D := ⟨_, rfl⟩
            rw [hD] at hlen HO hown
            obtain ⟨q, hq⟩ : ∃ q, D.length = q := ⟨_, rfl⟩
            have hq2 : q ≤ 1048576 := by omega
            have HOq : Hid (wr.ownsRow w9.heap.size 3 1 _ q D) := Lib.hid (by rw [← hq]; exact hown)
            have HD := Lib.hid hD
            have HQq := Lib.hid hq
            have hlt0 := hown.lt
            clear hnn hzs hD hq hlen hx e0 e1 e2 hbel hown
            go_wp2_with (at_builtin; refine wpList_append_own _ rfl _ _ 38 rfl w9.heap.size 3 i0 (.int .i64 0) 1 8 Try.underlying38 HI.out.1 HI.out.2.1 HI.out.2.2.1 HI.out.2.2.2 rfl (by decide) _ _ _ rfl ((HOq.out.alloc _).alloc _) ⟨wr.heap.size + 1, 0, none⟩ 1 1 [.int .i64 s.2.1] rfl rfl (by have := cell_one_new (wr.alloc (.cells #[.int .i64 s.1, .int .i64 s.2.1, .int .i64 s.2.2] 76)) (.int .i64 s.2.1) 3; rw [World.size_alloc] at this; exact this) (fun u hu => by rw [List.mem_singleton.1 hu]; rfl) (by unfold maxLen; omega) (by omega) (by simp; omega) ?_; intro v1 w3 hown1 hgrow1 hnil1)
            have HB3 := Lib.hid (((HBel.out.alloc (Nat.le_trans hWw hgw) (.cells #[.int .i64 s.1, .int .i64 s.2.1, .int .i64 s.2.2] 76)).alloc (by simp; omega) (.cells #[.int .i64 s.2.1] 3)).grown hgrow1 (by simp; omega) (fun j hj => Nat.le_trans hWw ((hlt0 j hj).1)))
            have HOn1 := Lib.hid (own_push hown1 HD.out (by have := HQq.out; rw [← HD.out, List.length_map] at this; exact this) (fun h => HN.out (hnil1.1 h).1))
            have hgz : w3.heap.size ≥ wr.heap.size := by have := hgrow1.size; simp at this; omega
            clear hown1 hgrow1 hnil1 hlt0
            go_wp2_with fail
            go_roundw
            case rel => exact ⟨k + 1, by omega, by go_num, by rw [HWd.out]; exact HOn1.out, HB3.out, by omega⟩
            case measure => simp [intOf]; omega
          · obtain rfl : m = k := by omega
            have hall : ws.take m = ws := List.take_of_length_le (by have := HLw.out; omega)
            rw [hall] at hown
            have HRz := Lib.hid ((Res.of_owns hown).wide (lo' := w.heap.size) (hi' := wr.heap.size) hWw (Nat.le_refl _))
            clear hown hall hbel HO
            go_wp2_with fail
            refine bodyPost_ret (results_tmp2 rfl _ _ _) rfl ?_
            exact ⟨_, by rw [HTq.out.1]; rfl, by rw [HTq.out.2]; exact HRz.out, HBel.out⟩

end Go.Proofs.Ytlpgldejmdiceaa.syr
