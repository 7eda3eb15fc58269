/- RanksOf of spec and impl. -/
import Derived.Test.YtlpgldejmdiceaaRki
import Derived.Test.YtlpgldejmdiceaaRep
import Derived.Test.YtlpgldejmdiceaaSyz
namespace Go.Proofs.Ytlpgldejmdiceaa.rkf
open kit bg sg opn strs only hb sig isig un over gn nm inn ht gd im pt marks eqs hc hi hw hn rs br bm bw cf lf ib isa lawb lw cl bgs cz has syx sya rea rkx syh syi syc syg syb syk syl syt syr rcs rci rcf rks rki syz rep
open Go.RowKit
set_option linter.unusedVariables false
set_option linter.unusedSimpArgs false
def rnQ (n : Nat) (ts : List Tri) (gs : List Int) : Bool := goodB n ts && golB n gs
def rnA (n : Nat) (ts : List Tri) (gs : List Int) : List Int := if rnQ n ts gs = true then rkL n ts gs else []
theorem rn_no {n : Nat} {ts : List Tri} {gs : List Int} (h : rnQ n ts gs = false) : rnA n ts gs = [] := by unfold rnA; rw [h]; rfl
theorem rn_yes {n : Nat} {ts : List Tri} {gs : List Int} (h : rnQ n ts gs = true) : rnA n ts gs = rkL n ts gs := by unfold rnA; rw [if_pos h]
theorem rnA_len {n : Nat} {ts : List Tri} {gs : List Int} : (rnA n ts gs).length ≤ n := by
  unfold rnA
  split
  · rename_i h
    unfold rnQ at h
    rw [Bool.and_eq_true] at h
    exact Nat.le_of_eq (jacN_after (n := n) (gs := gs) (good_to h.1) n).1.len
  · simp
theorem gol_mem {n : Nat} {gs : List Int} (h : golB n gs = true) {z : Int} (hz : z ∈ gs) : 0 ≤ z ∧ z < (n : Int) := by
  rw [← sel_ris, List.isSublist_iff_sublist] at h
  have hm := h.subset hz
  unfold nums at hm
  obtain ⟨k, hk, rfl⟩ := List.mem_map.1 hm
  have := List.mem_range.1 hk
  omega
theorem rk0_nil (n : Nat) : rk0 n [] = List.replicate n (-1) := by
  apply List.ext_getElem?
  intro i
  by_cases h : i < n
  · rw [rk0_at h, List.getElem?_replicate, if_pos h]
    rfl
  · rw [List.getElem?_eq_none (by rw [rk0_len]; omega), List.getElem?_eq_none (by simp; omega)]
theorem rk0_set {n k q : Nat} {gs : List Int} (h : gs[k]? = some (q : Int)) (hq : q < n) : rk0 n (gs.take (k + 1)) = (rk0 n (gs.take k)).set q 0 := by
  have hm : ∀ z : Int, hasB (gs.take (k + 1)) z = (hasB (gs.take k) z || decide (z = q)) := fun z => by
    unfold hasB
    rw [List.take_add_one, h]
    simp
  apply List.ext_getElem?
  intro i
  by_cases hi : i < n
  · rw [rk0_at hi, hm]
    by_cases e : q = i
    · subst e
      rw [List.getElem?_set_self (by rw [rk0_len]; exact hi)]
      simp
    · rw [List.getElem?_set_ne e, rk0_at hi]
      have : decide ((i : Int) = (q : Int)) = false := by rw [decide_eq_false_iff_not]; omega
      rw [this, Bool.or_false]
  · rw [List.getElem?_eq_none (by rw [rk0_len]; omega), List.getElem?_eq_none (by rw [List.length_set, rk0_len]; omega)]
theorem Bnd.up {M N : Int} {ρ : List Int} (h : Bnd M ρ) (hMN : M ≤ N) : Bnd N ρ := fun i r hr => Int.le_trans (h i r hr) hMN
theorem own_rep {w : World} {g n : Nat} {z : Int} (h : w.rowIs g 3 n (fun _ => .int .i64 z)) (hn : n ≤ maxLen) : Owns w g 3 (.slice (some ⟨g, 0, none⟩) n n) ((List.replicate n z).map (Value.int .i64)) := by
  obtain ⟨c, hh, hs, hf⟩ := h
  have hl : ((List.replicate n z).map (Value.int .i64)).length = n := by simp
  refine ⟨⟨by rw [Nat.mul_one], .inr ⟨g, n, c, by rw [hl], Nat.le_refl _, hh, by rw [hl]; exact Nat.le_refl _, hn, by omega, ?_⟩⟩, by simp⟩
  apply List.ext_getElem?
  intro i
  by_cases hi : i < n
  · rw [List.getElem?_take_of_lt (by rw [hl]; omega), Array.getElem?_toList, hf i hi]
    simp [hi]
  · rw [List.getElem?_take_eq_none (by rw [hl]; omega), List.getElem?_eq_none (by simp; omega)]
set_option maxRecDepth 20000 in
set_option maxHeartbeats 12800000 in
theorem sRn_any (v : Value) (x : Sysm) (B : Option Addr) (m d : Nat) (gs : List Int) (w : World) (hv : SysAt w w.heap.size v x) (hs : sysWt x ≤ 1048576) (hg : IntsAt w w.heap.size B m gs) (hm : m ≤ 1048576) :
    Calls Try.prog 38 #[v, .slice B m d] w (ResPost 3 (rnQ x.states.length x.steps gs) ((rnA x.states.length x.steps gs).map (Value.int .i64)) w) := by
  obtain ⟨A1, n1, c1, A2, n2, c2, rfl, h1, h2⟩ := hv
  have hl1 := h1.1
  have hl2 := h2.1
  have hn1 : n1 ≤ 1048576 := by unfold sysWt bgsWt at hs; omega
  have hn2 : n2 ≤ 1048576 := by unfold sysWt bgsWt at hs; omega
  have HB0 := Lib.hid ((Below.refl w.heap.size w).alloc (Nat.le_refl _) (.cells #[.slice A1 n1 c1, .slice A2 n2 c2] 32))
  have HBx := Lib.hid (BoxN.new w #[.slice A1 n1 c1, .slice A2 n2 c2] 32)
  obtain ⟨W, hW⟩ : ∃ W, w.alloc (.cells #[.slice A1 n1 c1, .slice A2 n2 c2] 32) = W := ⟨_, rfl⟩
  rw [hW] at HBx HB0
  have HWq := Lib.hid hW
  have hWs := HBx.out.lt
  have HX : Hid (SysAt W W.heap.size (.agg #[.slice A1 n1 c1, .slice A2 n2 c2]) x) := Lib.hid (((show SysAt w w.heap.size _ x from ⟨A1, n1, c1, _, _, _, rfl, h1, h2⟩).below HB0.out).wide HB0.out.size)
  have HT := Lib.hid ((h2.below HB0.out).wide HB0.out.size)
  have HL2 := Lib.hid hl2
  obtain ⟨x0, x1⟩ := box2 HBx.out
  have HGs := Lib.hid ((hg.below HB0.out).wide HB0.out.size)
  have CG := good_any _ x W HX.out hs
  rw [hl1] at CG
  rw [hl1]
  obtain ⟨ts, hts⟩ : ∃ ts, x.steps = ts := ⟨_, rfl⟩
  rw [hts] at HT CG HL2 ⊢
  obtain ⟨V, hV⟩ : ∃ V, rnA n1 ts gs = V := ⟨_, rfl⟩
  obtain ⟨Q, hQ⟩ : ∃ Q, rnQ n1 ts gs = Q := ⟨_, rfl⟩
  rw [hV, hQ]
  have HQd := Lib.hid hQ
  have HVd := Lib.hid hV
  clear hW h1 h2 hV hQ hl1 hl2 hts hs hg
  go_enter Try.func38, Try.ntmps38
  go_wp2_with fail
  rw [HWq.out]
  try go_wp2_with fail
  refine CG.mono ?_
  rintro e w1 ⟨rfl, hb1⟩
  clear CG x0 x1
  obtain ⟨x0, x1⟩ := box2 (HBx.out.below hb1 hWs)
  have HB1 := Lib.hid hb1
  clear hb1
  cases hq1 : goodB n1 ts with
  | false =>
    have hqf : rnQ n1 ts gs = false := by
      unfold rnQ
      rw [hq1]
      rfl
    have HF := Lib.hid (And.intro (HQd.out.symm.trans hqf) (HVd.out.symm.trans (rn_no hqf)))
    have HBr := Lib.hid (HB0.out.trans (HB1.out.mono HB0.out.size))
    clear hq1 hqf
    go_wp2_with fail
    refine bodyPost_ret (results_tmp2 rfl _ _ _) rfl ?_
    exact ⟨_, by rw [HF.out.1]; rfl, by rw [HF.out.2]; exact Res.empty HBr.out.size, HBr.out.alloc HBr.out.size _⟩
  | true =>
    have HQ1 := Lib.hid hq1
    clear hq1
    have hn4 := goodB_n HQ1.out
    have CT := goals_any A1 A2 n1 c1 n2 c2 B m d gs w1 ((HGs.out.below HB1.out).wide HB1.out.size) hn1 hm
    go_wp2_with fail
    refine CT.mono ?_
    rintro e w2 ⟨rfl, hb2⟩
    have HB2 := Lib.hid (HB1.out.trans (hb2.mono HB1.out.size))
    clear CT x0 x1 hb2
    obtain ⟨x0, x1⟩ := box2 (HBx.out.below HB2.out hWs)
    cases hq2 : golB n1 gs with
    | false =>
      have hqf : rnQ n1 ts gs = false := by
        unfold rnQ
        rw [HQ1.out, hq2]
        rfl
      have HF := Lib.hid (And.intro (HQd.out.symm.trans hqf) (HVd.out.symm.trans (rn_no hqf)))
      have HBr := Lib.hid (HB0.out.trans (HB2.out.mono HB0.out.size))
      clear hq2 hqf
      go_wp2_with fail
      refine bodyPost_ret (results_tmp2 rfl _ _ _) rfl ?_
      exact ⟨_, by rw [HF.out.1]; rfl, by rw [HF.out.2]; exact Res.empty HBr.out.size, HBr.out.alloc HBr.out.size _⟩
    | true =>
      have HQ2 := Lib.hid hq2
      clear hq2
      have hqt : rnQ n1 ts gs = true := by
        unfold rnQ
        rw [HQ1.out, HQ2.out]
        rfl
      have HTq := Lib.hid (And.intro (HQd.out.symm.trans hqt) (HVd.out.symm.trans (rn_yes hqt)))
      clear hqt
      have CR := lranks_any A1 A2 n1 c1 n2 c2 ts B m d gs w2 ((HT.out.below HB2.out).wide HB2.out.size) ((HGs.out.below HB2.out).wide HB2.out.size) (by omega) hn2 hm (good_to HQ1.out)
      go_wp2_with fail
      refine CR.mono ?_
      rintro e w3 ⟨v3, rfl, ho3, hb3⟩
      have HB3 := Lib.hid (HB0.out.trans ((HB2.out.trans (hb3.mono HB2.out.size)).mono HB0.out.size))
      have HRz := Lib.hid ((Res.of_owns ho3).wide (lo' := w.heap.size) (hi' := w3.heap.size) (Nat.le_trans HB0.out.size HB2.out.size) (Nat.le_refl _))
      clear CR ho3 hb3
      go_wp2_with fail
      refine bodyPost_ret (results_tmp2 rfl _ _ _) rfl ?_
      exact ⟨_, by rw [HTq.out.1]; rfl, by rw [HTq.out.2]; exact HRz.out, HB3.out⟩
set_option maxRecDepth 20000 in
set_option maxHeartbeats 12800000 in
theorem iRn_any (v : Value) (x : Sysm) (B : Option Addr) (m d : Nat) (gs : List Int) (w : World) (hv : SysAt w w.heap.size v x) (hs : sysWt x ≤ 1048576) (hg : IntsAt w w.heap.size B m gs) (hm : m ≤ 1048576) (hcap : CapS v) :
    Calls Try.prog 39 #[v, .slice B m d] w (ResPost 3 (rnQ x.states.length x.steps gs) ((rnA x.states.length x.steps gs).map (Value.int .i64)) w) := by
  obtain ⟨A1, n1, c1, A2, n2, c2, rfl, h1, h2⟩ := hv
  obtain ⟨A1', n1', c1', g2, n2', ecap⟩ := hcap
  simp only [Value.agg.injEq, Array.mk.injEq, List.cons.injEq, Value.slice.injEq, and_true] at ecap
  obtain ⟨⟨e1, e2, e3⟩, e4, e5, e6⟩ := ecap
  subst e1 e2 e3 e4 e6
  subst e5
  have hl1 := h1.1
  have hl2 := h2.1
  have hn1 : n1 ≤ 1048576 := by unfold sysWt bgsWt at hs; omega
  have hn2 : n2 ≤ 1048576 := by unfold sysWt bgsWt at hs; omega
  have HB0 := Lib.hid ((Below.refl w.heap.size w).alloc (Nat.le_refl _) (.cells #[.slice A1 n1 c1, .slice (some ⟨g2, 0, none⟩) n2 n2] 32))
  have HBx := Lib.hid (BoxN.new w #[.slice A1 n1 c1, .slice (some ⟨g2, 0, none⟩) n2 n2] 32)
  obtain ⟨W, hW⟩ : ∃ W, w.alloc (.cells #[.slice A1 n1 c1, .slice (some ⟨g2, 0, none⟩) n2 n2] 32) = W := ⟨_, rfl⟩
  rw [hW] at HBx HB0
  have HWq := Lib.hid hW
  have hWs := HBx.out.lt
  have HX : Hid (SysAt W W.heap.size (.agg #[.slice A1 n1 c1, .slice (some ⟨g2, 0, none⟩) n2 n2]) x) := Lib.hid (((show SysAt w w.heap.size _ x from ⟨A1, n1, c1, _, _, _, rfl, h1, h2⟩).below HB0.out).wide HB0.out.size)
  have HT := Lib.hid ((h2.below HB0.out).wide HB0.out.size)
  have HL2 := Lib.hid hl2
  obtain ⟨x0, x1⟩ := box2 HBx.out
  have HGs := Lib.hid ((hg.below HB0.out).wide HB0.out.size)
  have CG := isSys_any _ x W HX.out hs
  rw [hl1] at CG
  rw [hl1]
  obtain ⟨ts, hts⟩ : ∃ ts, x.steps = ts := ⟨_, rfl⟩
  rw [hts] at HT CG HL2 ⊢
  obtain ⟨V, hV⟩ : ∃ V, rnA n1 ts gs = V := ⟨_, rfl⟩
  obtain ⟨Q, hQ⟩ : ∃ Q, rnQ n1 ts gs = Q := ⟨_, rfl⟩
  rw [hV, hQ]
  have HQd := Lib.hid hQ
  have HVd := Lib.hid hV
  clear hW h1 h2 hV hQ hl1 hl2 hts hs hg
  go_enter Try.func39, Try.ntmps39
  go_wp2_with fail
  rw [HWq.out]
  try go_wp2_with fail
  refine CG.mono ?_
  rintro e w1 ⟨rfl, hb1⟩
  clear CG x0 x1
  obtain ⟨x0, x1⟩ := box2 (HBx.out.below hb1 hWs)
  have HB1 := Lib.hid hb1
  clear hb1
  cases hq1 : goodB n1 ts with
  | false =>
    have hqf : rnQ n1 ts gs = false := by
      unfold rnQ
      rw [hq1]
      rfl
    have HF := Lib.hid (And.intro (HQd.out.symm.trans hqf) (HVd.out.symm.trans (rn_no hqf)))
    have HBr := Lib.hid (HB0.out.trans (HB1.out.mono HB0.out.size))
    clear hq1 hqf
    go_wp2_with fail
    refine bodyPost_ret (results_tmp2 rfl _ _ _) rfl ?_
    exact ⟨_, by rw [HF.out.1]; rfl, by rw [HF.out.2]; exact Res.nil, HBr.out⟩
  | true =>
    have HQ1 := Lib.hid hq1
    clear hq1
    have hn4 := goodB_n HQ1.out
    have CT := areSt_any A1 (some ⟨g2, 0, none⟩) n1 c1 n2 n2 B m d gs w1 ((HGs.out.below HB1.out).wide HB1.out.size) hn1 hm
    go_wp2_with fail
    refine CT.mono ?_
    rintro e w2 ⟨rfl, hb2⟩
    have HB2 := Lib.hid (HB1.out.trans (hb2.mono HB1.out.size))
    clear CT x0 x1 hb2
    obtain ⟨x0, x1⟩ := box2 (HBx.out.below HB2.out hWs)
    cases hq2 : golB n1 gs with
    | false =>
      have hqf : rnQ n1 ts gs = false := by
        unfold rnQ
        rw [HQ1.out, hq2]
        rfl
      have HF := Lib.hid (And.intro (HQd.out.symm.trans hqf) (HVd.out.symm.trans (rn_no hqf)))
      have HBr := Lib.hid (HB0.out.trans (HB2.out.mono HB0.out.size))
      clear hq2 hqf
      go_wp2_with fail
      refine bodyPost_ret (results_tmp2 rfl _ _ _) rfl ?_
      exact ⟨_, by rw [HF.out.1]; rfl, by rw [HF.out.2]; exact Res.nil, HBr.out⟩
    | true =>
      have HQ2 := Lib.hid hq2
      clear hq2
      have hqt : rnQ n1 ts gs = true := by
        unfold rnQ
        rw [HQ1.out, HQ2.out]
        rfl
      have HTq := Lib.hid (And.intro (HQd.out.symm.trans hqt) (HVd.out.symm.trans (rn_yes hqt)))
      clear hqt
      have hww : W.heap.size ≤ w2.heap.size := HB2.out.size
      have hc3 : (w2.alloc (.cells #[.int .i64 (-1)] 3)).cell? ⟨w2.heap.size, 0, none⟩ = some (.int .i64 (-1)) := (row_new w2 #[.int .i64 (-1)] 3 1 rfl).cell (show 0 < 1 by omega)
      have hl3 : w2.heap.size < (w2.alloc (.cells #[.int .i64 (-1)] 3)).heap.size := by simp
      have hb3 := (Below.refl w2.heap.size w2).alloc (Nat.le_refl _) (.cells #[.int .i64 (-1)] 3)
      obtain ⟨w3, hw3⟩ : ∃ w3, w2.alloc (.cells #[.int .i64 (-1)] 3) = w3 := ⟨_, rfl⟩
      rw [hw3] at hc3 hl3 hb3
      have HW3 := Lib.hid hw3
      have HB3 := Lib.hid (HB2.out.trans (hb3.mono hww))
      have CR := rep_any w2.heap.size 1 n1 (-1) w3 hc3 hl3 (by omega) hn1
      clear x0 x1 hw3 hb3 hc3
      obtain ⟨x0, x1⟩ := box2 (HBx.out.below HB3.out hWs)
      rw [← HW3.out] at x0 x1
      go_wp2_with fail
      rw [HW3.out] at x0 x1 ⊢
      try go_wp2_with fail
      refine CR.mono ?_
      rintro e w4 ⟨rfl, hrow, hb4⟩
      have HB4 := Lib.hid (HB3.out.trans (hb4.mono HB3.out.size))
      have ho4 := (own_rep hrow (by unfold maxLen; omega)).mono HB3.out.size
      rw [← rk0_nil] at ho4
      have HO4 := Lib.hid ho4
      obtain ⟨g, hgd⟩ : ∃ g, w3.heap.size = g := ⟨_, rfl⟩
      rw [hgd] at HO4 ⊢
      clear CR hrow hb4 ho4 hgd x0 x1
      obtain ⟨x0, x1⟩ := box2 (HBx.out.below HB4.out hWs)
      go_wp2_with fail
      clear x0 x1
      go_loopw [8, 25] (fun _ i wr => ∃ k : Nat, k ≤ m ∧ i = .int .i64 k ∧ Owns wr W.heap.size 3 (.slice (some ⟨g, 0, none⟩) n1 n1) ((rk0 n1 (gs.take k)).map (Value.int .i64)) ∧ Below W.heap.size W wr) (fun _ i _ => m - (intOf i).toNat)
      case atStart => exact ⟨0, Nat.zero_le _, rfl, HO4.out, HB4.out⟩
      case round =>
        obtain ⟨k, hk, rfl, hown, hbel⟩ := hrel
        have HO := Lib.hid hown
        have HBl := Lib.hid hbel
        obtain ⟨x0, x1⟩ := box2 (HBx.out.below hbel hWs)
        by_cases hlt : k < m
        · obtain ⟨b, off, z, rfl, hbb, hx, e0⟩ := IntsAt.get HGs.out hlt
          obtain ⟨hz0, hz1⟩ := gol_mem HQ2.out (List.mem_of_getElem? hx)
          obtain ⟨q, rfl⟩ : ∃ q : Nat, z = (q : Int) := ⟨z.toNat, by omega⟩
          have hqn : q < n1 := by omega
          have f0 := (hbel.cell (p := ⟨b, off + k, none⟩) hbb).trans e0
          have HRs := Lib.hid (rk0_set hx hqn)
          obtain ⟨hset, ⟨y, hcy⟩, hfz, hgb⟩ := own_set (u := .int .i64 0) (k := q) hown (by rw [List.length_map, rk0_len]; exact hqn)
          rw [← List.map_set, ← HRs.out] at hset
          have HSet := Lib.hid hset
          have HB5 := Lib.hid (hbel.setCell (p := ⟨g, q, none⟩) hgb (.int .i64 0))
          clear hown hbel hx e0 hset
          go_wp2_with fail
          go_roundw
          case rel => exact ⟨k + 1, by omega, by go_num, HSet.out, HB5.out⟩
          case measure => simp [intOf]; omega
        · obtain rfl : k = m := by omega
          have hall : gs.take k = gs := List.take_of_length_le (by have := HGs.out.len; omega)
          rw [hall] at HO
          clear hown hbel hall
          go_wp2_with fail
          clear x0 x1
          rename World => w5
          go_loopw [36] (fun i wr => ∃ (r : Nat) (ρ : List Int), r ≤ n1 ∧ i = .int .i64 r ∧ Owns wr W.heap.size 3 (.slice (some ⟨g, 0, none⟩) n1 n1) (ρ.map (Value.int .i64)) ∧ Below W.heap.size W wr ∧ After n1 ts gs r ρ ∧ Bnd ((r : Int) * 40) ρ) (fun i _ => n1 - (intOf i).toNat)
          case atStart => exact ⟨0, rk0 n1 gs, Nat.zero_le _, rfl, HO.out, HBl.out, rk0_after, by simpa using bnd_rk0⟩
          case round =>
            obtain ⟨r, ρ, hr, rfl, hown, hbel, haf, hbd⟩ := hrel
            have HOr := Lib.hid hown
            have HBr := Lib.hid hbel
            have HAf := Lib.hid haf
            obtain ⟨x0, x1⟩ := box2 (HBx.out.below hbel hWs)
            by_cases hlt : r < n1
            · have CN := rnext_any A1 g2 n1 c1 n2 ts gs g n1 ρ ((r : Int) * 40) W.heap.size wr (HT.out.below hbel) hown hbel.size (by omega) hn2 (goodB_fst HQ1.out) (good_to HQ1.out) haf.1 hbd (by omega) (by omega)
              have HAf2 := Lib.hid (rndI_after (good_to HQ1.out) haf)
              have HBd2 : Hid (Bnd (((r + 1 : Nat) : Int) * 40) (rndI ts ρ n1)) := Lib.hid (Bnd.up (bnd_rnd hbd (by omega) n1) (by omega))
              clear hown hbel haf hbd
              go_wp2_with fail
              refine CN.mono ?_
              rintro e w6 ⟨rfl, ho6, hb6⟩
              have HO6 := Lib.hid ho6
              have HB6 := Lib.hid (HBr.out.trans hb6)
              clear CN ho6 hb6
              go_wp2_with fail
              go_roundw
              case rel => exact ⟨r + 1, rndI ts ρ n1, by omega, by go_num, HO6.out, HB6.out, HAf2.out, HBd2.out⟩
              case measure => simp [intOf]; omega
            · obtain rfl : n1 = r := by omega
              have he := rkL_of (good_to HQ1.out) haf
              rw [he] at HOr
              have HBz := Lib.hid (HB0.out.trans (HBr.out.mono HB0.out.size))
              have HRz := Lib.hid ((Res.of_owns HOr.out).wide (lo' := w.heap.size) (hi' := wr.heap.size) HB0.out.size (Nat.le_refl _))
              clear hown hbel haf hbd
              go_wp2_with fail
              refine bodyPost_ret (results_tmp2 rfl _ _ _) rfl ?_
              exact ⟨_, by rw [HTq.out.1]; rfl, by rw [HTq.out.2]; exact HRz.out, HBz.out⟩
end Go.Proofs.Ytlpgldejmdiceaa.rkf
