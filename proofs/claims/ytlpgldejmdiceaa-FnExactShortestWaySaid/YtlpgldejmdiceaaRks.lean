/- spec.l1Most, spec.l10Rank, spec.l1Own at ints, spec.l10Ranks. -/
import Derived.Test.YtlpgldejmdiceaaRkx
import Derived.Test.YtlpgldejmdiceaaRcf
import Derived.Test.YtlpgldejmdiceaaPti
namespace Go.Proofs.Ytlpgldejmdiceaa.rks
open kit bg sg opn strs only hb sig isig un over gn nm inn ht gd im pt marks eqs hc hi hw hn rs br bm bw cf lf ib isa lawb lw cl bgs cz has syx sya rea rkx syh syi syc syg syb syk syl syt syr rcs rci rcf
open Go.RowKit
set_option linter.unusedVariables false
set_option linter.unusedSimpArgs false
set_option maxHeartbeats 800000 in
theorem most_any (a b : Int) (w : World) : Calls Try.prog 142 #[.int .i64 a, .int .i64 b] w fun e w' => e = .returned (.int .i64 (max a b)) ∧ w = w' := by
  by_cases h : a > b
  · have hm : max a b = a := by omega
    rw [hm]
    clear hm
    go_enter Try.func142, Try.ntmps142
    go_wp2_with fail
    go_ret
    exact ⟨rfl, rfl⟩
  · have hm : max a b = b := by omega
    rw [hm]
    clear hm
    go_enter Try.func142, Try.ntmps142
    go_wp2_with fail
    go_ret
    exact ⟨rfl, rfl⟩
/-- the place of a step's target in the ranks -/
theorem rank_cell {w : World} {B n : Nat} {A : Option Addr} {ρ : List Int} {s : Tri} (h : IntsAt w B A n ρ) (hs : 0 ≤ s.2.2 ∧ s.2.2 < (n : Int)) : ∃ (q b off : Nat), s.2.2 = (q : Int) ∧ q < n ∧ A = some ⟨b, off, none⟩ ∧ b < B ∧ w.cell? ⟨b, off + q, none⟩ = some (.int .i64 (at' ρ s)) := by
  obtain ⟨q, hq⟩ : ∃ q : Nat, s.2.2 = (q : Int) := ⟨s.2.2.toNat, by omega⟩
  have hqn : q < n := by omega
  obtain ⟨b, off, z, e, hb, hx, hc⟩ := IntsAt.get h hqn
  refine ⟨q, b, off, hq, hqn, e, hb, ?_⟩
  have : at' ρ s = z := by
    show ρ.getD s.2.2.toNat 0 = z
    rw [hq]
    exact getD_of hx
  rw [this]
  exact hc
set_option maxRecDepth 20000 in
set_option maxHeartbeats 6400000 in
theorem lrank_any (A1 A2 : Option Addr) (n1 c1 n2 c2 : Nat) (ts : List Tri) (Ar : Option Addr) (cr : Nat) (ρ : List Int) (M i : Int) (w : World) (h : TriAt w w.heap.size A2 n2 ts) (hr : IntsAt w w.heap.size Ar n1 ρ) (hn1 : n1 ≤ 1048576) (hn2 : n2 ≤ 1048576) (ht : ∀ t ∈ ts, 0 ≤ t.2.2 ∧ t.2.2 < (n1 : Int)) (hM : Bnd M ρ) (hM0 : 0 ≤ M) (hM1 : M ≤ 1048576) :
    Calls Try.prog 121 #[.agg #[.slice A1 n1 c1, .slice A2 n2 c2], .slice Ar n1 cr, .int .i64 i] w fun e w' => e = .returned (.int .i64 (rkv ρ (outOf ts i))) ∧ Below w.heap.size w w' := by
  have HB0 := Lib.hid ((Below.refl w.heap.size w).alloc (Nat.le_refl _) (.cells #[.slice A1 n1 c1, .slice A2 n2 c2] 32))
  have HBx := Lib.hid (BoxN.new w #[.slice A1 n1 c1, .slice A2 n2 c2] 32)
  obtain ⟨W, hW⟩ : ∃ W, w.alloc (.cells #[.slice A1 n1 c1, .slice A2 n2 c2] 32) = W := ⟨_, rfl⟩
  rw [hW] at HBx HB0
  have HWq := Lib.hid hW
  have hWs := HBx.out.lt
  have HR := Lib.hid hr
  have CF := lfrom_any A1 A2 n1 c1 n2 c2 ts i W ((h.below HB0.out).wide HB0.out.size) hn2
  have hol : (outOf ts i).length ≤ 1048576 := by have := out_len ts i; have := h.1; omega
  have HSt := Lib.hid (fun s (hs : s ∈ outOf ts i) => ht s (List.mem_filter.1 hs).1)
  have HMx := Lib.hid (fun (ss : List Tri) => mostL_le (hM.at hM0) ss (-1) (by omega))
  have HAt := Lib.hid (fun s => hM.at hM0 s)
  obtain ⟨ss, hss⟩ : ∃ ss, outOf ts i = ss := ⟨_, rfl⟩
  rw [hss] at CF hol HSt ⊢
  obtain ⟨x0, x1⟩ := box2 HBx.out
  obtain ⟨V, hV⟩ : ∃ V, rkv ρ ss = V := ⟨_, rfl⟩
  rw [hV]
  have HV := Lib.hid hV
  clear hW h hr ht hM hss hV
  obtain ⟨R, hR⟩ : ∃ R, ss.length = R := ⟨_, rfl⟩
  have HRl := Lib.hid hR
  rw [hR] at CF hol
  clear hR
  go_enter Try.func121, Try.ntmps121
  go_wp2_with fail
  rw [HWq.out]
  try go_wp2_with fail
  refine CF.mono ?_
  rintro e w1 ⟨g, c, rfl, ht1, hb1⟩
  have HT1 := Lib.hid ht1
  have HB1 := Lib.hid (HB0.out.trans (hb1.mono HB0.out.size))
  clear CF ht1 hb1 x0 x1
  go_wp2_with fail
  go_loopw [8, 9] (fun m k wr => ∃ j : Nat, j ≤ R ∧ k = .int .i64 j ∧ m = .int .i64 (mostL (-1) ρ (ss.take j)) ∧ (∀ (q : Nat) s, q < j → ss[q]? = some s → 0 ≤ at' ρ s) ∧ w1 = wr) (fun _ k _ => R - (intOf k).toNat)
  case atStart => exact ⟨0, Nat.zero_le _, rfl, rfl, fun q s hq => absurd hq (Nat.not_lt_zero q), rfl⟩
  case round =>
    obtain ⟨j, hj, rfl, rfl, hok, rfl⟩ := hrel
    have HOk := Lib.hid hok
    clear hok
    by_cases hlt : j < R
    · obtain ⟨b, off, s, eA, hbb, hx, e0, e1, e2⟩ := HT1.out.get hlt
      injection eA with eA
      injection eA with ea eo
      subst ea eo
      rw [Nat.zero_add] at e2
      obtain ⟨q, br, or', hq, hqn, rfl, hbr, hcr⟩ := rank_cell HR.out (HSt.out s (List.mem_of_getElem? hx))
      have hcr1 := (HB1.out.cell (p := ⟨br, or' + q, none⟩) hbr).trans hcr
      rw [hq] at e2
      have HSn := Lib.hid (mostL_snoc (ρ := ρ) (m := -1) hx)
      have hav := HAt.out s
      have hmv := HMx.out (ss.take j)
      have hml := mostL_ge ρ (ss.take j) (-1)
      have HX := Lib.hid hx
      obtain ⟨a, ha⟩ : ∃ a, at' ρ s = a := ⟨_, rfl⟩
      rw [ha] at hcr1 hav HSn
      obtain ⟨P, hP⟩ : ∃ P, mostL (-1) ρ (ss.take j) = P := ⟨_, rfl⟩
      rw [hP] at hmv hml HSn ⊢
      have HAe := Lib.hid ha
      clear e0 e1 hx hcr hP ha
      by_cases hneg : a < 0
      · have hv : rkv ρ ss = -1 := by
          unfold rkv
          have hno : okL ρ ss = false := List.all_eq_false.2 ⟨s, List.mem_of_getElem? HX.out, by rw [HAe.out]; simp; omega⟩
          rw [hno]
          split <;> simp
        have HVn := Lib.hid (HV.out.symm.trans hv)
        clear hv
        go_wp2_with fail
        go_ret
        exact ⟨by rw [HVn.out]; rfl, HB1.out⟩
      · have CM := most_any P a w1
        have HNx : Hid (∀ (q : Nat) u, q < j + 1 → ss[q]? = some u → 0 ≤ at' ρ u) := Lib.hid (fun q u hq hu => by
          by_cases e : q = j
          · subst e; rw [HX.out] at hu; injection hu with hu; subst hu; rw [HAe.out]; omega
          · exact HOk.out q u (by omega) hu)
        go_wp2_with fail
        refine CM.mono ?_
        rintro e w3 ⟨rfl, rfl⟩
        clear CM
        go_wp2_with fail
        go_roundw
        case rel => exact ⟨j + 1, by omega, by go_num, by rw [HSn.out], HNx.out, trivial⟩
        case measure => simp [intOf]; omega
    · obtain rfl : j = R := by omega
      have hall : ss.take j = ss := List.take_of_length_le (by have := HRl.out; omega)
      have hmv := HMx.out ss
      have hml := mostL_ge ρ ss (-1)
      rw [hall]
      have hok : okL ρ ss = true := List.all_eq_true.2 (fun s hs => by
        obtain ⟨q, hq⟩ := List.getElem?_of_mem hs
        exact decide_eq_true (HOk.out q s (by have := (List.getElem?_eq_some_iff.1 hq).1; have := HRl.out; omega) hq))
      by_cases hz : j = 0
      · have hnil : ss = [] := List.eq_nil_of_length_eq_zero (by have := HRl.out; omega)
        have HVn := Lib.hid (HV.out.symm.trans (show rkv ρ ss = -1 by unfold rkv; rw [if_pos hnil]))
        subst hz
        clear hnil hok hall
        obtain ⟨P, hP⟩ : ∃ P, mostL (-1) ρ ss = P := ⟨_, rfl⟩
        rw [hP] at hmv hml ⊢
        clear hP
        go_wp2_with fail
        go_ret
        exact ⟨by rw [HVn.out]; rfl, HB1.out⟩
      · have hnn : ss ≠ [] := fun e => hz (by have := HRl.out; rw [e] at this; simpa using this.symm)
        have HVn := Lib.hid (HV.out.symm.trans (show rkv ρ ss = mostL (-1) ρ ss + 1 by unfold rkv; rw [if_neg hnn, if_pos hok]))
        clear hnn hok hall
        obtain ⟨P, hP⟩ : ∃ P, mostL (-1) ρ ss = P := ⟨_, rfl⟩
        rw [hP] at hmv hml HVn ⊢
        clear hP
        go_wp2_with fail
        go_ret
        exact ⟨by rw [HVn.out]; go_num, HB1.out⟩
theorem own_ints {w : World} {B n : Nat} {v : Value} {ρ : List Int} (h : Owns w B 3 v (ρ.map (Value.int .i64))) (hl : ρ.length = n) : ∃ g cp, v = .slice (some ⟨g, 0, none⟩) n cp ∧ B ≤ g ∧ g < w.heap.size ∧ IntsAt w w.heap.size (some ⟨g, 0, none⟩) n ρ := by
  obtain ⟨g, cp, rfl, h1, h2, h3, h4⟩ := h.at
  rw [List.length_map, hl] at h4 ⊢
  exact ⟨g, cp, rfl, h1, h2, h4⟩
theorem own_set {w : World} {B g m c k : Nat} {t : TypeId} {ys : List Value} {u : Value} (h : Owns w B t (.slice (some ⟨g, 0, none⟩) m c) ys) (hk : k < ys.length) : Owns (w.setCell ⟨g, k, none⟩ u) B t (.slice (some ⟨g, 0, none⟩) m c) (ys.set k u) ∧ (∃ z, w.cell? ⟨g, k, none⟩ = some z) ∧ w.frozen? ⟨g, k, none⟩ = false ∧ B ≤ g := by
  obtain ⟨⟨h1, h2⟩, hn⟩ := h
  rcases h2 with ⟨e, -⟩ | ⟨g', cap, cur, e, hb, hh, hc, hm, hs, ht⟩
  · exact absurd e hn
  injection e with e e3 e4
  injection e with e
  injection e with e _
  subst e e3 e4
  have hrow : w.rowIs g t (c * 1) (fun i => (cur[i]?).getD undef) := ⟨cur, hh, by simpa using hs, fun i hi => by
    show cur[i]? = some ((cur[i]?).getD undef)
    rw [Array.getElem?_eq_getElem (show i < cur.size by omega)]; rfl⟩
  have hkc : k < c * 1 := by omega
  obtain ⟨cur2, hh2, hs2, hf2⟩ := hrow.set k u
  have hv : ∀ i, i < ys.length → cur[i]? = ys[i]? := fun i hi => by
    have : (cur.toList.take (ys.length * 1))[i]? = cur.toList[i]? := List.getElem?_take_of_lt (by omega)
    have h2 : ys.length * 1 = ys.length := Nat.mul_one _
    have h3 : cur.toList.take ys.length = ys := by first | (rw [← h1] at ht; simpa using ht) | (rw [h1]; exact ht) | simpa [← h1] using ht
    rw [h2, h3] at this
    rw [this]
    simp
  refine ⟨⟨⟨by rw [List.length_set]; exact h1, .inr ⟨g, c, cur2, by rw [List.length_set], hb, hh2, by rw [List.length_set]; exact hc, hm, by simpa using hs2, ?_⟩⟩, by simp⟩, ⟨_, hrow.cell hkc⟩, hrow.frozen k, hb⟩
  have hl : (ys.set k u).length = ys.length := List.length_set
  apply List.ext_getElem?
  intro i
  by_cases hi : i < ys.length
  · rw [List.getElem?_take_of_lt (by omega)]
    have h5 := hf2 i (by omega)
    rw [Array.getElem?_toList, h5]
    by_cases e : k = i
    · subst e
      rw [List.getElem?_set_self hi]
      show some (if k = k then u else _) = _
      rw [if_pos rfl]
    · rw [List.getElem?_set_ne e]
      show some (if i = k then u else (cur[i]?).getD undef) = _
      rw [if_neg (fun h => e h.symm), hv i hi, List.getElem?_eq_getElem hi]
      rfl
  · rw [List.getElem?_take_eq_none (by omega), List.getElem?_eq_none (by omega)]
set_option maxRecDepth 20000 in
set_option maxHeartbeats 1600000 in
theorem ow_ints (g n c : Nat) (zs : List Int) (w : World) (h : IntsAt w w.heap.size (some ⟨g, 0, none⟩) n zs) (hn : n ≤ 1048576) :
    Calls Try.prog 120 #[.slice (some ⟨g, 0, none⟩) n c] w fun e w' => ∃ v, e = .returned v ∧ Owns w' w.heap.size 3 v (zs.map (Value.int .i64)) ∧ Below w.heap.size w w' := by
  obtain ⟨i0, hi, hz0, hz1, hz2⟩ := info_parts int_info
  have HI := Lib.hid (And.intro hi (And.intro hz0 (And.intro hz1 hz2)))
  have hl := h.1
  rw [List.length_map] at hl
  obtain ⟨hown, hnn⟩ := own_new w
  have hb := (Below.refl w.heap.size w).alloc (Nat.le_refl _) (.cells #[] 3)
  have hcs := sr_cells (h.below hb)
  have hD : (zs.map (Value.int .i64)).length = n * 1 := by rw [List.length_map, hl, Nat.mul_one]
  have h1c := pti.strs_one zs
  obtain ⟨D, hDe⟩ : ∃ D, zs.map (Value.int .i64) = D := ⟨_, rfl⟩
  have hown0 : (w.alloc (.cells #[] 3)).ownsRow w.heap.size 3 1 (.slice (some ⟨w.heap.size, 0, none⟩) 0 0) 0 [] := hown
  rw [hDe] at hcs hD h1c ⊢
  have hlt0 := hown0.lt
  have HB := Lib.hid hb
  obtain ⟨W, hW⟩ : ∃ W, w.alloc (.cells #[] 3) = W := ⟨_, rfl⟩
  have HWq := Lib.hid hW
  rw [hW] at hown0 hcs HB
  have hwW : w.heap.size ≤ W.heap.size := HB.out.size
  clear hi hz0 hz1 hz2 hb hown hnn h hW
  go_enter Try.func120, Try.ntmps120
  go_wp2_with (rw [HWq.out]; at_builtin; refine wpList_append_own _ rfl _ _ 38 rfl w.heap.size 3 i0 (.int .i64 0) 1 8 Try.underlying38 HI.out.1 HI.out.2.1 HI.out.2.2.1 HI.out.2.2.2 rfl (by decide) _ _ _ rfl hown0 ⟨g, 0, none⟩ n c D rfl hD hcs h1c (by unfold maxLen; omega) (by omega) (by omega) ?_; intro v1 w6 hown1 hgrow1 hnil1)
  have HB6 := Lib.hid (HB.out.grown hgrow1 hwW (fun j hj => (hlt0 j hj).1))
  have HO6 : Hid (Owns w6 w.heap.size 3 v1 D) := Lib.hid ⟨by rw [Nat.zero_add, List.nil_append] at hown1; rw [hD, Nat.mul_one]; exact hown1, fun h => by cases (hnil1.1 h).1⟩
  clear hown1 hgrow1 hnil1
  go_wp2_with fail
  go_ret
  exact ⟨_, rfl, HO6.out, HB6.out⟩
theorem set_last (zs : List Int) (k : Nat) (h : zs.length = k) : ((zs ++ [-1]).map (Value.int .i64)).set k (.int .i64 0) = ((zs ++ [0]).map (Value.int .i64)) := by
  subst h
  rw [← List.map_set]
  congr 1
  simp [List.set_append]
set_option maxRecDepth 20000 in
set_option maxHeartbeats 12800000 in
theorem lranks_any (A1 A2 : Option Addr) (n1 c1 n2 c2 : Nat) (ts : List Tri) (Ag : Option Addr) (ng cg : Nat) (gs : List Int) (w : World) (h : TriAt w w.heap.size A2 n2 ts) (hg : IntsAt w w.heap.size Ag ng gs) (hn1 : n1 ≤ 1048575) (hn2 : n2 ≤ 1048576) (hng : ng ≤ 1048576) (ht : ∀ t ∈ ts, 0 ≤ t.2.2 ∧ t.2.2 < (n1 : Int)) :
    Calls Try.prog 82 #[.agg #[.slice A1 n1 c1, .slice A2 n2 c2], .slice Ag ng cg] w fun e w' => ∃ v, e = .returned v ∧ Owns w' w.heap.size 3 v ((rkL n1 ts gs).map (Value.int .i64)) ∧ Below w.heap.size w w' := by
  obtain ⟨i0, hi, hz0, hz1, hz2⟩ := info_parts int_info
  have HI := Lib.hid (And.intro hi (And.intro hz0 (And.intro hz1 hz2)))
  have HB0 := Lib.hid ((Below.refl w.heap.size w).alloc (Nat.le_refl _) (.cells #[.slice A1 n1 c1, .slice A2 n2 c2] 32))
  have HBx := Lib.hid (BoxN.new w #[.slice A1 n1 c1, .slice A2 n2 c2] 32)
  obtain ⟨W, hW⟩ : ∃ W, w.alloc (.cells #[.slice A1 n1 c1, .slice A2 n2 c2] 32) = W := ⟨_, rfl⟩
  rw [hW] at HBx HB0
  have HWq := Lib.hid hW
  have hWs := HBx.out.lt
  have hsz1 : W.heap.size = w.heap.size + 1 := by rw [← HWq.out]; simp
  have hOn : Owns (W.alloc (.cells #[] 3)) W.heap.size 3 (.slice (some ⟨w.heap.size + 1, 0, none⟩) 0 0) [] := by rw [← hsz1]; exact own_new W
  have hb2 := (Below.refl W.heap.size W).alloc (Nat.le_refl _) (.cells #[] 3)
  obtain ⟨W2, hW2⟩ : ∃ W2, W.alloc (.cells #[] 3) = W2 := ⟨_, rfl⟩
  rw [hW2] at hOn hb2
  have HOn := Lib.hid hOn
  have HB2 := Lib.hid hb2
  have HW2 := Lib.hid hW2
  have HT := Lib.hid ((h.below HB0.out).wide HB0.out.size)
  have HGs := Lib.hid ((hg.below HB0.out).wide HB0.out.size)
  have HTo := Lib.hid ht
  clear hW hW2 hOn hb2 h hg ht hi hz0 hz1 hz2
  go_enter Try.func82, Try.ntmps82
  go_wp2_with fail
  rw [HWq.out]
  try go_wp2_with fail
  rw [HW2.out]
  try go_wp2_with fail
  go_loopw [5, 6] (fun v i wr => ∃ k : Nat, k ≤ n1 ∧ i = .int .i64 k ∧ Owns wr W.heap.size 3 v ((rk0 k gs).map (Value.int .i64)) ∧ Below W.heap.size W wr) (fun _ i _ => n1 - (intOf i).toNat)
  case atStart => exact ⟨0, Nat.zero_le _, rfl, HOn.out, HB2.out⟩
  case round =>
    obtain ⟨k, hk, rfl, hown, hbel⟩ := hrel
    have HBW := Lib.hid hbel
    have hwz : W.heap.size ≤ wr.heap.size := hbel.size
    obtain ⟨x0, x1⟩ := box2 (HBx.out.below hbel hWs)
    by_cases hlt : k < n1
    · have hrl : (rk0 k gs).length = k := rk0_len
      have HRs := Lib.hid (show rk0 (k + 1) gs = rk0 k gs ++ [if hasB gs (k : Int) = true then (0 : Int) else -1] by unfold rk0; rw [List.range_succ, List.map_append]; rfl)
      obtain ⟨zs, hzs⟩ : ∃ zs, rk0 k gs = zs := ⟨_, rfl⟩
      rw [hzs] at hrl hown HRs
      obtain ⟨hown, hnn⟩ := hown
      have HN := Lib.hid hnn
      obtain ⟨D, hD⟩ : ∃ D, zs.map (Value.int .i64) = D := ⟨_, rfl⟩
      have hDl : D.length = k := by rw [← hD, List.length_map, hrl]
      rw [hD, hDl] at hown
      have HOq := Lib.hid hown
      have HD := Lib.hid hD
      have HRl := Lib.hid hrl
      have hlt0 := hown.lt
      clear hnn hzs hD hown hDl hbel
      go_wp2_with (at_builtin; refine wpList_append_own _ rfl _ _ 38 rfl W.heap.size 3 i0 (.int .i64 0) 1 8 Try.underlying38 HI.out.1 HI.out.2.1 HI.out.2.2.1 HI.out.2.2.2 rfl (by decide) _ _ _ rfl (HOq.out.alloc _) ⟨wr.heap.size, 0, none⟩ 1 1 [.int .i64 (-1)] rfl rfl (cell_one_new _ _ _) (fun u hu => by rw [List.mem_singleton.1 hu]; rfl) (by unfold maxLen; omega) (by omega) (by simp; omega) ?_; intro v1 w6 hown1 hgrow1 hnil1)
      have HB6 := Lib.hid ((HBW.out.alloc hwz (.cells #[.int .i64 (-1)] 3)).grown hgrow1 (by simp; omega) (fun j hj => (hlt0 j hj).1))
      have ho6 := own_push hown1 HD.out HRl.out (fun h => HN.out (hnil1.1 h).1)
      have HO6 := Lib.hid ho6
      have CH := l1Has_any Ag ng cg gs (k : Int) w6 _ (HGs.out.below HB6.out) hng
      clear hown1 hgrow1 hnil1 hlt0 x0 x1
      obtain ⟨x0, x1⟩ := box2 (HBx.out.below HB6.out hWs)
      cases hq : hasB gs (k : Int) with
      | false =>
        rw [hq] at CH HRs
        clear hq ho6
        go_wp2_with fail
        refine CH.mono ?_
        rintro e w7 ⟨rfl, rfl⟩
        clear CH
        go_wp2_with fail
        go_roundw
        case rel => exact ⟨k + 1, by omega, by go_num, by rw [HRs.out]; exact HO6.out, HB6.out⟩
        case measure => simp [intOf]; omega
      | true =>
        rw [hq] at CH HRs
        obtain ⟨g, cp, rfl, hgb, hgl, -⟩ := own_ints ho6 (show _ = k + 1 by rw [List.length_append, HRl.out]; rfl)
        obtain ⟨hset, ⟨z, hcz⟩, hfz, -⟩ := own_set (u := .int .i64 0) (k := k) ho6 (by rw [List.length_map, List.length_append, HRl.out]; simp)
        have hse := set_last zs k HRl.out
        rw [hse] at hset
        have HSet := Lib.hid hset
        have HB7 := Lib.hid (HB6.out.setCell (p := ⟨g, k, none⟩) hgb (.int .i64 0))
        clear hq ho6 hset hse
        go_wp2_with fail
        refine CH.mono ?_
        rintro e w7 ⟨rfl, rfl⟩
        clear CH
        go_wp2_with fail
        go_roundw
        case rel => exact ⟨k + 1, by omega, by go_num, by rw [HRs.out]; exact HSet.out, HB7.out⟩
        case measure => simp [intOf]; omega
    · obtain rfl : n1 = k := by omega
      have HO := Lib.hid hown
      clear hown hbel
      go_wp2_with fail
      clear x0 x1
      rename World => w1
      go_loopw [5, 7] (fun v i wr => ∃ r : Nat, r ≤ n1 ∧ i = .int .i64 r ∧ Owns wr W.heap.size 3 v ((jacN ts (rk0 n1 gs) n1 r).map (Value.int .i64)) ∧ Below W.heap.size W wr) (fun _ i _ => n1 - (intOf i).toNat)
      case atStart => exact ⟨0, Nat.zero_le _, rfl, HO.out, HBW.out⟩
      case round =>
        obtain ⟨r, hr, rfl, hown, hbel⟩ := hrel
        have HOr := Lib.hid hown
        have HBr := Lib.hid hbel
        have hwz : W.heap.size ≤ wr.heap.size := hbel.size
        obtain ⟨x0, x1⟩ := box2 (HBx.out.below hbel hWs)
        by_cases hlt : r < n1
        · have hln : (jacN ts (rk0 n1 gs) n1 r).length = n1 := (jacN_after HTo.out r).1.len
          have HBd := Lib.hid (bnd_jac (n := n1) (ts := ts) (gs := gs) r)
          have HNx : Hid (jacN ts (rk0 n1 gs) n1 (r + 1) = nowK ts (jacN ts (rk0 n1 gs) n1 r) n1) := Lib.hid rfl
          obtain ⟨ρ, hρ⟩ : ∃ ρ, jacN ts (rk0 n1 gs) n1 r = ρ := ⟨_, rfl⟩
          rw [hρ] at hown hln HBd HNx
          obtain ⟨g, cp, rfl, hgb, hgl, hsr⟩ := own_ints hown hln
          have HOu := Lib.hid hown
          have HSr := Lib.hid hsr
          have HLn := Lib.hid hln
          have CO := ow_ints g n1 cp ρ wr hsr (by omega)
          clear hown hbel hρ hsr HOr
          go_wp2_with fail
          refine CO.mono ?_
          rintro e w2 ⟨vn, rfl, hon, hbn⟩
          obtain ⟨gn, cn, rfl, hgn, hgnl, -⟩ := own_ints hon hln
          have HOn2 := Lib.hid hon
          have HBn := Lib.hid hbn
          clear CO hon hbn x0 x1
          go_wp2_with fail
          go_loopw [9] (fun k wq => ∃ j : Nat, j ≤ n1 ∧ k = .int .i64 j ∧ Owns wq wr.heap.size 3 (.slice (some ⟨gn, 0, none⟩) n1 cn) ((nowK ts ρ j).map (Value.int .i64)) ∧ Below wr.heap.size wr wq) (fun k _ => n1 - (intOf k).toNat)
          case atStart => exact ⟨0, Nat.zero_le _, rfl, by rw [nowK_zero]; exact HOn2.out, HBn.out⟩
          case round =>
            obtain ⟨j, hj, rfl, hown, hbel⟩ := hrel
            rename World => wq
            have HOj := Lib.hid hown
            have HBj := Lib.hid hbel
            have HBWj := Lib.hid (HBr.out.trans (hbel.mono hwz))
            have hwq : wr.heap.size ≤ wq.heap.size := hbel.size
            obtain ⟨x0, x1⟩ := box2 (HBx.out.below HBWj.out hWs)
            by_cases hlt2 : j < n1
            · have hI := HSr.out.below hbel
              obtain ⟨b, off, p, eA, hbb, hp, e0⟩ := IntsAt.get hI hlt2
              injection eA with eA
              injection eA with e1 e2
              subst e1 e2
              rw [Nat.zero_add] at e0
              have HP := Lib.hid hp
              clear hown hbel hp
              by_cases hneg : p < 0
              · have hjv : nowK ts ρ (j + 1) = (nowK ts ρ j).set j (rkv ρ (outOf ts j)) := by
                  rw [nowK_succ]
                  unfold jv
                  rw [getD_of HP.out, if_pos hneg]
                have HJv := Lib.hid hjv
                have CR := lrank_any A1 A2 n1 c1 n2 c2 ts (some ⟨g, 0, none⟩) cp ρ (r : Int) (j : Int) wq ((HT.out.below HBWj.out).wide HBWj.out.size) (IntsAt.wide hI hwq) (by omega) hn2 HTo.out HBd.out (by omega) (by omega)
                have hxr := rkv_le HBd.out (by omega) (outOf ts j)
                obtain ⟨X, hX⟩ : ∃ X, rkv ρ (outOf ts j) = X := ⟨_, rfl⟩
                rw [hX] at HJv CR
                clear hjv hX hxr hI
                go_wp2_with fail
                refine CR.mono ?_
                rintro e w3 ⟨rfl, hb3⟩
                have ho3 := own_keep HOj.out hb3
                obtain ⟨hset, ⟨z, hcz⟩, hfz, -⟩ := own_set (u := .int .i64 X) (k := j) ho3 (by rw [List.length_map, nowK_len, HLn.out]; exact hlt2)
                rw [← List.map_set, ← HJv.out] at hset
                have HSet := Lib.hid hset
                have HB3 := Lib.hid (HBj.out.trans (hb3.mono hwq))
                have HB4 := Lib.hid (HB3.out.setCell (p := ⟨gn, j, none⟩) hgn (.int .i64 X))
                clear CR ho3 hset hb3
                go_wp2_with fail
                go_roundw
                case rel => exact ⟨j + 1, by omega, by go_num, HSet.out, HB4.out⟩
                case measure => simp [intOf]; omega
              · have HJs := Lib.hid (nowK_same (ts := ts) (ρ := ρ) (k := j) (by rw [HLn.out]; exact hlt2) (by rw [getD_of HP.out]; exact hneg))
                clear hI
                go_wp2_with fail
                go_roundw
                case rel => exact ⟨j + 1, by omega, by go_num, by rw [HJs.out]; exact HOj.out, HBj.out⟩
                case measure => simp [intOf]; omega
            · obtain rfl : n1 = j := by omega
              have HOm := Lib.hid (HOj.out.mono hwz)
              rw [← HNx.out] at HOm
              clear hown hbel
              go_wp2_with fail
              go_roundw
              case rel => exact ⟨r + 1, by omega, by go_num, HOm.out, HBWj.out⟩
              case measure => simp [intOf]; omega
        · obtain rfl : n1 = r := by omega
          have HBz := Lib.hid (HB0.out.trans (HBr.out.mono HB0.out.size))
          have HOz := Lib.hid (HOr.out.mono HB0.out.size)
          clear hown hbel
          go_wp2_with fail
          go_ret
          exact ⟨_, rfl, HOz.out, HBz.out⟩
end Go.Proofs.Ytlpgldejmdiceaa.rks
