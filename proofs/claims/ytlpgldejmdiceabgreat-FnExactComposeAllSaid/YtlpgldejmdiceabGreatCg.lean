/- slices.Grow from nil and slices.Concat, at ints, Wires and Nodes. -/
import Derived.Test.YtlpgldejmdiceabGreatCc
namespace Go.Proofs.YtlpgldejmdiceabGreat.cg
open kit bg opn strs only hb sig inn ht marks eqs hc hi hw hn rs br bm bw cl cc
open Go.RowKit
set_option linter.unusedVariables false
set_option linter.unusedSimpArgs false
/-- slices in a row, of elements of so many cells -/
def PartsK (w : World) (L sz : Nat) (vs : List Value) (ps : List (List Value)) : Prop := ∀ (k : Nat) v, vs[k]? = some v → ∃ xs A n c, ps[k]? = some xs ∧ v = .slice A n c ∧ SR w L A (n * sz) xs ∧ (A = none → c = 0) ∧ ∀ u ∈ xs, u.oneCell' = true
theorem PartsK.below {w w' : World} {L sz : Nat} {vs : List Value} {ps : List (List Value)} (h : PartsK w L sz vs ps) (hb : Below L w w') : PartsK w' L sz vs ps := fun k v hk => by
  obtain ⟨xs, A, n, c, h1, h2, h3, h4, h5⟩ := h k v hk
  exact ⟨xs, A, n, c, h1, h2, h3.below hb, h4, h5⟩
theorem partsK_two {w : World} {L sz : Nat} {A B : Option Addr} {n m c d : Nat} {xs ys : List Value} (h1 : SR w L A (n * sz) xs) (h2 : A = none → c = 0) (h3 : ∀ u ∈ xs, u.oneCell' = true) (k1 : SR w L B (m * sz) ys) (k2 : B = none → d = 0) (k3 : ∀ u ∈ ys, u.oneCell' = true) :
    PartsK w L sz [.slice A n c, .slice B m d] [xs, ys] := fun k v hk => by
  match k, hk with
  | 0, hk =>
    simp at hk
    subst hk
    exact ⟨xs, A, n, c, rfl, rfl, h1, h2, h3⟩
  | 1, hk =>
    simp at hk
    subst hk
    exact ⟨ys, B, m, d, rfl, rfl, k1, k2, k3⟩
  | k + 2, hk => simp at hk
set_option maxRecDepth 20000 in
set_option maxHeartbeats 800000 in
theorem growN_any (n : Nat) (w : World) (hn : n ≤ 1048576) :
    Calls Tryz.prog 118 #[.slice none 0 0, .int .i64 n] w fun e w' => ∃ v, e = .returned v ∧ w'.ownsRow w.heap.size 96 3 v 0 [] ∧ Below w.heap.size w w' := by
  obtain ⟨i0, hi, hz0, hz1, hz2⟩ := info_parts node_info
  by_cases h0 : n = 0
  · subst h0
    go_enter Tryz.func118, Tryz.ntmps118
    go_wp2_with fail
    go_ret
    exact ⟨_, rfl, World.ownsRow_nil _ _ _ _, Below.refl _ _⟩
  · have hrz : ∀ ty, (Builtin.append_ #[26, 3] ty #[.slice none 0 0, .int .i64 n]).run Tryz.prog w = .ok (.slice (some ⟨w.heap.size, 0, none⟩) n (grownCap w n 0 96)) (w.drew.alloc (.cells (([] : List Value).toArray ++ Builtin.zeroCells (.agg #[.int .i64 0, .int .i64 0, .slice none 0 0] : Value).cells n ++ Builtin.zeroCells (.agg #[.int .i64 0, .int .i64 0, .slice none 0 0] : Value).cells (grownCap w n 0 96 - n)) 96)) := fun ty => by
      have h := Lib.run_append_grow_zeros (P := Tryz.prog) w 26 3 ty 96 i0 (.agg #[.int .i64 0, .int .i64 0, .slice none 0 0]) .i64 .i64 Tryz.underlying26 (by kernel_rfl) hi hz0 none 0 0 [] (run_firstCells_none w.drew i0.size 0 0 0) n (by omega) (by rw [hz1]; decide) (by omega) (by omega) (by rw [hz2]; omega) (growslice_fits (by omega) (by rw [hz2]; omega))
      rw [Nat.zero_add] at h
      exact h
    have hGn : n ≤ grownCap w n 0 96 := grownCap_ge w _ _ _
    have hGm := grownCap_le_maxLen w n 0 96 (by unfold maxLen; omega)
    obtain ⟨G, hG⟩ : ∃ G, grownCap w n 0 96 = G := ⟨_, rfl⟩
    rw [hG] at hrz hGn hGm
    have hG63 : G ≤ 9223372036854775807 := by unfold maxLen at hGm; omega
    have hown := Lib.hid (World.ownsRow_made (base := w.heap.size) (e := 96) (size := 3) w.drew (([] : List Value).toArray ++ Builtin.zeroCells (.agg #[.int .i64 0, .int .i64 0, .slice none 0 0] : Value).cells n ++ Builtin.zeroCells (.agg #[.int .i64 0, .int .i64 0, .slice none 0 0] : Value).cells (G - n)) G (Nat.le_of_eq (by rfl)) hGm (by simp [size_zeroCells, Value.cells]; omega))
    have hB := Lib.hid ((Below.refl w.heap.size w).drew.alloc (Nat.le_of_eq (by rfl)) (.cells (([] : List Value).toArray ++ Builtin.zeroCells (.agg #[.int .i64 0, .int .i64 0, .slice none 0 0] : Value).cells n ++ Builtin.zeroCells (.agg #[.int .i64 0, .int .i64 0, .slice none 0 0] : Value).cells (G - n)) 96))
    obtain ⟨Z, hZ⟩ : ∃ Z, w.drew.alloc (.cells (([] : List Value).toArray ++ Builtin.zeroCells (.agg #[.int .i64 0, .int .i64 0, .slice none 0 0] : Value).cells n ++ Builtin.zeroCells (.agg #[.int .i64 0, .int .i64 0, .slice none 0 0] : Value).cells (G - n)) 96) = Z := ⟨_, rfl⟩
    rw [hZ] at hrz hown hB
    clear hZ hG
    go_enter Tryz.func118, Tryz.ntmps118
    go_wp2_with (at_builtin; refine Lib.wpList_append_run _ rfl _ _ _ _ rfl _ _ rfl rfl _ _ (hrz _) ?_)
    go_ret
    exact ⟨_, rfl, hown.out, hB.out⟩
set_option maxRecDepth 20000 in
set_option maxHeartbeats 1600000 in
theorem concatN_any (A : Option Addr) (m c N : Nat) (vs : List Value) (ps : List (List Value)) (w : World) (hV : SR w w.heap.size A m vs) (hP : PartsK w w.heap.size 3 vs ps) (hl : ps.length = m) (hT : ps.flatten.length = N * 3) (hN : N ≤ 1048576) (hm : m ≤ 1048576) :
    Calls Tryz.prog 98 #[.slice A m c] w fun e w' => ∃ v, e = .returned v ∧ w'.ownsRow w.heap.size 96 3 v N ps.flatten ∧ Below w.heap.size w w' := by
  obtain ⟨i0, hi, hz0, hz1, hz2⟩ := info_parts node_info
  have HI := Lib.hid (And.intro hi (And.intro hz0 (And.intro hz1 hz2)))
  have HP := Lib.hid hP
  have HV := Lib.hid hV
  have CG := growN_any N w hN
  have HF : Hid ((ps.take m).flatten = ps.flatten) := Lib.hid (by rw [← hl, List.take_length])
  have HT := Lib.hid hT
  clear hi hz0 hz1 hz2 hP hV hT
  go_enter Tryz.func98, Tryz.ntmps98
  go_wp2_with fail
  go_loopw [3, 11] (fun z i wr => ∃ (k T : Nat), k ≤ m ∧ i = .int .i64 k ∧ z = .int .i64 (T : Nat) ∧ (ps.take k).flatten.length = T * 3 ∧ w = wr) (fun _ i _ => m - (intOf i).toNat)
  case atStart => exact ⟨0, 0, Nat.zero_le _, rfl, rfl, by simp, rfl⟩
  case round =>
    obtain ⟨k, T, hk, rfl, rfl, hTT, rfl⟩ := hrel
    have HTT := Lib.hid hTT
    clear hTT
    by_cases hlt : k < m
    · obtain ⟨b, off, v, rfl, hb, hx, hc⟩ := HV.out.get hlt
      obtain ⟨xs, Ax, nx, cx, hpk, rfl, hs, h0, h1⟩ := HP.out k v hx
      have HFn : Hid ((ps.take (k + 1)).flatten.length = (T + nx) * 3) := Lib.hid (by rw [flat_snoc hpk, List.length_append, hs.1, HTT.out]; omega)
      have hle : T + nx ≤ N := by
        have h1 := flat_le ps (k + 1)
        rw [HFn.out, HT.out] at h1
        omega
      have hw1 : wrap64 ((T : Int) + (nx : Int)) = ((T + nx : Nat) : Int) := by unfold wrap64; omega
      clear hs hpk hx h0 h1
      go_wp2_with fail
      go_roundw
      case rel => exact ⟨k + 1, T + nx, by omega, by go_num, by go_num, HFn.out, by first | trivial | rfl⟩
      case measure => simp [intOf]; omega
    · obtain rfl : m = k := by omega
      obtain rfl : T = N := by
        have h1 := HTT.out
        rw [HF.out, HT.out] at h1
        omega
      go_wp2_with fail
      refine CG.mono ?_
      rintro e w1 ⟨v1, rfl, hown, hb⟩
      have HOwn := Lib.hid hown
      have HB1 := Lib.hid hb
      clear CG hown hb
      go_wp2_with fail
      go_loopw [6, 27] (fun v i wr => ∃ (k S : Nat), k ≤ m ∧ i = .int .i64 k ∧ wr.ownsRow w.heap.size 96 3 v S (ps.take k).flatten ∧ (ps.take k).flatten.length = S * 3 ∧ Below w.heap.size w wr) (fun _ i _ => m - (intOf i).toNat)
      case atStart => exact ⟨0, 0, Nat.zero_le _, rfl, HOwn.out, by simp, HB1.out⟩
      case round =>
        obtain ⟨k, S, hk, rfl, hown, hSS, hbel⟩ := hrel
        have HSS := Lib.hid hSS
        clear hSS
        by_cases hlt : k < m
        · obtain ⟨b, off, v, rfl, hb, hx, hc⟩ := HV.out.get hlt
          obtain ⟨xs, Ax, nx, cx, hpk, rfl, hs, h0, h1⟩ := HP.out k v hx
          have hcc := (hbel.cell (p := ⟨b, off + k, none⟩) hb).trans hc
          have HFl : Hid ((ps.take (k + 1)).flatten.length = (S + nx) * 3) := Lib.hid (by rw [flat_snoc hpk, List.length_append, hs.1, HSS.out]; omega)
          have hle : S + nx ≤ T := by
            have h1 := flat_le ps (k + 1)
            rw [HFl.out, HT.out] at h1
            omega
          have hsn := hs.1
          have HFn : Hid ((ps.take (k + 1)).flatten = (ps.take k).flatten ++ xs) := Lib.hid (flat_snoc hpk)
          obtain ⟨F, hF⟩ : ∃ F, (ps.take k).flatten = F := ⟨_, rfl⟩
          rw [hF] at HFn hown
          have hsz := hbel.size
          have hblt := hown.lt
          have hs' := hs.below hbel
          clear hF hpk hx hc
          cases Ax with
          | none =>
            obtain rfl : cx = 0 := h0 rfl
            obtain rfl : nx = 0 := by
              by_cases e : nx = 0
              · exact e
              · obtain ⟨b2, off2, e2, _⟩ := hs.2 (by omega)
                cases e2
            have hx0 : xs = [] := List.length_eq_zero_iff.1 (by omega)
            subst hx0
            rw [List.append_nil] at HFn
            have HOw := Lib.hid hown
            go_wp2_with (at_builtin; refine wpList_append_own_none rfl _ _ 26 rfl w.heap.size 96 i0 3 Tryz.underlying26 HI.out.1 _ S F rfl HOw.out rfl ?_; clear hown)
            go_roundw
            case rel => exact ⟨k + 1, S, by omega, by go_num, by rw [HFn.out]; exact HOw.out, by rw [HFl.out]; omega, hbel⟩
            case measure => simp [intOf]; omega
          | some Ax =>
            have hce := sr_cells hs'
            go_wp2_with (at_builtin; refine wpList_append_own _ rfl _ _ 26 rfl w.heap.size 96 i0 (.agg #[.int .i64 0, .int .i64 0, .slice none 0 0]) 3 40 Tryz.underlying26 HI.out.1 HI.out.2.1 HI.out.2.2.1 HI.out.2.2.2 rfl (by decide) _ _ _ rfl hown Ax nx cx xs rfl hsn hce h1 (by unfold maxLen; omega) (by omega) hsz ?_; intro v1 w5 hown1 hgrow1 hnil1; have hb1 := Lib.hid (hbel.grown hgrow1 hsz (fun j hj => (hblt j hj).1)); have HOw := Lib.hid hown1; clear hown1 hgrow1 hnil1 hown hbel)
            go_roundw
            case rel => exact ⟨k + 1, S + nx, by omega, by go_num, by rw [HFn.out]; exact HOw.out, HFl.out, hb1.out⟩
            case measure => simp [intOf]; omega
        · obtain rfl : m = k := by omega
          obtain rfl : S = T := by
            have h1 := HSS.out
            rw [HF.out, HT.out] at h1
            omega
          rw [HF.out] at hown
          have HOw := Lib.hid hown
          have HBl := Lib.hid hbel
          clear hown hbel
          go_wp2_with fail
          go_ret
          exact ⟨_, rfl, HOw.out, HBl.out⟩
end Go.Proofs.YtlpgldejmdiceabGreat.cg
