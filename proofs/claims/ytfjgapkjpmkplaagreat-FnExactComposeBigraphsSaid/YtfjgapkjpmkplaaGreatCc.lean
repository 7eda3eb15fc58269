/- slices.Grow from nil and slices.Concat, at strings. -/
import Derived.Test.YtfjgapkjpmkplaaGreatQd
import Derived.Lib.AppendZerosOnto
namespace Go.Proofs.YtfjgapkjpmkplaaGreat.cc
open kit bg opn strs only hb sig inn ht marks eqs hc hi hw hn rs br bm bw cl
open Go.RowKit
set_option linter.unusedVariables false
set_option linter.unusedSimpArgs false
set_option maxRecDepth 20000 in
set_option maxHeartbeats 800000 in
theorem growS_any (n : Nat) (w : World) (hn : n ≤ 1048576) :
    Calls Tryz.prog 243 #[.slice none 0 0, .int .i64 n] w fun e w' => ∃ v, e = .returned v ∧ w'.ownsRow w.heap.size 9 1 v 0 [] ∧ Below w.heap.size w w' := by
  obtain ⟨i0, hi, hz0, hz1, hz2⟩ := info_parts str_info
  by_cases h0 : n = 0
  · subst h0
    go_enter Tryz.func243, Tryz.ntmps243
    go_wp2_with fail
    go_ret
    exact ⟨_, rfl, World.ownsRow_nil _ _ _ _, Below.refl _ _⟩
  · have hrz : ∀ ty, (Builtin.append_ #[25, 3] ty #[.slice none 0 0, .int .i64 n]).run Tryz.prog w = .ok (.slice (some ⟨w.heap.size, 0, none⟩) n (grownCap w n 0 9)) (w.drew.alloc (.cells (([] : List Value).toArray ++ Builtin.zeroCells (Value.string ⟨#[]⟩).cells n ++ Builtin.zeroCells (Value.string ⟨#[]⟩).cells (grownCap w n 0 9 - n)) 9)) := fun ty => by
      have h := Lib.run_append_grow_zeros (P := Tryz.prog) w 25 3 ty 9 i0 (Value.string ⟨#[]⟩) .i64 .i64 Tryz.underlying25 (by kernel_rfl) hi hz0 none 0 0 [] (run_firstCells_none w.drew i0.size 0 0 0) n (by omega) (by rw [hz1]; decide) (by omega) (by omega) (by rw [hz2]; omega) (growslice_fits (by omega) (by rw [hz2]; omega))
      rw [Nat.zero_add] at h
      exact h
    have hGn : n ≤ grownCap w n 0 9 := grownCap_ge w _ _ _
    have hGm := grownCap_le_maxLen w n 0 9 (by unfold maxLen; omega)
    obtain ⟨G, hG⟩ : ∃ G, grownCap w n 0 9 = G := ⟨_, rfl⟩
    rw [hG] at hrz hGn hGm
    have hG63 : G ≤ 9223372036854775807 := by unfold maxLen at hGm; omega
    have hown := Lib.hid (World.ownsRow_made (base := w.heap.size) (e := 9) (size := 1) w.drew (([] : List Value).toArray ++ Builtin.zeroCells (Value.string ⟨#[]⟩).cells n ++ Builtin.zeroCells (Value.string ⟨#[]⟩).cells (G - n)) G (Nat.le_of_eq (by rfl)) hGm (by simp [size_zeroCells, Value.cells]; omega))
    have hB := Lib.hid ((Below.refl w.heap.size w).drew.alloc (Nat.le_of_eq (by rfl)) (.cells (([] : List Value).toArray ++ Builtin.zeroCells (Value.string ⟨#[]⟩).cells n ++ Builtin.zeroCells (Value.string ⟨#[]⟩).cells (G - n)) 9))
    obtain ⟨Z, hZ⟩ : ∃ Z, w.drew.alloc (.cells (([] : List Value).toArray ++ Builtin.zeroCells (Value.string ⟨#[]⟩).cells n ++ Builtin.zeroCells (Value.string ⟨#[]⟩).cells (G - n)) 9) = Z := ⟨_, rfl⟩
    rw [hZ] at hrz hown hB
    clear hZ hG
    go_enter Tryz.func243, Tryz.ntmps243
    go_wp2_with (at_builtin; refine Lib.wpList_append_run _ rfl _ _ _ _ rfl _ _ rfl rfl _ _ (hrz _) ?_)
    go_ret
    exact ⟨_, rfl, hown.out, hB.out⟩
/-- slices in a row: their cells -/
def PartsAt (w : World) (L : Nat) (vs : List Value) (ps : List (List Value)) : Prop := ∀ (k : Nat) v, vs[k]? = some v → ∃ xs A n c, ps[k]? = some xs ∧ v = .slice A n c ∧ SR w L A n xs ∧ (A = none → c = 0) ∧ ∀ u ∈ xs, u.oneCell' = true
theorem PartsAt.below {w w' : World} {L : Nat} {vs : List Value} {ps : List (List Value)} (h : PartsAt w L vs ps) (hb : Below L w w') : PartsAt w' L vs ps := fun k v hk => by
  obtain ⟨xs, A, n, c, h1, h2, h3, h4, h5⟩ := h k v hk
  exact ⟨xs, A, n, c, h1, h2, h3.below hb, h4, h5⟩
theorem flat_snoc {ps : List (List Value)} {k : Nat} {xs : List Value} (h : ps[k]? = some xs) : (ps.take (k + 1)).flatten = (ps.take k).flatten ++ xs := by
  rw [List.take_add_one, h]; simp
theorem flat_le (ps : List (List Value)) (k : Nat) : (ps.take k).flatten.length ≤ ps.flatten.length := by
  have h : ps.flatten = (ps.take k).flatten ++ (ps.drop k).flatten := by rw [← List.flatten_append, List.take_append_drop]
  rw [h, List.length_append]; omega
set_option maxRecDepth 20000 in
set_option maxHeartbeats 1600000 in
theorem concatS_any (A : Option Addr) (m c : Nat) (vs : List Value) (ps : List (List Value)) (w : World) (hV : SR w w.heap.size A m vs) (hP : PartsAt w w.heap.size vs ps) (hl : ps.length = m) (hT : ps.flatten.length ≤ 1048576) (hm : m ≤ 1048576) :
    Calls Tryz.prog 193 #[.slice A m c] w fun e w' => ∃ v, e = .returned v ∧ w'.ownsRow w.heap.size 9 1 v ps.flatten.length ps.flatten ∧ Below w.heap.size w w' := by
  obtain ⟨i0, hi, hz0, hz1, hz2⟩ := info_parts str_info
  have HI := Lib.hid (And.intro hi (And.intro hz0 (And.intro hz1 hz2)))
  have HP := Lib.hid hP
  have HV := Lib.hid hV
  have CG := growS_any ps.flatten.length w hT
  have HF : Hid ((ps.take m).flatten = ps.flatten) := Lib.hid (by rw [← hl, List.take_length])
  clear hi hz0 hz1 hz2 hP hV
  go_enter Tryz.func193, Tryz.ntmps193
  go_wp2_with fail
  go_loopw [3, 11] (fun z i wr => ∃ k : Nat, k ≤ m ∧ i = .int .i64 k ∧ z = .int .i64 ((ps.take k).flatten.length : Nat) ∧ w = wr) (fun _ i _ => m - (intOf i).toNat)
  case atStart => exact ⟨0, Nat.zero_le _, rfl, rfl, rfl⟩
  case round =>
    obtain ⟨k, hk, rfl, rfl, rfl⟩ := hrel
    by_cases hlt : k < m
    · obtain ⟨b, off, v, rfl, hb, hx, hc⟩ := HV.out.get hlt
      obtain ⟨xs, Ax, nx, cx, hpk, rfl, hs, h0, h1⟩ := HP.out k v hx
      have hle := flat_le ps (k + 1)
      rw [flat_snoc hpk, List.length_append] at hle
      have hsn := hs.1
      have HFn : Hid ((ps.take (k + 1)).flatten.length = (ps.take k).flatten.length + nx) := Lib.hid (by rw [flat_snoc hpk, List.length_append, hsn])
      obtain ⟨T, hTk⟩ : ∃ T, (ps.take k).flatten.length = T := ⟨_, rfl⟩
      rw [hTk] at hle HFn ⊢
      rw [hsn] at hle
      have hw1 : wrap64 ((T : Int) + (nx : Int)) = ((T + nx : Nat) : Int) := by unfold wrap64; omega
      clear hTk hs hpk hx h0 h1 hsn
      go_wp2_with fail
      go_roundw
      case rel => exact ⟨k + 1, by omega, by go_num, by rw [HFn.out]; go_num, by first | trivial | rfl⟩
      case measure => simp [intOf]; omega
    · obtain rfl : m = k := by omega
      rw [HF.out]
      obtain ⟨N, hN⟩ : ∃ N, ps.flatten.length = N := ⟨_, rfl⟩
      rw [hN] at CG ⊢
      have HN := Lib.hid hN
      clear hN
      go_wp2_with fail
      refine CG.mono ?_
      rintro e w1 ⟨v1, rfl, hown, hb⟩
      have HOwn := Lib.hid hown
      have HB1 := Lib.hid hb
      clear CG hown hb
      go_wp2_with fail
      go_loopw [6, 27] (fun v i wr => ∃ k : Nat, k ≤ m ∧ i = .int .i64 k ∧ wr.ownsRow w.heap.size 9 1 v (ps.take k).flatten.length (ps.take k).flatten ∧ Below w.heap.size w wr) (fun _ i _ => m - (intOf i).toNat)
      case atStart => exact ⟨0, Nat.zero_le _, rfl, HOwn.out, HB1.out⟩
      case round =>
        obtain ⟨k, hk, rfl, hown, hbel⟩ := hrel
        by_cases hlt : k < m
        · obtain ⟨b, off, v, rfl, hb, hx, hc⟩ := HV.out.get hlt
          obtain ⟨xs, Ax, nx, cx, hpk, rfl, hs, h0, h1⟩ := HP.out k v hx
          have hcc := (hbel.cell (p := ⟨b, off + k, none⟩) hb).trans hc
          have hle := flat_le ps (k + 1)
          rw [flat_snoc hpk, List.length_append] at hle
          have hsn := hs.1
          have HFn : Hid ((ps.take (k + 1)).flatten = (ps.take k).flatten ++ xs) := Lib.hid (flat_snoc hpk)
          obtain ⟨T, hTk⟩ : ∃ T, (ps.take k).flatten = T := ⟨_, rfl⟩
          rw [hTk] at hle HFn hown
          have HLn : Hid ((T ++ xs).length = T.length + nx) := Lib.hid (by rw [List.length_append, hsn])
          rw [hsn] at hle
          have hsz := hbel.size
          have hblt := hown.lt
          have hs' := hs.below hbel
          clear hTk hpk hx hc
          cases Ax with
          | none =>
            obtain rfl : cx = 0 := h0 rfl
            obtain rfl : nx = 0 := by
              by_cases e : nx = 0
              · exact e
              · obtain ⟨b2, off2, e2, _⟩ := hs.2 (by omega)
                cases e2
            have hx0 : xs = [] := List.length_eq_zero_iff.1 hsn
            subst hx0
            rw [List.append_nil] at HFn
            have HOw := Lib.hid hown
            go_wp2_with (at_builtin; refine wpList_append_own_none rfl _ _ 25 rfl w.heap.size 9 i0 1 Tryz.underlying25 HI.out.1 _ T.length T rfl HOw.out rfl ?_; clear hown)
            go_roundw
            case rel => exact ⟨k + 1, by omega, by go_num, by rw [HFn.out]; exact HOw.out, hbel⟩
            case measure => simp [intOf]; omega
          | some Ax =>
            have hce := sr_cells hs'
            go_wp2_with (at_builtin; refine wpList_append_own _ rfl _ _ 25 rfl w.heap.size 9 i0 (Value.string ⟨#[]⟩) 1 16 Tryz.underlying25 HI.out.1 HI.out.2.1 HI.out.2.2.1 HI.out.2.2.2 rfl (by decide) _ _ _ rfl hown Ax nx cx xs rfl (by rw [hsn, Nat.mul_one]) hce h1 (by unfold maxLen; omega) (by omega) hsz ?_; intro v1 w5 hown1 hgrow1 hnil1; have hb1 := Lib.hid (hbel.grown hgrow1 hsz (fun j hj => (hblt j hj).1)); have HOw := Lib.hid hown1; clear hown1 hgrow1 hnil1 hown hbel)
            go_roundw
            case rel => exact ⟨k + 1, by omega, by go_num, by rw [HFn.out, HLn.out]; exact HOw.out, hb1.out⟩
            case measure => simp [intOf]; omega
        · obtain rfl : m = k := by omega
          rw [HF.out, HN.out] at hown
          have HOw := Lib.hid hown
          have HBl := Lib.hid hbel
          clear hown hbel
          go_wp2_with fail
          go_ret
          refine ⟨_, rfl, ?_, HBl.out⟩
          rw [HN.out]
          exact HOw.out
end Go.Proofs.YtfjgapkjpmkplaaGreat.cc
