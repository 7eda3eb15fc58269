/- Cc Cg Ek Wk Ix Tg Jo Gv Tm Co Nd Ft Gt Su Sa Oc. -/
import Derived.Test.YtfjgapkjpmkplaaGreatXa
import Derived.Test.YtfjgapkjpmkplaaGreatXd
import Derived.Test.YtfjgapkjpmkplaaGreatXc
import Derived.Test.YtfjgapkjpmkplaaGreatXe
import Derived.Test.YtfjgapkjpmkplaaGreatXg
import Derived.Test.YtfjgapkjpmkplaaGreatXb
import Derived.Test.YtfjgapkjpmkplaaGreatRows
import Derived.WalkKit
import Derived.WalkSpells
import Derived.WalkLawsBesides
import Derived.ProofKit
import Derived.OpenShut
import Derived.ShutString
import Derived.Deep.OwnRows
import Derived.Deep.Draws
import Derived.SliceStrings
import Derived.ChangeOld
import Derived.Below
import Derived.Lib.Hide
import Derived.Lib.ItoaNum
import Derived.Deep.QuietTactic
import Derived.BigQuiet
import Derived.Outline
import Derived.StillTailTactics
import Derived.Deep.RegionWith
import Derived.Deep.RegionHeld3
import Derived.Deep.Slices
import Derived.Deep.Fields
import Derived.ChangeSame
import Derived.Lib.SmallJoins
import Derived.Maps.OwnOps
import Derived.Maps.OwnIn
import Derived.Maps.Views
import Derived.Maps.AppendAt
import Derived.RangeFuncBox
import Derived.RangeFuncLeaves
import Derived.Shelf.Abstract
import Derived.OwnWalkIn
import Derived.TacticsInMore
import Derived.LoopNIn
import Derived.LoopIn
import Derived.RangeFuncWrites
import Derived.RangeFuncNested
import Derived.JoinedOf
import Derived.Deep.AppendLies
import Derived.Deep.RegionLaw
import Derived.Laws.AppendOwnNone
import Derived.Deep.Cut
import Derived.Deep.CutRange
import Derived.Lib.SliceRun
import Derived.Lib.AppendZerosOnto
import Derived.OrdersHeld
import Derived.StillTail
import Derived.Lib.Walk
import Derived.Deep.LoopGhost
import Derived.Handy
import Derived.Lib.LazyBuf
import Derived.Sort.OwnSorted
import Derived.Lib.SlicesCompact
import Derived.Sort.KeysCollected
set_option linter.unusedSimpArgs false
set_option linter.unusedVariables false
section
namespace Go.Proofs.YtfjgapkjpmkplaaGreat.cc
open kit bg opn strs only hb sig inn ht marks eqs hc hi hw hn rs br bm bw cl
open Go.RowKit
set_option linter.unusedVariables false
set_option linter.unusedSimpArgs false
set_option maxRecDepth 20000 in
set_option maxHeartbeats 800000 in
theorem growS_any (n : Nat) (w : World) (hn : n ≤ 1048576) :
    Calls Tryz.prog 243 #[.slice none 0 0, .int .i64 n] w fun e w' => ∃ v, e = .returned v ∧ w'.ownsRow w.heap.size 9 1 v 0 [] ∧ Below w.heap.size w w' := by
  obtain ⟨i0, hi, hz0, hz1, hz2⟩ := info_parts str_info
  by_cases h0 : n = 0
  · subst h0
    go_enter Tryz.func243, Tryz.ntmps243
    go_wp2_with fail
    go_ret
    exact ⟨_, rfl, World.ownsRow_nil _ _ _ _, Below.refl _ _⟩
  · have hrz : ∀ ty, (Builtin.append_ #[25, 3] ty #[.slice none 0 0, .int .i64 n]).run Tryz.prog w = .ok (.slice (some ⟨w.heap.size, 0, none⟩) n (grownCap w n 0 9)) (w.drew.alloc (.cells (([] : List Value).toArray ++ Builtin.zeroCells (Value.string ⟨#[]⟩).cells n ++ Builtin.zeroCells (Value.string ⟨#[]⟩).cells (grownCap w n 0 9 - n)) 9)) := fun ty => by
      have h := Lib.run_append_grow_zeros (P := Tryz.prog) w 25 3 ty 9 i0 (Value.string ⟨#[]⟩) .i64 .i64 Tryz.underlying25 (by kernel_rfl) hi hz0 none 0 0 [] (run_firstCells_none w.drew i0.size 0 0 0) n (by omega) (by rw [hz1]; decide) (by omega) (by omega) (by rw [hz2]; omega) (growslice_fits (by omega) (by rw [hz2]; omega))
      rw [Nat.zero_add] at h
      exact h
    have hGn : n ≤ grownCap w n 0 9 := grownCap_ge w _ _ _
    have hGm := grownCap_le_maxLen w n 0 9 (by unfold maxLen; omega)
    obtain ⟨G, hG⟩ : ∃ G, grownCap w n 0 9 = G := ⟨_, rfl⟩
    rw [hG] at hrz hGn hGm
    have hG63 : G ≤ 9223372036854775807 := by unfold maxLen at hGm; omega
    have hown := Lib.hid (World.ownsRow_made (base := w.heap.size) (e := 9) (size := 1) w.drew (([] : List Value).toArray ++ Builtin.zeroCells (Value.string ⟨#[]⟩).cells n ++ Builtin.zeroCells (Value.string ⟨#[]⟩).cells (G - n)) G (Nat.le_of_eq (by rfl)) hGm (by simp [size_zeroCells, Value.cells]; omega))
    have hB := Lib.hid ((Below.refl w.heap.size w).drew.alloc (Nat.le_of_eq (by rfl)) (.cells (([] : List Value).toArray ++ Builtin.zeroCells (Value.string ⟨#[]⟩).cells n ++ Builtin.zeroCells (Value.string ⟨#[]⟩).cells (G - n)) 9))
    obtain ⟨Z, hZ⟩ : ∃ Z, w.drew.alloc (.cells (([] : List Value).toArray ++ Builtin.zeroCells (Value.string ⟨#[]⟩).cells n ++ Builtin.zeroCells (Value.string ⟨#[]⟩).cells (G - n)) 9) = Z := ⟨_, rfl⟩
    rw [hZ] at hrz hown hB
    clear hZ hG
    go_enter Tryz.func243, Tryz.ntmps243
    go_wp2_with (at_builtin; refine Lib.wpList_append_run _ rfl _ _ _ _ rfl _ _ rfl rfl _ _ (hrz _) ?_)
    go_ret
    exact ⟨_, rfl, hown.out, hB.out⟩
def PartsAt (w : World) (L : Nat) (vs : List Value) (ps : List (List Value)) : Prop := ∀ (k : Nat) v, vs[k]? = some v → ∃ xs A n c, ps[k]? = some xs ∧ v = .slice A n c ∧ SR w L A n xs ∧ (A = none → c = 0) ∧ ∀ u ∈ xs, u.oneCell' = true
theorem flat_snoc {ps : List (List Value)} {k : Nat} {xs : List Value} (h : ps[k]? = some xs) : (ps.take (k + 1)).flatten = (ps.take k).flatten ++ xs := by
  rw [List.take_add_one, h]; simp
theorem flat_le (ps : List (List Value)) (k : Nat) : (ps.take k).flatten.length ≤ ps.flatten.length := by
  have h : ps.flatten = (ps.take k).flatten ++ (ps.drop k).flatten := by rw [← List.flatten_append, List.take_append_drop]
  rw [h, List.length_append]; omega
set_option maxRecDepth 20000 in
set_option maxHeartbeats 1600000 in
theorem concatS_any (A : Option Addr) (m c : Nat) (vs : List Value) (ps : List (List Value)) (w : World) (hV : SR w w.heap.size A m vs) (hP : PartsAt w w.heap.size vs ps) (hl : ps.length = m) (hT : ps.flatten.length ≤ 1048576) (hm : m ≤ 1048576) :
    Calls Tryz.prog 193 #[.slice A m c] w fun e w' => ∃ v, e = .returned v ∧ w'.ownsRow w.heap.size 9 1 v ps.flatten.length ps.flatten ∧ Below w.heap.size w w' := by
  obtain ⟨i0, hi, hz0, hz1, hz2⟩ := info_parts str_info
  have HI := Lib.hid (And.intro hi (And.intro hz0 (And.intro hz1 hz2)))
  have HP := Lib.hid hP
  have HV := Lib.hid hV
  have CG := growS_any ps.flatten.length w hT
  have HF : Hid ((ps.take m).flatten = ps.flatten) := Lib.hid (by rw [← hl, List.take_length])
  clear hi hz0 hz1 hz2 hP hV
  go_enter Tryz.func193, Tryz.ntmps193
  go_wp2_with fail
  go_loopw [3, 11] (fun z i wr => ∃ k : Nat, k ≤ m ∧ i = .int .i64 k ∧ z = .int .i64 ((ps.take k).flatten.length : Nat) ∧ w = wr) (fun _ i _ => m - (intOf i).toNat)
  case atStart => exact ⟨0, Nat.zero_le _, rfl, rfl, rfl⟩
  case round =>
    obtain ⟨k, hk, rfl, rfl, rfl⟩ := hrel
    by_cases hlt : k < m
    · obtain ⟨b, off, v, rfl, hb, hx, hc⟩ := HV.out.get hlt
      obtain ⟨xs, Ax, nx, cx, hpk, rfl, hs, h0, h1⟩ := HP.out k v hx
      have hle := flat_le ps (k + 1)
      rw [flat_snoc hpk, List.length_append] at hle
      have hsn := hs.1
      have HFn : Hid ((ps.take (k + 1)).flatten.length = (ps.take k).flatten.length + nx) := Lib.hid (by rw [flat_snoc hpk, List.length_append, hsn])
      obtain ⟨T, hTk⟩ : ∃ T, (ps.take k).flatten.length = T := ⟨_, rfl⟩
      rw [hTk] at hle HFn ⊢
      rw [hsn] at hle
      have hw1 : wrap64 ((T : Int) + (nx : Int)) = ((T + nx : Nat) : Int) := by unfold wrap64; omega
      clear hTk hs hpk hx h0 h1 hsn
      go_wp2_with fail
      go_roundw
      case rel => exact ⟨k + 1, by omega, by go_num, by rw [HFn.out]; go_num, by first | trivial | rfl⟩
      case measure => simp [intOf]; omega
    · obtain rfl : m = k := by omega
      rw [HF.out]
      obtain ⟨N, hN⟩ : ∃ N, ps.flatten.length = N := ⟨_, rfl⟩
      rw [hN] at CG ⊢
      have HN := Lib.hid hN
      clear hN
      go_wp2_with fail
      refine CG.mono ?_
      rintro e w1 ⟨v1, rfl, hown, hb⟩
      have HOwn := Lib.hid hown
      have HB1 := Lib.hid hb
      clear CG hown hb
      go_wp2_with fail
      go_loopw [6, 27] (fun v i wr => ∃ k : Nat, k ≤ m ∧ i = .int .i64 k ∧ wr.ownsRow w.heap.size 9 1 v (ps.take k).flatten.length (ps.take k).flatten ∧ Below w.heap.size w wr) (fun _ i _ => m - (intOf i).toNat)
      case atStart => exact ⟨0, Nat.zero_le _, rfl, HOwn.out, HB1.out⟩
      case round =>
        obtain ⟨k, hk, rfl, hown, hbel⟩ := hrel
        by_cases hlt : k < m
        · obtain ⟨b, off, v, rfl, hb, hx, hc⟩ := HV.out.get hlt
          obtain ⟨xs, Ax, nx, cx, hpk, rfl, hs, h0, h1⟩ := HP.out k v hx
          have hcc := (hbel.cell (p := ⟨b, off + k, none⟩) hb).trans hc
          have hle := flat_le ps (k + 1)
          rw [flat_snoc hpk, List.length_append] at hle
          have hsn := hs.1
          have HFn : Hid ((ps.take (k + 1)).flatten = (ps.take k).flatten ++ xs) := Lib.hid (flat_snoc hpk)
          obtain ⟨T, hTk⟩ : ∃ T, (ps.take k).flatten = T := ⟨_, rfl⟩
          rw [hTk] at hle HFn hown
          have HLn : Hid ((T ++ xs).length = T.length + nx) := Lib.hid (by rw [List.length_append, hsn])
          rw [hsn] at hle
          have hsz := hbel.size
          have hblt := hown.lt
          have hs' := hs.below hbel
          clear hTk hpk hx hc
          cases Ax with
          | none =>
            obtain rfl : cx = 0 := h0 rfl
            obtain rfl : nx = 0 := by
              by_cases e : nx = 0
              · exact e
              · obtain ⟨b2, off2, e2, _⟩ := hs.2 (by omega)
                cases e2
            have hx0 : xs = [] := List.length_eq_zero_iff.1 hsn
            subst hx0
            rw [List.append_nil] at HFn
            have HOw := Lib.hid hown
            go_wp2_with (at_builtin; refine wpList_append_own_none rfl _ _ 25 rfl w.heap.size 9 i0 1 Tryz.underlying25 HI.out.1 _ T.length T rfl HOw.out rfl ?_; clear hown)
            go_roundw
            case rel => exact ⟨k + 1, by omega, by go_num, by rw [HFn.out]; exact HOw.out, hbel⟩
            case measure => simp [intOf]; omega
          | some Ax =>
            have hce := sr_cells hs'
            go_wp2_with (at_builtin; refine wpList_append_own _ rfl _ _ 25 rfl w.heap.size 9 i0 (Value.string ⟨#[]⟩) 1 16 Tryz.underlying25 HI.out.1 HI.out.2.1 HI.out.2.2.1 HI.out.2.2.2 rfl (by decide) _ _ _ rfl hown Ax nx cx xs rfl (by rw [hsn, Nat.mul_one]) hce h1 (by unfold maxLen; omega) (by omega) hsz ?_; intro v1 w5 hown1 hgrow1 hnil1; have hb1 := Lib.hid (hbel.grown hgrow1 hsz (fun j hj => (hblt j hj).1)); have HOw := Lib.hid hown1; clear hown1 hgrow1 hnil1 hown hbel)
            go_roundw
            case rel => exact ⟨k + 1, by omega, by go_num, by rw [HFn.out, HLn.out]; exact HOw.out, hb1.out⟩
            case measure => simp [intOf]; omega
        · obtain rfl : m = k := by omega
          rw [HF.out, HN.out] at hown
          have HOw := Lib.hid hown
          have HBl := Lib.hid hbel
          clear hown hbel
          go_wp2_with fail
          go_ret
          refine ⟨_, rfl, ?_, HBl.out⟩
          rw [HN.out]
          exact HOw.out
end Go.Proofs.YtfjgapkjpmkplaaGreat.cc
end
section
namespace Go.Proofs.YtfjgapkjpmkplaaGreat.cg
open kit bg opn strs only hb sig inn ht marks eqs hc hi hw hn rs br bm bw cl cc
open Go.RowKit
set_option linter.unusedVariables false
set_option linter.unusedSimpArgs false
def PartsK (w : World) (L sz : Nat) (vs : List Value) (ps : List (List Value)) : Prop := ∀ (k : Nat) v, vs[k]? = some v → ∃ xs A n c, ps[k]? = some xs ∧ v = .slice A n c ∧ SR w L A (n * sz) xs ∧ (A = none → c = 0) ∧ ∀ u ∈ xs, u.oneCell' = true
theorem partsK_two {w : World} {L sz : Nat} {A B : Option Addr} {n m c d : Nat} {xs ys : List Value} (h1 : SR w L A (n * sz) xs) (h2 : A = none → c = 0) (h3 : ∀ u ∈ xs, u.oneCell' = true) (k1 : SR w L B (m * sz) ys) (k2 : B = none → d = 0) (k3 : ∀ u ∈ ys, u.oneCell' = true) :
    PartsK w L sz [.slice A n c, .slice B m d] [xs, ys] := fun k v hk => by
  match k, hk with
  | 0, hk =>
    simp at hk
    subst hk
    exact ⟨xs, A, n, c, rfl, rfl, h1, h2, h3⟩
  | 1, hk =>
    simp at hk
    subst hk
    exact ⟨ys, B, m, d, rfl, rfl, k1, k2, k3⟩
  | k + 2, hk => simp at hk
set_option maxRecDepth 20000 in
set_option maxHeartbeats 800000 in
theorem growI_any (n : Nat) (w : World) (hn : n ≤ 1048576) :
    Calls Tryz.prog 238 #[.slice none 0 0, .int .i64 n] w fun e w' => ∃ v, e = .returned v ∧ w'.ownsRow w.heap.size 3 1 v 0 [] ∧ Below w.heap.size w w' := by
  obtain ⟨i0, hi, hz0, hz1, hz2⟩ := info_parts int_info
  by_cases h0 : n = 0
  · subst h0
    go_enter Tryz.func238, Tryz.ntmps238
    go_wp2_with fail
    go_ret
    exact ⟨_, rfl, World.ownsRow_nil _ _ _ _, Below.refl _ _⟩
  · have hrz : ∀ ty, (Builtin.append_ #[24, 3] ty #[.slice none 0 0, .int .i64 n]).run Tryz.prog w = .ok (.slice (some ⟨w.heap.size, 0, none⟩) n (grownCap w n 0 3)) (w.drew.alloc (.cells (([] : List Value).toArray ++ Builtin.zeroCells (.int .i64 0 : Value).cells n ++ Builtin.zeroCells (.int .i64 0 : Value).cells (grownCap w n 0 3 - n)) 3)) := fun ty => by
      have h := Lib.run_append_grow_zeros (P := Tryz.prog) w 24 3 ty 3 i0 (.int .i64 0) .i64 .i64 Tryz.underlying24 (by kernel_rfl) hi hz0 none 0 0 [] (run_firstCells_none w.drew i0.size 0 0 0) n (by omega) (by rw [hz1]; decide) (by omega) (by omega) (by rw [hz2]; omega) (growslice_fits (by omega) (by rw [hz2]; omega))
      rw [Nat.zero_add] at h
      exact h
    have hGn : n ≤ grownCap w n 0 3 := grownCap_ge w _ _ _
    have hGm := grownCap_le_maxLen w n 0 3 (by unfold maxLen; omega)
    obtain ⟨G, hG⟩ : ∃ G, grownCap w n 0 3 = G := ⟨_, rfl⟩
    rw [hG] at hrz hGn hGm
    have hG63 : G ≤ 9223372036854775807 := by unfold maxLen at hGm; omega
    have hown := Lib.hid (World.ownsRow_made (base := w.heap.size) (e := 3) (size := 1) w.drew (([] : List Value).toArray ++ Builtin.zeroCells (.int .i64 0 : Value).cells n ++ Builtin.zeroCells (.int .i64 0 : Value).cells (G - n)) G (Nat.le_of_eq (by rfl)) hGm (by simp [size_zeroCells, Value.cells]; omega))
    have hB := Lib.hid ((Below.refl w.heap.size w).drew.alloc (Nat.le_of_eq (by rfl)) (.cells (([] : List Value).toArray ++ Builtin.zeroCells (.int .i64 0 : Value).cells n ++ Builtin.zeroCells (.int .i64 0 : Value).cells (G - n)) 3))
    obtain ⟨Z, hZ⟩ : ∃ Z, w.drew.alloc (.cells (([] : List Value).toArray ++ Builtin.zeroCells (.int .i64 0 : Value).cells n ++ Builtin.zeroCells (.int .i64 0 : Value).cells (G - n)) 3) = Z := ⟨_, rfl⟩
    rw [hZ] at hrz hown hB
    clear hZ hG
    go_enter Tryz.func238, Tryz.ntmps238
    go_wp2_with (at_builtin; refine Lib.wpList_append_run _ rfl _ _ _ _ rfl _ _ rfl rfl _ _ (hrz _) ?_)
    go_ret
    exact ⟨_, rfl, hown.out, hB.out⟩
set_option maxRecDepth 20000 in
set_option maxHeartbeats 1600000 in
theorem concatI_any (A : Option Addr) (m c N : Nat) (vs : List Value) (ps : List (List Value)) (w : World) (hV : SR w w.heap.size A m vs) (hP : PartsK w w.heap.size 1 vs ps) (hl : ps.length = m) (hT : ps.flatten.length = N * 1) (hN : N ≤ 1048576) (hm : m ≤ 1048576) :
    Calls Tryz.prog 191 #[.slice A m c] w fun e w' => ∃ v, e = .returned v ∧ w'.ownsRow w.heap.size 3 1 v N ps.flatten ∧ Below w.heap.size w w' := by
  obtain ⟨i0, hi, hz0, hz1, hz2⟩ := info_parts int_info
  have HI := Lib.hid (And.intro hi (And.intro hz0 (And.intro hz1 hz2)))
  have HP := Lib.hid hP
  have HV := Lib.hid hV
  have CG := growI_any N w hN
  have HF : Hid ((ps.take m).flatten = ps.flatten) := Lib.hid (by rw [← hl, List.take_length])
  have HT := Lib.hid hT
  clear hi hz0 hz1 hz2 hP hV hT
  go_enter Tryz.func191, Tryz.ntmps191
  go_wp2_with fail
  go_loopw [3, 11] (fun z i wr => ∃ (k T : Nat), k ≤ m ∧ i = .int .i64 k ∧ z = .int .i64 (T : Nat) ∧ (ps.take k).flatten.length = T * 1 ∧ w = wr) (fun _ i _ => m - (intOf i).toNat)
  case atStart => exact ⟨0, 0, Nat.zero_le _, rfl, rfl, by simp, rfl⟩
  case round =>
    obtain ⟨k, T, hk, rfl, rfl, hTT, rfl⟩ := hrel
    have HTT := Lib.hid hTT
    clear hTT
    by_cases hlt : k < m
    · obtain ⟨b, off, v, rfl, hb, hx, hc⟩ := HV.out.get hlt
      obtain ⟨xs, Ax, nx, cx, hpk, rfl, hs, h0, h1⟩ := HP.out k v hx
      have HFn : Hid ((ps.take (k + 1)).flatten.length = (T + nx) * 1) := Lib.hid (by rw [flat_snoc hpk, List.length_append, hs.1, HTT.out]; omega)
      have hle : T + nx ≤ N := by
        have h1 := flat_le ps (k + 1)
        rw [HFn.out, HT.out] at h1
        omega
      have hw1 : wrap64 ((T : Int) + (nx : Int)) = ((T + nx : Nat) : Int) := by unfold wrap64; omega
      clear hs hpk hx h0 h1
      go_wp2_with fail
      go_roundw
      case rel => exact ⟨k + 1, T + nx, by omega, by go_num, by go_num, HFn.out, by first | trivial | rfl⟩
      case measure => simp [intOf]; omega
    · obtain rfl : m = k := by omega
      obtain rfl : T = N := by
        have h1 := HTT.out
        rw [HF.out, HT.out] at h1
        omega
      go_wp2_with fail
      refine CG.mono ?_
      rintro e w1 ⟨v1, rfl, hown, hb⟩
      have HOwn := Lib.hid hown
      have HB1 := Lib.hid hb
      clear CG hown hb
      go_wp2_with fail
      go_loopw [6, 27] (fun v i wr => ∃ (k S : Nat), k ≤ m ∧ i = .int .i64 k ∧ wr.ownsRow w.heap.size 3 1 v S (ps.take k).flatten ∧ (ps.take k).flatten.length = S * 1 ∧ Below w.heap.size w wr) (fun _ i _ => m - (intOf i).toNat)
      case atStart => exact ⟨0, 0, Nat.zero_le _, rfl, HOwn.out, by simp, HB1.out⟩
      case round =>
        obtain ⟨k, S, hk, rfl, hown, hSS, hbel⟩ := hrel
        have HSS := Lib.hid hSS
        clear hSS
        by_cases hlt : k < m
        · obtain ⟨b, off, v, rfl, hb, hx, hc⟩ := HV.out.get hlt
          obtain ⟨xs, Ax, nx, cx, hpk, rfl, hs, h0, h1⟩ := HP.out k v hx
          have hcc := (hbel.cell (p := ⟨b, off + k, none⟩) hb).trans hc
          have HFl : Hid ((ps.take (k + 1)).flatten.length = (S + nx) * 1) := Lib.hid (by rw [flat_snoc hpk, List.length_append, hs.1, HSS.out]; omega)
          have hle : S + nx ≤ T := by
            have h1 := flat_le ps (k + 1)
            rw [HFl.out, HT.out] at h1
            omega
          have hsn := hs.1
          have HFn : Hid ((ps.take (k + 1)).flatten = (ps.take k).flatten ++ xs) := Lib.hid (flat_snoc hpk)
          obtain ⟨F, hF⟩ : ∃ F, (ps.take k).flatten = F := ⟨_, rfl⟩
          rw [hF] at HFn hown
          have hsz := hbel.size
          have hblt := hown.lt
          have hs' := hs.below hbel
          clear hF hpk hx hc
          cases Ax with
          | none =>
            obtain rfl : cx = 0 := h0 rfl
            obtain rfl : nx = 0 := by
              by_cases e : nx = 0
              · exact e
              · obtain ⟨b2, off2, e2, _⟩ := hs.2 (by omega)
                cases e2
            have hx0 : xs = [] := List.length_eq_zero_iff.1 (by omega)
            subst hx0
            rw [List.append_nil] at HFn
            have HOw := Lib.hid hown
            go_wp2_with (at_builtin; refine wpList_append_own_none rfl _ _ 24 rfl w.heap.size 3 i0 1 Tryz.underlying24 HI.out.1 _ S F rfl HOw.out rfl ?_; clear hown)
            go_roundw
            case rel => exact ⟨k + 1, S, by omega, by go_num, by rw [HFn.out]; exact HOw.out, by rw [HFl.out]; omega, hbel⟩
            case measure => simp [intOf]; omega
          | some Ax =>
            have hce := sr_cells hs'
            go_wp2_with (at_builtin; refine wpList_append_own _ rfl _ _ 24 rfl w.heap.size 3 i0 (.int .i64 0) 1 8 Tryz.underlying24 HI.out.1 HI.out.2.1 HI.out.2.2.1 HI.out.2.2.2 rfl (by decide) _ _ _ rfl hown Ax nx cx xs rfl hsn hce h1 (by unfold maxLen; omega) (by omega) hsz ?_; intro v1 w5 hown1 hgrow1 hnil1; have hb1 := Lib.hid (hbel.grown hgrow1 hsz (fun j hj => (hblt j hj).1)); have HOw := Lib.hid hown1; clear hown1 hgrow1 hnil1 hown hbel)
            go_roundw
            case rel => exact ⟨k + 1, S + nx, by omega, by go_num, by rw [HFn.out]; exact HOw.out, HFl.out, hb1.out⟩
            case measure => simp [intOf]; omega
        · obtain rfl : m = k := by omega
          obtain rfl : S = T := by
            have h1 := HSS.out
            rw [HF.out, HT.out] at h1
            omega
          rw [HF.out] at hown
          have HOw := Lib.hid hown
          have HBl := Lib.hid hbel
          clear hown hbel
          go_wp2_with fail
          go_ret
          exact ⟨_, rfl, HOw.out, HBl.out⟩
set_option maxRecDepth 20000 in
set_option maxHeartbeats 800000 in
theorem growW_any (n : Nat) (w : World) (hn : n ≤ 1048576) :
    Calls Tryz.prog 255 #[.slice none 0 0, .int .i64 n] w fun e w' => ∃ v, e = .returned v ∧ w'.ownsRow w.heap.size 139 2 v 0 [] ∧ Below w.heap.size w w' := by
  obtain ⟨i0, hi, hz0, hz1, hz2⟩ := info_parts wire_info
  by_cases h0 : n = 0
  · subst h0
    go_enter Tryz.func255, Tryz.ntmps255
    go_wp2_with fail
    go_ret
    exact ⟨_, rfl, World.ownsRow_nil _ _ _ _, Below.refl _ _⟩
  · have hrz : ∀ ty, (Builtin.append_ #[34, 3] ty #[.slice none 0 0, .int .i64 n]).run Tryz.prog w = .ok (.slice (some ⟨w.heap.size, 0, none⟩) n (grownCap w n 0 139)) (w.drew.alloc (.cells (([] : List Value).toArray ++ Builtin.zeroCells (.agg #[.string ⟨#[]⟩, .int .i64 0] : Value).cells n ++ Builtin.zeroCells (.agg #[.string ⟨#[]⟩, .int .i64 0] : Value).cells (grownCap w n 0 139 - n)) 139)) := fun ty => by
      have h := Lib.run_append_grow_zeros (P := Tryz.prog) w 34 3 ty 139 i0 (.agg #[.string ⟨#[]⟩, .int .i64 0]) .i64 .i64 Tryz.underlying34 (by kernel_rfl) hi hz0 none 0 0 [] (run_firstCells_none w.drew i0.size 0 0 0) n (by omega) (by rw [hz1]; decide) (by omega) (by omega) (by rw [hz2]; omega) (growslice_fits (by omega) (by rw [hz2]; omega))
      rw [Nat.zero_add] at h
      exact h
    have hGn : n ≤ grownCap w n 0 139 := grownCap_ge w _ _ _
    have hGm := grownCap_le_maxLen w n 0 139 (by unfold maxLen; omega)
    obtain ⟨G, hG⟩ : ∃ G, grownCap w n 0 139 = G := ⟨_, rfl⟩
    rw [hG] at hrz hGn hGm
    have hG63 : G ≤ 9223372036854775807 := by unfold maxLen at hGm; omega
    have hown := Lib.hid (World.ownsRow_made (base := w.heap.size) (e := 139) (size := 2) w.drew (([] : List Value).toArray ++ Builtin.zeroCells (.agg #[.string ⟨#[]⟩, .int .i64 0] : Value).cells n ++ Builtin.zeroCells (.agg #[.string ⟨#[]⟩, .int .i64 0] : Value).cells (G - n)) G (Nat.le_of_eq (by rfl)) hGm (by simp [size_zeroCells, Value.cells]; omega))
    have hB := Lib.hid ((Below.refl w.heap.size w).drew.alloc (Nat.le_of_eq (by rfl)) (.cells (([] : List Value).toArray ++ Builtin.zeroCells (.agg #[.string ⟨#[]⟩, .int .i64 0] : Value).cells n ++ Builtin.zeroCells (.agg #[.string ⟨#[]⟩, .int .i64 0] : Value).cells (G - n)) 139))
    obtain ⟨Z, hZ⟩ : ∃ Z, w.drew.alloc (.cells (([] : List Value).toArray ++ Builtin.zeroCells (.agg #[.string ⟨#[]⟩, .int .i64 0] : Value).cells n ++ Builtin.zeroCells (.agg #[.string ⟨#[]⟩, .int .i64 0] : Value).cells (G - n)) 139) = Z := ⟨_, rfl⟩
    rw [hZ] at hrz hown hB
    clear hZ hG
    go_enter Tryz.func255, Tryz.ntmps255
    go_wp2_with (at_builtin; refine Lib.wpList_append_run _ rfl _ _ _ _ rfl _ _ rfl rfl _ _ (hrz _) ?_)
    go_ret
    exact ⟨_, rfl, hown.out, hB.out⟩
set_option maxRecDepth 20000 in
set_option maxHeartbeats 1600000 in
theorem concatW_any (A : Option Addr) (m c N : Nat) (vs : List Value) (ps : List (List Value)) (w : World) (hV : SR w w.heap.size A m vs) (hP : PartsK w w.heap.size 2 vs ps) (hl : ps.length = m) (hT : ps.flatten.length = N * 2) (hN : N ≤ 1048576) (hm : m ≤ 1048576) :
    Calls Tryz.prog 239 #[.slice A m c] w fun e w' => ∃ v, e = .returned v ∧ w'.ownsRow w.heap.size 139 2 v N ps.flatten ∧ Below w.heap.size w w' := by
  obtain ⟨i0, hi, hz0, hz1, hz2⟩ := info_parts wire_info
  have HI := Lib.hid (And.intro hi (And.intro hz0 (And.intro hz1 hz2)))
  have HP := Lib.hid hP
  have HV := Lib.hid hV
  have CG := growW_any N w hN
  have HF : Hid ((ps.take m).flatten = ps.flatten) := Lib.hid (by rw [← hl, List.take_length])
  have HT := Lib.hid hT
  clear hi hz0 hz1 hz2 hP hV hT
  go_enter Tryz.func239, Tryz.ntmps239
  go_wp2_with fail
  go_loopw [3, 11] (fun z i wr => ∃ (k T : Nat), k ≤ m ∧ i = .int .i64 k ∧ z = .int .i64 (T : Nat) ∧ (ps.take k).flatten.length = T * 2 ∧ w = wr) (fun _ i _ => m - (intOf i).toNat)
  case atStart => exact ⟨0, 0, Nat.zero_le _, rfl, rfl, by simp, rfl⟩
  case round =>
    obtain ⟨k, T, hk, rfl, rfl, hTT, rfl⟩ := hrel
    have HTT := Lib.hid hTT
    clear hTT
    by_cases hlt : k < m
    · obtain ⟨b, off, v, rfl, hb, hx, hc⟩ := HV.out.get hlt
      obtain ⟨xs, Ax, nx, cx, hpk, rfl, hs, h0, h1⟩ := HP.out k v hx
      have HFn : Hid ((ps.take (k + 1)).flatten.length = (T + nx) * 2) := Lib.hid (by rw [flat_snoc hpk, List.length_append, hs.1, HTT.out]; omega)
      have hle : T + nx ≤ N := by
        have h1 := flat_le ps (k + 1)
        rw [HFn.out, HT.out] at h1
        omega
      have hw1 : wrap64 ((T : Int) + (nx : Int)) = ((T + nx : Nat) : Int) := by unfold wrap64; omega
      clear hs hpk hx h0 h1
      go_wp2_with fail
      go_roundw
      case rel => exact ⟨k + 1, T + nx, by omega, by go_num, by go_num, HFn.out, by first | trivial | rfl⟩
      case measure => simp [intOf]; omega
    · obtain rfl : m = k := by omega
      obtain rfl : T = N := by
        have h1 := HTT.out
        rw [HF.out, HT.out] at h1
        omega
      go_wp2_with fail
      refine CG.mono ?_
      rintro e w1 ⟨v1, rfl, hown, hb⟩
      have HOwn := Lib.hid hown
      have HB1 := Lib.hid hb
      clear CG hown hb
      go_wp2_with fail
      go_loopw [6, 27] (fun v i wr => ∃ (k S : Nat), k ≤ m ∧ i = .int .i64 k ∧ wr.ownsRow w.heap.size 139 2 v S (ps.take k).flatten ∧ (ps.take k).flatten.length = S * 2 ∧ Below w.heap.size w wr) (fun _ i _ => m - (intOf i).toNat)
      case atStart => exact ⟨0, 0, Nat.zero_le _, rfl, HOwn.out, by simp, HB1.out⟩
      case round =>
        obtain ⟨k, S, hk, rfl, hown, hSS, hbel⟩ := hrel
        have HSS := Lib.hid hSS
        clear hSS
        by_cases hlt : k < m
        · obtain ⟨b, off, v, rfl, hb, hx, hc⟩ := HV.out.get hlt
          obtain ⟨xs, Ax, nx, cx, hpk, rfl, hs, h0, h1⟩ := HP.out k v hx
          have hcc := (hbel.cell (p := ⟨b, off + k, none⟩) hb).trans hc
          have HFl : Hid ((ps.take (k + 1)).flatten.length = (S + nx) * 2) := Lib.hid (by rw [flat_snoc hpk, List.length_append, hs.1, HSS.out]; omega)
          have hle : S + nx ≤ T := by
            have h1 := flat_le ps (k + 1)
            rw [HFl.out, HT.out] at h1
            omega
          have hsn := hs.1
          have HFn : Hid ((ps.take (k + 1)).flatten = (ps.take k).flatten ++ xs) := Lib.hid (flat_snoc hpk)
          obtain ⟨F, hF⟩ : ∃ F, (ps.take k).flatten = F := ⟨_, rfl⟩
          rw [hF] at HFn hown
          have hsz := hbel.size
          have hblt := hown.lt
          have hs' := hs.below hbel
          clear hF hpk hx hc
          cases Ax with
          | none =>
            obtain rfl : cx = 0 := h0 rfl
            obtain rfl : nx = 0 := by
              by_cases e : nx = 0
              · exact e
              · obtain ⟨b2, off2, e2, _⟩ := hs.2 (by omega)
                cases e2
            have hx0 : xs = [] := List.length_eq_zero_iff.1 (by omega)
            subst hx0
            rw [List.append_nil] at HFn
            have HOw := Lib.hid hown
            go_wp2_with (at_builtin; refine wpList_append_own_none rfl _ _ 34 rfl w.heap.size 139 i0 2 Tryz.underlying34 HI.out.1 _ S F rfl HOw.out rfl ?_; clear hown)
            go_roundw
            case rel => exact ⟨k + 1, S, by omega, by go_num, by rw [HFn.out]; exact HOw.out, by rw [HFl.out]; omega, hbel⟩
            case measure => simp [intOf]; omega
          | some Ax =>
            have hce := sr_cells hs'
            go_wp2_with (at_builtin; refine wpList_append_own _ rfl _ _ 34 rfl w.heap.size 139 i0 (.agg #[.string ⟨#[]⟩, .int .i64 0]) 2 24 Tryz.underlying34 HI.out.1 HI.out.2.1 HI.out.2.2.1 HI.out.2.2.2 rfl (by decide) _ _ _ rfl hown Ax nx cx xs rfl hsn hce h1 (by unfold maxLen; omega) (by omega) hsz ?_; intro v1 w5 hown1 hgrow1 hnil1; have hb1 := Lib.hid (hbel.grown hgrow1 hsz (fun j hj => (hblt j hj).1)); have HOw := Lib.hid hown1; clear hown1 hgrow1 hnil1 hown hbel)
            go_roundw
            case rel => exact ⟨k + 1, S + nx, by omega, by go_num, by rw [HFn.out]; exact HOw.out, HFl.out, hb1.out⟩
            case measure => simp [intOf]; omega
        · obtain rfl : m = k := by omega
          obtain rfl : S = T := by
            have h1 := HSS.out
            rw [HF.out, HT.out] at h1
            omega
          rw [HF.out] at hown
          have HOw := Lib.hid hown
          have HBl := Lib.hid hbel
          clear hown hbel
          go_wp2_with fail
          go_ret
          exact ⟨_, rfl, HOw.out, HBl.out⟩
set_option maxRecDepth 20000 in
set_option maxHeartbeats 800000 in
theorem growN_any (n : Nat) (w : World) (hn : n ≤ 1048576) :
    Calls Tryz.prog 232 #[.slice none 0 0, .int .i64 n] w fun e w' => ∃ v, e = .returned v ∧ w'.ownsRow w.heap.size 137 3 v 0 [] ∧ Below w.heap.size w w' := by
  obtain ⟨i0, hi, hz0, hz1, hz2⟩ := info_parts node_info
  by_cases h0 : n = 0
  · subst h0
    go_enter Tryz.func232, Tryz.ntmps232
    go_wp2_with fail
    go_ret
    exact ⟨_, rfl, World.ownsRow_nil _ _ _ _, Below.refl _ _⟩
  · have hrz : ∀ ty, (Builtin.append_ #[33, 3] ty #[.slice none 0 0, .int .i64 n]).run Tryz.prog w = .ok (.slice (some ⟨w.heap.size, 0, none⟩) n (grownCap w n 0 137)) (w.drew.alloc (.cells (([] : List Value).toArray ++ Builtin.zeroCells (.agg #[.int .i64 0, .int .i64 0, .slice none 0 0] : Value).cells n ++ Builtin.zeroCells (.agg #[.int .i64 0, .int .i64 0, .slice none 0 0] : Value).cells (grownCap w n 0 137 - n)) 137)) := fun ty => by
      have h := Lib.run_append_grow_zeros (P := Tryz.prog) w 33 3 ty 137 i0 (.agg #[.int .i64 0, .int .i64 0, .slice none 0 0]) .i64 .i64 Tryz.underlying33 (by kernel_rfl) hi hz0 none 0 0 [] (run_firstCells_none w.drew i0.size 0 0 0) n (by omega) (by rw [hz1]; decide) (by omega) (by omega) (by rw [hz2]; omega) (growslice_fits (by omega) (by rw [hz2]; omega))
      rw [Nat.zero_add] at h
      exact h
    have hGn : n ≤ grownCap w n 0 137 := grownCap_ge w _ _ _
    have hGm := grownCap_le_maxLen w n 0 137 (by unfold maxLen; omega)
    obtain ⟨G, hG⟩ : ∃ G, grownCap w n 0 137 = G := ⟨_, rfl⟩
    rw [hG] at hrz hGn hGm
    have hG63 : G ≤ 9223372036854775807 := by unfold maxLen at hGm; omega
    have hown := Lib.hid (World.ownsRow_made (base := w.heap.size) (e := 137) (size := 3) w.drew (([] : List Value).toArray ++ Builtin.zeroCells (.agg #[.int .i64 0, .int .i64 0, .slice none 0 0] : Value).cells n ++ Builtin.zeroCells (.agg #[.int .i64 0, .int .i64 0, .slice none 0 0] : Value).cells (G - n)) G (Nat.le_of_eq (by rfl)) hGm (by simp [size_zeroCells, Value.cells]; omega))
    have hB := Lib.hid ((Below.refl w.heap.size w).drew.alloc (Nat.le_of_eq (by rfl)) (.cells (([] : List Value).toArray ++ Builtin.zeroCells (.agg #[.int .i64 0, .int .i64 0, .slice none 0 0] : Value).cells n ++ Builtin.zeroCells (.agg #[.int .i64 0, .int .i64 0, .slice none 0 0] : Value).cells (G - n)) 137))
    obtain ⟨Z, hZ⟩ : ∃ Z, w.drew.alloc (.cells (([] : List Value).toArray ++ Builtin.zeroCells (.agg #[.int .i64 0, .int .i64 0, .slice none 0 0] : Value).cells n ++ Builtin.zeroCells (.agg #[.int .i64 0, .int .i64 0, .slice none 0 0] : Value).cells (G - n)) 137) = Z := ⟨_, rfl⟩
    rw [hZ] at hrz hown hB
    clear hZ hG
    go_enter Tryz.func232, Tryz.ntmps232
    go_wp2_with (at_builtin; refine Lib.wpList_append_run _ rfl _ _ _ _ rfl _ _ rfl rfl _ _ (hrz _) ?_)
    go_ret
    exact ⟨_, rfl, hown.out, hB.out⟩
set_option maxRecDepth 20000 in
set_option maxHeartbeats 1600000 in
theorem concatN_any (A : Option Addr) (m c N : Nat) (vs : List Value) (ps : List (List Value)) (w : World) (hV : SR w w.heap.size A m vs) (hP : PartsK w w.heap.size 3 vs ps) (hl : ps.length = m) (hT : ps.flatten.length = N * 3) (hN : N ≤ 1048576) (hm : m ≤ 1048576) :
    Calls Tryz.prog 182 #[.slice A m c] w fun e w' => ∃ v, e = .returned v ∧ w'.ownsRow w.heap.size 137 3 v N ps.flatten ∧ Below w.heap.size w w' := by
  obtain ⟨i0, hi, hz0, hz1, hz2⟩ := info_parts node_info
  have HI := Lib.hid (And.intro hi (And.intro hz0 (And.intro hz1 hz2)))
  have HP := Lib.hid hP
  have HV := Lib.hid hV
  have CG := growN_any N w hN
  have HF : Hid ((ps.take m).flatten = ps.flatten) := Lib.hid (by rw [← hl, List.take_length])
  have HT := Lib.hid hT
  clear hi hz0 hz1 hz2 hP hV hT
  go_enter Tryz.func182, Tryz.ntmps182
  go_wp2_with fail
  go_loopw [3, 11] (fun z i wr => ∃ (k T : Nat), k ≤ m ∧ i = .int .i64 k ∧ z = .int .i64 (T : Nat) ∧ (ps.take k).flatten.length = T * 3 ∧ w = wr) (fun _ i _ => m - (intOf i).toNat)
  case atStart => exact ⟨0, 0, Nat.zero_le _, rfl, rfl, by simp, rfl⟩
  case round =>
    obtain ⟨k, T, hk, rfl, rfl, hTT, rfl⟩ := hrel
    have HTT := Lib.hid hTT
    clear hTT
    by_cases hlt : k < m
    · obtain ⟨b, off, v, rfl, hb, hx, hc⟩ := HV.out.get hlt
      obtain ⟨xs, Ax, nx, cx, hpk, rfl, hs, h0, h1⟩ := HP.out k v hx
      have HFn : Hid ((ps.take (k + 1)).flatten.length = (T + nx) * 3) := Lib.hid (by rw [flat_snoc hpk, List.length_append, hs.1, HTT.out]; omega)
      have hle : T + nx ≤ N := by
        have h1 := flat_le ps (k + 1)
        rw [HFn.out, HT.out] at h1
        omega
      have hw1 : wrap64 ((T : Int) + (nx : Int)) = ((T + nx : Nat) : Int) := by unfold wrap64; omega
      clear hs hpk hx h0 h1
      go_wp2_with fail
      go_roundw
      case rel => exact ⟨k + 1, T + nx, by omega, by go_num, by go_num, HFn.out, by first | trivial | rfl⟩
      case measure => simp [intOf]; omega
    · obtain rfl : m = k := by omega
      obtain rfl : T = N := by
        have h1 := HTT.out
        rw [HF.out, HT.out] at h1
        omega
      go_wp2_with fail
      refine CG.mono ?_
      rintro e w1 ⟨v1, rfl, hown, hb⟩
      have HOwn := Lib.hid hown
      have HB1 := Lib.hid hb
      clear CG hown hb
      go_wp2_with fail
      go_loopw [6, 27] (fun v i wr => ∃ (k S : Nat), k ≤ m ∧ i = .int .i64 k ∧ wr.ownsRow w.heap.size 137 3 v S (ps.take k).flatten ∧ (ps.take k).flatten.length = S * 3 ∧ Below w.heap.size w wr) (fun _ i _ => m - (intOf i).toNat)
      case atStart => exact ⟨0, 0, Nat.zero_le _, rfl, HOwn.out, by simp, HB1.out⟩
      case round =>
        obtain ⟨k, S, hk, rfl, hown, hSS, hbel⟩ := hrel
        have HSS := Lib.hid hSS
        clear hSS
        by_cases hlt : k < m
        · obtain ⟨b, off, v, rfl, hb, hx, hc⟩ := HV.out.get hlt
          obtain ⟨xs, Ax, nx, cx, hpk, rfl, hs, h0, h1⟩ := HP.out k v hx
          have hcc := (hbel.cell (p := ⟨b, off + k, none⟩) hb).trans hc
          have HFl : Hid ((ps.take (k + 1)).flatten.length = (S + nx) * 3) := Lib.hid (by rw [flat_snoc hpk, List.length_append, hs.1, HSS.out]; omega)
          have hle : S + nx ≤ T := by
            have h1 := flat_le ps (k + 1)
            rw [HFl.out, HT.out] at h1
            omega
          have hsn := hs.1
          have HFn : Hid ((ps.take (k + 1)).flatten = (ps.take k).flatten ++ xs) := Lib.hid (flat_snoc hpk)
          obtain ⟨F, hF⟩ : ∃ F, (ps.take k).flatten = F := ⟨_, rfl⟩
          rw [hF] at HFn hown
          have hsz := hbel.size
          have hblt := hown.lt
          have hs' := hs.below hbel
          clear hF hpk hx hc
          cases Ax with
          | none =>
            obtain rfl : cx = 0 := h0 rfl
            obtain rfl : nx = 0 := by
              by_cases e : nx = 0
              · exact e
              · obtain ⟨b2, off2, e2, _⟩ := hs.2 (by omega)
                cases e2
            have hx0 : xs = [] := List.length_eq_zero_iff.1 (by omega)
            subst hx0
            rw [List.append_nil] at HFn
            have HOw := Lib.hid hown
            go_wp2_with (at_builtin; refine wpList_append_own_none rfl _ _ 33 rfl w.heap.size 137 i0 3 Tryz.underlying33 HI.out.1 _ S F rfl HOw.out rfl ?_; clear hown)
            go_roundw
            case rel => exact ⟨k + 1, S, by omega, by go_num, by rw [HFn.out]; exact HOw.out, by rw [HFl.out]; omega, hbel⟩
            case measure => simp [intOf]; omega
          | some Ax =>
            have hce := sr_cells hs'
            go_wp2_with (at_builtin; refine wpList_append_own _ rfl _ _ 33 rfl w.heap.size 137 i0 (.agg #[.int .i64 0, .int .i64 0, .slice none 0 0]) 3 40 Tryz.underlying33 HI.out.1 HI.out.2.1 HI.out.2.2.1 HI.out.2.2.2 rfl (by decide) _ _ _ rfl hown Ax nx cx xs rfl hsn hce h1 (by unfold maxLen; omega) (by omega) hsz ?_; intro v1 w5 hown1 hgrow1 hnil1; have hb1 := Lib.hid (hbel.grown hgrow1 hsz (fun j hj => (hblt j hj).1)); have HOw := Lib.hid hown1; clear hown1 hgrow1 hnil1 hown hbel)
            go_roundw
            case rel => exact ⟨k + 1, S + nx, by omega, by go_num, by rw [HFn.out]; exact HOw.out, HFl.out, hb1.out⟩
            case measure => simp [intOf]; omega
        · obtain rfl : m = k := by omega
          obtain rfl : S = T := by
            have h1 := HSS.out
            rw [HF.out, HT.out] at h1
            omega
          rw [HF.out] at hown
          have HOw := Lib.hid hown
          have HBl := Lib.hid hbel
          clear hown hbel
          go_wp2_with fail
          go_ret
          exact ⟨_, rfl, HOw.out, HBl.out⟩
end Go.Proofs.YtfjgapkjpmkplaaGreat.cg
end
section
namespace Go.Proofs.YtfjgapkjpmkplaaGreat.ek
open kit bg sg opn strs only hb sig isig un over gn nm inn ht gd im pt marks eqs hc hi hw hn rs br bm bw cf lf ib lw cl pl mb sb wb
open Go.RowKit
set_option linter.unusedVariables false
def seqF (z : Int) (n : Nat) : List Int := (List.range n).map (fun (i : Nat) => z + i)
def rtsF (z : Int) (n : Nat) : List Int := (List.range n).map (fun (i : Nat) => -1 - z - i)
theorem seq_snoc (z : Int) (n : Nat) : seqF z (n + 1) = seqF z n ++ [z + n] := by unfold seqF; rw [List.range_succ, List.map_append]; rfl
theorem rts_snoc (z : Int) (n : Nat) : rtsF z (n + 1) = rtsF z n ++ [-1 - z - n] := by unfold rtsF; rw [List.range_succ, List.map_append]; rfl
theorem seq_len (z : Int) (n : Nat) : (seqF z n).length = n := by unfold seqF; simp
theorem rts_len (z : Int) (n : Nat) : (rtsF z n).length = n := by unfold rtsF; simp
theorem seq_get {z : Int} {n i : Nat} (h : i < n) : (seqF z n)[i]? = some (z + i) := by unfold seqF; rw [List.getElem?_map, List.getElem?_range h]; rfl
theorem rts_get {z : Int} {n i : Nat} (h : i < n) : (rtsF z n)[i]? = some (-1 - z - i) := by unfold rtsF; rw [List.getElem?_map, List.getElem?_range h]; rfl
theorem row_grown {w w' : World} {lo hi n c sz base sz2 m : Nat} {t e : TypeId} {A : Option Addr} {M : Nat → Value} {v : Value} {xs : List Value} (h : RowR w lo hi t sz A n c M) (ho : w.ownsRow base e sz2 v m xs) (hg : w.grownBy w' v.ownBlock) (ht : t ≠ e) : RowR w' lo hi t sz A n c M := by
  rcases h with h0 | ⟨g, f, e1, h1, h2, h3, h4, h5⟩
  · exact .inl h0
  · refine .inr ⟨g, f, e1, h1, h2, h3, h4.of_block (hg.block g h4.lt ?_), h5⟩
    intro e2
    obtain ⟨_, ⟨rfl, rfl⟩ | ⟨g', cap, cur, rfl, hb, hh, -⟩⟩ := ho
    · simp [Value.ownBlock] at e2
    · simp [Value.ownBlock] at e2
      subst e2
      obtain ⟨arr, ha, -⟩ := h4
      rw [ha] at hh
      injection hh with hh
      injection hh with _ hh
      exact ht hh
set_option maxHeartbeats 1600000 in
theorem edg_any (z : Int) (n : Nat) (w : World) (hz : -1000 ≤ z ∧ z ≤ 1000) (hn : n ≤ 100) :
    Calls Tryz.prog 194 #[.int .i64 z, .int .i64 (n : Int)] w fun e w' => ∃ v, e = .returned v ∧ w'.ownsRow w.heap.size 3 1 v n ((seqF z n).map (Value.int .i64)) ∧ Below w.heap.size w w' := by
  obtain ⟨i0, hi, hz0, hz1, hz2⟩ := info_parts int_info
  have HI := Lib.hid (And.intro hi (And.intro hz0 (And.intro hz1 hz2)))
  obtain ⟨hzl, hzu⟩ := hz
  clear hi hz0 hz1 hz2
  go_enter Tryz.func194, Tryz.ntmps194
  go_wp2_with fail
  go_loopw [5, 6] (fun v i wr => ∃ k : Nat, k ≤ n ∧ i = .int .i64 k ∧ wr.ownsRow w.heap.size 3 1 v k ((seqF z k).map (Value.int .i64)) ∧ Below w.heap.size w wr) (fun _ i _ => n - (intOf i).toNat)
  case atStart => exact ⟨0, Nat.zero_le _, rfl, by
      have := ownsRow_nil_new w 3 1 w.heap.size (Nat.le_refl _)
      simpa [seqF] using this, (Below.refl _ _).alloc (Nat.le_refl _) _⟩
  case round =>
    obtain ⟨k, hk, rfl, hown, hbel⟩ := hrel
    have hsz := hbel.size
    by_cases hlt : k < n
    · obtain ⟨D, hD⟩ : ∃ D, (seqF z k).map (Value.int .i64) = D := ⟨_, rfl⟩
      have HT := Lib.hid (show (seqF z (k + 1)).map (Value.int .i64) = D ++ [.int .i64 (z + (k : Int))] by rw [seq_snoc, List.map_append, hD]; rfl)
      rw [hD] at hown
      clear hD
      go_wp2_with (at_builtin; refine wpList_append_own _ rfl _ _ 24 rfl w.heap.size 3 i0 (.int .i64 0) 1 8 Tryz.underlying24 HI.out.1 HI.out.2.1 HI.out.2.2.1 HI.out.2.2.2 rfl (by decide) _ _ _ rfl (hown.alloc _) ⟨wr.heap.size, 0, none⟩ 1 1 [.int .i64 (z + (k : Int))] rfl rfl (cell_one_new _ _ _) (fun x hx => by simp at hx; subst hx; rfl) (by unfold maxLen; omega) (by omega) (by simp; omega) ?_; intro v1 w1 hown1 hgrow1 hnil1)
      have hb1 := Lib.hid ((hbel.alloc (by omega) (.cells #[.int .i64 (z + (k : Int))] 3)).grown hgrow1 (by simp; omega) (fun j hj => (hown.lt j hj).1))
      have HOwn := Lib.hid hown1
      clear hown1 hgrow1 hnil1 hown
      go_wp2_with fail
      go_roundw
      case rel => exact ⟨k + 1, by omega, by go_num, by rw [HT.out]; exact HOwn.out, hb1.out⟩
      case measure => simp [intOf]; omega
    · obtain rfl : n = k := by omega
      have HO := Lib.hid hown
      clear hown
      go_wp2_with fail
      go_ret
      exact ⟨_, rfl, HO.out, hbel⟩
set_option maxHeartbeats 1600000 in
theorem rts_any (z : Int) (n : Nat) (w : World) (hz : -1000 ≤ z ∧ z ≤ 1000) (hn : n ≤ 100) :
    Calls Tryz.prog 196 #[.int .i64 z, .int .i64 (n : Int)] w fun e w' => ∃ v, e = .returned v ∧ w'.ownsRow w.heap.size 3 1 v n ((rtsF z n).map (Value.int .i64)) ∧ Below w.heap.size w w' := by
  obtain ⟨i0, hi, hz0, hz1, hz2⟩ := info_parts int_info
  have HI := Lib.hid (And.intro hi (And.intro hz0 (And.intro hz1 hz2)))
  obtain ⟨hzl, hzu⟩ := hz
  clear hi hz0 hz1 hz2
  go_enter Tryz.func196, Tryz.ntmps196
  go_wp2_with fail
  go_loopw [5, 6] (fun v i wr => ∃ k : Nat, k ≤ n ∧ i = .int .i64 k ∧ wr.ownsRow w.heap.size 3 1 v k ((rtsF z k).map (Value.int .i64)) ∧ Below w.heap.size w wr) (fun _ i _ => n - (intOf i).toNat)
  case atStart => exact ⟨0, Nat.zero_le _, rfl, by
      have := ownsRow_nil_new w 3 1 w.heap.size (Nat.le_refl _)
      simpa [rtsF] using this, (Below.refl _ _).alloc (Nat.le_refl _) _⟩
  case round =>
    obtain ⟨k, hk, rfl, hown, hbel⟩ := hrel
    have hsz := hbel.size
    by_cases hlt : k < n
    · obtain ⟨D, hD⟩ : ∃ D, (rtsF z k).map (Value.int .i64) = D := ⟨_, rfl⟩
      have HT := Lib.hid (show (rtsF z (k + 1)).map (Value.int .i64) = D ++ [.int .i64 (-1 - z - (k : Int))] by rw [rts_snoc, List.map_append, hD]; rfl)
      rw [hD] at hown
      clear hD
      go_wp2_with (at_builtin; refine wpList_append_own _ rfl _ _ 24 rfl w.heap.size 3 i0 (.int .i64 0) 1 8 Tryz.underlying24 HI.out.1 HI.out.2.1 HI.out.2.2.1 HI.out.2.2.2 rfl (by decide) _ _ _ rfl (hown.alloc _) ⟨wr.heap.size, 0, none⟩ 1 1 [.int .i64 (-1 - z - (k : Int))] rfl rfl (cell_one_new _ _ _) (fun x hx => by simp at hx; subst hx; rfl) (by unfold maxLen; omega) (by omega) (by simp; omega) ?_; intro v1 w1 hown1 hgrow1 hnil1)
      have hb1 := Lib.hid ((hbel.alloc (by omega) (.cells #[.int .i64 (-1 - z - (k : Int))] 3)).grown hgrow1 (by simp; omega) (fun j hj => (hown.lt j hj).1))
      have HOwn := Lib.hid hown1
      clear hown1 hgrow1 hnil1 hown
      go_wp2_with fail
      go_roundw
      case rel => exact ⟨k + 1, by omega, by go_num, by rw [HT.out]; exact HOwn.out, hb1.out⟩
      case measure => simp [intOf]; omega
    · obtain rfl : n = k := by omega
      have HO := Lib.hid hown
      clear hown
      go_wp2_with fail
      go_ret
      exact ⟨_, rfl, HO.out, hbel⟩
end Go.Proofs.YtfjgapkjpmkplaaGreat.ek
end
section
namespace Go.Proofs.YtfjgapkjpmkplaaGreat.wk
open kit bg sg opn strs only hb sig isig un over gn nm inn ht gd im pt marks eqs hc hi hw hn rs br bm bw cf lf ib lw cl pl mb sb wb ek rn rnm tp
open Go.RowKit
set_option linter.unusedVariables false
set_option linter.unusedSimpArgs false
def lkF (lks : List Int) (l : Int) : Int := (lks[l.toNat]?).getD 0
theorem lkF_get {lks : List Int} {l : Nat} {z : Int} (h : lks[l]? = some z) : lkF lks l = z := by unfold lkF; rw [Int.toNat_natCast, h]; rfl
def wrK (b : Big) (lks : List Int) : List Wr := b.inner.map (fun x => ⟨x.name, lkF lks x.link⟩)
set_option maxRecDepth 20000 in
set_option maxHeartbeats 3200000 in
theorem wrk_any (v : Value) (b : Big) (Ak : Option Addr) (nk ck : Nat) (lks : List Int) (w : World) (hv : BigAt w w.heap.size v b) (hk : IntsAt w w.heap.size Ak nk lks) (hnk : nk ≤ 1048576) (hn : b.inner.length ≤ 16) (hl : ∀ x ∈ b.inner, 0 ≤ x.link ∧ x.link < nk) :
    Calls Tryz.prog 200 #[v, .slice Ak nk ck] w fun e w' => ∃ A' c', e = .returned (.slice A' b.inner.length c') ∧ RowR w' w.heap.size w'.heap.size 139 2 A' b.inner.length c' (wic (wrK b lks)) ∧ Below w.heap.size w w' := by
  obtain ⟨A1, n1, c1, A2, n2, c2, A4, n4, c4, A5, n5, c5, rfl, h1, h2, h4, h5⟩ := hv
  have hl5 : b.inner.length = n5 := h5.1
  have HL5 := Lib.hid hl5
  rw [hl5] at hn ⊢
  have HBox0 : Hid (BoxAt (w.alloc (.cells #[.int .i64 b.roots, .slice A1 n1 c1, .slice A2 n2 c2, .int .i64 b.edges, .slice A4 n4 c4, .slice A5 n5 c5] 36)) w.heap.size 36 (.int .i64 b.roots) (.slice A1 n1 c1) (.slice A2 n2 c2) (.int .i64 b.edges) (.slice A4 n4 c4) (.slice A5 n5 c5)) := Lib.hid (six_new w _ _ _ _ _ _ _)
  have hb0 := (Below.refl w.heap.size w).alloc (Nat.le_refl _) (.cells #[.int .i64 b.roots, .slice A1 n1 c1, .slice A2 n2 c2, .int .i64 b.edges, .slice A4 n4 c4, .slice A5 n5 c5] 36)
  obtain ⟨U, hU⟩ : ∃ U, w.alloc (.cells #[.int .i64 b.roots, .slice A1 n1 c1, .slice A2 n2 c2, .int .i64 b.edges, .slice A4 n4 c4, .slice A5 n5 c5] 36) = U := ⟨_, rfl⟩
  have hUz : U.heap.size = w.heap.size + 1 := by rw [← hU]; simp
  rw [hU] at HBox0 hb0
  have HUq := Lib.hid hU
  have HB0 := Lib.hid hb0
  obtain ⟨i2, hi, hz0, hz1, hz2⟩ := info_parts wire_info
  have HI2 := Lib.hid (And.intro hi (And.intro hz0 (And.intro hz1 hz2)))
  have HOt := Lib.hid (ownsRow_nil_new U 139 2 U.heap.size (Nat.le_refl _))
  rw [hUz] at HOt
  have HbV := Lib.hid ((Below.refl U.heap.size U).alloc (Nat.le_refl _) (.cells #[] 139))
  have HLk := Lib.hid hl
  have HK := Lib.hid hk
  have HWl : Hid ((wrK b lks).length = n5) := Lib.hid (by unfold wrK; rw [List.length_map]; exact hl5)
  clear hb0 hU hi hz0 hz1 hz2 hl hk hl5
  go_enter Tryz.func200, Tryz.ntmps200
  go_wp2_with fail
  rw [HUq.out]
  have hWs : w.heap.size < U.heap.size := by omega
  clear HUq
  go_loopw [5, 6] (fun l i wr => ∃ (k : Nat) (v : Value), k ≤ n5 ∧ i = .int .i64 k ∧ v = l ∧ wr.ownsRow (w.heap.size + 1) 139 2 v k (wcs ((wrK b lks).take k)) ∧ Below U.heap.size U wr) (fun _ i _ => n5 - (intOf i).toNat)
  case atStart => exact ⟨0, _, Nat.zero_le _, rfl, rfl, HOt.out, HbV.out⟩
  case round =>
    obtain ⟨k, v, hk, rfl, rfl, hown, hbel⟩ := hrel
    have hbw := HB0.out.trans (hbel.mono HB0.out.size)
    have hwU := hbel.size
    obtain ⟨x0, x1, x2, x3, x4, x5⟩ := (HBox0.out.below hbel hWs).get
    by_cases hlt : k < n5
    · obtain ⟨bs, offs, z, rfl, hbs, hz, cz0, cz1⟩ := h5.get hlt
      have hzl := HLk.out z (List.mem_of_getElem? hz)
      obtain ⟨zn, zl⟩ := z
      dsimp only at hzl cz0 cz1
      obtain ⟨li, rfl⟩ : ∃ li : Nat, zl = li := ⟨zl.toNat, by omega⟩
      have hlin : li < nk := by omega
      obtain ⟨bk, ok, T, rfl, hbk, hT, ct⟩ := HK.out.get hlin
      have HTk2 : Hid (wcs ((wrK b lks).take (k + 1)) = wcs ((wrK b lks).take k) ++ [.string zn, .int .i64 T]) := Lib.hid (by
        have e : (wrK b lks)[k]? = some ⟨zn, T⟩ := by unfold wrK; rw [List.getElem?_map, hz]; show some (⟨zn, lkF lks (li : Int)⟩ : Wr) = _; rw [lkF_get hT]
        rw [List.take_add_one, e]
        exact wcs_snoc _ _)
      obtain ⟨D, hD⟩ : ∃ D, wcs ((wrK b lks).take k) = D := ⟨_, rfl⟩
      rw [hD] at hown HTk2
      have q0 := (hbw.cell (p := ⟨bs, offs + k * 2, none⟩) hbs).trans cz0
      have q1 := (hbw.cell (p := ⟨bs, offs + k * 2 + 1, none⟩) hbs).trans cz1
      have q2 := (hbw.cell (p := ⟨bk, ok + li, none⟩) hbk).trans ct
      have hwr := hbw.size
      have HBl := Lib.hid hbel
      have HS : Hid (∀ w', Below U.heap.size U w' → w'.cell? ⟨w.heap.size, 5, none⟩ = some (.slice (some ⟨bs, offs, none⟩) n5 c5) ∧ w'.cell? ⟨bs, offs + k * 2, none⟩ = some (.string zn) ∧ w'.cell? ⟨bs, offs + k * 2 + 1, none⟩ = some (.int .i64 (li : Int)) ∧ w'.cell? ⟨bk, ok + li, none⟩ = some (.int .i64 T)) := Lib.hid (fun w' hq => by
        have hqw := HB0.out.trans (hq.mono HB0.out.size)
        exact ⟨(HBox0.out.below hq hWs).get.2.2.2.2.2, (hqw.cell (p := ⟨bs, offs + k * 2, none⟩) hbs).trans cz0, (hqw.cell (p := ⟨bs, offs + k * 2 + 1, none⟩) hbs).trans cz1, (hqw.cell (p := ⟨bk, ok + li, none⟩) hbk).trans ct⟩)
      have e1 : k + 1 ≤ maxLen := by unfold maxLen; omega
      have e2 : (k + 1) * 24 ≤ 140737488355328 := by omega
      have e4' : ∀ u ∈ [Value.string zn, Value.int .i64 T], u.oneCell' = true := fun u hu => by
        simp at hu
        rcases hu with rfl | rfl <;> rfl
      have hkD := hbel.drew
      have hkW := ((Below.refl wr.heap.size wr).drew).alloc (Nat.le_refl _) (.cells #[.string zn, .int .i64 T] 139)
      have hkA := hkD.alloc hkD.size (.cells #[.string zn, .int .i64 T] 139)
      have HkA := Lib.hid hkA
      have HOA := Lib.hid (owns_on hown hkW)
      have e3 : w.heap.size + 1 ≤ (wr.drew.alloc (.cells #[.string zn, .int .i64 T] 139)).heap.size := by have := hkA.size; omega
      have HGr := Lib.hid (fun (w1 : World) (hg1 : (wr.drew.alloc (.cells #[.string zn, .int .i64 T] 139)).grownBy w1 v.ownBlock) => hkA.grown hg1 hkA.size (fun j hj => by have := (hown.lt j hj).1; omega))
      clear hz cz0 cz1 hT ct hown hD hkA hzl hkW
      go_wp2_with fail
      clear x0 x1 x2 x3 x4 x5 q0 q1 q2
      refine rh.go_begin 19 (fun w' => w'.cell? ⟨w.heap.size, 5, none⟩ = some (.slice (some ⟨bs, offs, none⟩) n5 c5) ∧ w'.cell? ⟨bs, offs + k * 2, none⟩ = some (.string zn) ∧ w'.cell? ⟨bs, offs + k * 2 + 1, none⟩ = some (.int .i64 (li : Int)) ∧ w'.cell? ⟨bk, ok + li, none⟩ = some (.int .i64 T)) (by kernel_rfl) ?_ (fun hHeld => ?_)
      · ((try dsimp only); exact HS.out _ (by go_grown))
      refine rh.go_take (i := 0) (v := ?v1) rfl (by kernel_rfl) (fun _ _ _ h => h) (Or.inl ⟨by rfl, ?hy1⟩) (by assumption) ?rest1
      case hy1 => (intro wS hSw; (try dsimp only at hSw); go_simp; try (with_reducible rfl))
      try simp only [Act.put, List.setIfInBounds_toArray, List.set_cons_zero, List.set_cons_succ]
      refine rh.go_take (i := 1) (v := ?v2) rfl (by kernel_rfl) (fun _ _ _ h => h) (Or.inl ⟨by rfl, ?hy2⟩) (by assumption) ?rest2
      case hy2 => (intro wS hSw; (try dsimp only at hSw); go_simp; try (with_reducible rfl))
      try simp only [Act.put, List.setIfInBounds_toArray, List.set_cons_zero, List.set_cons_succ]
      refine rh.go_take (i := 2) (v := ?v3) rfl (by kernel_rfl) (fun _ _ _ h => h) (Or.inl ⟨by rfl, ?hy3⟩) (by assumption) ?rest3
      case hy3 => (intro wS hSw; (try dsimp only at hSw); go_simp; try (with_reducible rfl))
      try simp only [Act.put, List.setIfInBounds_toArray, List.set_cons_zero, List.set_cons_succ]
      refine rh.go_take (i := 3) (v := ?v4) rfl (by kernel_rfl) (fun _ _ _ h => h) (Or.inl ⟨by rfl, ?hy4⟩) (by assumption) ?rest4
      case hy4 => (intro wS hSw; (try dsimp only at hSw); go_simp; try (with_reducible rfl))
      try simp only [Act.put, List.setIfInBounds_toArray, List.set_cons_zero, List.set_cons_succ]
      refine rh.go_take (i := 4) (v := ?v5) rfl (by kernel_rfl) (fun _ _ _ h => h) (Or.inl ⟨by rfl, ?hy5⟩) (by assumption) ?rest5
      case hy5 => (intro wS hSw; (try dsimp only at hSw); go_simp; try (with_reducible rfl))
      try simp only [Act.put, List.setIfInBounds_toArray, List.set_cons_zero, List.set_cons_succ]
      refine rh.go_take (i := 5) (v := ?v6) rfl (by kernel_rfl) (fun _ _ _ h => h) (Or.inl ⟨by rfl, ?hy6⟩) (by assumption) ?rest6
      case hy6 => (intro wS hSw; (try dsimp only at hSw); go_simp; try (with_reducible rfl))
      try simp only [Act.put, List.setIfInBounds_toArray, List.set_cons_zero, List.set_cons_succ]
      refine rh.go_take (i := 6) (v := ?v7) rfl (by kernel_rfl) (fun _ _ _ h => h) (Or.inl ⟨by rfl, ?hy7⟩) (by assumption) ?rest7
      case hy7 => (intro wS hSw; (try dsimp only at hSw); go_simp; try (with_reducible rfl))
      try simp only [Act.put, List.setIfInBounds_toArray, List.set_cons_zero, List.set_cons_succ]
      refine rh.go_take (i := 7) (v := ?v8) rfl (by kernel_rfl) (fun _ _ _ h => h) (Or.inl ⟨by rfl, ?hy8⟩) (by assumption) ?rest8
      case hy8 => (intro wS hSw; (try dsimp only at hSw); go_simp; try (with_reducible rfl))
      try simp only [Act.put, List.setIfInBounds_toArray, List.set_cons_zero, List.set_cons_succ]
      refine rh.go_take (i := 8) (v := ?v9) rfl (by kernel_rfl) (fun _ _ _ h => h) (Or.inl ⟨by rfl, ?hy9⟩) (by assumption) ?rest9
      case hy9 => (intro wS hSw; (try dsimp only at hSw); go_simp; try (with_reducible rfl))
      try simp only [Act.put, List.setIfInBounds_toArray, List.set_cons_zero, List.set_cons_succ]
      refine rh.go_take (i := 9) (v := ?v10) rfl (by kernel_rfl) (fun _ _ _ h => h) (Or.inl ⟨by rfl, ?hy10⟩) (by assumption) ?rest10
      case hy10 => (intro wS hSw; (try dsimp only at hSw); go_simp; try (with_reducible rfl))
      try simp only [Act.put, List.setIfInBounds_toArray, List.set_cons_zero, List.set_cons_succ]
      refine rh.go_take (i := 10) (v := ?v11) rfl (by kernel_rfl) (fun _ _ _ h => h) (Or.inl ⟨by rfl, ?hy11⟩) (by assumption) ?rest11
      case hy11 => (intro wS hSw; (try dsimp only at hSw); go_simp; try (with_reducible rfl))
      try simp only [Act.put, List.setIfInBounds_toArray, List.set_cons_zero, List.set_cons_succ]
      refine rh.go_take (i := 11) (v := ?v12) rfl (by kernel_rfl) (fun _ _ _ h => h) (Or.inl ⟨by rfl, ?hy12⟩) (by assumption) ?rest12
      case hy12 => (intro wS hSw; (try dsimp only at hSw); go_simp; try (with_reducible rfl))
      try simp only [Act.put, List.setIfInBounds_toArray, List.set_cons_zero, List.set_cons_succ]
      refine rh.go_take (i := 12) (v := ?v13) rfl (by kernel_rfl) (fun _ _ _ h => h) (Or.inl ⟨by rfl, ?hy13⟩) (by assumption) ?rest13
      case hy13 => (intro wS hSw; (try dsimp only at hSw); go_simp; try (with_reducible rfl))
      try simp only [Act.put, List.setIfInBounds_toArray, List.set_cons_zero, List.set_cons_succ]
      refine rh.go_take (i := 13) (v := ?v14) rfl (by kernel_rfl) (fun _ _ _ h => h) (Or.inl ⟨by rfl, ?hy14⟩) (by assumption) ?rest14
      case hy14 => (intro wS hSw; (try dsimp only at hSw); go_simp; try (with_reducible rfl))
      try simp only [Act.put, List.setIfInBounds_toArray, List.set_cons_zero, List.set_cons_succ]
      refine rh.go_take (i := 14) (v := ?v15) rfl (by kernel_rfl) (fun _ _ _ h => h) (Or.inl ⟨by rfl, ?hy15⟩) (by assumption) ?rest15
      case hy15 => (intro wS hSw; (try dsimp only at hSw); go_simp; try (with_reducible rfl))
      try simp only [Act.put, List.setIfInBounds_toArray, List.set_cons_zero, List.set_cons_succ]
      refine rh.go_take (i := 15) (v := ?v16) rfl (by kernel_rfl) (fun _ _ _ h => h) (Or.inl ⟨by rfl, ?hy16⟩) (by assumption) ?rest16
      case hy16 => (intro wS hSw; (try dsimp only at hSw); go_simp; try (with_reducible rfl))
      try simp only [Act.put, List.setIfInBounds_toArray, List.set_cons_zero, List.set_cons_succ]
      refine rh.go_take (i := 16) (v := ?v17) rfl (by kernel_rfl) (fun _ _ _ h => h) (Or.inl ⟨by rfl, ?hy17⟩) (by assumption) ?rest17
      case hy17 => (intro wS hSw; (try dsimp only at hSw); go_simp; try (with_reducible rfl))
      try simp only [Act.put, List.setIfInBounds_toArray, List.set_cons_zero, List.set_cons_succ]
      refine rh.go_next (i := 17) rfl (by kernel_rfl) (fun K2 hK => ?_)
      go_simp
      refine hK.out _ _ ?_ (fun hHeld => ?_)
      · ((try dsimp only); exact HS.out _ (by go_grown))
      clear hK K2
      try simp only [Act.put, List.setIfInBounds_toArray, List.set_cons_zero, List.set_cons_succ]
      refine rh.go_next (i := 18) rfl (by kernel_rfl) (fun K2 hK => ?_)
      (refine step_append_own rfl _ _ 34 rfl (w.heap.size + 1) 139 i2 (.agg #[.string ⟨#[]⟩, .int .i64 0]) 2 24 Tryz.underlying34 HI2.out.1 HI2.out.2.1 HI2.out.2.2.1 HI2.out.2.2.2 rfl (by decide) _ _ _ (by first | rfl | simp [Act.eval, Act.put]) HOA.out ⟨wr.drew.heap.size, 0, none⟩ 1 1 [.string zn, .int .i64 T] (by first | rfl | simp [Act.eval, Act.put]) rfl (cells_two_new wr.drew (.string zn) (.int .i64 T) 139) e4' e1 e2 e3 ?_; intro v1 w5 hown1 hgrow1 hnil1; have HOw5 := Lib.hid hown1; have hq5 := HGr.out _ hgrow1; clear hgrow1 hnil1 hown1; (try go_simp))
      refine hK.out _ _ ?_ (fun hHeld => ?_)
      · ((try dsimp only); exact HS.out _ (by go_grown))
      clear hK K2
      try simp only [Act.put, List.setIfInBounds_toArray, List.set_cons_zero, List.set_cons_succ]
      refine rh.go_last rfl (by kernel_rfl) (fun K2 hK => ?_)
      go_simp
      refine hK.out _ _ ?_
      refine NoPanic.normal ?_
      clear hK K2
      go_wp2_with fail
      go_roundw
      case rel => exact ⟨k + 1, _, by omega, by go_num, rfl, by rw [HTk2.out]; exact HOw5.out, hq5⟩
      case measure => simp [intOf]; omega
    · obtain rfl : n5 = k := by omega
      rw [List.take_of_length_le (by rw [HWl.out]; exact Nat.le_refl _)] at hown
      obtain ⟨A5o, c5o, rfl, hrs⟩ := wrs_owned hown
      rw [HWl.out] at hrs ⊢
      have HR := Lib.hid (hrs.wide (lo' := w.heap.size) (Nat.le_succ _) (Nat.le_refl _))
      have HBw := Lib.hid hbw
      clear hown hrs hbel hbw
      go_wp2_with fail
      go_ret
      exact ⟨_, _, rfl, HR.out, HBw.out⟩
end Go.Proofs.YtfjgapkjpmkplaaGreat.wk
end
section
namespace Go.Proofs.YtfjgapkjpmkplaaGreat.ix
open kit bg sg opn strs only hb sig inn ht marks eqs hc hi hw hn rs br bm bw cf lw
open Go.RowKit
set_option linter.unusedVariables false
open Classical in
noncomputable def ixF (ss : List ByteArray) (s : ByteArray) : Int := if ss.findIdx (fun y => decide (y = s)) < ss.length then (ss.findIdx (fun y => decide (y = s)) : Nat) else -1
open Classical in
theorem ixF_no {ss : List ByteArray} {s : ByteArray} (h : ∀ (j : Nat) u, ss[j]? = some u → u ≠ s) : ixF ss s = -1 := by
  unfold ixF
  rw [if_neg]
  intro hlt
  have h1 := List.findIdx_getElem (w := hlt)
  exact h _ _ (List.getElem?_eq_getElem hlt) (of_decide_eq_true h1)
open Classical in
theorem ixF_at {ss : List ByteArray} {s : ByteArray} {k : Nat} (hk : ss[k]? = some s) (h : ∀ (j : Nat) u, j < k → ss[j]? = some u → u ≠ s) : ixF ss s = k := by
  have hkl := (List.getElem?_eq_some_iff.1 hk).1
  have e : ss.findIdx (fun y => decide (y = s)) = k := by
    refine (List.findIdx_eq hkl).2 ⟨?_, fun j hj => ?_⟩
    · have := (List.getElem?_eq_some_iff.1 hk).2
      rw [this]
      exact decide_eq_true rfl
    · exact decide_eq_false (h j _ hj (List.getElem?_eq_getElem (by omega)))
  unfold ixF
  rw [e, if_pos hkl]
theorem ixF_cases (ss : List ByteArray) (s : ByteArray) : (ixF ss s = -1 ∧ s ∉ ss) ∨ ∃ k : Nat, ixF ss s = k ∧ ss[k]? = some s ∧ ∀ (j : Nat) u, j < k → ss[j]? = some u → u ≠ s := by
  by_cases h : s ∈ ss
  · right
    have hex : ∃ k : Nat, ss[k]? = some s := List.getElem?_of_mem h
    have key : ∀ n, (∃ k : Nat, k ≤ n ∧ ss[k]? = some s) → ∃ k : Nat, ss[k]? = some s ∧ ∀ (j : Nat) u, j < k → ss[j]? = some u → u ≠ s := by
      intro n
      induction n with
      | zero =>
        rintro ⟨k, hk, hs⟩
        exact ⟨k, hs, fun j u hj => by omega⟩
      | succ n ih =>
        rintro ⟨k, hk, hs⟩
        by_cases h2 : ∃ k : Nat, k ≤ n ∧ ss[k]? = some s
        · exact ih h2
        · refine ⟨k, hs, fun j u hj hu e => h2 ⟨j, by omega, ?_⟩⟩
          rw [hu, e]
    obtain ⟨k, hk⟩ := hex
    obtain ⟨k, hk, hm⟩ := key k ⟨k, Nat.le_refl _, hk⟩
    exact ⟨k, ixF_at hk hm, hk, hm⟩
  · exact .inl ⟨ixF_no (fun j u hu e => h (e ▸ List.mem_of_getElem? hu)), h⟩
theorem ixF_in (ss : List ByteArray) (s : ByteArray) : -1 ≤ ixF ss s ∧ ixF ss s < ss.length := by
  rcases ixF_cases ss s with ⟨h, _⟩ | ⟨k, h, hk, _⟩
  · rw [h]; omega
  · have := (List.getElem?_eq_some_iff.1 hk).1
    rw [h]; omega
open Classical in
noncomputable def inB (ss : List ByteArray) (s : ByteArray) : Bool := decide (s ∈ ss)
open Classical in
theorem ixF_inB (ss : List ByteArray) (s : ByteArray) : (decide (ixF ss s ≥ 0)) = inB ss s := by
  unfold inB
  rcases ixF_cases ss s with ⟨h, h2⟩ | ⟨k, h, hk, _⟩
  · rw [h, decide_eq_false h2]; rfl
  · rw [h, decide_eq_true (List.mem_of_getElem? hk)]; exact decide_eq_true (by omega)
set_option maxHeartbeats 800000 in
theorem l2At_any (A : Option Addr) (n c : Nat) (ss : List ByteArray) (s : ByteArray) (w : World) (B : Nat) (h : SR w B A n (ss.map Value.string)) (hn : n ≤ 1048576) :
    Calls Tryz.prog 119 #[.slice A n c, .string s] w fun e w' => e = .returned (.int .i64 (ixF ss s)) ∧ w = w' := by
  have HL := Lib.hid h.strlen
  go_enter Tryz.func119, Tryz.ntmps119
  go_wp2_with fail
  go_loopw [5] (fun i wr => ∃ k : Nat, k ≤ n ∧ i = .int .i64 k ∧ (∀ (j : Nat) u, j < k → ss[j]? = some u → u ≠ s) ∧ w = wr) (fun i _ => n - (intOf i).toNat)
  case atStart => exact ⟨0, Nat.zero_le _, rfl, fun j u hj => absurd hj (by omega), rfl⟩
  case round =>
    obtain ⟨k, hk, rfl, hno, rfl⟩ := hrel
    have HNo := Lib.hid hno
    clear hno
    by_cases hlt : k < n
    · obtain ⟨b, off, u, rfl, hb, hx, hc⟩ := h.str hlt
      cases heq : (u.toList == s.toList) with
      | true =>
        have HY := Lib.hid (ixF_at (by rw [hx]; first | rw [str_eq heq] | rw [← str_eq heq]) HNo.out)
        clear hx
        go_wp2_with fail
        go_ret
        exact ⟨by rw [HY.out]; rfl, rfl⟩
      | false =>
        have HN : Hid (∀ (j : Nat) v, j < k + 1 → ss[j]? = some v → v ≠ s) := Lib.hid fun j v hj hv => by
          by_cases e : j = k
          · subst e
            rw [hx] at hv
            injection hv with hv
            subst hv; first | exact str_ne heq | exact fun e => str_ne heq e.symm
          · exact HNo.out j v (by omega) hv
        clear hx
        go_wp2_with fail
        go_roundw
        case rel => exact ⟨k + 1, by omega, by go_num, HN.out, by first | trivial | rfl⟩
        case measure => simp [intOf]; omega
    · have HF := Lib.hid (ixF_no (ss := ss) (s := s) (fun j u hu => HNo.out j u (by have := (List.getElem?_eq_some_iff.1 hu).1; have := HL.out; omega) hu))
      obtain rfl : n = k := by omega
      go_wp2_with fail
      go_ret
      exact ⟨by rw [HF.out]; rfl, rfl⟩
set_option maxHeartbeats 800000 in
theorem index_any (A : Option Addr) (n c : Nat) (ss : List ByteArray) (s : ByteArray) (w : World) (B : Nat) (h : SR w B A n (ss.map Value.string)) (hn : n ≤ 1048576) :
    Calls Tryz.prog 180 #[.slice A n c, .string s] w fun e w' => e = .returned (.int .i64 (ixF ss s)) ∧ w = w' := by
  have HL := Lib.hid h.strlen
  go_enter Tryz.func180, Tryz.ntmps180
  go_wp2_with fail
  go_loopw [8] (fun i wr => ∃ k : Nat, k ≤ n ∧ i = .int .i64 k ∧ (∀ (j : Nat) u, j < k → ss[j]? = some u → u ≠ s) ∧ w = wr) (fun i _ => n - (intOf i).toNat)
  case atStart => exact ⟨0, Nat.zero_le _, rfl, fun j u hj => absurd hj (by omega), rfl⟩
  case round =>
    obtain ⟨k, hk, rfl, hno, rfl⟩ := hrel
    have HNo := Lib.hid hno
    clear hno
    by_cases hlt : k < n
    · obtain ⟨b, off, u, rfl, hb, hx, hc⟩ := h.str hlt
      cases heq : (s.toList == u.toList) with
      | true =>
        have HY := Lib.hid (ixF_at (by rw [hx]; first | rw [str_eq heq] | rw [← str_eq heq]) HNo.out)
        clear hx
        go_wp2_with fail
        go_ret
        exact ⟨by rw [HY.out]; rfl, rfl⟩
      | false =>
        have HN : Hid (∀ (j : Nat) v, j < k + 1 → ss[j]? = some v → v ≠ s) := Lib.hid fun j v hj hv => by
          by_cases e : j = k
          · subst e
            rw [hx] at hv
            injection hv with hv
            subst hv; first | exact str_ne heq | exact fun e => str_ne heq e.symm
          · exact HNo.out j v (by omega) hv
        clear hx
        go_wp2_with fail
        go_roundw
        case rel => exact ⟨k + 1, by omega, by go_num, HN.out, by first | trivial | rfl⟩
        case measure => simp [intOf]; omega
    · have HF := Lib.hid (ixF_no (ss := ss) (s := s) (fun j u hu => HNo.out j u (by have := (List.getElem?_eq_some_iff.1 hu).1; have := HL.out; omega) hu))
      obtain rfl : n = k := by omega
      go_wp2_with fail
      go_ret
      exact ⟨by rw [HF.out]; rfl, rfl⟩
end Go.Proofs.YtfjgapkjpmkplaaGreat.ix
end
section
namespace Go.Proofs.YtfjgapkjpmkplaaGreat.tg
open kit bg sg opn strs only hb sig inn ht marks eqs hc hi hw hn rs br bm bw cf lw ix
open Go.RowKit
set_option linter.unusedVariables false
set_option linter.unusedSimpArgs false
structure Tgt where
  edge : Int
  name : ByteArray
def noS : ByteArray := ⟨#[]⟩
def tgV (t : Tgt) : Value := .agg #[.int .i64 t.edge, .string t.name]
def tgOf (b : Big) (l : Int) : Tgt := if l < b.edges then ⟨l, noS⟩ else ⟨0, (b.outer[(l - b.edges).toNat]?).getD noS⟩
theorem tgOf_edge {b : Big} {l : Int} (h : l < b.edges) : tgOf b l = ⟨l, noS⟩ := if_pos h
theorem tgOf_name {b : Big} {l : Int} {k : Nat} {s : ByteArray} (h : ¬ l < b.edges) (hk : l - b.edges = k) (hs : b.outer[k]? = some s) : tgOf b l = ⟨0, s⟩ := by
  unfold tgOf
  rw [if_neg h, hk, Int.toNat_natCast, hs]
  rfl
def TwoAt (w : World) (β : Nat) (t : Tgt) : Prop := ∃ f, w.rowIs β 160 2 f ∧ f 0 = .int .i64 t.edge ∧ f 1 = .string t.name
theorem two_new (w : World) (t : Tgt) : TwoAt (w.alloc (.cells #[.int .i64 t.edge, .string t.name] 160)) w.heap.size t := ⟨_, row_new w #[.int .i64 t.edge, .string t.name] 160 2 rfl, rfl, rfl⟩
section
variable {w w' : World} {β : Nat} {t : Tgt}
theorem TwoAt.get (h : TwoAt w β t) : w.cell? ⟨β, 0, none⟩ = some (.int .i64 t.edge) ∧ w.cell? ⟨β, 1, none⟩ = some (.string t.name) := by
  obtain ⟨f, hr, e0, e1⟩ := h
  exact ⟨by rw [hr.cell (show 0 < 2 by omega), e0], by rw [hr.cell (show 1 < 2 by omega), e1]⟩
theorem TwoAt.lt (h : TwoAt w β t) : β < w.heap.size := by obtain ⟨f, hr, -⟩ := h; exact hr.lt
theorem TwoAt.on (h : TwoAt w β t) (hb : Below w.heap.size w w') : TwoAt w' β t := by
  obtain ⟨f, hr, e⟩ := h
  exact ⟨f, hr.of_block (hb.block _ hr.lt), e⟩
theorem TwoAt.fz (h : TwoAt w β t) : w.frozen? ⟨β, 0, none⟩ = false ∧ w.frozen? ⟨β, 1, none⟩ = false := by
  obtain ⟨f, hr, -⟩ := h
  exact ⟨hr.frozen 0, hr.frozen 1⟩
theorem TwoAt.put {u : Tgt} (h : TwoAt w β t) : TwoAt ((w.setCell ⟨β, 0, none⟩ (.int .i64 u.edge)).setCell ⟨β, 1, none⟩ (.string u.name)) β u := by
  obtain ⟨f, hr, -⟩ := h
  exact ⟨_, (hr.set 0 (.int .i64 u.edge)).set 1 (.string u.name), rfl, rfl⟩
end
set_option maxRecDepth 20000 in
set_option maxHeartbeats 1600000 in
theorem tof_any (v : Value) (b : Big) (l : Int) (w0 w : World) (hv : BigAt w0 w0.heap.size v b) (hb0 : Below w0.heap.size w0 w) (hl : 0 ≤ l ∧ l < b.edges + b.outer.length) (hE : 0 ≤ b.edges ∧ b.edges ≤ 8) (ho : b.outer.length ≤ 16) :
    Calls Tryz.prog 179 #[v, .int .i64 l] w fun e w' => e = .returned (tgV (tgOf b l)) ∧ Below w.heap.size w w' := by
  obtain ⟨A1, n1, c1, A2, n2, c2, A4, n4, c4, A5, n5, c5, rfl, h1, h2, h4, h5⟩ := hv
  obtain ⟨hl0, hl1⟩ := hl
  obtain ⟨hE0, hE1⟩ := hE
  have hn4 : b.outer.length = n4 := h4.strlen
  have hb1 := (Below.refl w.heap.size w).alloc (Nat.le_refl _) (.cells #[.int .i64 b.roots, .slice A1 n1 c1, .slice A2 n2 c2, .int .i64 b.edges, .slice A4 n4 c4, .slice A5 n5 c5] 36)
  have HBoxI : BoxAt (w.alloc (.cells #[.int .i64 b.roots, .slice A1 n1 c1, .slice A2 n2 c2, .int .i64 b.edges, .slice A4 n4 c4, .slice A5 n5 c5] 36)) w.heap.size 36 (.int .i64 b.roots) (.slice A1 n1 c1) (.slice A2 n2 c2) (.int .i64 b.edges) (.slice A4 n4 c4) (.slice A5 n5 c5) := six_new w _ _ _ _ _ _ _
  obtain ⟨U, hU⟩ : ∃ U, w.alloc (.cells #[.int .i64 b.roots, .slice A1 n1 c1, .slice A2 n2 c2, .int .i64 b.edges, .slice A4 n4 c4, .slice A5 n5 c5] 36) = U := ⟨_, rfl⟩
  have hUz : U.heap.size = w.heap.size + 1 := by rw [← hU, World.size_alloc]
  rw [hU] at hb1 HBoxI
  have HUq := Lib.hid hU
  have HAl := Lib.hid (fun (t : Tgt) => And.intro (two_new U t) (hb1.trans (((Below.refl U.heap.size U).alloc (Nat.le_refl _) (.cells #[.int .i64 t.edge, .string t.name] 160)).mono hb1.size)))
  rw [hUz] at HAl
  have hB := (HAl.out ⟨0, noS⟩).2
  have hb2 := (Below.refl U.heap.size U).alloc (Nat.le_refl _) (.cells #[.int .i64 0, .string ⟨#[]⟩] 160)
  obtain ⟨x0, x1, x2, x3, x4, x5⟩ := (HBoxI.on hb2).get
  by_cases h0 : l < b.edges
  · have HE := Lib.hid (tgOf_edge h0)
    rw [HE.out]
    obtain ⟨z0, z1⟩ := (HAl.out ⟨l, noS⟩).1.get
    dsimp only [noS] at z0 z1
    clear hb1 hU HBoxI hB h1 h2 h4 h5 hb2
    go_enter Tryz.func179, Tryz.ntmps179
    go_wp2_with fail
    rw [HUq.out]
    (try go_wp2_with fail)
    exact bodyPost_ret (v := .agg #[.int .i64 l, .string ⟨#[]⟩]) (by simp [results, Tryz.results179, go_sem, z0, z1]) rfl ⟨rfl, (HAl.out ⟨l, noS⟩).2⟩
  · obtain ⟨k, hk⟩ : ∃ k : Nat, l - b.edges = k := ⟨(l - b.edges).toNat, by omega⟩
    obtain ⟨b4, o4, s, rfl, hb4, hs, cs4⟩ := h4.str (show k < n4 by omega)
    have HE := Lib.hid (tgOf_name h0 hk hs)
    rw [HE.out]
    have hlk : l = b.edges + k := by omega
    have hkn : k < n4 := by omega
    have d4 := ((hb0.trans (hB.mono hb0.size)).cell (p := ⟨b4, o4 + k, none⟩) hb4).trans cs4
    dsimp only [noS] at d4
    obtain ⟨z0, z1⟩ := (HAl.out ⟨0, s⟩).1.get
    clear hb1 hU HBoxI hB h1 h2 h4 h5 hs cs4 hk hb2
    subst hlk
    have hsub : b.edges + (k : Int) - b.edges = (k : Int) := by omega
    go_enter Tryz.func179, Tryz.ntmps179
    rw [← HUq.out] at d4
    go_wp2_with fail
    rw [HUq.out]
    exact bodyPost_ret (v := .agg #[.int .i64 0, .string s]) (by simp [results, Tryz.results179, go_sem, z0, z1]) rfl ⟨rfl, (HAl.out ⟨0, s⟩).2⟩
def isE (t : Tgt) : Bool := t.name.toList.isEmpty
theorem isE_any (t : Tgt) (w : World) : Calls Tryz.prog 178 #[tgV t] w fun e w' => e = .returned (.bool (isE t)) ∧ Below w.heap.size w w' := by
  have hb := (Below.refl w.heap.size w).alloc (Nat.le_refl _) (.cells #[.int .i64 t.edge, .string t.name] 160)
  unfold tgV isE
  go_enter Tryz.func178, Tryz.ntmps178
  go_wp2_with fail
  go_ret
  exact ⟨rfl, hb⟩
end Go.Proofs.YtfjgapkjpmkplaaGreat.tg
end
section
namespace Go.Proofs.YtfjgapkjpmkplaaGreat.jo
open kit bg sg opn strs only hb sig isig un over gn nm inn ht gd im pt marks eqs hc hi hw hn rs br bm bw cf lf ib lw cl rt ix tg rl ed tp rnp pm pl mb sb wb
open Go.RowKit
set_option linter.unusedVariables false
theorem bl_lt : ∀ a b : List UInt8, Op.bytesLess a b = true ↔ a < b
  | [], [] => by simp [Op.bytesLess]
  | [], y :: b => by simp [Op.bytesLess]
  | x :: a, [] => by simp [Op.bytesLess]
  | x :: a, y :: b => by
    have ih := bl_lt a b
    simp only [Op.bytesLess, Bool.or_eq_true, Bool.and_eq_true, decide_eq_true_eq, List.cons_lt_cons_iff, ih, beq_iff_eq]
theorem name_ne {ss : List ByteArray} (h : NamesP ss) {s : ByteArray} (hs : s ∈ ss) : s.toList.isEmpty = false ∧ s ≠ noS := by
  obtain ⟨k, hk⟩ := List.getElem?_of_mem hs
  have h1 := h.1 k s hk
  unfold nameB at h1
  simp only [Bool.and_eq_true] at h1
  have h2 := inb_true h1.2
  have hne : s ≠ noS := fun e => by
    rw [e] at h2
    exact absurd h2.1 (by decide)
  refine ⟨?_, hne⟩
  cases hq : s.toList.isEmpty with
  | false => rfl
  | true => exact absurd (str_eq (b := noS) (by rw [List.isEmpty_iff.1 hq]; simp [noS])) hne
theorem relB_congr {f g : Int → Int} {b : Big} (h1 : ∀ x ∈ b.nodes, ∀ l ∈ x.links, f l = g l) (h2 : ∀ x ∈ b.inner, f x.link = g x.link) : relB f b = relB g b := by
  unfold relB
  congr 1
  · exact List.map_congr_left (fun x hx => by rw [List.map_congr_left (fun l hl => h1 x hx l hl)])
  · exact List.map_congr_left (fun x hx => by rw [h2 x hx])
end Go.Proofs.YtfjgapkjpmkplaaGreat.jo
end
section
namespace Go.Proofs.YtfjgapkjpmkplaaGreat.gv
open kit bg sg opn strs only hb sig isig un over gn nm inn ht gd im pt marks eqs hc hi hw hn rs br bm bw cf lf ib lw cl pl mb sb wb
open Go.RowKit
set_option linter.unusedVariables false
noncomputable def giveR (cs : List Ctl) (b : Big) : Big := if bigB cs b = true then b else zeroBig
theorem give_len {cs : List Ctl} {b : Big} (h : bigB cs b = true → bigMk b ≤ 1048576) : bigMk (giveR cs b) ≤ 1048576 := by
  unfold giveR
  split
  · next hq => exact h hq
  · exact zero_len
set_option maxRecDepth 20000 in
set_option maxHeartbeats 3200000 in
theorem give_any (A : Option Addr) (n c : Nat) (cs : List Ctl) (v : Value) (b : Big) (w0 w : World) (hC : CtlsAt w0 w0.heap.size A n cs) (hb0 : Below w0.heap.size w0 w) (hn : n ≤ 1048576) (hs : ∀ c ∈ cs, c.name.size ≤ 1048576) (hR : BigR w w0.heap.size w.heap.size v b) (hS : BigS b) (hw : BigW b) :
    Calls Tryz.prog 77 #[.slice A n c, v] w fun e w' => ∃ v', e = .returned (.tuple #[v', .bool (bigB cs b)]) ∧ BigR w' w0.heap.size w'.heap.size v' (giveR cs b) ∧ Below w.heap.size w w' := by
  obtain ⟨B1, d1, B2, d2, B4, d4, B5, d5, rfl⟩ := hR.shape
  have HRv := Lib.hid hR
  have hb1 := (Below.refl w.heap.size w).alloc (Nat.le_refl _) (.cells #[.int .i64 b.roots, .slice B1 b.nodes.length d1, .slice B2 b.sites.length d2, .int .i64 b.edges, .slice B4 b.outer.length d4, .slice B5 b.inner.length d5] 36)
  have HBox : Hid (BoxAt (w.alloc (.cells #[.int .i64 b.roots, .slice B1 b.nodes.length d1, .slice B2 b.sites.length d2, .int .i64 b.edges, .slice B4 b.outer.length d4, .slice B5 b.inner.length d5] 36)) w.heap.size 36 (.int .i64 b.roots) (.slice B1 b.nodes.length d1) (.slice B2 b.sites.length d2) (.int .i64 b.edges) (.slice B4 b.outer.length d4) (.slice B5 b.inner.length d5)) := Lib.hid (six_new w _ _ _ _ _ _ _)
  obtain ⟨U, hU⟩ : ∃ U, w.alloc (.cells #[.int .i64 b.roots, .slice B1 b.nodes.length d1, .slice B2 b.sites.length d2, .int .i64 b.edges, .slice B4 b.outer.length d4, .slice B5 b.inner.length d5] 36) = U := ⟨_, rfl⟩
  have hUz : U.heap.size = w.heap.size + 1 := by rw [← hU]; simp
  rw [hU] at hb1 HBox
  have hb2 := (Below.refl U.heap.size U).alloc (Nat.le_refl _) (.cells #[.int .i64 0, .slice none 0 0, .slice none 0 0, .int .i64 0, .slice none 0 0, .slice none 0 0] 36)
  have HBx0 : Hid (BoxAt (U.alloc (.cells #[.int .i64 0, .slice none 0 0, .slice none 0 0, .int .i64 0, .slice none 0 0, .slice none 0 0] 36)) U.heap.size 36 (.int .i64 0) (.slice none 0 0) (.slice none 0 0) (.int .i64 0) (.slice none 0 0) (.slice none 0 0)) := Lib.hid (six_new U _ _ _ _ _ _ _)
  have HBox := Lib.hid (HBox.out.on hb2)
  obtain ⟨W, hW⟩ : ∃ W, U.alloc (.cells #[.int .i64 0, .slice none 0 0, .slice none 0 0, .int .i64 0, .slice none 0 0, .slice none 0 0] 36) = W := ⟨_, rfl⟩
  rw [hW] at hb2 HBx0 HBox
  rw [hUz] at HBx0
  have HUq := Lib.hid hU
  have HWq := Lib.hid hW
  have HB0 := Lib.hid (hb1.trans (hb2.mono hb1.size))
  have hbW := hb0.trans (HB0.out.mono hb0.size)
  have HRW := Lib.hid ((HRv.out.on HB0.out).here)
  have C := l2Good_any A n c cs _ b W ((hC.below hbW).wide hbW.size) HRW.out.at hn hs hS hw
  obtain ⟨x0, x1, x2, x3, x4, x5⟩ := HBox.out.get
  have hsz0 := hb0.size
  obtain ⟨q, hq⟩ : ∃ q, bigB cs b = q := ⟨_, rfl⟩
  have HG : Hid (giveR cs b = if q = true then b else zeroBig) := Lib.hid (by unfold giveR; rw [hq])
  rw [hq] at C ⊢
  rw [HG.out]
  clear hq hU hW hb1 hb2 hR hS hw hs hC hbW
  go_enter Tryz.func77, Tryz.ntmps77
  go_wp2_with fail
  rw [HUq.out, HWq.out]
  go_wp2_with fail
  refine C.mono ?_
  rintro e w1 ⟨rfl, hb⟩
  have HB1 := Lib.hid (HB0.out.trans (hb.mono HB0.out.size))
  have HBx1 := Lib.hid (HBx0.out.on hb)
  have HBox1 := Lib.hid (HBox.out.on hb)
  have HR1 := Lib.hid ((HRW.out.on hb).here)
  clear hb C x0 x1 x2 x3 x4 x5
  obtain ⟨z0, z1, z2, z3, z4, z5⟩ := HBx1.out.get
  have f0 := World.rowIs.frozen HBx1.out 0
  have f1 := World.rowIs.frozen HBx1.out 1
  have f2 := World.rowIs.frozen HBx1.out 2
  have f3 := World.rowIs.frozen HBx1.out 3
  have f4 := World.rowIs.frozen HBx1.out 4
  have f5 := World.rowIs.frozen HBx1.out 5
  cases q with
  | false =>
    go_wp2_with fail
    refine bodyPost_ret (v := .tuple #[.agg #[.int .i64 0, .slice none 0 0, .slice none 0 0, .int .i64 0, .slice none 0 0, .slice none 0 0], .bool false]) (by simp [results, Tryz.results77, go_sem, z0, z1, z2, z3, z4, z5]) rfl ⟨_, rfl, BigR.zero, sets6_below HB1.out (Nat.le_succ _) _ _ _ _ _ _⟩
  | true =>
    obtain ⟨x0, x1, x2, x3, x4, x5⟩ := HBox1.out.get
    go_wp2_with fail
    have hbig := (sets6_big HBx1.out HR1.out (.int .i64 b.roots) (.slice B1 b.nodes.length d1) (.slice B2 b.sites.length d2) (.int .i64 b.edges) (.slice B4 b.outer.length d4) (.slice B5 b.inner.length d5)).here
    have hbel := sets6_below HB1.out (Nat.le_succ w.heap.size) (.int .i64 b.roots) (.slice B1 b.nodes.length d1) (.slice B2 b.sites.length d2) (.int .i64 b.edges) (.slice B4 b.outer.length d4) (.slice B5 b.inner.length d5)
    unfold sets6 at hbig hbel
    exact bodyPost_ret (v := .tuple #[.agg #[.int .i64 b.roots, .slice B1 b.nodes.length d1, .slice B2 b.sites.length d2, .int .i64 b.edges, .slice B4 b.outer.length d4, .slice B5 b.inner.length d5], .bool true]) (by simp [results, Tryz.results77, go_sem, z0, z1, z2, z3, z4, z5]) rfl ⟨_, rfl, hbig, hbel⟩
set_option maxRecDepth 20000 in
set_option maxHeartbeats 3200000 in
theorem ifb_any (A : Option Addr) (n c : Nat) (cs : List Ctl) (v : Value) (b : Big) (w0 w : World) (hC : CtlsAt w0 w0.heap.size A n cs) (hb0 : Below w0.heap.size w0 w) (hn : n ≤ 1048576) (hs : ∀ c ∈ cs, c.name.size ≤ 1048576) (hR : BigR w w0.heap.size w.heap.size v b) (hS : BigS b) (hw : BigW b) :
    Calls Tryz.prog 83 #[.slice A n c, v] w fun e w' => ∃ v', e = .returned (.tuple #[v', .bool (bigB cs b)]) ∧ BigR w' w0.heap.size w'.heap.size v' (giveR cs b) ∧ Below w.heap.size w w' := by
  obtain ⟨B1, d1, B2, d2, B4, d4, B5, d5, rfl⟩ := hR.shape
  have HRv := Lib.hid hR
  have hb1 := (Below.refl w.heap.size w).alloc (Nat.le_refl _) (.cells #[.int .i64 b.roots, .slice B1 b.nodes.length d1, .slice B2 b.sites.length d2, .int .i64 b.edges, .slice B4 b.outer.length d4, .slice B5 b.inner.length d5] 36)
  have HBox : Hid (BoxAt (w.alloc (.cells #[.int .i64 b.roots, .slice B1 b.nodes.length d1, .slice B2 b.sites.length d2, .int .i64 b.edges, .slice B4 b.outer.length d4, .slice B5 b.inner.length d5] 36)) w.heap.size 36 (.int .i64 b.roots) (.slice B1 b.nodes.length d1) (.slice B2 b.sites.length d2) (.int .i64 b.edges) (.slice B4 b.outer.length d4) (.slice B5 b.inner.length d5)) := Lib.hid (six_new w _ _ _ _ _ _ _)
  obtain ⟨U, hU⟩ : ∃ U, w.alloc (.cells #[.int .i64 b.roots, .slice B1 b.nodes.length d1, .slice B2 b.sites.length d2, .int .i64 b.edges, .slice B4 b.outer.length d4, .slice B5 b.inner.length d5] 36) = U := ⟨_, rfl⟩
  have hUz : U.heap.size = w.heap.size + 1 := by rw [← hU]; simp
  rw [hU] at hb1 HBox
  have hb2 := (Below.refl U.heap.size U).alloc (Nat.le_refl _) (.cells #[.int .i64 0, .slice none 0 0, .slice none 0 0, .int .i64 0, .slice none 0 0, .slice none 0 0] 36)
  have HBx0 : Hid (BoxAt (U.alloc (.cells #[.int .i64 0, .slice none 0 0, .slice none 0 0, .int .i64 0, .slice none 0 0, .slice none 0 0] 36)) U.heap.size 36 (.int .i64 0) (.slice none 0 0) (.slice none 0 0) (.int .i64 0) (.slice none 0 0) (.slice none 0 0)) := Lib.hid (six_new U _ _ _ _ _ _ _)
  have HBox := Lib.hid (HBox.out.on hb2)
  obtain ⟨W, hW⟩ : ∃ W, U.alloc (.cells #[.int .i64 0, .slice none 0 0, .slice none 0 0, .int .i64 0, .slice none 0 0, .slice none 0 0] 36) = W := ⟨_, rfl⟩
  rw [hW] at hb2 HBx0 HBox
  rw [hUz] at HBx0
  have HUq := Lib.hid hU
  have HWq := Lib.hid hW
  have HB0 := Lib.hid (hb1.trans (hb2.mono hb1.size))
  have hbW := hb0.trans (HB0.out.mono hb0.size)
  have HRW := Lib.hid ((HRv.out.on HB0.out).here)
  have C := isBig_any A n c cs _ b W ((hC.below hbW).wide hbW.size) HRW.out.at hn hs hS hw
  obtain ⟨x0, x1, x2, x3, x4, x5⟩ := HBox.out.get
  have hsz0 := hb0.size
  obtain ⟨q, hq⟩ : ∃ q, bigB cs b = q := ⟨_, rfl⟩
  have HG : Hid (giveR cs b = if q = true then b else zeroBig) := Lib.hid (by unfold giveR; rw [hq])
  rw [hq] at C ⊢
  rw [HG.out]
  clear hq hU hW hb1 hb2 hR hS hw hs hC hbW
  go_enter Tryz.func83, Tryz.ntmps83
  go_wp2_with fail
  rw [HUq.out, HWq.out]
  go_wp2_with fail
  refine C.mono ?_
  rintro e w1 ⟨rfl, hb⟩
  have HB1 := Lib.hid (HB0.out.trans (hb.mono HB0.out.size))
  have HBx1 := Lib.hid (HBx0.out.on hb)
  have HBox1 := Lib.hid (HBox.out.on hb)
  have HR1 := Lib.hid ((HRW.out.on hb).here)
  clear hb C x0 x1 x2 x3 x4 x5
  obtain ⟨z0, z1, z2, z3, z4, z5⟩ := HBx1.out.get
  have f0 := World.rowIs.frozen HBx1.out 0
  have f1 := World.rowIs.frozen HBx1.out 1
  have f2 := World.rowIs.frozen HBx1.out 2
  have f3 := World.rowIs.frozen HBx1.out 3
  have f4 := World.rowIs.frozen HBx1.out 4
  have f5 := World.rowIs.frozen HBx1.out 5
  cases q with
  | false =>
    go_wp2_with fail
    refine bodyPost_ret (v := .tuple #[.agg #[.int .i64 0, .slice none 0 0, .slice none 0 0, .int .i64 0, .slice none 0 0, .slice none 0 0], .bool false]) (by simp [results, Tryz.results83, go_sem, z0, z1, z2, z3, z4, z5]) rfl ⟨_, rfl, BigR.zero, sets6_below HB1.out (Nat.le_succ _) _ _ _ _ _ _⟩
  | true =>
    obtain ⟨x0, x1, x2, x3, x4, x5⟩ := HBox1.out.get
    go_wp2_with fail
    have hbig := (sets6_big HBx1.out HR1.out (.int .i64 b.roots) (.slice B1 b.nodes.length d1) (.slice B2 b.sites.length d2) (.int .i64 b.edges) (.slice B4 b.outer.length d4) (.slice B5 b.inner.length d5)).here
    have hbel := sets6_below HB1.out (Nat.le_succ w.heap.size) (.int .i64 b.roots) (.slice B1 b.nodes.length d1) (.slice B2 b.sites.length d2) (.int .i64 b.edges) (.slice B4 b.outer.length d4) (.slice B5 b.inner.length d5)
    unfold sets6 at hbig hbel
    exact bodyPost_ret (v := .tuple #[.agg #[.int .i64 b.roots, .slice B1 b.nodes.length d1, .slice B2 b.sites.length d2, .int .i64 b.edges, .slice B4 b.outer.length d4, .slice B5 b.inner.length d5], .bool true]) (by simp [results, Tryz.results83, go_sem, z0, z1, z2, z3, z4, z5]) rfl ⟨_, rfl, hbig, hbel⟩
end Go.Proofs.YtfjgapkjpmkplaaGreat.gv
end
section
namespace Go.Proofs.YtfjgapkjpmkplaaGreat.tm
open kit bg sg opn strs only hb sig isig un over gn nm inn ht gd im pt marks eqs hc hi hw hn rs br bm bw cf lf ib lw cl tp pm
open Go.RowKit
set_option linter.unusedVariables false
structure Tame (b : Big) : Prop where
  r : -1000 ≤ b.roots ∧ b.roots ≤ 1000
  e : -1000 ≤ b.edges ∧ b.edges ≤ 1000
  n : b.nodes.length ≤ 1000
  nd : ∀ x ∈ b.nodes, (-1000 ≤ x.control ∧ x.control ≤ 1000) ∧ (-1000 ≤ x.parent ∧ x.parent ≤ 1000) ∧ x.links.length ≤ 1000 ∧ ∀ l ∈ x.links, -1000 ≤ l ∧ l ≤ 1000
  s : b.sites.length ≤ 1000
  st : ∀ z ∈ b.sites, -1000 ≤ z ∧ z ≤ 1000
  o : b.outer.length ≤ 1000
  on : ∀ s ∈ b.outer, s.size ≤ 1048576
  i : b.inner.length ≤ 1000
  iw : ∀ x ∈ b.inner, x.name.size ≤ 1048576 ∧ -1000 ≤ x.link ∧ x.link ≤ 1000
theorem Tame.S {b : Big} (h : Tame b) : BigS b :=
  ⟨by have := h.n; omega, fun x hx => by have := (h.nd x hx).2.2.1; omega, by have := h.s; omega, by have := h.o; omega, h.on, by have := h.i; omega, fun x hx => (h.iw x hx).1⟩
theorem wf_k {z : Int} (h : -1000 ≤ z ∧ z ≤ 1000) : (Lit.int .i64 z).wf = true := Go.WalkArith.wf_i64 (by omega)
theorem Tame.W {b : Big} (h : Tame b) : BigW b :=
  ⟨wf_k h.r, wf_k h.e, by have := h.n; unfold maxLen; omega, fun x hx => ⟨wf_k (h.nd x hx).1, wf_k (h.nd x hx).2.1, by have := (h.nd x hx).2.2.1; unfold maxLen; omega, fun z hz => wf_k ((h.nd x hx).2.2.2 z hz)⟩, by have := h.s; unfold maxLen; omega, fun z hz => wf_k (h.st z hz),
    by have := h.o; unfold maxLen; omega, fun s hs => by have := h.on s hs; unfold maxLen; omega, by have := h.i; unfold maxLen; omega, fun x hx => ⟨by have := (h.iw x hx).1; unfold maxLen; omega, wf_k (h.iw x hx).2⟩⟩
theorem under_in {cs : List Ctl} {b : Big} {p k : Int} (hr : 0 ≤ b.roots ∧ b.roots ≤ 4) (hk : k ≤ 1000) (h : underB cs b p k = true) : -1000 ≤ p ∧ p ≤ 1000 := by
  unfold underB at h
  by_cases h0 : p < 0
  · rw [if_pos h0] at h
    have := inb_true h
    omega
  · rw [if_neg h0] at h
    simp only [Bool.and_eq_true, decide_eq_true_eq] at h
    omega
theorem tame_good {cs : List Ctl} {b : Big} (h : bigB cs b = true) (hS : BigS b) : Tame b := by
  have hb := big_of h
  have z := sizes_of hb.2.1
  have hc : cs.length ≤ 6 := by have := inb_true hb.1.2.2; omega
  obtain ⟨s1, s2, s3, s4, s5, s6, s7⟩ := hS
  refine ⟨by omega, by omega, by omega, fun x hx => ?_, by omega, fun q hq => ?_, by omega, s5, by omega, fun x hx => ⟨s7 x hx, ?_⟩⟩
  · obtain ⟨k, hk⟩ := List.getElem?_of_mem hx
    have hkl := (List.getElem?_eq_some_iff.1 hk).1
    obtain ⟨h1, h2, h3⟩ := hb.2.2.2.2.1 k x hk
    unfold seatB at h1
    simp only [Bool.and_eq_true] at h1
    have c1 := inb_true h1.1
    have c2 := under_in z.1 (by omega) h1.2
    refine ⟨by omega, c2, ?_, fun l hl => ?_⟩
    · unfold portsB at h2
      cases hcc : cs[x.control.toNat]? with
      | none => rw [hcc] at h2; cases h2
      | some c =>
        rw [hcc] at h2
        have h2 : ((x.links.length : Int) == c.ports) = true := h2
        have e := eq_of_beq h2
        have hc := hb.1.1 _ c hcc
        unfold ctlB at hc
        simp only [Bool.and_eq_true] at hc
        have := inb_true hc.1.2
        omega
    · obtain ⟨i, hi⟩ := List.getElem?_of_mem hl
      have := inb_true (h3 i l hi)
      omega
  · obtain ⟨i, hi⟩ := List.getElem?_of_mem hq
    exact under_in z.1 (by omega) (hb.2.2.2.2.2.1 i q hi)
  · obtain ⟨i, hi⟩ := List.getElem?_of_mem hx
    have := inb_true (hb.2.2.2.2.2.2 i x hi)
    omega
end Go.Proofs.YtfjgapkjpmkplaaGreat.tm
end
section
namespace Go.Proofs.YtfjgapkjpmkplaaGreat.co
open kit bg sg opn strs only hb sig isig un over gn nm inn ht gd im pt marks eqs hc hi hw hn rs br bm bw cf lf ib lw cl rt ix tg rl ed tp rnp pm pl mb sb wb jo ek wk gv tm
open Go.RowKit
set_option linter.unusedVariables false
section
variable {cs : List Ctl} {b : Big} {s : ByteArray}
theorem big_lks (hg : bigB cs b = true) : (∀ x ∈ b.nodes, ∀ l ∈ x.links, 0 ≤ l ∧ l < b.edges + b.outer.length) ∧ ∀ x ∈ b.inner, 0 ≤ x.link ∧ x.link < b.edges + b.outer.length := by
  have hlk : ∀ l : Int, inb l 0 (b.edges + b.outer.length - 1) = true → 0 ≤ l ∧ l < b.edges + b.outer.length := fun l h => by have := inb_true h; omega
  refine ⟨fun x hx l hl => ?_, fun x hx => ?_⟩
  · obtain ⟨k, hk⟩ := List.getElem?_of_mem hx
    obtain ⟨i, hi⟩ := List.getElem?_of_mem hl
    exact hlk l (((big_of hg).2.2.2.2.1 k x hk).2.2 i l hi)
  · obtain ⟨i, hi⟩ := List.getElem?_of_mem hx
    exact hlk x.link ((big_of hg).2.2.2.2.2.2 i x hi)
theorem tame_rk {f : Int → Int} {E : Int} {ou : List ByteArray} (hg : bigB cs b = true) (hS : BigS b) (hf : ∀ l, 0 ≤ l ∧ l < b.edges + b.outer.length → -1000 ≤ f l ∧ f l ≤ 1000) (hE : -1000 ≤ E ∧ E ≤ 1000) (ho : ou.length ≤ 1000) (hon : ∀ u ∈ ou, u.size ≤ 1048576) : Tame ⟨b.roots, (relB f b).nodes, b.sites, E, ou, (relB f b).inner⟩ := by
  have hb := tame_good hg hS
  have hL := big_lks hg
  exact
  { r := hb.r
    e := hE
    n := by show (b.nodes.map _).length ≤ 1000; rw [List.length_map]; exact hb.n
    nd := fun x hx => by
      obtain ⟨y, hy, rfl⟩ := List.mem_map.1 hx
      obtain ⟨h1, h2, h3, h4⟩ := hb.nd y hy
      refine ⟨h1, h2, by show (y.links.map _).length ≤ 1000; rw [List.length_map]; exact h3, fun l hl => ?_⟩
      obtain ⟨l0, hl0, rfl⟩ := List.mem_map.1 hl
      exact hf l0 (hL.1 y hy l0 hl0)
    s := hb.s
    st := hb.st
    o := ho
    on := hon
    i := by show (b.inner.map _).length ≤ 1000; rw [List.length_map]; exact hb.i
    iw := fun x hx => by
      obtain ⟨y, hy, rfl⟩ := List.mem_map.1 hx
      exact ⟨(hb.iw y hy).1, hf y.link (hL.2 y hy)⟩ }
end
end Go.Proofs.YtfjgapkjpmkplaaGreat.co
end
section
namespace Go.Proofs.YtfjgapkjpmkplaaGreat.nd
open kit bg sg opn strs only over gn nm un sig hb inn ht marks eqs hc hi hw hn rs br bm bw cf lw cl ix
open Go.RowKit
set_option linter.unusedVariables false
set_option linter.unusedSimpArgs false
noncomputable def nmdL (E : Int) (ou ns : List ByteArray) : List Int := ns.map (fun u => E + ixF ou u)
theorem nmd_len (E : Int) (ou ns : List ByteArray) : (nmdL E ou ns).length = ns.length := by unfold nmdL; rw [List.length_map]
theorem nmd_at {E : Int} {ou ns : List ByteArray} {k : Nat} {u : ByteArray} (h : ns[k]? = some u) : (nmdL E ou ns)[k]? = some (E + ixF ou u) := by unfold nmdL; rw [List.getElem?_map, h]; rfl
theorem nmd_take {E : Int} {ou ns : List ByteArray} {k : Nat} {u : ByteArray} (h : ns[k]? = some u) : (nmdL E ou ns).take (k + 1) = (nmdL E ou ns).take k ++ [E + ixF ou u] := by rw [List.take_add_one, nmd_at h]; rfl
set_option maxRecDepth 20000 in
set_option maxHeartbeats 1600000 in
theorem nmd_any (A B : Option Addr) (n c m d : Nat) (ns ou : List ByteArray) (E : Int) (w : World) (hA : SR w w.heap.size A n (ns.map Value.string)) (hB : SR w w.heap.size B m (ou.map Value.string)) (hn : n ≤ 1000) (hm : m ≤ 1000) (hE : -1000 ≤ E ∧ E ≤ 1000) :
    Calls Tryz.prog 195 #[.slice A n c, .int .i64 E, .slice B m d] w fun e w' => ∃ v, e = .returned v ∧ w'.ownsRow w.heap.size 3 1 v n ((nmdL E ou ns).map (Value.int .i64)) ∧ v ≠ .slice none 0 0 ∧ Below w.heap.size w w' := by
  obtain ⟨i0, hi, hz0, hz1, hz2⟩ := info_parts int_info
  have HI := Lib.hid (And.intro hi (And.intro hz0 (And.intro hz1 hz2)))
  have HL := Lib.hid hA.strlen
  have HM := Lib.hid hB.strlen
  have HB := Lib.hid hB
  clear hi hz0 hz1 hz2 hB
  go_enter Tryz.func195, Tryz.ntmps195
  go_wp2_with fail
  go_loopw [7, 8] (fun v i wr => ∃ k : Nat, k ≤ n ∧ i = .int .i64 k ∧ wr.ownsRow w.heap.size 3 1 v k (((nmdL E ou ns).take k).map (Value.int .i64)) ∧ v ≠ .slice none 0 0 ∧ Below w.heap.size w wr) (fun _ i _ => n - (intOf i).toNat)
  case atStart => exact ⟨0, Nat.zero_le _, rfl, ownsRow_nil_new w 3 1 w.heap.size (Nat.le_refl _), by simp, (Below.refl _ _).alloc (Nat.le_refl _) _⟩
  case round =>
    obtain ⟨k, hk, rfl, hown, hne, hbel⟩ := hrel
    have hsz := hbel.size
    by_cases hlt : k < n
    · obtain ⟨b, off, u, rfl, hb, hx, hc⟩ := hA.str hlt
      have hcc := (hbel.cell (p := ⟨b, off + k, none⟩) hb).trans hc
      have CA := l2At_any B m d ou u wr _ (HB.out.below hbel) (by omega)
      have hr := ixF_in ou u
      rw [HM.out] at hr
      have HT := Lib.hid (nmd_take (E := E) (ou := ou) hx)
      obtain ⟨r, hrr⟩ : ∃ r, ixF ou u = r := ⟨_, rfl⟩
      rw [hrr] at CA hr HT
      obtain ⟨D, hD⟩ : ∃ D, ((nmdL E ou ns).take k).map (Value.int .i64) = D := ⟨_, rfl⟩
      have HT2 : Hid (((nmdL E ou ns).take (k + 1)).map (Value.int .i64) = D ++ [.int .i64 (E + r)]) := Lib.hid (by rw [HT.out, List.map_append, hD]; rfl)
      rw [hD] at hown
      have hw2 : wrap64 (E + r) = E + r := by unfold wrap64; omega
      clear hD hrr hx hc HT
      go_wp2_with fail
      refine CA.mono ?_
      rintro e w1 ⟨rfl, rfl⟩
      clear CA
      go_wp2_with (at_builtin; refine wpList_append_own _ rfl _ _ 24 rfl w.heap.size 3 i0 (.int .i64 0) 1 8 Tryz.underlying24 HI.out.1 HI.out.2.1 HI.out.2.2.1 HI.out.2.2.2 rfl (by decide) _ _ _ rfl (hown.alloc _) ⟨wr.heap.size, 0, none⟩ 1 1 [.int .i64 (E + r)] rfl rfl (cell_one_new _ _ _) (fun x hx => by simp at hx; subst hx; rfl) (by unfold maxLen; omega) (by omega) (by simp; omega) ?_; intro v1 w1 hown1 hgrow1 hnil1; have hb1 := Lib.hid ((hbel.alloc (by omega) (.cells #[.int .i64 (E + r)] 3)).grown hgrow1 (by simp; omega) (fun j hj => (hown.lt j hj).1)); have HOwn := Lib.hid hown1; have hne1 : v1 ≠ .slice none 0 0 := fun e => hne (hnil1.1 e).1; clear hown1 hgrow1 hnil1 hown)
      go_wp2_with fail
      go_roundw
      case rel => exact ⟨k + 1, by omega, by go_num, by rw [HT2.out]; exact HOwn.out, hne1, hb1.out⟩
      case measure => simp [intOf]; omega
    · obtain rfl : n = k := by omega
      rw [List.take_of_length_le (by rw [nmd_len, HL.out]; exact Nat.le_refl _)] at hown
      have HO := Lib.hid hown
      clear hown
      go_wp2_with fail
      go_ret
      exact ⟨_, rfl, HO.out, hne, hbel⟩
end Go.Proofs.YtfjgapkjpmkplaaGreat.nd
end
section
namespace Go.Proofs.YtfjgapkjpmkplaaGreat.ft
open kit bg sg opn strs only hb sig isig un over gn nm inn ht gd im pt marks eqs hc hi hw hn rs br bm bw cf lf ib lw
open Go.RowKit
set_option linter.unusedVariables false
set_option maxRecDepth 20000 in
set_option maxHeartbeats 3200000 in
theorem are_any (A : Option Addr) (n c : Nat) (cs : List Ctl) (va : Value) (a : Big) (vb : Value) (b : Big) (w : World) (hC : CtlsAt w w.heap.size A n cs) (hn : n ≤ 1048576) (hs : ∀ c ∈ cs, c.name.size ≤ 1048576) (hva : BigAt w w.heap.size va a) (hSa : BigS a) (hwa : BigW a) (hNa : NilV va) (hvb : BigAt w w.heap.size vb b) (hSb : BigS b) (hwb : BigW b) (hNb : NilV vb) :
    Calls Tryz.prog 110 #[.slice A n c, va, vb] w (Post (bigB cs a && bigB cs b) w) := by
  obtain ⟨A1, n1, c1, A2, n2, c2, A4, n4, c4, A5, n5, c5, rfl, h1, h2, h4, h5⟩ := hva
  obtain ⟨B1, m1, d1, B2, m2, d2, B4, m4, d4, B5, m5, d5, rfl, k1, k2, k4, k5⟩ := hvb
  have HGa := Lib.hid (fun (w2 : World) (hb2 : Below w.heap.size w w2) => isBig_any A n c cs (.agg #[.int .i64 a.roots, .slice A1 n1 c1, .slice A2 n2 c2, .int .i64 a.edges, .slice A4 n4 c4, .slice A5 n5 c5]) a w2 ((hC.below hb2).wide hb2.size) (BigAt.wide (BigAt.below ⟨_, _, _, _, _, _, _, _, _, _, _, _, rfl, h1, h2, h4, h5⟩ hb2) hb2.size) hn hs hSa hwa)
  have HGb := Lib.hid (fun (w2 : World) (hb2 : Below w.heap.size w w2) => isBig_any A n c cs (.agg #[.int .i64 b.roots, .slice B1 m1 d1, .slice B2 m2 d2, .int .i64 b.edges, .slice B4 m4 d4, .slice B5 m5 d5]) b w2 ((hC.below hb2).wide hb2.size) (BigAt.wide (BigAt.below ⟨_, _, _, _, _, _, _, _, _, _, _, _, rfl, k1, k2, k4, k5⟩ hb2) hb2.size) hn hs hSb hwb)
  have HBa : Hid (BoxAt (w.alloc (.cells #[.int .i64 a.roots, .slice A1 n1 c1, .slice A2 n2 c2, .int .i64 a.edges, .slice A4 n4 c4, .slice A5 n5 c5] 36)) w.heap.size 36 (.int .i64 a.roots) (.slice A1 n1 c1) (.slice A2 n2 c2) (.int .i64 a.edges) (.slice A4 n4 c4) (.slice A5 n5 c5)) := Lib.hid (six_new w _ _ _ _ _ _ _)
  have hb0 := (Below.refl w.heap.size w).alloc (Nat.le_refl _) (.cells #[.int .i64 a.roots, .slice A1 n1 c1, .slice A2 n2 c2, .int .i64 a.edges, .slice A4 n4 c4, .slice A5 n5 c5] 36)
  obtain ⟨U, hU⟩ : ∃ U, w.alloc (.cells #[.int .i64 a.roots, .slice A1 n1 c1, .slice A2 n2 c2, .int .i64 a.edges, .slice A4 n4 c4, .slice A5 n5 c5] 36) = U := ⟨_, rfl⟩
  have hUz : U.heap.size = w.heap.size + 1 := by rw [← hU]; simp
  rw [hU] at HBa hb0
  have HBb : Hid (BoxAt (U.alloc (.cells #[.int .i64 b.roots, .slice B1 m1 d1, .slice B2 m2 d2, .int .i64 b.edges, .slice B4 m4 d4, .slice B5 m5 d5] 36)) U.heap.size 36 (.int .i64 b.roots) (.slice B1 m1 d1) (.slice B2 m2 d2) (.int .i64 b.edges) (.slice B4 m4 d4) (.slice B5 m5 d5)) := Lib.hid (six_new U _ _ _ _ _ _ _)
  have hb1 := (Below.refl U.heap.size U).alloc (Nat.le_refl _) (.cells #[.int .i64 b.roots, .slice B1 m1 d1, .slice B2 m2 d2, .int .i64 b.edges, .slice B4 m4 d4, .slice B5 m5 d5] 36)
  have HBa := Lib.hid (HBa.out.on hb1)
  obtain ⟨W, hW⟩ : ∃ W, U.alloc (.cells #[.int .i64 b.roots, .slice B1 m1 d1, .slice B2 m2 d2, .int .i64 b.edges, .slice B4 m4 d4, .slice B5 m5 d5] 36) = W := ⟨_, rfl⟩
  have hWz : W.heap.size = w.heap.size + 2 := by rw [← hW]; simp; omega
  rw [hW] at HBa HBb hb1
  rw [hUz] at HBb
  have HUq := Lib.hid hU
  have HWq := Lib.hid hW
  have HB0 := Lib.hid (hb0.trans (hb1.mono hb0.size))
  have HWz := Lib.hid hWz
  have ha1 : w.heap.size < W.heap.size := by omega
  have ha2 : w.heap.size + 1 < W.heap.size := by omega
  clear hU hW hb0 hb1 hUz hWz
  have hB0 := HB0.out
  obtain ⟨p, hp⟩ : ∃ p, bigB cs a = p := ⟨_, rfl⟩
  obtain ⟨q, hq⟩ : ∃ q, bigB cs b = q := ⟨_, rfl⟩
  rw [hp] at HGa
  rw [hq] at HGb
  rw [hp, hq]
  clear hp hq hC hn hs hSa hwa hNa hSb hwb hNb
  obtain ⟨x0, x1, x2, x3, x4, x5⟩ := HBa.out.get
  obtain ⟨y0, y1, y2, y3, y4, y5⟩ := HBb.out.get
  go_enter Tryz.func110, Tryz.ntmps110
  go_wp2_with fail
  rw [HUq.out, HWq.out]
  go_wp2_with fail
  refine (HGa.out _ hB0).mono ?_
  rintro e w1 ⟨rfl, hb⟩
  have hB1 := hB0.trans (hb.mono hB0.size)
  have HTa := Lib.hid (HBa.out.on hb)
  have HTb := Lib.hid (HBb.out.on hb)
  clear x0 x1 x2 x3 x4 x5 y0 y1 y2 y3 y4 y5
  clear hb HBa HBb
  have HBa := Lib.hid HTa.out
  have HBb := Lib.hid HTb.out
  clear HTa HTb
  obtain ⟨x0, x1, x2, x3, x4, x5⟩ := HBa.out.get
  obtain ⟨y0, y1, y2, y3, y4, y5⟩ := HBb.out.get
  cases p with
  | false =>
    go_wp2_with fail
    go_ret
    exact ⟨rfl, hB1⟩
  | true =>
    go_wp2_with fail
    refine (HGb.out _ hB1).mono ?_
    rintro e w2 ⟨rfl, hb⟩
    have hB2 := hB1.trans (hb.mono hB1.size)
    have HTa := Lib.hid (HBa.out.on hb)
    have HTb := Lib.hid (HBb.out.on hb)
    clear x0 x1 x2 x3 x4 x5 y0 y1 y2 y3 y4 y5
    clear hb HBa HBb
    have HBa := Lib.hid HTa.out
    have HBb := Lib.hid HTb.out
    clear HTa HTb
    obtain ⟨x0, x1, x2, x3, x4, x5⟩ := HBa.out.get
    obtain ⟨y0, y1, y2, y3, y4, y5⟩ := HBb.out.get
    go_wp2_with fail
    go_ret
    exact ⟨by cases q <;> rfl, hB2⟩
end Go.Proofs.YtfjgapkjpmkplaaGreat.ft
end
section
namespace Go.Proofs.YtfjgapkjpmkplaaGreat.gt
set_option linter.unusedVariables false
section
variable {P : Program} {ops : Array Oper} {md : Region.Mode} {S : World → Prop} {n : Nat} {Q : Exit → Act → World → Prop}
theorem go_two {i j : Nat} {oi oj : Oper} {f : Nat} {listed : Array Bool} {a : Act} {w : World} (hi : ops[i]? = some oi) (hj : ops[j]? = some oj)
    (hB : (decide (i < n) && decide (j < n) && decide (Region.ready md ops listed = [i, j])) = true)
    (h1 : ∀ K' : Act → World → Prop, Shut (∀ a w, S w → (S w → rh.Go_ P md ops Q S n f (listed.setIfInBounds i true) a w) → K' a w) → if Region.wanted oi (yielded ops a.tmps) = true then Oper.wp P oi a w K' Q else K' (a.put oi.dst undef) w)
    (h2 : ∀ K' : Act → World → Prop, Shut (∀ a w, S w → (S w → rh.Go_ P md ops Q S n f (listed.setIfInBounds j true) a w) → K' a w) → if Region.wanted oj (yielded ops a.tmps) = true then Oper.wp P oj a w K' Q else K' (a.put oj.dst undef) w) : rh.Go_ P md ops Q S n (f + 1) listed a w := fun inv => by
  simp only [Bool.and_eq_true, decide_eq_true_eq] at hB
  obtain ⟨⟨hin, hjn⟩, hr⟩ := hB
  refine ⟨fun h0 => (by rw [hr] at h0; cases h0), fun k hk => ?_⟩
  have hk' := hk
  rw [hr] at hk
  rcases List.mem_cons.1 hk with e | hk
  · subst e
    exact wpOp_step hi (fun K' hK => h1 K' (fun a w hS hW => hK a w ⟨fun _ => hS, hW hS (inv.set hk' hin)⟩))
  · obtain rfl : k = j := by simpa using hk
    exact wpOp_step hj (fun K' hK => h2 K' (fun a w hS hW => hK a w ⟨fun _ => hS, hW hS (inv.set hk' hjn)⟩))
end
end Go.Proofs.YtfjgapkjpmkplaaGreat.gt
end
section
namespace Go.Proofs.YtfjgapkjpmkplaaGreat.su
open kit bg sg opn strs only sig un over gn nm
open Go.RowKit Go.Sort Go.Lib
set_option linter.unusedVariables false
theorem bl_lt : ∀ a b : List UInt8, Op.bytesLess a b = true ↔ a < b
  | [], [] => by simp [Op.bytesLess]
  | [], y :: b => by simp [Op.bytesLess]
  | x :: a, [] => by simp [Op.bytesLess]
  | x :: a, y :: b => by
    have ih := bl_lt a b
    simp only [Op.bytesLess, Bool.or_eq_true, Bool.and_eq_true, decide_eq_true_eq, List.cons_lt_cons_iff, ih, beq_iff_eq]
def ltS (a b : ByteArray) : Prop := a.toList < b.toList
theorem ltS_irr (a : ByteArray) : ¬ ltS a a := List.lt_irrefl _
theorem ltS_trans {a b c : ByteArray} (h : ltS a b) (k : ltS b c) : ltS a c := List.lt_trans h k
theorem toL_inj {a b : ByteArray} (h : a.toList = b.toList) : a = b := str_eq (by rw [h]; exact beq_self_eq_true _)
theorem ltS_tri (a b : ByteArray) (h : ¬ ltS a b) (hne : a ≠ b) : ltS b a := by
  by_cases h2 : b.toList < a.toList
  · exact h2
  · exact absurd (toL_inj (List.le_antisymm (List.not_lt.1 h2) (List.not_lt.1 h))) hne
open Classical in
noncomputable def insU (x : ByteArray) : List ByteArray → List ByteArray
  | [] => [x]
  | y :: l => if ltS y x then y :: insU x l else if y = x then y :: l else x :: y :: l
theorem ins_mem (x z : ByteArray) : ∀ l, z ∈ insU x l ↔ z = x ∨ z ∈ l
  | [] => by simp [insU]
  | y :: l => by
    unfold insU
    split
    · rw [List.mem_cons, ins_mem x z l, List.mem_cons]
      constructor
      · rintro (h | h | h)
        · exact .inr (.inl h)
        · exact .inl h
        · exact .inr (.inr h)
      · rintro (h | h | h)
        · exact .inr (.inl h)
        · exact .inl h
        · exact .inr (.inr h)
    · split
      · next h => subst h; simp
      · simp
theorem ins_pw (x : ByteArray) : ∀ l, l.Pairwise ltS → (insU x l).Pairwise ltS
  | [], _ => by simp [insU]
  | y :: l, h => by
    obtain ⟨h1, h2⟩ := List.pairwise_cons.1 h
    unfold insU
    split
    · next hlt =>
      refine List.pairwise_cons.2 ⟨fun z hz => ?_, ins_pw x l h2⟩
      rcases (ins_mem x z l).1 hz with rfl | hz
      · exact hlt
      · exact h1 z hz
    · split
      · exact h
      · next hlt hne =>
        have hxy := ltS_tri _ _ hlt hne
        refine List.pairwise_cons.2 ⟨fun z hz => ?_, h⟩
        rcases List.mem_cons.1 hz with rfl | hz
        · exact hxy
        · exact ltS_trans hxy (h1 z hz)
theorem ins_len (x : ByteArray) : ∀ l, (insU x l).length ≤ l.length + 1
  | [] => by simp [insU]
  | y :: l => by
    have := ins_len x l
    unfold insU
    split
    · simp only [List.length_cons]; omega
    · split <;> simp only [List.length_cons] <;> omega
theorem ins_put {x : ByteArray} : ∀ (l : List ByteArray) (k : Nat), (∀ (j : Nat) y, j < k → l[j]? = some y → ltS y x) → k ≤ l.length → (∀ y, l[k]? = some y → ¬ ltS y x ∧ y ≠ x) → insU x l = l.take k ++ [x] ++ l.drop k
  | [], k, _, hk, _ => by
    obtain rfl : k = 0 := by simpa using hk
    rfl
  | y :: l, 0, _, _, hn => by
    obtain ⟨a, b⟩ := hn y rfl
    unfold insU
    rw [if_neg a, if_neg b]
    rfl
  | y :: l, k + 1, hlt, hk, hn => by
    have h0 := hlt 0 y (by omega) rfl
    unfold insU
    rw [if_pos h0, ins_put l k (fun j z hj hz => hlt (j + 1) z (by omega) (by simpa using hz)) (by simpa using hk) (fun z hz => hn z (by simpa using hz))]
    rfl
theorem ins_same {x : ByteArray} : ∀ (l : List ByteArray) (k : Nat), (∀ (j : Nat) y, j < k → l[j]? = some y → ltS y x) → l[k]? = some x → insU x l = l
  | [], k, _, h => by simp at h
  | y :: l, 0, _, h => by
    have e : y = x := by simpa using h
    subst e
    unfold insU
    rw [if_neg (ltS_irr _), if_pos rfl]
  | y :: l, k + 1, hlt, h => by
    have h0 := hlt 0 y (by omega) rfl
    unfold insU
    rw [if_pos h0, ins_same l k (fun j z hj hz => hlt (j + 1) z (by omega) (by simpa using hz)) (by simpa using h)]
noncomputable def sortU (ss : List ByteArray) : List ByteArray := ss.foldl (fun o x => insU x o) []
theorem sortU_snoc (ss : List ByteArray) (x : ByteArray) : sortU (ss ++ [x]) = insU x (sortU ss) := by unfold sortU; rw [List.foldl_append]; rfl
theorem sortU_all (ss : List ByteArray) : (∀ z, z ∈ sortU ss ↔ z ∈ ss) ∧ (sortU ss).Pairwise ltS ∧ (sortU ss).length ≤ ss.length := by
  have key : ∀ k, (∀ z, z ∈ sortU (ss.take k) ↔ z ∈ ss.take k) ∧ (sortU (ss.take k)).Pairwise ltS ∧ (sortU (ss.take k)).length ≤ (ss.take k).length := by
    intro k
    induction k with
    | zero => simp [sortU]
    | succ k ih =>
      obtain ⟨i1, i2, i3⟩ := ih
      rw [List.take_add_one]
      cases hx : ss[k]? with
      | none => simp only [Option.toList_none, List.append_nil]; exact ⟨i1, i2, i3⟩
      | some x =>
        simp only [Option.toList_some]
        rw [sortU_snoc]
        refine ⟨fun z => ?_, ins_pw x _ i2, ?_⟩
        · rw [ins_mem, i1, List.mem_append, List.mem_singleton]
          exact ⟨fun h => h.symm, fun h => h.symm⟩
        · have := ins_len x (sortU (ss.take k))
          rw [List.length_append, List.length_singleton]
          omega
  have := key ss.length
  rw [List.take_length] at this
  exact this
theorem sortU_mem {ss : List ByteArray} {z : ByteArray} : z ∈ sortU ss ↔ z ∈ ss := (sortU_all ss).1 z
theorem sortU_pw (ss : List ByteArray) : (sortU ss).Pairwise ltS := (sortU_all ss).2.1
theorem sortU_len (ss : List ByteArray) : (sortU ss).length ≤ ss.length := (sortU_all ss).2.2
theorem pw_uniq : ∀ (l l' : List ByteArray), l.Pairwise ltS → l'.Pairwise ltS → (∀ x, x ∈ l ↔ x ∈ l') → l = l'
  | [], [], _, _, _ => rfl
  | [], y :: l', _, _, h => absurd ((h y).2 List.mem_cons_self) (by simp)
  | y :: l, [], _, _, h => absurd ((h y).1 List.mem_cons_self) (by simp)
  | y :: l, y' :: l', h1, h2, h => by
    obtain ⟨a1, b1⟩ := List.pairwise_cons.1 h1
    obtain ⟨a2, b2⟩ := List.pairwise_cons.1 h2
    have e : y = y' := by
      rcases List.mem_cons.1 ((h y).1 List.mem_cons_self) with e | e
      · exact e
      · rcases List.mem_cons.1 ((h y').2 List.mem_cons_self) with e2 | e2
        · exact e2.symm
        · exact absurd (ltS_trans (a1 _ e2) (a2 _ e)) (ltS_irr _)
    subst e
    congr 1
    refine pw_uniq l l' b1 b2 (fun x => ⟨fun hx => ?_, fun hx => ?_⟩)
    · rcases List.mem_cons.1 ((h x).1 (List.mem_cons_of_mem _ hx)) with e | e
      · subst e; exact absurd (a1 _ hx) (ltS_irr _)
      · exact e
    · rcases List.mem_cons.1 ((h x).2 (List.mem_cons_of_mem _ hx)) with e | e
      · subst e; exact absurd (a2 _ hx) (ltS_irr _)
      · exact e
theorem sortU_is {ss l : List ByteArray} (h : l.Pairwise ltS) (hm : ∀ x, x ∈ l ↔ x ∈ ss) : l = sortU ss := pw_uniq l _ h (sortU_pw ss) (fun x => (hm x).trans sortU_mem.symm)
theorem pw_of {α : Type} {r : α → α → Prop} (ht : ∀ a b c, r a b → r b c → r a c) : ∀ (l : List α), (∀ (k : Nat) a b, l[k]? = some a → l[k + 1]? = some b → r a b) → l.Pairwise r
  | [], _ => List.Pairwise.nil
  | [a], _ => by simp
  | a :: b :: l, h => by
    have ih := pw_of ht (b :: l) (fun k x y h1 h2 => h (k + 1) x y h1 h2)
    have hab := h 0 a b rfl rfl
    refine List.pairwise_cons.2 ⟨fun z hz => ?_, ih⟩
    rcases List.mem_cons.1 hz with rfl | hz
    · exact hab
    · exact ht _ _ _ hab ((List.pairwise_cons.1 ih).1 z hz)
theorem names_ltS {ss : List ByteArray} (h : NamesP ss) : ss.Pairwise ltS :=
  pw_of (r := ltS) (fun _ _ _ h1 h2 => ltS_trans h1 h2) ss (fun k a b h1 h2 => (bl_lt a.toList b.toList).1 (h.2 k a b h1 h2))
def lists (ss : List ByteArray) : List (List UInt8) := ss.map fun s => s.data.toList
end Go.Proofs.YtfjgapkjpmkplaaGreat.su
end
section
namespace Go.Proofs.YtfjgapkjpmkplaaGreat.sa
variable {P : Program}
theorem step_append_own {w : World} {ops : Array Oper} {o : Oper} {a : Act} {K : Act → World → Prop} {Q : Exit → Act → World → Prop} {E : Prop} (hgd : o.guard = none) (s x : Operand) (t : TypeId)
    (ho : o.op = .call { callee := .builtin .append, args := #[s, x], argTypes := #[t, t] })
    (base : Nat) (e : TypeId) (i : TypeInfo) (z : Value) (size bytes : Nat) (ht : P.underlying t = some (.slice e)) (hi : P.info? e = some i) (hz : i.zero = some z)
    (hsize : i.size = size) (hby : i.bytes = bytes) (hzs : z.cells.size = size) (hsz : 0 < size)
    (v : Value) (n : Nat) (xs : List Value) (hs : a.eval s = v) (hown : w.ownsRow base e size v n xs)
    (ad : Addr) (m c : Nat) (news : List Value) (hx : a.eval x = .slice (some ad) m c) (hl : news.length = m * size) (hnews : ∀ j u, news[j]? = some u → w.cell? (ad.add j) = some u) (h1 : ∀ u ∈ news, u.oneCell' = true)
    (h63 : n + m ≤ maxLen) (hbytes : (n + m) * bytes ≤ 140737488355328) (hbase : base ≤ w.heap.size)
    (h : ∀ v' w', w'.ownsRow base e size v' (n + m) (xs ++ news) → w.grownBy w' v.ownBlock → (v' = .slice none 0 0 ↔ v = .slice none 0 0 ∧ m = 0) → K (a.put o.dst v') w') :
    if Region.wanted o (yielded ops a.tmps) = true then Oper.wp P o a w K Q else E := by
  have hw : Region.wanted o (yielded ops a.tmps) = true := by simp [Region.wanted, hgd]
  rw [if_pos hw]
  exact wp_append_own w s x t ho base e i z size bytes ht hi hz hsize hby hzs hsz v n xs hs hown ad m c news hx hl hnews h1 h63 hbytes hbase h
end Go.Proofs.YtfjgapkjpmkplaaGreat.sa
end
section
namespace Go.Proofs.YtfjgapkjpmkplaaGreat.oc
open kit bg sg opn strs only hb sig isig un over gn nm inn ht gd im pt marks eqs hc hi hw hn rs br bm bw cf lf ib lw cl ix tg
open Go.RowKit
set_option linter.unusedVariables false
set_option linter.unusedSimpArgs false
theorem two_edge {w : World} {β : Nat} {t : Tgt} (h : TwoAt w β t) (e : Int) : TwoAt (w.setCell ⟨β, 0, none⟩ (.int .i64 e)) β ⟨e, t.name⟩ := by
  obtain ⟨f, hr, h0, h1⟩ := h
  exact ⟨_, hr.set 0 (.int .i64 e), rfl, h1⟩
theorem two_far {w : World} {β γ : Nat} {t : Tgt} (h : TwoAt w γ t) (hne : γ ≠ β) (v : Value) : TwoAt (w.setCell ⟨β, 0, none⟩ v) γ t := by
  obtain ⟨f, hr, e⟩ := h
  exact ⟨f, hr.of_block (by first | exact Below.heap_setCell _ _ _ _ hne | exact Below.heap_setCell _ _ _ _ hne.symm), e⟩
end Go.Proofs.YtfjgapkjpmkplaaGreat.oc
end
