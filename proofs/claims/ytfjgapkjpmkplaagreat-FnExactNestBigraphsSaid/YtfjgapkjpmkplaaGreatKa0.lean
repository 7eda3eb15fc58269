/- Cc Cg Ek Wk Ix Tg Jo Gv Tm Co Nd Ft Gt Su Sa Vs Asc Nw Cz Sx Idn Idz Oc. -/
import Derived.Test.YtfjgapkjpmkplaaGreatBa
import Derived.Test.YtfjgapkjpmkplaaGreatBd
import Derived.Test.YtfjgapkjpmkplaaGreatBc
import Derived.Test.YtfjgapkjpmkplaaGreatBe
import Derived.Test.YtfjgapkjpmkplaaGreatBg
import Derived.Test.YtfjgapkjpmkplaaGreatBb
import Derived.Test.YtfjgapkjpmkplaaGreatRows
import Derived.WalkKit
import Derived.WalkSpells
import Derived.WalkLawsBesides
import Derived.ProofKit
import Derived.OpenShut
import Derived.ShutString
import Derived.Deep.OwnRows
import Derived.Deep.Draws
import Derived.SliceStrings
import Derived.ChangeOld
import Derived.Below
import Derived.Lib.Hide
import Derived.Lib.ItoaNum
import Derived.Deep.QuietTactic
import Derived.BigQuiet
import Derived.Outline
import Derived.StillTailTactics
import Derived.Deep.RegionWith
import Derived.Deep.RegionHeld3
import Derived.Deep.Slices
import Derived.Deep.Fields
import Derived.ChangeSame
import Derived.Lib.SmallJoins
import Derived.Maps.OwnOps
import Derived.Maps.OwnIn
import Derived.Maps.Views
import Derived.Maps.AppendAt
import Derived.RangeFuncBox
import Derived.RangeFuncLeaves
import Derived.Shelf.Abstract
import Derived.OwnWalkIn
import Derived.TacticsInMore
import Derived.LoopNIn
import Derived.LoopIn
import Derived.RangeFuncWrites
import Derived.RangeFuncNested
import Derived.JoinedOf
import Derived.Deep.AppendLies
import Derived.Deep.RegionLaw
import Derived.Laws.AppendOwnNone
import Derived.Deep.Cut
import Derived.Deep.CutRange
import Derived.Lib.SliceRun
import Derived.Lib.AppendZerosOnto
import Derived.OrdersHeld
import Derived.StillTail
import Derived.Lib.Walk
import Derived.Deep.LoopGhost
import Derived.Handy
import Derived.Lib.LazyBuf
import Derived.Sort.OwnSorted
import Derived.Lib.SlicesCompact
import Derived.Sort.KeysCollected
import Derived.Test.YtfjgapkjpmkplaaGreatSrt
set_option linter.unusedSimpArgs false
set_option linter.unusedVariables false
section
namespace Go.Proofs.YtfjgapkjpmkplaaGreat.cc
open kit bg opn strs only hb sig inn ht marks eqs hc hi hw hn rs br bm bw cl
open Go.RowKit
set_option linter.unusedVariables false
set_option linter.unusedSimpArgs false
set_option maxRecDepth 20000 in
set_option maxHeartbeats 800000 in
theorem growS_any (n : Nat) (w : World) (hn : n ≤ 1048576) :
    Calls Tryz.prog 243 #[.slice none 0 0, .int .i64 n] w fun e w' => ∃ v, e = .returned v ∧ w'.ownsRow w.heap.size 9 1 v 0 [] ∧ Below w.heap.size w w' := by
  obtain ⟨i0, hi, hz0, hz1, hz2⟩ := info_parts str_info
  by_cases h0 : n = 0
  · subst h0
    go_enter Tryz.func243, Tryz.ntmps243
    go_wp2_with fail
    go_ret
    exact ⟨_, rfl, World.ownsRow_nil _ _ _ _, Below.refl _ _⟩
  · have hrz : ∀ ty, (Builtin.append_ #[25, 3] ty #[.slice none 0 0, .int .i64 n]).run Tryz.prog w = .ok (.slice (some ⟨w.heap.size, 0, none⟩) n (grownCap w n 0 9)) (w.drew.alloc (.cells (([] : List Value).toArray ++ Builtin.zeroCells (Value.string ⟨#[]⟩).cells n ++ Builtin.zeroCells (Value.string ⟨#[]⟩).cells (grownCap w n 0 9 - n)) 9)) := fun ty => by
      have h := Lib.run_append_grow_zeros (P := Tryz.prog) w 25 3 ty 9 i0 (Value.string ⟨#[]⟩) .i64 .i64 Tryz.underlying25 (by kernel_rfl) hi hz0 none 0 0 [] (run_firstCells_none w.drew i0.size 0 0 0) n (by omega) (by rw [hz1]; decide) (by omega) (by omega) (by rw [hz2]; omega) (growslice_fits (by omega) (by rw [hz2]; omega))
      rw [Nat.zero_add] at h
      exact h
    have hGn : n ≤ grownCap w n 0 9 := grownCap_ge w _ _ _
    have hGm := grownCap_le_maxLen w n 0 9 (by unfold maxLen; omega)
    obtain ⟨G, hG⟩ : ∃ G, grownCap w n 0 9 = G := ⟨_, rfl⟩
    rw [hG] at hrz hGn hGm
    have hG63 : G ≤ 9223372036854775807 := by unfold maxLen at hGm; omega
    have hown := Lib.hid (World.ownsRow_made (base := w.heap.size) (e := 9) (size := 1) w.drew (([] : List Value).toArray ++ Builtin.zeroCells (Value.string ⟨#[]⟩).cells n ++ Builtin.zeroCells (Value.string ⟨#[]⟩).cells (G - n)) G (Nat.le_of_eq (by rfl)) hGm (by simp [size_zeroCells, Value.cells]; omega))
    have hB := Lib.hid ((Below.refl w.heap.size w).drew.alloc (Nat.le_of_eq (by rfl)) (.cells (([] : List Value).toArray ++ Builtin.zeroCells (Value.string ⟨#[]⟩).cells n ++ Builtin.zeroCells (Value.string ⟨#[]⟩).cells (G - n)) 9))
    obtain ⟨Z, hZ⟩ : ∃ Z, w.drew.alloc (.cells (([] : List Value).toArray ++ Builtin.zeroCells (Value.string ⟨#[]⟩).cells n ++ Builtin.zeroCells (Value.string ⟨#[]⟩).cells (G - n)) 9) = Z := ⟨_, rfl⟩
    rw [hZ] at hrz hown hB
    clear hZ hG
    go_enter Tryz.func243, Tryz.ntmps243
    go_wp2_with (at_builtin; refine Lib.wpList_append_run _ rfl _ _ _ _ rfl _ _ rfl rfl _ _ (hrz _) ?_)
    go_ret
    exact ⟨_, rfl, hown.out, hB.out⟩
def PartsAt (w : World) (L : Nat) (vs : List Value) (ps : List (List Value)) : Prop := ∀ (k : Nat) v, vs[k]? = some v → ∃ xs A n c, ps[k]? = some xs ∧ v = .slice A n c ∧ SR w L A n xs ∧ (A = none → c = 0) ∧ ∀ u ∈ xs, u.oneCell' = true
theorem flat_snoc {ps : List (List Value)} {k : Nat} {xs : List Value} (h : ps[k]? = some xs) : (ps.take (k + 1)).flatten = (ps.take k).flatten ++ xs := by
  rw [List.take_add_one, h]; simp
theorem flat_le (ps : List (List Value)) (k : Nat) : (ps.take k).flatten.length ≤ ps.flatten.length := by
  have h : ps.flatten = (ps.take k).flatten ++ (ps.drop k).flatten := by rw [← List.flatten_append, List.take_append_drop]
  rw [h, List.length_append]; omega
set_option maxRecDepth 20000 in
set_option maxHeartbeats 1600000 in
theorem concatS_any (A : Option Addr) (m c : Nat) (vs : List Value) (ps : List (List Value)) (w : World) (hV : SR w w.heap.size A m vs) (hP : PartsAt w w.heap.size vs ps) (hl : ps.length = m) (hT : ps.flatten.length ≤ 1048576) (hm : m ≤ 1048576) :
    Calls Tryz.prog 193 #[.slice A m c] w fun e w' => ∃ v, e = .returned v ∧ w'.ownsRow w.heap.size 9 1 v ps.flatten.length ps.flatten ∧ Below w.heap.size w w' := by
  obtain ⟨i0, hi, hz0, hz1, hz2⟩ := info_parts str_info
  have HI := Lib.hid (And.intro hi (And.intro hz0 (And.intro hz1 hz2)))
  have HP := Lib.hid hP
  have HV := Lib.hid hV
  have CG := growS_any ps.flatten.length w hT
  have HF : Hid ((ps.take m).flatten = ps.flatten) := Lib.hid (by rw [← hl, List.take_length])
  clear hi hz0 hz1 hz2 hP hV
  go_enter Tryz.func193, Tryz.ntmps193
  go_wp2_with fail
  go_loopw [3, 11] (fun z i wr => ∃ k : Nat, k ≤ m ∧ i = .int .i64 k ∧ z = .int .i64 ((ps.take k).flatten.length : Nat) ∧ w = wr) (fun _ i _ => m - (intOf i).toNat)
  case atStart => exact ⟨0, Nat.zero_le _, rfl, rfl, rfl⟩
  case round =>
    obtain ⟨k, hk, rfl, rfl, rfl⟩ := hrel
    by_cases hlt : k < m
    · obtain ⟨b, off, v, rfl, hb, hx, hc⟩ := HV.out.get hlt
      obtain ⟨xs, Ax, nx, cx, hpk, rfl, hs, h0, h1⟩ := HP.out k v hx
      have hle := flat_le ps (k + 1)
      rw [flat_snoc hpk, List.length_append] at hle
      have hsn := hs.1
      have HFn : Hid ((ps.take (k + 1)).flatten.length = (ps.take k).flatten.length + nx) := Lib.hid (by rw [flat_snoc hpk, List.length_append, hsn])
      obtain ⟨T, hTk⟩ : ∃ T, (ps.take k).flatten.length = T := ⟨_, rfl⟩
      rw [hTk] at hle HFn ⊢
      rw [hsn] at hle
      have hw1 : wrap64 ((T : Int) + (nx : Int)) = ((T + nx : Nat) : Int) := by unfold wrap64; omega
      clear hTk hs hpk hx h0 h1 hsn
      go_wp2_with fail
      go_roundw
      case rel => exact ⟨k + 1, by omega, by go_num, by rw [HFn.out]; go_num, by first | trivial | rfl⟩
      case measure => simp [intOf]; omega
    · obtain rfl : m = k := by omega
      rw [HF.out]
      obtain ⟨N, hN⟩ : ∃ N, ps.flatten.length = N := ⟨_, rfl⟩
      rw [hN] at CG ⊢
      have HN := Lib.hid hN
      clear hN
      go_wp2_with fail
      refine CG.mono ?_
      rintro e w1 ⟨v1, rfl, hown, hb⟩
      have HOwn := Lib.hid hown
      have HB1 := Lib.hid hb
      clear CG hown hb
      go_wp2_with fail
      go_loopw [6, 27] (fun v i wr => ∃ k : Nat, k ≤ m ∧ i = .int .i64 k ∧ wr.ownsRow w.heap.size 9 1 v (ps.take k).flatten.length (ps.take k).flatten ∧ Below w.heap.size w wr) (fun _ i _ => m - (intOf i).toNat)
      case atStart => exact ⟨0, Nat.zero_le _, rfl, HOwn.out, HB1.out⟩
      case round =>
        obtain ⟨k, hk, rfl, hown, hbel⟩ := hrel
        by_cases hlt : k < m
        · obtain ⟨b, off, v, rfl, hb, hx, hc⟩ := HV.out.get hlt
          obtain ⟨xs, Ax, nx, cx, hpk, rfl, hs, h0, h1⟩ := HP.out k v hx
          have hcc := (hbel.cell (p := ⟨b, off + k, none⟩) hb).trans hc
          have hle := flat_le ps (k + 1)
          rw [flat_snoc hpk, List.length_append] at hle
          have hsn := hs.1
          have HFn : Hid ((ps.take (k + 1)).flatten = (ps.take k).flatten ++ xs) := Lib.hid (flat_snoc hpk)
          obtain ⟨T, hTk⟩ : ∃ T, (ps.take k).flatten = T := ⟨_, rfl⟩
          rw [hTk] at hle HFn hown
          have HLn : Hid ((T ++ xs).length = T.length + nx) := Lib.hid (by rw [List.length_append, hsn])
          rw [hsn] at hle
          have hsz := hbel.size
          have hblt := hown.lt
          have hs' := hs.below hbel
          clear hTk hpk hx hc
          cases Ax with
          | none =>
            obtain rfl : cx = 0 := h0 rfl
            obtain rfl : nx = 0 := by
              by_cases e : nx = 0
              · exact e
              · obtain ⟨b2, off2, e2, _⟩ := hs.2 (by omega)
                cases e2
            have hx0 : xs = [] := List.length_eq_zero_iff.1 hsn
            subst hx0
            rw [List.append_nil] at HFn
            have HOw := Lib.hid hown
            go_wp2_with (at_builtin; refine wpList_append_own_none rfl _ _ 25 rfl w.heap.size 9 i0 1 Tryz.underlying25 HI.out.1 _ T.length T rfl HOw.out rfl ?_; clear hown)
            go_roundw
            case rel => exact ⟨k + 1, by omega, by go_num, by rw [HFn.out]; exact HOw.out, hbel⟩
            case measure => simp [intOf]; omega
          | some Ax =>
            have hce := sr_cells hs'
            go_wp2_with (at_builtin; refine wpList_append_own _ rfl _ _ 25 rfl w.heap.size 9 i0 (Value.string ⟨#[]⟩) 1 16 Tryz.underlying25 HI.out.1 HI.out.2.1 HI.out.2.2.1 HI.out.2.2.2 rfl (by decide) _ _ _ rfl hown Ax nx cx xs rfl (by rw [hsn, Nat.mul_one]) hce h1 (by unfold maxLen; omega) (by omega) hsz ?_; intro v1 w5 hown1 hgrow1 hnil1; have hb1 := Lib.hid (hbel.grown hgrow1 hsz (fun j hj => (hblt j hj).1)); have HOw := Lib.hid hown1; clear hown1 hgrow1 hnil1 hown hbel)
            go_roundw
            case rel => exact ⟨k + 1, by omega, by go_num, by rw [HFn.out, HLn.out]; exact HOw.out, hb1.out⟩
            case measure => simp [intOf]; omega
        · obtain rfl : m = k := by omega
          rw [HF.out, HN.out] at hown
          have HOw := Lib.hid hown
          have HBl := Lib.hid hbel
          clear hown hbel
          go_wp2_with fail
          go_ret
          refine ⟨_, rfl, ?_, HBl.out⟩
          rw [HN.out]
          exact HOw.out
end Go.Proofs.YtfjgapkjpmkplaaGreat.cc
end
section
namespace Go.Proofs.YtfjgapkjpmkplaaGreat.cg
open kit bg opn strs only hb sig inn ht marks eqs hc hi hw hn rs br bm bw cl cc
open Go.RowKit
set_option linter.unusedVariables false
set_option linter.unusedSimpArgs false
def PartsK (w : World) (L sz : Nat) (vs : List Value) (ps : List (List Value)) : Prop := ∀ (k : Nat) v, vs[k]? = some v → ∃ xs A n c, ps[k]? = some xs ∧ v = .slice A n c ∧ SR w L A (n * sz) xs ∧ (A = none → c = 0) ∧ ∀ u ∈ xs, u.oneCell' = true
theorem partsK_two {w : World} {L sz : Nat} {A B : Option Addr} {n m c d : Nat} {xs ys : List Value} (h1 : SR w L A (n * sz) xs) (h2 : A = none → c = 0) (h3 : ∀ u ∈ xs, u.oneCell' = true) (k1 : SR w L B (m * sz) ys) (k2 : B = none → d = 0) (k3 : ∀ u ∈ ys, u.oneCell' = true) :
    PartsK w L sz [.slice A n c, .slice B m d] [xs, ys] := fun k v hk => by
  match k, hk with
  | 0, hk =>
    simp at hk
    subst hk
    exact ⟨xs, A, n, c, rfl, rfl, h1, h2, h3⟩
  | 1, hk =>
    simp at hk
    subst hk
    exact ⟨ys, B, m, d, rfl, rfl, k1, k2, k3⟩
  | k + 2, hk => simp at hk
set_option maxRecDepth 20000 in
set_option maxHeartbeats 800000 in
theorem growI_any (n : Nat) (w : World) (hn : n ≤ 1048576) :
    Calls Tryz.prog 238 #[.slice none 0 0, .int .i64 n] w fun e w' => ∃ v, e = .returned v ∧ w'.ownsRow w.heap.size 3 1 v 0 [] ∧ Below w.heap.size w w' := by
  obtain ⟨i0, hi, hz0, hz1, hz2⟩ := info_parts int_info
  by_cases h0 : n = 0
  · subst h0
    go_enter Tryz.func238, Tryz.ntmps238
    go_wp2_with fail
    go_ret
    exact ⟨_, rfl, World.ownsRow_nil _ _ _ _, Below.refl _ _⟩
  · have hrz : ∀ ty, (Builtin.append_ #[24, 3] ty #[.slice none 0 0, .int .i64 n]).run Tryz.prog w = .ok (.slice (some ⟨w.heap.size, 0, none⟩) n (grownCap w n 0 3)) (w.drew.alloc (.cells (([] : List Value).toArray ++ Builtin.zeroCells (.int .i64 0 : Value).cells n ++ Builtin.zeroCells (.int .i64 0 : Value).cells (grownCap w n 0 3 - n)) 3)) := fun ty => by
      have h := Lib.run_append_grow_zeros (P := Tryz.prog) w 24 3 ty 3 i0 (.int .i64 0) .i64 .i64 Tryz.underlying24 (by kernel_rfl) hi hz0 none 0 0 [] (run_firstCells_none w.drew i0.size 0 0 0) n (by omega) (by rw [hz1]; decide) (by omega) (by omega) (by rw [hz2]; omega) (growslice_fits (by omega) (by rw [hz2]; omega))
      rw [Nat.zero_add] at h
      exact h
    have hGn : n ≤ grownCap w n 0 3 := grownCap_ge w _ _ _
    have hGm := grownCap_le_maxLen w n 0 3 (by unfold maxLen; omega)
    obtain ⟨G, hG⟩ : ∃ G, grownCap w n 0 3 = G := ⟨_, rfl⟩
    rw [hG] at hrz hGn hGm
    have hG63 : G ≤ 9223372036854775807 := by unfold maxLen at hGm; omega
    have hown := Lib.hid (World.ownsRow_made (base := w.heap.size) (e := 3) (size := 1) w.drew (([] : List Value).toArray ++ Builtin.zeroCells (.int .i64 0 : Value).cells n ++ Builtin.zeroCells (.int .i64 0 : Value).cells (G - n)) G (Nat.le_of_eq (by rfl)) hGm (by simp [size_zeroCells, Value.cells]; omega))
    have hB := Lib.hid ((Below.refl w.heap.size w).drew.alloc (Nat.le_of_eq (by rfl)) (.cells (([] : List Value).toArray ++ Builtin.zeroCells (.int .i64 0 : Value).cells n ++ Builtin.zeroCells (.int .i64 0 : Value).cells (G - n)) 3))
    obtain ⟨Z, hZ⟩ : ∃ Z, w.drew.alloc (.cells (([] : List Value).toArray ++ Builtin.zeroCells (.int .i64 0 : Value).cells n ++ Builtin.zeroCells (.int .i64 0 : Value).cells (G - n)) 3) = Z := ⟨_, rfl⟩
    rw [hZ] at hrz hown hB
    clear hZ hG
    go_enter Tryz.func238, Tryz.ntmps238
    go_wp2_with (at_builtin; refine Lib.wpList_append_run _ rfl _ _ _ _ rfl _ _ rfl rfl _ _ (hrz _) ?_)
    go_ret
    exact ⟨_, rfl, hown.out, hB.out⟩
set_option maxRecDepth 20000 in
set_option maxHeartbeats 1600000 in
theorem concatI_any (A : Option Addr) (m c N : Nat) (vs : List Value) (ps : List (List Value)) (w : World) (hV : SR w w.heap.size A m vs) (hP : PartsK w w.heap.size 1 vs ps) (hl : ps.length = m) (hT : ps.flatten.length = N * 1) (hN : N ≤ 1048576) (hm : m ≤ 1048576) :
    Calls Tryz.prog 191 #[.slice A m c] w fun e w' => ∃ v, e = .returned v ∧ w'.ownsRow w.heap.size 3 1 v N ps.flatten ∧ Below w.heap.size w w' := by
  obtain ⟨i0, hi, hz0, hz1, hz2⟩ := info_parts int_info
  have HI := Lib.hid (And.intro hi (And.intro hz0 (And.intro hz1 hz2)))
  have HP := Lib.hid hP
  have HV := Lib.hid hV
  have CG := growI_any N w hN
  have HF : Hid ((ps.take m).flatten = ps.flatten) := Lib.hid (by rw [← hl, List.take_length])
  have HT := Lib.hid hT
  clear hi hz0 hz1 hz2 hP hV hT
  go_enter Tryz.func191, Tryz.ntmps191
  go_wp2_with fail
  go_loopw [3, 11] (fun z i wr => ∃ (k T : Nat), k ≤ m ∧ i = .int .i64 k ∧ z = .int .i64 (T : Nat) ∧ (ps.take k).flatten.length = T * 1 ∧ w = wr) (fun _ i _ => m - (intOf i).toNat)
  case atStart => exact ⟨0, 0, Nat.zero_le _, rfl, rfl, by simp, rfl⟩
  case round =>
    obtain ⟨k, T, hk, rfl, rfl, hTT, rfl⟩ := hrel
    have HTT := Lib.hid hTT
    clear hTT
    by_cases hlt : k < m
    · obtain ⟨b, off, v, rfl, hb, hx, hc⟩ := HV.out.get hlt
      obtain ⟨xs, Ax, nx, cx, hpk, rfl, hs, h0, h1⟩ := HP.out k v hx
      have HFn : Hid ((ps.take (k + 1)).flatten.length = (T + nx) * 1) := Lib.hid (by rw [flat_snoc hpk, List.length_append, hs.1, HTT.out]; omega)
      have hle : T + nx ≤ N := by
        have h1 := flat_le ps (k + 1)
        rw [HFn.out, HT.out] at h1
        omega
      have hw1 : wrap64 ((T : Int) + (nx : Int)) = ((T + nx : Nat) : Int) := by unfold wrap64; omega
      clear hs hpk hx h0 h1
      go_wp2_with fail
      go_roundw
      case rel => exact ⟨k + 1, T + nx, by omega, by go_num, by go_num, HFn.out, by first | trivial | rfl⟩
      case measure => simp [intOf]; omega
    · obtain rfl : m = k := by omega
      obtain rfl : T = N := by
        have h1 := HTT.out
        rw [HF.out, HT.out] at h1
        omega
      go_wp2_with fail
      refine CG.mono ?_
      rintro e w1 ⟨v1, rfl, hown, hb⟩
      have HOwn := Lib.hid hown
      have HB1 := Lib.hid hb
      clear CG hown hb
      go_wp2_with fail
      go_loopw [6, 27] (fun v i wr => ∃ (k S : Nat), k ≤ m ∧ i = .int .i64 k ∧ wr.ownsRow w.heap.size 3 1 v S (ps.take k).flatten ∧ (ps.take k).flatten.length = S * 1 ∧ Below w.heap.size w wr) (fun _ i _ => m - (intOf i).toNat)
      case atStart => exact ⟨0, 0, Nat.zero_le _, rfl, HOwn.out, by simp, HB1.out⟩
      case round =>
        obtain ⟨k, S, hk, rfl, hown, hSS, hbel⟩ := hrel
        have HSS := Lib.hid hSS
        clear hSS
        by_cases hlt : k < m
        · obtain ⟨b, off, v, rfl, hb, hx, hc⟩ := HV.out.get hlt
          obtain ⟨xs, Ax, nx, cx, hpk, rfl, hs, h0, h1⟩ := HP.out k v hx
          have hcc := (hbel.cell (p := ⟨b, off + k, none⟩) hb).trans hc
          have HFl : Hid ((ps.take (k + 1)).flatten.length = (S + nx) * 1) := Lib.hid (by rw [flat_snoc hpk, List.length_append, hs.1, HSS.out]; omega)
          have hle : S + nx ≤ T := by
            have h1 := flat_le ps (k + 1)
            rw [HFl.out, HT.out] at h1
            omega
          have hsn := hs.1
          have HFn : Hid ((ps.take (k + 1)).flatten = (ps.take k).flatten ++ xs) := Lib.hid (flat_snoc hpk)
          obtain ⟨F, hF⟩ : ∃ F, (ps.take k).flatten = F := ⟨_, rfl⟩
          rw [hF] at HFn hown
          have hsz := hbel.size
          have hblt := hown.lt
          have hs' := hs.below hbel
          clear hF hpk hx hc
          cases Ax with
          | none =>
            obtain rfl : cx = 0 := h0 rfl
            obtain rfl : nx = 0 := by
              by_cases e : nx = 0
              · exact e
              · obtain ⟨b2, off2, e2, _⟩ := hs.2 (by omega)
                cases e2
            have hx0 : xs = [] := List.length_eq_zero_iff.1 (by omega)
            subst hx0
            rw [List.append_nil] at HFn
            have HOw := Lib.hid hown
            go_wp2_with (at_builtin; refine wpList_append_own_none rfl _ _ 24 rfl w.heap.size 3 i0 1 Tryz.underlying24 HI.out.1 _ S F rfl HOw.out rfl ?_; clear hown)
            go_roundw
            case rel => exact ⟨k + 1, S, by omega, by go_num, by rw [HFn.out]; exact HOw.out, by rw [HFl.out]; omega, hbel⟩
            case measure => simp [intOf]; omega
          | some Ax =>
            have hce := sr_cells hs'
            go_wp2_with (at_builtin; refine wpList_append_own _ rfl _ _ 24 rfl w.heap.size 3 i0 (.int .i64 0) 1 8 Tryz.underlying24 HI.out.1 HI.out.2.1 HI.out.2.2.1 HI.out.2.2.2 rfl (by decide) _ _ _ rfl hown Ax nx cx xs rfl hsn hce h1 (by unfold maxLen; omega) (by omega) hsz ?_; intro v1 w5 hown1 hgrow1 hnil1; have hb1 := Lib.hid (hbel.grown hgrow1 hsz (fun j hj => (hblt j hj).1)); have HOw := Lib.hid hown1; clear hown1 hgrow1 hnil1 hown hbel)
            go_roundw
            case rel => exact ⟨k + 1, S + nx, by omega, by go_num, by rw [HFn.out]; exact HOw.out, HFl.out, hb1.out⟩
            case measure => simp [intOf]; omega
        · obtain rfl : m = k := by omega
          obtain rfl : S = T := by
            have h1 := HSS.out
            rw [HF.out, HT.out] at h1
            omega
          rw [HF.out] at hown
          have HOw := Lib.hid hown
          have HBl := Lib.hid hbel
          clear hown hbel
          go_wp2_with fail
          go_ret
          exact ⟨_, rfl, HOw.out, HBl.out⟩
set_option maxRecDepth 20000 in
set_option maxHeartbeats 800000 in
theorem growW_any (n : Nat) (w : World) (hn : n ≤ 1048576) :
    Calls Tryz.prog 255 #[.slice none 0 0, .int .i64 n] w fun e w' => ∃ v, e = .returned v ∧ w'.ownsRow w.heap.size 139 2 v 0 [] ∧ Below w.heap.size w w' := by
  obtain ⟨i0, hi, hz0, hz1, hz2⟩ := info_parts wire_info
  by_cases h0 : n = 0
  · subst h0
    go_enter Tryz.func255, Tryz.ntmps255
    go_wp2_with fail
    go_ret
    exact ⟨_, rfl, World.ownsRow_nil _ _ _ _, Below.refl _ _⟩
  · have hrz : ∀ ty, (Builtin.append_ #[34, 3] ty #[.slice none 0 0, .int .i64 n]).run Tryz.prog w = .ok (.slice (some ⟨w.heap.size, 0, none⟩) n (grownCap w n 0 139)) (w.drew.alloc (.cells (([] : List Value).toArray ++ Builtin.zeroCells (.agg #[.string ⟨#[]⟩, .int .i64 0] : Value).cells n ++ Builtin.zeroCells (.agg #[.string ⟨#[]⟩, .int .i64 0] : Value).cells (grownCap w n 0 139 - n)) 139)) := fun ty => by
      have h := Lib.run_append_grow_zeros (P := Tryz.prog) w 34 3 ty 139 i0 (.agg #[.string ⟨#[]⟩, .int .i64 0]) .i64 .i64 Tryz.underlying34 (by kernel_rfl) hi hz0 none 0 0 [] (run_firstCells_none w.drew i0.size 0 0 0) n (by omega) (by rw [hz1]; decide) (by omega) (by omega) (by rw [hz2]; omega) (growslice_fits (by omega) (by rw [hz2]; omega))
      rw [Nat.zero_add] at h
      exact h
    have hGn : n ≤ grownCap w n 0 139 := grownCap_ge w _ _ _
    have hGm := grownCap_le_maxLen w n 0 139 (by unfold maxLen; omega)
    obtain ⟨G, hG⟩ : ∃ G, grownCap w n 0 139 = G := ⟨_, rfl⟩
    rw [hG] at hrz hGn hGm
    have hG63 : G ≤ 9223372036854775807 := by unfold maxLen at hGm; omega
    have hown := Lib.hid (World.ownsRow_made (base := w.heap.size) (e := 139) (size := 2) w.drew (([] : List Value).toArray ++ Builtin.zeroCells (.agg #[.string ⟨#[]⟩, .int .i64 0] : Value).cells n ++ Builtin.zeroCells (.agg #[.string ⟨#[]⟩, .int .i64 0] : Value).cells (G - n)) G (Nat.le_of_eq (by rfl)) hGm (by simp [size_zeroCells, Value.cells]; omega))
    have hB := Lib.hid ((Below.refl w.heap.size w).drew.alloc (Nat.le_of_eq (by rfl)) (.cells (([] : List Value).toArray ++ Builtin.zeroCells (.agg #[.string ⟨#[]⟩, .int .i64 0] : Value).cells n ++ Builtin.zeroCells (.agg #[.string ⟨#[]⟩, .int .i64 0] : Value).cells (G - n)) 139))
    obtain ⟨Z, hZ⟩ : ∃ Z, w.drew.alloc (.cells (([] : List Value).toArray ++ Builtin.zeroCells (.agg #[.string ⟨#[]⟩, .int .i64 0] : Value).cells n ++ Builtin.zeroCells (.agg #[.string ⟨#[]⟩, .int .i64 0] : Value).cells (G - n)) 139) = Z := ⟨_, rfl⟩
    rw [hZ] at hrz hown hB
    clear hZ hG
    go_enter Tryz.func255, Tryz.ntmps255
    go_wp2_with (at_builtin; refine Lib.wpList_append_run _ rfl _ _ _ _ rfl _ _ rfl rfl _ _ (hrz _) ?_)
    go_ret
    exact ⟨_, rfl, hown.out, hB.out⟩
set_option maxRecDepth 20000 in
set_option maxHeartbeats 1600000 in
theorem concatW_any (A : Option Addr) (m c N : Nat) (vs : List Value) (ps : List (List Value)) (w : World) (hV : SR w w.heap.size A m vs) (hP : PartsK w w.heap.size 2 vs ps) (hl : ps.length = m) (hT : ps.flatten.length = N * 2) (hN : N ≤ 1048576) (hm : m ≤ 1048576) :
    Calls Tryz.prog 239 #[.slice A m c] w fun e w' => ∃ v, e = .returned v ∧ w'.ownsRow w.heap.size 139 2 v N ps.flatten ∧ Below w.heap.size w w' := by
  obtain ⟨i0, hi, hz0, hz1, hz2⟩ := info_parts wire_info
  have HI := Lib.hid (And.intro hi (And.intro hz0 (And.intro hz1 hz2)))
  have HP := Lib.hid hP
  have HV := Lib.hid hV
  have CG := growW_any N w hN
  have HF : Hid ((ps.take m).flatten = ps.flatten) := Lib.hid (by rw [← hl, List.take_length])
  have HT := Lib.hid hT
  clear hi hz0 hz1 hz2 hP hV hT
  go_enter Tryz.func239, Tryz.ntmps239
  go_wp2_with fail
  go_loopw [3, 11] (fun z i wr => ∃ (k T : Nat), k ≤ m ∧ i = .int .i64 k ∧ z = .int .i64 (T : Nat) ∧ (ps.take k).flatten.length = T * 2 ∧ w = wr) (fun _ i _ => m - (intOf i).toNat)
  case atStart => exact ⟨0, 0, Nat.zero_le _, rfl, rfl, by simp, rfl⟩
  case round =>
    obtain ⟨k, T, hk, rfl, rfl, hTT, rfl⟩ := hrel
    have HTT := Lib.hid hTT
    clear hTT
    by_cases hlt : k < m
    · obtain ⟨b, off, v, rfl, hb, hx, hc⟩ := HV.out.get hlt
      obtain ⟨xs, Ax, nx, cx, hpk, rfl, hs, h0, h1⟩ := HP.out k v hx
      have HFn : Hid ((ps.take (k + 1)).flatten.length = (T + nx) * 2) := Lib.hid (by rw [flat_snoc hpk, List.length_append, hs.1, HTT.out]; omega)
      have hle : T + nx ≤ N := by
        have h1 := flat_le ps (k + 1)
        rw [HFn.out, HT.out] at h1
        omega
      have hw1 : wrap64 ((T : Int) + (nx : Int)) = ((T + nx : Nat) : Int) := by unfold wrap64; omega
      clear hs hpk hx h0 h1
      go_wp2_with fail
      go_roundw
      case rel => exact ⟨k + 1, T + nx, by omega, by go_num, by go_num, HFn.out, by first | trivial | rfl⟩
      case measure => simp [intOf]; omega
    · obtain rfl : m = k := by omega
      obtain rfl : T = N := by
        have h1 := HTT.out
        rw [HF.out, HT.out] at h1
        omega
      go_wp2_with fail
      refine CG.mono ?_
      rintro e w1 ⟨v1, rfl, hown, hb⟩
      have HOwn := Lib.hid hown
      have HB1 := Lib.hid hb
      clear CG hown hb
      go_wp2_with fail
      go_loopw [6, 27] (fun v i wr => ∃ (k S : Nat), k ≤ m ∧ i = .int .i64 k ∧ wr.ownsRow w.heap.size 139 2 v S (ps.take k).flatten ∧ (ps.take k).flatten.length = S * 2 ∧ Below w.heap.size w wr) (fun _ i _ => m - (intOf i).toNat)
      case atStart => exact ⟨0, 0, Nat.zero_le _, rfl, HOwn.out, by simp, HB1.out⟩
      case round =>
        obtain ⟨k, S, hk, rfl, hown, hSS, hbel⟩ := hrel
        have HSS := Lib.hid hSS
        clear hSS
        by_cases hlt : k < m
        · obtain ⟨b, off, v, rfl, hb, hx, hc⟩ := HV.out.get hlt
          obtain ⟨xs, Ax, nx, cx, hpk, rfl, hs, h0, h1⟩ := HP.out k v hx
          have hcc := (hbel.cell (p := ⟨b, off + k, none⟩) hb).trans hc
          have HFl : Hid ((ps.take (k + 1)).flatten.length = (S + nx) * 2) := Lib.hid (by rw [flat_snoc hpk, List.length_append, hs.1, HSS.out]; omega)
          have hle : S + nx ≤ T := by
            have h1 := flat_le ps (k + 1)
            rw [HFl.out, HT.out] at h1
            omega
          have hsn := hs.1
          have HFn : Hid ((ps.take (k + 1)).flatten = (ps.take k).flatten ++ xs) := Lib.hid (flat_snoc hpk)
          obtain ⟨F, hF⟩ : ∃ F, (ps.take k).flatten = F := ⟨_, rfl⟩
          rw [hF] at HFn hown
          have hsz := hbel.size
          have hblt := hown.lt
          have hs' := hs.below hbel
          clear hF hpk hx hc
          cases Ax with
          | none =>
            obtain rfl : cx = 0 := h0 rfl
            obtain rfl : nx = 0 := by
              by_cases e : nx = 0
              · exact e
              · obtain ⟨b2, off2, e2, _⟩ := hs.2 (by omega)
                cases e2
            have hx0 : xs = [] := List.length_eq_zero_iff.1 (by omega)
            subst hx0
            rw [List.append_nil] at HFn
            have HOw := Lib.hid hown
            go_wp2_with (at_builtin; refine wpList_append_own_none rfl _ _ 34 rfl w.heap.size 139 i0 2 Tryz.underlying34 HI.out.1 _ S F rfl HOw.out rfl ?_; clear hown)
            go_roundw
            case rel => exact ⟨k + 1, S, by omega, by go_num, by rw [HFn.out]; exact HOw.out, by rw [HFl.out]; omega, hbel⟩
            case measure => simp [intOf]; omega
          | some Ax =>
            have hce := sr_cells hs'
            go_wp2_with (at_builtin; refine wpList_append_own _ rfl _ _ 34 rfl w.heap.size 139 i0 (.agg #[.string ⟨#[]⟩, .int .i64 0]) 2 24 Tryz.underlying34 HI.out.1 HI.out.2.1 HI.out.2.2.1 HI.out.2.2.2 rfl (by decide) _ _ _ rfl hown Ax nx cx xs rfl hsn hce h1 (by unfold maxLen; omega) (by omega) hsz ?_; intro v1 w5 hown1 hgrow1 hnil1; have hb1 := Lib.hid (hbel.grown hgrow1 hsz (fun j hj => (hblt j hj).1)); have HOw := Lib.hid hown1; clear hown1 hgrow1 hnil1 hown hbel)
            go_roundw
            case rel => exact ⟨k + 1, S + nx, by omega, by go_num, by rw [HFn.out]; exact HOw.out, HFl.out, hb1.out⟩
            case measure => simp [intOf]; omega
        · obtain rfl : m = k := by omega
          obtain rfl : S = T := by
            have h1 := HSS.out
            rw [HF.out, HT.out] at h1
            omega
          rw [HF.out] at hown
          have HOw := Lib.hid hown
          have HBl := Lib.hid hbel
          clear hown hbel
          go_wp2_with fail
          go_ret
          exact ⟨_, rfl, HOw.out, HBl.out⟩
set_option maxRecDepth 20000 in
set_option maxHeartbeats 800000 in
theorem growN_any (n : Nat) (w : World) (hn : n ≤ 1048576) :
    Calls Tryz.prog 232 #[.slice none 0 0, .int .i64 n] w fun e w' => ∃ v, e = .returned v ∧ w'.ownsRow w.heap.size 137 3 v 0 [] ∧ Below w.heap.size w w' := by
  obtain ⟨i0, hi, hz0, hz1, hz2⟩ := info_parts node_info
  by_cases h0 : n = 0
  · subst h0
    go_enter Tryz.func232, Tryz.ntmps232
    go_wp2_with fail
    go_ret
    exact ⟨_, rfl, World.ownsRow_nil _ _ _ _, Below.refl _ _⟩
  · have hrz : ∀ ty, (Builtin.append_ #[33, 3] ty #[.slice none 0 0, .int .i64 n]).run Tryz.prog w = .ok (.slice (some ⟨w.heap.size, 0, none⟩) n (grownCap w n 0 137)) (w.drew.alloc (.cells (([] : List Value).toArray ++ Builtin.zeroCells (.agg #[.int .i64 0, .int .i64 0, .slice none 0 0] : Value).cells n ++ Builtin.zeroCells (.agg #[.int .i64 0, .int .i64 0, .slice none 0 0] : Value).cells (grownCap w n 0 137 - n)) 137)) := fun ty => by
      have h := Lib.run_append_grow_zeros (P := Tryz.prog) w 33 3 ty 137 i0 (.agg #[.int .i64 0, .int .i64 0, .slice none 0 0]) .i64 .i64 Tryz.underlying33 (by kernel_rfl) hi hz0 none 0 0 [] (run_firstCells_none w.drew i0.size 0 0 0) n (by omega) (by rw [hz1]; decide) (by omega) (by omega) (by rw [hz2]; omega) (growslice_fits (by omega) (by rw [hz2]; omega))
      rw [Nat.zero_add] at h
      exact h
    have hGn : n ≤ grownCap w n 0 137 := grownCap_ge w _ _ _
    have hGm := grownCap_le_maxLen w n 0 137 (by unfold maxLen; omega)
    obtain ⟨G, hG⟩ : ∃ G, grownCap w n 0 137 = G := ⟨_, rfl⟩
    rw [hG] at hrz hGn hGm
    have hG63 : G ≤ 9223372036854775807 := by unfold maxLen at hGm; omega
    have hown := Lib.hid (World.ownsRow_made (base := w.heap.size) (e := 137) (size := 3) w.drew (([] : List Value).toArray ++ Builtin.zeroCells (.agg #[.int .i64 0, .int .i64 0, .slice none 0 0] : Value).cells n ++ Builtin.zeroCells (.agg #[.int .i64 0, .int .i64 0, .slice none 0 0] : Value).cells (G - n)) G (Nat.le_of_eq (by rfl)) hGm (by simp [size_zeroCells, Value.cells]; omega))
    have hB := Lib.hid ((Below.refl w.heap.size w).drew.alloc (Nat.le_of_eq (by rfl)) (.cells (([] : List Value).toArray ++ Builtin.zeroCells (.agg #[.int .i64 0, .int .i64 0, .slice none 0 0] : Value).cells n ++ Builtin.zeroCells (.agg #[.int .i64 0, .int .i64 0, .slice none 0 0] : Value).cells (G - n)) 137))
    obtain ⟨Z, hZ⟩ : ∃ Z, w.drew.alloc (.cells (([] : List Value).toArray ++ Builtin.zeroCells (.agg #[.int .i64 0, .int .i64 0, .slice none 0 0] : Value).cells n ++ Builtin.zeroCells (.agg #[.int .i64 0, .int .i64 0, .slice none 0 0] : Value).cells (G - n)) 137) = Z := ⟨_, rfl⟩
    rw [hZ] at hrz hown hB
    clear hZ hG
    go_enter Tryz.func232, Tryz.ntmps232
    go_wp2_with (at_builtin; refine Lib.wpList_append_run _ rfl _ _ _ _ rfl _ _ rfl rfl _ _ (hrz _) ?_)
    go_ret
    exact ⟨_, rfl, hown.out, hB.out⟩
set_option maxRecDepth 20000 in
set_option maxHeartbeats 1600000 in
theorem concatN_any (A : Option Addr) (m c N : Nat) (vs : List Value) (ps : List (List Value)) (w : World) (hV : SR w w.heap.size A m vs) (hP : PartsK w w.heap.size 3 vs ps) (hl : ps.length = m) (hT : ps.flatten.length = N * 3) (hN : N ≤ 1048576) (hm : m ≤ 1048576) :
    Calls Tryz.prog 182 #[.slice A m c] w fun e w' => ∃ v, e = .returned v ∧ w'.ownsRow w.heap.size 137 3 v N ps.flatten ∧ Below w.heap.size w w' := by
  obtain ⟨i0, hi, hz0, hz1, hz2⟩ := info_parts node_info
  have HI := Lib.hid (And.intro hi (And.intro hz0 (And.intro hz1 hz2)))
  have HP := Lib.hid hP
  have HV := Lib.hid hV
  have CG := growN_any N w hN
  have HF : Hid ((ps.take m).flatten = ps.flatten) := Lib.hid (by rw [← hl, List.take_length])
  have HT := Lib.hid hT
  clear hi hz0 hz1 hz2 hP hV hT
  go_enter Tryz.func182, Tryz.ntmps182
  go_wp2_with fail
  go_loopw [3, 11] (fun z i wr => ∃ (k T : Nat), k ≤ m ∧ i = .int .i64 k ∧ z = .int .i64 (T : Nat) ∧ (ps.take k).flatten.length = T * 3 ∧ w = wr) (fun _ i _ => m - (intOf i).toNat)
  case atStart => exact ⟨0, 0, Nat.zero_le _, rfl, rfl, by simp, rfl⟩
  case round =>
    obtain ⟨k, T, hk, rfl, rfl, hTT, rfl⟩ := hrel
    have HTT := Lib.hid hTT
    clear hTT
    by_cases hlt : k < m
    · obtain ⟨b, off, v, rfl, hb, hx, hc⟩ := HV.out.get hlt
      obtain ⟨xs, Ax, nx, cx, hpk, rfl, hs, h0, h1⟩ := HP.out k v hx
      have HFn : Hid ((ps.take (k + 1)).flatten.length = (T + nx) * 3) := Lib.hid (by rw [flat_snoc hpk, List.length_append, hs.1, HTT.out]; omega)
      have hle : T + nx ≤ N := by
        have h1 := flat_le ps (k + 1)
        rw [HFn.out, HT.out] at h1
        omega
      have hw1 : wrap64 ((T : Int) + (nx : Int)) = ((T + nx : Nat) : Int) := by unfold wrap64; omega
      clear hs hpk hx h0 h1
      go_wp2_with fail
      go_roundw
      case rel => exact ⟨k + 1, T + nx, by omega, by go_num, by go_num, HFn.out, by first | trivial | rfl⟩
      case measure => simp [intOf]; omega
    · obtain rfl : m = k := by omega
      obtain rfl : T = N := by
        have h1 := HTT.out
        rw [HF.out, HT.out] at h1
        omega
      go_wp2_with fail
      refine CG.mono ?_
      rintro e w1 ⟨v1, rfl, hown, hb⟩
      have HOwn := Lib.hid hown
      have HB1 := Lib.hid hb
      clear CG hown hb
      go_wp2_with fail
      go_loopw [6, 27] (fun v i wr => ∃ (k S : Nat), k ≤ m ∧ i = .int .i64 k ∧ wr.ownsRow w.heap.size 137 3 v S (ps.take k).flatten ∧ (ps.take k).flatten.length = S * 3 ∧ Below w.heap.size w wr) (fun _ i _ => m - (intOf i).toNat)
      case atStart => exact ⟨0, 0, Nat.zero_le _, rfl, HOwn.out, by simp, HB1.out⟩
      case round =>
        obtain ⟨k, S, hk, rfl, hown, hSS, hbel⟩ := hrel
        have HSS := Lib.hid hSS
        clear hSS
        by_cases hlt : k < m
        · obtain ⟨b, off, v, rfl, hb, hx, hc⟩ := HV.out.get hlt
          obtain ⟨xs, Ax, nx, cx, hpk, rfl, hs, h0, h1⟩ := HP.out k v hx
          have hcc := (hbel.cell (p := ⟨b, off + k, none⟩) hb).trans hc
          have HFl : Hid ((ps.take (k + 1)).flatten.length = (S + nx) * 3) := Lib.hid (by rw [flat_snoc hpk, List.length_append, hs.1, HSS.out]; omega)
          have hle : S + nx ≤ T := by
            have h1 := flat_le ps (k + 1)
            rw [HFl.out, HT.out] at h1
            omega
          have hsn := hs.1
          have HFn : Hid ((ps.take (k + 1)).flatten = (ps.take k).flatten ++ xs) := Lib.hid (flat_snoc hpk)
          obtain ⟨F, hF⟩ : ∃ F, (ps.take k).flatten = F := ⟨_, rfl⟩
          rw [hF] at HFn hown
          have hsz := hbel.size
          have hblt := hown.lt
          have hs' := hs.below hbel
          clear hF hpk hx hc
          cases Ax with
          | none =>
            obtain rfl : cx = 0 := h0 rfl
            obtain rfl : nx = 0 := by
              by_cases e : nx = 0
              · exact e
              · obtain ⟨b2, off2, e2, _⟩ := hs.2 (by omega)
                cases e2
            have hx0 : xs = [] := List.length_eq_zero_iff.1 (by omega)
            subst hx0
            rw [List.append_nil] at HFn
            have HOw := Lib.hid hown
            go_wp2_with (at_builtin; refine wpList_append_own_none rfl _ _ 33 rfl w.heap.size 137 i0 3 Tryz.underlying33 HI.out.1 _ S F rfl HOw.out rfl ?_; clear hown)
            go_roundw
            case rel => exact ⟨k + 1, S, by omega, by go_num, by rw [HFn.out]; exact HOw.out, by rw [HFl.out]; omega, hbel⟩
            case measure => simp [intOf]; omega
          | some Ax =>
            have hce := sr_cells hs'
            go_wp2_with (at_builtin; refine wpList_append_own _ rfl _ _ 33 rfl w.heap.size 137 i0 (.agg #[.int .i64 0, .int .i64 0, .slice none 0 0]) 3 40 Tryz.underlying33 HI.out.1 HI.out.2.1 HI.out.2.2.1 HI.out.2.2.2 rfl (by decide) _ _ _ rfl hown Ax nx cx xs rfl hsn hce h1 (by unfold maxLen; omega) (by omega) hsz ?_; intro v1 w5 hown1 hgrow1 hnil1; have hb1 := Lib.hid (hbel.grown hgrow1 hsz (fun j hj => (hblt j hj).1)); have HOw := Lib.hid hown1; clear hown1 hgrow1 hnil1 hown hbel)
            go_roundw
            case rel => exact ⟨k + 1, S + nx, by omega, by go_num, by rw [HFn.out]; exact HOw.out, HFl.out, hb1.out⟩
            case measure => simp [intOf]; omega
        · obtain rfl : m = k := by omega
          obtain rfl : S = T := by
            have h1 := HSS.out
            rw [HF.out, HT.out] at h1
            omega
          rw [HF.out] at hown
          have HOw := Lib.hid hown
          have HBl := Lib.hid hbel
          clear hown hbel
          go_wp2_with fail
          go_ret
          exact ⟨_, rfl, HOw.out, HBl.out⟩
end Go.Proofs.YtfjgapkjpmkplaaGreat.cg
end
section
namespace Go.Proofs.YtfjgapkjpmkplaaGreat.ek
open kit bg sg opn strs only hb sig isig un over gn nm inn ht gd im pt marks eqs hc hi hw hn rs br bm bw cf lf ib lw cl pl mb sb wb
open Go.RowKit
set_option linter.unusedVariables false
def seqF (z : Int) (n : Nat) : List Int := (List.range n).map (fun (i : Nat) => z + i)
def rtsF (z : Int) (n : Nat) : List Int := (List.range n).map (fun (i : Nat) => -1 - z - i)
theorem seq_snoc (z : Int) (n : Nat) : seqF z (n + 1) = seqF z n ++ [z + n] := by unfold seqF; rw [List.range_succ, List.map_append]; rfl
theorem rts_snoc (z : Int) (n : Nat) : rtsF z (n + 1) = rtsF z n ++ [-1 - z - n] := by unfold rtsF; rw [List.range_succ, List.map_append]; rfl
theorem seq_len (z : Int) (n : Nat) : (seqF z n).length = n := by unfold seqF; simp
theorem rts_len (z : Int) (n : Nat) : (rtsF z n).length = n := by unfold rtsF; simp
theorem seq_get {z : Int} {n i : Nat} (h : i < n) : (seqF z n)[i]? = some (z + i) := by unfold seqF; rw [List.getElem?_map, List.getElem?_range h]; rfl
theorem rts_get {z : Int} {n i : Nat} (h : i < n) : (rtsF z n)[i]? = some (-1 - z - i) := by unfold rtsF; rw [List.getElem?_map, List.getElem?_range h]; rfl
theorem row_grown {w w' : World} {lo hi n c sz base sz2 m : Nat} {t e : TypeId} {A : Option Addr} {M : Nat → Value} {v : Value} {xs : List Value} (h : RowR w lo hi t sz A n c M) (ho : w.ownsRow base e sz2 v m xs) (hg : w.grownBy w' v.ownBlock) (ht : t ≠ e) : RowR w' lo hi t sz A n c M := by
  rcases h with h0 | ⟨g, f, e1, h1, h2, h3, h4, h5⟩
  · exact .inl h0
  · refine .inr ⟨g, f, e1, h1, h2, h3, h4.of_block (hg.block g h4.lt ?_), h5⟩
    intro e2
    obtain ⟨_, ⟨rfl, rfl⟩ | ⟨g', cap, cur, rfl, hb, hh, -⟩⟩ := ho
    · simp [Value.ownBlock] at e2
    · simp [Value.ownBlock] at e2
      subst e2
      obtain ⟨arr, ha, -⟩ := h4
      rw [ha] at hh
      injection hh with hh
      injection hh with _ hh
      exact ht hh
set_option maxHeartbeats 1600000 in
theorem edg_any (z : Int) (n : Nat) (w : World) (hz : -1000 ≤ z ∧ z ≤ 1000) (hn : n ≤ 100) :
    Calls Tryz.prog 194 #[.int .i64 z, .int .i64 (n : Int)] w fun e w' => ∃ v, e = .returned v ∧ w'.ownsRow w.heap.size 3 1 v n ((seqF z n).map (Value.int .i64)) ∧ Below w.heap.size w w' := by
  obtain ⟨i0, hi, hz0, hz1, hz2⟩ := info_parts int_info
  have HI := Lib.hid (And.intro hi (And.intro hz0 (And.intro hz1 hz2)))
  obtain ⟨hzl, hzu⟩ := hz
  clear hi hz0 hz1 hz2
  go_enter Tryz.func194, Tryz.ntmps194
  go_wp2_with fail
  go_loopw [5, 6] (fun v i wr => ∃ k : Nat, k ≤ n ∧ i = .int .i64 k ∧ wr.ownsRow w.heap.size 3 1 v k ((seqF z k).map (Value.int .i64)) ∧ Below w.heap.size w wr) (fun _ i _ => n - (intOf i).toNat)
  case atStart => exact ⟨0, Nat.zero_le _, rfl, by
      have := ownsRow_nil_new w 3 1 w.heap.size (Nat.le_refl _)
      simpa [seqF] using this, (Below.refl _ _).alloc (Nat.le_refl _) _⟩
  case round =>
    obtain ⟨k, hk, rfl, hown, hbel⟩ := hrel
    have hsz := hbel.size
    by_cases hlt : k < n
    · obtain ⟨D, hD⟩ : ∃ D, (seqF z k).map (Value.int .i64) = D := ⟨_, rfl⟩
      have HT := Lib.hid (show (seqF z (k + 1)).map (Value.int .i64) = D ++ [.int .i64 (z + (k : Int))] by rw [seq_snoc, List.map_append, hD]; rfl)
      rw [hD] at hown
      clear hD
      go_wp2_with (at_builtin; refine wpList_append_own _ rfl _ _ 24 rfl w.heap.size 3 i0 (.int .i64 0) 1 8 Tryz.underlying24 HI.out.1 HI.out.2.1 HI.out.2.2.1 HI.out.2.2.2 rfl (by decide) _ _ _ rfl (hown.alloc _) ⟨wr.heap.size, 0, none⟩ 1 1 [.int .i64 (z + (k : Int))] rfl rfl (cell_one_new _ _ _) (fun x hx => by simp at hx; subst hx; rfl) (by unfold maxLen; omega) (by omega) (by simp; omega) ?_; intro v1 w1 hown1 hgrow1 hnil1)
      have hb1 := Lib.hid ((hbel.alloc (by omega) (.cells #[.int .i64 (z + (k : Int))] 3)).grown hgrow1 (by simp; omega) (fun j hj => (hown.lt j hj).1))
      have HOwn := Lib.hid hown1
      clear hown1 hgrow1 hnil1 hown
      go_wp2_with fail
      go_roundw
      case rel => exact ⟨k + 1, by omega, by go_num, by rw [HT.out]; exact HOwn.out, hb1.out⟩
      case measure => simp [intOf]; omega
    · obtain rfl : n = k := by omega
      have HO := Lib.hid hown
      clear hown
      go_wp2_with fail
      go_ret
      exact ⟨_, rfl, HO.out, hbel⟩
set_option maxHeartbeats 1600000 in
theorem rts_any (z : Int) (n : Nat) (w : World) (hz : -1000 ≤ z ∧ z ≤ 1000) (hn : n ≤ 100) :
    Calls Tryz.prog 196 #[.int .i64 z, .int .i64 (n : Int)] w fun e w' => ∃ v, e = .returned v ∧ w'.ownsRow w.heap.size 3 1 v n ((rtsF z n).map (Value.int .i64)) ∧ Below w.heap.size w w' := by
  obtain ⟨i0, hi, hz0, hz1, hz2⟩ := info_parts int_info
  have HI := Lib.hid (And.intro hi (And.intro hz0 (And.intro hz1 hz2)))
  obtain ⟨hzl, hzu⟩ := hz
  clear hi hz0 hz1 hz2
  go_enter Tryz.func196, Tryz.ntmps196
  go_wp2_with fail
  go_loopw [5, 6] (fun v i wr => ∃ k : Nat, k ≤ n ∧ i = .int .i64 k ∧ wr.ownsRow w.heap.size 3 1 v k ((rtsF z k).map (Value.int .i64)) ∧ Below w.heap.size w wr) (fun _ i _ => n - (intOf i).toNat)
  case atStart => exact ⟨0, Nat.zero_le _, rfl, by
      have := ownsRow_nil_new w 3 1 w.heap.size (Nat.le_refl _)
      simpa [rtsF] using this, (Below.refl _ _).alloc (Nat.le_refl _) _⟩
  case round =>
    obtain ⟨k, hk, rfl, hown, hbel⟩ := hrel
    have hsz := hbel.size
    by_cases hlt : k < n
    · obtain ⟨D, hD⟩ : ∃ D, (rtsF z k).map (Value.int .i64) = D := ⟨_, rfl⟩
      have HT := Lib.hid (show (rtsF z (k + 1)).map (Value.int .i64) = D ++ [.int .i64 (-1 - z - (k : Int))] by rw [rts_snoc, List.map_append, hD]; rfl)
      rw [hD] at hown
      clear hD
      go_wp2_with (at_builtin; refine wpList_append_own _ rfl _ _ 24 rfl w.heap.size 3 i0 (.int .i64 0) 1 8 Tryz.underlying24 HI.out.1 HI.out.2.1 HI.out.2.2.1 HI.out.2.2.2 rfl (by decide) _ _ _ rfl (hown.alloc _) ⟨wr.heap.size, 0, none⟩ 1 1 [.int .i64 (-1 - z - (k : Int))] rfl rfl (cell_one_new _ _ _) (fun x hx => by simp at hx; subst hx; rfl) (by unfold maxLen; omega) (by omega) (by simp; omega) ?_; intro v1 w1 hown1 hgrow1 hnil1)
      have hb1 := Lib.hid ((hbel.alloc (by omega) (.cells #[.int .i64 (-1 - z - (k : Int))] 3)).grown hgrow1 (by simp; omega) (fun j hj => (hown.lt j hj).1))
      have HOwn := Lib.hid hown1
      clear hown1 hgrow1 hnil1 hown
      go_wp2_with fail
      go_roundw
      case rel => exact ⟨k + 1, by omega, by go_num, by rw [HT.out]; exact HOwn.out, hb1.out⟩
      case measure => simp [intOf]; omega
    · obtain rfl : n = k := by omega
      have HO := Lib.hid hown
      clear hown
      go_wp2_with fail
      go_ret
      exact ⟨_, rfl, HO.out, hbel⟩
end Go.Proofs.YtfjgapkjpmkplaaGreat.ek
end
section
namespace Go.Proofs.YtfjgapkjpmkplaaGreat.wk
open kit bg sg opn strs only hb sig isig un over gn nm inn ht gd im pt marks eqs hc hi hw hn rs br bm bw cf lf ib lw cl pl mb sb wb ek rn tp
open Go.RowKit
set_option linter.unusedVariables false
set_option linter.unusedSimpArgs false
def lkF (lks : List Int) (l : Int) : Int := (lks[l.toNat]?).getD 0
theorem lkF_get {lks : List Int} {l : Nat} {z : Int} (h : lks[l]? = some z) : lkF lks l = z := by unfold lkF; rw [Int.toNat_natCast, h]; rfl
def wrK (b : Big) (lks : List Int) : List Wr := b.inner.map (fun x => ⟨x.name, lkF lks x.link⟩)
set_option maxRecDepth 20000 in
set_option maxHeartbeats 3200000 in
theorem wrk_any (v : Value) (b : Big) (Ak : Option Addr) (nk ck : Nat) (lks : List Int) (w : World) (hv : BigAt w w.heap.size v b) (hk : IntsAt w w.heap.size Ak nk lks) (hnk : nk ≤ 1048576) (hn : b.inner.length ≤ 16) (hl : ∀ x ∈ b.inner, 0 ≤ x.link ∧ x.link < nk) :
    Calls Tryz.prog 200 #[v, .slice Ak nk ck] w fun e w' => ∃ A' c', e = .returned (.slice A' b.inner.length c') ∧ RowR w' w.heap.size w'.heap.size 139 2 A' b.inner.length c' (wic (wrK b lks)) ∧ Below w.heap.size w w' := by
  obtain ⟨A1, n1, c1, A2, n2, c2, A4, n4, c4, A5, n5, c5, rfl, h1, h2, h4, h5⟩ := hv
  have hl5 : b.inner.length = n5 := h5.1
  have HL5 := Lib.hid hl5
  rw [hl5] at hn ⊢
  have HBox0 : Hid (BoxAt (w.alloc (.cells #[.int .i64 b.roots, .slice A1 n1 c1, .slice A2 n2 c2, .int .i64 b.edges, .slice A4 n4 c4, .slice A5 n5 c5] 36)) w.heap.size 36 (.int .i64 b.roots) (.slice A1 n1 c1) (.slice A2 n2 c2) (.int .i64 b.edges) (.slice A4 n4 c4) (.slice A5 n5 c5)) := Lib.hid (six_new w _ _ _ _ _ _ _)
  have hb0 := (Below.refl w.heap.size w).alloc (Nat.le_refl _) (.cells #[.int .i64 b.roots, .slice A1 n1 c1, .slice A2 n2 c2, .int .i64 b.edges, .slice A4 n4 c4, .slice A5 n5 c5] 36)
  obtain ⟨U, hU⟩ : ∃ U, w.alloc (.cells #[.int .i64 b.roots, .slice A1 n1 c1, .slice A2 n2 c2, .int .i64 b.edges, .slice A4 n4 c4, .slice A5 n5 c5] 36) = U := ⟨_, rfl⟩
  have hUz : U.heap.size = w.heap.size + 1 := by rw [← hU]; simp
  rw [hU] at HBox0 hb0
  have HUq := Lib.hid hU
  have HB0 := Lib.hid hb0
  obtain ⟨i2, hi, hz0, hz1, hz2⟩ := info_parts wire_info
  have HI2 := Lib.hid (And.intro hi (And.intro hz0 (And.intro hz1 hz2)))
  have HOt := Lib.hid (ownsRow_nil_new U 139 2 U.heap.size (Nat.le_refl _))
  rw [hUz] at HOt
  have HbV := Lib.hid ((Below.refl U.heap.size U).alloc (Nat.le_refl _) (.cells #[] 139))
  have HLk := Lib.hid hl
  have HK := Lib.hid hk
  have HWl : Hid ((wrK b lks).length = n5) := Lib.hid (by unfold wrK; rw [List.length_map]; exact hl5)
  clear hb0 hU hi hz0 hz1 hz2 hl hk hl5
  go_enter Tryz.func200, Tryz.ntmps200
  go_wp2_with fail
  rw [HUq.out]
  have hWs : w.heap.size < U.heap.size := by omega
  clear HUq
  go_loopw [5, 6] (fun l i wr => ∃ (k : Nat) (v : Value), k ≤ n5 ∧ i = .int .i64 k ∧ v = l ∧ wr.ownsRow (w.heap.size + 1) 139 2 v k (wcs ((wrK b lks).take k)) ∧ Below U.heap.size U wr) (fun _ i _ => n5 - (intOf i).toNat)
  case atStart => exact ⟨0, _, Nat.zero_le _, rfl, rfl, HOt.out, HbV.out⟩
  case round =>
    obtain ⟨k, v, hk, rfl, rfl, hown, hbel⟩ := hrel
    have hbw := HB0.out.trans (hbel.mono HB0.out.size)
    have hwU := hbel.size
    obtain ⟨x0, x1, x2, x3, x4, x5⟩ := (HBox0.out.below hbel hWs).get
    by_cases hlt : k < n5
    · obtain ⟨bs, offs, z, rfl, hbs, hz, cz0, cz1⟩ := h5.get hlt
      have hzl := HLk.out z (List.mem_of_getElem? hz)
      obtain ⟨zn, zl⟩ := z
      dsimp only at hzl cz0 cz1
      obtain ⟨li, rfl⟩ : ∃ li : Nat, zl = li := ⟨zl.toNat, by omega⟩
      have hlin : li < nk := by omega
      obtain ⟨bk, ok, T, rfl, hbk, hT, ct⟩ := HK.out.get hlin
      have HTk2 : Hid (wcs ((wrK b lks).take (k + 1)) = wcs ((wrK b lks).take k) ++ [.string zn, .int .i64 T]) := Lib.hid (by
        have e : (wrK b lks)[k]? = some ⟨zn, T⟩ := by unfold wrK; rw [List.getElem?_map, hz]; show some (⟨zn, lkF lks (li : Int)⟩ : Wr) = _; rw [lkF_get hT]
        rw [List.take_add_one, e]
        exact wcs_snoc _ _)
      obtain ⟨D, hD⟩ : ∃ D, wcs ((wrK b lks).take k) = D := ⟨_, rfl⟩
      rw [hD] at hown HTk2
      have q0 := (hbw.cell (p := ⟨bs, offs + k * 2, none⟩) hbs).trans cz0
      have q1 := (hbw.cell (p := ⟨bs, offs + k * 2 + 1, none⟩) hbs).trans cz1
      have q2 := (hbw.cell (p := ⟨bk, ok + li, none⟩) hbk).trans ct
      have hwr := hbw.size
      have HBl := Lib.hid hbel
      have HS : Hid (∀ w', Below U.heap.size U w' → w'.cell? ⟨w.heap.size, 5, none⟩ = some (.slice (some ⟨bs, offs, none⟩) n5 c5) ∧ w'.cell? ⟨bs, offs + k * 2, none⟩ = some (.string zn) ∧ w'.cell? ⟨bs, offs + k * 2 + 1, none⟩ = some (.int .i64 (li : Int)) ∧ w'.cell? ⟨bk, ok + li, none⟩ = some (.int .i64 T)) := Lib.hid (fun w' hq => by
        have hqw := HB0.out.trans (hq.mono HB0.out.size)
        exact ⟨(HBox0.out.below hq hWs).get.2.2.2.2.2, (hqw.cell (p := ⟨bs, offs + k * 2, none⟩) hbs).trans cz0, (hqw.cell (p := ⟨bs, offs + k * 2 + 1, none⟩) hbs).trans cz1, (hqw.cell (p := ⟨bk, ok + li, none⟩) hbk).trans ct⟩)
      have e1 : k + 1 ≤ maxLen := by unfold maxLen; omega
      have e2 : (k + 1) * 24 ≤ 140737488355328 := by omega
      have e4' : ∀ u ∈ [Value.string zn, Value.int .i64 T], u.oneCell' = true := fun u hu => by
        simp at hu
        rcases hu with rfl | rfl <;> rfl
      have hkD := hbel.drew
      have hkW := ((Below.refl wr.heap.size wr).drew).alloc (Nat.le_refl _) (.cells #[.string zn, .int .i64 T] 139)
      have hkA := hkD.alloc hkD.size (.cells #[.string zn, .int .i64 T] 139)
      have HkA := Lib.hid hkA
      have HOA := Lib.hid (owns_on hown hkW)
      have e3 : w.heap.size + 1 ≤ (wr.drew.alloc (.cells #[.string zn, .int .i64 T] 139)).heap.size := by have := hkA.size; omega
      have HGr := Lib.hid (fun (w1 : World) (hg1 : (wr.drew.alloc (.cells #[.string zn, .int .i64 T] 139)).grownBy w1 v.ownBlock) => hkA.grown hg1 hkA.size (fun j hj => by have := (hown.lt j hj).1; omega))
      clear hz cz0 cz1 hT ct hown hD hkA hzl hkW
      go_wp2_with fail
      clear x0 x1 x2 x3 x4 x5 q0 q1 q2
      refine rh.go_begin 19 (fun w' => w'.cell? ⟨w.heap.size, 5, none⟩ = some (.slice (some ⟨bs, offs, none⟩) n5 c5) ∧ w'.cell? ⟨bs, offs + k * 2, none⟩ = some (.string zn) ∧ w'.cell? ⟨bs, offs + k * 2 + 1, none⟩ = some (.int .i64 (li : Int)) ∧ w'.cell? ⟨bk, ok + li, none⟩ = some (.int .i64 T)) (by kernel_rfl) ?_ (fun hHeld => ?_)
      · ((try dsimp only); exact HS.out _ (by go_grown))
      refine rh.go_take (i := 0) (v := ?v1) rfl (by kernel_rfl) (fun _ _ _ h => h) (Or.inl ⟨by rfl, ?hy1⟩) (by assumption) ?rest1
      case hy1 => (intro wS hSw; (try dsimp only at hSw); go_simp; try (with_reducible rfl))
      try simp only [Act.put, List.setIfInBounds_toArray, List.set_cons_zero, List.set_cons_succ]
      refine rh.go_take (i := 1) (v := ?v2) rfl (by kernel_rfl) (fun _ _ _ h => h) (Or.inl ⟨by rfl, ?hy2⟩) (by assumption) ?rest2
      case hy2 => (intro wS hSw; (try dsimp only at hSw); go_simp; try (with_reducible rfl))
      try simp only [Act.put, List.setIfInBounds_toArray, List.set_cons_zero, List.set_cons_succ]
      refine rh.go_take (i := 2) (v := ?v3) rfl (by kernel_rfl) (fun _ _ _ h => h) (Or.inl ⟨by rfl, ?hy3⟩) (by assumption) ?rest3
      case hy3 => (intro wS hSw; (try dsimp only at hSw); go_simp; try (with_reducible rfl))
      try simp only [Act.put, List.setIfInBounds_toArray, List.set_cons_zero, List.set_cons_succ]
      refine rh.go_take (i := 3) (v := ?v4) rfl (by kernel_rfl) (fun _ _ _ h => h) (Or.inl ⟨by rfl, ?hy4⟩) (by assumption) ?rest4
      case hy4 => (intro wS hSw; (try dsimp only at hSw); go_simp; try (with_reducible rfl))
      try simp only [Act.put, List.setIfInBounds_toArray, List.set_cons_zero, List.set_cons_succ]
      refine rh.go_take (i := 4) (v := ?v5) rfl (by kernel_rfl) (fun _ _ _ h => h) (Or.inl ⟨by rfl, ?hy5⟩) (by assumption) ?rest5
      case hy5 => (intro wS hSw; (try dsimp only at hSw); go_simp; try (with_reducible rfl))
      try simp only [Act.put, List.setIfInBounds_toArray, List.set_cons_zero, List.set_cons_succ]
      refine rh.go_take (i := 5) (v := ?v6) rfl (by kernel_rfl) (fun _ _ _ h => h) (Or.inl ⟨by rfl, ?hy6⟩) (by assumption) ?rest6
      case hy6 => (intro wS hSw; (try dsimp only at hSw); go_simp; try (with_reducible rfl))
      try simp only [Act.put, List.setIfInBounds_toArray, List.set_cons_zero, List.set_cons_succ]
      refine rh.go_take (i := 6) (v := ?v7) rfl (by kernel_rfl) (fun _ _ _ h => h) (Or.inl ⟨by rfl, ?hy7⟩) (by assumption) ?rest7
      case hy7 => (intro wS hSw; (try dsimp only at hSw); go_simp; try (with_reducible rfl))
      try simp only [Act.put, List.setIfInBounds_toArray, List.set_cons_zero, List.set_cons_succ]
      refine rh.go_take (i := 7) (v := ?v8) rfl (by kernel_rfl) (fun _ _ _ h => h) (Or.inl ⟨by rfl, ?hy8⟩) (by assumption) ?rest8
      case hy8 => (intro wS hSw; (try dsimp only at hSw); go_simp; try (with_reducible rfl))
      try simp only [Act.put, List.setIfInBounds_toArray, List.set_cons_zero, List.set_cons_succ]
      refine rh.go_take (i := 8) (v := ?v9) rfl (by kernel_rfl) (fun _ _ _ h => h) (Or.inl ⟨by rfl, ?hy9⟩) (by assumption) ?rest9
      case hy9 => (intro wS hSw; (try dsimp only at hSw); go_simp; try (with_reducible rfl))
      try simp only [Act.put, List.setIfInBounds_toArray, List.set_cons_zero, List.set_cons_succ]
      refine rh.go_take (i := 9) (v := ?v10) rfl (by kernel_rfl) (fun _ _ _ h => h) (Or.inl ⟨by rfl, ?hy10⟩) (by assumption) ?rest10
      case hy10 => (intro wS hSw; (try dsimp only at hSw); go_simp; try (with_reducible rfl))
      try simp only [Act.put, List.setIfInBounds_toArray, List.set_cons_zero, List.set_cons_succ]
      refine rh.go_take (i := 10) (v := ?v11) rfl (by kernel_rfl) (fun _ _ _ h => h) (Or.inl ⟨by rfl, ?hy11⟩) (by assumption) ?rest11
      case hy11 => (intro wS hSw; (try dsimp only at hSw); go_simp; try (with_reducible rfl))
      try simp only [Act.put, List.setIfInBounds_toArray, List.set_cons_zero, List.set_cons_succ]
      refine rh.go_take (i := 11) (v := ?v12) rfl (by kernel_rfl) (fun _ _ _ h => h) (Or.inl ⟨by rfl, ?hy12⟩) (by assumption) ?rest12
      case hy12 => (intro wS hSw; (try dsimp only at hSw); go_simp; try (with_reducible rfl))
      try simp only [Act.put, List.setIfInBounds_toArray, List.set_cons_zero, List.set_cons_succ]
      refine rh.go_take (i := 12) (v := ?v13) rfl (by kernel_rfl) (fun _ _ _ h => h) (Or.inl ⟨by rfl, ?hy13⟩) (by assumption) ?rest13
      case hy13 => (intro wS hSw; (try dsimp only at hSw); go_simp; try (with_reducible rfl))
      try simp only [Act.put, List.setIfInBounds_toArray, List.set_cons_zero, List.set_cons_succ]
      refine rh.go_take (i := 13) (v := ?v14) rfl (by kernel_rfl) (fun _ _ _ h => h) (Or.inl ⟨by rfl, ?hy14⟩) (by assumption) ?rest14
      case hy14 => (intro wS hSw; (try dsimp only at hSw); go_simp; try (with_reducible rfl))
      try simp only [Act.put, List.setIfInBounds_toArray, List.set_cons_zero, List.set_cons_succ]
      refine rh.go_take (i := 14) (v := ?v15) rfl (by kernel_rfl) (fun _ _ _ h => h) (Or.inl ⟨by rfl, ?hy15⟩) (by assumption) ?rest15
      case hy15 => (intro wS hSw; (try dsimp only at hSw); go_simp; try (with_reducible rfl))
      try simp only [Act.put, List.setIfInBounds_toArray, List.set_cons_zero, List.set_cons_succ]
      refine rh.go_take (i := 15) (v := ?v16) rfl (by kernel_rfl) (fun _ _ _ h => h) (Or.inl ⟨by rfl, ?hy16⟩) (by assumption) ?rest16
      case hy16 => (intro wS hSw; (try dsimp only at hSw); go_simp; try (with_reducible rfl))
      try simp only [Act.put, List.setIfInBounds_toArray, List.set_cons_zero, List.set_cons_succ]
      refine rh.go_take (i := 16) (v := ?v17) rfl (by kernel_rfl) (fun _ _ _ h => h) (Or.inl ⟨by rfl, ?hy17⟩) (by assumption) ?rest17
      case hy17 => (intro wS hSw; (try dsimp only at hSw); go_simp; try (with_reducible rfl))
      try simp only [Act.put, List.setIfInBounds_toArray, List.set_cons_zero, List.set_cons_succ]
      refine rh.go_next (i := 17) rfl (by kernel_rfl) (fun K2 hK => ?_)
      go_simp
      refine hK.out _ _ ?_ (fun hHeld => ?_)
      · ((try dsimp only); exact HS.out _ (by go_grown))
      clear hK K2
      try simp only [Act.put, List.setIfInBounds_toArray, List.set_cons_zero, List.set_cons_succ]
      refine rh.go_next (i := 18) rfl (by kernel_rfl) (fun K2 hK => ?_)
      (refine step_append_own rfl _ _ 34 rfl (w.heap.size + 1) 139 i2 (.agg #[.string ⟨#[]⟩, .int .i64 0]) 2 24 Tryz.underlying34 HI2.out.1 HI2.out.2.1 HI2.out.2.2.1 HI2.out.2.2.2 rfl (by decide) _ _ _ (by first | rfl | simp [Act.eval, Act.put]) HOA.out ⟨wr.drew.heap.size, 0, none⟩ 1 1 [.string zn, .int .i64 T] (by first | rfl | simp [Act.eval, Act.put]) rfl (cells_two_new wr.drew (.string zn) (.int .i64 T) 139) e4' e1 e2 e3 ?_; intro v1 w5 hown1 hgrow1 hnil1; have HOw5 := Lib.hid hown1; have hq5 := HGr.out _ hgrow1; clear hgrow1 hnil1 hown1; (try go_simp))
      refine hK.out _ _ ?_ (fun hHeld => ?_)
      · ((try dsimp only); exact HS.out _ (by go_grown))
      clear hK K2
      try simp only [Act.put, List.setIfInBounds_toArray, List.set_cons_zero, List.set_cons_succ]
      refine rh.go_last rfl (by kernel_rfl) (fun K2 hK => ?_)
      go_simp
      refine hK.out _ _ ?_
      refine NoPanic.normal ?_
      clear hK K2
      go_wp2_with fail
      go_roundw
      case rel => exact ⟨k + 1, _, by omega, by go_num, rfl, by rw [HTk2.out]; exact HOw5.out, hq5⟩
      case measure => simp [intOf]; omega
    · obtain rfl : n5 = k := by omega
      rw [List.take_of_length_le (by rw [HWl.out]; exact Nat.le_refl _)] at hown
      obtain ⟨A5o, c5o, rfl, hrs⟩ := wrs_owned hown
      rw [HWl.out] at hrs ⊢
      have HR := Lib.hid (hrs.wide (lo' := w.heap.size) (Nat.le_succ _) (Nat.le_refl _))
      have HBw := Lib.hid hbw
      clear hown hrs hbel hbw
      go_wp2_with fail
      go_ret
      exact ⟨_, _, rfl, HR.out, HBw.out⟩
end Go.Proofs.YtfjgapkjpmkplaaGreat.wk
end
section
namespace Go.Proofs.YtfjgapkjpmkplaaGreat.ix
open kit bg sg opn strs only hb sig inn ht marks eqs hc hi hw hn rs br bm bw cf lw
open Go.RowKit
set_option linter.unusedVariables false
open Classical in
noncomputable def ixF (ss : List ByteArray) (s : ByteArray) : Int := if ss.findIdx (fun y => decide (y = s)) < ss.length then (ss.findIdx (fun y => decide (y = s)) : Nat) else -1
open Classical in
theorem ixF_no {ss : List ByteArray} {s : ByteArray} (h : ∀ (j : Nat) u, ss[j]? = some u → u ≠ s) : ixF ss s = -1 := by
  unfold ixF
  rw [if_neg]
  intro hlt
  have h1 := List.findIdx_getElem (w := hlt)
  exact h _ _ (List.getElem?_eq_getElem hlt) (of_decide_eq_true h1)
open Classical in
theorem ixF_at {ss : List ByteArray} {s : ByteArray} {k : Nat} (hk : ss[k]? = some s) (h : ∀ (j : Nat) u, j < k → ss[j]? = some u → u ≠ s) : ixF ss s = k := by
  have hkl := (List.getElem?_eq_some_iff.1 hk).1
  have e : ss.findIdx (fun y => decide (y = s)) = k := by
    refine (List.findIdx_eq hkl).2 ⟨?_, fun j hj => ?_⟩
    · have := (List.getElem?_eq_some_iff.1 hk).2
      rw [this]
      exact decide_eq_true rfl
    · exact decide_eq_false (h j _ hj (List.getElem?_eq_getElem (by omega)))
  unfold ixF
  rw [e, if_pos hkl]
theorem ixF_cases (ss : List ByteArray) (s : ByteArray) : (ixF ss s = -1 ∧ s ∉ ss) ∨ ∃ k : Nat, ixF ss s = k ∧ ss[k]? = some s ∧ ∀ (j : Nat) u, j < k → ss[j]? = some u → u ≠ s := by
  by_cases h : s ∈ ss
  · right
    have hex : ∃ k : Nat, ss[k]? = some s := List.getElem?_of_mem h
    have key : ∀ n, (∃ k : Nat, k ≤ n ∧ ss[k]? = some s) → ∃ k : Nat, ss[k]? = some s ∧ ∀ (j : Nat) u, j < k → ss[j]? = some u → u ≠ s := by
      intro n
      induction n with
      | zero =>
        rintro ⟨k, hk, hs⟩
        exact ⟨k, hs, fun j u hj => by omega⟩
      | succ n ih =>
        rintro ⟨k, hk, hs⟩
        by_cases h2 : ∃ k : Nat, k ≤ n ∧ ss[k]? = some s
        · exact ih h2
        · refine ⟨k, hs, fun j u hj hu e => h2 ⟨j, by omega, ?_⟩⟩
          rw [hu, e]
    obtain ⟨k, hk⟩ := hex
    obtain ⟨k, hk, hm⟩ := key k ⟨k, Nat.le_refl _, hk⟩
    exact ⟨k, ixF_at hk hm, hk, hm⟩
  · exact .inl ⟨ixF_no (fun j u hu e => h (e ▸ List.mem_of_getElem? hu)), h⟩
theorem ixF_in (ss : List ByteArray) (s : ByteArray) : -1 ≤ ixF ss s ∧ ixF ss s < ss.length := by
  rcases ixF_cases ss s with ⟨h, _⟩ | ⟨k, h, hk, _⟩
  · rw [h]; omega
  · have := (List.getElem?_eq_some_iff.1 hk).1
    rw [h]; omega
set_option maxHeartbeats 800000 in
theorem l2At_any (A : Option Addr) (n c : Nat) (ss : List ByteArray) (s : ByteArray) (w : World) (B : Nat) (h : SR w B A n (ss.map Value.string)) (hn : n ≤ 1048576) :
    Calls Tryz.prog 119 #[.slice A n c, .string s] w fun e w' => e = .returned (.int .i64 (ixF ss s)) ∧ w = w' := by
  have HL := Lib.hid h.strlen
  go_enter Tryz.func119, Tryz.ntmps119
  go_wp2_with fail
  go_loopw [5] (fun i wr => ∃ k : Nat, k ≤ n ∧ i = .int .i64 k ∧ (∀ (j : Nat) u, j < k → ss[j]? = some u → u ≠ s) ∧ w = wr) (fun i _ => n - (intOf i).toNat)
  case atStart => exact ⟨0, Nat.zero_le _, rfl, fun j u hj => absurd hj (by omega), rfl⟩
  case round =>
    obtain ⟨k, hk, rfl, hno, rfl⟩ := hrel
    have HNo := Lib.hid hno
    clear hno
    by_cases hlt : k < n
    · obtain ⟨b, off, u, rfl, hb, hx, hc⟩ := h.str hlt
      cases heq : (u.toList == s.toList) with
      | true =>
        have HY := Lib.hid (ixF_at (by rw [hx]; first | rw [str_eq heq] | rw [← str_eq heq]) HNo.out)
        clear hx
        go_wp2_with fail
        go_ret
        exact ⟨by rw [HY.out]; rfl, rfl⟩
      | false =>
        have HN : Hid (∀ (j : Nat) v, j < k + 1 → ss[j]? = some v → v ≠ s) := Lib.hid fun j v hj hv => by
          by_cases e : j = k
          · subst e
            rw [hx] at hv
            injection hv with hv
            subst hv; first | exact str_ne heq | exact fun e => str_ne heq e.symm
          · exact HNo.out j v (by omega) hv
        clear hx
        go_wp2_with fail
        go_roundw
        case rel => exact ⟨k + 1, by omega, by go_num, HN.out, by first | trivial | rfl⟩
        case measure => simp [intOf]; omega
    · have HF := Lib.hid (ixF_no (ss := ss) (s := s) (fun j u hu => HNo.out j u (by have := (List.getElem?_eq_some_iff.1 hu).1; have := HL.out; omega) hu))
      obtain rfl : n = k := by omega
      go_wp2_with fail
      go_ret
      exact ⟨by rw [HF.out]; rfl, rfl⟩
set_option maxHeartbeats 800000 in
theorem index_any (A : Option Addr) (n c : Nat) (ss : List ByteArray) (s : ByteArray) (w : World) (B : Nat) (h : SR w B A n (ss.map Value.string)) (hn : n ≤ 1048576) :
    Calls Tryz.prog 180 #[.slice A n c, .string s] w fun e w' => e = .returned (.int .i64 (ixF ss s)) ∧ w = w' := by
  have HL := Lib.hid h.strlen
  go_enter Tryz.func180, Tryz.ntmps180
  go_wp2_with fail
  go_loopw [8] (fun i wr => ∃ k : Nat, k ≤ n ∧ i = .int .i64 k ∧ (∀ (j : Nat) u, j < k → ss[j]? = some u → u ≠ s) ∧ w = wr) (fun i _ => n - (intOf i).toNat)
  case atStart => exact ⟨0, Nat.zero_le _, rfl, fun j u hj => absurd hj (by omega), rfl⟩
  case round =>
    obtain ⟨k, hk, rfl, hno, rfl⟩ := hrel
    have HNo := Lib.hid hno
    clear hno
    by_cases hlt : k < n
    · obtain ⟨b, off, u, rfl, hb, hx, hc⟩ := h.str hlt
      cases heq : (s.toList == u.toList) with
      | true =>
        have HY := Lib.hid (ixF_at (by rw [hx]; first | rw [str_eq heq] | rw [← str_eq heq]) HNo.out)
        clear hx
        go_wp2_with fail
        go_ret
        exact ⟨by rw [HY.out]; rfl, rfl⟩
      | false =>
        have HN : Hid (∀ (j : Nat) v, j < k + 1 → ss[j]? = some v → v ≠ s) := Lib.hid fun j v hj hv => by
          by_cases e : j = k
          · subst e
            rw [hx] at hv
            injection hv with hv
            subst hv; first | exact str_ne heq | exact fun e => str_ne heq e.symm
          · exact HNo.out j v (by omega) hv
        clear hx
        go_wp2_with fail
        go_roundw
        case rel => exact ⟨k + 1, by omega, by go_num, HN.out, by first | trivial | rfl⟩
        case measure => simp [intOf]; omega
    · have HF := Lib.hid (ixF_no (ss := ss) (s := s) (fun j u hu => HNo.out j u (by have := (List.getElem?_eq_some_iff.1 hu).1; have := HL.out; omega) hu))
      obtain rfl : n = k := by omega
      go_wp2_with fail
      go_ret
      exact ⟨by rw [HF.out]; rfl, rfl⟩
end Go.Proofs.YtfjgapkjpmkplaaGreat.ix
end
section
namespace Go.Proofs.YtfjgapkjpmkplaaGreat.tg
open kit bg sg opn strs only hb sig inn ht marks eqs hc hi hw hn rs br bm bw cf lw ix
open Go.RowKit
set_option linter.unusedVariables false
set_option linter.unusedSimpArgs false
structure Tgt where
  edge : Int
  name : ByteArray
def noS : ByteArray := ⟨#[]⟩
def tgV (t : Tgt) : Value := .agg #[.int .i64 t.edge, .string t.name]
def tgOf (b : Big) (l : Int) : Tgt := if l < b.edges then ⟨l, noS⟩ else ⟨0, (b.outer[(l - b.edges).toNat]?).getD noS⟩
theorem tgOf_edge {b : Big} {l : Int} (h : l < b.edges) : tgOf b l = ⟨l, noS⟩ := if_pos h
theorem tgOf_name {b : Big} {l : Int} {k : Nat} {s : ByteArray} (h : ¬ l < b.edges) (hk : l - b.edges = k) (hs : b.outer[k]? = some s) : tgOf b l = ⟨0, s⟩ := by
  unfold tgOf
  rw [if_neg h, hk, Int.toNat_natCast, hs]
  rfl
def TwoAt (w : World) (β : Nat) (t : Tgt) : Prop := ∃ f, w.rowIs β 160 2 f ∧ f 0 = .int .i64 t.edge ∧ f 1 = .string t.name
theorem two_new (w : World) (t : Tgt) : TwoAt (w.alloc (.cells #[.int .i64 t.edge, .string t.name] 160)) w.heap.size t := ⟨_, row_new w #[.int .i64 t.edge, .string t.name] 160 2 rfl, rfl, rfl⟩
section
variable {w w' : World} {β : Nat} {t : Tgt}
theorem TwoAt.get (h : TwoAt w β t) : w.cell? ⟨β, 0, none⟩ = some (.int .i64 t.edge) ∧ w.cell? ⟨β, 1, none⟩ = some (.string t.name) := by
  obtain ⟨f, hr, e0, e1⟩ := h
  exact ⟨by rw [hr.cell (show 0 < 2 by omega), e0], by rw [hr.cell (show 1 < 2 by omega), e1]⟩
theorem TwoAt.lt (h : TwoAt w β t) : β < w.heap.size := by obtain ⟨f, hr, -⟩ := h; exact hr.lt
theorem TwoAt.on (h : TwoAt w β t) (hb : Below w.heap.size w w') : TwoAt w' β t := by
  obtain ⟨f, hr, e⟩ := h
  exact ⟨f, hr.of_block (hb.block _ hr.lt), e⟩
theorem TwoAt.fz (h : TwoAt w β t) : w.frozen? ⟨β, 0, none⟩ = false ∧ w.frozen? ⟨β, 1, none⟩ = false := by
  obtain ⟨f, hr, -⟩ := h
  exact ⟨hr.frozen 0, hr.frozen 1⟩
theorem TwoAt.put {u : Tgt} (h : TwoAt w β t) : TwoAt ((w.setCell ⟨β, 0, none⟩ (.int .i64 u.edge)).setCell ⟨β, 1, none⟩ (.string u.name)) β u := by
  obtain ⟨f, hr, -⟩ := h
  exact ⟨_, (hr.set 0 (.int .i64 u.edge)).set 1 (.string u.name), rfl, rfl⟩
end
set_option maxRecDepth 20000 in
set_option maxHeartbeats 1600000 in
theorem tof_any (v : Value) (b : Big) (l : Int) (w0 w : World) (hv : BigAt w0 w0.heap.size v b) (hb0 : Below w0.heap.size w0 w) (hl : 0 ≤ l ∧ l < b.edges + b.outer.length) (hE : 0 ≤ b.edges ∧ b.edges ≤ 8) (ho : b.outer.length ≤ 16) :
    Calls Tryz.prog 179 #[v, .int .i64 l] w fun e w' => e = .returned (tgV (tgOf b l)) ∧ Below w.heap.size w w' := by
  obtain ⟨A1, n1, c1, A2, n2, c2, A4, n4, c4, A5, n5, c5, rfl, h1, h2, h4, h5⟩ := hv
  obtain ⟨hl0, hl1⟩ := hl
  obtain ⟨hE0, hE1⟩ := hE
  have hn4 : b.outer.length = n4 := h4.strlen
  have hb1 := (Below.refl w.heap.size w).alloc (Nat.le_refl _) (.cells #[.int .i64 b.roots, .slice A1 n1 c1, .slice A2 n2 c2, .int .i64 b.edges, .slice A4 n4 c4, .slice A5 n5 c5] 36)
  have HBoxI : BoxAt (w.alloc (.cells #[.int .i64 b.roots, .slice A1 n1 c1, .slice A2 n2 c2, .int .i64 b.edges, .slice A4 n4 c4, .slice A5 n5 c5] 36)) w.heap.size 36 (.int .i64 b.roots) (.slice A1 n1 c1) (.slice A2 n2 c2) (.int .i64 b.edges) (.slice A4 n4 c4) (.slice A5 n5 c5) := six_new w _ _ _ _ _ _ _
  obtain ⟨U, hU⟩ : ∃ U, w.alloc (.cells #[.int .i64 b.roots, .slice A1 n1 c1, .slice A2 n2 c2, .int .i64 b.edges, .slice A4 n4 c4, .slice A5 n5 c5] 36) = U := ⟨_, rfl⟩
  have hUz : U.heap.size = w.heap.size + 1 := by rw [← hU, World.size_alloc]
  rw [hU] at hb1 HBoxI
  have HUq := Lib.hid hU
  have HAl := Lib.hid (fun (t : Tgt) => And.intro (two_new U t) (hb1.trans (((Below.refl U.heap.size U).alloc (Nat.le_refl _) (.cells #[.int .i64 t.edge, .string t.name] 160)).mono hb1.size)))
  rw [hUz] at HAl
  have hB := (HAl.out ⟨0, noS⟩).2
  have hb2 := (Below.refl U.heap.size U).alloc (Nat.le_refl _) (.cells #[.int .i64 0, .string ⟨#[]⟩] 160)
  obtain ⟨x0, x1, x2, x3, x4, x5⟩ := (HBoxI.on hb2).get
  by_cases h0 : l < b.edges
  · have HE := Lib.hid (tgOf_edge h0)
    rw [HE.out]
    obtain ⟨z0, z1⟩ := (HAl.out ⟨l, noS⟩).1.get
    dsimp only [noS] at z0 z1
    clear hb1 hU HBoxI hB h1 h2 h4 h5 hb2
    go_enter Tryz.func179, Tryz.ntmps179
    go_wp2_with fail
    rw [HUq.out]
    (try go_wp2_with fail)
    exact bodyPost_ret (v := .agg #[.int .i64 l, .string ⟨#[]⟩]) (by simp [results, Tryz.results179, go_sem, z0, z1]) rfl ⟨rfl, (HAl.out ⟨l, noS⟩).2⟩
  · obtain ⟨k, hk⟩ : ∃ k : Nat, l - b.edges = k := ⟨(l - b.edges).toNat, by omega⟩
    obtain ⟨b4, o4, s, rfl, hb4, hs, cs4⟩ := h4.str (show k < n4 by omega)
    have HE := Lib.hid (tgOf_name h0 hk hs)
    rw [HE.out]
    have hlk : l = b.edges + k := by omega
    have hkn : k < n4 := by omega
    have d4 := ((hb0.trans (hB.mono hb0.size)).cell (p := ⟨b4, o4 + k, none⟩) hb4).trans cs4
    dsimp only [noS] at d4
    obtain ⟨z0, z1⟩ := (HAl.out ⟨0, s⟩).1.get
    clear hb1 hU HBoxI hB h1 h2 h4 h5 hs cs4 hk hb2
    subst hlk
    have hsub : b.edges + (k : Int) - b.edges = (k : Int) := by omega
    go_enter Tryz.func179, Tryz.ntmps179
    rw [← HUq.out] at d4
    go_wp2_with fail
    rw [HUq.out]
    exact bodyPost_ret (v := .agg #[.int .i64 0, .string s]) (by simp [results, Tryz.results179, go_sem, z0, z1]) rfl ⟨rfl, (HAl.out ⟨0, s⟩).2⟩
def isE (t : Tgt) : Bool := t.name.toList.isEmpty
theorem isE_any (t : Tgt) (w : World) : Calls Tryz.prog 178 #[tgV t] w fun e w' => e = .returned (.bool (isE t)) ∧ Below w.heap.size w w' := by
  have hb := (Below.refl w.heap.size w).alloc (Nat.le_refl _) (.cells #[.int .i64 t.edge, .string t.name] 160)
  unfold tgV isE
  go_enter Tryz.func178, Tryz.ntmps178
  go_wp2_with fail
  go_ret
  exact ⟨rfl, hb⟩
end Go.Proofs.YtfjgapkjpmkplaaGreat.tg
end
section
namespace Go.Proofs.YtfjgapkjpmkplaaGreat.jo
open kit bg sg opn strs only hb sig isig un over gn nm inn ht gd im pt marks eqs hc hi hw hn rs br bm bw cf lf ib lw cl rt ix tg rl ed tp pl mb sb wb
open Go.RowKit
set_option linter.unusedVariables false
theorem bl_lt : ∀ a b : List UInt8, Op.bytesLess a b = true ↔ a < b
  | [], [] => by simp [Op.bytesLess]
  | [], y :: b => by simp [Op.bytesLess]
  | x :: a, [] => by simp [Op.bytesLess]
  | x :: a, y :: b => by
    have ih := bl_lt a b
    simp only [Op.bytesLess, Bool.or_eq_true, Bool.and_eq_true, decide_eq_true_eq, List.cons_lt_cons_iff, ih, beq_iff_eq]
theorem pw_of {α : Type} {r : α → α → Prop} (ht : ∀ a b c, r a b → r b c → r a c) : ∀ (l : List α), (∀ (k : Nat) a b, l[k]? = some a → l[k + 1]? = some b → r a b) → l.Pairwise r
  | [], _ => List.Pairwise.nil
  | [a], _ => by simp
  | a :: b :: l, h => by
    have ih := pw_of ht (b :: l) (fun k x y h1 h2 => h (k + 1) x y h1 h2)
    have hab := h 0 a b rfl rfl
    refine List.pairwise_cons.2 ⟨fun z hz => ?_, ih⟩
    rcases List.mem_cons.1 hz with rfl | hz
    · exact hab
    · exact ht _ _ _ hab ((List.pairwise_cons.1 ih).1 z hz)
theorem names_pw {ss : List ByteArray} (h : NamesP ss) : ss.Pairwise (fun a b => a.toList < b.toList) :=
  pw_of (r := fun a b : ByteArray => a.toList < b.toList) (fun _ _ _ h1 h2 => List.lt_trans h1 h2) ss (fun k a b h1 h2 => (bl_lt a.toList b.toList).1 (h.2 k a b h1 h2))
theorem names_inj {ss : List ByteArray} (h : NamesP ss) {i j : Nat} {s : ByteArray} (hi : ss[i]? = some s) (hj : ss[j]? = some s) : i = j := by
  have hp := List.pairwise_iff_getElem.1 (names_pw h)
  obtain ⟨h1, e1⟩ := List.getElem?_eq_some_iff.1 hi
  obtain ⟨h2, e2⟩ := List.getElem?_eq_some_iff.1 hj
  rcases Nat.lt_trichotomy i j with c | c | c
  · have := hp i j h1 h2 c
    rw [e1, e2] at this
    exact absurd this (List.lt_irrefl _)
  · exact c
  · have := hp j i h2 h1 c
    rw [e1, e2] at this
    exact absurd this (List.lt_irrefl _)
theorem name_ne {ss : List ByteArray} (h : NamesP ss) {s : ByteArray} (hs : s ∈ ss) : s.toList.isEmpty = false ∧ s ≠ noS := by
  obtain ⟨k, hk⟩ := List.getElem?_of_mem hs
  have h1 := h.1 k s hk
  unfold nameB at h1
  simp only [Bool.and_eq_true] at h1
  have h2 := inb_true h1.2
  have hne : s ≠ noS := fun e => by
    rw [e] at h2
    exact absurd h2.1 (by decide)
  refine ⟨?_, hne⟩
  cases hq : s.toList.isEmpty with
  | false => rfl
  | true => exact absurd (str_eq (b := noS) (by rw [List.isEmpty_iff.1 hq]; simp [noS])) hne
theorem relB_congr {f g : Int → Int} {b : Big} (h1 : ∀ x ∈ b.nodes, ∀ l ∈ x.links, f l = g l) (h2 : ∀ x ∈ b.inner, f x.link = g x.link) : relB f b = relB g b := by
  unfold relB
  congr 1
  · exact List.map_congr_left (fun x hx => by rw [List.map_congr_left (fun l hl => h1 x hx l hl)])
  · exact List.map_congr_left (fun x hx => by rw [h2 x hx])
end Go.Proofs.YtfjgapkjpmkplaaGreat.jo
end
section
namespace Go.Proofs.YtfjgapkjpmkplaaGreat.gv
open kit bg sg opn strs only hb sig isig un over gn nm inn ht gd im pt marks eqs hc hi hw hn rs br bm bw cf lf ib lw cl pl mb sb wb
open Go.RowKit
set_option linter.unusedVariables false
noncomputable def giveR (cs : List Ctl) (b : Big) : Big := if bigB cs b = true then b else zeroBig
theorem give_len {cs : List Ctl} {b : Big} (h : bigB cs b = true → bigMk b ≤ 1048576) : bigMk (giveR cs b) ≤ 1048576 := by
  unfold giveR
  split
  · next hq => exact h hq
  · exact zero_len
set_option maxRecDepth 20000 in
set_option maxHeartbeats 3200000 in
theorem give_any (A : Option Addr) (n c : Nat) (cs : List Ctl) (v : Value) (b : Big) (w0 w : World) (hC : CtlsAt w0 w0.heap.size A n cs) (hb0 : Below w0.heap.size w0 w) (hn : n ≤ 1048576) (hs : ∀ c ∈ cs, c.name.size ≤ 1048576) (hR : BigR w w0.heap.size w.heap.size v b) (hS : BigS b) (hw : BigW b) :
    Calls Tryz.prog 77 #[.slice A n c, v] w fun e w' => ∃ v', e = .returned (.tuple #[v', .bool (bigB cs b)]) ∧ BigR w' w0.heap.size w'.heap.size v' (giveR cs b) ∧ Below w.heap.size w w' := by
  obtain ⟨B1, d1, B2, d2, B4, d4, B5, d5, rfl⟩ := hR.shape
  have HRv := Lib.hid hR
  have hb1 := (Below.refl w.heap.size w).alloc (Nat.le_refl _) (.cells #[.int .i64 b.roots, .slice B1 b.nodes.length d1, .slice B2 b.sites.length d2, .int .i64 b.edges, .slice B4 b.outer.length d4, .slice B5 b.inner.length d5] 36)
  have HBox : Hid (BoxAt (w.alloc (.cells #[.int .i64 b.roots, .slice B1 b.nodes.length d1, .slice B2 b.sites.length d2, .int .i64 b.edges, .slice B4 b.outer.length d4, .slice B5 b.inner.length d5] 36)) w.heap.size 36 (.int .i64 b.roots) (.slice B1 b.nodes.length d1) (.slice B2 b.sites.length d2) (.int .i64 b.edges) (.slice B4 b.outer.length d4) (.slice B5 b.inner.length d5)) := Lib.hid (six_new w _ _ _ _ _ _ _)
  obtain ⟨U, hU⟩ : ∃ U, w.alloc (.cells #[.int .i64 b.roots, .slice B1 b.nodes.length d1, .slice B2 b.sites.length d2, .int .i64 b.edges, .slice B4 b.outer.length d4, .slice B5 b.inner.length d5] 36) = U := ⟨_, rfl⟩
  have hUz : U.heap.size = w.heap.size + 1 := by rw [← hU]; simp
  rw [hU] at hb1 HBox
  have hb2 := (Below.refl U.heap.size U).alloc (Nat.le_refl _) (.cells #[.int .i64 0, .slice none 0 0, .slice none 0 0, .int .i64 0, .slice none 0 0, .slice none 0 0] 36)
  have HBx0 : Hid (BoxAt (U.alloc (.cells #[.int .i64 0, .slice none 0 0, .slice none 0 0, .int .i64 0, .slice none 0 0, .slice none 0 0] 36)) U.heap.size 36 (.int .i64 0) (.slice none 0 0) (.slice none 0 0) (.int .i64 0) (.slice none 0 0) (.slice none 0 0)) := Lib.hid (six_new U _ _ _ _ _ _ _)
  have HBox := Lib.hid (HBox.out.on hb2)
  obtain ⟨W, hW⟩ : ∃ W, U.alloc (.cells #[.int .i64 0, .slice none 0 0, .slice none 0 0, .int .i64 0, .slice none 0 0, .slice none 0 0] 36) = W := ⟨_, rfl⟩
  rw [hW] at hb2 HBx0 HBox
  rw [hUz] at HBx0
  have HUq := Lib.hid hU
  have HWq := Lib.hid hW
  have HB0 := Lib.hid (hb1.trans (hb2.mono hb1.size))
  have hbW := hb0.trans (HB0.out.mono hb0.size)
  have HRW := Lib.hid ((HRv.out.on HB0.out).here)
  have C := l2Good_any A n c cs _ b W ((hC.below hbW).wide hbW.size) HRW.out.at hn hs hS hw
  obtain ⟨x0, x1, x2, x3, x4, x5⟩ := HBox.out.get
  have hsz0 := hb0.size
  obtain ⟨q, hq⟩ : ∃ q, bigB cs b = q := ⟨_, rfl⟩
  have HG : Hid (giveR cs b = if q = true then b else zeroBig) := Lib.hid (by unfold giveR; rw [hq])
  rw [hq] at C ⊢
  rw [HG.out]
  clear hq hU hW hb1 hb2 hR hS hw hs hC hbW
  go_enter Tryz.func77, Tryz.ntmps77
  go_wp2_with fail
  rw [HUq.out, HWq.out]
  go_wp2_with fail
  refine C.mono ?_
  rintro e w1 ⟨rfl, hb⟩
  have HB1 := Lib.hid (HB0.out.trans (hb.mono HB0.out.size))
  have HBx1 := Lib.hid (HBx0.out.on hb)
  have HBox1 := Lib.hid (HBox.out.on hb)
  have HR1 := Lib.hid ((HRW.out.on hb).here)
  clear hb C x0 x1 x2 x3 x4 x5
  obtain ⟨z0, z1, z2, z3, z4, z5⟩ := HBx1.out.get
  have f0 := World.rowIs.frozen HBx1.out 0
  have f1 := World.rowIs.frozen HBx1.out 1
  have f2 := World.rowIs.frozen HBx1.out 2
  have f3 := World.rowIs.frozen HBx1.out 3
  have f4 := World.rowIs.frozen HBx1.out 4
  have f5 := World.rowIs.frozen HBx1.out 5
  cases q with
  | false =>
    go_wp2_with fail
    refine bodyPost_ret (v := .tuple #[.agg #[.int .i64 0, .slice none 0 0, .slice none 0 0, .int .i64 0, .slice none 0 0, .slice none 0 0], .bool false]) (by simp [results, Tryz.results77, go_sem, z0, z1, z2, z3, z4, z5]) rfl ⟨_, rfl, BigR.zero, sets6_below HB1.out (Nat.le_succ _) _ _ _ _ _ _⟩
  | true =>
    obtain ⟨x0, x1, x2, x3, x4, x5⟩ := HBox1.out.get
    go_wp2_with fail
    have hbig := (sets6_big HBx1.out HR1.out (.int .i64 b.roots) (.slice B1 b.nodes.length d1) (.slice B2 b.sites.length d2) (.int .i64 b.edges) (.slice B4 b.outer.length d4) (.slice B5 b.inner.length d5)).here
    have hbel := sets6_below HB1.out (Nat.le_succ w.heap.size) (.int .i64 b.roots) (.slice B1 b.nodes.length d1) (.slice B2 b.sites.length d2) (.int .i64 b.edges) (.slice B4 b.outer.length d4) (.slice B5 b.inner.length d5)
    unfold sets6 at hbig hbel
    exact bodyPost_ret (v := .tuple #[.agg #[.int .i64 b.roots, .slice B1 b.nodes.length d1, .slice B2 b.sites.length d2, .int .i64 b.edges, .slice B4 b.outer.length d4, .slice B5 b.inner.length d5], .bool true]) (by simp [results, Tryz.results77, go_sem, z0, z1, z2, z3, z4, z5]) rfl ⟨_, rfl, hbig, hbel⟩
set_option maxRecDepth 20000 in
set_option maxHeartbeats 3200000 in
theorem ifb_any (A : Option Addr) (n c : Nat) (cs : List Ctl) (v : Value) (b : Big) (w0 w : World) (hC : CtlsAt w0 w0.heap.size A n cs) (hb0 : Below w0.heap.size w0 w) (hn : n ≤ 1048576) (hs : ∀ c ∈ cs, c.name.size ≤ 1048576) (hR : BigR w w0.heap.size w.heap.size v b) (hS : BigS b) (hw : BigW b) :
    Calls Tryz.prog 83 #[.slice A n c, v] w fun e w' => ∃ v', e = .returned (.tuple #[v', .bool (bigB cs b)]) ∧ BigR w' w0.heap.size w'.heap.size v' (giveR cs b) ∧ Below w.heap.size w w' := by
  obtain ⟨B1, d1, B2, d2, B4, d4, B5, d5, rfl⟩ := hR.shape
  have HRv := Lib.hid hR
  have hb1 := (Below.refl w.heap.size w).alloc (Nat.le_refl _) (.cells #[.int .i64 b.roots, .slice B1 b.nodes.length d1, .slice B2 b.sites.length d2, .int .i64 b.edges, .slice B4 b.outer.length d4, .slice B5 b.inner.length d5] 36)
  have HBox : Hid (BoxAt (w.alloc (.cells #[.int .i64 b.roots, .slice B1 b.nodes.length d1, .slice B2 b.sites.length d2, .int .i64 b.edges, .slice B4 b.outer.length d4, .slice B5 b.inner.length d5] 36)) w.heap.size 36 (.int .i64 b.roots) (.slice B1 b.nodes.length d1) (.slice B2 b.sites.length d2) (.int .i64 b.edges) (.slice B4 b.outer.length d4) (.slice B5 b.inner.length d5)) := Lib.hid (six_new w _ _ _ _ _ _ _)
  obtain ⟨U, hU⟩ : ∃ U, w.alloc (.cells #[.int .i64 b.roots, .slice B1 b.nodes.length d1, .slice B2 b.sites.length d2, .int .i64 b.edges, .slice B4 b.outer.length d4, .slice B5 b.inner.length d5] 36) = U := ⟨_, rfl⟩
  have hUz : U.heap.size = w.heap.size + 1 := by rw [← hU]; simp
  rw [hU] at hb1 HBox
  have hb2 := (Below.refl U.heap.size U).alloc (Nat.le_refl _) (.cells #[.int .i64 0, .slice none 0 0, .slice none 0 0, .int .i64 0, .slice none 0 0, .slice none 0 0] 36)
  have HBx0 : Hid (BoxAt (U.alloc (.cells #[.int .i64 0, .slice none 0 0, .slice none 0 0, .int .i64 0, .slice none 0 0, .slice none 0 0] 36)) U.heap.size 36 (.int .i64 0) (.slice none 0 0) (.slice none 0 0) (.int .i64 0) (.slice none 0 0) (.slice none 0 0)) := Lib.hid (six_new U _ _ _ _ _ _ _)
  have HBox := Lib.hid (HBox.out.on hb2)
  obtain ⟨W, hW⟩ : ∃ W, U.alloc (.cells #[.int .i64 0, .slice none 0 0, .slice none 0 0, .int .i64 0, .slice none 0 0, .slice none 0 0] 36) = W := ⟨_, rfl⟩
  rw [hW] at hb2 HBx0 HBox
  rw [hUz] at HBx0
  have HUq := Lib.hid hU
  have HWq := Lib.hid hW
  have HB0 := Lib.hid (hb1.trans (hb2.mono hb1.size))
  have hbW := hb0.trans (HB0.out.mono hb0.size)
  have HRW := Lib.hid ((HRv.out.on HB0.out).here)
  have C := isBig_any A n c cs _ b W ((hC.below hbW).wide hbW.size) HRW.out.at hn hs hS hw
  obtain ⟨x0, x1, x2, x3, x4, x5⟩ := HBox.out.get
  have hsz0 := hb0.size
  obtain ⟨q, hq⟩ : ∃ q, bigB cs b = q := ⟨_, rfl⟩
  have HG : Hid (giveR cs b = if q = true then b else zeroBig) := Lib.hid (by unfold giveR; rw [hq])
  rw [hq] at C ⊢
  rw [HG.out]
  clear hq hU hW hb1 hb2 hR hS hw hs hC hbW
  go_enter Tryz.func83, Tryz.ntmps83
  go_wp2_with fail
  rw [HUq.out, HWq.out]
  go_wp2_with fail
  refine C.mono ?_
  rintro e w1 ⟨rfl, hb⟩
  have HB1 := Lib.hid (HB0.out.trans (hb.mono HB0.out.size))
  have HBx1 := Lib.hid (HBx0.out.on hb)
  have HBox1 := Lib.hid (HBox.out.on hb)
  have HR1 := Lib.hid ((HRW.out.on hb).here)
  clear hb C x0 x1 x2 x3 x4 x5
  obtain ⟨z0, z1, z2, z3, z4, z5⟩ := HBx1.out.get
  have f0 := World.rowIs.frozen HBx1.out 0
  have f1 := World.rowIs.frozen HBx1.out 1
  have f2 := World.rowIs.frozen HBx1.out 2
  have f3 := World.rowIs.frozen HBx1.out 3
  have f4 := World.rowIs.frozen HBx1.out 4
  have f5 := World.rowIs.frozen HBx1.out 5
  cases q with
  | false =>
    go_wp2_with fail
    refine bodyPost_ret (v := .tuple #[.agg #[.int .i64 0, .slice none 0 0, .slice none 0 0, .int .i64 0, .slice none 0 0, .slice none 0 0], .bool false]) (by simp [results, Tryz.results83, go_sem, z0, z1, z2, z3, z4, z5]) rfl ⟨_, rfl, BigR.zero, sets6_below HB1.out (Nat.le_succ _) _ _ _ _ _ _⟩
  | true =>
    obtain ⟨x0, x1, x2, x3, x4, x5⟩ := HBox1.out.get
    go_wp2_with fail
    have hbig := (sets6_big HBx1.out HR1.out (.int .i64 b.roots) (.slice B1 b.nodes.length d1) (.slice B2 b.sites.length d2) (.int .i64 b.edges) (.slice B4 b.outer.length d4) (.slice B5 b.inner.length d5)).here
    have hbel := sets6_below HB1.out (Nat.le_succ w.heap.size) (.int .i64 b.roots) (.slice B1 b.nodes.length d1) (.slice B2 b.sites.length d2) (.int .i64 b.edges) (.slice B4 b.outer.length d4) (.slice B5 b.inner.length d5)
    unfold sets6 at hbig hbel
    exact bodyPost_ret (v := .tuple #[.agg #[.int .i64 b.roots, .slice B1 b.nodes.length d1, .slice B2 b.sites.length d2, .int .i64 b.edges, .slice B4 b.outer.length d4, .slice B5 b.inner.length d5], .bool true]) (by simp [results, Tryz.results83, go_sem, z0, z1, z2, z3, z4, z5]) rfl ⟨_, rfl, hbig, hbel⟩
end Go.Proofs.YtfjgapkjpmkplaaGreat.gv
end
section
namespace Go.Proofs.YtfjgapkjpmkplaaGreat.tm
open kit bg sg opn strs only hb sig isig un over gn nm inn ht gd im pt marks eqs hc hi hw hn rs br bm bw cf lf ib lw cl tp
open Go.RowKit
set_option linter.unusedVariables false
structure Tame (b : Big) : Prop where
  r : -1000 ≤ b.roots ∧ b.roots ≤ 1000
  e : -1000 ≤ b.edges ∧ b.edges ≤ 1000
  n : b.nodes.length ≤ 1000
  nd : ∀ x ∈ b.nodes, (-1000 ≤ x.control ∧ x.control ≤ 1000) ∧ (-1000 ≤ x.parent ∧ x.parent ≤ 1000) ∧ x.links.length ≤ 1000 ∧ ∀ l ∈ x.links, -1000 ≤ l ∧ l ≤ 1000
  s : b.sites.length ≤ 1000
  st : ∀ z ∈ b.sites, -1000 ≤ z ∧ z ≤ 1000
  o : b.outer.length ≤ 1000
  on : ∀ s ∈ b.outer, s.size ≤ 1048576
  i : b.inner.length ≤ 1000
  iw : ∀ x ∈ b.inner, x.name.size ≤ 1048576 ∧ -1000 ≤ x.link ∧ x.link ≤ 1000
theorem Tame.S {b : Big} (h : Tame b) : BigS b :=
  ⟨by have := h.n; omega, fun x hx => by have := (h.nd x hx).2.2.1; omega, by have := h.s; omega, by have := h.o; omega, h.on, by have := h.i; omega, fun x hx => (h.iw x hx).1⟩
theorem wf_k {z : Int} (h : -1000 ≤ z ∧ z ≤ 1000) : (Lit.int .i64 z).wf = true := Go.WalkArith.wf_i64 (by omega)
theorem Tame.W {b : Big} (h : Tame b) : BigW b :=
  ⟨wf_k h.r, wf_k h.e, by have := h.n; unfold maxLen; omega, fun x hx => ⟨wf_k (h.nd x hx).1, wf_k (h.nd x hx).2.1, by have := (h.nd x hx).2.2.1; unfold maxLen; omega, fun z hz => wf_k ((h.nd x hx).2.2.2 z hz)⟩, by have := h.s; unfold maxLen; omega, fun z hz => wf_k (h.st z hz),
    by have := h.o; unfold maxLen; omega, fun s hs => by have := h.on s hs; unfold maxLen; omega, by have := h.i; unfold maxLen; omega, fun x hx => ⟨by have := (h.iw x hx).1; unfold maxLen; omega, wf_k (h.iw x hx).2⟩⟩
theorem under_in {cs : List Ctl} {b : Big} {p k : Int} (hr : 0 ≤ b.roots ∧ b.roots ≤ 4) (hk : k ≤ 1000) (h : underB cs b p k = true) : -1000 ≤ p ∧ p ≤ 1000 := by
  unfold underB at h
  by_cases h0 : p < 0
  · rw [if_pos h0] at h
    have := inb_true h
    omega
  · rw [if_neg h0] at h
    simp only [Bool.and_eq_true, decide_eq_true_eq] at h
    omega
theorem tame_good {cs : List Ctl} {b : Big} (h : bigB cs b = true) (hS : BigS b) : Tame b := by
  have hb := big_of h
  have z := sizes_of hb.2.1
  have hc : cs.length ≤ 6 := by have := inb_true hb.1.2.2; omega
  obtain ⟨s1, s2, s3, s4, s5, s6, s7⟩ := hS
  refine ⟨by omega, by omega, by omega, fun x hx => ?_, by omega, fun q hq => ?_, by omega, s5, by omega, fun x hx => ⟨s7 x hx, ?_⟩⟩
  · obtain ⟨k, hk⟩ := List.getElem?_of_mem hx
    have hkl := (List.getElem?_eq_some_iff.1 hk).1
    obtain ⟨h1, h2, h3⟩ := hb.2.2.2.2.1 k x hk
    unfold seatB at h1
    simp only [Bool.and_eq_true] at h1
    have c1 := inb_true h1.1
    have c2 := under_in z.1 (by omega) h1.2
    refine ⟨by omega, c2, ?_, fun l hl => ?_⟩
    · unfold portsB at h2
      cases hcc : cs[x.control.toNat]? with
      | none => rw [hcc] at h2; cases h2
      | some c =>
        rw [hcc] at h2
        have h2 : ((x.links.length : Int) == c.ports) = true := h2
        have e := eq_of_beq h2
        have hc := hb.1.1 _ c hcc
        unfold ctlB at hc
        simp only [Bool.and_eq_true] at hc
        have := inb_true hc.1.2
        omega
    · obtain ⟨i, hi⟩ := List.getElem?_of_mem hl
      have := inb_true (h3 i l hi)
      omega
  · obtain ⟨i, hi⟩ := List.getElem?_of_mem hq
    exact under_in z.1 (by omega) (hb.2.2.2.2.2.1 i q hi)
  · obtain ⟨i, hi⟩ := List.getElem?_of_mem hx
    have := inb_true (hb.2.2.2.2.2.2 i x hi)
    omega
end Go.Proofs.YtfjgapkjpmkplaaGreat.tm
end
section
namespace Go.Proofs.YtfjgapkjpmkplaaGreat.co
open kit bg sg opn strs only hb sig isig un over gn nm inn ht gd im pt marks eqs hc hi hw hn rs br bm bw cf lf ib lw cl rt ix tg rl ed tp pl mb sb wb jo ek wk gv tm
open Go.RowKit
set_option linter.unusedVariables false
section
variable {cs : List Ctl} {b : Big} {s : ByteArray}
theorem big_lks (hg : bigB cs b = true) : (∀ x ∈ b.nodes, ∀ l ∈ x.links, 0 ≤ l ∧ l < b.edges + b.outer.length) ∧ ∀ x ∈ b.inner, 0 ≤ x.link ∧ x.link < b.edges + b.outer.length := by
  have hlk : ∀ l : Int, inb l 0 (b.edges + b.outer.length - 1) = true → 0 ≤ l ∧ l < b.edges + b.outer.length := fun l h => by have := inb_true h; omega
  refine ⟨fun x hx l hl => ?_, fun x hx => ?_⟩
  · obtain ⟨k, hk⟩ := List.getElem?_of_mem hx
    obtain ⟨i, hi⟩ := List.getElem?_of_mem hl
    exact hlk l (((big_of hg).2.2.2.2.1 k x hk).2.2 i l hi)
  · obtain ⟨i, hi⟩ := List.getElem?_of_mem hx
    exact hlk x.link ((big_of hg).2.2.2.2.2.2 i x hi)
theorem tame_rk {f : Int → Int} {E : Int} {ou : List ByteArray} (hg : bigB cs b = true) (hS : BigS b) (hf : ∀ l, 0 ≤ l ∧ l < b.edges + b.outer.length → -1000 ≤ f l ∧ f l ≤ 1000) (hE : -1000 ≤ E ∧ E ≤ 1000) (ho : ou.length ≤ 1000) (hon : ∀ u ∈ ou, u.size ≤ 1048576) : Tame ⟨b.roots, (relB f b).nodes, b.sites, E, ou, (relB f b).inner⟩ := by
  have hb := tame_good hg hS
  have hL := big_lks hg
  exact
  { r := hb.r
    e := hE
    n := by show (b.nodes.map _).length ≤ 1000; rw [List.length_map]; exact hb.n
    nd := fun x hx => by
      obtain ⟨y, hy, rfl⟩ := List.mem_map.1 hx
      obtain ⟨h1, h2, h3, h4⟩ := hb.nd y hy
      refine ⟨h1, h2, by show (y.links.map _).length ≤ 1000; rw [List.length_map]; exact h3, fun l hl => ?_⟩
      obtain ⟨l0, hl0, rfl⟩ := List.mem_map.1 hl
      exact hf l0 (hL.1 y hy l0 hl0)
    s := hb.s
    st := hb.st
    o := ho
    on := hon
    i := by show (b.inner.map _).length ≤ 1000; rw [List.length_map]; exact hb.i
    iw := fun x hx => by
      obtain ⟨y, hy, rfl⟩ := List.mem_map.1 hx
      exact ⟨(hb.iw y hy).1, hf y.link (hL.2 y hy)⟩ }
end
end Go.Proofs.YtfjgapkjpmkplaaGreat.co
end
section
namespace Go.Proofs.YtfjgapkjpmkplaaGreat.nd
open kit bg sg opn strs only over gn nm un sig hb inn ht marks eqs hc hi hw hn rs br bm bw cf lw cl ix
open Go.RowKit
set_option linter.unusedVariables false
set_option linter.unusedSimpArgs false
noncomputable def nmdL (E : Int) (ou ns : List ByteArray) : List Int := ns.map (fun u => E + ixF ou u)
theorem nmd_len (E : Int) (ou ns : List ByteArray) : (nmdL E ou ns).length = ns.length := by unfold nmdL; rw [List.length_map]
theorem nmd_at {E : Int} {ou ns : List ByteArray} {k : Nat} {u : ByteArray} (h : ns[k]? = some u) : (nmdL E ou ns)[k]? = some (E + ixF ou u) := by unfold nmdL; rw [List.getElem?_map, h]; rfl
theorem nmd_take {E : Int} {ou ns : List ByteArray} {k : Nat} {u : ByteArray} (h : ns[k]? = some u) : (nmdL E ou ns).take (k + 1) = (nmdL E ou ns).take k ++ [E + ixF ou u] := by rw [List.take_add_one, nmd_at h]; rfl
set_option maxRecDepth 20000 in
set_option maxHeartbeats 1600000 in
theorem nmd_any (A B : Option Addr) (n c m d : Nat) (ns ou : List ByteArray) (E : Int) (w : World) (hA : SR w w.heap.size A n (ns.map Value.string)) (hB : SR w w.heap.size B m (ou.map Value.string)) (hn : n ≤ 1000) (hm : m ≤ 1000) (hE : -1000 ≤ E ∧ E ≤ 1000) :
    Calls Tryz.prog 195 #[.slice A n c, .int .i64 E, .slice B m d] w fun e w' => ∃ v, e = .returned v ∧ w'.ownsRow w.heap.size 3 1 v n ((nmdL E ou ns).map (Value.int .i64)) ∧ v ≠ .slice none 0 0 ∧ Below w.heap.size w w' := by
  obtain ⟨i0, hi, hz0, hz1, hz2⟩ := info_parts int_info
  have HI := Lib.hid (And.intro hi (And.intro hz0 (And.intro hz1 hz2)))
  have HL := Lib.hid hA.strlen
  have HM := Lib.hid hB.strlen
  have HB := Lib.hid hB
  clear hi hz0 hz1 hz2 hB
  go_enter Tryz.func195, Tryz.ntmps195
  go_wp2_with fail
  go_loopw [7, 8] (fun v i wr => ∃ k : Nat, k ≤ n ∧ i = .int .i64 k ∧ wr.ownsRow w.heap.size 3 1 v k (((nmdL E ou ns).take k).map (Value.int .i64)) ∧ v ≠ .slice none 0 0 ∧ Below w.heap.size w wr) (fun _ i _ => n - (intOf i).toNat)
  case atStart => exact ⟨0, Nat.zero_le _, rfl, ownsRow_nil_new w 3 1 w.heap.size (Nat.le_refl _), by simp, (Below.refl _ _).alloc (Nat.le_refl _) _⟩
  case round =>
    obtain ⟨k, hk, rfl, hown, hne, hbel⟩ := hrel
    have hsz := hbel.size
    by_cases hlt : k < n
    · obtain ⟨b, off, u, rfl, hb, hx, hc⟩ := hA.str hlt
      have hcc := (hbel.cell (p := ⟨b, off + k, none⟩) hb).trans hc
      have CA := l2At_any B m d ou u wr _ (HB.out.below hbel) (by omega)
      have hr := ixF_in ou u
      rw [HM.out] at hr
      have HT := Lib.hid (nmd_take (E := E) (ou := ou) hx)
      obtain ⟨r, hrr⟩ : ∃ r, ixF ou u = r := ⟨_, rfl⟩
      rw [hrr] at CA hr HT
      obtain ⟨D, hD⟩ : ∃ D, ((nmdL E ou ns).take k).map (Value.int .i64) = D := ⟨_, rfl⟩
      have HT2 : Hid (((nmdL E ou ns).take (k + 1)).map (Value.int .i64) = D ++ [.int .i64 (E + r)]) := Lib.hid (by rw [HT.out, List.map_append, hD]; rfl)
      rw [hD] at hown
      have hw2 : wrap64 (E + r) = E + r := by unfold wrap64; omega
      clear hD hrr hx hc HT
      go_wp2_with fail
      refine CA.mono ?_
      rintro e w1 ⟨rfl, rfl⟩
      clear CA
      go_wp2_with (at_builtin; refine wpList_append_own _ rfl _ _ 24 rfl w.heap.size 3 i0 (.int .i64 0) 1 8 Tryz.underlying24 HI.out.1 HI.out.2.1 HI.out.2.2.1 HI.out.2.2.2 rfl (by decide) _ _ _ rfl (hown.alloc _) ⟨wr.heap.size, 0, none⟩ 1 1 [.int .i64 (E + r)] rfl rfl (cell_one_new _ _ _) (fun x hx => by simp at hx; subst hx; rfl) (by unfold maxLen; omega) (by omega) (by simp; omega) ?_; intro v1 w1 hown1 hgrow1 hnil1; have hb1 := Lib.hid ((hbel.alloc (by omega) (.cells #[.int .i64 (E + r)] 3)).grown hgrow1 (by simp; omega) (fun j hj => (hown.lt j hj).1)); have HOwn := Lib.hid hown1; have hne1 : v1 ≠ .slice none 0 0 := fun e => hne (hnil1.1 e).1; clear hown1 hgrow1 hnil1 hown)
      go_wp2_with fail
      go_roundw
      case rel => exact ⟨k + 1, by omega, by go_num, by rw [HT2.out]; exact HOwn.out, hne1, hb1.out⟩
      case measure => simp [intOf]; omega
    · obtain rfl : n = k := by omega
      rw [List.take_of_length_le (by rw [nmd_len, HL.out]; exact Nat.le_refl _)] at hown
      have HO := Lib.hid hown
      clear hown
      go_wp2_with fail
      go_ret
      exact ⟨_, rfl, HO.out, hne, hbel⟩
end Go.Proofs.YtfjgapkjpmkplaaGreat.nd
end
section
namespace Go.Proofs.YtfjgapkjpmkplaaGreat.ft
open kit bg sg opn strs only hb sig isig un over gn nm inn ht gd im pt marks eqs hc hi hw hn rs br bm bw cf lf ib lw
open Go.RowKit
set_option linter.unusedVariables false
set_option maxHeartbeats 1600000 in
theorem l4Equal_any (A : Option Addr) (n c : Nat) (xs : List ByteArray) (B : Option Addr) (m d : Nat) (ys : List ByteArray) (w : World) (L M : Nat) (h : SR w L A n (xs.map Value.string)) (h' : SR w M B m (ys.map Value.string)) (hL : L ≤ w.heap.size) (hM : M ≤ w.heap.size) (hn : n ≤ 1048576) (hm : m ≤ 1048576) :
    Calls Tryz.prog 229 #[.slice A n c, .slice B m d] w (Post (decide (xs = ys)) w) := by
  have HX := Lib.hid h.strlen
  have HY := Lib.hid h'.strlen
  by_cases hq : n = m
  · subst hq
    go_enter Tryz.func229, Tryz.ntmps229
    go_wp2_with fail
    go_loopw [5] (fun i wr => ∃ k : Nat, k ≤ n ∧ i = .int .i64 k ∧ (∀ (j : Nat) x y, j < k → xs[j]? = some x → ys[j]? = some y → x = y) ∧ Dr w wr) (fun i _ => n - (intOf i).toNat)
    case atStart => exact ⟨0, Nat.zero_le _, rfl, fun j x y hj => absurd hj (Nat.not_lt_zero j), Dr.refl _⟩
    case round =>
      obtain ⟨k, hk, rfl, hall, hdr⟩ := hrel
      have HA := Lib.hid hall
      clear hall
      by_cases hlt : k < n
      · obtain ⟨b1, o1, x, rfl, hb1, hx, cx⟩ := h.str hlt
        obtain ⟨b2, o2, y, rfl, hb2, hy, cy⟩ := h'.str hlt
        have ex := (hdr.cell ⟨b1, o1 + k, none⟩).trans cx
        have ey := (hdr.cell ⟨b2, o2 + k, none⟩).trans cy
        have hbb1 : b1 < wr.heap.size := by rw [hdr.size]; omega
        have hbb2 : b2 < wr.heap.size := by rw [hdr.size]; omega
        have HXx := Lib.hid hx
        have HYy := Lib.hid hy
        clear hx hy cx cy
        cases he : (x.toList == y.toList) with
        | true =>
          have HE := Lib.hid (str_eq he)
          have he2 : (x.toList != y.toList) = false := by rw [bne, he]; rfl
          go_wp2_with fail
          go_quiet (fail)
          go_wp2_with fail
          go_roundw
          case rel => exact ⟨k + 1, by omega, by go_num, fun j x' y' hj hx' hy' => by
            by_cases e : j = k
            · subst e; rw [HXx.out] at hx'; rw [HYy.out] at hy'; injection hx' with e1; injection hy' with e2; rw [← e1, ← e2]; exact HE.out
            · exact HA.out j x' y' (by omega) hx' hy', hdr.more _⟩
          case measure => simp [intOf]; omega
        | false =>
          have HE := Lib.hid (str_ne he)
          have he2 : (x.toList != y.toList) = true := by rw [bne, he]; rfl
          have HN : Hid (decide (xs = ys) = false) := Lib.hid (decide_eq_false fun e => HE.out (by
            have h1 := HXx.out; rw [e, HYy.out] at h1; injection h1 with h1; exact h1.symm))
          go_wp2_with fail
          go_quiet (fail)
          go_wp2_with fail
          go_ret
          exact ⟨by rw [HN.out]; rfl, (hdr.more _).below _⟩
      · obtain rfl : k = n := by omega
        have HYs : Hid (decide (xs = ys) = true) := Lib.hid (decide_eq_true (by
          refine List.ext_getElem? (fun j => ?_)
          by_cases hj : j < k
          · have ex : xs[j]? = some (xs[j]'(by rw [HX.out]; exact hj)) := List.getElem?_eq_getElem _
            have ey : ys[j]? = some (ys[j]'(by rw [HY.out]; exact hj)) := List.getElem?_eq_getElem _
            rw [ex, ey, HA.out j _ _ hj ex ey]
          · rw [List.getElem?_eq_none (by rw [HX.out]; omega), List.getElem?_eq_none (by rw [HY.out]; omega)]))
        go_wp2_with fail
        go_ret
        exact ⟨by rw [HYs.out]; rfl, hdr.below _⟩
  · have HN : Hid (decide (xs = ys) = false) := Lib.hid (decide_eq_false fun e => hq (by rw [← HX.out, ← HY.out, e]))
    have hq' : ¬ (n : Int) = m := by omega
    go_enter Tryz.func229, Tryz.ntmps229
    go_wp2_with fail
    go_ret
    exact ⟨by rw [HN.out]; rfl, Below.refl _ _⟩
set_option maxHeartbeats 1600000 in
theorem eqStr_any (A : Option Addr) (n c : Nat) (xs : List ByteArray) (B : Option Addr) (m d : Nat) (ys : List ByteArray) (w : World) (L M : Nat) (h : SR w L A n (xs.map Value.string)) (h' : SR w M B m (ys.map Value.string)) (hL : L ≤ w.heap.size) (hM : M ≤ w.heap.size) (hn : n ≤ 1048576) (hm : m ≤ 1048576) :
    Calls Tryz.prog 133 #[.slice A n c, .slice B m d] w (Post (decide (xs = ys)) w) := by
  have HX := Lib.hid h.strlen
  have HY := Lib.hid h'.strlen
  by_cases hq : n = m
  · subst hq
    go_enter Tryz.func133, Tryz.ntmps133
    go_wp2_with fail
    go_loopw [5, 13] (fun _ i wr => ∃ k : Nat, k ≤ n ∧ i = .int .i64 k ∧ (∀ (j : Nat) x y, j < k → xs[j]? = some x → ys[j]? = some y → x = y) ∧ Dr w wr) (fun _ i _ => n - (intOf i).toNat)
    case atStart => exact ⟨0, Nat.zero_le _, rfl, fun j x y hj => absurd hj (Nat.not_lt_zero j), Dr.refl _⟩
    case round =>
      obtain ⟨k, hk, rfl, hall, hdr⟩ := hrel
      have HA := Lib.hid hall
      clear hall
      by_cases hlt : k < n
      · obtain ⟨b1, o1, x, rfl, hb1, hx, cx⟩ := h.str hlt
        obtain ⟨b2, o2, y, rfl, hb2, hy, cy⟩ := h'.str hlt
        have ex := (hdr.cell ⟨b1, o1 + k, none⟩).trans cx
        have ey := (hdr.cell ⟨b2, o2 + k, none⟩).trans cy
        have hbb1 : b1 < wr.heap.size := by rw [hdr.size]; omega
        have hbb2 : b2 < wr.heap.size := by rw [hdr.size]; omega
        have HXx := Lib.hid hx
        have HYy := Lib.hid hy
        clear hx hy cx cy
        cases he : (x.toList == y.toList) with
        | true =>
          have HE := Lib.hid (str_eq he)
          have he2 : (x.toList != y.toList) = false := by rw [bne, he]; rfl
          go_wp2_with fail
          go_quiet (fail)
          go_wp2_with fail
          go_roundw
          case rel => exact ⟨k + 1, by omega, by go_num, fun j x' y' hj hx' hy' => by
            by_cases e : j = k
            · subst e; rw [HXx.out] at hx'; rw [HYy.out] at hy'; injection hx' with e1; injection hy' with e2; rw [← e1, ← e2]; exact HE.out
            · exact HA.out j x' y' (by omega) hx' hy', hdr.more _⟩
          case measure => simp [intOf]; omega
        | false =>
          have HE := Lib.hid (str_ne he)
          have he2 : (x.toList != y.toList) = true := by rw [bne, he]; rfl
          have HN : Hid (decide (xs = ys) = false) := Lib.hid (decide_eq_false fun e => HE.out (by
            have h1 := HXx.out; rw [e, HYy.out] at h1; injection h1 with h1; exact h1.symm))
          go_wp2_with fail
          go_quiet (fail)
          go_wp2_with fail
          go_ret
          exact ⟨by rw [HN.out]; rfl, (hdr.more _).below _⟩
      · obtain rfl : k = n := by omega
        have HYs : Hid (decide (xs = ys) = true) := Lib.hid (decide_eq_true (by
          refine List.ext_getElem? (fun j => ?_)
          by_cases hj : j < k
          · have ex : xs[j]? = some (xs[j]'(by rw [HX.out]; exact hj)) := List.getElem?_eq_getElem _
            have ey : ys[j]? = some (ys[j]'(by rw [HY.out]; exact hj)) := List.getElem?_eq_getElem _
            rw [ex, ey, HA.out j _ _ hj ex ey]
          · rw [List.getElem?_eq_none (by rw [HX.out]; omega), List.getElem?_eq_none (by rw [HY.out]; omega)]))
        go_wp2_with fail
        go_ret
        exact ⟨by rw [HYs.out]; rfl, hdr.below _⟩
  · have HN : Hid (decide (xs = ys) = false) := Lib.hid (decide_eq_false fun e => hq (by rw [← HX.out, ← HY.out, e]))
    have hq' : ¬ (n : Int) = m := by omega
    go_enter Tryz.func133, Tryz.ntmps133
    go_wp2_with fail
    go_ret
    exact ⟨by rw [HN.out]; rfl, Below.refl _ _⟩
def fitB (a b : Big) : Bool := decide ((a.sites.length : Int) = b.roots) && decide (nms a.inner = b.outer)
set_option maxRecDepth 20000 in
set_option maxHeartbeats 3200000 in
theorem are_any (A : Option Addr) (n c : Nat) (cs : List Ctl) (va : Value) (a : Big) (vb : Value) (b : Big) (w : World) (hC : CtlsAt w w.heap.size A n cs) (hn : n ≤ 1048576) (hs : ∀ c ∈ cs, c.name.size ≤ 1048576) (hva : BigAt w w.heap.size va a) (hSa : BigS a) (hwa : BigW a) (hNa : NilV va) (hvb : BigAt w w.heap.size vb b) (hSb : BigS b) (hwb : BigW b) (hNb : NilV vb) :
    Calls Tryz.prog 110 #[.slice A n c, va, vb] w (Post (bigB cs a && bigB cs b) w) := by
  obtain ⟨A1, n1, c1, A2, n2, c2, A4, n4, c4, A5, n5, c5, rfl, h1, h2, h4, h5⟩ := hva
  obtain ⟨B1, m1, d1, B2, m2, d2, B4, m4, d4, B5, m5, d5, rfl, k1, k2, k4, k5⟩ := hvb
  have HGa := Lib.hid (fun (w2 : World) (hb2 : Below w.heap.size w w2) => isBig_any A n c cs (.agg #[.int .i64 a.roots, .slice A1 n1 c1, .slice A2 n2 c2, .int .i64 a.edges, .slice A4 n4 c4, .slice A5 n5 c5]) a w2 ((hC.below hb2).wide hb2.size) (BigAt.wide (BigAt.below ⟨_, _, _, _, _, _, _, _, _, _, _, _, rfl, h1, h2, h4, h5⟩ hb2) hb2.size) hn hs hSa hwa)
  have HGb := Lib.hid (fun (w2 : World) (hb2 : Below w.heap.size w w2) => isBig_any A n c cs (.agg #[.int .i64 b.roots, .slice B1 m1 d1, .slice B2 m2 d2, .int .i64 b.edges, .slice B4 m4 d4, .slice B5 m5 d5]) b w2 ((hC.below hb2).wide hb2.size) (BigAt.wide (BigAt.below ⟨_, _, _, _, _, _, _, _, _, _, _, _, rfl, k1, k2, k4, k5⟩ hb2) hb2.size) hn hs hSb hwb)
  have HBa : Hid (BoxAt (w.alloc (.cells #[.int .i64 a.roots, .slice A1 n1 c1, .slice A2 n2 c2, .int .i64 a.edges, .slice A4 n4 c4, .slice A5 n5 c5] 36)) w.heap.size 36 (.int .i64 a.roots) (.slice A1 n1 c1) (.slice A2 n2 c2) (.int .i64 a.edges) (.slice A4 n4 c4) (.slice A5 n5 c5)) := Lib.hid (six_new w _ _ _ _ _ _ _)
  have hb0 := (Below.refl w.heap.size w).alloc (Nat.le_refl _) (.cells #[.int .i64 a.roots, .slice A1 n1 c1, .slice A2 n2 c2, .int .i64 a.edges, .slice A4 n4 c4, .slice A5 n5 c5] 36)
  obtain ⟨U, hU⟩ : ∃ U, w.alloc (.cells #[.int .i64 a.roots, .slice A1 n1 c1, .slice A2 n2 c2, .int .i64 a.edges, .slice A4 n4 c4, .slice A5 n5 c5] 36) = U := ⟨_, rfl⟩
  have hUz : U.heap.size = w.heap.size + 1 := by rw [← hU]; simp
  rw [hU] at HBa hb0
  have HBb : Hid (BoxAt (U.alloc (.cells #[.int .i64 b.roots, .slice B1 m1 d1, .slice B2 m2 d2, .int .i64 b.edges, .slice B4 m4 d4, .slice B5 m5 d5] 36)) U.heap.size 36 (.int .i64 b.roots) (.slice B1 m1 d1) (.slice B2 m2 d2) (.int .i64 b.edges) (.slice B4 m4 d4) (.slice B5 m5 d5)) := Lib.hid (six_new U _ _ _ _ _ _ _)
  have hb1 := (Below.refl U.heap.size U).alloc (Nat.le_refl _) (.cells #[.int .i64 b.roots, .slice B1 m1 d1, .slice B2 m2 d2, .int .i64 b.edges, .slice B4 m4 d4, .slice B5 m5 d5] 36)
  have HBa := Lib.hid (HBa.out.on hb1)
  obtain ⟨W, hW⟩ : ∃ W, U.alloc (.cells #[.int .i64 b.roots, .slice B1 m1 d1, .slice B2 m2 d2, .int .i64 b.edges, .slice B4 m4 d4, .slice B5 m5 d5] 36) = W := ⟨_, rfl⟩
  have hWz : W.heap.size = w.heap.size + 2 := by rw [← hW]; simp; omega
  rw [hW] at HBa HBb hb1
  rw [hUz] at HBb
  have HUq := Lib.hid hU
  have HWq := Lib.hid hW
  have HB0 := Lib.hid (hb0.trans (hb1.mono hb0.size))
  have HWz := Lib.hid hWz
  have ha1 : w.heap.size < W.heap.size := by omega
  have ha2 : w.heap.size + 1 < W.heap.size := by omega
  clear hU hW hb0 hb1 hUz hWz
  have hB0 := HB0.out
  obtain ⟨p, hp⟩ : ∃ p, bigB cs a = p := ⟨_, rfl⟩
  obtain ⟨q, hq⟩ : ∃ q, bigB cs b = q := ⟨_, rfl⟩
  rw [hp] at HGa
  rw [hq] at HGb
  rw [hp, hq]
  clear hp hq hC hn hs hSa hwa hNa hSb hwb hNb
  obtain ⟨x0, x1, x2, x3, x4, x5⟩ := HBa.out.get
  obtain ⟨y0, y1, y2, y3, y4, y5⟩ := HBb.out.get
  go_enter Tryz.func110, Tryz.ntmps110
  go_wp2_with fail
  rw [HUq.out, HWq.out]
  go_wp2_with fail
  refine (HGa.out _ hB0).mono ?_
  rintro e w1 ⟨rfl, hb⟩
  have hB1 := hB0.trans (hb.mono hB0.size)
  have HTa := Lib.hid (HBa.out.on hb)
  have HTb := Lib.hid (HBb.out.on hb)
  clear x0 x1 x2 x3 x4 x5 y0 y1 y2 y3 y4 y5
  clear hb HBa HBb
  have HBa := Lib.hid HTa.out
  have HBb := Lib.hid HTb.out
  clear HTa HTb
  obtain ⟨x0, x1, x2, x3, x4, x5⟩ := HBa.out.get
  obtain ⟨y0, y1, y2, y3, y4, y5⟩ := HBb.out.get
  cases p with
  | false =>
    go_wp2_with fail
    go_ret
    exact ⟨rfl, hB1⟩
  | true =>
    go_wp2_with fail
    refine (HGb.out _ hB1).mono ?_
    rintro e w2 ⟨rfl, hb⟩
    have hB2 := hB1.trans (hb.mono hB1.size)
    have HTa := Lib.hid (HBa.out.on hb)
    have HTb := Lib.hid (HBb.out.on hb)
    clear x0 x1 x2 x3 x4 x5 y0 y1 y2 y3 y4 y5
    clear hb HBa HBb
    have HBa := Lib.hid HTa.out
    have HBb := Lib.hid HTb.out
    clear HTa HTb
    obtain ⟨x0, x1, x2, x3, x4, x5⟩ := HBa.out.get
    obtain ⟨y0, y1, y2, y3, y4, y5⟩ := HBb.out.get
    go_wp2_with fail
    go_ret
    exact ⟨by cases q <;> rfl, hB2⟩
set_option maxRecDepth 20000 in
set_option maxHeartbeats 3200000 in
theorem iFt_any (A : Option Addr) (n c : Nat) (cs : List Ctl) (va : Value) (a : Big) (vb : Value) (b : Big) (w : World) (hC : CtlsAt w w.heap.size A n cs) (hn : n ≤ 1048576) (hs : ∀ c ∈ cs, c.name.size ≤ 1048576) (hva : BigAt w w.heap.size va a) (hSa : BigS a) (hwa : BigW a) (hNa : NilV va) (hvb : BigAt w w.heap.size vb b) (hSb : BigS b) (hwb : BigW b) (hNb : NilV vb) :
    Calls Tryz.prog 101 #[.slice A n c, va, vb] w fun e w' => e = .returned (.tuple #[.bool (bigB cs a && bigB cs b && fitB a b), .bool (bigB cs a && bigB cs b)]) ∧ Below w.heap.size w w' := by
  obtain ⟨A1, n1, c1, A2, n2, c2, A4, n4, c4, A5, n5, c5, rfl, h1, h2, h4, h5⟩ := hva
  obtain ⟨B1, m1, d1, B2, m2, d2, B4, m4, d4, B5, m5, d5, rfl, k1, k2, k4, k5⟩ := hvb
  have HGo := Lib.hid (fun (w2 : World) (hb2 : Below w.heap.size w w2) => are_any A n c cs (.agg #[.int .i64 a.roots, .slice A1 n1 c1, .slice A2 n2 c2, .int .i64 a.edges, .slice A4 n4 c4, .slice A5 n5 c5]) a (.agg #[.int .i64 b.roots, .slice B1 m1 d1, .slice B2 m2 d2, .int .i64 b.edges, .slice B4 m4 d4, .slice B5 m5 d5]) b w2 ((hC.below hb2).wide hb2.size) hn hs (BigAt.wide (BigAt.below ⟨_, _, _, _, _, _, _, _, _, _, _, _, rfl, h1, h2, h4, h5⟩ hb2) hb2.size) hSa hwa hNa (BigAt.wide (BigAt.below ⟨_, _, _, _, _, _, _, _, _, _, _, _, rfl, k1, k2, k4, k5⟩ hb2) hb2.size) hSb hwb hNb)
  have HBa : Hid (BoxAt (w.alloc (.cells #[.int .i64 a.roots, .slice A1 n1 c1, .slice A2 n2 c2, .int .i64 a.edges, .slice A4 n4 c4, .slice A5 n5 c5] 36)) w.heap.size 36 (.int .i64 a.roots) (.slice A1 n1 c1) (.slice A2 n2 c2) (.int .i64 a.edges) (.slice A4 n4 c4) (.slice A5 n5 c5)) := Lib.hid (six_new w _ _ _ _ _ _ _)
  have hb0 := (Below.refl w.heap.size w).alloc (Nat.le_refl _) (.cells #[.int .i64 a.roots, .slice A1 n1 c1, .slice A2 n2 c2, .int .i64 a.edges, .slice A4 n4 c4, .slice A5 n5 c5] 36)
  obtain ⟨U, hU⟩ : ∃ U, w.alloc (.cells #[.int .i64 a.roots, .slice A1 n1 c1, .slice A2 n2 c2, .int .i64 a.edges, .slice A4 n4 c4, .slice A5 n5 c5] 36) = U := ⟨_, rfl⟩
  have hUz : U.heap.size = w.heap.size + 1 := by rw [← hU]; simp
  rw [hU] at HBa hb0
  have HBb : Hid (BoxAt (U.alloc (.cells #[.int .i64 b.roots, .slice B1 m1 d1, .slice B2 m2 d2, .int .i64 b.edges, .slice B4 m4 d4, .slice B5 m5 d5] 36)) U.heap.size 36 (.int .i64 b.roots) (.slice B1 m1 d1) (.slice B2 m2 d2) (.int .i64 b.edges) (.slice B4 m4 d4) (.slice B5 m5 d5)) := Lib.hid (six_new U _ _ _ _ _ _ _)
  have hb1 := (Below.refl U.heap.size U).alloc (Nat.le_refl _) (.cells #[.int .i64 b.roots, .slice B1 m1 d1, .slice B2 m2 d2, .int .i64 b.edges, .slice B4 m4 d4, .slice B5 m5 d5] 36)
  have HBa := Lib.hid (HBa.out.on hb1)
  obtain ⟨W, hW⟩ : ∃ W, U.alloc (.cells #[.int .i64 b.roots, .slice B1 m1 d1, .slice B2 m2 d2, .int .i64 b.edges, .slice B4 m4 d4, .slice B5 m5 d5] 36) = W := ⟨_, rfl⟩
  have hWz : W.heap.size = w.heap.size + 2 := by rw [← hW]; simp; omega
  rw [hW] at HBa HBb hb1
  rw [hUz] at HBb
  have HUq := Lib.hid hU
  have HWq := Lib.hid hW
  have HB0 := Lib.hid (hb0.trans (hb1.mono hb0.size))
  have HWz := Lib.hid hWz
  have ha1 : w.heap.size < W.heap.size := by omega
  have ha2 : w.heap.size + 1 < W.heap.size := by omega
  clear hU hW hb0 hb1 hUz hWz
  have hB0 := HB0.out
  have q5 : n5 ≤ 1048576 := by have := hSa.2.2.2.2.2.1; rw [h5.1] at this; exact this
  have q4 : m4 ≤ 1048576 := by have := hSb.2.2.2.1; rw [k4.strlen] at this; exact this
  have q2 : n2 ≤ 1048576 := by have := hSa.2.2.1; rw [h2.len] at this; exact this
  obtain ⟨R, hR⟩ : ∃ R, b.roots = R := ⟨_, rfl⟩
  have HF : Hid (fitB a b = (decide ((n2 : Int) = R) && decide (nms a.inner = b.outer))) := Lib.hid (by unfold fitB; rw [h2.len, hR])
  have HNl : Hid (((nms a.inner).map Value.string).length = n5) := Lib.hid (by rw [List.length_map]; unfold nms; rw [List.length_map]; exact h5.1)
  obtain ⟨r, hr⟩ : ∃ q, decide (nms a.inner = b.outer) = q := ⟨_, rfl⟩
  have HI := Lib.hid (fun (w2 : World) (hb2 : Below w.heap.size w w2) => innerN_any (.int .i64 a.roots) (.slice A1 n1 c1) (.slice A2 n2 c2) (.int .i64 a.edges) (.slice A4 n4 c4) A5 n5 c5 a.inner w w2 h5 hb2 q5)
  have HEq := Lib.hid (fun (A : Option Addr) (c : Nat) (w2 : World) (hs : SR w2 w2.heap.size A n5 ((nms a.inner).map Value.string)) (hb2 : Below w.heap.size w w2) => hr ▸ eqStr_any A n5 c (nms a.inner) B4 m4 d4 b.outer w2 _ _ hs (k4.below hb2) (Nat.le_refl _) hb2.size q5 q4)
  rw [hr] at HF
  rw [hR] at HBb HWq HGo
  obtain ⟨p, hp⟩ : ∃ p, (bigB cs a && bigB cs b) = p := ⟨_, rfl⟩
  rw [hp] at HGo
  rw [hR, HF.out, hp]
  clear hr hR hp hC hn hs hSa hwa hNa hSb hwb hNb
  obtain ⟨x0, x1, x2, x3, x4, x5⟩ := HBa.out.get
  obtain ⟨y0, y1, y2, y3, y4, y5⟩ := HBb.out.get
  cases p with
  | false =>
    go_enter Tryz.func101, Tryz.ntmps101
    go_wp2_with fail
    rw [HUq.out, HWq.out]
    go_wp2_with fail
    refine (HGo.out _ hB0).mono ?_
    rintro e w1 ⟨rfl, hb⟩
    have hB1 := hB0.trans (hb.mono hB0.size)
    have HTa := Lib.hid (HBa.out.on hb)
    have HTb := Lib.hid (HBb.out.on hb)
    clear x0 x1 x2 x3 x4 x5 y0 y1 y2 y3 y4 y5
    clear hb HBa HBb
    have HBa := Lib.hid HTa.out
    have HBb := Lib.hid HTb.out
    clear HTa HTb
    obtain ⟨x0, x1, x2, x3, x4, x5⟩ := HBa.out.get
    obtain ⟨y0, y1, y2, y3, y4, y5⟩ := HBb.out.get
    go_wp2_with fail
    go_ret2
    exact ⟨rfl, hB1⟩
  | true =>
    by_cases hE : (n2 : Int) = R
    · subst hE
      go_enter Tryz.func101, Tryz.ntmps101
      go_wp2_with fail
      rw [HUq.out, HWq.out]
      go_wp2_with fail
      refine (HGo.out _ hB0).mono ?_
      rintro e w1 ⟨rfl, hb⟩
      have hB1 := hB0.trans (hb.mono hB0.size)
      have HTa := Lib.hid (HBa.out.on hb)
      have HTb := Lib.hid (HBb.out.on hb)
      clear x0 x1 x2 x3 x4 x5 y0 y1 y2 y3 y4 y5
      clear hb HBa HBb
      have HBa := Lib.hid HTa.out
      have HBb := Lib.hid HTb.out
      clear HTa HTb
      obtain ⟨x0, x1, x2, x3, x4, x5⟩ := HBa.out.get
      obtain ⟨y0, y1, y2, y3, y4, y5⟩ := HBb.out.get
      go_wp2_with fail
      have hkD := (Below.refl w1.heap.size w1).drew
      go_region_held3 (fun w' => (w'.cell? ⟨w.heap.size, 0, none⟩ = some (.int .i64 a.roots) ∧ w'.cell? ⟨w.heap.size, 1, none⟩ = some (.slice A1 n1 c1) ∧ w'.cell? ⟨w.heap.size, 2, none⟩ = some (.slice A2 n2 c2) ∧ w'.cell? ⟨w.heap.size, 3, none⟩ = some (.int .i64 a.edges) ∧ w'.cell? ⟨w.heap.size, 4, none⟩ = some (.slice A4 n4 c4) ∧ w'.cell? ⟨w.heap.size, 5, none⟩ = some (.slice A5 n5 c5)) ∧ (w'.cell? ⟨w.heap.size + 1, 0, none⟩ = some (.int .i64 (n2 : Int)) ∧ w'.cell? ⟨w.heap.size + 1, 1, none⟩ = some (.slice B1 m1 d1) ∧ w'.cell? ⟨w.heap.size + 1, 2, none⟩ = some (.slice B2 m2 d2) ∧ w'.cell? ⟨w.heap.size + 1, 3, none⟩ = some (.int .i64 b.edges) ∧ w'.cell? ⟨w.heap.size + 1, 4, none⟩ = some (.slice B4 m4 d4) ∧ w'.cell? ⟨w.heap.size + 1, 5, none⟩ = some (.slice B5 m5 d5))) (first | exact ⟨(HBa.out.on hk3).get, (HBb.out.on hk3).get⟩ | exact ⟨(HBa.out.on hk2).get, (HBb.out.on hk2).get⟩ | exact ⟨(HBa.out.on hkD).get, (HBb.out.on hkD).get⟩)
        (first
         | (go_at_call 169; refine (HI.out _ (hB1.trans (hkD.mono hB1.size))).mono ?_; rintro e w2 ⟨v2, rfl, ho, hb2⟩; obtain ⟨g2, cap2, rfl, -, -, -, hs2⟩ := ho.at; rw [HNl.out] at hs2; rw [HNl.out]; have hk2 := hkD.trans (hb2.mono hkD.size))
         | (go_at_call 133; refine (HEq.out _ _ w2 hs2 (hB1.trans (hk2.mono hB1.size))).mono ?_; rintro e w3 ⟨rfl, hb3⟩; have hk3 := hk2.trans (hb3.mono hk2.size)))
      have hb9 := hB1.trans (hk3.mono hB1.size)
      clear hk3 hk2 hkD hb2 hb3 ho hs2
      go_wp2_with fail
      go_ret2
      exact ⟨by simp, hb9⟩
    · have hd : decide ((n2 : Int) = R) = false := decide_eq_false hE
      have hd2 : ((n2 : Int) == R) = false := hd
      go_enter Tryz.func101, Tryz.ntmps101
      go_wp2_with fail
      rw [HUq.out, HWq.out]
      go_wp2_with fail
      refine (HGo.out _ hB0).mono ?_
      rintro e w1 ⟨rfl, hb⟩
      have hB1 := hB0.trans (hb.mono hB0.size)
      have HTa := Lib.hid (HBa.out.on hb)
      have HTb := Lib.hid (HBb.out.on hb)
      clear x0 x1 x2 x3 x4 x5 y0 y1 y2 y3 y4 y5
      clear hb HBa HBb
      have HBa := Lib.hid HTa.out
      have HBb := Lib.hid HTb.out
      clear HTa HTb
      obtain ⟨x0, x1, x2, x3, x4, x5⟩ := HBa.out.get
      obtain ⟨y0, y1, y2, y3, y4, y5⟩ := HBb.out.get
      go_wp2_with fail
      go_quiet (fail)
      have hb9 := below_drewN hB1 nq
      clear x0 x1 x2 x3 x4 x5 y0 y1 y2 y3 y4 y5
      go_wp2_with fail
      go_ret2
      exact ⟨by rw [hd]; rfl, hb9⟩
end Go.Proofs.YtfjgapkjpmkplaaGreat.ft
end
section
namespace Go.Proofs.YtfjgapkjpmkplaaGreat.gt
set_option linter.unusedVariables false
section
variable {P : Program} {ops : Array Oper} {md : Region.Mode} {S : World → Prop} {n : Nat} {Q : Exit → Act → World → Prop}
theorem go_two {i j : Nat} {oi oj : Oper} {f : Nat} {listed : Array Bool} {a : Act} {w : World} (hi : ops[i]? = some oi) (hj : ops[j]? = some oj)
    (hB : (decide (i < n) && decide (j < n) && decide (Region.ready md ops listed = [i, j])) = true)
    (h1 : ∀ K' : Act → World → Prop, Shut (∀ a w, S w → (S w → rh.Go_ P md ops Q S n f (listed.setIfInBounds i true) a w) → K' a w) → if Region.wanted oi (yielded ops a.tmps) = true then Oper.wp P oi a w K' Q else K' (a.put oi.dst undef) w)
    (h2 : ∀ K' : Act → World → Prop, Shut (∀ a w, S w → (S w → rh.Go_ P md ops Q S n f (listed.setIfInBounds j true) a w) → K' a w) → if Region.wanted oj (yielded ops a.tmps) = true then Oper.wp P oj a w K' Q else K' (a.put oj.dst undef) w) : rh.Go_ P md ops Q S n (f + 1) listed a w := fun inv => by
  simp only [Bool.and_eq_true, decide_eq_true_eq] at hB
  obtain ⟨⟨hin, hjn⟩, hr⟩ := hB
  refine ⟨fun h0 => (by rw [hr] at h0; cases h0), fun k hk => ?_⟩
  have hk' := hk
  rw [hr] at hk
  rcases List.mem_cons.1 hk with e | hk
  · subst e
    exact wpOp_step hi (fun K' hK => h1 K' (fun a w hS hW => hK a w ⟨fun _ => hS, hW hS (inv.set hk' hin)⟩))
  · obtain rfl : k = j := by simpa using hk
    exact wpOp_step hj (fun K' hK => h2 K' (fun a w hS hW => hK a w ⟨fun _ => hS, hW hS (inv.set hk' hjn)⟩))
end
end Go.Proofs.YtfjgapkjpmkplaaGreat.gt
end
section
namespace Go.Proofs.YtfjgapkjpmkplaaGreat.su
open kit bg sg opn strs only sig un over gn nm
open Go.RowKit Go.Sort Go.Lib
set_option linter.unusedVariables false
theorem bl_lt : ∀ a b : List UInt8, Op.bytesLess a b = true ↔ a < b
  | [], [] => by simp [Op.bytesLess]
  | [], y :: b => by simp [Op.bytesLess]
  | x :: a, [] => by simp [Op.bytesLess]
  | x :: a, y :: b => by
    have ih := bl_lt a b
    simp only [Op.bytesLess, Bool.or_eq_true, Bool.and_eq_true, decide_eq_true_eq, List.cons_lt_cons_iff, ih, beq_iff_eq]
def ltS (a b : ByteArray) : Prop := a.toList < b.toList
theorem ltS_irr (a : ByteArray) : ¬ ltS a a := List.lt_irrefl _
theorem ltS_trans {a b c : ByteArray} (h : ltS a b) (k : ltS b c) : ltS a c := List.lt_trans h k
theorem toL_inj {a b : ByteArray} (h : a.toList = b.toList) : a = b := str_eq (by rw [h]; exact beq_self_eq_true _)
theorem ltS_tri (a b : ByteArray) (h : ¬ ltS a b) (hne : a ≠ b) : ltS b a := by
  by_cases h2 : b.toList < a.toList
  · exact h2
  · exact absurd (toL_inj (List.le_antisymm (List.not_lt.1 h2) (List.not_lt.1 h))) hne
open Classical in
noncomputable def insU (x : ByteArray) : List ByteArray → List ByteArray
  | [] => [x]
  | y :: l => if ltS y x then y :: insU x l else if y = x then y :: l else x :: y :: l
theorem ins_mem (x z : ByteArray) : ∀ l, z ∈ insU x l ↔ z = x ∨ z ∈ l
  | [] => by simp [insU]
  | y :: l => by
    unfold insU
    split
    · rw [List.mem_cons, ins_mem x z l, List.mem_cons]
      constructor
      · rintro (h | h | h)
        · exact .inr (.inl h)
        · exact .inl h
        · exact .inr (.inr h)
      · rintro (h | h | h)
        · exact .inr (.inl h)
        · exact .inl h
        · exact .inr (.inr h)
    · split
      · next h => subst h; simp
      · simp
theorem ins_pw (x : ByteArray) : ∀ l, l.Pairwise ltS → (insU x l).Pairwise ltS
  | [], _ => by simp [insU]
  | y :: l, h => by
    obtain ⟨h1, h2⟩ := List.pairwise_cons.1 h
    unfold insU
    split
    · next hlt =>
      refine List.pairwise_cons.2 ⟨fun z hz => ?_, ins_pw x l h2⟩
      rcases (ins_mem x z l).1 hz with rfl | hz
      · exact hlt
      · exact h1 z hz
    · split
      · exact h
      · next hlt hne =>
        have hxy := ltS_tri _ _ hlt hne
        refine List.pairwise_cons.2 ⟨fun z hz => ?_, h⟩
        rcases List.mem_cons.1 hz with rfl | hz
        · exact hxy
        · exact ltS_trans hxy (h1 z hz)
theorem ins_len (x : ByteArray) : ∀ l, (insU x l).length ≤ l.length + 1
  | [] => by simp [insU]
  | y :: l => by
    have := ins_len x l
    unfold insU
    split
    · simp only [List.length_cons]; omega
    · split <;> simp only [List.length_cons] <;> omega
theorem ins_put {x : ByteArray} : ∀ (l : List ByteArray) (k : Nat), (∀ (j : Nat) y, j < k → l[j]? = some y → ltS y x) → k ≤ l.length → (∀ y, l[k]? = some y → ¬ ltS y x ∧ y ≠ x) → insU x l = l.take k ++ [x] ++ l.drop k
  | [], k, _, hk, _ => by
    obtain rfl : k = 0 := by simpa using hk
    rfl
  | y :: l, 0, _, _, hn => by
    obtain ⟨a, b⟩ := hn y rfl
    unfold insU
    rw [if_neg a, if_neg b]
    rfl
  | y :: l, k + 1, hlt, hk, hn => by
    have h0 := hlt 0 y (by omega) rfl
    unfold insU
    rw [if_pos h0, ins_put l k (fun j z hj hz => hlt (j + 1) z (by omega) (by simpa using hz)) (by simpa using hk) (fun z hz => hn z (by simpa using hz))]
    rfl
theorem ins_same {x : ByteArray} : ∀ (l : List ByteArray) (k : Nat), (∀ (j : Nat) y, j < k → l[j]? = some y → ltS y x) → l[k]? = some x → insU x l = l
  | [], k, _, h => by simp at h
  | y :: l, 0, _, h => by
    have e : y = x := by simpa using h
    subst e
    unfold insU
    rw [if_neg (ltS_irr _), if_pos rfl]
  | y :: l, k + 1, hlt, h => by
    have h0 := hlt 0 y (by omega) rfl
    unfold insU
    rw [if_pos h0, ins_same l k (fun j z hj hz => hlt (j + 1) z (by omega) (by simpa using hz)) (by simpa using h)]
noncomputable def sortU (ss : List ByteArray) : List ByteArray := ss.foldl (fun o x => insU x o) []
theorem sortU_snoc (ss : List ByteArray) (x : ByteArray) : sortU (ss ++ [x]) = insU x (sortU ss) := by unfold sortU; rw [List.foldl_append]; rfl
theorem sortU_all (ss : List ByteArray) : (∀ z, z ∈ sortU ss ↔ z ∈ ss) ∧ (sortU ss).Pairwise ltS ∧ (sortU ss).length ≤ ss.length := by
  have key : ∀ k, (∀ z, z ∈ sortU (ss.take k) ↔ z ∈ ss.take k) ∧ (sortU (ss.take k)).Pairwise ltS ∧ (sortU (ss.take k)).length ≤ (ss.take k).length := by
    intro k
    induction k with
    | zero => simp [sortU]
    | succ k ih =>
      obtain ⟨i1, i2, i3⟩ := ih
      rw [List.take_add_one]
      cases hx : ss[k]? with
      | none => simp only [Option.toList_none, List.append_nil]; exact ⟨i1, i2, i3⟩
      | some x =>
        simp only [Option.toList_some]
        rw [sortU_snoc]
        refine ⟨fun z => ?_, ins_pw x _ i2, ?_⟩
        · rw [ins_mem, i1, List.mem_append, List.mem_singleton]
          exact ⟨fun h => h.symm, fun h => h.symm⟩
        · have := ins_len x (sortU (ss.take k))
          rw [List.length_append, List.length_singleton]
          omega
  have := key ss.length
  rw [List.take_length] at this
  exact this
theorem sortU_mem {ss : List ByteArray} {z : ByteArray} : z ∈ sortU ss ↔ z ∈ ss := (sortU_all ss).1 z
theorem sortU_pw (ss : List ByteArray) : (sortU ss).Pairwise ltS := (sortU_all ss).2.1
theorem sortU_len (ss : List ByteArray) : (sortU ss).length ≤ ss.length := (sortU_all ss).2.2
theorem pw_uniq : ∀ (l l' : List ByteArray), l.Pairwise ltS → l'.Pairwise ltS → (∀ x, x ∈ l ↔ x ∈ l') → l = l'
  | [], [], _, _, _ => rfl
  | [], y :: l', _, _, h => absurd ((h y).2 List.mem_cons_self) (by simp)
  | y :: l, [], _, _, h => absurd ((h y).1 List.mem_cons_self) (by simp)
  | y :: l, y' :: l', h1, h2, h => by
    obtain ⟨a1, b1⟩ := List.pairwise_cons.1 h1
    obtain ⟨a2, b2⟩ := List.pairwise_cons.1 h2
    have e : y = y' := by
      rcases List.mem_cons.1 ((h y).1 List.mem_cons_self) with e | e
      · exact e
      · rcases List.mem_cons.1 ((h y').2 List.mem_cons_self) with e2 | e2
        · exact e2.symm
        · exact absurd (ltS_trans (a1 _ e2) (a2 _ e)) (ltS_irr _)
    subst e
    congr 1
    refine pw_uniq l l' b1 b2 (fun x => ⟨fun hx => ?_, fun hx => ?_⟩)
    · rcases List.mem_cons.1 ((h x).1 (List.mem_cons_of_mem _ hx)) with e | e
      · subst e; exact absurd (a1 _ hx) (ltS_irr _)
      · exact e
    · rcases List.mem_cons.1 ((h x).2 (List.mem_cons_of_mem _ hx)) with e | e
      · subst e; exact absurd (a2 _ hx) (ltS_irr _)
      · exact e
theorem sortU_is {ss l : List ByteArray} (h : l.Pairwise ltS) (hm : ∀ x, x ∈ l ↔ x ∈ ss) : l = sortU ss := pw_uniq l _ h (sortU_pw ss) (fun x => (hm x).trans sortU_mem.symm)
theorem pw_of {α : Type} {r : α → α → Prop} (ht : ∀ a b c, r a b → r b c → r a c) : ∀ (l : List α), (∀ (k : Nat) a b, l[k]? = some a → l[k + 1]? = some b → r a b) → l.Pairwise r
  | [], _ => List.Pairwise.nil
  | [a], _ => by simp
  | a :: b :: l, h => by
    have ih := pw_of ht (b :: l) (fun k x y h1 h2 => h (k + 1) x y h1 h2)
    have hab := h 0 a b rfl rfl
    refine List.pairwise_cons.2 ⟨fun z hz => ?_, ih⟩
    rcases List.mem_cons.1 hz with rfl | hz
    · exact hab
    · exact ht _ _ _ hab ((List.pairwise_cons.1 ih).1 z hz)
theorem names_ltS {ss : List ByteArray} (h : NamesP ss) : ss.Pairwise ltS :=
  pw_of (r := ltS) (fun _ _ _ h1 h2 => ltS_trans h1 h2) ss (fun k a b h1 h2 => (bl_lt a.toList b.toList).1 (h.2 k a b h1 h2))
theorem sortU_id {ss : List ByteArray} (h : NamesP ss) : sortU ss = ss := (sortU_is (names_ltS h) (fun _ => Iff.rfl)).symm
def lists (ss : List ByteArray) : List (List UInt8) := ss.map fun s => s.data.toList
theorem lists_enc (ss : List ByteArray) : (lists ss).map encStr = ss.map Value.string := by
  unfold lists
  rw [List.map_map]
  exact List.map_congr_left (fun s _ => by simp [encStr])
theorem back_enc (ls : List (List UInt8)) : ls.map encStr = (ls.map fun l => (⟨l.toArray⟩ : ByteArray)).map Value.string := by
  rw [List.map_map]
  rfl
theorem compact_pw (d : Array (List UInt8)) (hd : ∀ i j, i ≤ j → j < d.size → d[i]! ≤ d[j]!) : ∀ m, m ≤ d.size → (compactUpTo d m).Pairwise (· < ·) ∧ ∀ x, x ∈ compactUpTo d m ↔ ∃ j, j < m ∧ d[j]! = x := by
  intro m
  induction m with
  | zero => intro _; simp [compactUpTo]
  | succ m ih =>
    intro hm
    obtain ⟨i1, i2⟩ := ih (by omega)
    rw [compactUpTo_succ]
    cases hk : keeps d m with
    | true =>
      have hk2 : m = 0 ∨ d[m]! ≠ d[m - 1]! := by simpa [keeps] using hk
      rw [if_pos rfl]
      refine ⟨List.pairwise_append.2 ⟨i1, List.pairwise_singleton _ _, fun a ha b hb => ?_⟩, fun x => ?_⟩
      · rw [List.mem_singleton] at hb
        subst hb
        obtain ⟨j, hj, rfl⟩ := (i2 a).1 ha
        have h1 := hd j (m - 1) (by omega) (by omega)
        have h2 := hd (m - 1) m (by omega) (by omega)
        have h3 : d[m - 1]! < d[m]! := by
          by_cases h : d[m - 1]! < d[m]!
          · exact h
          · exact absurd (List.le_antisymm (List.not_lt.1 h) h2) (hk2.resolve_left (by omega))
        by_cases h : d[j]! < d[m]!
        · exact h
        · have h4 := List.not_lt.1 h
          exact absurd (List.le_antisymm (List.le_trans h4 h1) h2) (hk2.resolve_left (by omega))
      · rw [List.mem_append, List.mem_singleton, i2]
        constructor
        · rintro (⟨j, hj, e⟩ | e)
          · exact ⟨j, by omega, e⟩
          · exact ⟨m, by omega, e.symm⟩
        · rintro ⟨j, hj, e⟩
          by_cases h : j = m
          · subst h; exact .inr e.symm
          · exact .inl ⟨j, by omega, e⟩
    | false =>
      rw [if_neg (by simp), List.append_nil]
      have hk2 : ¬ (m = 0 ∨ d[m]! ≠ d[m - 1]!) := by
        intro h
        have : keeps d m = true := by unfold keeps; exact decide_eq_true h
        rw [this] at hk
        cases hk
      refine ⟨i1, fun x => (i2 x).trans ⟨fun ⟨j, hj, e⟩ => ⟨j, by omega, e⟩, fun ⟨j, hj, e⟩ => ?_⟩⟩
      by_cases h : j = m
      · subst h
        have hm0 : ¬ j = 0 := fun h => hk2 (.inl h)
        have he : d[j]! = d[j - 1]! := Classical.byContradiction fun h => hk2 (.inr h)
        exact ⟨j - 1, by omega, he ▸ e⟩
      · exact ⟨j, by omega, e⟩
theorem compact_sorted (ss : List ByteArray) : (compact ((lists ss).mergeSort fun x y => decide (x ≤ y))).map (fun l => (⟨l.toArray⟩ : ByteArray)) = sortU ss := by
  obtain ⟨L, hL⟩ : ∃ L, (lists ss).mergeSort (fun x y => decide (x ≤ y)) = L := ⟨_, rfl⟩
  have hp : L.Perm (lists ss) := hL ▸ List.mergeSort_perm _ _
  have hs : L.Pairwise (fun x y => decide (x ≤ y) = true) := by
    rw [← hL]
    refine List.pairwise_mergeSort (fun a b c h1 h2 => ?_) (fun a b => ?_) _
    · exact decide_eq_true (List.le_trans (of_decide_eq_true h1) (of_decide_eq_true h2))
    · rcases List.le_total a b with h | h
      · rw [decide_eq_true h]; rfl
      · rw [decide_eq_true h, Bool.or_true]
  rw [hL]
  clear hL
  unfold compact
  rw [show L.length = L.toArray.size from List.size_toArray.symm]
  obtain ⟨h1, h2⟩ := compact_pw L.toArray (fun i j hij hj => by
    have hj' : j < L.length := by simpa using hj
    by_cases e : i = j
    · subst e; exact List.le_refl _
    · have := List.pairwise_iff_getElem.1 hs i j (by omega) hj' (by omega)
      simpa [getElem!_pos, show i < L.length by omega, hj'] using of_decide_eq_true this) L.toArray.size (Nat.le_refl _)
  refine sortU_is ?_ (fun x => ?_)
  · refine List.pairwise_map.2 (h1.imp fun {a b} h => ?_)
    show (ByteArray.mk a.toArray).toList < (ByteArray.mk b.toArray).toList
    rw [ByteArray.toList_eq, ByteArray.toList_eq]
    exact h
  · rw [List.mem_map]
    constructor
    · rintro ⟨l, hl, rfl⟩
      obtain ⟨j, hj, e⟩ := (h2 l).1 hl
      have hj' : j < L.length := by simpa using hj
      have hm : l ∈ lists ss := hp.mem_iff.1 (by rw [← e]; simp [getElem!_pos, hj'])
      obtain ⟨s, hs', rfl⟩ := List.mem_map.1 hm
      exact hs'
    · intro hx
      have hm : x.data.toList ∈ L := hp.mem_iff.2 (List.mem_map.2 ⟨x, hx, rfl⟩)
      obtain ⟨j, hj, e⟩ := List.mem_iff_getElem.1 hm
      exact ⟨x.data.toList, (h2 _).2 ⟨j, by simpa using hj, by simp [getElem!_pos, hj, e]⟩, rfl⟩
end Go.Proofs.YtfjgapkjpmkplaaGreat.su
end
section
namespace Go.Proofs.YtfjgapkjpmkplaaGreat.sa
variable {P : Program}
theorem step_append_own {w : World} {ops : Array Oper} {o : Oper} {a : Act} {K : Act → World → Prop} {Q : Exit → Act → World → Prop} {E : Prop} (hgd : o.guard = none) (s x : Operand) (t : TypeId)
    (ho : o.op = .call { callee := .builtin .append, args := #[s, x], argTypes := #[t, t] })
    (base : Nat) (e : TypeId) (i : TypeInfo) (z : Value) (size bytes : Nat) (ht : P.underlying t = some (.slice e)) (hi : P.info? e = some i) (hz : i.zero = some z)
    (hsize : i.size = size) (hby : i.bytes = bytes) (hzs : z.cells.size = size) (hsz : 0 < size)
    (v : Value) (n : Nat) (xs : List Value) (hs : a.eval s = v) (hown : w.ownsRow base e size v n xs)
    (ad : Addr) (m c : Nat) (news : List Value) (hx : a.eval x = .slice (some ad) m c) (hl : news.length = m * size) (hnews : ∀ j u, news[j]? = some u → w.cell? (ad.add j) = some u) (h1 : ∀ u ∈ news, u.oneCell' = true)
    (h63 : n + m ≤ maxLen) (hbytes : (n + m) * bytes ≤ 140737488355328) (hbase : base ≤ w.heap.size)
    (h : ∀ v' w', w'.ownsRow base e size v' (n + m) (xs ++ news) → w.grownBy w' v.ownBlock → (v' = .slice none 0 0 ↔ v = .slice none 0 0 ∧ m = 0) → K (a.put o.dst v') w') :
    if Region.wanted o (yielded ops a.tmps) = true then Oper.wp P o a w K Q else E := by
  have hw : Region.wanted o (yielded ops a.tmps) = true := by simp [Region.wanted, hgd]
  rw [if_pos hw]
  exact wp_append_own w s x t ho base e i z size bytes ht hi hz hsize hby hzs hsz v n xs hs hown ad m c news hx hl hnews h1 h63 hbytes hbase h
end Go.Proofs.YtfjgapkjpmkplaaGreat.sa
end
section
namespace Go.Proofs.YtfjgapkjpmkplaaGreat.vs
open kit bg sg opn strs only sig un over gn nm su
open Go.RowKit Go.Sort Go.Lib
set_option linter.unusedVariables false
attribute [local go_sem] Oper.semAt_some
theorem take_snoc {α : Type} {l : List α} {k : Nat} {x : α} (hx : l[k]? = some x) : l.take (k + 1) = l.take k ++ [x] := by rw [List.take_add_one, hx]; rfl
set_option maxRecDepth 100000 in
set_option maxHeartbeats 2000000 in
theorem vals1_in (F : Fence) (n : Nat) (h7 : F.fn 262) (hro : F.round = none) (hn : 1 ≤ n) (l Bs n₀ : Nat) (A : Option Addr) (len cap : Nat) (ss : List ByteArray) (hlen : len ≤ 1048576) (J Jx : List ByteArray → World → Prop)
    (hY : ∀ pre x W, J pre W → pre.length < len → YieldAt F (n - 1) Tryz.prog l #[.string x] W fun e W' =>
      (e = .returned (.bool true) ∧ J (pre ++ [x]) W' ∧ Below n₀ W W') ∨ (e = .returned (.bool false) ∧ Jx (pre ++ [x]) W'))
    (W : World) (hBs : W.cell? ⟨Bs, 0, none⟩ = some (.slice A len cap)) (hc : SR W n₀ A len (ss.map Value.string)) (h0 : J [] W) :
    CallsIn F n Tryz.prog 262 #[.func (.yield l) #[] #[], .pointer (some ⟨Bs, 0, none⟩)] W fun e W' => (∃ v, e = .returned v) ∧
      ((∃ ys, ys = ss ∧ J ys W') ∨ (∃ pre, pre <+: ss ∧ Jx pre W')) := by
  have HL := Lib.hid hc.strlen
  refine callsIn_of_wp Tryz.func262 rfl h7 ?_ hro
  simp only [Tryz.ntmps262, List.size_toArray, List.length_cons, List.length_nil, Nat.reduceAdd, Nat.reduceSub, Array.replicate_succ, Array.replicate_zero, List.push_toArray, List.append_toArray, List.nil_append, List.cons_append]
  gi_wp2
  gi_loopw [7] (fun i wr => ∃ k : Nat, k ≤ len ∧ i = .int .i64 k ∧ J (ss.take k) wr ∧ Below n₀ W wr)
    (fun i _ => len - (intOf i).toNat)
  case atStart => exact ⟨0, Nat.zero_le _, rfl, h0, Below.refl _ _⟩
  case round =>
    obtain ⟨k, hk, rfl, hJs, hnx⟩ := hrel
    by_cases hlt : k < len
    · obtain ⟨b, off, x, rfl, hbb, hx, hcx⟩ := hc.str hlt
      have hcx' := (hnx.cell (p := ⟨b, off + k, none⟩) hbb).trans hcx
      obtain ⟨fn, tmps, assign, body, hy, hR⟩ := hY _ x wr hJs (by rw [List.length_take]; omega)
      have HR := Lib.hid hR
      have HT := Lib.hid (take_snoc hx)
      have HP : Hid (ss.take (k + 1) <+: ss) := Lib.hid (List.take_prefix _ _)
      clear hR hx hcx hJs
      gi_wp2
      refine HR.out.mono ?_
      rintro e W3 (⟨rfl, hJ3, hk3⟩ | ⟨rfl, hJx3⟩)
      · have HJ3 := Lib.hid (And.intro hJ3 (hnx.trans hk3))
        clear hJ3 hk3
        gi_wp2
        go_roundw
        case rel => exact ⟨k + 1, by omega, by go_num, by rw [HT.out]; exact HJ3.out.1, HJ3.out.2⟩
        case measure => simp [intOf]; omega
      · have HJx := Lib.hid hJx3
        clear hJx3
        gi_wp2
        refine bodyPost_ret (results_none rfl _ _ _) rfl ?_
        exact ⟨⟨_, rfl⟩, .inr ⟨_, by rw [← HT.out]; exact HP.out, HJx.out⟩⟩
    · obtain rfl : len = k := by omega
      rw [List.take_of_length_le (by rw [HL.out]; exact Nat.le_refl _)] at hJs
      have HJs := Lib.hid hJs
      clear hJs
      gi_wp2
      go_end0
      exact ⟨⟨_, rfl⟩, .inl ⟨_, rfl, HJs.out⟩⟩
theorem vals_stops (F : Fence) (n : Nat) (h7 : F.fn 262) (hro : F.round = none) (hn : 1 ≤ n) (Bs n₀ : Nat) (A : Option Addr) (len cap : Nat) (ss : List ByteArray) (hlen : len ≤ 1048576) (w : World) (hBs : Bs < w.heap.size) (hn₀ : n₀ ≤ w.heap.size)
    (hc : w.cell? ⟨Bs, 0, none⟩ = some (.slice A len cap)) (hI : SR w n₀ A len (ss.map Value.string)) :
    SeqStopsK F n Tryz.prog 262 #[.pointer (some ⟨Bs, 0, none⟩)] (fun x : ByteArray => #[Value.string x]) (Below n₀) (fun ys => ys = ss) (fun pre => pre <+: ss) len w := fun l J Jx W hW _ _ hY h0 =>
  vals1_in F n h7 hro hn l Bs n₀ A len cap ss hlen J Jx hY W ((hW.cell (p := ⟨Bs, 0, none⟩) hBs).trans hc) (hI.below (hW.mono hn₀)) h0
theorem append_at {F : Fence} {n : Nat} {P : Program} (w : World) {ops : Array Oper} {rest : List Oper} {o : Oper} {a : Act} {Q : Exit → Act → World → Prop}
    (hg : o.guard = none) (s x : Operand) (t : TypeId) (hop : o.op = Op.call { callee := Callee.builtin Builtin.append, args := #[s, x], argTypes := #[t, t] })
    (base : Nat) (e : TypeId) (i : TypeInfo) (z : Value) (size bytes : Nat) (h1 : P.underlying t = some (.slice e)) (h2 : P.info? e = some i) (h3 : i.zero = some z) (h4 : i.size = size) (h5 : i.bytes = bytes) (h6 : z.cells.size = size) (h7 : 0 < size)
    (v : Value) (k : Nat) (xs : List Value) (hs : a.eval s = v) (hown : w.ownsRow base e size v k xs) (ad : Addr) (m c : Nat) (news : List Value) (hx : a.eval x = .slice (some ad) m c) (hn : news.length = m * size)
    (hc : ∀ j u, news[j]? = some u → w.cell? (ad.add j) = some u) (h1c : ∀ u ∈ news, u.oneCell' = true) (b1 : k + m ≤ maxLen) (b2 : (k + m) * bytes ≤ 140737488355328) (b3 : base ≤ w.heap.size)
    (hK : ∀ v' w', w'.ownsRow base e size v' (k + m) (xs ++ news) → w.grownBy w' v.ownBlock → (v' = .slice none 0 0 ↔ v = .slice none 0 0 ∧ m = 0) → (v'.ownBlock = v.ownBlock ∨ v'.ownBlock = some w.heap.size) → wpListIn F n P ops Q rest (a.put o.dst v') w') :
    wpListIn F n P ops Q (o :: rest) a w := by
  refine wpListIn_plain hg fun K hK' => ?_
  obtain ⟨v', w', hrun, r1, r2, r3, r4⟩ := run_append_own_at (P := P) w base t o.type e i z size bytes h1 h2 h3 h4 h5 h6 h7 v k xs hown ad m c news hn hc h1c b1 b2 b3
  unfold Oper.wpIn
  refine ⟨?_, ?_⟩
  · simp [Oper.about, hop, resolve, Target.leads, Sem.run_pure]
  · rw [Oper.semAt_plain F _ _ (by rw [hop]; intro c hc'; cases hc')]
    simp [execOp, hop, resolve, invoke, builtin, hs, hx, hrun, Result.andThen]
    exact hK' _ _ (hK v' w' r1 r2 r3 r4)
set_option maxRecDepth 100000 in
set_option maxHeartbeats 4000000 in
theorem apq_any (A : Option Addr) (n c : Nat) (ss : List ByteArray) (Bs : Nat) (w : World) (hBl : Bs < w.heap.size) (hBs : w.cell? ⟨Bs, 0, none⟩ = some (.slice A n c)) (h : SR w w.heap.size A n (ss.map Value.string)) (hn : n ≤ 1048576) :
    Calls Tryz.prog 273 #[.slice none 0 0, .func (.func 262) #[] #[.pointer (some ⟨Bs, 0, none⟩)]] w fun e w' => ∃ v, e = .returned v ∧ w'.ownsRow w.heap.size 9 1 v n (ss.map Value.string) ∧ Below w.heap.size w w' := by
  refine callsIn_wide (n := 6) |>.1 ?_
  obtain ⟨i0, hi, hz0, hz1, hz2⟩ := info_parts str_info
  have HL := Lib.hid h.strlen
  have hW := (Below.refl w.heap.size w).alloc (Nat.le_refl _) (.cells #[.slice none 0 0] 25)
  have HS := Lib.hid (vals_stops Fence.wide 5 trivial rfl (by omega) Bs w.heap.size A n c ss hn (w.alloc (.cells #[.slice none 0 0] 25)) (by rw [World.size_alloc]; omega) hW.size ((hW.cell (p := ⟨Bs, 0, none⟩) hBl).trans hBs) (h.below hW))
  have b0 := Lib.hid (Boxed.new w 25 (.slice none 0 0))
  have HW := Lib.hid hW
  clear hW h hBs
  refine callsIn_of_wp_marks Tryz.func273 rfl trivial ?_ rfl
  simp only [Tryz.ntmps273, List.size_toArray, List.length_cons, List.length_nil, Nat.reduceAdd, Nat.reduceSub, Array.replicate_succ, Array.replicate_zero, List.push_toArray, List.append_toArray, List.nil_append, List.cons_append]
  gi_wp2
  refine' wpIn_rangeFunc_ownG rfl (by omega) (gf := 262) (lb := #[.pointer (some ⟨Bs, 0, none⟩)]) rfl trivial (enters_of Tryz.func262 (by kernel_rfl) rfl)
    HS.out belowK_t (belowK_b (by simp)) (Below.refl _ _) (fun _ => rfl)
    (fun pre W' => (∃ v, Boxed W' w.heap.size 25 v ∧ W'.ownsRow w.heap.size 9 1 v pre.length (pre.map Value.string) ∧ True) ∧ Below w.heap.size w W')
    (fun _ _ _ => False)
    (OwnFrom.and (Own.from (holdsRow_own w.heap.size w.heap.size 25 9 1 (fun pre : List ByteArray => pre.length) (fun pre => pre.map Value.string) (fun _ _ => True)) _) (ownFrom_below (Nat.le_refl _) (by simp)))
    (fun _ _ _ _ _ hs _ _ => hs)
    ⟨⟨_, b0.out, ⟨rfl, .inl ⟨rfl, rfl⟩⟩, trivial⟩, HW.out⟩ _ ?assign ?body ?done ?stop
  case assign =>
    intro l x W' K hK
    gi_wp2
    exact hK
  case body =>
    rintro l pre x W ⟨⟨v, hv, hrow, -⟩, hB⟩ hlt
    have hc := hv.cell
    have hbs := hB.size
    gi_wp2_with (gi_at_builtin; refine append_at _ rfl _ _ 25 rfl w.heap.size 9 i0 (.string ⟨#[]⟩) 1 16 Tryz.underlying25 hi hz0 hz1 hz2 rfl (by decide) _ _ _ rfl (hrow.alloc _) ⟨W.heap.size, 0, none⟩ 1 1 [.string x] rfl rfl (cell_one_new _ _ _) (by simp [Value.oneCell']) (by unfold maxLen; omega) (by omega) (by simp; omega) ?_; intro v' w1 hown' hgrow hnil hat; clear hat hnil; obtain ⟨g', cap', rfl⟩ := ownsRow_succ hown'; obtain ⟨hv1, hv2, hr2, hk2, hb2⟩ := hv.appended (by decide) hrow hbs (Nat.le_refl _) hown' hgrow; have hc1 := hv1.cell; have hf1 := hv1.frozen)
    exact ⟨hk2.from _, hb2, ⟨_, hv2, by rw [List.length_append, List.map_append]; exact hr2, trivial⟩, hB.trans hb2⟩
  case done =>
    rintro D ys W hD rfl ⟨⟨v, hv, hrow, -⟩, hB⟩ hK
    have hc := hv.cell
    rw [HL.out] at hrow
    gi_wp2
    refine ⟨by simp, .inl ⟨_, _, rfl, run_takeDeferred hK, ?_⟩⟩
    exact ⟨_, results_tmp rfl _ _ _, v, rfl, ownsRow_putObj hrow _ hK rfl, hB.trans (belowK_b (w := w) (Nat.le_refl _) W D _ _ (by simp at hD; omega) hK rfl rfl)⟩
  case stop =>
    rintro D c pre W _ _ h _
    exact h.elim
theorem col_any (A : Option Addr) (n c : Nat) (ss : List ByteArray) (Bs : Nat) (w : World) (hBl : Bs < w.heap.size) (hBs : w.cell? ⟨Bs, 0, none⟩ = some (.slice A n c)) (h : SR w w.heap.size A n (ss.map Value.string)) (hn : n ≤ 1048576) :
    Calls Tryz.prog 260 #[.func (.func 262) #[] #[.pointer (some ⟨Bs, 0, none⟩)]] w fun e w' => ∃ v, e = .returned v ∧ w'.ownsRow w.heap.size 9 1 v n (ss.map Value.string) ∧ Below w.heap.size w w' := by
  have C := apq_any A n c ss Bs w hBl hBs h hn
  go_enter Tryz.func260, Tryz.ntmps260
  go_wp2_with fail
  refine C.mono ?_
  rintro e w1 ⟨v, rfl, ho, hb⟩
  clear C
  go_wp2_with fail
  go_ret
  exact ⟨v, rfl, ho, hb⟩
end Go.Proofs.YtfjgapkjpmkplaaGreat.vs
end
section
namespace Go.Proofs.YtfjgapkjpmkplaaGreat.asc
open kit bg sg opn strs only hb sig inn ht marks eqs hc hi hw hn rs br bm bw cf lw cl wb su vs
open Go.RowKit Go.Sort Go.Lib
set_option linter.unusedVariables false
theorem val_any (A : Option Addr) (n c : Nat) (w : World) :
    Calls Tryz.prog 254 #[.slice A n c] w fun e w' => e = .returned (.func (.func 262) #[] #[.pointer (some ⟨w.heap.size, 0, none⟩)]) ∧ w' = w.alloc (.cells #[.slice A n c] 25) := by
  go_enter Tryz.func254, Tryz.ntmps254
  go_wp2_with fail
  go_ret
  exact ⟨rfl, rfl⟩
def srtL (ss : List ByteArray) : List (List UInt8) := (lists ss).mergeSort fun x y => decide (x ≤ y)
theorem lists_len (ss : List ByteArray) : (lists ss).length = ss.length := by unfold lists; rw [List.length_map]
theorem srtL_len (ss : List ByteArray) : (srtL ss).length = (lists ss).length := by unfold srtL; rw [List.length_mergeSort]
theorem srtS_any (A : Option Addr) (n c : Nat) (ss : List ByteArray) (Bs : Nat) (w : World) (hBl : Bs < w.heap.size) (hBs : w.cell? ⟨Bs, 0, none⟩ = some (.slice A n c)) (h : SR w w.heap.size A n (ss.map Value.string)) (hn : n ≤ 1048576) :
    Calls Tryz.prog 253 #[.func (.func 262) #[] #[.pointer (some ⟨Bs, 0, none⟩)]] w fun e w' => ∃ v, e = .returned v ∧ w'.ownsRow w.heap.size 9 1 v (srtL ss).length ((srtL ss).map encStr) ∧ Below w.heap.size w w' := by
  obtain rfl : n = (lists ss).length := by rw [lists_len]; exact h.strlen.symm
  have HC := Lib.hid (col_any A _ c ss Bs w hBl hBs h hn)
  clear hBs h
  go_enter Tryz.func253, Tryz.ntmps253
  go_wp2_with fail
  refine HC.out.mono ?_
  rintro e w1 ⟨v, rfl, ho, hb⟩
  rw [← lists_enc] at ho
  clear HC
  rcases ho.2 with ⟨rfl, hz⟩ | ⟨g, cap, cur, rfl, hbase, hgb, r1, r2, r3, r4⟩
  · have hl : srtL ss = [] := List.eq_nil_of_length_eq_zero (by rw [srtL_len]; exact hz)
    have HL := Lib.hid hl
    have HO := Lib.hid ho
    clear ho hl
    go_wp2_with fail
    refine (Tryz.slices_Sort_string_none none 0 w1).mono ?_
    rintro e w2 ⟨rfl, rfl⟩
    go_wp2_with fail
    go_ret
    refine ⟨_, rfl, ?_, hb⟩
    rw [HL.out]
    exact ⟨rfl, .inl ⟨rfl, rfl⟩⟩
  · have hH : Holds encStr w1 g 0 (lists ss).toArray := holds_of_block hgb (by simpa using r4)
    have hgl : g < w1.heap.size := (Array.getElem?_eq_some_iff.1 hgb).1
    have HS := Lib.hid (Tryz.slices_Sort_string g 0 cap (lists ss) w1 hH hgl (by omega))
    have HO := Lib.hid (fun (k : Nat) os => ownsRow_sorted (w := w1) (n := k) (os := os) (ss := lists ss) (ts := srtL ss) (srtL_len ss) hbase hgb r1 r2 r3)
    have HB := Lib.hid (fun (k : Nat) os => hb.grown (grownBy_sorted (w := w1) (g := g) (n := k) (os := os) (srtL ss).toArray) hb.size (fun j hj => by cases hj; exact hbase))
    have HLn := Lib.hid (srtL_len ss)
    clear ho hH hgb r4 r3
    go_wp2_with fail
    refine HS.out.mono ?_
    rintro e w2 ⟨rfl, k, os, rfl⟩
    go_wp2_with fail
    go_ret
    exact ⟨_, rfl, by rw [HLn.out]; exact HO.out k os, HB.out k os⟩
theorem compact_len (ls : List (List UInt8)) : (compact ls).length ≤ ls.length := by
  unfold compact compactUpTo
  rw [List.length_map]
  refine Nat.le_trans (List.length_filter_le ..) ?_
  rw [List.length_range]
  exact Nat.le_refl _
theorem grow_nil (w : World) : Go.Sort.grow w #[] = w := by simp [Go.Sort.grow]
theorem owns_compact {w : World} {lo g cap q : Nat} {e : TypeId} {cur : Array Value} {ls : List (List UInt8)} (hbase : lo ≤ g) (hb : w.heap[g]? = some (.cells cur e (0, 0))) (h1 : ls.length ≤ cap) (h2 : cap ≤ maxLen) (h3 : cur.size = cap * 1) :
    (putRow encStr (Sort.ahead w q) g 0 (compact ls ++ List.replicate (ls.length - (compact ls).length) []).toArray).ownsRow lo e 1 (.slice (some ⟨g, 0, none⟩) (compact ls).length cap) (compact ls).length ((compact ls).map encStr) := by
  have hc := compact_len ls
  obtain ⟨ts, ht⟩ : ∃ ts, compact ls ++ List.replicate (ls.length - (compact ls).length) [] = ts := ⟨_, rfl⟩
  have hl : ts.length = ls.length := by rw [← ht, List.length_append, List.length_replicate]; omega
  have hh := heap_sorted (w := w) (g := g) (n := q) (os := #[]) (cur := cur) ts.toArray hb
  rw [grow_nil] at hh
  have htk := take_putCells cur ts (by omega)
  rw [ht]
  refine ⟨by simp, .inr ⟨g, cap, _, rfl, hbase, hh, by omega, h2, by simp [putCells, h3], ?_⟩⟩
  rw [Nat.mul_one]
  have e1 : ((putCells encStr 0 ts.toArray cur).toList.take ts.length).take (compact ls).length = (ts.map encStr).take (compact ls).length := by rw [htk]
  rw [List.take_take, Nat.min_eq_left (by omega)] at e1
  rw [e1, ← ht, List.map_append, List.take_left' (List.length_map _)]
theorem compact_srt (ss : List ByteArray) : (compact (srtL ss)).map encStr = (sortU ss).map Value.string := by
  rw [back_enc, ← compact_sorted]
  rfl
set_option maxHeartbeats 800000 in
theorem asc_any (A : Option Addr) (n c : Nat) (ss : List ByteArray) (w : World) (h : SR w w.heap.size A n (ss.map Value.string)) (hn : n ≤ 1048576) :
    Calls Tryz.prog 233 #[.slice A n c] w fun e w' => ∃ A' c', e = .returned (.slice A' (sortU ss).length c') ∧ RowR w' w.heap.size w'.heap.size 9 1 A' (sortU ss).length c' (at_ (sortU ss)) ∧ Below w.heap.size w w' := by
  have hb0 := (Below.refl w.heap.size w).alloc (Nat.le_refl _) (.cells #[.slice A n c] 25)
  have HS := Lib.hid (srtS_any A n c ss w.heap.size (w.alloc (.cells #[.slice A n c] 25)) (by simp) (Boxed.new w 25 (.slice A n c)).cell ((h.below hb0).wide hb0.size) hn)
  have HB0 := Lib.hid hb0
  have HV := Lib.hid (val_any A n c w)
  have HL : Hid (srtL ss = [] → sortU ss = []) := Lib.hid (fun e => by
    have := compact_srt ss
    rw [e] at this
    exact List.map_eq_nil_iff.1 this.symm)
  have HCl := Lib.hid (compact_srt ss)
  have HCn : Hid ((compact (srtL ss)).length = (sortU ss).length) := Lib.hid (by have := congrArg List.length (compact_srt ss); rw [List.length_map, List.length_map] at this; exact this)
  clear hb0 h
  go_enter Tryz.func233, Tryz.ntmps233
  go_wp2_with fail
  refine HV.out.mono ?_
  rintro e w0 ⟨rfl, hw0⟩
  rw [← hw0] at HS HB0
  clear hw0
  go_wp2_with fail
  refine HS.out.mono ?_
  rintro e w1 ⟨v, rfl, ho, hb⟩
  have HB1 := Lib.hid (HB0.out.trans (hb.mono HB0.out.size))
  clear HS hb
  have hsz := HB0.out.size
  rcases ho.2 with ⟨rfl, hz⟩ | ⟨g, cap, cur, rfl, hbase, hgb, r1, r2, r3, r4⟩
  · have hl : srtL ss = [] := List.eq_nil_of_length_eq_zero hz
    have HE := Lib.hid (HL.out hl)
    clear ho hl
    go_wp2_with fail
    refine (Tryz.slices_Compact_string_empty none 0 w1).mono ?_
    rintro e w2 ⟨rfl, rfl⟩
    go_wp2_with fail
    go_ret
    exact ⟨none, 0, by rw [HE.out]; rfl, by rw [HE.out]; exact RowR.nil, HB1.out⟩
  · have hH : Holds encStr w1 g 0 (srtL ss).toArray := holds_of_block hgb (by simpa using r4)
    have HC := Lib.hid (Tryz.slices_Compact_string g 0 cap (srtL ss) w1 hH (by unfold maxLen at r2; omega) r1)
    have HO := Lib.hid (fun (q : Nat) => owns_compact (w := w1) (q := q) (ls := srtL ss) (Nat.le_trans hsz hbase) hgb r1 r2 r3)
    have HB := Lib.hid (fun (q : Nat) (d : Array (List UInt8)) => HB1.out.grown (grownBy_sorted (w := w1) (g := g) (n := q) (os := #[]) d) HB1.out.size (fun j hj => by cases hj; exact Nat.le_trans hsz hbase))
    clear ho hH hgb r4 r3
    go_wp2_with fail
    refine HC.out.mono ?_
    rintro e w2 ⟨rfl, q, hw2⟩
    have ho2 := HO.out q
    have hb2 := HB.out q (compact (srtL ss) ++ List.replicate ((srtL ss).length - (compact (srtL ss)).length) []).toArray
    rw [grow_nil] at hb2
    rw [← hw2] at ho2 hb2
    rw [HCl.out] at ho2
    obtain ⟨A', c', e1, hr⟩ := strs_owned ho2
    injection e1 with e1 e2 e3
    subst e1 e3
    have HR := Lib.hid hr
    have HB2 := Lib.hid hb2
    clear hw2 ho2 hb2 hr e2
    go_wp2_with fail
    go_ret
    exact ⟨_, _, by first | rfl | (rw [HCn.out]; rfl), HR.out, HB2.out⟩
end Go.Proofs.YtfjgapkjpmkplaaGreat.asc
end
section
namespace Go.Proofs.YtfjgapkjpmkplaaGreat.nw
open kit bg sg opn strs only hb sig isig un over gn nm inn ht gd im pt marks eqs hc hi hw hn rs br bm bw cf lf ib lw cl pl mb wb
open Go.RowKit
set_option linter.unusedVariables false
noncomputable def faceB (ss : List ByteArray) (M : Int) : Bool := namesB ss && decide ((ss.length : Int) ≤ M)
theorem face_le {ss : List ByteArray} {M : Int} (h : faceB ss M = true) : (ss.length : Int) ≤ M := by
  unfold faceB at h
  simp only [Bool.and_eq_true, decide_eq_true_eq] at h
  exact h.2
set_option maxHeartbeats 800000 in
theorem isFace_any (A : Option Addr) (n c : Nat) (ss : List ByteArray) (M : Int) (w : World) (h : SR w w.heap.size A n (ss.map Value.string)) (hn : n ≤ 1048576) (hs : ∀ s ∈ ss, s.size ≤ 1048576) :
    Calls Tryz.prog 183 #[.slice A n c, .int .i64 M] w fun e w' => e = .returned (.bool (faceB ss M)) ∧ w = w' := by
  have C := areNames_any A n c ss w w.heap.size h hn hs
  have hl := h.strlen
  have hF : faceB ss M = (namesB ss && decide ((n : Int) ≤ M)) := by unfold faceB; rw [hl]
  rw [hF]
  obtain ⟨q, hq⟩ : ∃ q, namesB ss = q := ⟨_, rfl⟩
  rw [hq] at C ⊢
  clear hF hq hl
  by_cases hle : (n : Int) ≤ M
  · go_enter Tryz.func183, Tryz.ntmps183
    go_wp2_with fail
    refine C.mono ?_
    rintro e w1 ⟨rfl, rfl⟩
    cases q with
    | false =>
      go_wp2_with fail
      go_ret
      exact ⟨rfl, rfl⟩
    | true =>
      go_wp2_with fail
      go_ret
      exact ⟨by simp [hle], rfl⟩
  · go_enter Tryz.func183, Tryz.ntmps183
    go_wp2_with fail
    go_ret
    exact ⟨by simp [hle], rfl⟩
end Go.Proofs.YtfjgapkjpmkplaaGreat.nw
end
section
namespace Go.Proofs.YtfjgapkjpmkplaaGreat.cz
open kit bg sg opn strs only hb sig isig un over gn nm inn ht gd im pt marks eqs hc hi hw hn rs br bm bw cf lf ib lw cl pl mb wb nw sa
open Go.RowKit
set_option linter.unusedVariables false
def nums (n : Nat) : List Int := (List.range n).map fun k : Nat => (k : Int)
theorem nums_at {n k : Nat} (h : k < n) : (nums n)[k]? = some (k : Int) := by unfold nums; rw [List.getElem?_map, List.getElem?_range h]; rfl
theorem nums_len (n : Nat) : (nums n).length = n := by unfold nums; simp
set_option maxHeartbeats 800000 in
theorem below_any (n : Nat) (w : World) (hn : n ≤ 1048576) :
    Calls Tryz.prog 66 #[.int .i64 (n : Int)] w fun e w' => ∃ g, e = .returned (.slice (some ⟨g, 0, none⟩) n n) ∧ w.heap.size ≤ g ∧ g < w'.heap.size ∧ w'.rowIs g 3 n (iat (nums n)) ∧ Below w.heap.size w w' := by
  have hmk := fun W => run_make_row' (P := Tryz.prog) 24 3 (.int .i64 0) 8 Tryz.underlying24 int_info rfl .i64 .i64 n (by omega) (by omega) W
  go_enter Tryz.func66, Tryz.ntmps66
  go_wp2_with fail
  clear hmk
  go_loopw [9] (fun i wr => ∃ k : Nat, k ≤ n ∧ i = .int .i64 k ∧ wr.rowIs w.heap.size 3 n (fun j => if j < k then iat (nums n) j else .int .i64 0) ∧ Below w.heap.size w wr) (fun i _ => n - (intOf i).toNat)
  case atStart => exact ⟨0, Nat.zero_le _, rfl, (World.rowIs_made w (.int .i64 0) n 3).congr (fun _ _ => by simp), (Below.refl _ _).alloc (Nat.le_refl _) _⟩
  case round =>
    obtain ⟨k, hk, rfl, hrow, hbel⟩ := hrel
    by_cases hlt : k < n
    · have HA : Hid (iat (nums n) k = .int .i64 (k : Int)) := Lib.hid (iat_of (nums_at hlt))
      have hcell := hrow.cell hlt
      have hfz := hrow.frozen k
      have HRow := Lib.hid (hrow.set k (.int .i64 (k : Int)))
      have HB := Lib.hid (hbel.setCell (p := ⟨w.heap.size, k, none⟩) (Nat.le_refl _) (.int .i64 (k : Int)))
      clear hrow hbel
      go_wp2_with fail
      go_roundw
      case rel =>
        refine ⟨k + 1, by omega, by go_num, HRow.out.congr (fun j hj => ?_), HB.out⟩
        show (if j = k then _ else if j < k then _ else _) = if j < k + 1 then _ else _
        by_cases e : j = k
        · subst e; rw [if_pos rfl, if_pos (by omega), HA.out]
        · rw [if_neg e]
          by_cases e2 : j < k
          · rw [if_pos e2, if_pos (by omega)]
          · rw [if_neg e2, if_neg (by omega)]
      case measure => simp [intOf]; omega
    · obtain rfl : k = n := by omega
      have HRw := Lib.hid (hrow.congr (g := iat (nums k)) (fun j hj => if_pos hj))
      clear hrow
      go_wp2_with fail
      go_ret
      exact ⟨_, rfl, Nat.le_refl _, HRw.out.lt, HRw.out, hbel⟩
def tied (ss : List ByteArray) (zs : List Int) : List Wr := List.zipWith (fun s z => ⟨s, z⟩) ss zs
theorem tied_at {ss : List ByteArray} {zs : List Int} {k : Nat} {s : ByteArray} {z : Int} (h : ss[k]? = some s) (h2 : zs[k]? = some z) : (tied ss zs)[k]? = some ⟨s, z⟩ := by unfold tied; rw [List.getElem?_zipWith, h, h2]
theorem tied_len {ss : List ByteArray} {zs : List Int} (h : zs.length = ss.length) : (tied ss zs).length = ss.length := by unfold tied; simp [h]
set_option maxRecDepth 20000 in
set_option maxHeartbeats 1600000 in
theorem wiresTo_any (A A' : Option Addr) (n c c' : Nat) (ss : List ByteArray) (zs : List Int) (w : World) (h : SR w w.heap.size A n (ss.map Value.string)) (h' : IntsAt w w.heap.size A' n zs) (hn : n ≤ 1048576) :
    Calls Tryz.prog 234 #[.slice A n c, .slice A' n c'] w fun e w' => ∃ g, e = .returned (.slice (some ⟨g, 0, none⟩) n n) ∧ RowR w' w.heap.size w'.heap.size 139 2 (some ⟨g, 0, none⟩) n n (wic (tied ss zs)) ∧ Below w.heap.size w w' := by
  have hl := h.strlen
  have hl' := h'.len
  have HLn : Hid ((tied ss zs).length = n) := Lib.hid (by rw [tied_len (by omega), hl])
  have hmk : ∀ W : World, (Instr.makeSlice 34 (.int .i64 (n : Int)) (.int .i64 (n : Int))).run Tryz.prog W = .ok (.slice (some ⟨W.heap.size, 0, none⟩) n n) (W.alloc (.cells (madeCells #[.string ⟨#[]⟩, .int .i64 0] (n * 2)) 139)) := by
    intro W
    obtain ⟨i0, hi, hz0, hz1, hz2⟩ := info_parts wire_info
    have hr := run_make (P := Tryz.prog) W 34 139 i0 _ Tryz.underlying34 hi hz0 .i64 .i64 n n (by omega) (Int.le_refl _) (by rw [hz2]; omega) (by omega)
    simp only [Int.toNat_natCast, hz1] at hr
    exact hr
  clear hl hl'
  go_enter Tryz.func234, Tryz.ntmps234
  go_wp2_with fail
  clear hmk
  go_loopw [13] (fun i wr => ∃ k : Nat, k ≤ n ∧ i = .int .i64 k ∧ (∃ f, wr.rowIs w.heap.size 139 (n * 2) f ∧ ∀ (j : Nat) c, j < k → (tied ss zs)[j]? = some c → f (j * 2) = .string c.name ∧ f (j * 2 + 1) = .int .i64 c.link) ∧ Below w.heap.size w wr) (fun i _ => n - (intOf i).toNat)
  case atStart => exact ⟨0, Nat.zero_le _, rfl, ⟨_, row_new w _ _ _ (size_madeCells _ _), fun j c hj => absurd hj (Nat.not_lt_zero j)⟩, (Below.refl _ _).alloc (Nat.le_refl _) _⟩
  case round =>
    obtain ⟨k, hk, rfl, ⟨f, hrow, hf⟩, hbel⟩ := hrel
    have hlt0 := hrow.lt
    by_cases hlt : k < n
    · obtain ⟨b, off, x, rfl, hbb, hx, c0⟩ := h.str hlt
      obtain ⟨b2, off2, z, rfl, hbb2, hx2, c1⟩ := h'.get hlt
      have d0 := (hbel.cell (p := ⟨b, off + k, none⟩) hbb).trans c0
      have d1 := (hbel.cell (p := ⟨b2, off2 + k, none⟩) hbb2).trans c1
      have HX := Lib.hid (tied_at hx hx2)
      have HF := Lib.hid hf
      have z0 := hrow.cell (show k * 2 < n * 2 by omega)
      have z1 := hrow.cell (show k * 2 + 1 < n * 2 by omega)
      have f0 := hrow.frozen (k * 2)
      have f1 := hrow.frozen (k * 2 + 1)
      have HR := Lib.hid (put2_row hrow k (.string x) (.int .i64 z))
      have HB := Lib.hid (put2_below hbel (Nat.le_refl _) k (.string x) (.int .i64 z))
      clear hx hx2 c0 c1 hf hrow hbel
      go_wp2_with fail
      go_roundw
      case rel =>
        refine ⟨k + 1, by omega, by go_num, ⟨_, HR.out, fun j y hj hy => ?_⟩, HB.out⟩
        by_cases e : j = k
        · subst e
          rw [HX.out] at hy
          injection hy with hy
          subst hy
          exact put2_new
        · obtain ⟨p0, p1⟩ := put2_old (f := f) (k := k) (j := j) (a := .string x) (b := .int .i64 z) (by omega)
          rw [p0, p1]
          exact HF.out j y (by omega) hy
      case measure => simp [intOf]; omega
    · obtain rfl : k = n := by omega
      have HRw := Lib.hid (show RowR wr w.heap.size wr.heap.size 139 2 (some ⟨w.heap.size, 0, none⟩) k k (wic (tied ss zs)) from RowR.mk (Nat.le_refl _) hlt0 (Nat.le_refl _) hrow (fun x hx => by
        have hk2 : (tied ss zs)[x / 2]? = some ((tied ss zs)[x / 2]'(by rw [HLn.out]; omega)) := List.getElem?_eq_getElem _
        obtain ⟨e0, e1⟩ := hf (x / 2) _ (by omega) hk2
        obtain ⟨g0, g1⟩ := wic_at hk2
        have hm : x % 2 = 0 ∨ x % 2 = 1 := by omega
        rcases hm with e | e
        · rw [show x / 2 * 2 = x by omega] at e0 g0; exact e0.trans g0.symm
        · rw [show x / 2 * 2 + 1 = x by omega] at e1 g1; exact e1.trans g1.symm))
      clear hrow hf
      go_wp2_with fail
      go_ret
      exact ⟨_, rfl, HRw.out, hbel⟩
end Go.Proofs.YtfjgapkjpmkplaaGreat.cz
end
section
namespace Go.Proofs.YtfjgapkjpmkplaaGreat.sx
open kit bg sg opn strs only hb sig isig un over gn nm inn ht gd im pt marks eqs hc hi hw hn rs br bm bw cf lf ib lw cl pl mb wb nw sa cz ix su asc
open Go.RowKit
set_option linter.unusedVariables false
noncomputable def idxL (ls es : List ByteArray) : List Int := es.map (ixF ls)
theorem idx_at {ls es : List ByteArray} {k : Nat} {s : ByteArray} (h : es[k]? = some s) : (idxL ls es)[k]? = some (ixF ls s) := by unfold idxL; rw [List.getElem?_map, h]; rfl
theorem idx_len (ls es : List ByteArray) : (idxL ls es).length = es.length := by unfold idxL; rw [List.length_map]
set_option maxHeartbeats 800000 in
theorem idxs_any (A A' : Option Addr) (n c m c' : Nat) (ls es : List ByteArray) (w : World) (h : SR w w.heap.size A n (ls.map Value.string)) (h' : SR w w.heap.size A' m (es.map Value.string)) (hn : n ≤ 1048576) (hm : m ≤ 1048576) :
    Calls Tryz.prog 235 #[.slice A n c, .slice A' m c'] w fun e w' => ∃ g, e = .returned (.slice (some ⟨g, 0, none⟩) m m) ∧ w.heap.size ≤ g ∧ g < w'.heap.size ∧ w'.rowIs g 3 m (iat (idxL ls es)) ∧ Below w.heap.size w w' := by
  have hmk := fun W => run_make_row' (P := Tryz.prog) 24 3 (.int .i64 0) 8 Tryz.underlying24 int_info rfl .i64 .i64 m (by omega) (by omega) W
  have HL := Lib.hid h
  go_enter Tryz.func235, Tryz.ntmps235
  go_wp2_with fail
  clear hmk
  go_loopw [13] (fun i wr => ∃ k : Nat, k ≤ m ∧ i = .int .i64 k ∧ wr.rowIs w.heap.size 3 m (fun j => if j < k then iat (idxL ls es) j else .int .i64 0) ∧ Below w.heap.size w wr) (fun i _ => m - (intOf i).toNat)
  case atStart => exact ⟨0, Nat.zero_le _, rfl, (World.rowIs_made w (.int .i64 0) m 3).congr (fun _ _ => by simp), (Below.refl _ _).alloc (Nat.le_refl _) _⟩
  case round =>
    obtain ⟨k, hk, rfl, hrow, hbel⟩ := hrel
    by_cases hlt : k < m
    · obtain ⟨b, off, u, rfl, hbb, hx, hc⟩ := h'.str hlt
      have hcx := (hbel.cell (p := ⟨b, off + k, none⟩) hbb).trans hc
      have CI := index_any A n c ls u wr _ (HL.out.below hbel) hn
      have HA : Hid (iat (idxL ls es) k = .int .i64 (ixF ls u)) := Lib.hid (iat_of (idx_at hx))
      obtain ⟨z, hz⟩ : ∃ z, ixF ls u = z := ⟨_, rfl⟩
      rw [hz] at CI HA
      have hcell := hrow.cell hlt
      have hfz := hrow.frozen k
      have HRow := Lib.hid (hrow.set k (.int .i64 z))
      have HB := Lib.hid (hbel.setCell (p := ⟨w.heap.size, k, none⟩) (Nat.le_refl _) (.int .i64 z))
      clear hrow hbel hx hc hz
      go_wp2_with fail
      refine CI.mono ?_
      rintro e w1 ⟨rfl, rfl⟩
      clear CI
      go_wp2_with fail
      go_roundw
      case rel =>
        refine ⟨k + 1, by omega, by go_num, HRow.out.congr (fun j hj => ?_), HB.out⟩
        show (if j = k then _ else if j < k then _ else _) = if j < k + 1 then _ else _
        by_cases e : j = k
        · subst e; rw [if_pos rfl, if_pos (by omega), HA.out]
        · rw [if_neg e]
          by_cases e2 : j < k
          · rw [if_pos e2, if_pos (by omega)]
          · rw [if_neg e2, if_neg (by omega)]
      case measure => simp [intOf]; omega
    · obtain rfl : k = m := by omega
      have HRw := Lib.hid (hrow.congr (g := iat (idxL ls es)) (fun j hj => if_pos hj))
      clear hrow
      go_wp2_with fail
      go_ret
      exact ⟨_, rfl, Nat.le_refl _, HRw.out.lt, HRw.out, hbel⟩
noncomputable def subB (fr tt : List ByteArray) : Big := wiring 0 (sortU tt) (tied fr (idxL (sortU tt) tt))
theorem sub_tied (fr tt : List ByteArray) (h : tt.length = fr.length) : (tied fr (idxL (sortU tt) tt)).length = fr.length := tied_len (by rw [idx_len, h])
set_option maxRecDepth 20000 in
set_option maxHeartbeats 1600000 in
theorem isub_any (A A' : Option Addr) (n c c' : Nat) (fr tt : List ByteArray) (w : World) (h : SR w w.heap.size A n (fr.map Value.string)) (h' : SR w w.heap.size A' n (tt.map Value.string)) (hn : n ≤ 1048576) :
    Calls Tryz.prog 185 #[.slice A n c, .slice A' n c'] w fun e w' => ∃ v, e = .returned v ∧ BigR w' w.heap.size w'.heap.size v (subB fr tt) ∧ Below w.heap.size w w' := by
  have hb0 := (Below.refl w.heap.size w).alloc (Nat.le_refl _) (.cells #[.int .i64 0, .slice none 0 0, .slice none 0 0, .int .i64 0, .slice none 0 0, .slice none 0 0] 36)
  have HBx0 : Hid (BoxAt (w.alloc (.cells #[.int .i64 0, .slice none 0 0, .slice none 0 0, .int .i64 0, .slice none 0 0, .slice none 0 0] 36)) w.heap.size 36 (.int .i64 0) (.slice none 0 0) (.slice none 0 0) (.int .i64 0) (.slice none 0 0) (.slice none 0 0)) := Lib.hid (six_new w _ _ _ _ _ _ _)
  obtain ⟨W, hW⟩ : ∃ W, w.alloc (.cells #[.int .i64 0, .slice none 0 0, .slice none 0 0, .int .i64 0, .slice none 0 0, .slice none 0 0] 36) = W := ⟨_, rfl⟩
  have hWz : W.heap.size = w.heap.size + 1 := by rw [← hW]; simp
  rw [hW] at hb0 HBx0
  have HWq := Lib.hid hW
  have HB0 := Lib.hid hb0
  have HWz := Lib.hid hWz
  clear hW hb0 hWz
  have HL := Lib.hid h.strlen
  have HL' := Lib.hid h'.strlen
  have HH := Lib.hid h
  have HH' := Lib.hid h'
  have HSl := Lib.hid (sortU_len tt)
  have HTi : Hid ((tied fr (idxL (sortU tt) tt)).length = n) := Lib.hid (by rw [sub_tied fr tt (by rw [h.strlen, h'.strlen]), h.strlen])
  clear h h'
  have CA := asc_any A' n c' tt W ((HH'.out.below HB0.out).wide HB0.out.size) hn
  go_enter Tryz.func185, Tryz.ntmps185
  go_wp2_with fail
  rw [HWq.out]
  refine CA.mono ?_
  rintro e w1 ⟨A4, c4, rfl, hr4, hb1⟩
  clear CA
  have HB1 := Lib.hid (HB0.out.trans (hb1.mono HB0.out.size))
  have HBx1 := Lib.hid (HBx0.out.on hb1)
  have HR4 := Lib.hid (hr4.wide (lo' := w.heap.size) HB0.out.size (Nat.le_refl _))
  have hsl : (sortU tt).length ≤ 1048576 := by have := HSl.out; have := HL'.out; omega
  have CI := idxs_any A4 A' (sortU tt).length c4 n c' (sortU tt) tt w1 (strsR_at HR4.out) ((HH'.out.below HB1.out).wide HB1.out.size) hsl hn
  clear hr4 hb1
  obtain ⟨sl, hsl'⟩ : ∃ sl, (sortU tt).length = sl := ⟨_, rfl⟩
  have HSq := Lib.hid hsl'
  rw [hsl'] at CI hsl ⊢
  clear hsl'
  go_wp2_with fail
  refine CI.mono ?_
  rintro e w2 ⟨g, rfl, hg1, hg2, hrow, hb2⟩
  clear CI
  have HB2 := Lib.hid (HB1.out.trans (hb2.mono HB1.out.size))
  have HBx2 := Lib.hid (HBx1.out.on hb2)
  have HR42 := Lib.hid (HR4.out.on hb2)
  have CT := wiresTo_any A (some ⟨g, 0, none⟩) n c n fr (idxL (sortU tt) tt) w2 ((HH.out.below HB2.out).wide HB2.out.size) (ints_row hrow (Nat.le_refl _) hg2 (by rw [idx_len, HL'.out]) (fun _ _ => rfl)) hn
  clear hrow hb2
  go_wp2_with fail
  refine CT.mono ?_
  rintro e w3 ⟨g', rfl, hr, hb3⟩
  have HBx3 := Lib.hid (HBx2.out.on hb3)
  have HB3 := Lib.hid (HB2.out.trans (hb3.mono HB2.out.size))
  have HBR := Lib.hid (wiring_big (E := 0) (rowR_here (HR42.out.on hb3)) (wrs_row HTi.out (hr.wide (lo' := w.heap.size) HB2.out.size (Nat.le_refl _))))
  rw [HTi.out, HSq.out] at HBR
  clear hr hb3 CT
  obtain ⟨z0, z1, z2, z3, z4, z5⟩ := HBx3.out.get
  have f0 := World.rowIs.frozen HBx3.out 0
  have f1 := World.rowIs.frozen HBx3.out 1
  have f2 := World.rowIs.frozen HBx3.out 2
  have f3 := World.rowIs.frozen HBx3.out 3
  have f4 := World.rowIs.frozen HBx3.out 4
  have f5 := World.rowIs.frozen HBx3.out 5
  go_wp2_with fail
  have hbig := (sets6_big HBx3.out HBR.out (.int .i64 0) (.slice none 0 0) (.slice none 0 0) (.int .i64 0) (.slice A4 sl c4) (.slice (some ⟨g', 0, none⟩) n n)).here
  have hbel := sets6_below HB3.out (Nat.le_refl w.heap.size) (.int .i64 0) (.slice none 0 0) (.slice none 0 0) (.int .i64 0) (.slice A4 sl c4) (.slice (some ⟨g', 0, none⟩) n n)
  unfold sets6 at hbig hbel
  refine bodyPost_ret (v := .agg #[.int .i64 0, .slice none 0 0, .slice none 0 0, .int .i64 0, .slice A4 sl c4, .slice (some ⟨g', 0, none⟩) n n]) (by simp [results, Tryz.results185, go_sem, z0, z1, z2, z3, z4, z5]) rfl ⟨_, rfl, hbig, hbel⟩
end Go.Proofs.YtfjgapkjpmkplaaGreat.sx
end
section
namespace Go.Proofs.YtfjgapkjpmkplaaGreat.idn
open kit bg sg opn strs only hb sig isig un over gn nm inn ht gd im pt marks eqs hc hi hw hn rs br bm bw cf lf ib lw cl pl mb wb nw cz ix su asc sx
open Go.RowKit
set_option linter.unusedVariables false
set_option linter.unusedSimpArgs false
theorem flat_big {w : World} {lo hi c2 c4 c5 : Nat} {A2 A4 A5 : Option Addr} {R E : Int} {zs : List Int} {outer : List ByteArray} {inner : List Wr} (h2 : RowR w lo hi 3 1 A2 zs.length c2 (iat zs)) (h4 : RowR w lo hi 9 1 A4 outer.length c4 (at_ outer)) (h5 : RowR w lo hi 139 2 A5 inner.length c5 (wic inner)) :
    BigR w lo hi (.agg #[.int .i64 R, .slice none 0 0, .slice A2 zs.length c2, .int .i64 E, .slice A4 outer.length c4, .slice A5 inner.length c5]) ⟨R, [], zs, E, outer, inner⟩ :=
  ⟨⟨none, 0, A2, c2, A4, c4, A5, c5, fun _ => none, fun _ => 0⟩, rfl, fun k hk => absurd hk (Nat.not_lt_zero k), ⟨RowR.nil, fun k hk => absurd hk (Nat.not_lt_zero k)⟩, h2, h4, h5⟩
def downs (n : Nat) : List Int := (nums n).map fun z => -1 - z
theorem downs_len (n : Nat) : (downs n).length = n := by unfold downs; rw [List.length_map, nums_len]
def idB (n : Nat) (ss : List ByteArray) : Big := ⟨n, [], downs n, 0, ss, tied ss (nums ss.length)⟩
end Go.Proofs.YtfjgapkjpmkplaaGreat.idn
end
section
namespace Go.Proofs.YtfjgapkjpmkplaaGreat.idz
open kit bg sg opn strs only hb sig isig un over gn nm inn ht gd im pt marks eqs hc hi hw hn rs br bm bw cf lf ib lw cl pl mb wb nw cz ix su asc sx idn
open Go.RowKit
set_option linter.unusedVariables false
set_option linter.unusedSimpArgs false
theorem idx_self {ss : List ByteArray} (h : NamesP ss) : idxL ss ss = nums ss.length := by
  apply List.ext_getElem?
  intro k
  by_cases hk : k < ss.length
  · have hs : ss[k]? = some ss[k] := List.getElem?_eq_getElem hk
    rw [idx_at hs, nums_at hk]
    congr 1
    refine ixF_at hs (fun j u hj hu e => ?_)
    obtain ⟨hj2, e2⟩ := List.getElem?_eq_some_iff.1 hu
    have := List.pairwise_iff_getElem.1 (names_ltS h) j k hj2 hk hj
    rw [e2, e] at this
    exact ltS_irr _ this
  · rw [List.getElem?_eq_none (by rw [idx_len]; omega), List.getElem?_eq_none (by rw [nums_len]; omega)]
noncomputable def idQ (z : Int) (ss : List ByteArray) : Bool := inb z 0 4 && faceB ss 16
noncomputable def idR (z : Int) (ss : List ByteArray) : Big := if idQ z ss = true then idB z.toNat ss else zeroBig
theorem idR_no {z : Int} {ss : List ByteArray} (h : idQ z ss = false) : idR z ss = zeroBig := by unfold idR; rw [h]; rfl
theorem idR_yes {z : Int} {ss : List ByteArray} (h : idQ z ss = true) : idR z ss = idB z.toNat ss := by unfold idR; rw [if_pos h]
theorem id_no1 {z : Int} {ss : List ByteArray} (h : inb z 0 4 = false) : idQ z ss = false := by unfold idQ; rw [h]; rfl
theorem id_no2 {z : Int} {ss : List ByteArray} (h : faceB ss 16 = false) : idQ z ss = false := by unfold idQ; rw [h, Bool.and_false]
theorem id_yes {z : Int} {ss : List ByteArray} (h : inb z 0 4 = true) (h2 : faceB ss 16 = true) : idQ z ss = true := by unfold idQ; rw [h, h2]; rfl
theorem face_names {ss : List ByteArray} {M : Int} (h : faceB ss M = true) : NamesP ss := by
  unfold faceB at h
  simp only [Bool.and_eq_true] at h
  exact names_of h.1
theorem placing_of {w : World} {lo hi n : Nat} {v : Value} {R : Int} {zs : List Int} (h : BigR w lo hi v (placing R zs)) (hn : zs.length = n) : ∃ A1 c1 A2 c2 A4 c4 A5 c5, v = .agg #[.int .i64 R, .slice A1 0 c1, .slice A2 n c2, .int .i64 0, .slice A4 0 c4, .slice A5 0 c5] ∧ RowR w lo hi 3 1 A2 n c2 (iat zs) := by
  obtain ⟨P, e, -, -, h2, -, -⟩ := h
  subst hn
  exact ⟨P.A1, P.c1, P.A2, P.c2, P.A4, P.c4, P.A5, P.c5, e, h2⟩
theorem wiring_of {w : World} {lo hi n m : Nat} {v : Value} {E : Int} {ou : List ByteArray} {ws : List Wr} (h : BigR w lo hi v (wiring E ou ws)) (hn : ou.length = n) (hm : ws.length = m) : ∃ A1 c1 A2 c2 A4 c4 A5 c5, v = .agg #[.int .i64 0, .slice A1 0 c1, .slice A2 0 c2, .int .i64 E, .slice A4 n c4, .slice A5 m c5] ∧ RowR w lo hi 9 1 A4 n c4 (at_ ou) ∧ RowR w lo hi 139 2 A5 m c5 (wic ws) := by
  obtain ⟨P, e, -, -, -, h4, h5⟩ := h
  subst hn hm
  exact ⟨P.A1, P.c1, P.A2, P.c2, P.A4, P.c4, P.A5, P.c5, e, h4, h5⟩
set_option maxRecDepth 20000 in
set_option maxHeartbeats 3200000 in
theorem iId_any (z : Int) (A : Option Addr) (n c : Nat) (ss : List ByteArray) (w : World) (hwz : (Lit.int .i64 z).wf = true) (h : SR w w.heap.size A n (ss.map Value.string)) (hn : n ≤ 1048576) (hs : ∀ s ∈ ss, s.size ≤ 1048576) (hz : A = none → c = 0) :
    Calls Tryz.prog 105 #[.int .i64 z, .slice A n c] w (BigPost (idQ z ss) (idR z ss) w) := by
  have hb0 := (Below.refl w.heap.size w).alloc (Nat.le_refl _) (.cells #[.int .i64 0, .slice none 0 0, .slice none 0 0, .int .i64 0, .slice none 0 0, .slice none 0 0] 36)
  have HBx0 : Hid (BoxAt (w.alloc (.cells #[.int .i64 0, .slice none 0 0, .slice none 0 0, .int .i64 0, .slice none 0 0, .slice none 0 0] 36)) w.heap.size 36 (.int .i64 0) (.slice none 0 0) (.slice none 0 0) (.int .i64 0) (.slice none 0 0) (.slice none 0 0)) := Lib.hid (six_new w _ _ _ _ _ _ _)
  obtain ⟨W, hW⟩ : ∃ W, w.alloc (.cells #[.int .i64 0, .slice none 0 0, .slice none 0 0, .int .i64 0, .slice none 0 0, .slice none 0 0] 36) = W := ⟨_, rfl⟩
  have hWz : W.heap.size = w.heap.size + 1 := by rw [← hW]; simp
  rw [hW] at hb0 HBx0
  have HWq := Lib.hid hW
  have HB0 := Lib.hid hb0
  have HWz := Lib.hid hWz
  clear hW hb0 hWz
  have HL0 := Lib.hid h.strlen
  have HH0 := Lib.hid h
  have CI := win_any z 0 4 W
  have C0 := isFace_any A n c ss 16 W ((h.below HB0.out).wide HB0.out.size) hn hs
  clear hs hz h hwz
  cases hi : inb z 0 4 with
  | false =>
    rw [hi] at CI
    have HQ := Lib.hid (id_no1 (ss := ss) hi)
    have HR := Lib.hid (idR_no HQ.out)
    clear hi
    rw [HQ.out]
    go_enter Tryz.func105, Tryz.ntmps105
    go_wp2_with fail
    rw [HWq.out]
    refine CI.mono ?_
    rintro e w1 ⟨rfl, rfl⟩
    clear CI C0
    obtain ⟨z0, z1, z2, z3, z4, z5⟩ := HBx0.out.get
    have f0 := World.rowIs.frozen HBx0.out 0
    have f1 := World.rowIs.frozen HBx0.out 1
    have f2 := World.rowIs.frozen HBx0.out 2
    have f3 := World.rowIs.frozen HBx0.out 3
    have f4 := World.rowIs.frozen HBx0.out 4
    have f5 := World.rowIs.frozen HBx0.out 5
    go_wp2_with fail
    refine bodyPost_ret (v := .tuple #[.agg #[.int .i64 0, .slice none 0 0, .slice none 0 0, .int .i64 0, .slice none 0 0, .slice none 0 0], .bool false]) (by simp [results, Tryz.results105, go_sem, z0, z1, z2, z3, z4, z5]) rfl ⟨_, rfl, by rw [HR.out]; exact BigR.zero, sets6_below HB0.out (Nat.le_refl _) _ _ _ _ _ _⟩
  | true =>
    rw [hi] at CI
    have hin := inb_true hi
    have Hi := Lib.hid hi
    obtain ⟨m, rfl⟩ : ∃ m : Nat, z = (m : Int) := ⟨z.toNat, by omega⟩
    have hm4 : m ≤ 4 := by omega
    clear hi hin
    cases hq : faceB ss 16 with
    | false =>
      rw [hq] at C0
      have HQ := Lib.hid (id_no2 (z := (m : Int)) hq)
      have HR := Lib.hid (idR_no HQ.out)
      clear hq
      rw [HQ.out]
      go_enter Tryz.func105, Tryz.ntmps105
      go_wp2_with fail
      rw [HWq.out]
      refine CI.mono ?_
      rintro e w1 ⟨rfl, rfl⟩
      clear CI
      go_wp2_with fail
      refine C0.mono ?_
      rintro e w1 ⟨rfl, rfl⟩
      clear C0
      obtain ⟨z0, z1, z2, z3, z4, z5⟩ := HBx0.out.get
      have f0 := World.rowIs.frozen HBx0.out 0
      have f1 := World.rowIs.frozen HBx0.out 1
      have f2 := World.rowIs.frozen HBx0.out 2
      have f3 := World.rowIs.frozen HBx0.out 3
      have f4 := World.rowIs.frozen HBx0.out 4
      have f5 := World.rowIs.frozen HBx0.out 5
      go_wp2_with fail
      refine bodyPost_ret (v := .tuple #[.agg #[.int .i64 0, .slice none 0 0, .slice none 0 0, .int .i64 0, .slice none 0 0, .slice none 0 0], .bool false]) (by simp [results, Tryz.results105, go_sem, z0, z1, z2, z3, z4, z5]) rfl ⟨_, rfl, by rw [HR.out]; exact BigR.zero, sets6_below HB0.out (Nat.le_refl _) _ _ _ _ _ _⟩
    | true =>
      rw [hq] at C0
      have hle := face_le hq
      rw [HL0.out] at hle
      have HQ := Lib.hid (id_yes Hi.out hq)
      have HR := Lib.hid (idR_yes HQ.out)
      rw [Int.toNat_natCast] at HR
      have HNp := Lib.hid (face_names hq)
      clear hq
      rw [HQ.out]
      go_enter Tryz.func105, Tryz.ntmps105
      go_wp2_with fail
      rw [HWq.out]
      refine CI.mono ?_
      rintro e w1 ⟨rfl, rfl⟩
      clear CI
      go_wp2_with fail
      refine C0.mono ?_
      rintro e w1 ⟨rfl, rfl⟩
      clear C0
      go_wp2_with fail
      refine (below_any m W (by omega)).mono ?_
      rintro e w2 ⟨g, rfl, hg1, hg2, hrow, hb⟩
      have HBx2 := Lib.hid (HBx0.out.on hb)
      have HB2 := Lib.hid (HB0.out.trans (hb.mono HB0.out.size))
      have CP := placing_any (some ⟨g, 0, none⟩) m m (nums m) m w2 (ints_row hrow (Nat.le_refl _) hg2 (nums_len m) (fun _ _ => rfl)) (by omega) (fun y hy => by
        obtain ⟨k, hk⟩ := List.getElem?_of_mem hy
        have hkl := (List.getElem?_eq_some_iff.1 hk).1
        rw [nums_len] at hkl
        rw [nums_at hkl] at hk
        injection hk with hk
        omega)
      clear hrow hb
      go_wp2_with fail
      refine CP.mono ?_
      rintro e w3 ⟨v3, rfl, hr3, hb⟩
      clear CP
      have HBx3 := Lib.hid (HBx2.out.on hb)
      have HB3 := Lib.hid (HB2.out.trans (hb.mono HB2.out.size))
      have HR3 := Lib.hid (hr3.wide (lo' := w.heap.size) HB2.out.size (Nat.le_refl _))
      clear hb hr3
      go_wp2_with fail
      refine (isub_any A A n c c ss ss w3 ((HH0.out.below HB3.out).wide HB3.out.size) ((HH0.out.below HB3.out).wide HB3.out.size) hn).mono ?_
      rintro e w4 ⟨v4, rfl, hr, hb⟩
      have HBx4 := Lib.hid (HBx3.out.on hb)
      have HB4 := Lib.hid (HB3.out.trans (hb.mono HB3.out.size))
      have HR34 := Lib.hid (HR3.out.on hb)
      have HR4 := Lib.hid (hr.wide (lo' := w.heap.size) HB3.out.size (Nat.le_refl _))
      clear hr hb
      obtain ⟨p1, q1, B2, b2, p4, q4, p5, q5, rfl, hr2⟩ := placing_of HR34.out (show (List.map (fun z => -1 - z) (nums m)).length = m from downs_len m)
      obtain ⟨r1, s1, r2, s2, B4, b4, B5, b5, rfl, hr4, hr5⟩ := wiring_of HR4.out (show (sortU ss).length = n by rw [sortU_id HNp.out, HL0.out]) (show (tied ss (idxL (sortU ss) ss)).length = n by rw [sub_tied ss ss rfl, HL0.out])
      rw [sortU_id HNp.out] at hr4 hr5
      rw [idx_self HNp.out] at hr5
      have HR2 := Lib.hid hr2
      have HRo := Lib.hid hr4
      have HRw := Lib.hid hr5
      have hbA := ((Below.refl w4.heap.size w4).alloc (Nat.le_refl _) (.cells #[.int .i64 m, .slice p1 0 q1, .slice B2 m b2, .int .i64 0, .slice p4 0 q4, .slice p5 0 q5] 36)).alloc (by simp) (.cells #[.int .i64 0, .slice r1 0 s1, .slice r2 0 s2, .int .i64 0, .slice B4 n b4, .slice B5 n b5] 36)
      have HBx5 := Lib.hid (HBx4.out.on hbA)
      have HB5 := Lib.hid (HB4.out.trans (hbA.mono HB4.out.size))
      have HBid : Hid (idB m ss = ⟨m, [], downs m, 0, ss, tied ss (nums ss.length)⟩) := Lib.hid rfl
      have hbg := flat_big (R := m) (E := 0) (zs := downs m) (outer := ss) (inner := tied ss (nums ss.length)) (by rw [downs_len]; exact rowR_here (HR2.out.on hbA)) (strs_row HL0.out (rowR_here (HRo.out.on hbA))) (wrs_row (by rw [tied_len (nums_len _)]; exact HL0.out) (rowR_here (HRw.out.on hbA)))
      rw [downs_len, HL0.out, tied_len (by rw [nums_len, HL0.out]), HL0.out] at hbg
      have HBR := Lib.hid hbg
      clear hr2 hr4 hr5 hbA hbg
      obtain ⟨z0, z1, z2, z3, z4, z5⟩ := HBx5.out.get
      have f0 := World.rowIs.frozen HBx5.out 0
      have f1 := World.rowIs.frozen HBx5.out 1
      have f2 := World.rowIs.frozen HBx5.out 2
      have f3 := World.rowIs.frozen HBx5.out 3
      have f4 := World.rowIs.frozen HBx5.out 4
      have f5 := World.rowIs.frozen HBx5.out 5
      go_wp2_with fail
      have hbig := (sets6_big HBx5.out HBR.out (.int .i64 m) (.slice none 0 0) (.slice B2 m b2) (.int .i64 0) (.slice B4 n b4) (.slice B5 n b5)).here
      have hbel := sets6_below HB5.out (Nat.le_refl w.heap.size) (.int .i64 m) (.slice none 0 0) (.slice B2 m b2) (.int .i64 0) (.slice B4 n b4) (.slice B5 n b5)
      unfold sets6 at hbig hbel
      refine bodyPost_ret (v := .tuple #[.agg #[.int .i64 m, .slice none 0 0, .slice B2 m b2, .int .i64 0, .slice B4 n b4, .slice B5 n b5], .bool true]) (by simp [results, Tryz.results105, go_sem, z0, z1, z2, z3, z4, z5]) rfl ⟨_, rfl, by rw [HR.out, HBid.out, HL0.out]; exact hbig, hbel⟩
end Go.Proofs.YtfjgapkjpmkplaaGreat.idz
end
section
namespace Go.Proofs.YtfjgapkjpmkplaaGreat.oc
open kit bg sg opn strs only hb sig isig un over gn nm inn ht gd im pt marks eqs hc hi hw hn rs br bm bw cf lf ib lw cl ix tg
open Go.RowKit
set_option linter.unusedVariables false
set_option linter.unusedSimpArgs false
theorem two_edge {w : World} {β : Nat} {t : Tgt} (h : TwoAt w β t) (e : Int) : TwoAt (w.setCell ⟨β, 0, none⟩ (.int .i64 e)) β ⟨e, t.name⟩ := by
  obtain ⟨f, hr, h0, h1⟩ := h
  exact ⟨_, hr.set 0 (.int .i64 e), rfl, h1⟩
theorem two_far {w : World} {β γ : Nat} {t : Tgt} (h : TwoAt w γ t) (hne : γ ≠ β) (v : Value) : TwoAt (w.setCell ⟨β, 0, none⟩ v) γ t := by
  obtain ⟨f, hr, e⟩ := h
  exact ⟨f, hr.of_block (by first | exact Below.heap_setCell _ _ _ _ hne | exact Below.heap_setCell _ _ _ _ hne.symm), e⟩
end Go.Proofs.YtfjgapkjpmkplaaGreat.oc
end
