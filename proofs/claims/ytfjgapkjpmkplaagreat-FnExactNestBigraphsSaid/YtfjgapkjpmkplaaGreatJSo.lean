/- So. -/
import Derived.Test.YtfjgapkjpmkplaaGreatBa
import Derived.Test.YtfjgapkjpmkplaaGreatBb
import Derived.Test.YtfjgapkjpmkplaaGreatBc
import Derived.Test.YtfjgapkjpmkplaaGreatBd
import Derived.Test.YtfjgapkjpmkplaaGreatBe
import Derived.Test.YtfjgapkjpmkplaaGreatKa0
import Derived.Test.YtfjgapkjpmkplaaGreatRows
import Derived.WalkKit
import Derived.WalkSpells
import Derived.WalkLawsBesides
import Derived.ProofKit
import Derived.OpenShut
import Derived.ShutString
import Derived.Deep.OwnRows
import Derived.Deep.Draws
import Derived.SliceStrings
import Derived.ChangeOld
import Derived.Below
import Derived.Lib.Hide
import Derived.Lib.ItoaNum
import Derived.Deep.QuietTactic
import Derived.BigQuiet
import Derived.Outline
import Derived.StillTailTactics
import Derived.Deep.RegionWith
import Derived.Deep.RegionHeld3
import Derived.Deep.Slices
import Derived.Deep.Fields
import Derived.ChangeSame
import Derived.Lib.SmallJoins
import Derived.Maps.OwnOps
import Derived.Maps.OwnIn
import Derived.Maps.Views
import Derived.Maps.AppendAt
import Derived.Sort.OwnSorted
import Derived.Lib.SlicesCompact
import Derived.Sort.KeysCollected
import Derived.OrdersHeld
import Derived.StillTail
import Derived.RangeFuncBox
import Derived.RangeFuncLeaves
import Derived.Shelf.Abstract
import Derived.OwnWalkIn
import Derived.TacticsInMore
import Derived.LoopNIn
import Derived.LoopIn
import Derived.RangeFuncWrites
import Derived.RangeFuncNested
import Derived.JoinedOf
import Derived.Deep.AppendLies
import Derived.Deep.RegionLaw
import Derived.Laws.AppendOwnNone
import Derived.Lib.SliceRun
import Derived.Deep.Cut
import Derived.Deep.CutRange
import Derived.Handy
set_option linter.unusedSimpArgs false
set_option linter.unusedVariables false
namespace Go.Proofs.YtfjgapkjpmkplaaGreat.so
open kit bg sg opn strs only over gn nm un sig hb inn ht marks eqs hc hi hw hn rs br bm bw cf lw cl wb sb sa su
open Go.RowKit
set_option linter.unusedVariables false
set_option linter.unusedSimpArgs false
section
variable {P : Program} {ops : Array Oper} {md : Region.Mode} {S : World → Prop} {n : Nat} {Q : Exit → Act → World → Prop}
theorem go_two {i j : Nat} {oi oj : Oper} {f : Nat} {listed : Array Bool} {a : Act} {w : World} (hi : ops[i]? = some oi) (hj : ops[j]? = some oj)
    (hB : (decide (i < n) && decide (j < n) && decide (Region.ready md ops listed = [i, j])) = true)
    (h1 : ∀ K' : Act → World → Prop, Shut (∀ a w, S w → (S w → rh.Go_ P md ops Q S n f (listed.setIfInBounds i true) a w) → K' a w) → if Region.wanted oi (yielded ops a.tmps) = true then Oper.wp P oi a w K' Q else K' (a.put oi.dst undef) w)
    (h2 : ∀ K' : Act → World → Prop, Shut (∀ a w, S w → (S w → rh.Go_ P md ops Q S n f (listed.setIfInBounds j true) a w) → K' a w) → if Region.wanted oj (yielded ops a.tmps) = true then Oper.wp P oj a w K' Q else K' (a.put oj.dst undef) w) : rh.Go_ P md ops Q S n (f + 1) listed a w := fun inv => by
  simp only [Bool.and_eq_true, decide_eq_true_eq] at hB
  obtain ⟨⟨hin, hjn⟩, hr⟩ := hB
  refine ⟨fun h0 => (by rw [hr] at h0; cases h0), fun k hk => ?_⟩
  have hk' := hk
  rw [hr] at hk
  rcases List.mem_cons.1 hk with e | hk
  · subst e
    exact wpOp_step hi (fun K' hK => h1 K' (fun a w hS hW => hK a w ⟨fun _ => hS, hW hS (inv.set hk' hin)⟩))
  · obtain rfl : k = j := by simpa using hk
    exact wpOp_step hj (fun K' hK => h2 K' (fun a w hS hW => hK a w ⟨fun _ => hS, hW hS (inv.set hk' hjn)⟩))
end
theorem below_drewN {B : Nat} {a w : World} (h : Below B a w) (n : Nat) : Below B a (w.drewN n) := ⟨h.os, h.tape, h.output, h.size, h.block⟩
theorem owns_keep {w w' : World} {B : Nat} {t : TypeId} {v : Value} {ys : List Value} (h : Owns w B t v ys) (hb : Below w.heap.size w w') : Owns w' B t v ys := by
  refine ⟨?_, h.2⟩
  rcases h.1 with ⟨h1, ⟨e, h2⟩ | ⟨g, cap, cur, e, hg, hh, hr⟩⟩
  · exact ⟨h1, .inl ⟨e, h2⟩⟩
  · exact ⟨h1, .inr ⟨g, cap, cur, e, hg, (hb.block g (lt_of_block hh)).trans hh, hr⟩⟩
theorem take_cells {w : World} {B m g j : Nat} {L : List ByteArray} (h : SR w B (some ⟨g, 0, none⟩) m (L.map Value.string)) : ∀ (i : Nat) u, ((L.take j).map Value.string)[i]? = some u → w.cell? ((⟨g, 0, none⟩ : Addr).add i) = some u := by
  intro i u hu
  have hu2 : (L.map Value.string)[i]? = some u := by
    rw [List.getElem?_map] at hu ⊢
    by_cases e : i < j
    · rwa [List.getElem?_take_of_lt e] at hu
    · rw [List.getElem?_take_eq_none (by omega)] at hu
      cases hu
  exact sr_cells h i u hu2
theorem drop_cells {w : World} {B m g j o : Nat} {L : List ByteArray} (h : SR w B (some ⟨g, 0, none⟩) m (L.map Value.string)) (ho : j < m → o = j) : ∀ (i : Nat) u, ((L.drop j).map Value.string)[i]? = some u → w.cell? ((⟨g, o, none⟩ : Addr).add i) = some u := by
  intro i u hu
  have hlen := h.1
  rw [List.length_map] at hlen
  have hi := (List.getElem?_eq_some_iff.1 hu).1
  rw [List.length_map, List.length_drop] at hi
  have e := ho (by omega)
  subst e
  have hu2 : (L.map Value.string)[o + i]? = some u := by
    rw [List.getElem?_map] at hu ⊢
    rwa [List.getElem?_drop] at hu
  have := sr_cells h (o + i) u hu2
  rw [cl.add_none] at this ⊢
  rwa [Nat.zero_add] at this
theorem strs_one (l : List ByteArray) : ∀ u ∈ l.map Value.string, u.oneCell' = true := fun u hu => by obtain ⟨s, -, rfl⟩ := List.mem_map.1 hu; rfl
theorem one_one (x : ByteArray) : ∀ u ∈ [Value.string x], u.oneCell' = true := fun u hu => by simp at hu; subst hu; rfl
theorem one_keep {w w' : World} {β : Nat} {row : Option Nat} {x : Value} (hc : ∀ (i : Nat) u, [x][i]? = some u → w.cell? ((⟨β, 0, none⟩ : Addr).add i) = some u) (hg : w.grownBy w' row) (hβ : β < w.heap.size) (hne : some β ≠ row) : ∀ (i : Nat) u, [x][i]? = some u → w'.cell? ((⟨β, 0, none⟩ : Addr).add i) = some u := by
  intro i u hu
  have := hc i u hu
  rw [cl.add_none] at this ⊢
  rw [World.cell?_of_block (w := w) (hg.block β hβ hne)]
  exact this
theorem owns_of {w : World} {B B' m j : Nat} {t : TypeId} {v : Value} {x : ByteArray} {L : List ByteArray} (h : w.ownsRow B' t 1 v (0 + j + 1 + (m - j)) ([] ++ (L.take j).map Value.string ++ [.string x] ++ (L.drop j).map Value.string)) (hB : B ≤ B') (hv : v ≠ .slice none 0 0) (hm : L.length = m) (hj : j ≤ m) : Owns w B t v ((L.take j ++ [x] ++ L.drop j).map Value.string) := by
  have e : [] ++ (L.take j).map Value.string ++ [Value.string x] ++ (L.drop j).map Value.string = (L.take j ++ [x] ++ L.drop j).map Value.string := by simp
  have e2 : 0 + j + 1 + (m - j) = ((L.take j ++ [x] ++ L.drop j).map Value.string).length := by simp; omega
  rw [e, e2] at h
  refine ⟨?_, hv⟩
  rcases h with ⟨h1, ⟨e, h2⟩ | ⟨g, cap, cur, e, hg, hr⟩⟩
  · exact ⟨h1, .inl ⟨e, h2⟩⟩
  · exact ⟨h1, .inr ⟨g, cap, cur, e, by omega, hr⟩⟩
theorem wp_name {P : Program} {c : Code} {Q : Exit → Act → World → Prop} {a : Act} {w : World} (h : ∀ W, W = w → Code.wp P c Q a W) : Code.wp P c Q a w := h w rfl
set_option maxRecDepth 20000 in
set_option maxHeartbeats 12800000 in
theorem l2Sorted_any (A : Option Addr) (n c : Nat) (ss : List ByteArray) (w : World) (h : SR w w.heap.size A n (ss.map Value.string)) (hn : n ≤ 1048576) :
    Calls Tryz.prog 120 #[.slice A n c] w fun e w' => ∃ A' c', e = .returned (.slice A' (sortU ss).length c') ∧ RowR w' w.heap.size w'.heap.size 9 1 A' (sortU ss).length c' (at_ (sortU ss)) ∧ Below w.heap.size w w' := by
  obtain ⟨i0, hi, hz0, hz1, hz2⟩ := info_parts str_info
  have HI := Lib.hid (And.intro hi (And.intro hz0 (And.intro hz1 hz2)))
  have HL := Lib.hid h.strlen
  clear hi hz0 hz1 hz2
  go_enter Tryz.func120, Tryz.ntmps120
  go_wp2_with fail
  go_loopw [3, 4] (fun v i wr => ∃ k : Nat, k ≤ n ∧ i = .int .i64 k ∧ Owns wr w.heap.size 9 v ((sortU (ss.take k)).map Value.string) ∧ Below w.heap.size w wr) (fun _ i _ => n - (intOf i).toNat)
  case atStart => exact ⟨0, Nat.zero_le _, rfl, ⟨by
      have := ownsRow_nil_new w 9 1 w.heap.size (Nat.le_refl _)
      simpa [sortU] using this, by simp⟩, (Below.refl _ _).alloc (Nat.le_refl _) _⟩
  case round =>
    obtain ⟨k, hk, rfl, hO, hB⟩ := hrel
    rename World => wr
    have hsz := hB.size
    by_cases hlt : k < n
    · obtain ⟨b, off, x, rfl, hbb, hx, hc⟩ := h.str hlt
      have d0 := (hB.cell (p := ⟨b, off + k, none⟩) hbb).trans hc
      have HT := Lib.hid (show sortU (ss.take (k + 1)) = insU x (sortU (ss.take k)) by rw [List.take_add_one, hx]; exact sortU_snoc _ _)
      have hml : (sortU (ss.take k)).length ≤ k := Nat.le_trans (sortU_len _) (List.length_take_le ..)
      obtain ⟨L, hL⟩ : ∃ L, sortU (ss.take k) = L := ⟨_, rfl⟩
      rw [hL] at hO HT hml
      obtain ⟨g, cp, rfl, hg1, hg2, hmc, hsr⟩ := hO.at
      obtain ⟨m, hm⟩ : ∃ m, L.length = m := ⟨_, rfl⟩
      rw [List.length_map, hm] at hmc hsr
      rw [hm] at hml
      have HM := Lib.hid hm
      have HO := Lib.hid hO
      have HB := Lib.hid hB
      have HSr := Lib.hid hsr
      clear hL hx hc hO hB hm
      rw [List.length_map, HM.out]
      go_wp2_with fail
      go_loopw [5] (fun i wq => ∃ j : Nat, j ≤ m ∧ i = .int .i64 j ∧ (∀ (t : Nat) y, t < j → L[t]? = some y → ltS y x) ∧ Below wr.heap.size wr wq) (fun i _ => m - (intOf i).toNat)
      case atStart => exact ⟨0, Nat.zero_le _, rfl, fun t y ht => absurd ht (by omega), Below.refl _ _⟩
      case round =>
        obtain ⟨j, hj, rfl, hall, hbq⟩ := hrel
        rename World => wq
        have HA := Lib.hid hall
        have HQ := Lib.hid hbq
        have d1 := (hbq.cell (p := ⟨b, off + k, none⟩) (by dsimp only; omega)).trans d0
        have hwq := hbq.size
        clear hall hbq
        by_cases hjm : j < m
        · obtain ⟨g', off', y, e, hgg, hy, hcy⟩ := HSr.out.str hjm
          injection e with e
          injection e with e1 e2
          subst e1 e2
          rw [Nat.zero_add] at hcy
          have hcy := (HQ.out.cell (p := ⟨g, j, none⟩) hgg).trans hcy
          have HY := Lib.hid hy
          clear hy
          cases hlt2 : Op.bytesLess y.toList x.toList with
          | true =>
            have HN : Hid (∀ (t : Nat) z, t < j + 1 → L[t]? = some z → ltS z x) := Lib.hid fun t z ht hz => by
              by_cases e : t = j
              · subst e
                rw [HY.out] at hz
                injection hz with hz
                subst hz
                exact (bl_lt _ _).1 hlt2
              · exact HA.out t z (by omega) hz
            go_wp2_with fail
            go_quiet (fail)
            go_wp2_with fail
            go_roundw
            case rel => exact ⟨j + 1, by omega, by go_num, HN.out, below_drewN HQ.out _⟩
            case measure => simp [intOf]; omega
          | false =>
            have hnl : ¬ ltS y x := fun h => by rw [(bl_lt _ _).2 h] at hlt2; cases hlt2
            have HNl := Lib.hid hnl
            have hje : ((j : Int) == (m : Int)) = false := by simp; omega
            cases heq : (y.toList == x.toList) with
            | true =>
              have hne : (y.toList != x.toList) = false := by rw [bne, heq]; rfl
              have HIs := Lib.hid (HT.out.trans (ins_same L j HA.out (by rw [HY.out, str_eq heq])))
              clear hnl
              go_wp2_with fail
              go_quiet (fail)
              go_wp2_with fail
              go_quiet (fail)
              clear heq
              go_wp2_with fail
              go_roundw
              case rel => exact ⟨k + 1, by omega, by go_num, by rw [HIs.out]; have h0 := fun n => owns_keep HO.out (below_drewN HQ.out n); simp only [List.length_map, HM.out] at h0; exact h0 _, HB.out.trans ((below_drewN HQ.out _).mono HB.out.size)⟩
              case measure => simp [intOf]; omega
            | false =>
              have hne : (y.toList != x.toList) = true := by rw [bne, heq]; rfl
              have HIn := Lib.hid (HT.out.trans (ins_put L j HA.out (by have := HM.out; omega) (fun z hz => by rw [HY.out] at hz; injection hz with hz; subst hz; exact ⟨HNl.out, str_ne heq⟩)))
              clear hnl
              go_wp2_with fail
              go_quiet (fail)
              go_wp2_with fail
              go_quiet (fail)
              clear heq
              go_wp2_with fail
              refine wp_name (fun W hW => ?_)
              have hBW : Below wr.heap.size wr W := by rw [hW]; exact below_drewN (below_drewN HQ.out _) _
              have hdW := (hBW.cell (p := ⟨b, off + k, none⟩) (by dsimp only; omega)).trans d0
              have hgW := Nat.lt_of_lt_of_le hg2 hBW.size
              have hjc : j ≤ cp := by omega
              have hjm2 : j ≤ m := by omega
              obtain ⟨o, ho1, ho2⟩ : ∃ o : Nat, (cp = j → o = 0) ∧ (¬ cp = j → o = j) := by
                by_cases e : cp = j
                · exact ⟨0, fun _ => rfl, fun h => absurd e h⟩
                · exact ⟨j, fun h => absurd h e, fun _ => rfl⟩
              clear hW
              have hBW2 := hBW
              have HSk := Lib.hid (fun w' (hq : Below W.heap.size W w') => (hq.cell (p := ⟨b, off + k, none⟩) (by dsimp only; have := hBW.size; omega)).trans hdW)
              clear d0 d1 hdW hBW
              refine rh.go_begin 15 (fun w' => w'.cell? ⟨b, off + k, none⟩ = some (.string x)) (by kernel_rfl) ?_ (fun hHeld => ?_)
              · ((try dsimp only); exact HSk.out _ (by go_grown))
              refine rh.go_take (i := 1) (v := ?v1) rfl (by kernel_rfl) (fun _ _ _ h => h) (Or.inl ⟨by rfl, ?hy1⟩) (by assumption) ?rest1
              case hy1 => (intro wS hSw; (try dsimp only at hSw); go_simp; try (with_reducible rfl))
              try simp only [Act.put, List.setIfInBounds_toArray, List.set_cons_zero, List.set_cons_succ]
              refine rh.go_take (i := 2) (v := ?v2) rfl (by kernel_rfl) (fun _ _ _ h => h) (Or.inl ⟨by rfl, ?hy2⟩) (by assumption) ?rest2
              case hy2 => (intro wS hSw; (try dsimp only at hSw); go_simp; try (with_reducible rfl))
              try simp only [Act.put, List.setIfInBounds_toArray, List.set_cons_zero, List.set_cons_succ]
              refine rh.go_take (i := 3) (v := .slice (some ⟨g, 0, none⟩) j cp) rfl (by kernel_rfl) (fun _ _ _ h => h) (Or.inl ⟨by rfl, ?hyA1⟩) (by assumption) ?restA1
              case hyA1 => (intro wS hSw; (try dsimp only at hSw); go_simp)
              try simp only [Act.put, List.setIfInBounds_toArray, List.set_cons_zero, List.set_cons_succ]
              refine rh.go_take (i := 5) (v := ?v3) rfl (by kernel_rfl) (fun _ _ _ h => h) (Or.inl ⟨by rfl, ?hy3⟩) (by assumption) ?rest3
              case hy3 => (intro wS hSw; (try dsimp only at hSw); go_simp; try (with_reducible rfl))
              try simp only [Act.put, List.setIfInBounds_toArray, List.set_cons_zero, List.set_cons_succ]
              refine rh.go_take (i := 6) (v := ?v4) rfl (by kernel_rfl) (fun _ _ _ h => h) (Or.inl ⟨by rfl, ?hy4⟩) (by assumption) ?rest4
              case hy4 => (intro wS hSw; (try dsimp only at hSw); go_simp; try (with_reducible rfl))
              try simp only [Act.put, List.setIfInBounds_toArray, List.set_cons_zero, List.set_cons_succ]
              refine rh.go_take (i := 7) (v := ?v5) rfl (by kernel_rfl) (fun _ _ _ h => h) (Or.inl ⟨by rfl, ?hy5⟩) (by assumption) ?rest5
              case hy5 => (intro wS hSw; (try dsimp only at hSw); go_simp; try (with_reducible rfl))
              try simp only [Act.put, List.setIfInBounds_toArray, List.set_cons_zero, List.set_cons_succ]
              refine rh.go_take (i := 8) (v := ?v6) rfl (by kernel_rfl) (fun _ _ _ h => h) (Or.inl ⟨by rfl, ?hy6⟩) (by assumption) ?rest6
              case hy6 => (intro wS hSw; (try dsimp only at hSw); go_simp; try (with_reducible rfl))
              try simp only [Act.put, List.setIfInBounds_toArray, List.set_cons_zero, List.set_cons_succ]
              refine rh.go_take (i := 11) (v := ?v7) rfl (by kernel_rfl) (fun _ _ _ h => h) (Or.inl ⟨by rfl, ?hy7⟩) (by assumption) ?rest7
              case hy7 => (intro wS hSw; (try dsimp only at hSw); go_simp; try (with_reducible rfl))
              try simp only [Act.put, List.setIfInBounds_toArray, List.set_cons_zero, List.set_cons_succ]
              refine rh.go_take (i := 12) (v := ?v8) rfl (by kernel_rfl) (fun _ _ _ h => h) (Or.inl ⟨by rfl, ?hy8⟩) (by assumption) ?rest8
              case hy8 => (intro wS hSw; (try dsimp only at hSw); go_simp; try (with_reducible rfl))
              try simp only [Act.put, List.setIfInBounds_toArray, List.set_cons_zero, List.set_cons_succ]
              refine rh.go_take (i := 13) (v := .slice (some ⟨g, o, none⟩) (m - j) (cp - j)) rfl (by kernel_rfl) (fun _ _ _ h => h) (Or.inl ⟨by rfl, ?hyB1⟩) (by assumption) ?restB1
              case hyB1 => (intro wS hSw; (try dsimp only at hSw); go_simp; by_cases e : cp = j <;> simp_all)
              try simp only [Act.put, List.setIfInBounds_toArray, List.set_cons_zero, List.set_cons_succ]
              clear hjc
              have hBD := (Below.refl W.heap.size W).drew
              have HS0 := Lib.hid (fun w' (hq : Below W.heap.size W w') => HSr.out.below (hBW2.trans (hq.mono hBW2.size)))
              have HDr : Hid (j < m → o = j) := Lib.hid (fun h => ho2 (by omega))
              have HTl : Hid ((List.map Value.string (L.take j)).length = j * 1) := Lib.hid (by rw [List.length_map, List.length_take, Nat.mul_one]; have := HM.out; omega)
              have HDl : Hid ((List.map Value.string (L.drop j)).length = (m - j) * 1) := Lib.hid (by rw [List.length_map, List.length_drop, Nat.mul_one, HM.out])
              have hmn : m ≤ 1048576 := by omega
              refine go_two (i := 0) (j := 9) rfl rfl (by kernel_rfl) (fun K2 hK => ?_) (fun K2 hK => ?_)
              · go_simp
                have hb1 := hBD.alloc (Nat.le_refl _) (.cells #[] 9)
                have ho1 := ownsRow_nil_new W.drew 9 1 W.heap.size (Nat.le_refl _)
                refine hK.out _ _ ?_ (fun hHeld => ?_)
                · ((try dsimp only); exact HSk.out _ hb1)
                clear hK K2 hHeld
                try simp only [Act.put, List.setIfInBounds_toArray, List.set_cons_zero, List.set_cons_succ]
                have hz1 : (W.drew.alloc (.cells #[] 9)).heap.size = W.heap.size + 1 := World.size_alloc ..
                try rw [show W.drew.heap.size = W.heap.size from rfl] at ho1
                try rw [show W.drew.heap.size = W.heap.size from rfl]
                rw [show W.drew.alloc (.cells #[] 9) = (W.alloc (.cells #[] 9)).drew from rfl] at ho1 hz1 hb1
                obtain ⟨W1, hW1⟩ : ∃ W1, (W.alloc (.cells #[] 9)).drew = W1 := ⟨_, rfl⟩
                rw [hW1] at ho1 hz1 hb1 ⊢
                clear hW1
                refine go_two (i := 4) (j := 9) rfl rfl (by kernel_rfl) (fun K2 hK => ?_) (fun K2 hK => ?_)
                · refine sa.step_append_own rfl _ _ 25 rfl W.heap.size 9 i0 (.string ⟨#[]⟩) 1 16 Tryz.underlying25 HI.out.1 HI.out.2.1 HI.out.2.2.1 HI.out.2.2.2 rfl (by decide) _ _ _ (by first | rfl | simp [Act.eval, Act.put]) ho1 ⟨g, 0, none⟩ j cp ((L.take j).map Value.string) (by first | rfl | simp [Act.eval, Act.put]) HTl.out (take_cells (HS0.out _ hb1)) (strs_one _) (by unfold maxLen; omega) (by omega) hb1.size ?_
                  intro v1 W2 own1 grow1 nil1
                  have hb2 := hb1.grown grow1 hb1.size (fun r e => (ho1.lt r e).1)
                  refine hK.out _ _ ?_ (fun hHeld => ?_)
                  · ((try dsimp only); exact HSk.out _ hb2)
                  clear hK K2 hHeld grow1 nil1
                  try simp only [Act.put, List.setIfInBounds_toArray, List.set_cons_zero, List.set_cons_succ]
                  refine rh.go_next (i := 9) rfl (by kernel_rfl) (fun K2 hK => ?_)
                  go_simp
                  have own2 := own1.alloc (.cells #[.string x] 9)
                  have hb3 := hb2.alloc hb2.size (.cells #[.string x] 9)
                  have hc3 := cell_one_new W2 (.string x) 9
                  refine hK.out _ _ ?_ (fun hHeld => ?_)
                  · ((try dsimp only); exact HSk.out _ hb3)
                  clear hK K2 hHeld
                  try simp only [Act.put, List.setIfInBounds_toArray, List.set_cons_zero, List.set_cons_succ]
                  obtain ⟨W3, hW3⟩ : ∃ W3, W2.alloc (.cells #[.string x] 9) = W3 := ⟨_, rfl⟩
                  obtain ⟨β, hβ⟩ : ∃ β, W2.heap.size = β := ⟨_, rfl⟩
                  rw [hW3] at own2 hb3 hc3 ⊢
                  rw [hβ] at hc3 ⊢
                  clear hW3 hβ own1 hb2
                  refine rh.go_next (i := 10) rfl (by kernel_rfl) (fun K2 hK => ?_)
                  refine sa.step_append_own rfl _ _ 25 rfl W.heap.size 9 i0 (.string ⟨#[]⟩) 1 16 Tryz.underlying25 HI.out.1 HI.out.2.1 HI.out.2.2.1 HI.out.2.2.2 rfl (by decide) _ _ _ (by first | rfl | simp [Act.eval, Act.put]) own2 _ 1 1 [.string x] (by first | rfl | simp [Act.eval, Act.put]) rfl hc3 (one_one x) (by unfold maxLen; omega) (by omega) hb3.size ?_
                  intro v2 W4 own4 grow4 nil4
                  have hb4 := hb3.grown grow4 hb3.size (fun r e => (own2.lt r e).1)
                  refine hK.out _ _ ?_ (fun hHeld => ?_)
                  · ((try dsimp only); exact HSk.out _ hb4)
                  have hv2 : v2 ≠ .slice none 0 0 := fun e => by have := (nil4.1 e).2; omega
                  clear hK K2 hHeld grow4 nil4 hc3 own2 hb3
                  try simp only [Act.put, List.setIfInBounds_toArray, List.set_cons_zero, List.set_cons_succ]
                  refine rh.go_next (i := 14) rfl (by kernel_rfl) (fun K2 hK => ?_)
                  refine sa.step_append_own rfl _ _ 25 rfl W.heap.size 9 i0 (.string ⟨#[]⟩) 1 16 Tryz.underlying25 HI.out.1 HI.out.2.1 HI.out.2.2.1 HI.out.2.2.2 rfl (by decide) _ _ _ (by first | rfl | simp [Act.eval, Act.put]) own4 ⟨g, o, none⟩ (m - j) (cp - j) ((L.drop j).map Value.string) (by first | rfl | simp [Act.eval, Act.put]) HDl.out (drop_cells (HS0.out _ hb4) HDr.out) (strs_one _) (by unfold maxLen; omega) (by omega) hb4.size ?_
                  intro v3 W5 own5 grow5 nil5
                  have hb5 := hb4.grown grow5 hb4.size (fun r e => (own4.lt r e).1)
                  refine hK.out _ _ ?_ (fun hHeld => ?_)
                  · ((try dsimp only); exact HSk.out _ hb5)
                  have hv3 : v3 ≠ .slice none 0 0 := fun e => hv2 (nil5.1 e).1
                  clear hK K2 hHeld grow5 nil5 own4 hb4
                  try simp only [Act.put, List.setIfInBounds_toArray, List.set_cons_zero, List.set_cons_succ]
                  refine rh.go_last rfl (by kernel_rfl) (fun K2 hK => ?_)
                  go_simp
                  refine hK.out _ _ ?_
                  refine NoPanic.normal ?_
                  clear hK K2
                  have HO5 := Lib.hid own5
                  have HB5 := Lib.hid hb5
                  clear own5 hb5
                  go_wp2_with fail
                  go_roundw
                  case rel => exact ⟨k + 1, by omega, by go_num, by rw [HIn.out]; exact owns_of (HO5.out) (Nat.le_trans hsz hBW2.size) hv3 HM.out hjm2, (HB.out.trans (hBW2.mono HB.out.size)).trans (HB5.out.mono (Nat.le_trans hsz hBW2.size))⟩
                  case measure => simp [intOf]; omega
                · go_simp
                  have own1 := ho1.alloc (.cells #[.string x] 9)
                  have hb2 := hb1.alloc hb1.size (.cells #[.string x] 9)
                  have hc2 := cell_one_new W1 (.string x) 9
                  refine hK.out _ _ ?_ (fun hHeld => ?_)
                  · ((try dsimp only); exact HSk.out _ hb2)
                  clear hK K2 hHeld
                  try simp only [Act.put, List.setIfInBounds_toArray, List.set_cons_zero, List.set_cons_succ]
                  have hz2 : (W1.alloc (.cells #[.string x] 9)).heap.size = W1.heap.size + 1 := World.size_alloc ..
                  obtain ⟨W2, hW2⟩ : ∃ W2, W1.alloc (.cells #[.string x] 9) = W2 := ⟨_, rfl⟩
                  rw [hW2] at own1 hb2 hc2 hz2 ⊢
                  rw [hz1] at hc2 hz2
                  clear hW2
                  refine rh.go_next (i := 4) rfl (by kernel_rfl) (fun K2 hK => ?_)
                  refine sa.step_append_own rfl _ _ 25 rfl W.heap.size 9 i0 (.string ⟨#[]⟩) 1 16 Tryz.underlying25 HI.out.1 HI.out.2.1 HI.out.2.2.1 HI.out.2.2.2 rfl (by decide) _ _ _ (by first | rfl | simp [Act.eval, Act.put]) own1 ⟨g, 0, none⟩ j cp ((L.take j).map Value.string) (by first | rfl | simp [Act.eval, Act.put]) HTl.out (take_cells (HS0.out _ hb2)) (strs_one _) (by unfold maxLen; omega) (by omega) hb2.size ?_
                  intro v1 W3 own2 grow1 nil1
                  have hb3 := hb2.grown grow1 hb2.size (fun r e => (own1.lt r e).1)
                  have hc3 := one_keep hc2 grow1 (by omega) (by first | (simp [Value.ownBlock]; done) | (simp [Value.ownBlock]; omega))
                  refine hK.out _ _ ?_ (fun hHeld => ?_)
                  · ((try dsimp only); exact HSk.out _ hb3)
                  clear hK K2 hHeld grow1 nil1 hc2 own1 hb2
                  try simp only [Act.put, List.setIfInBounds_toArray, List.set_cons_zero, List.set_cons_succ]
                  refine rh.go_next (i := 10) rfl (by kernel_rfl) (fun K2 hK => ?_)
                  refine sa.step_append_own rfl _ _ 25 rfl W.heap.size 9 i0 (.string ⟨#[]⟩) 1 16 Tryz.underlying25 HI.out.1 HI.out.2.1 HI.out.2.2.1 HI.out.2.2.2 rfl (by decide) _ _ _ (by first | rfl | simp [Act.eval, Act.put]) own2 _ 1 1 [.string x] (by first | rfl | simp [Act.eval, Act.put]) rfl hc3 (one_one x) (by unfold maxLen; omega) (by omega) hb3.size ?_
                  intro v2 W4 own4 grow4 nil4
                  have hb4 := hb3.grown grow4 hb3.size (fun r e => (own2.lt r e).1)
                  refine hK.out _ _ ?_ (fun hHeld => ?_)
                  · ((try dsimp only); exact HSk.out _ hb4)
                  have hv2 : v2 ≠ .slice none 0 0 := fun e => by have := (nil4.1 e).2; omega
                  clear hK K2 hHeld grow4 nil4 hc3 own2 hb3
                  try simp only [Act.put, List.setIfInBounds_toArray, List.set_cons_zero, List.set_cons_succ]
                  refine rh.go_next (i := 14) rfl (by kernel_rfl) (fun K2 hK => ?_)
                  refine sa.step_append_own rfl _ _ 25 rfl W.heap.size 9 i0 (.string ⟨#[]⟩) 1 16 Tryz.underlying25 HI.out.1 HI.out.2.1 HI.out.2.2.1 HI.out.2.2.2 rfl (by decide) _ _ _ (by first | rfl | simp [Act.eval, Act.put]) own4 ⟨g, o, none⟩ (m - j) (cp - j) ((L.drop j).map Value.string) (by first | rfl | simp [Act.eval, Act.put]) HDl.out (drop_cells (HS0.out _ hb4) HDr.out) (strs_one _) (by unfold maxLen; omega) (by omega) hb4.size ?_
                  intro v3 W5 own5 grow5 nil5
                  have hb5 := hb4.grown grow5 hb4.size (fun r e => (own4.lt r e).1)
                  refine hK.out _ _ ?_ (fun hHeld => ?_)
                  · ((try dsimp only); exact HSk.out _ hb5)
                  have hv3 : v3 ≠ .slice none 0 0 := fun e => hv2 (nil5.1 e).1
                  clear hK K2 hHeld grow5 nil5 own4 hb4
                  try simp only [Act.put, List.setIfInBounds_toArray, List.set_cons_zero, List.set_cons_succ]
                  refine rh.go_last rfl (by kernel_rfl) (fun K2 hK => ?_)
                  go_simp
                  refine hK.out _ _ ?_
                  refine NoPanic.normal ?_
                  clear hK K2
                  have HO5 := Lib.hid own5
                  have HB5 := Lib.hid hb5
                  clear own5 hb5
                  go_wp2_with fail
                  go_roundw
                  case rel => exact ⟨k + 1, by omega, by go_num, by rw [HIn.out]; exact owns_of (HO5.out) (Nat.le_trans hsz hBW2.size) hv3 HM.out hjm2, (HB.out.trans (hBW2.mono HB.out.size)).trans (HB5.out.mono (Nat.le_trans hsz hBW2.size))⟩
                  case measure => simp [intOf]; omega
              · go_simp
                have hb1 := hBD.alloc (Nat.le_refl _) (.cells #[.string x] 9)
                have hc1 := cell_one_new W.drew (.string x) 9
                refine hK.out _ _ ?_ (fun hHeld => ?_)
                · ((try dsimp only); exact HSk.out _ hb1)
                clear hK K2 hHeld
                try simp only [Act.put, List.setIfInBounds_toArray, List.set_cons_zero, List.set_cons_succ]
                have hz1 : (W.drew.alloc (.cells #[.string x] 9)).heap.size = W.heap.size + 1 := World.size_alloc ..
                try rw [show W.drew.heap.size = W.heap.size from rfl] at hc1
                try rw [show W.drew.heap.size = W.heap.size from rfl]
                rw [show W.drew.alloc (.cells #[.string x] 9) = (W.alloc (.cells #[.string x] 9)).drew from rfl] at hc1 hz1 hb1
                obtain ⟨W1, hW1⟩ : ∃ W1, (W.alloc (.cells #[.string x] 9)).drew = W1 := ⟨_, rfl⟩
                rw [hW1] at hc1 hz1 hb1 ⊢
                clear hW1
                refine rh.go_next (i := 0) rfl (by kernel_rfl) (fun K2 hK => ?_)
                go_simp
                have own1 := ownsRow_nil_new W1 9 1 W.heap.size hb1.size
                have hb2 := hb1.alloc hb1.size (.cells #[] 9)
                have hc2 : ∀ (i : Nat) u, [Value.string x][i]? = some u → (W1.alloc (.cells #[] 9)).cell? ((⟨W.heap.size, 0, none⟩ : Addr).add i) = some u := one_keep hc1 (World.grownBy_alloc W1 (.cells #[] 9) none) (by omega) (by simp)
                refine hK.out _ _ ?_ (fun hHeld => ?_)
                · ((try dsimp only); exact HSk.out _ hb2)
                clear hK K2 hHeld
                try simp only [Act.put, List.setIfInBounds_toArray, List.set_cons_zero, List.set_cons_succ]
                have hz2 : (W1.alloc (.cells #[] 9)).heap.size = W1.heap.size + 1 := World.size_alloc ..
                obtain ⟨W2, hW2⟩ : ∃ W2, W1.alloc (.cells #[] 9) = W2 := ⟨_, rfl⟩
                rw [hW2] at own1 hb2 hc2 hz2 ⊢
                clear hW2
                refine rh.go_next (i := 4) rfl (by kernel_rfl) (fun K2 hK => ?_)
                refine sa.step_append_own rfl _ _ 25 rfl W.heap.size 9 i0 (.string ⟨#[]⟩) 1 16 Tryz.underlying25 HI.out.1 HI.out.2.1 HI.out.2.2.1 HI.out.2.2.2 rfl (by decide) _ _ _ (by first | rfl | simp [Act.eval, Act.put]) own1 ⟨g, 0, none⟩ j cp ((L.take j).map Value.string) (by first | rfl | simp [Act.eval, Act.put]) HTl.out (take_cells (HS0.out _ hb2)) (strs_one _) (by unfold maxLen; omega) (by omega) hb2.size ?_
                intro v1 W3 own2 grow1 nil1
                have hb3 := hb2.grown grow1 hb2.size (fun r e => (own1.lt r e).1)
                have hc3 := one_keep hc2 grow1 (by omega) (by first | (simp [Value.ownBlock]; done) | (simp [Value.ownBlock]; omega))
                refine hK.out _ _ ?_ (fun hHeld => ?_)
                · ((try dsimp only); exact HSk.out _ hb3)
                clear hK K2 hHeld grow1 nil1 hc2 own1 hb2
                try simp only [Act.put, List.setIfInBounds_toArray, List.set_cons_zero, List.set_cons_succ]
                obtain ⟨β, hβ⟩ : ∃ β, W.heap.size = β := ⟨_, rfl⟩
                refine rh.go_next (i := 10) rfl (by kernel_rfl) (fun K2 hK => ?_)
                refine sa.step_append_own rfl _ _ 25 rfl W.heap.size 9 i0 (.string ⟨#[]⟩) 1 16 Tryz.underlying25 HI.out.1 HI.out.2.1 HI.out.2.2.1 HI.out.2.2.2 rfl (by decide) _ _ _ (by first | rfl | simp [Act.eval, Act.put]) own2 _ 1 1 [.string x] (by first | rfl | simp [Act.eval, Act.put]) rfl hc3 (one_one x) (by unfold maxLen; omega) (by omega) hb3.size ?_
                intro v2 W4 own4 grow4 nil4
                have hb4 := hb3.grown grow4 hb3.size (fun r e => (own2.lt r e).1)
                refine hK.out _ _ ?_ (fun hHeld => ?_)
                · ((try dsimp only); exact HSk.out _ hb4)
                have hv2 : v2 ≠ .slice none 0 0 := fun e => by have := (nil4.1 e).2; omega
                clear hK K2 hHeld grow4 nil4 hc3 own2 hb3
                try simp only [Act.put, List.setIfInBounds_toArray, List.set_cons_zero, List.set_cons_succ]
                refine rh.go_next (i := 14) rfl (by kernel_rfl) (fun K2 hK => ?_)
                refine sa.step_append_own rfl _ _ 25 rfl W.heap.size 9 i0 (.string ⟨#[]⟩) 1 16 Tryz.underlying25 HI.out.1 HI.out.2.1 HI.out.2.2.1 HI.out.2.2.2 rfl (by decide) _ _ _ (by first | rfl | simp [Act.eval, Act.put]) own4 ⟨g, o, none⟩ (m - j) (cp - j) ((L.drop j).map Value.string) (by first | rfl | simp [Act.eval, Act.put]) HDl.out (drop_cells (HS0.out _ hb4) HDr.out) (strs_one _) (by unfold maxLen; omega) (by omega) hb4.size ?_
                intro v3 W5 own5 grow5 nil5
                have hb5 := hb4.grown grow5 hb4.size (fun r e => (own4.lt r e).1)
                refine hK.out _ _ ?_ (fun hHeld => ?_)
                · ((try dsimp only); exact HSk.out _ hb5)
                have hv3 : v3 ≠ .slice none 0 0 := fun e => hv2 (nil5.1 e).1
                clear hK K2 hHeld grow5 nil5 own4 hb4
                try simp only [Act.put, List.setIfInBounds_toArray, List.set_cons_zero, List.set_cons_succ]
                refine rh.go_last rfl (by kernel_rfl) (fun K2 hK => ?_)
                go_simp
                refine hK.out _ _ ?_
                refine NoPanic.normal ?_
                clear hK K2
                have HO5 := Lib.hid own5
                have HB5 := Lib.hid hb5
                clear own5 hb5
                go_wp2_with fail
                go_roundw
                case rel => exact ⟨k + 1, by omega, by go_num, by rw [HIn.out]; exact owns_of (HO5.out) (Nat.le_trans hsz hBW2.size) hv3 HM.out hjm2, (HB.out.trans (hBW2.mono HB.out.size)).trans (HB5.out.mono (Nat.le_trans hsz hBW2.size))⟩
                case measure => simp [intOf]; omega
        · have hje : ((j : Int) == (m : Int)) = true := by simp; omega
          have HIn := Lib.hid (HT.out.trans (ins_put L j HA.out (by have := HM.out; omega) (fun z hz => absurd (List.getElem?_eq_some_iff.1 hz).1 (by have := HM.out; omega))))
          go_wp2_with fail
          go_quiet (fail)
          go_wp2_with fail
          go_quiet (fail)
          go_wp2_with fail
          refine wp_name (fun W hW => ?_)
          have hBW : Below wr.heap.size wr W := by rw [hW]; exact below_drewN (below_drewN HQ.out _) _
          have hdW := (hBW.cell (p := ⟨b, off + k, none⟩) (by dsimp only; omega)).trans d0
          have hgW := Nat.lt_of_lt_of_le hg2 hBW.size
          have hjc : j ≤ cp := by omega
          have hjm2 : j ≤ m := by omega
          obtain ⟨o, ho1, ho2⟩ : ∃ o : Nat, (cp = j → o = 0) ∧ (¬ cp = j → o = j) := by
            by_cases e : cp = j
            · exact ⟨0, fun _ => rfl, fun h => absurd e h⟩
            · exact ⟨j, fun h => absurd h e, fun _ => rfl⟩
          clear hW
          have hBW2 := hBW
          have HSk := Lib.hid (fun w' (hq : Below W.heap.size W w') => (hq.cell (p := ⟨b, off + k, none⟩) (by dsimp only; have := hBW.size; omega)).trans hdW)
          clear d0 d1 hdW hBW
          refine rh.go_begin 15 (fun w' => w'.cell? ⟨b, off + k, none⟩ = some (.string x)) (by kernel_rfl) ?_ (fun hHeld => ?_)
          · ((try dsimp only); exact HSk.out _ (by go_grown))
          refine rh.go_take (i := 1) (v := ?v9) rfl (by kernel_rfl) (fun _ _ _ h => h) (Or.inl ⟨by rfl, ?hy9⟩) (by assumption) ?rest9
          case hy9 => (intro wS hSw; (try dsimp only at hSw); go_simp; try (with_reducible rfl))
          try simp only [Act.put, List.setIfInBounds_toArray, List.set_cons_zero, List.set_cons_succ]
          refine rh.go_take (i := 2) (v := ?v10) rfl (by kernel_rfl) (fun _ _ _ h => h) (Or.inl ⟨by rfl, ?hy10⟩) (by assumption) ?rest10
          case hy10 => (intro wS hSw; (try dsimp only at hSw); go_simp; try (with_reducible rfl))
          try simp only [Act.put, List.setIfInBounds_toArray, List.set_cons_zero, List.set_cons_succ]
          refine rh.go_take (i := 3) (v := .slice (some ⟨g, 0, none⟩) j cp) rfl (by kernel_rfl) (fun _ _ _ h => h) (Or.inl ⟨by rfl, ?hyA2⟩) (by assumption) ?restA2
          case hyA2 => (intro wS hSw; (try dsimp only at hSw); go_simp)
          try simp only [Act.put, List.setIfInBounds_toArray, List.set_cons_zero, List.set_cons_succ]
          refine rh.go_take (i := 5) (v := ?v11) rfl (by kernel_rfl) (fun _ _ _ h => h) (Or.inl ⟨by rfl, ?hy11⟩) (by assumption) ?rest11
          case hy11 => (intro wS hSw; (try dsimp only at hSw); go_simp; try (with_reducible rfl))
          try simp only [Act.put, List.setIfInBounds_toArray, List.set_cons_zero, List.set_cons_succ]
          refine rh.go_take (i := 6) (v := ?v12) rfl (by kernel_rfl) (fun _ _ _ h => h) (Or.inl ⟨by rfl, ?hy12⟩) (by assumption) ?rest12
          case hy12 => (intro wS hSw; (try dsimp only at hSw); go_simp; try (with_reducible rfl))
          try simp only [Act.put, List.setIfInBounds_toArray, List.set_cons_zero, List.set_cons_succ]
          refine rh.go_take (i := 7) (v := ?v13) rfl (by kernel_rfl) (fun _ _ _ h => h) (Or.inl ⟨by rfl, ?hy13⟩) (by assumption) ?rest13
          case hy13 => (intro wS hSw; (try dsimp only at hSw); go_simp; try (with_reducible rfl))
          try simp only [Act.put, List.setIfInBounds_toArray, List.set_cons_zero, List.set_cons_succ]
          refine rh.go_take (i := 8) (v := ?v14) rfl (by kernel_rfl) (fun _ _ _ h => h) (Or.inl ⟨by rfl, ?hy14⟩) (by assumption) ?rest14
          case hy14 => (intro wS hSw; (try dsimp only at hSw); go_simp; try (with_reducible rfl))
          try simp only [Act.put, List.setIfInBounds_toArray, List.set_cons_zero, List.set_cons_succ]
          refine rh.go_take (i := 11) (v := ?v15) rfl (by kernel_rfl) (fun _ _ _ h => h) (Or.inl ⟨by rfl, ?hy15⟩) (by assumption) ?rest15
          case hy15 => (intro wS hSw; (try dsimp only at hSw); go_simp; try (with_reducible rfl))
          try simp only [Act.put, List.setIfInBounds_toArray, List.set_cons_zero, List.set_cons_succ]
          refine rh.go_take (i := 12) (v := ?v16) rfl (by kernel_rfl) (fun _ _ _ h => h) (Or.inl ⟨by rfl, ?hy16⟩) (by assumption) ?rest16
          case hy16 => (intro wS hSw; (try dsimp only at hSw); go_simp; try (with_reducible rfl))
          try simp only [Act.put, List.setIfInBounds_toArray, List.set_cons_zero, List.set_cons_succ]
          refine rh.go_take (i := 13) (v := .slice (some ⟨g, o, none⟩) (m - j) (cp - j)) rfl (by kernel_rfl) (fun _ _ _ h => h) (Or.inl ⟨by rfl, ?hyB2⟩) (by assumption) ?restB2
          case hyB2 => (intro wS hSw; (try dsimp only at hSw); go_simp; by_cases e : cp = j <;> simp_all)
          try simp only [Act.put, List.setIfInBounds_toArray, List.set_cons_zero, List.set_cons_succ]
          clear hjc
          have hBD := (Below.refl W.heap.size W).drew
          have HS0 := Lib.hid (fun w' (hq : Below W.heap.size W w') => HSr.out.below (hBW2.trans (hq.mono hBW2.size)))
          have HDr : Hid (j < m → o = j) := Lib.hid (fun h => ho2 (by omega))
          have HTl : Hid ((List.map Value.string (L.take j)).length = j * 1) := Lib.hid (by rw [List.length_map, List.length_take, Nat.mul_one]; have := HM.out; omega)
          have HDl : Hid ((List.map Value.string (L.drop j)).length = (m - j) * 1) := Lib.hid (by rw [List.length_map, List.length_drop, Nat.mul_one, HM.out])
          have hmn : m ≤ 1048576 := by omega
          refine go_two (i := 0) (j := 9) rfl rfl (by kernel_rfl) (fun K2 hK => ?_) (fun K2 hK => ?_)
          · go_simp
            have hb1 := hBD.alloc (Nat.le_refl _) (.cells #[] 9)
            have ho1 := ownsRow_nil_new W.drew 9 1 W.heap.size (Nat.le_refl _)
            refine hK.out _ _ ?_ (fun hHeld => ?_)
            · ((try dsimp only); exact HSk.out _ hb1)
            clear hK K2 hHeld
            try simp only [Act.put, List.setIfInBounds_toArray, List.set_cons_zero, List.set_cons_succ]
            have hz1 : (W.drew.alloc (.cells #[] 9)).heap.size = W.heap.size + 1 := World.size_alloc ..
            try rw [show W.drew.heap.size = W.heap.size from rfl] at ho1
            try rw [show W.drew.heap.size = W.heap.size from rfl]
            rw [show W.drew.alloc (.cells #[] 9) = (W.alloc (.cells #[] 9)).drew from rfl] at ho1 hz1 hb1
            obtain ⟨W1, hW1⟩ : ∃ W1, (W.alloc (.cells #[] 9)).drew = W1 := ⟨_, rfl⟩
            rw [hW1] at ho1 hz1 hb1 ⊢
            clear hW1
            refine go_two (i := 4) (j := 9) rfl rfl (by kernel_rfl) (fun K2 hK => ?_) (fun K2 hK => ?_)
            · refine sa.step_append_own rfl _ _ 25 rfl W.heap.size 9 i0 (.string ⟨#[]⟩) 1 16 Tryz.underlying25 HI.out.1 HI.out.2.1 HI.out.2.2.1 HI.out.2.2.2 rfl (by decide) _ _ _ (by first | rfl | simp [Act.eval, Act.put]) ho1 ⟨g, 0, none⟩ j cp ((L.take j).map Value.string) (by first | rfl | simp [Act.eval, Act.put]) HTl.out (take_cells (HS0.out _ hb1)) (strs_one _) (by unfold maxLen; omega) (by omega) hb1.size ?_
              intro v1 W2 own1 grow1 nil1
              have hb2 := hb1.grown grow1 hb1.size (fun r e => (ho1.lt r e).1)
              refine hK.out _ _ ?_ (fun hHeld => ?_)
              · ((try dsimp only); exact HSk.out _ hb2)
              clear hK K2 hHeld grow1 nil1
              try simp only [Act.put, List.setIfInBounds_toArray, List.set_cons_zero, List.set_cons_succ]
              refine rh.go_next (i := 9) rfl (by kernel_rfl) (fun K2 hK => ?_)
              go_simp
              have own2 := own1.alloc (.cells #[.string x] 9)
              have hb3 := hb2.alloc hb2.size (.cells #[.string x] 9)
              have hc3 := cell_one_new W2 (.string x) 9
              refine hK.out _ _ ?_ (fun hHeld => ?_)
              · ((try dsimp only); exact HSk.out _ hb3)
              clear hK K2 hHeld
              try simp only [Act.put, List.setIfInBounds_toArray, List.set_cons_zero, List.set_cons_succ]
              obtain ⟨W3, hW3⟩ : ∃ W3, W2.alloc (.cells #[.string x] 9) = W3 := ⟨_, rfl⟩
              obtain ⟨β, hβ⟩ : ∃ β, W2.heap.size = β := ⟨_, rfl⟩
              rw [hW3] at own2 hb3 hc3 ⊢
              rw [hβ] at hc3 ⊢
              clear hW3 hβ own1 hb2
              refine rh.go_next (i := 10) rfl (by kernel_rfl) (fun K2 hK => ?_)
              refine sa.step_append_own rfl _ _ 25 rfl W.heap.size 9 i0 (.string ⟨#[]⟩) 1 16 Tryz.underlying25 HI.out.1 HI.out.2.1 HI.out.2.2.1 HI.out.2.2.2 rfl (by decide) _ _ _ (by first | rfl | simp [Act.eval, Act.put]) own2 _ 1 1 [.string x] (by first | rfl | simp [Act.eval, Act.put]) rfl hc3 (one_one x) (by unfold maxLen; omega) (by omega) hb3.size ?_
              intro v2 W4 own4 grow4 nil4
              have hb4 := hb3.grown grow4 hb3.size (fun r e => (own2.lt r e).1)
              refine hK.out _ _ ?_ (fun hHeld => ?_)
              · ((try dsimp only); exact HSk.out _ hb4)
              have hv2 : v2 ≠ .slice none 0 0 := fun e => by have := (nil4.1 e).2; omega
              clear hK K2 hHeld grow4 nil4 hc3 own2 hb3
              try simp only [Act.put, List.setIfInBounds_toArray, List.set_cons_zero, List.set_cons_succ]
              refine rh.go_next (i := 14) rfl (by kernel_rfl) (fun K2 hK => ?_)
              refine sa.step_append_own rfl _ _ 25 rfl W.heap.size 9 i0 (.string ⟨#[]⟩) 1 16 Tryz.underlying25 HI.out.1 HI.out.2.1 HI.out.2.2.1 HI.out.2.2.2 rfl (by decide) _ _ _ (by first | rfl | simp [Act.eval, Act.put]) own4 ⟨g, o, none⟩ (m - j) (cp - j) ((L.drop j).map Value.string) (by first | rfl | simp [Act.eval, Act.put]) HDl.out (drop_cells (HS0.out _ hb4) HDr.out) (strs_one _) (by unfold maxLen; omega) (by omega) hb4.size ?_
              intro v3 W5 own5 grow5 nil5
              have hb5 := hb4.grown grow5 hb4.size (fun r e => (own4.lt r e).1)
              refine hK.out _ _ ?_ (fun hHeld => ?_)
              · ((try dsimp only); exact HSk.out _ hb5)
              have hv3 : v3 ≠ .slice none 0 0 := fun e => hv2 (nil5.1 e).1
              clear hK K2 hHeld grow5 nil5 own4 hb4
              try simp only [Act.put, List.setIfInBounds_toArray, List.set_cons_zero, List.set_cons_succ]
              refine rh.go_last rfl (by kernel_rfl) (fun K2 hK => ?_)
              go_simp
              refine hK.out _ _ ?_
              refine NoPanic.normal ?_
              clear hK K2
              have HO5 := Lib.hid own5
              have HB5 := Lib.hid hb5
              clear own5 hb5
              go_wp2_with fail
              go_roundw
              case rel => exact ⟨k + 1, by omega, by go_num, by rw [HIn.out]; exact owns_of (HO5.out) (Nat.le_trans hsz hBW2.size) hv3 HM.out hjm2, (HB.out.trans (hBW2.mono HB.out.size)).trans (HB5.out.mono (Nat.le_trans hsz hBW2.size))⟩
              case measure => simp [intOf]; omega
            · go_simp
              have own1 := ho1.alloc (.cells #[.string x] 9)
              have hb2 := hb1.alloc hb1.size (.cells #[.string x] 9)
              have hc2 := cell_one_new W1 (.string x) 9
              refine hK.out _ _ ?_ (fun hHeld => ?_)
              · ((try dsimp only); exact HSk.out _ hb2)
              clear hK K2 hHeld
              try simp only [Act.put, List.setIfInBounds_toArray, List.set_cons_zero, List.set_cons_succ]
              have hz2 : (W1.alloc (.cells #[.string x] 9)).heap.size = W1.heap.size + 1 := World.size_alloc ..
              obtain ⟨W2, hW2⟩ : ∃ W2, W1.alloc (.cells #[.string x] 9) = W2 := ⟨_, rfl⟩
              rw [hW2] at own1 hb2 hc2 hz2 ⊢
              rw [hz1] at hc2 hz2
              clear hW2
              refine rh.go_next (i := 4) rfl (by kernel_rfl) (fun K2 hK => ?_)
              refine sa.step_append_own rfl _ _ 25 rfl W.heap.size 9 i0 (.string ⟨#[]⟩) 1 16 Tryz.underlying25 HI.out.1 HI.out.2.1 HI.out.2.2.1 HI.out.2.2.2 rfl (by decide) _ _ _ (by first | rfl | simp [Act.eval, Act.put]) own1 ⟨g, 0, none⟩ j cp ((L.take j).map Value.string) (by first | rfl | simp [Act.eval, Act.put]) HTl.out (take_cells (HS0.out _ hb2)) (strs_one _) (by unfold maxLen; omega) (by omega) hb2.size ?_
              intro v1 W3 own2 grow1 nil1
              have hb3 := hb2.grown grow1 hb2.size (fun r e => (own1.lt r e).1)
              have hc3 := one_keep hc2 grow1 (by omega) (by first | (simp [Value.ownBlock]; done) | (simp [Value.ownBlock]; omega))
              refine hK.out _ _ ?_ (fun hHeld => ?_)
              · ((try dsimp only); exact HSk.out _ hb3)
              clear hK K2 hHeld grow1 nil1 hc2 own1 hb2
              try simp only [Act.put, List.setIfInBounds_toArray, List.set_cons_zero, List.set_cons_succ]
              refine rh.go_next (i := 10) rfl (by kernel_rfl) (fun K2 hK => ?_)
              refine sa.step_append_own rfl _ _ 25 rfl W.heap.size 9 i0 (.string ⟨#[]⟩) 1 16 Tryz.underlying25 HI.out.1 HI.out.2.1 HI.out.2.2.1 HI.out.2.2.2 rfl (by decide) _ _ _ (by first | rfl | simp [Act.eval, Act.put]) own2 _ 1 1 [.string x] (by first | rfl | simp [Act.eval, Act.put]) rfl hc3 (one_one x) (by unfold maxLen; omega) (by omega) hb3.size ?_
              intro v2 W4 own4 grow4 nil4
              have hb4 := hb3.grown grow4 hb3.size (fun r e => (own2.lt r e).1)
              refine hK.out _ _ ?_ (fun hHeld => ?_)
              · ((try dsimp only); exact HSk.out _ hb4)
              have hv2 : v2 ≠ .slice none 0 0 := fun e => by have := (nil4.1 e).2; omega
              clear hK K2 hHeld grow4 nil4 hc3 own2 hb3
              try simp only [Act.put, List.setIfInBounds_toArray, List.set_cons_zero, List.set_cons_succ]
              refine rh.go_next (i := 14) rfl (by kernel_rfl) (fun K2 hK => ?_)
              refine sa.step_append_own rfl _ _ 25 rfl W.heap.size 9 i0 (.string ⟨#[]⟩) 1 16 Tryz.underlying25 HI.out.1 HI.out.2.1 HI.out.2.2.1 HI.out.2.2.2 rfl (by decide) _ _ _ (by first | rfl | simp [Act.eval, Act.put]) own4 ⟨g, o, none⟩ (m - j) (cp - j) ((L.drop j).map Value.string) (by first | rfl | simp [Act.eval, Act.put]) HDl.out (drop_cells (HS0.out _ hb4) HDr.out) (strs_one _) (by unfold maxLen; omega) (by omega) hb4.size ?_
              intro v3 W5 own5 grow5 nil5
              have hb5 := hb4.grown grow5 hb4.size (fun r e => (own4.lt r e).1)
              refine hK.out _ _ ?_ (fun hHeld => ?_)
              · ((try dsimp only); exact HSk.out _ hb5)
              have hv3 : v3 ≠ .slice none 0 0 := fun e => hv2 (nil5.1 e).1
              clear hK K2 hHeld grow5 nil5 own4 hb4
              try simp only [Act.put, List.setIfInBounds_toArray, List.set_cons_zero, List.set_cons_succ]
              refine rh.go_last rfl (by kernel_rfl) (fun K2 hK => ?_)
              go_simp
              refine hK.out _ _ ?_
              refine NoPanic.normal ?_
              clear hK K2
              have HO5 := Lib.hid own5
              have HB5 := Lib.hid hb5
              clear own5 hb5
              go_wp2_with fail
              go_roundw
              case rel => exact ⟨k + 1, by omega, by go_num, by rw [HIn.out]; exact owns_of (HO5.out) (Nat.le_trans hsz hBW2.size) hv3 HM.out hjm2, (HB.out.trans (hBW2.mono HB.out.size)).trans (HB5.out.mono (Nat.le_trans hsz hBW2.size))⟩
              case measure => simp [intOf]; omega
          · go_simp
            have hb1 := hBD.alloc (Nat.le_refl _) (.cells #[.string x] 9)
            have hc1 := cell_one_new W.drew (.string x) 9
            refine hK.out _ _ ?_ (fun hHeld => ?_)
            · ((try dsimp only); exact HSk.out _ hb1)
            clear hK K2 hHeld
            try simp only [Act.put, List.setIfInBounds_toArray, List.set_cons_zero, List.set_cons_succ]
            have hz1 : (W.drew.alloc (.cells #[.string x] 9)).heap.size = W.heap.size + 1 := World.size_alloc ..
            try rw [show W.drew.heap.size = W.heap.size from rfl] at hc1
            try rw [show W.drew.heap.size = W.heap.size from rfl]
            rw [show W.drew.alloc (.cells #[.string x] 9) = (W.alloc (.cells #[.string x] 9)).drew from rfl] at hc1 hz1 hb1
            obtain ⟨W1, hW1⟩ : ∃ W1, (W.alloc (.cells #[.string x] 9)).drew = W1 := ⟨_, rfl⟩
            rw [hW1] at hc1 hz1 hb1 ⊢
            clear hW1
            refine rh.go_next (i := 0) rfl (by kernel_rfl) (fun K2 hK => ?_)
            go_simp
            have own1 := ownsRow_nil_new W1 9 1 W.heap.size hb1.size
            have hb2 := hb1.alloc hb1.size (.cells #[] 9)
            have hc2 : ∀ (i : Nat) u, [Value.string x][i]? = some u → (W1.alloc (.cells #[] 9)).cell? ((⟨W.heap.size, 0, none⟩ : Addr).add i) = some u := one_keep hc1 (World.grownBy_alloc W1 (.cells #[] 9) none) (by omega) (by simp)
            refine hK.out _ _ ?_ (fun hHeld => ?_)
            · ((try dsimp only); exact HSk.out _ hb2)
            clear hK K2 hHeld
            try simp only [Act.put, List.setIfInBounds_toArray, List.set_cons_zero, List.set_cons_succ]
            have hz2 : (W1.alloc (.cells #[] 9)).heap.size = W1.heap.size + 1 := World.size_alloc ..
            obtain ⟨W2, hW2⟩ : ∃ W2, W1.alloc (.cells #[] 9) = W2 := ⟨_, rfl⟩
            rw [hW2] at own1 hb2 hc2 hz2 ⊢
            clear hW2
            refine rh.go_next (i := 4) rfl (by kernel_rfl) (fun K2 hK => ?_)
            refine sa.step_append_own rfl _ _ 25 rfl W.heap.size 9 i0 (.string ⟨#[]⟩) 1 16 Tryz.underlying25 HI.out.1 HI.out.2.1 HI.out.2.2.1 HI.out.2.2.2 rfl (by decide) _ _ _ (by first | rfl | simp [Act.eval, Act.put]) own1 ⟨g, 0, none⟩ j cp ((L.take j).map Value.string) (by first | rfl | simp [Act.eval, Act.put]) HTl.out (take_cells (HS0.out _ hb2)) (strs_one _) (by unfold maxLen; omega) (by omega) hb2.size ?_
            intro v1 W3 own2 grow1 nil1
            have hb3 := hb2.grown grow1 hb2.size (fun r e => (own1.lt r e).1)
            have hc3 := one_keep hc2 grow1 (by omega) (by first | (simp [Value.ownBlock]; done) | (simp [Value.ownBlock]; omega))
            refine hK.out _ _ ?_ (fun hHeld => ?_)
            · ((try dsimp only); exact HSk.out _ hb3)
            clear hK K2 hHeld grow1 nil1 hc2 own1 hb2
            try simp only [Act.put, List.setIfInBounds_toArray, List.set_cons_zero, List.set_cons_succ]
            obtain ⟨β, hβ⟩ : ∃ β, W.heap.size = β := ⟨_, rfl⟩
            refine rh.go_next (i := 10) rfl (by kernel_rfl) (fun K2 hK => ?_)
            refine sa.step_append_own rfl _ _ 25 rfl W.heap.size 9 i0 (.string ⟨#[]⟩) 1 16 Tryz.underlying25 HI.out.1 HI.out.2.1 HI.out.2.2.1 HI.out.2.2.2 rfl (by decide) _ _ _ (by first | rfl | simp [Act.eval, Act.put]) own2 _ 1 1 [.string x] (by first | rfl | simp [Act.eval, Act.put]) rfl hc3 (one_one x) (by unfold maxLen; omega) (by omega) hb3.size ?_
            intro v2 W4 own4 grow4 nil4
            have hb4 := hb3.grown grow4 hb3.size (fun r e => (own2.lt r e).1)
            refine hK.out _ _ ?_ (fun hHeld => ?_)
            · ((try dsimp only); exact HSk.out _ hb4)
            have hv2 : v2 ≠ .slice none 0 0 := fun e => by have := (nil4.1 e).2; omega
            clear hK K2 hHeld grow4 nil4 hc3 own2 hb3
            try simp only [Act.put, List.setIfInBounds_toArray, List.set_cons_zero, List.set_cons_succ]
            refine rh.go_next (i := 14) rfl (by kernel_rfl) (fun K2 hK => ?_)
            refine sa.step_append_own rfl _ _ 25 rfl W.heap.size 9 i0 (.string ⟨#[]⟩) 1 16 Tryz.underlying25 HI.out.1 HI.out.2.1 HI.out.2.2.1 HI.out.2.2.2 rfl (by decide) _ _ _ (by first | rfl | simp [Act.eval, Act.put]) own4 ⟨g, o, none⟩ (m - j) (cp - j) ((L.drop j).map Value.string) (by first | rfl | simp [Act.eval, Act.put]) HDl.out (drop_cells (HS0.out _ hb4) HDr.out) (strs_one _) (by unfold maxLen; omega) (by omega) hb4.size ?_
            intro v3 W5 own5 grow5 nil5
            have hb5 := hb4.grown grow5 hb4.size (fun r e => (own4.lt r e).1)
            refine hK.out _ _ ?_ (fun hHeld => ?_)
            · ((try dsimp only); exact HSk.out _ hb5)
            have hv3 : v3 ≠ .slice none 0 0 := fun e => hv2 (nil5.1 e).1
            clear hK K2 hHeld grow5 nil5 own4 hb4
            try simp only [Act.put, List.setIfInBounds_toArray, List.set_cons_zero, List.set_cons_succ]
            refine rh.go_last rfl (by kernel_rfl) (fun K2 hK => ?_)
            go_simp
            refine hK.out _ _ ?_
            refine NoPanic.normal ?_
            clear hK K2
            have HO5 := Lib.hid own5
            have HB5 := Lib.hid hb5
            clear own5 hb5
            go_wp2_with fail
            go_roundw
            case rel => exact ⟨k + 1, by omega, by go_num, by rw [HIn.out]; exact owns_of (HO5.out) (Nat.le_trans hsz hBW2.size) hv3 HM.out hjm2, (HB.out.trans (hBW2.mono HB.out.size)).trans (HB5.out.mono (Nat.le_trans hsz hBW2.size))⟩
            case measure => simp [intOf]; omega
    · obtain rfl : n = k := by omega
      have hO2 := hO.1
      rw [List.take_of_length_le (by rw [HL.out]; exact Nat.le_refl _)] at hO2
      obtain ⟨A', c', rfl, hr⟩ := strs_owned hO2
      have HR := Lib.hid hr
      clear hO hO2 hr
      go_wp2_with fail
      go_ret
      exact ⟨_, _, rfl, HR.out, hB⟩
end Go.Proofs.YtfjgapkjpmkplaaGreat.so
