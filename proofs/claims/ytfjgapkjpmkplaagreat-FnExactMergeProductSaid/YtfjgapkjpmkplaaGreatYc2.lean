/- Mpx. -/
import Derived.Test.YtfjgapkjpmkplaaGreatXa
import Derived.Test.YtfjgapkjpmkplaaGreatXb
import Derived.Test.YtfjgapkjpmkplaaGreatXc
import Derived.Test.YtfjgapkjpmkplaaGreatXd
import Derived.Test.YtfjgapkjpmkplaaGreatXe
import Derived.Test.YtfjgapkjpmkplaaGreatXf
import Derived.Test.YtfjgapkjpmkplaaGreatXg
import Derived.Test.YtfjgapkjpmkplaaGreatXh
import Derived.Test.YtfjgapkjpmkplaaGreatYa012
import Derived.Test.YtfjgapkjpmkplaaGreatYb012
import Derived.Test.YtfjgapkjpmkplaaGreatYc012
import Derived.Test.YtfjgapkjpmkplaaGreatRows
import Derived.WalkKit
import Derived.WalkSpells
import Derived.WalkLawsBesides
import Derived.ProofKit
import Derived.OpenShut
import Derived.ShutString
import Derived.Deep.OwnRows
import Derived.Deep.Draws
import Derived.SliceStrings
import Derived.ChangeOld
import Derived.Below
import Derived.Lib.Hide
import Derived.Lib.ItoaNum
import Derived.Deep.QuietTactic
import Derived.BigQuiet
import Derived.Outline
import Derived.StillTailTactics
import Derived.Deep.RegionWith
import Derived.Deep.RegionHeld3
import Derived.Deep.Slices
import Derived.Deep.Fields
import Derived.ChangeSame
import Derived.Lib.SmallJoins
import Derived.Maps.OwnOps
import Derived.Maps.OwnIn
import Derived.Maps.Views
import Derived.Maps.AppendAt
import Derived.RangeFuncBox
import Derived.RangeFuncLeaves
import Derived.Shelf.Abstract
import Derived.OwnWalkIn
import Derived.TacticsInMore
import Derived.LoopNIn
import Derived.LoopIn
import Derived.RangeFuncWrites
import Derived.RangeFuncNested
import Derived.JoinedOf
import Derived.Deep.AppendLies
import Derived.Deep.RegionLaw
import Derived.Laws.AppendOwnNone
import Derived.Lib.SliceRun
import Derived.Deep.Cut
import Derived.Deep.CutRange
import Derived.OrdersHeld
import Derived.StillTail
import Derived.Handy
import Derived.Lib.Walk
import Derived.Deep.LoopGhost
import Derived.Lib.LazyBuf
import Derived.Lib.AppendZerosOnto
import Derived.Sort.OwnSorted
import Derived.Lib.SlicesCompact
import Derived.Sort.KeysCollected
import Derived.Test.YtfjgapkjpmkplaaGreatSfl
import Derived.Shelf.SlSortCmp.NoneTotal
import Derived.WalkMore
import Derived.ScopeJumps
set_option linter.unusedSimpArgs false
set_option linter.unusedVariables false
namespace Go.Proofs.YtfjgapkjpmkplaaGreat.mpx
open kit bg sg opn strs only hb sig isig un over gn nm inn ht gd im pt marks eqs hc hi hw hn rs br bm bw cf lf ib lw cl rt ix tg rl ed tp rtg lep rnp pm pl mb sb wb jo ek wk rk gv tm psp mrp mrs mri nd co ft uw nj sf mg sd rn
set_option linter.unusedVariables false
theorem pcS_neg {a b : Big} {p : Int} (h0 : p < 0) (h1 : -b.roots ≤ p) : pcS a b p = p - a.roots := by
  obtain ⟨k, rfl⟩ : ∃ k : Nat, p = -1 - (k : Int) := ⟨(-1 - p).toNat, by omega⟩
  unfold pcS
  rw [pcF_neg (rts_get (z := a.roots) (n := b.roots.toNat) (i := k) (by omega))]
  omega
theorem pcS_pos {a b : Big} {p : Int} (h0 : ¬ p < 0) : pcS a b p = p + a.nodes.length := by
  unfold pcS
  exact pcF_pos h0
theorem sd_left {a b : Big} {ws : List Wr} {k : Nat} {y : Nd} (h : a.nodes[k]? = some y) : (sdB a b ws).nodes[k]? = some ⟨y.control, y.parent, y.links.map (lkF (lfS a b))⟩ := by
  have hk := (List.getElem?_eq_some_iff.1 h).1
  show ((relB (lkF (lfS a b)) a).nodes ++ _)[k]? = _
  rw [List.getElem?_append_left (by simp only [relB, List.length_map]; exact hk)]
  simp only [relB, List.getElem?_map, h]
  rfl
theorem sd_right {a b : Big} {ws : List Wr} {j : Nat} {y : Nd} (h : b.nodes[j]? = some y) : (sdB a b ws).nodes[a.nodes.length + j]? = some ⟨y.control, pcS a b y.parent, y.links.map (lkF (rgS a b))⟩ := by
  have hl : (relB (lkF (lfS a b)) a).nodes.length = a.nodes.length := by simp only [relB, List.length_map]
  show ((relB (lkF (lfS a b)) a).nodes ++ _)[a.nodes.length + j]? = _
  rw [List.getElem?_append_right (by rw [hl]; omega), hl, Nat.add_sub_cancel_left]
  simp only [plB, relB, List.getElem?_map, h]
  rfl
theorem sd_len (a b : Big) (ws : List Wr) : (sdB a b ws).nodes.length = a.nodes.length + b.nodes.length := by
  unfold sdB
  simp only [plB, relB, List.length_append, List.length_map]
theorem sd_node {a b : Big} {ws : List Wr} {k : Nat} {x : Nd} (h : (sdB a b ws).nodes[k]? = some x) :
    (∃ y, a.nodes[k]? = some y ∧ x = ⟨y.control, y.parent, y.links.map (lkF (lfS a b))⟩) ∨ ∃ (j : Nat) (y : Nd), k = a.nodes.length + j ∧ b.nodes[j]? = some y ∧ x = ⟨y.control, pcS a b y.parent, y.links.map (lkF (rgS a b))⟩ := by
  have hk := (List.getElem?_eq_some_iff.1 h).1
  rw [sd_len] at hk
  by_cases h1 : k < a.nodes.length
  · have hy := List.getElem?_eq_getElem h1
    rw [sd_left hy] at h
    injection h with h
    exact .inl ⟨_, hy, h.symm⟩
  · obtain ⟨j, rfl⟩ : ∃ j, k = a.nodes.length + j := ⟨k - a.nodes.length, by omega⟩
    have hy := List.getElem?_eq_getElem (show j < b.nodes.length by omega)
    rw [sd_right hy] at h
    injection h with h
    exact .inr ⟨j, _, rfl, hy, h.symm⟩
theorem sd_site {a b : Big} {ws : List Wr} {i : Nat} {z : Int} (h : (sdB a b ws).sites[i]? = some z) :
    a.sites[i]? = some z ∨ ∃ (j : Nat) (y : Int), b.sites[j]? = some y ∧ z = pcS a b y := by
  have h : (a.sites ++ b.sites.map (pcS a b))[i]? = some z := h
  by_cases h1 : i < a.sites.length
  · rw [List.getElem?_append_left h1] at h
    exact .inl h
  · rw [List.getElem?_append_right (by omega), List.getElem?_map] at h
    obtain ⟨y, hy, e⟩ := Option.map_eq_some_iff.1 h
    exact .inr ⟨_, y, hy, e.symm⟩
theorem und_left {cs : List Ctl} {a b : Big} {ws : List Wr} {p below : Int} (hb : 0 ≤ b.roots) (h : underB cs a p below = true) : underB cs (sdB a b ws) p below = true := by
  unfold underB at h ⊢
  by_cases h0 : p < 0
  · rw [if_pos h0] at h ⊢
    have := inb_true h
    exact inb_mk ⟨this.1, by show -1 - p ≤ a.roots + b.roots - 1; omega⟩
  · rw [if_neg h0] at h ⊢
    simp only [Bool.and_eq_true] at h ⊢
    refine ⟨h.1, ?_⟩
    have h2 := h.2
    cases hy : a.nodes[p.toNat]? with
    | none => rw [hy] at h2; cases h2
    | some y =>
      rw [hy] at h2
      rw [sd_left hy]
      exact h2
theorem und_right {cs : List Ctl} {a b : Big} {ws : List Wr} {p below : Int} (ha : 0 ≤ a.roots) (h : underB cs b p below = true) : underB cs (sdB a b ws) (pcS a b p) (a.nodes.length + below) = true := by
  unfold underB at h
  by_cases h0 : p < 0
  · rw [if_pos h0] at h
    have := inb_true h
    rw [pcS_neg h0 (by omega)]
    unfold underB
    rw [if_pos (by omega)]
    exact inb_mk ⟨by omega, by show -1 - (p - a.roots) ≤ a.roots + b.roots - 1; omega⟩
  · rw [if_neg h0] at h
    simp only [Bool.and_eq_true] at h
    have h1 := of_decide_eq_true h.1
    have h2 := h.2
    rw [pcS_pos h0]
    unfold underB
    rw [if_neg (by omega)]
    simp only [Bool.and_eq_true]
    refine ⟨decide_eq_true (by omega), ?_⟩
    rw [show (p + (a.nodes.length : Int)).toNat = a.nodes.length + p.toNat by omega]
    cases hy : b.nodes[p.toNat]? with
    | none => rw [hy] at h2; cases h2
    | some y =>
      rw [hy] at h2
      rw [sd_right hy]
      exact h2
def Placed (cs : List Ctl) (S : Big) : Prop := (∀ (k : Nat) x, S.nodes[k]? = some x → underB cs S x.parent k = true) ∧ ∀ (i : Nat) p, S.sites[i]? = some p → underB cs S p S.nodes.length = true
theorem seat_under {cs : List Ctl} {b : Big} {k : Nat} {x : Nd} (h : seatB cs b k x = true) : inb x.control 0 (cs.length - 1) = true ∧ underB cs b x.parent k = true := by
  unfold seatB at h
  simp only [Bool.and_eq_true] at h
  exact h
theorem sd_placed {cs : List Ctl} {a b : Big} {ws : List Wr} (ha : bigB cs a = true) (hb : bigB cs b = true) : Placed cs (sdB a b ws) := by
  have hya := sizes_of (big_of ha).2.1
  have hyb := sizes_of (big_of hb).2.1
  have hA := big_of ha
  have hB := big_of hb
  refine ⟨fun k x hx => ?_, fun i p hp => ?_⟩
  · rcases sd_node hx with ⟨y, hy, rfl⟩ | ⟨j, y, rfl, hy, rfl⟩
    · exact und_left hyb.1.1 (seat_under (hA.2.2.2.2.1 k y hy).1).2
    · have := und_right (ws := ws) hya.1.1 (seat_under (hB.2.2.2.2.1 j y hy).1).2
      rw [show ((a.nodes.length + j : Nat) : Int) = (a.nodes.length : Int) + (j : Int) by omega]
      exact this
  · rw [sd_len]
    rcases sd_site hp with h | ⟨j, y, hy, rfl⟩
    · have h1 := und_left (b := b) (ws := ws) hyb.1.1 (hA.2.2.2.2.2.1 i p h)
      unfold underB at h1 ⊢
      by_cases h0 : p < 0
      · rw [if_pos h0] at h1 ⊢; exact h1
      · rw [if_neg h0] at h1 ⊢
        simp only [Bool.and_eq_true] at h1 ⊢
        have := of_decide_eq_true h1.1
        exact ⟨decide_eq_true (by omega), h1.2⟩
    · have h1 := und_right (ws := ws) hya.1.1 (hB.2.2.2.2.2.1 j y hy)
      rw [show ((a.nodes.length + b.nodes.length : Nat) : Int) = (a.nodes.length : Int) + (b.nodes.length : Int) by omega]
      exact h1
theorem on_under {cs : List Ctl} {S : Big} {p below : Int} (h : underB cs S p below = true) : underB cs (onB S) (onF p) below = true := by
  unfold underB at h
  by_cases h0 : p < 0
  · unfold onF
    rw [if_pos h0]
    unfold underB
    rw [if_pos (by omega)]
    exact inb_mk ⟨by omega, by show (-1 : Int) - -1 ≤ 1 - 1; omega⟩
  · rw [if_neg h0] at h
    unfold onF
    rw [if_neg h0]
    unfold underB
    rw [if_neg h0]
    simp only [Bool.and_eq_true] at h ⊢
    refine ⟨h.1, ?_⟩
    have h2 := h.2
    have e : (onB S).nodes[p.toNat]? = (S.nodes[p.toNat]?).map (fun x => (⟨x.control, onF x.parent, x.links⟩ : Nd)) := by
      show (S.nodes.map _)[p.toNat]? = _
      rw [List.getElem?_map]
    rw [e]
    cases hy : S.nodes[p.toNat]? with
    | none => rw [hy] at h2; cases h2
    | some y =>
      rw [hy] at h2
      exact h2
theorem on_sizes {S : Big} : sizesB (onB S) = (inb S.edges 0 8 && decide (S.nodes.length ≤ 8) && decide (S.sites.length ≤ 4) && decide (S.outer.length ≤ 16) && decide (S.inner.length ≤ 16)) := by
  have h1 : (onB S).nodes.length = S.nodes.length := by show (S.nodes.map _).length = _; rw [List.length_map]
  have h2 : (onB S).sites.length = S.sites.length := by show (S.sites.map _).length = _; rw [List.length_map]
  unfold sizesB
  rw [h1, h2, show inb (onB S).roots 0 4 = true from rfl, Bool.true_and]
  rfl
theorem of_sizes {S : Big} (hr : 0 ≤ S.roots ∧ S.roots ≤ 4) : sizesB S = sizesB (onB S) := by
  rw [on_sizes]
  unfold sizesB
  rw [inb_mk hr, Bool.true_and]
theorem on_big {cs : List Ctl} {S : Big} (hp : Placed cs S) (hr : 0 ≤ S.roots ∧ S.roots ≤ 4) : bigB cs (onB S) = bigB cs S := by
  have hnode : ∀ (k : Nat) x, S.nodes[k]? = some x → (onB S).nodes[k]? = some ⟨x.control, onF x.parent, x.links⟩ := fun k x hx => by
    show (S.nodes.map _)[k]? = _
    rw [List.getElem?_map, hx]
    rfl
  have hnode' : ∀ (k : Nat) y, (onB S).nodes[k]? = some y → ∃ x, S.nodes[k]? = some x ∧ y = ⟨x.control, onF x.parent, x.links⟩ := fun k y hy => by
    have hy : (S.nodes.map _)[k]? = some y := hy
    rw [List.getElem?_map] at hy
    obtain ⟨x, hx, e⟩ := Option.map_eq_some_iff.1 hy
    exact ⟨x, hx, e.symm⟩
  have hlen : ((onB S).nodes.length : Int) = S.nodes.length := by show ((S.nodes.map _).length : Int) = _; rw [List.length_map]
  have hfw : BigP cs S → BigP cs (onB S) := fun h => by
    refine ⟨h.1, by rw [← of_sizes hr]; exact h.2.1, h.2.2.1, h.2.2.2.1, fun k y hy => ?_, fun i p hpp => ?_, h.2.2.2.2.2.2⟩
    · obtain ⟨x, hx, rfl⟩ := hnode' k y hy
      have h1 := h.2.2.2.2.1 k x hx
      refine ⟨?_, h1.2.1, h1.2.2⟩
      unfold seatB
      simp only [Bool.and_eq_true]
      exact ⟨(seat_under h1.1).1, on_under (hp.1 k x hx)⟩
    · have hpp : (S.sites.map onF)[i]? = some p := hpp
      rw [List.getElem?_map] at hpp
      obtain ⟨z, hz, rfl⟩ := Option.map_eq_some_iff.1 hpp
      rw [hlen]
      exact on_under (hp.2 i z hz)
  have hbw : BigP cs (onB S) → BigP cs S := fun h => by
    refine ⟨h.1, by rw [of_sizes hr]; exact h.2.1, h.2.2.1, h.2.2.2.1, fun k x hx => ?_, fun i p hpp => hp.2 i p hpp, h.2.2.2.2.2.2⟩
    have h1 := h.2.2.2.2.1 k _ (hnode k x hx)
    refine ⟨?_, h1.2.1, h1.2.2⟩
    unfold seatB
    simp only [Bool.and_eq_true]
    exact ⟨(seat_under h1.1).1, hp.1 k x hx⟩
  cases hq : bigB cs S with
  | true => exact big_true (hfw (big_of hq))
  | false => exact big_false (fun h => by rw [big_true (hbw h)] at hq; cases hq)
noncomputable def mpS (a b : Big) : Big := sdB a b (sdW a b)
noncomputable def mpR (cs : List Ctl) (a b : Big) : Big := if ppQ cs a b = true then onB (mpS a b) else zeroBig
theorem mp_none {cs : List Ctl} {a b : Big} (h : ppQ cs a b = false) : mpR cs a b = zeroBig := by
  unfold mpR
  rw [h]
  exact if_neg (by decide)
theorem mp_no {cs : List Ctl} {a b : Big} (h : ppP cs a b = false) : ppQ cs a b = false ∧ mpR cs a b = zeroBig :=
  ⟨(pp_no h).1, mp_none (pp_no h).1⟩
theorem pp_both {cs : List Ctl} {a b : Big} (h : ppP cs a b = true) : bigB cs a = true ∧ bigB cs b = true := by
  unfold ppP at h
  cases ha : bigB cs a with
  | false => rw [ha] at h; cases h
  | true =>
    cases hb : bigB cs b with
    | true => exact ⟨rfl, rfl⟩
    | false => rw [ha, hb] at h; cases h
theorem mp_far {cs : List Ctl} {a b : Big} (h : ppP cs a b = true) (hr : ¬ a.roots + b.roots ≤ 4) : ppQ cs a b = false ∧ mpR cs a b = zeroBig := by
  have hq : ppQ cs a b = false := by
    rw [(pp_yes h).1]
    refine big_false (fun hp => hr ?_)
    have := (sizes_of hp.2.1).1.2
    exact this
  exact ⟨hq, mp_none hq⟩
theorem mp_spec {cs : List Ctl} {a b : Big} (h : ppP cs a b = true) (hr : a.roots + b.roots ≤ 4) : ppQ cs a b = bigB cs (onB (mpS a b)) ∧ mpR cs a b = giveR cs (onB (mpS a b)) := by
  obtain ⟨ha, hb⟩ := pp_both h
  have hya := sizes_of (big_of ha).2.1
  have hyb := sizes_of (big_of hb).2.1
  have hq : ppQ cs a b = bigB cs (onB (mpS a b)) := by
    rw [(pp_yes h).1]
    exact (on_big (sd_placed ha hb) ⟨by show 0 ≤ a.roots + b.roots; omega, hr⟩).symm
  refine ⟨hq, ?_⟩
  unfold mpR giveR
  rw [hq]
theorem mp_impl {cs : List Ctl} {a b : Big} (h : ppQ cs a b = true) : bigB cs (ppR cs a b) = true ∧ mrR cs (ppR cs a b) = mpR cs a b := by
  have hP : ppP cs a b = true := by
    unfold ppQ at h
    cases hp : ppP cs a b with
    | true => rfl
    | false => rw [hp] at h; cases h
  have hb : bigB cs (mpS a b) = true := by
    rw [(pp_yes hP).1] at h
    exact h
  have e : ppR cs a b = mpS a b := by
    rw [(pp_yes hP).2]
    unfold giveR
    exact if_pos hb
  rw [e]
  refine ⟨hb, ?_⟩
  rw [mrR_yes hb]
  unfold mpR
  rw [if_pos h]
theorem mpR_len (cs : List Ctl) (a b : Big) : bigMk (mpR cs a b) ≤ 1048576 := by
  cases h : ppQ cs a b with
  | false => rw [mp_none h]; exact zero_len
  | true =>
    rw [← (mp_impl h).2]
    exact mr_len cs _
theorem lk_small {cs : List Ctl} {z E : Int} {b : Big} {ou : List ByteArray} (hg : bigB cs b = true) (hz : 0 ≤ z ∧ z ≤ 8) (hE : 0 ≤ E ∧ E ≤ 16) (ho : ou.length ≤ 32) (hm : ∀ u ∈ b.outer, u ∈ ou) {l : Int} (hl : 0 ≤ l ∧ l < b.edges + b.outer.length) : 0 ≤ lkF (lkL z E b ou) l ∧ lkF (lkL z E b ou) l ≤ 100 := by
  have hy := sizes_of (big_of hg).2.1
  by_cases h0 : l < b.edges
  · rw [lkL_edge (by omega) hl.1 h0]
    omega
  · obtain ⟨j, u, hj, hu⟩ := name_at hl h0
    rw [lkL_name (by omega) hj hu]
    have h1 := ixF_in ou u
    rcases ixF_cases ou u with ⟨_, hno⟩ | ⟨k, hk, _, _⟩
    · exact absurd (hm u (List.mem_of_getElem? hu)) hno
    · omega
theorem sd_sane {cs : List Ctl} {a b : Big} (ha : bigB cs a = true) (hb : bigB cs b = true) : Sane (mpS a b) := by
  have hya := sizes_of (big_of ha).2.1
  have hyb := sizes_of (big_of hb).2.1
  have ga := good_sites ha
  have gb := good_sites hb
  have hol := sdO_len a b
  have hnl := sd_len a b (sdW a b)
  have hsl : (mpS a b).sites.length = a.sites.length + b.sites.length := by show (a.sites ++ b.sites.map (pcS a b)).length = _; rw [List.length_append, List.length_map]
  have hwl : (mpS a b).inner.length = a.inner.length + b.inner.length := by
    show (sdW a b).length = _
    have := (innW_perm (wnA a b) (wnB a b)).length_eq
    unfold sdW
    rw [this, List.length_append]
    unfold wnA wnB relB
    simp only [List.length_map]
  have hLa : ∀ l, 0 ≤ l ∧ l < a.edges + a.outer.length → 0 ≤ lkF (lfS a b) l ∧ lkF (lfS a b) l ≤ 100 := fun l hl => by
    unfold lfS
    exact lk_small ha (by omega) (by omega) (by omega) (fun u hu => by unfold sdO; exact su.sortU_mem.2 (List.mem_append_left _ hu)) hl
  have hLb : ∀ l, 0 ≤ l ∧ l < b.edges + b.outer.length → 0 ≤ lkF (rgS a b) l ∧ lkF (rgS a b) l ≤ 100 := fun l hl => by
    unfold rgS
    exact lk_small hb (by omega) (by omega) (by omega) (fun u hu => by unfold sdO; exact su.sortU_mem.2 (List.mem_append_right _ hu)) hl
  have hcase : ∀ x ∈ (mpS a b).nodes, (∃ y ∈ a.nodes, x = ⟨y.control, y.parent, y.links.map (lkF (lfS a b))⟩) ∨ ∃ y ∈ b.nodes, x = ⟨y.control, pcS a b y.parent, y.links.map (lkF (rgS a b))⟩ := fun x hx => by
    obtain ⟨k, hk⟩ := List.getElem?_of_mem hx
    rcases sd_node (show (sdB a b (sdW a b)).nodes[k]? = some x from hk) with ⟨y, hy, e⟩ | ⟨j, y, _, hy, e⟩
    · exact .inl ⟨y, List.mem_of_getElem? hy, e⟩
    · exact .inr ⟨y, List.mem_of_getElem? hy, e⟩
  refine ⟨⟨⟨by show 0 ≤ a.roots + b.roots; omega, by show a.roots + b.roots ≤ 8; omega⟩, ⟨by show 0 ≤ a.edges + b.edges; omega, by show a.edges + b.edges ≤ 16; omega⟩, by show (sdB a b (sdW a b)).nodes.length ≤ 16; omega, by omega, by show (sdO a b).length ≤ 32; omega, by omega⟩, fun x hx => ?_, ⟨fun k x hx => ?_, fun k x hx => ?_, fun i z hz => ?_, by show 0 ≤ a.roots + b.roots; omega, by show a.roots + b.roots ≤ 8; omega, by show (sdB a b (sdW a b)).nodes.length ≤ 16; omega, by omega⟩, fun x hx l hl => ?_, fun x hx => ?_⟩
  · rcases hcase x hx with ⟨y, hy, rfl⟩ | ⟨y, hy, rfl⟩
    · show (y.links.map _).length ≤ 3
      rw [List.length_map]
      exact links3 ha y hy
    · show (y.links.map _).length ≤ 3
      rw [List.length_map]
      exact links3 hb y hy
  · rcases sd_node (show (sdB a b (sdW a b)).nodes[k]? = some x from hx) with ⟨y, hy, rfl⟩ | ⟨j, y, rfl, hy, rfl⟩
    · exact ga.1 k y hy
    · have h1 := gb.1 j y hy
      have h2 := gb.2.1 j y hy
      show pcS a b y.parent < ((a.nodes.length + j : Nat) : Int)
      by_cases h0 : y.parent < 0
      · rw [pcS_neg h0 h2]; omega
      · rw [pcS_pos h0]; omega
  · rcases sd_node (show (sdB a b (sdW a b)).nodes[k]? = some x from hx) with ⟨y, hy, rfl⟩ | ⟨j, y, rfl, hy, rfl⟩
    · have := ga.2.1 k y hy
      show -(a.roots + b.roots) ≤ y.parent
      omega
    · have h2 := gb.2.1 j y hy
      show -(a.roots + b.roots) ≤ pcS a b y.parent
      by_cases h0 : y.parent < 0
      · rw [pcS_neg h0 h2]; omega
      · rw [pcS_pos h0]; omega
  · show -(a.roots + b.roots) ≤ z ∧ z < ((sdB a b (sdW a b)).nodes.length : Int)
    rw [hnl]
    rcases sd_site (show (sdB a b (sdW a b)).sites[i]? = some z from hz) with h | ⟨j, y, hy, rfl⟩
    · have := ga.2.2.1 i z h
      omega
    · have h2 := gb.2.2.1 j y hy
      by_cases h0 : y < 0
      · rw [pcS_neg h0 h2.1]; omega
      · rw [pcS_pos h0]; omega
  · rcases hcase x hx with ⟨y, hy, rfl⟩ | ⟨y, hy, rfl⟩
    · obtain ⟨m, hm, rfl⟩ := List.mem_map.1 (show l ∈ y.links.map (lkF (lfS a b)) from hl)
      exact hLa m ((big_lks ha).1 y hy m hm)
    · obtain ⟨m, hm, rfl⟩ := List.mem_map.1 (show l ∈ y.links.map (lkF (rgS a b)) from hl)
      exact hLb m ((big_lks hb).1 y hy m hm)
  · rcases List.mem_append.1 ((innW_perm (wnA a b) (wnB a b)).mem_iff.1 (show x ∈ sdW a b from hx)) with h | h
    · obtain ⟨y, hy, rfl⟩ := List.mem_map.1 (show x ∈ a.inner.map _ from h)
      exact hLa _ ((big_lks ha).2 y hy)
    · obtain ⟨y, hy, rfl⟩ := List.mem_map.1 (show x ∈ b.inner.map _ from h)
      exact hLb _ ((big_lks hb).2 y hy)
theorem on_tame {S : Big} (h : Tame S) : Tame (onB S) :=
  { r := by show -1000 ≤ (1 : Int) ∧ (1 : Int) ≤ 1000; omega
    e := h.e
    n := by show (S.nodes.map _).length ≤ 1000; rw [List.length_map]; exact h.n
    nd := fun x hx => by
      obtain ⟨y, hy, rfl⟩ := List.mem_map.1 (show x ∈ S.nodes.map _ from hx)
      have := h.nd y hy
      refine ⟨this.1, ?_, this.2.2⟩
      show -1000 ≤ onF y.parent ∧ onF y.parent ≤ 1000
      unfold onF
      split <;> omega
    s := by show (S.sites.map _).length ≤ 1000; rw [List.length_map]; exact h.s
    st := fun z hz => by
      obtain ⟨y, hy, rfl⟩ := List.mem_map.1 (show z ∈ S.sites.map onF from hz)
      have := h.st y hy
      unfold onF
      split <;> omega
    o := h.o
    on := h.on
    i := h.i
    iw := h.iw }
end Go.Proofs.YtfjgapkjpmkplaaGreat.mpx
