/- Rk Uw Nj Sf. -/
import Derived.Test.YtfjgapkjpmkplaaGreatBa
import Derived.Test.YtfjgapkjpmkplaaGreatBc
import Derived.Test.YtfjgapkjpmkplaaGreatBe
import Derived.Test.YtfjgapkjpmkplaaGreatBh
import Derived.Test.YtfjgapkjpmkplaaGreatKa0
import Derived.Test.YtfjgapkjpmkplaaGreatJNk
import Derived.Test.YtfjgapkjpmkplaaGreatBb
import Derived.Test.YtfjgapkjpmkplaaGreatBd
import Derived.Test.YtfjgapkjpmkplaaGreatJRtg
import Derived.Test.YtfjgapkjpmkplaaGreatRows
import Derived.WalkKit
import Derived.WalkSpells
import Derived.WalkLawsBesides
import Derived.ProofKit
import Derived.OpenShut
import Derived.ShutString
import Derived.Deep.OwnRows
import Derived.Deep.Draws
import Derived.SliceStrings
import Derived.ChangeOld
import Derived.Below
import Derived.Lib.Hide
import Derived.Lib.ItoaNum
import Derived.Deep.QuietTactic
import Derived.BigQuiet
import Derived.Outline
import Derived.StillTailTactics
import Derived.Deep.RegionWith
import Derived.Deep.RegionHeld3
import Derived.Deep.Slices
import Derived.Deep.Fields
import Derived.ChangeSame
import Derived.Lib.SmallJoins
import Derived.Maps.OwnOps
import Derived.Maps.OwnIn
import Derived.Maps.Views
import Derived.Maps.AppendAt
import Derived.RangeFuncBox
import Derived.RangeFuncLeaves
import Derived.Shelf.Abstract
import Derived.OwnWalkIn
import Derived.TacticsInMore
import Derived.LoopNIn
import Derived.LoopIn
import Derived.RangeFuncWrites
import Derived.RangeFuncNested
import Derived.JoinedOf
import Derived.Deep.AppendLies
import Derived.Deep.RegionLaw
import Derived.Laws.AppendOwnNone
import Derived.Lib.SliceRun
import Derived.Deep.Cut
import Derived.Deep.CutRange
import Derived.OrdersHeld
import Derived.StillTail
import Derived.Lib.Walk
import Derived.Deep.LoopGhost
import Derived.Handy
import Derived.Lib.LazyBuf
import Derived.Lib.AppendZerosOnto
import Derived.Sort.OwnSorted
import Derived.Lib.SlicesCompact
import Derived.Sort.KeysCollected
import Derived.Test.YtfjgapkjpmkplaaGreatSfl
import Derived.Shelf.SlSortCmp.NoneTotal
set_option linter.unusedSimpArgs false
set_option linter.unusedVariables false
section
namespace Go.Proofs.YtfjgapkjpmkplaaGreat.rk
open kit bg sg opn strs only hb sig isig un over gn nm inn ht gd im pt marks eqs hc hi hw hn rs br bm bw cf lf ib lw cl pl mb sb wb ek rn tp wk rl ed mrp mrs nk
open Go.RowKit
set_option linter.unusedVariables false
set_option linter.unusedSimpArgs false
def NdR (w : World) (lo hi : Nat) (A : Option Addr) (n c : Nat) (LA : Nat → Option Addr) (LC : Nat → Nat) (ns : List Nd) : Prop :=
  RowR w lo hi 137 3 A n c (ndv ns (lsF ns LA LC)) ∧ (∀ i, i < n → RowR w lo hi 3 1 (LA i) (lnOf ns i) (LC i) (iat (linksOf ns i))) ∧ ∀ i j, i < j → j < n → LA j ≠ none → LA i ≠ LA j
section
variable {w w' : World} {lo hi n c : Nat} {A : Option Addr} {LA : Nat → Option Addr} {LC : Nat → Nat} {ns : List Nd}
theorem NdR.on (h : NdR w lo hi A n c LA LC ns) (hb : Below w.heap.size w w') : NdR w' lo hi A n c LA LC ns := ⟨h.1.on hb, fun i hi => (h.2.1 i hi).on hb, h.2.2⟩
theorem NdR.grown {base sz2 m : Nat} {v : Value} {xs : List Value} (h : NdR w lo hi A n c LA LC ns) (ho : w.ownsRow base 9 sz2 v m xs) (hg : w.grownBy w' v.ownBlock) : NdR w' lo hi A n c LA LC ns :=
  ⟨row_grown h.1 ho hg (by decide), fun i hi => row_grown (h.2.1 i hi) ho hg (by decide), h.2.2⟩
theorem NdR.wide {lo' hi' : Nat} (h : NdR w lo hi A n c LA LC ns) (a : lo' ≤ lo) (b : hi ≤ hi') : NdR w lo' hi' A n c LA LC ns := ⟨h.1.wide a b, fun i hi => (h.2.1 i hi).wide a b, h.2.2⟩
theorem big_parts {R E : Int} {A2 A4 A5 : Option Addr} {n2 c2 n4 c4 n5 c5 m : Nat} {ss : List Int} {ou : List ByteArray} {ws : List Wr} (h : NdR w lo m A n c LA LC ns) (hn : ns.length = n) (h2 : RowR w m hi 3 1 A2 n2 c2 (iat ss)) (l2 : ss.length = n2) (h4 : RowR w lo hi 9 1 A4 n4 c4 (at_ ou)) (l4 : ou.length = n4) (h5 : RowR w lo hi 139 2 A5 n5 c5 (wic ws)) (l5 : ws.length = n5) (hlo : lo ≤ m) (hm : m ≤ hi) :
    BigR w lo hi (.agg #[.int .i64 R, .slice A n c, .slice A2 n2 c2, .int .i64 E, .slice A4 n4 c4, .slice A5 n5 c5]) ⟨R, ns, ss, E, ou, ws⟩ := by
  subst hn l2 l4 l5
  refine ⟨⟨A, c, A2, c2, A4, c4, A5, c5, LA, LC⟩, rfl, ?_, ⟨(h.1.wide (Nat.le_refl _) hm).congr (fun x _ => rfl), fun k hk => (h.2.1 k hk).wide (Nat.le_refl _) hm⟩, h2.wide hlo (Nat.le_refl _), h4, h5⟩
  intro k hk hno
  refine ⟨fun e => ?_, fun j hj hjk e => ?_⟩
  · have hno : LA k ≠ none := hno
    rcases h.2.1 k hk with ⟨e0, -⟩ | ⟨g, f, e0, a1, a2, -⟩
    · exact hno e0
    · have := h2.in_ (g := g) (by rw [blk]; exact e.symm.trans e0)
      omega
  · have hno : LA k ≠ none := hno
    have e : LA j = LA k := e
    rcases Nat.lt_or_gt_of_ne hjk with hl | hl
    · exact h.2.2 j k hl hk hno e
    · exact h.2.2 k j hl hj (by rw [e]; exact hno) e.symm
end
theorem pc_rts {R : Nat} {p : Int} (h : -(R : Int) ≤ p) : pcF (rtsF 0 R) 0 p = p := by
  by_cases h0 : p < 0
  · obtain ⟨k, rfl⟩ : ∃ k : Nat, p = -1 - (k : Int) := ⟨(-1 - p).toNat, by omega⟩
    rw [pcF_neg (rts_get (show k < R by omega))]
    omega
  · rw [pcF_pos h0]
    omega
theorem rk_nodes {b : Big} {R : Nat} {lks : List Int} (h : ∀ x ∈ b.nodes, -(R : Int) ≤ x.parent) : ndK b (rtsF 0 R) 0 lks = (relB (lkF lks) b).nodes := by
  unfold ndK relB
  exact List.map_congr_left (fun x hx => by rw [pc_rts (h x hx)])
theorem rk_sites {b : Big} {R : Nat} (h : ∀ z ∈ b.sites, -(R : Int) ≤ z) : b.sites.map (pcF (rtsF 0 R) 0) = b.sites := by
  conv => rhs; rw [← List.map_id b.sites]
  exact List.map_congr_left (fun z hz => pc_rts (h z hz))
end Go.Proofs.YtfjgapkjpmkplaaGreat.rk
end
section
namespace Go.Proofs.YtfjgapkjpmkplaaGreat.uw
open kit bg sg opn strs only hb sig isig un over gn nm inn ht gd im pt marks eqs hc hi hw hn rs br bm bw cf lf ib lw cl rt ix tg rl ed tp rtg pl mb sb wb jo ek wk rk gv tm mrp mrs mri nd co ft
open Go.RowKit
set_option linter.unusedVariables false
theorem lk_low {z E l : Int} {xs : List Int} (hE : 0 ≤ E) (h0 : 0 ≤ l) (h : l < E) : lkF (seqF z E.toNat ++ xs) l = z + l := by
  obtain ⟨m, rfl⟩ : ∃ m : Nat, l = m := ⟨l.toNat, by omega⟩
  refine lkF_get ?_
  rw [List.getElem?_append_left (by rw [seq_len]; omega), seq_get (by omega)]
theorem lk_high {z E l y : Int} {xs : List Int} {k : Nat} (hE : 0 ≤ E) (hl : l - E = k) (h : xs[k]? = some y) : lkF (seqF z E.toNat ++ xs) l = y := by
  obtain ⟨m, rfl⟩ : ∃ m : Nat, l = m := ⟨l.toNat, by omega⟩
  refine lkF_get ?_
  rw [List.getElem?_append_right (by rw [seq_len]; omega), seq_len, show m - E.toNat = k by omega, h]
theorem name_at {b : Big} {l : Int} (hl : 0 ≤ l ∧ l < b.edges + b.outer.length) (h0 : ¬ l < b.edges) : ∃ (k : Nat) (u : ByteArray), l - b.edges = k ∧ b.outer[k]? = some u := by
  have hk : (l - b.edges).toNat < b.outer.length := by omega
  exact ⟨(l - b.edges).toNat, _, by omega, List.getElem?_eq_getElem hk⟩
theorem tg_edge_in {b : Big} {l : Int} (hl : 0 ≤ l ∧ l < b.edges + b.outer.length) (hE : b.edges ≤ 8) : -1000 ≤ (tgOf b l).edge ∧ (tgOf b l).edge ≤ 1000 := by
  by_cases h0 : l < b.edges
  · rw [tgOf_edge h0]
    exact ⟨by show -1000 ≤ l; omega, by show l ≤ 1000; omega⟩
  · obtain ⟨k, u, hk, hu⟩ := name_at hl h0
    rw [tgOf_name h0 hk hu]
    exact ⟨by show (-1000 : Int) ≤ 0; decide, by show (0 : Int) ≤ 1000; decide⟩
theorem noS_edge (l : Int) : isE ⟨l, noS⟩ = true := by unfold isE noS; simp
theorem tg_name {b : Big} {l : Int} (hl : 0 ≤ l ∧ l < b.edges + b.outer.length) (hn : isE (tgOf b l) = false) : (tgOf b l).name ∈ b.outer := by
  by_cases h0 : l < b.edges
  · rw [tgOf_edge h0, noS_edge] at hn
    cases hn
  · obtain ⟨k, u, hk, hu⟩ := name_at hl h0
    rw [tgOf_name h0 hk hu]
    exact List.mem_of_getElem? hu
noncomputable def lkL (z E : Int) (b : Big) (ou : List ByteArray) : List Int := seqF z b.edges.toNat ++ nmdL E ou b.outer
theorem lkL_edge {z E l : Int} {b : Big} {ou : List ByteArray} (hE : 0 ≤ b.edges) (h0 : 0 ≤ l) (h : l < b.edges) : lkF (lkL z E b ou) l = z + l := lk_low hE h0 h
theorem lkL_name {z E l : Int} {b : Big} {ou : List ByteArray} {k : Nat} {u : ByteArray} (hE : 0 ≤ b.edges) (hl : l - b.edges = k) (h : b.outer[k]? = some u) : lkF (lkL z E b ou) l = E + ixF ou u := lk_high hE hl (nmd_at h)
def behF (k : Int) (t : Tgt) : Tgt := if isE t = true then ⟨t.edge + k, t.name⟩ else t
theorem behF_edge {k : Int} {t : Tgt} (h : isE t = true) : behF k t = ⟨t.edge + k, t.name⟩ := if_pos h
theorem behF_name {k : Int} {t : Tgt} (h : isE t = false) : behF k t = t := by unfold behF; rw [if_neg (by rw [h]; decide)]
theorem reL_beh {b : Big} {k E l : Int} {ou : List ByteArray} (hE : 0 ≤ b.edges) (hP : NamesP b.outer) (hl : 0 ≤ l ∧ l < b.edges + b.outer.length) : reL b (behF k) E ou l = lkF (lkL k E b ou) l := by
  unfold reL
  by_cases h0 : l < b.edges
  · rw [tgOf_edge h0, behF_edge (noS_edge l), lk_edge (noS_edge _), lkL_edge hE hl.1 h0]
    show l + k = k + l
    omega
  · obtain ⟨j, u, hj, hu⟩ := name_at hl h0
    have hn : isE ⟨0, u⟩ = false := (name_ne hP (List.mem_of_getElem? hu)).1
    rw [tgOf_name h0 hj hu, behF_name hn, lk_name hn, lkL_name hE hj hu]
theorem reL_id {b : Big} {E l : Int} {ou : List ByteArray} (hE : 0 ≤ b.edges) (hP : NamesP b.outer) (hl : 0 ≤ l ∧ l < b.edges + b.outer.length) : reL b (fun t => t) E ou l = lkF (lkL 0 E b ou) l := by
  unfold reL
  by_cases h0 : l < b.edges
  · rw [tgOf_edge h0, lk_edge (noS_edge _), lkL_edge hE hl.1 h0]
    show l = 0 + l
    omega
  · obtain ⟨j, u, hj, hu⟩ := name_at hl h0
    have hn : isE ⟨0, u⟩ = false := (name_ne hP (List.mem_of_getElem? hu)).1
    rw [tgOf_name h0 hj hu, lk_name hn, lkL_name hE hj hu]
def inL (a : Big) (i : Nat) : Int := match a.inner[i]? with
  | some x => x.link
  | none => 0
theorem inL_at {a : Big} {i : Nat} {x : Wr} (h : a.inner[i]? = some x) : inL a i = x.link := by unfold inL; rw [h]
noncomputable def cmF (a b : Big) (t : Tgt) : Tgt := if isE t = true then ⟨t.edge + a.edges, t.name⟩ else tgOf a (inL a (ixF b.outer t.name).toNat)
theorem cmF_edge {a b : Big} {t : Tgt} (h : isE t = true) : cmF a b t = ⟨t.edge + a.edges, t.name⟩ := if_pos h
theorem cmF_name {a b : Big} {t : Tgt} (h : isE t = false) : cmF a b t = tgOf a (inL a (ixF b.outer t.name).toNat) := by unfold cmF; rw [if_neg (by rw [h]; decide)]
noncomputable def blL (a : Big) (E : Int) (ou : List ByteArray) : List Int := a.inner.map (fun x => lkF (lkL 0 E a ou) x.link)
noncomputable def rgL (a b : Big) (E : Int) (ou : List ByteArray) : List Int := seqF a.edges b.edges.toNat ++ blL a E ou
theorem ix_own {ss : List ByteArray} (hP : NamesP ss) {k : Nat} {u : ByteArray} (h : ss[k]? = some u) : ixF ss u = k := by
  rcases ixF_cases ss u with ⟨_, hno⟩ | ⟨j, hj, hjs, _⟩
  · exact absurd (List.mem_of_getElem? h) hno
  · rw [hj, names_inj hP hjs h]
theorem reL_cm {a b : Big} {E l : Int} {ou : List ByteArray} (hEa : 0 ≤ a.edges) (hEb : 0 ≤ b.edges) (hPa : NamesP a.outer) (hPb : NamesP b.outer) (hin : a.inner.length = b.outer.length) (hla : ∀ x ∈ a.inner, 0 ≤ x.link ∧ x.link < a.edges + a.outer.length) (hl : 0 ≤ l ∧ l < b.edges + b.outer.length) : reL b (cmF a b) E ou l = lkF (rgL a b E ou) l := by
  unfold rgL
  by_cases h0 : l < b.edges
  · unfold reL
    rw [tgOf_edge h0, cmF_edge (noS_edge l), lk_edge (noS_edge _), lk_low hEb hl.1 h0]
    show l + a.edges = a.edges + l
    omega
  · obtain ⟨j, u, hj, hu⟩ := name_at hl h0
    have hn : isE ⟨0, u⟩ = false := (name_ne hPb (List.mem_of_getElem? hu)).1
    have hjl : j < a.inner.length := by rw [hin]; exact (List.getElem?_eq_some_iff.1 hu).1
    obtain ⟨x, hx⟩ : ∃ x, a.inner[j]? = some x := ⟨_, List.getElem?_eq_getElem hjl⟩
    rw [lk_high (y := lkF (lkL 0 E a ou) x.link) hEb hj (by unfold blL; rw [List.getElem?_map, hx]; rfl), ← reL_id hEa hPa (hla x (List.mem_of_getElem? hx))]
    unfold reL
    rw [tgOf_name h0 hj hu, cmF_name hn]
    show lkOf E ou (tgOf a (inL a (ixF b.outer u).toNat)) = _
    rw [ix_own hPb hu, Int.toNat_natCast, inL_at hx]
theorem toF_pc {zs : List Int} {N : Int} : toF (fun r => zs.getD r.toNat 0) N = pcF zs N := by
  funext p
  unfold toF pcF
  by_cases h : p < 0
  · rw [if_pos h, if_pos h]
  · rw [if_neg h, if_neg h, Int.add_comm]
noncomputable def udB (a b : Big) (ou : List ByteArray) (lf rg : List Int) : Big :=
  ⟨a.roots, (relB (lkF lf) a).nodes ++ (plB (pcF a.sites a.nodes.length) (relB (lkF rg) b)).nodes, b.sites.map (pcF a.sites a.nodes.length), a.edges + b.edges, ou, (relB (lkF rg) b).inner⟩
noncomputable def cpB (a b : Big) : Big := udB a b a.outer (lkL 0 (a.edges + b.edges) a a.outer) (rgL a b (a.edges + b.edges) a.outer)
theorem relB_congr' {cs : List Ctl} {f g : Int → Int} {b : Big} (hg : bigB cs b = true) (h : ∀ l, 0 ≤ l ∧ l < b.edges + b.outer.length → f l = g l) : relB f b = relB g b :=
  relB_congr (fun x hx l hl => h l ((big_lks hg).1 x hx l hl)) (fun x hx => h x.link ((big_lks hg).2 x hx))
theorem fit_of {a b : Big} (h : fitB a b = true) : (a.sites.length : Int) = b.roots ∧ nms a.inner = b.outer ∧ a.inner.length = b.outer.length := by
  unfold fitB at h
  simp only [Bool.and_eq_true, decide_eq_true_eq] at h
  exact ⟨h.1, h.2, by rw [← h.2]; unfold nms; rw [List.length_map]⟩
theorem above_eq {cs : List Ctl} {a : Big} {E : Int} {ou : List ByteArray} (hg : bigB cs a = true) : relB (reL a (fun t => t) E ou) a = relB (lkF (lkL 0 E a ou)) a := by
  have hz := sizes_of (big_of hg).2.1
  exact relB_congr' hg (fun l hl => reL_id (by omega) (big_of hg).2.2.1 hl)
theorem beh_eq {cs : List Ctl} {b : Big} {k E : Int} {ou : List ByteArray} (hg : bigB cs b = true) : relB (reL b (behF k) E ou) b = relB (lkF (lkL k E b ou)) b := by
  have hz := sizes_of (big_of hg).2.1
  exact relB_congr' hg (fun l hl => reL_beh (by omega) (big_of hg).2.2.1 hl)
theorem below_eq {cs : List Ctl} {a b : Big} {E : Int} {ou : List ByteArray} (ha : bigB cs a = true) (hb : bigB cs b = true) (hf : fitB a b = true) : relB (reL b (cmF a b) E ou) b = relB (lkF (rgL a b E ou)) b := by
  have hz := sizes_of (big_of ha).2.1
  have hy := sizes_of (big_of hb).2.1
  exact relB_congr' hb (fun l hl => reL_cm (by omega) (by omega) (big_of ha).2.2.1 (big_of hb).2.2.1 (fit_of hf).2.2 (big_lks ha).2 hl)
theorem pc_in {zs : List Int} {N p : Int} (hz : ∀ z ∈ zs, -1000 ≤ z ∧ z ≤ 1000) (hN : 0 ≤ N ∧ N ≤ 100) (hp : p ≤ 100) : -1000 ≤ pcF zs N p ∧ pcF zs N p ≤ 1000 := by
  unfold pcF
  split
  · rw [List.getD_eq_getElem?_getD]
    cases h : zs[(-1 - p).toNat]? with
    | none => exact ⟨by show (-1000 : Int) ≤ 0; decide, by show (0 : Int) ≤ 1000; decide⟩
    | some z => exact hz z (List.mem_of_getElem? h)
  · omega
theorem par_le {cs : List Ctl} {b : Big} (hg : bigB cs b = true) : (∀ x ∈ b.nodes, -b.roots ≤ x.parent ∧ x.parent ≤ 8) ∧ ∀ z ∈ b.sites, -b.roots ≤ z ∧ z ≤ 8 := by
  have h := good_sites hg
  refine ⟨fun x hx => ?_, fun z hz => ?_⟩
  · obtain ⟨k, hk⟩ := List.getElem?_of_mem hx
    have h1 := h.1 k x hk
    have h2 := h.2.1 k x hk
    have := (List.getElem?_eq_some_iff.1 hk).1
    omega
  · obtain ⟨k, hk⟩ := List.getElem?_of_mem hz
    have := h.2.2.1 k z hk
    omega
theorem tame_two {cs : List Ctl} {a b : Big} {f g p : Int → Int} {R E : Int} {ss : List Int} {ou : List ByteArray} {ws : List Wr} (ha : bigB cs a = true) (hb : bigB cs b = true) (hSa : BigS a) (hSb : BigS b) (hR : -1000 ≤ R ∧ R ≤ 1000) (hE : -1000 ≤ E ∧ E ≤ 1000)
    (hf : ∀ l, 0 ≤ l ∧ l < a.edges + a.outer.length → -1000 ≤ f l ∧ f l ≤ 1000) (hg : ∀ l, 0 ≤ l ∧ l < b.edges + b.outer.length → -1000 ≤ g l ∧ g l ≤ 1000) (hp : ∀ q, -b.roots ≤ q ∧ q ≤ 8 → -1000 ≤ p q ∧ p q ≤ 1000)
    (hs : ss.length ≤ 1000) (hst : ∀ z ∈ ss, -1000 ≤ z ∧ z ≤ 1000) (ho : ou.length ≤ 1000) (hon : ∀ u ∈ ou, u.size ≤ 1048576) (hw : ws.length ≤ 1000) (hiw : ∀ x ∈ ws, x.name.size ≤ 1048576 ∧ -1000 ≤ x.link ∧ x.link ≤ 1000) :
    Tame ⟨R, (relB f a).nodes ++ (plB p (relB g b)).nodes, ss, E, ou, ws⟩ := by
  have ta := tame_good ha hSa
  have tb := tame_good hb hSb
  have hya := sizes_of (big_of ha).2.1
  have hyb := sizes_of (big_of hb).2.1
  have la := big_lks ha
  have lb := big_lks hb
  have pb := par_le hb
  exact
  { r := hR
    e := hE
    n := by simp only [relB, plB, List.length_append, List.length_map]; omega
    nd := fun x hx => by
      rcases List.mem_append.1 hx with h | h
      · obtain ⟨y, hy, rfl⟩ := List.mem_map.1 h
        obtain ⟨h1, h2, h3, h4⟩ := ta.nd y hy
        refine ⟨h1, h2, by simp only [List.length_map]; exact h3, fun l hl => ?_⟩
        obtain ⟨l0, hl0, rfl⟩ := List.mem_map.1 hl
        exact hf l0 (la.1 y hy l0 hl0)
      · obtain ⟨y', hy', rfl⟩ := List.mem_map.1 h
        obtain ⟨y, hy, rfl⟩ := List.mem_map.1 hy'
        obtain ⟨h1, h2, h3, h4⟩ := tb.nd y hy
        refine ⟨h1, hp _ (pb.1 y hy), by simp only [List.length_map]; exact h3, fun l hl => ?_⟩
        obtain ⟨l0, hl0, rfl⟩ := List.mem_map.1 hl
        exact hg l0 (lb.1 y hy l0 hl0)
    s := hs
    st := hst
    o := ho
    on := hon
    i := hw
    iw := hiw }
theorem lkL_in {cs : List Ctl} {z E : Int} {b : Big} {ou : List ByteArray} (hg : bigB cs b = true) (hz : 0 ≤ z ∧ z ≤ 100) (hE : 0 ≤ E ∧ E ≤ 100) (ho : ou.length ≤ 100) {l : Int} (hl : 0 ≤ l ∧ l < b.edges + b.outer.length) : -1 ≤ lkF (lkL z E b ou) l ∧ lkF (lkL z E b ou) l ≤ 300 := by
  have hy := sizes_of (big_of hg).2.1
  by_cases h0 : l < b.edges
  · rw [lkL_edge (by omega) hl.1 h0]
    omega
  · obtain ⟨j, u, hj, hu⟩ := name_at hl h0
    rw [lkL_name (by omega) hj hu]
    have := ixF_in ou u
    omega
theorem rgL_in {cs : List Ctl} {a b : Big} {E : Int} {ou : List ByteArray} (ha : bigB cs a = true) (hb : bigB cs b = true) (hin : a.inner.length = b.outer.length) (hE : 0 ≤ E ∧ E ≤ 100) (ho : ou.length ≤ 100) {l : Int} (hl : 0 ≤ l ∧ l < b.edges + b.outer.length) : -1 ≤ lkF (rgL a b E ou) l ∧ lkF (rgL a b E ou) l ≤ 300 := by
  have hya := sizes_of (big_of ha).2.1
  have hyb := sizes_of (big_of hb).2.1
  unfold rgL
  by_cases h0 : l < b.edges
  · rw [lk_low (by omega) hl.1 h0]
    omega
  · obtain ⟨j, u, hj, hu⟩ := name_at hl h0
    have hjl : j < a.inner.length := by rw [hin]; exact (List.getElem?_eq_some_iff.1 hu).1
    obtain ⟨x, hx⟩ : ∃ x, a.inner[j]? = some x := ⟨_, List.getElem?_eq_getElem hjl⟩
    rw [lk_high (y := lkF (lkL 0 E a ou) x.link) (by omega) hj (by unfold blL; rw [List.getElem?_map, hx]; rfl)]
    exact lkL_in ha ⟨by decide, by decide⟩ hE ho ((big_lks ha).2 x (List.mem_of_getElem? hx))
theorem cp_tame {cs : List Ctl} {a b : Big} (ha : bigB cs a = true) (hb : bigB cs b = true) (hf : fitB a b = true) (hSa : BigS a) (hSb : BigS b) : Tame (cpB a b) := by
  have hya := sizes_of (big_of ha).2.1
  have hyb := sizes_of (big_of hb).2.1
  have hin := (fit_of hf).2.2
  have tb := tame_good hb hSb
  have ta := tame_good ha hSa
  have hpc : ∀ q, -b.roots ≤ q ∧ q ≤ 8 → -1000 ≤ pcF a.sites a.nodes.length q ∧ pcF a.sites a.nodes.length q ≤ 1000 := fun q hq => pc_in (fun z hz => ta.st z hz) ⟨by omega, by omega⟩ (by omega)
  unfold cpB udB
  refine tame_two ha hb hSa hSb (by omega) (by omega) (fun l hl => ?_) (fun l hl => ?_) hpc (by rw [List.length_map]; omega) (fun z hz => ?_) (by omega) ta.on (by simp only [relB, List.length_map]; omega) (fun x hx => ?_)
  · have := lkL_in (z := 0) (E := a.edges + b.edges) (ou := a.outer) ha ⟨by decide, by decide⟩ ⟨by omega, by omega⟩ (by omega) hl
    omega
  · have := rgL_in (E := a.edges + b.edges) (ou := a.outer) ha hb hin ⟨by omega, by omega⟩ (by omega) hl
    omega
  · obtain ⟨y, hy, rfl⟩ := List.mem_map.1 hz
    exact hpc y ((par_le hb).2 y hy)
  · obtain ⟨y, hy, rfl⟩ := List.mem_map.1 hx
    have := rgL_in (E := a.edges + b.edges) (ou := a.outer) ha hb hin ⟨by omega, by omega⟩ (by omega) ((big_lks hb).2 y hy)
    exact ⟨(tb.iw y hy).1, by show -1000 ≤ lkF _ y.link; omega, by show lkF _ y.link ≤ 1000; omega⟩
theorem cp_parts {cs : List Ctl} {a b : Big} (ha : bigB cs a = true) (hb : bigB cs b = true) (hf : fitB a b = true) :
    (⟨a.roots, (reB a (fun t => t) (a.edges + b.edges) a.outer).nodes ++ (plB (toF (fun r => a.sites.getD r.toNat 0) a.nodes.length) (reB b (cmF a b) (a.edges + b.edges) a.outer)).nodes, (plB (toF (fun r => a.sites.getD r.toNat 0) a.nodes.length) (reB b (cmF a b) (a.edges + b.edges) a.outer)).sites, a.edges + b.edges, (reB a (fun t => t) (a.edges + b.edges) a.outer).outer, (plB (toF (fun r => a.sites.getD r.toNat 0) a.nodes.length) (reB b (cmF a b) (a.edges + b.edges) a.outer)).inner⟩ : Big) = cpB a b := by
  rw [toF_pc]
  unfold reB
  rw [above_eq ha, below_eq ha hb hf]
  rfl
theorem gs_rel {cs : List Ctl} {b : Big} {f : Int → Int} {E : Int} {ou : List ByteArray} (hg : bigB cs b = true) : abv.Up (relB f b).nodes ∧ Dn (relB f b).nodes b.roots ∧ (∀ (i : Nat) z, b.sites[i]? = some z → -b.roots ≤ z ∧ z < (relB f b).nodes.length) ∧ 0 ≤ b.roots ∧ b.roots ≤ 4 ∧ (relB f b).nodes.length ≤ 8 ∧ b.sites.length ≤ 4 := by
  have h := good_sites hg
  have hl : (relB f b).nodes.length = b.nodes.length := by simp only [relB, List.length_map]
  rw [hl]
  refine ⟨fun k x hx => ?_, fun k x hx => ?_, h.2.2⟩
  · have hx : (b.nodes.map (fun x => (⟨x.control, x.parent, x.links.map f⟩ : Nd)))[k]? = some x := hx
    rw [List.getElem?_map] at hx
    obtain ⟨y, hy, rfl⟩ := Option.map_eq_some_iff.1 hx
    exact h.1 k y hy
  · have hx : (b.nodes.map (fun x => (⟨x.control, x.parent, x.links.map f⟩ : Nd)))[k]? = some x := hx
    rw [List.getElem?_map] at hx
    obtain ⟨y, hy, rfl⟩ := Option.map_eq_some_iff.1 hx
    exact h.2.1 k y hy
theorem rb_tame {cs : List Ctl} {a b : Big} (ha : bigB cs a = true) (hb : bigB cs b = true) (hf : fitB a b = true) (hSa : BigS a) (hSb : BigS b) : Tame (reB b (cmF a b) (a.edges + b.edges) a.outer) := by
  have hya := sizes_of (big_of ha).2.1
  have hyb := sizes_of (big_of hb).2.1
  have ta := tame_good ha hSa
  refine tame_rk hb hSb (fun l hl => ?_) (by omega) (by omega) ta.on
  rw [reL_cm (by omega) (by omega) (big_of ha).2.2.1 (big_of hb).2.2.1 (fit_of hf).2.2 (big_lks ha).2 hl]
  have := rgL_in (E := a.edges + b.edges) (ou := a.outer) ha hb (fit_of hf).2.2 ⟨by omega, by omega⟩ (by omega) hl
  omega
noncomputable def cpP (cs : List Ctl) (a b : Big) : Bool := bigB cs a && bigB cs b && fitB a b
noncomputable def cpQ (cs : List Ctl) (a b : Big) : Bool := cpP cs a b && bigB cs (cpB a b)
noncomputable def cpR (cs : List Ctl) (a b : Big) : Big := if cpP cs a b = true then giveR cs (cpB a b) else zeroBig
theorem cp_no {cs : List Ctl} {a b : Big} (h : cpP cs a b = false) : cpQ cs a b = false ∧ cpR cs a b = zeroBig := by
  unfold cpQ cpR
  rw [h]
  exact ⟨rfl, if_neg (by decide)⟩
theorem cp_yes {cs : List Ctl} {a b : Big} (h : cpP cs a b = true) : cpQ cs a b = bigB cs (cpB a b) ∧ cpR cs a b = giveR cs (cpB a b) := by
  unfold cpQ cpR
  rw [h]
  exact ⟨rfl, if_pos rfl⟩
end Go.Proofs.YtfjgapkjpmkplaaGreat.uw
end
section
namespace Go.Proofs.YtfjgapkjpmkplaaGreat.nj
open kit bg sg opn strs only hb sig isig un over gn nm inn ht gd im pt marks eqs hc hi hw hn rs br bm bw cf lf ib lw cl pl mb sb wb ek rn tp wk rl ed mrp mrs nk rk cc cg uw
open Go.RowKit
set_option linter.unusedVariables false
set_option linter.unusedSimpArgs false
def jn {α : Type} (n : Nat) (f g : Nat → α) (k : Nat) : α := if k < n then f k else g (k - n)
section
variable {ns ms : List Nd} {LA LB : Nat → Option Addr} {LC LD : Nat → Nat}
theorem jn_lo {α : Type} {n k : Nat} {f g : Nat → α} (h : k < n) : jn n f g k = f k := if_pos h
theorem jn_hi {α : Type} {n k : Nat} {f g : Nat → α} : jn n f g (n + k) = g k := by unfold jn; rw [if_neg (by omega), Nat.add_sub_cancel_left]
theorem of_lo {k : Nat} (h : k < ns.length) : ctOf (ns ++ ms) k = ctOf ns k ∧ paOf (ns ++ ms) k = paOf ns k ∧ linksOf (ns ++ ms) k = linksOf ns k := by
  unfold ctOf paOf linksOf
  rw [List.getElem?_append_left h]
  exact ⟨rfl, rfl, rfl⟩
theorem of_hi {k : Nat} : ctOf (ns ++ ms) (ns.length + k) = ctOf ms k ∧ paOf (ns ++ ms) (ns.length + k) = paOf ms k ∧ linksOf (ns ++ ms) (ns.length + k) = linksOf ms k := by
  unfold ctOf paOf linksOf
  rw [List.getElem?_append_right (by omega), Nat.add_sub_cancel_left]
  exact ⟨rfl, rfl, rfl⟩
theorem ls_lo {k : Nat} (h : k < ns.length) : lsF (ns ++ ms) (jn ns.length LA LB) (jn ns.length LC LD) k = lsF ns LA LC k := by
  unfold lsF lnOf
  rw [(of_lo h).2.2, jn_lo h, jn_lo h]
theorem ls_hi {k : Nat} : lsF (ns ++ ms) (jn ns.length LA LB) (jn ns.length LC LD) (ns.length + k) = lsF ms LB LD k := by
  unfold lsF lnOf
  rw [of_hi.2.2, jn_hi, jn_hi]
theorem ndv_lo {x : Nat} (h : x < ns.length * 3) : ndv (ns ++ ms) (lsF (ns ++ ms) (jn ns.length LA LB) (jn ns.length LC LD)) x = ndv ns (lsF ns LA LC) x := by
  have hk : x / 3 < ns.length := by omega
  unfold ndv
  rw [(of_lo hk).1, (of_lo hk).2.1, ls_lo hk]
theorem ndv_hi {x : Nat} : ndv (ns ++ ms) (lsF (ns ++ ms) (jn ns.length LA LB) (jn ns.length LC LD)) (ns.length * 3 + x) = ndv ms (lsF ms LB LD) x := by
  have hm : (ns.length * 3 + x) % 3 = x % 3 := by omega
  have hd : (ns.length * 3 + x) / 3 = ns.length + x / 3 := by omega
  unfold ndv
  rw [hm, hd, of_hi.1, of_hi.2.1, ls_hi]
theorem ndr_join {w : World} {lo mid hi N c : Nat} {A : Option Addr} {xs ys : List Value} (hlo : lo ≤ mid) (hmi : mid ≤ hi) (hN : N = ns.length + ms.length) (hr : RowR w lo hi 137 3 A N c (fun x => ((xs ++ ys)[x]?).getD undef))
    (hxl : xs.length = ns.length * 3) (hx : ∀ j, j < ns.length * 3 → xs[j]? = some (ndv ns (lsF ns LA LC) j)) (hy : ∀ j, j < ms.length * 3 → ys[j]? = some (ndv ms (lsF ms LB LD) j))
    (ra : ∀ i, i < ns.length → RowR w lo mid 3 1 (LA i) (lnOf ns i) (LC i) (iat (linksOf ns i))) (na : ∀ i j, i < j → j < ns.length → LA j ≠ none → LA i ≠ LA j)
    (rb : ∀ i, i < ms.length → RowR w mid hi 3 1 (LB i) (lnOf ms i) (LD i) (iat (linksOf ms i))) (nb : ∀ i j, i < j → j < ms.length → LB j ≠ none → LB i ≠ LB j) :
    NdR w lo hi A N c (jn ns.length LA LB) (jn ns.length LC LD) (ns ++ ms) := by
  subst hN
  refine ⟨hr.congr (fun x hxx => ?_), fun i hi => ?_, fun i j hij hj hne => ?_⟩
  · show ((xs ++ ys)[x]?).getD undef = _
    by_cases h : x < ns.length * 3
    · rw [List.getElem?_append_left (by omega), hx x h, ndv_lo h]
      rfl
    · obtain ⟨k, rfl⟩ : ∃ k, x = ns.length * 3 + k := ⟨x - ns.length * 3, by omega⟩
      rw [List.getElem?_append_right (by omega), hxl, Nat.add_sub_cancel_left, hy k (by omega), ndv_hi]
      rfl
  · by_cases h : i < ns.length
    · unfold lnOf
      rw [jn_lo h, jn_lo h, (of_lo h).2.2]
      exact (ra i h).wide (Nat.le_refl _) hmi
    · obtain ⟨k, rfl⟩ : ∃ k, i = ns.length + k := ⟨i - ns.length, by omega⟩
      unfold lnOf
      rw [jn_hi, jn_hi, of_hi.2.2]
      exact (rb k (by omega)).wide hlo (Nat.le_refl _)
  · by_cases h : j < ns.length
    · rw [jn_lo h] at hne ⊢
      rw [jn_lo (Nat.lt_trans hij h)]
      exact na i j hij h hne
    · obtain ⟨k, rfl⟩ : ∃ k, j = ns.length + k := ⟨j - ns.length, by omega⟩
      rw [jn_hi] at hne ⊢
      by_cases h2 : i < ns.length
      · rw [jn_lo h2]
        intro e
        rcases ra i h2 with ⟨e0, -⟩ | ⟨g, f, e0, a1, a2, -⟩
        · exact hne (e.symm.trans e0)
        · have := (rb k (by omega)).in_ (g := g) (by rw [blk]; exact e.symm.trans e0)
          omega
      · obtain ⟨l, rfl⟩ : ∃ l, i = ns.length + l := ⟨i - ns.length, by omega⟩
        rw [jn_hi]
        exact nb l k (by omega) (by omega) hne
end
def cellsOf (m : Nat) (M : Nat → Value) : List Value := (List.range m).map M
theorem cells_get {m j : Nat} {M : Nat → Value} (h : j < m) : (cellsOf m M)[j]? = some (M j) := by unfold cellsOf; rw [List.getElem?_map, List.getElem?_range h]; rfl
theorem cells_len (m : Nat) (M : Nat → Value) : (cellsOf m M).length = m := by unfold cellsOf; rw [List.length_map, List.length_range]
theorem row_sr {w : World} {lo hi sz n c : Nat} {t : TypeId} {A : Option Addr} {M : Nat → Value} (h : RowR w lo hi t sz A n c M) : SR w w.heap.size A (n * sz) (cellsOf (n * sz) M) := by
  refine ⟨cells_len _ _, fun hn => ?_⟩
  rcases h with ⟨-, -, rfl⟩ | ⟨g, f, rfl, h1, h2, h3, h4, h5⟩
  · simp at hn
  · refine ⟨g, 0, rfl, h4.lt, fun k u hk => ?_⟩
    have hkn : k < n * sz := by
      have := (List.getElem?_eq_some_iff.1 hk).1
      rw [cells_len] at this
      exact this
    rw [cells_get hkn] at hk
    injection hk with hk
    rw [← hk, ← h5 k hkn, Nat.zero_add]
    exact h4.cell (Nat.lt_of_lt_of_le hkn (Nat.mul_le_mul_right _ h3))
theorem one_cells {m : Nat} {M : Nat → Value} (h : ∀ x, x < m → (M x).oneCell' = true) : ∀ u ∈ cellsOf m M, u.oneCell' = true := fun u hu => by
  unfold cellsOf at hu
  obtain ⟨x, hx, rfl⟩ := List.mem_map.1 hu
  exact h x (List.mem_range.1 hx)
theorem one_ndv (ns : List Nd) (LA : Nat → Option Addr) (LC : Nat → Nat) (x : Nat) (hx : x < ns.length * 3) : (ndv ns (lsF ns LA LC) x).oneCell' = true := by
  obtain ⟨y, hy⟩ : ∃ y, ns[x / 3]? = some y := ⟨_, List.getElem?_eq_getElem (show x / 3 < ns.length by omega)⟩
  unfold ndv
  split
  · rw [(ctOf_at hy).1]; rfl
  · split
    · rw [(ctOf_at hy).2]; rfl
    · rfl
theorem one_iat (zs : List Int) (x : Nat) : (iat zs x).oneCell' = true := rfl
theorem nil0 {w : World} {lo hi n c sz : Nat} {t : TypeId} {A : Option Addr} {M : Nat → Value} (h : RowR w lo hi t sz A n c M) : A = none → c = 0 := fun e => by
  rcases h with ⟨-, h, -⟩ | ⟨g, f, h, -⟩
  · exact h
  · rw [e] at h
    cases h
theorem one_wic (ws : List Wr) (x : Nat) (hx : x < ws.length * 2) : (wic ws x).oneCell' = true := by
  obtain ⟨y, hy⟩ : ∃ y, ws[x / 2]? = some y := ⟨_, List.getElem?_eq_getElem (show x / 2 < ws.length by omega)⟩
  unfold wic
  rw [hy]
  dsimp only
  split <;> rfl
theorem sr_vals2 (w : World) (vs : List Value) (t : TypeId) : SR (w.alloc (.cells vs.toArray t)) (w.alloc (.cells vs.toArray t)).heap.size (some ⟨w.heap.size, 0, none⟩) vs.length vs := by
  refine ⟨rfl, fun _ => ⟨_, _, rfl, by simp, fun j u hj => ?_⟩⟩
  have h := cell_of_row (w.alloc (.cells vs.toArray t)) w.heap.size j vs.toArray t (0, 0) (heap_alloc_new w _)
  rw [Nat.zero_add, h, ← hj]
  simp
theorem concatN_two {w : World} {Av A B : Option Addr} {cv c d lo mid : Nat} {LA LB : Nat → Option Addr} {LC LD : Nat → Nat} {ns ms : List Nd} (hV : SR w w.heap.size Av 2 [.slice A ns.length c, .slice B ms.length d]) (ha : NdR w lo mid A ns.length c LA LC ns) (hb : NdR w mid w.heap.size B ms.length d LB LD ms) (hlm : lo ≤ mid) (hmw : mid ≤ w.heap.size) (hn : ns.length ≤ 1000) (hm : ms.length ≤ 1000) :
    Calls Tryz.prog 182 #[.slice Av 2 cv] w fun e w' => ∃ A' c', e = .returned (.slice A' (ns.length + ms.length) c') ∧ NdR w' lo w'.heap.size A' (ns.length + ms.length) c' (jn ns.length LA LB) (jn ns.length LC LD) (ns ++ ms) ∧ Below w.heap.size w w' := by
  have h := concatN_any Av 2 cv (ns.length + ms.length) [.slice A ns.length c, .slice B ms.length d] [cellsOf (ns.length * 3) (ndv ns (lsF ns LA LC)), cellsOf (ms.length * 3) (ndv ms (lsF ms LB LD))] w hV
    (partsK_two (row_sr ha.1) (nil0 ha.1) (one_cells (one_ndv ns LA LC)) (row_sr hb.1) (nil0 hb.1) (one_cells (one_ndv ms LB LD))) rfl (by simp [cells_len]; omega) (by omega) (by omega)
  refine h.mono ?_
  rintro e w' ⟨v, rfl, hown, hbel⟩
  obtain ⟨A', c', rfl, hr⟩ := rowR_owns hown
  refine ⟨A', c', rfl, ?_, hbel⟩
  refine ndr_join (mid := mid) (xs := cellsOf (ns.length * 3) (ndv ns (lsF ns LA LC))) (ys := cellsOf (ms.length * 3) (ndv ms (lsF ms LB LD))) hlm (Nat.le_trans hmw hbel.size) rfl ?_ (cells_len _ _) (fun j hj => cells_get hj) (fun j hj => cells_get hj) (fun i hi => (ha.2.1 i hi).on hbel) ha.2.2 (fun i hi => ((hb.2.1 i hi).on hbel).wide (Nat.le_refl _) hbel.size) hb.2.2
  have h2 : ([cellsOf (ns.length * 3) (ndv ns (lsF ns LA LC)), cellsOf (ms.length * 3) (ndv ms (lsF ms LB LD))] : List (List Value)).flatten = cellsOf (ns.length * 3) (ndv ns (lsF ns LA LC)) ++ cellsOf (ms.length * 3) (ndv ms (lsF ms LB LD)) := by simp
  rw [h2] at hr
  exact hr.wide (Nat.le_trans hlm hmw) (Nat.le_refl _)
theorem laid_ndr {w : World} {lo hi : Nat} {P : Plan} {b : Big} (h : Laid w lo hi P b) : NdR w lo hi P.A1 b.nodes.length P.c1 P.LA P.LC b.nodes :=
  ⟨h.2.1.1.congr (fun x _ => rfl), h.2.1.2, fun i j hij hj hne e => (h.1 j hj hne).2 i (Nat.lt_trans hij hj) (Nat.ne_of_lt hij) e⟩
theorem laid_nil {w : World} {lo hi : Nat} {P : Plan} {b : Big} (h : Laid w lo hi P b) : NilV (.agg #[.int .i64 b.roots, .slice P.A1 b.nodes.length P.c1, .slice P.A2 b.sites.length P.c2, .int .i64 b.edges, .slice P.A4 b.outer.length P.c4, .slice P.A5 b.inner.length P.c5]) :=
  ⟨_, _, _, _, _, _, _, _, _, _, _, _, _, _, rfl, nil0 h.2.1.1, nil0 h.2.2.1, nil0 h.2.2.2.1, nil0 h.2.2.2.2⟩
theorem big_join {w : World} {lo mid hi N c : Nat} {A A2 A4 A5 : Option Addr} {ns ms : List Nd} {LA LB : Nat → Option Addr} {LC LD : Nat → Nat} {n2 c2 n4 c4 n5 c5 : Nat} {R E : Int} {ss : List Int} {ou : List ByteArray} {ws : List Wr} (hr : NdR w lo hi A N c (jn ns.length LA LB) (jn ns.length LC LD) (ns ++ ms)) (hN : N = ns.length + ms.length)
    (ra : ∀ i, i < ns.length → RowR w lo mid 3 1 (LA i) (lnOf ns i) (LC i) (iat (linksOf ns i))) (hap : ∀ k, k < ms.length → LB k ≠ none → LB k ≠ A2) (h2 : RowR w mid hi 3 1 A2 n2 c2 (iat ss)) (l2 : ss.length = n2) (h4 : RowR w lo hi 9 1 A4 n4 c4 (at_ ou)) (l4 : ou.length = n4) (h5 : RowR w lo hi 139 2 A5 n5 c5 (wic ws)) (l5 : ws.length = n5) (hlo : lo ≤ mid) :
    BigR w lo hi (.agg #[.int .i64 R, .slice A N c, .slice A2 n2 c2, .int .i64 E, .slice A4 n4 c4, .slice A5 n5 c5]) ⟨R, ns ++ ms, ss, E, ou, ws⟩ := by
  subst l2 l4 l5 hN
  have hlen : (ns ++ ms).length = ns.length + ms.length := List.length_append
  refine ⟨⟨A, c, A2, c2, A4, c4, A5, c5, jn ns.length LA LB, jn ns.length LC LD⟩, by dsimp only; rw [hlen], ?_, ⟨by dsimp only; rw [hlen]; exact hr.1.congr (fun x _ => rfl), fun k hk => by dsimp only at hk ⊢; rw [hlen] at hk; exact hr.2.1 k hk⟩, h2.wide hlo (Nat.le_refl _), h4, h5⟩
  intro k hk hno
  dsimp only at hk hno ⊢
  rw [hlen] at hk
  refine ⟨fun e => ?_, fun j hj hjk e => ?_⟩
  · by_cases h : k < ns.length
    · rw [jn_lo h] at e hno
      rcases ra k h with ⟨e0, -⟩ | ⟨g, f, e0, a1, a2, -⟩
      · exact hno e0
      · have := h2.in_ (g := g) (by rw [blk]; exact e.symm.trans e0)
        omega
    · obtain ⟨i, rfl⟩ : ∃ i, k = ns.length + i := ⟨k - ns.length, by omega⟩
      rw [jn_hi] at e hno
      exact hap i (by omega) hno e
  · rw [hlen] at hj
    rcases Nat.lt_or_gt_of_ne hjk with hl | hl
    · exact hr.2.2 j k hl hk hno e
    · exact hr.2.2 k j hl hj (by rw [e]; exact hno) e.symm
end Go.Proofs.YtfjgapkjpmkplaaGreat.nj
end
section
namespace Go.Proofs.YtfjgapkjpmkplaaGreat.sf
open kit bg sg opn strs only hb sig isig un over gn nm inn ht gd im pt marks eqs hc hi hw hn rs br bm bw cf lf ib lw cl nj
open Go.RowKit Go.Sort Go.Shelf
set_option linter.unusedVariables false
set_option linter.unusedSimpArgs false
instance : Inhabited Wr := ⟨⟨⟨#[]⟩, 0⟩⟩
def cmpS (x y : ByteArray) : Int := if Op.bytesLess x.toList y.toList = true then -1 else if Op.bytesLess y.toList x.toList = true then 1 else 0
theorem nan_any (x : ByteArray) (w : World) : Calls Tryz.prog 258 #[.string x] w fun e w' => e = .returned (.bool false) ∧ w' = w := by
  go_enter Tryz.func258, Tryz.ntmps258
  go_wp2_with fail
  go_ret
  simp
set_option maxHeartbeats 1600000 in
theorem cmp_any (x y : ByteArray) (w : World) : Calls Tryz.prog 242 #[.string x, .string y] w fun e w' => e = .returned (.int .i64 (cmpS x y)) ∧ w' = w := by
  have C1 := nan_any x w
  have C2 := nan_any y w
  cases h1 : Op.bytesLess x.toList y.toList with
  | true =>
    have HR : Hid (cmpS x y = -1) := Lib.hid (by unfold cmpS; rw [h1]; rfl)
    rw [HR.out]
    go_enter Tryz.func242, Tryz.ntmps242
    go_wp2_with fail
    refine C1.mono ?_
    rintro e w1 ⟨rfl, rfl⟩
    go_wp2_with fail
    refine C2.mono ?_
    rintro e w2 ⟨rfl, rfl⟩
    go_wp2_with fail
    go_ret
    exact ⟨rfl, rfl⟩
  | false =>
    cases h2 : Op.bytesLess y.toList x.toList with
    | true =>
      have HR : Hid (cmpS x y = 1) := Lib.hid (by unfold cmpS; rw [h1, h2]; rfl)
      rw [HR.out]
      have h3 : (x.toList == y.toList) = false := by
        cases h : (x.toList == y.toList) with
        | false => rfl
        | true => rw [show x = y from str_eq h] at h1 h2; rw [h1] at h2; cases h2
      go_enter Tryz.func242, Tryz.ntmps242
      go_wp2_with fail
      refine C1.mono ?_
      rintro e w1 ⟨rfl, rfl⟩
      go_wp2_with fail
      refine C2.mono ?_
      rintro e w2 ⟨rfl, rfl⟩
      go_wp2_with fail
      go_ret
      exact ⟨rfl, rfl⟩
    | false =>
      have HR : Hid (cmpS x y = 0) := Lib.hid (by unfold cmpS; rw [h1, h2]; rfl)
      rw [HR.out]
      have h3 : (x.toList == y.toList) = true := by
        cases h : (x.toList == y.toList) with
        | true => rfl
        | false =>
          exfalso
          have hn : ¬ x.toList < y.toList := fun hl => by rw [(jo.bl_lt _ _).2 hl] at h1; cases h1
          have hm : ¬ y.toList < x.toList := fun hl => by rw [(jo.bl_lt _ _).2 hl] at h2; cases h2
          have he : x.toList = y.toList := by
            by_cases e : x = y
            · rw [e]
            · exact absurd (su.ltS_tri x y hn e) hm
          rw [he] at h
          simp at h
      go_enter Tryz.func242, Tryz.ntmps242
      go_wp2_with fail
      refine C1.mono ?_
      rintro e w1 ⟨rfl, rfl⟩
      go_wp2_with fail
      refine C2.mono ?_
      rintro e w2 ⟨rfl, rfl⟩
      go_wp2_with fail
      go_ret
      exact ⟨rfl, rfl⟩
def encW (x : Wr) : List Value := [.string x.name, .int .i64 x.link]
def cfW (x y : Wr) : Int := cmpS x.name y.name
set_option maxHeartbeats 1600000 in
theorem clo_any (x y : Wr) (w : World) : Calls Tryz.prog 241 #[.agg #[.string x.name, .int .i64 x.link], .agg #[.string y.name, .int .i64 y.link]] w fun e w' => e = .returned (.int .i64 (cfW x y)) ∧ ∃ q os', w' = grow (w.drewN q) os' := by
  have HC := Lib.hid (fun (Y : World) => cmp_any x.name y.name Y)
  have HE : Hid (cfW x y = cmpS x.name y.name) := Lib.hid rfl
  rw [HE.out]
  go_enter Tryz.func241, Tryz.ntmps241
  go_wp2_with fail
  refine (HC.out _).mono ?_
  rintro e w1 ⟨rfl, rfl⟩
  go_wp2_with fail
  go_ret
  exact ⟨rfl, 0, _, by rw [alloc_eq_grow, alloc_eq_grow, grow_grow]; rfl⟩
theorem lays_any (blk off size : Nat) (w : World) : CmpLays Tryz.prog 241 #[] encW 2 cfW blk off size w := fun m os dk hs x y => clo_any x y _
theorem lt_iff (x y : Wr) : ltOf cfW x y = Op.bytesLess x.name.toList y.name.toList := by
  unfold ltOf cfW cmpS
  cases h1 : Op.bytesLess x.name.toList y.name.toList with
  | true => simp
  | false => cases h2 : Op.bytesLess y.name.toList x.name.toList <;> simp
theorem swo : SWO (ltOf cfW) where
  irrefl x := by
    rw [lt_iff]
    cases h : Op.bytesLess x.name.toList x.name.toList with
    | false => rfl
    | true => exact absurd ((jo.bl_lt _ _).1 h) (List.lt_irrefl _)
  trans x y z h1 h2 := by
    rw [lt_iff] at *
    exact (jo.bl_lt _ _).2 (List.lt_trans ((jo.bl_lt _ _).1 h1) ((jo.bl_lt _ _).1 h2))
  ntrans x y z h1 h2 := by
    rw [lt_iff] at *
    cases h : Op.bytesLess x.name.toList z.name.toList with
    | false => rfl
    | true =>
      exfalso
      have h3 := (jo.bl_lt _ _).1 h
      have a1 : ¬ x.name.toList < y.name.toList := fun hl => by rw [(jo.bl_lt _ _).2 hl] at h1; cases h1
      have a2 : ¬ y.name.toList < z.name.toList := fun hl => by rw [(jo.bl_lt _ _).2 hl] at h2; cases h2
      by_cases e : x.name = y.name
      · rw [← e] at a2; exact a2 h3
      · exact a2 (List.lt_trans (su.ltS_tri x.name y.name a1 e) h3)
def wcells (ws : List Wr) : List Value := cellsOf (ws.length * 2) (wic ws)
theorem wcells_len (ws : List Wr) : (wcells ws).length = ws.length * 2 := cells_len _ _
theorem flat_eq (ws : List Wr) : flatK encW 2 ws.toArray = (wcells ws).toArray := by
  refine ext_get! (by simp [wcells_len]) (fun t ht => ?_)
  have ht : t < ws.length * 2 := by simpa using ht
  rw [get_flatK encW 2 ws.toArray t (by simpa using ht)]
  have hk : t / 2 < ws.length := by omega
  obtain ⟨y, hy⟩ : ∃ y, ws[t / 2]? = some y := ⟨_, List.getElem?_eq_getElem hk⟩
  have h1 : ws.toArray[t / 2]! = y := by
    rw [getElem!_def]
    simp only [List.getElem?_toArray, hy]
  have h2 : (wcells ws).toArray[t]! = wic ws t := by
    rw [getElem!_def]
    simp only [List.getElem?_toArray]
    rw [show (wcells ws)[t]? = some (wic ws t) from cells_get ht]
  rw [h1, h2]
  unfold wic encW
  rw [hy]
  dsimp only
  rcases Nat.mod_two_eq_zero_or_one t with h | h <;> rw [h] <;> rfl
theorem holdsV {w : World} {g : Nat} {cur : Array Value} {e : TypeId} {ts : List Value} (hb : w.heap[g]? = some (.cells cur e (0, 0))) (ht : cur.toList.take ts.length = ts) : Holds id w g 0 ts.toArray := by
  intro j hj
  have hj' : j < ts.length := by simpa using hj
  refine ⟨?_, by simp [World.frozen?, hb]⟩
  have h1 : (cur.toList.take ts.length)[j]? = ts[j]? := by rw [ht]
  rw [List.getElem?_take_of_lt hj'] at h1
  simp only [World.cell?, hb, Nat.zero_add]
  simp only [Option.isSome_none, Bool.false_eq_true, if_false]
  rw [← Array.getElem?_toList, h1]
  simp [hj']
theorem heapV {w : World} {g n : Nat} {os : Array Obj} {cur : Array Value} {e : TypeId} {fr : Nat × Nat} (d : Array Value) (hb : w.heap[g]? = some (.cells cur e fr)) :
    (grow (putRow id (Sort.ahead w n) g 0 d) os).heap[g]? = some (.cells (putCells id 0 d cur) e fr) := by
  have hg : g < w.heap.size := (Array.getElem?_eq_some_iff.1 hb).1
  rw [heap_grow_old _ _ (by simpa using hg)]
  simp [putRow, mapBlock, Sort.ahead, Array.getElem?_modify, hb, onCells]
theorem grownV {w : World} {g n : Nat} {os : Array Obj} (d : Array Value) : w.grownBy (grow (putRow id (Sort.ahead w n) g 0 d) os) (some g) := by
  refine ⟨rfl, rfl, rfl, by simp, fun k hk hne => ?_⟩
  rw [heap_grow_old _ _ (by simpa using hk)]
  have : g ≠ k := fun e => hne (by rw [e])
  simp [putRow, mapBlock, Sort.ahead, Array.getElem?_modify, this]
theorem takeV (cur : Array Value) (ts : List Value) (h : ts.length ≤ cur.size) : (putCells id 0 ts.toArray cur).toList.take ts.length = ts := by
  apply List.ext_getElem?
  intro j
  by_cases hj : j < ts.length
  · rw [List.getElem?_take_of_lt hj, Array.getElem?_toList]
    simp [putCells, hj, show j < cur.size by omega]
  · rw [List.getElem?_take_eq_none (by omega), List.getElem?_eq_none (by omega)]
def SortW (ws : List Wr) : Prop := ∀ (i j : Nat) a b, i < j → ws[i]? = some a → ws[j]? = some b → Op.bytesLess b.name.toList a.name.toList = false
set_option maxHeartbeats 1600000 in
theorem srt_any (A : Option Addr) (n c lo : Nat) (ws : List Wr) (w : World) (ho : w.ownsRow lo 139 2 (.slice A n c) n (wcells ws)) (hn : n ≤ 1000) :
    Calls Tryz.prog 240 #[.slice A n c, .func (.func 241) #[] #[]] w fun e w' => e = .returned (.tuple #[]) ∧ ∃ ws' : List Wr, ws'.Perm ws ∧ SortW ws' ∧ w'.ownsRow lo 139 2 (.slice A n c) n (wcells ws') ∧ w.grownBy w' (Value.ownBlock (.slice A n c)) := by
  have hwl : ws.length = n := by
    have := ho.1
    rw [wcells_len] at this
    omega
  rcases ho.2 with ⟨e0, rfl⟩ | ⟨g, cap, cur, e0, hbase, hgb, r1, r2, r3, r4⟩
  · injection e0 with e1 _ e2
    subst e1 e2
    have hw0 : ws = [] := List.length_eq_zero_iff.1 hwl
    subst hw0
    refine (AnyF.slices_SortFunc_none Tryz.sortWire none 0 (.func (.func 241) #[] #[]) w).mono ?_
    rintro e w' ⟨rfl, rfl⟩
    exact ⟨rfl, [], List.Perm.refl _, fun i j a b _ h => by simp at h, ho, ⟨rfl, rfl, rfl, Nat.le_refl _, fun _ _ _ => rfl⟩⟩
  · injection e0 with e1 _ e2
    subst e1 e2
    subst hwl
    have hH : HoldsK encW 2 w g 0 ws.toArray := by
      show Holds id w g 0 (flatK encW 2 ws.toArray)
      rw [flat_eq]
      exact holdsV hgb (by rw [wcells_len]; exact r4)
    have eg : ∀ args w, (callFunc 241 args).run Tryz.prog w = .ok (.enter 241 args) w := enters_of Tryz.func241 (by kernel_rfl) rfl
    have hgl : g < w.heap.size := (Array.getElem?_eq_some_iff.1 hgb).1
    have hcon := AnyQ.slices_SortFunc Tryz.sortWire 2 Tryz.isAgg139 Tryz.sizeOf139 encW (fun _ => rfl) (fun x v hv => by simp [encW] at hv; rcases hv with rfl | rfl <;> rfl) cfW swo 241 #[] g 0 c ws.toArray w eg (lays_any g 0 ws.toArray.size w) hH hgl (by simp; omega)
    rw [show ws.toArray.size = ws.length from by simp] at hcon
    refine Calls.mono (show Calls Tryz.prog 240 _ _ _ from hcon) ?_
    rintro e w' ⟨rfl, d', q, os, hp, hs, rfl⟩
    have hds : d'.size = ws.length := by have := hp.1; simpa using this
    have hdl : d'.toList.length = ws.length := by simpa using hds
    have hpm : d'.toList.Perm ws := by
      have h := hp.2.2
      rw [show ws.length = d'.size from hds.symm, Array.extract_size] at h
      rw [show d'.size = ws.toArray.size from by simp [hds], Array.extract_size] at h
      simpa using h
    have hfl : flatK encW 2 d' = (wcells d'.toList).toArray := by
      have := flat_eq d'.toList
      rwa [Array.toArray_toList] at this
    refine ⟨rfl, d'.toList, hpm, ?_, ?_, ?_⟩
    · intro i j a b hij ha hb
      have hj := (List.getElem?_eq_some_iff.1 hb).1
      have h := hs i j (Nat.zero_le _) hij (by omega)
      rw [lt_iff] at h
      have h1 : d'[j]! = b := by
        rw [getElem!_def, ← Array.getElem?_toList, hb]
      have h2 : d'[i]! = a := by
        rw [getElem!_def, ← Array.getElem?_toList, ha]
      rw [h1, h2] at h
      exact h
    · show (grow (putRow id (Sort.ahead w q) g 0 (flatK encW 2 d')) os).ownsRow _ _ _ _ _ _
      rw [hfl]
      refine ⟨by rw [wcells_len, hdl], .inr ⟨g, c, _, rfl, hbase, heapV _ hgb, r1, r2, by simp [putCells, r3], ?_⟩⟩
      have := takeV cur (wcells d'.toList) (by rw [wcells_len, hdl, r3]; omega)
      rw [wcells_len, hdl] at this
      exact this
    · show w.grownBy (grow (putRow id (Sort.ahead w q) g 0 (flatK encW 2 d')) os) (some g)
      rw [hfl]
      exact grownV _
end Go.Proofs.YtfjgapkjpmkplaaGreat.sf
end
