/- Us. -/
import Derived.Test.YtfjgapkjpmkplaaGreatXa
import Derived.Test.YtfjgapkjpmkplaaGreatXc
import Derived.Test.YtfjgapkjpmkplaaGreatXd
import Derived.Test.YtfjgapkjpmkplaaGreatXe
import Derived.Test.YtfjgapkjpmkplaaGreatXg
import Derived.Test.YtfjgapkjpmkplaaGreatXh
import Derived.Test.YtfjgapkjpmkplaaGreatYa012
import Derived.Test.YtfjgapkjpmkplaaGreatZNk
import Derived.Test.YtfjgapkjpmkplaaGreatYb012
import Derived.Test.YtfjgapkjpmkplaaGreatRows
import Derived.WalkKit
import Derived.WalkSpells
import Derived.WalkLawsBesides
import Derived.ProofKit
import Derived.OpenShut
import Derived.ShutString
import Derived.Deep.OwnRows
import Derived.Deep.Draws
import Derived.SliceStrings
import Derived.ChangeOld
import Derived.Below
import Derived.Lib.Hide
import Derived.Lib.ItoaNum
import Derived.Deep.QuietTactic
import Derived.BigQuiet
import Derived.Outline
import Derived.StillTailTactics
import Derived.Deep.RegionWith
import Derived.Deep.RegionHeld3
import Derived.Deep.Slices
import Derived.Deep.Fields
import Derived.ChangeSame
import Derived.Lib.SmallJoins
import Derived.Maps.OwnOps
import Derived.Maps.OwnIn
import Derived.Maps.Views
import Derived.Maps.AppendAt
import Derived.RangeFuncBox
import Derived.RangeFuncLeaves
import Derived.Shelf.Abstract
import Derived.OwnWalkIn
import Derived.TacticsInMore
import Derived.LoopNIn
import Derived.LoopIn
import Derived.RangeFuncWrites
import Derived.RangeFuncNested
import Derived.JoinedOf
import Derived.Deep.AppendLies
import Derived.Deep.RegionLaw
import Derived.Laws.AppendOwnNone
import Derived.Deep.Cut
import Derived.Deep.CutRange
import Derived.Lib.SliceRun
import Derived.Lib.AppendZerosOnto
import Derived.OrdersHeld
import Derived.StillTail
import Derived.Lib.Walk
import Derived.Deep.LoopGhost
import Derived.Handy
import Derived.Lib.LazyBuf
set_option linter.unusedSimpArgs false
set_option linter.unusedVariables false
namespace Go.Proofs.YtfjgapkjpmkplaaGreat.us
open kit bg sg opn strs only hb sig isig un over gn nm inn ht gd im pt marks eqs hc hi hw hn rs br bm bw cf lf ib lw cl pl mb sb wb ek rn rnm tp wk rl ed mrp mrs nk lep psp rk cc cg uw nj co tm ft gv
open Go.RowKit
set_option linter.unusedVariables false
set_option linter.unusedSimpArgs false
theorem own_low {w : World} {B B' sz n : Nat} {e : TypeId} {v : Value} {xs : List Value} (h : w.ownsRow B' e sz v n xs) (hB : B ≤ B') : w.ownsRow B e sz v n xs := by
  refine ⟨h.1, ?_⟩
  rcases h.2 with h0 | ⟨g, cap, cur, e1, hb, r⟩
  · exact .inl h0
  · exact .inr ⟨g, cap, cur, e1, Nat.le_trans hB hb, r⟩
structure NdO (w : World) (lo mid : Nat) (v : Value) (n : Nat) (LA : Nat → Option Addr) (LC : Nat → Nat) (ns : List Nd) (xs : List Value) : Prop where
  own : w.ownsRow lo 137 3 v n xs
  get : ∀ j, j < ns.length * 3 → xs[j]? = some (ndv ns (lsF ns LA LC) j)
  row : ∀ i, i < ns.length → RowR w lo mid 3 1 (LA i) (lnOf ns i) (LC i) (iat (linksOf ns i))
  ne : ∀ i j, i < j → j < ns.length → LA j ≠ none → LA i ≠ LA j
theorem ndo_of {w : World} {lo n : Nat} {ns : List Nd} {v : Value} {xs : List Value} {LA : Nat → Option Addr} {LC : Nat → Nat} (h : NkS w lo ns n v xs LA LC) (hn : ns.length = n) {lo' : Nat} (hl : lo' ≤ lo) : NdO w lo' w.heap.size v n LA LC ns xs := by
  subst hn
  exact ⟨own_low h.own hl, h.get, fun i hi => (h.row i hi).wide hl (Nat.le_refl _), h.ne⟩
theorem NdO.on {w w' : World} {lo mid n : Nat} {ns : List Nd} {v : Value} {xs : List Value} {LA : Nat → Option Addr} {LC : Nat → Nat} (h : NdO w lo mid v n LA LC ns xs) (hb : Below w.heap.size w w') : NdO w' lo mid v n LA LC ns xs :=
  ⟨owns_on h.own hb, h.get, fun i hi => (h.row i hi).on hb, h.ne⟩
theorem NdO.src {w : World} {lo mid n : Nat} {ns : List Nd} {v : Value} {xs : List Value} {LA : Nat → Option Addr} {LC : Nat → Nat} (h : NdO w lo mid v n LA LC ns xs) : ∃ A c, v = .slice A n c ∧ (A = none → n = 0 ∧ c = 0) ∧ xs.length = n * 3 ∧ ∀ ad, A = some ad → ∀ (j : Nat) u, xs[j]? = some u → w.cell? (ad.add j) = some u := by
  rcases h.own.2 with ⟨rfl, rfl⟩ | ⟨g, cap, cur, rfl, h1, h2, h3, h4, h5, h6⟩
  · exact ⟨none, 0, rfl, fun _ => ⟨rfl, rfl⟩, h.own.1, fun ad e => by cases e⟩
  · refine ⟨_, cap, rfl, fun e => (by cases e), h.own.1, fun ad e => ?_⟩
    injection e with e
    subst e
    exact World.ownsRow.cells h.own rfl
theorem NdO.one {w : World} {lo mid n : Nat} {ns : List Nd} {v : Value} {xs : List Value} {LA : Nat → Option Addr} {LC : Nat → Nat} (h : NdO w lo mid v n LA LC ns xs) (hn : ns.length = n) : ∀ u ∈ xs, u.oneCell' = true := fun u hu => by
  obtain ⟨j, hj⟩ := List.getElem?_of_mem hu
  have hjl := (List.getElem?_eq_some_iff.1 hj).1
  rw [h.own.1, ← hn] at hjl
  rw [h.get j hjl] at hj
  injection hj with hj
  rw [← hj]
  exact one_ndv ns LA LC j hjl
theorem NdO.low {w : World} {lo lo' mid n : Nat} {ns : List Nd} {v : Value} {xs : List Value} {LA : Nat → Option Addr} {LC : Nat → Nat} (h : NdO w lo mid v n LA LC ns xs) (hl : lo' ≤ lo) : NdO w lo' mid v n LA LC ns xs :=
  ⟨own_low h.own hl, h.get, fun i hi => (h.row i hi).wide hl (Nat.le_refl _), h.ne⟩
theorem NdO.cells {w : World} {lo mid n c : Nat} {A : Option Addr} {ns : List Nd} {xs : List Value} {LA : Nat → Option Addr} {LC : Nat → Nat} (h : NdO w lo mid (.slice A n c) n LA LC ns xs) : (A = none → n = 0 ∧ c = 0) ∧ xs.length = n * 3 ∧ ∀ ad, A = some ad → ∀ (j : Nat) u, xs[j]? = some u → w.cell? (ad.add j) = some u := by
  obtain ⟨A', c', e, h1, h2, h3⟩ := h.src
  injection e with e1 _ e2
  subst e1 e2
  exact ⟨h1, h2, h3⟩
theorem ndo_join {w w' : World} {lo mid hi n m : Nat} {ns ms : List Nd} {v v' : Value} {xs ys : List Value} {LA LB : Nat → Option Addr} {LC LD : Nat → Nat} {u : Value} (h : NdO w lo mid v n LA LC ns xs) (k : NdO w mid hi u m LB LD ms ys) (hn : ns.length = n) (hm : ms.length = m) (hlm : lo ≤ mid) (hmi : mid ≤ hi) (hiw : hi ≤ w'.heap.size)
    (ho : w'.ownsRow lo 137 3 v' (n + m) (xs ++ ys)) (hg : w.grownBy w' v.ownBlock) : ∃ A c, v' = .slice A (n + m) c ∧ NdR w' lo w'.heap.size A (n + m) c (jn n LA LB) (jn n LC LD) (ns ++ ms) := by
  subst hn hm
  obtain ⟨A, c, e, hr⟩ := rowR_owns ho
  exact ⟨A, c, e, ndr_join hlm (Nat.le_trans hmi hiw) rfl hr h.own.1 h.get k.get (fun i hi => row_grown (h.row i hi) h.own hg (by decide)) h.ne (fun i hi => (row_grown (k.row i hi) h.own hg (by decide)).wide (Nat.le_refl _) hiw) k.ne⟩
theorem nd_under {b : Big} {zs : List Int} {N : Int} {lks : List Int} : ndK b zs N lks = (plB (pcF zs N) (relB (lkF lks) b)).nodes := by
  unfold ndK plB relB
  rw [List.map_map]
  rfl
theorem lks_own {w : World} {lo n m : Nat} {v : Value} {xs ys : List Int} (h : w.ownsRow lo 3 1 v (n + m) (xs.map (Value.int .i64) ++ ys.map (Value.int .i64))) (hn : xs.length = n) (hm : ys.length = m) : ∃ A c, v = .slice A (n + m) c ∧ RowR w lo w.heap.size 3 1 A (n + m) c (iat (xs ++ ys)) := by
  rw [← List.map_append] at h
  obtain ⟨A, c, e, hr⟩ := ints_owned h
  rw [List.length_append, hn, hm] at e hr
  exact ⟨A, c, e, hr⟩
theorem row_ints {w : World} {lo hi n c : Nat} {A : Option Addr} {zs : List Int} (h : RowR w lo hi 3 1 A n c (iat zs)) (hn : zs.length = n) : IntsAt w w.heap.size A n zs := by
  subst hn
  exact intsR_at (rowR_here h)
theorem flat12 {a0 a1 a2 a3 a4 a5 b0 b1 b2 b3 b4 b5 : Prop} (h : a0 ∧ a1 ∧ a2 ∧ a3 ∧ a4 ∧ a5) (k : b0 ∧ b1 ∧ b2 ∧ b3 ∧ b4 ∧ b5) : a0 ∧ a1 ∧ a2 ∧ a3 ∧ a4 ∧ a5 ∧ b0 ∧ b1 ∧ b2 ∧ b3 ∧ b4 ∧ b5 := ⟨h.1, h.2.1, h.2.2.1, h.2.2.2.1, h.2.2.2.2.1, h.2.2.2.2.2, k⟩
end Go.Proofs.YtfjgapkjpmkplaaGreat.us
