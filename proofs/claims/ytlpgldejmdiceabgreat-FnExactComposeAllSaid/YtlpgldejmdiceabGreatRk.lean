/- spec.l4Relink: other links, edges and outer names. -/
import Derived.Test.YtlpgldejmdiceabGreatNk
import Derived.Deep.RegionHeld3
namespace Go.Proofs.YtlpgldejmdiceabGreat.rk
open kit bg sg opn strs only hb sig isig un over gn nm inn ht gd im pt marks eqs hc hi hw hn rs br bm bw cf lf ib isa lawb lw cl pl mb sb wb ek rn rnm tp wk rl ed mrp mrs nk idl lep psp
open Go.RowKit
set_option linter.unusedVariables false
set_option linter.unusedSimpArgs false
/-- nodes in memory of the call's own -/
def NdR (w : World) (lo hi : Nat) (A : Option Addr) (n c : Nat) (LA : Nat → Option Addr) (LC : Nat → Nat) (ns : List Nd) : Prop :=
  RowR w lo hi 96 3 A n c (ndv ns (lsF ns LA LC)) ∧ (∀ i, i < n → RowR w lo hi 3 1 (LA i) (lnOf ns i) (LC i) (iat (linksOf ns i))) ∧ ∀ i j, i < j → j < n → LA j ≠ none → LA i ≠ LA j
section
variable {w w' : World} {lo hi n c : Nat} {A : Option Addr} {LA : Nat → Option Addr} {LC : Nat → Nat} {ns : List Nd}
theorem NdR.on (h : NdR w lo hi A n c LA LC ns) (hb : Below w.heap.size w w') : NdR w' lo hi A n c LA LC ns := ⟨h.1.on hb, fun i hi => (h.2.1 i hi).on hb, h.2.2⟩
theorem NdR.grown {base sz2 m : Nat} {v : Value} {xs : List Value} (h : NdR w lo hi A n c LA LC ns) (ho : w.ownsRow base 9 sz2 v m xs) (hg : w.grownBy w' v.ownBlock) : NdR w' lo hi A n c LA LC ns :=
  ⟨row_grown h.1 ho hg (by decide), fun i hi => row_grown (h.2.1 i hi) ho hg (by decide), h.2.2⟩
theorem NdR.wide {lo' hi' : Nat} (h : NdR w lo hi A n c LA LC ns) (a : lo' ≤ lo) (b : hi ≤ hi') : NdR w lo' hi' A n c LA LC ns := ⟨h.1.wide a b, fun i hi => (h.2.1 i hi).wide a b, h.2.2⟩
theorem ndr_of {v : Value} {xs : List Value} (h : NkS w lo ns n v xs LA LC) : ∃ A c, v = .slice A n c ∧ NdR w lo w.heap.size A n c LA LC ns := by
  obtain ⟨A, c, e, hr⟩ := rowR_owns h.own
  exact ⟨A, c, e, hr.congr (fun x hx => by rw [h.get x hx]; rfl), h.row, h.ne⟩
/-- a Bigraph out of its parts -/
theorem big_parts {R E : Int} {A2 A4 A5 : Option Addr} {n2 c2 n4 c4 n5 c5 m : Nat} {ss : List Int} {ou : List ByteArray} {ws : List Wr} (h : NdR w lo m A n c LA LC ns) (hn : ns.length = n) (h2 : RowR w m hi 3 1 A2 n2 c2 (iat ss)) (l2 : ss.length = n2) (h4 : RowR w lo hi 9 1 A4 n4 c4 (at_ ou)) (l4 : ou.length = n4) (h5 : RowR w lo hi 80 2 A5 n5 c5 (wic ws)) (l5 : ws.length = n5) (hlo : lo ≤ m) (hm : m ≤ hi) :
    BigR w lo hi (.agg #[.int .i64 R, .slice A n c, .slice A2 n2 c2, .int .i64 E, .slice A4 n4 c4, .slice A5 n5 c5]) ⟨R, ns, ss, E, ou, ws⟩ := by
  subst hn l2 l4 l5
  refine ⟨⟨A, c, A2, c2, A4, c4, A5, c5, LA, LC⟩, rfl, ?_, ⟨(h.1.wide (Nat.le_refl _) hm).congr (fun x _ => rfl), fun k hk => (h.2.1 k hk).wide (Nat.le_refl _) hm⟩, h2.wide hlo (Nat.le_refl _), h4, h5⟩
  intro k hk hno
  refine ⟨fun e => ?_, fun j hj hjk e => ?_⟩
  · have hno : LA k ≠ none := hno
    rcases h.2.1 k hk with ⟨e0, -⟩ | ⟨g, f, e0, a1, a2, -⟩
    · exact hno e0
    · have := h2.in_ (g := g) (by rw [blk]; exact e.symm.trans e0)
      omega
  · have hno : LA k ≠ none := hno
    have e : LA j = LA k := e
    rcases Nat.lt_or_gt_of_ne hjk with hl | hl
    · exact h.2.2 j k hl hk hno e
    · exact h.2.2 k j hl hj (by rw [e]; exact hno) e.symm
end
theorem keep6 {X : World} {β γ : Nat} {t : TypeId} {v0 v1 v2 v3 v4 v5 : Value} (h : BoxAt X γ t v0 v1 v2 v3 v4 v5) (hne : γ ≠ β) (a b c d e f : Value) :
    ((((((X.setCell ⟨β, 0, none⟩ a).setCell ⟨β, 1, none⟩ b).setCell ⟨β, 2, none⟩ c).setCell ⟨β, 3, none⟩ d).setCell ⟨β, 4, none⟩ e).setCell ⟨β, 5, none⟩ f).cell? ⟨γ, 0, none⟩ = some v0 ∧ ((((((X.setCell ⟨β, 0, none⟩ a).setCell ⟨β, 1, none⟩ b).setCell ⟨β, 2, none⟩ c).setCell ⟨β, 3, none⟩ d).setCell ⟨β, 4, none⟩ e).setCell ⟨β, 5, none⟩ f).cell? ⟨γ, 1, none⟩ = some v1 ∧ ((((((X.setCell ⟨β, 0, none⟩ a).setCell ⟨β, 1, none⟩ b).setCell ⟨β, 2, none⟩ c).setCell ⟨β, 3, none⟩ d).setCell ⟨β, 4, none⟩ e).setCell ⟨β, 5, none⟩ f).cell? ⟨γ, 2, none⟩ = some v2 ∧ ((((((X.setCell ⟨β, 0, none⟩ a).setCell ⟨β, 1, none⟩ b).setCell ⟨β, 2, none⟩ c).setCell ⟨β, 3, none⟩ d).setCell ⟨β, 4, none⟩ e).setCell ⟨β, 5, none⟩ f).cell? ⟨γ, 3, none⟩ = some v3 ∧ ((((((X.setCell ⟨β, 0, none⟩ a).setCell ⟨β, 1, none⟩ b).setCell ⟨β, 2, none⟩ c).setCell ⟨β, 3, none⟩ d).setCell ⟨β, 4, none⟩ e).setCell ⟨β, 5, none⟩ f).cell? ⟨γ, 4, none⟩ = some v4 ∧ ((((((X.setCell ⟨β, 0, none⟩ a).setCell ⟨β, 1, none⟩ b).setCell ⟨β, 2, none⟩ c).setCell ⟨β, 3, none⟩ d).setCell ⟨β, 4, none⟩ e).setCell ⟨β, 5, none⟩ f).cell? ⟨γ, 5, none⟩ = some v5 := by
  have h6 := (show BoxAt (sets6 X β a b c d e f) γ t v0 v1 v2 v3 v4 v5 from World.rowIs.of_block h (sets6_block _ _ _ _ _ _ hne)).get
  unfold sets6 at h6
  exact h6
theorem pc_rts {R : Nat} {p : Int} (h : -(R : Int) ≤ p) : pcF (rtsF 0 R) 0 p = p := by
  by_cases h0 : p < 0
  · obtain ⟨k, rfl⟩ : ∃ k : Nat, p = -1 - (k : Int) := ⟨(-1 - p).toNat, by omega⟩
    rw [pcF_neg (rts_get (show k < R by omega))]
    omega
  · rw [pcF_pos h0]
    omega
def rkB (b : Big) (lks : List Int) (E : Int) (ou : List ByteArray) : Big := ⟨b.roots, (relB (lkF lks) b).nodes, b.sites, E, ou, (relB (lkF lks) b).inner⟩
theorem rk_nodes {b : Big} {R : Nat} {lks : List Int} (h : ∀ x ∈ b.nodes, -(R : Int) ≤ x.parent) : ndK b (rtsF 0 R) 0 lks = (relB (lkF lks) b).nodes := by
  unfold ndK relB
  exact List.map_congr_left (fun x hx => by rw [pc_rts (h x hx)])
theorem rk_sites {b : Big} {R : Nat} (h : ∀ z ∈ b.sites, -(R : Int) ≤ z) : b.sites.map (pcF (rtsF 0 R) 0) = b.sites := by
  conv => rhs; rw [← List.map_id b.sites]
  exact List.map_congr_left (fun z hz => pc_rts (h z hz))
end Go.Proofs.YtlpgldejmdiceabGreat.rk
