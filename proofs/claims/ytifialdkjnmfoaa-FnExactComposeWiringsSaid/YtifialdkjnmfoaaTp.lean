/- The root over a place: spec.l3Top, impl.rootsOverSites. -/
import Derived.Test.YtifialdkjnmfoaaBr
import Derived.Test.YtifialdkjnmfoaaAbv
namespace Go.Proofs.Ytifialdkjnmfoaa.tp
open kit bg opn strs only hb sig isig gd inn ht hi cf ib rs abv br
open Go.RowKit
set_option linter.unusedVariables false

/-- the root over a place, at most so many steps up -/
def topF (ns : List Nd) : Nat → Int → Int
  | 0, z => z
  | f + 1, z => if z < 0 then z else match ns[z.toNat]? with
    | some x => topF ns f x.parent
    | none => z
theorem topF_neg {ns : List Nd} {f : Nat} {z : Int} (h : z < 0) : topF ns f z = z := by
  cases f with
  | zero => rfl
  | succ f => unfold topF; rw [if_pos h]
theorem topF_step {ns : List Nd} {f k : Nat} {x : Nd} (h : ns[k]? = some x) : topF ns (f + 1) (k : Int) = topF ns f x.parent := by
  rw [topF, if_neg (by omega)]
  simp only [Int.toNat_natCast, h]
/-- no place is below the roots -/
def Dn (ns : List Nd) (R : Int) : Prop := ∀ (j : Nat) x, ns[j]? = some x → -R ≤ x.parent
theorem under_dn {cs : List Ctl} {b : Big} {p below : Int} (hR : 0 ≤ b.roots) (h : underB cs b p below = true) : -b.roots ≤ p ∧ (p < below ∨ p < 0) := by
  unfold underB at h
  by_cases hn : p < 0
  · rw [if_pos hn] at h
    have := inb_true h
    omega
  · rw [if_neg hn] at h
    simp only [Bool.and_eq_true, decide_eq_true_eq] at h
    exact ⟨by omega, .inl h.1⟩
theorem topF_dn {ns : List Nd} {R : Int} (hd : Dn ns R) : ∀ (f : Nat) (z : Int), -R ≤ z → -R ≤ topF ns f z
  | 0, z, h => h
  | f + 1, z, h => by
    unfold topF
    split
    · exact h
    · split
      · rename_i x hx
        exact topF_dn hd f _ (hd _ _ hx)
      · exact h
theorem topF_root {ns : List Nd} (hu : Up ns) : ∀ (f : Nat) (z : Int), z < f → z < ns.length → topF ns f z < 0
  | 0, z, h, _ => by unfold topF; omega
  | f + 1, z, h, hl => by
    unfold topF
    split
    · assumption
    · split
      · rename_i x hx
        have := hu _ _ hx
        exact topF_root hu f _ (by omega) (by omega)
      · rename_i hx
        have := List.getElem?_eq_none_iff.1 hx
        omega
/-- the roots over the sites -/
def tops (b : Big) : List Int := b.sites.map (topF b.nodes b.nodes.length)
theorem tops_at {b : Big} {i : Nat} {z : Int} (h : b.sites[i]? = some z) : (tops b)[i]? = some (topF b.nodes b.nodes.length z) := by unfold tops; rw [List.getElem?_map, h]; rfl
theorem good_sites {cs : List Ctl} {b : Big} (h : bigB cs b = true) : Up b.nodes ∧ Dn b.nodes b.roots ∧ (∀ (i : Nat) z, b.sites[i]? = some z → -b.roots ≤ z ∧ z < b.nodes.length) ∧ 0 ≤ b.roots ∧ b.roots ≤ 4 ∧ b.nodes.length ≤ 8 ∧ b.sites.length ≤ 4 := by
  have hb := big_of h
  have hz := sizes_of hb.2.1
  have hz' := hz
  refine ⟨up_of h, fun j x hx => ?_, fun i z hz => ?_, hz.1.1, hz.1.2, hz.2.2.1, hz.2.2.2.1⟩
  · have h1 := (hb.2.2.2.2.1 j x hx).1
    unfold seatB at h1
    simp only [Bool.and_eq_true] at h1
    exact (under_dn hz.1.1 h1.2).1
  · have := under_dn hz'.1.1 (hb.2.2.2.2.2.1 i z hz)
    exact ⟨this.1, by omega⟩
theorem tops_in {cs : List Ctl} {b : Big} (h : bigB cs b = true) {i : Nat} {z : Int} (hz : b.sites[i]? = some z) : -4 ≤ topF b.nodes b.nodes.length z ∧ topF b.nodes b.nodes.length z < 0 := by
  obtain ⟨h1, h2, h3, h4, h5, h6, h7⟩ := good_sites h
  obtain ⟨a1, a2⟩ := h3 i z hz
  have := topF_dn h2 b.nodes.length z a1
  exact ⟨by omega, topF_root h1 _ _ a2 a2⟩

end Go.Proofs.Ytifialdkjnmfoaa.tp
