/- The root over a place: spec.l3Top, impl.rootsOverSites. -/
import Derived.Test.YtemahmnchcnfeaaBr
import Derived.Test.YtemahmnchcnfeaaAbv
namespace Go.Proofs.Ytemahmnchcnfeaa.tp
open kit bg opn strs only hb sig isig gd inn ht hi cf ib rs abv br
open Go.RowKit
set_option linter.unusedVariables false

/-- the root over a place, at most so many steps up -/
def topF (ns : List Nd) : Nat → Int → Int
  | 0, z => z
  | f + 1, z => if z < 0 then z else match ns[z.toNat]? with
    | some x => topF ns f x.parent
    | none => z
theorem topF_neg {ns : List Nd} {f : Nat} {z : Int} (h : z < 0) : topF ns f z = z := by
  cases f with
  | zero => rfl
  | succ f => unfold topF; rw [if_pos h]
theorem topF_step {ns : List Nd} {f k : Nat} {x : Nd} (h : ns[k]? = some x) : topF ns (f + 1) (k : Int) = topF ns f x.parent := by
  rw [topF, if_neg (by omega)]
  simp only [Int.toNat_natCast, h]
/-- no place is below the roots -/
def Dn (ns : List Nd) (R : Int) : Prop := ∀ (j : Nat) x, ns[j]? = some x → -R ≤ x.parent
theorem under_dn {cs : List Ctl} {b : Big} {p below : Int} (hR : 0 ≤ b.roots) (h : underB cs b p below = true) : -b.roots ≤ p ∧ (p < below ∨ p < 0) := by
  unfold underB at h
  by_cases hn : p < 0
  · rw [if_pos hn] at h
    have := inb_true h
    omega
  · rw [if_neg hn] at h
    simp only [Bool.and_eq_true, decide_eq_true_eq] at h
    exact ⟨by omega, .inl h.1⟩
theorem topF_dn {ns : List Nd} {R : Int} (hd : Dn ns R) : ∀ (f : Nat) (z : Int), -R ≤ z → -R ≤ topF ns f z
  | 0, z, h => h
  | f + 1, z, h => by
    unfold topF
    split
    · exact h
    · split
      · rename_i x hx
        exact topF_dn hd f _ (hd _ _ hx)
      · exact h
theorem topF_root {ns : List Nd} (hu : Up ns) : ∀ (f : Nat) (z : Int), z < f → z < ns.length → topF ns f z < 0
  | 0, z, h, _ => by unfold topF; omega
  | f + 1, z, h, hl => by
    unfold topF
    split
    · assumption
    · split
      · rename_i x hx
        have := hu _ _ hx
        exact topF_root hu f _ (by omega) (by omega)
      · rename_i hx
        have := List.getElem?_eq_none_iff.1 hx
        omega
/-- the roots over the sites -/
def tops (b : Big) : List Int := b.sites.map (topF b.nodes b.nodes.length)
theorem tops_at {b : Big} {i : Nat} {z : Int} (h : b.sites[i]? = some z) : (tops b)[i]? = some (topF b.nodes b.nodes.length z) := by unfold tops; rw [List.getElem?_map, h]; rfl
theorem good_sites {cs : List Ctl} {b : Big} (h : bigB cs b = true) : Up b.nodes ∧ Dn b.nodes b.roots ∧ (∀ (i : Nat) z, b.sites[i]? = some z → -b.roots ≤ z ∧ z < b.nodes.length) ∧ 0 ≤ b.roots ∧ b.roots ≤ 4 ∧ b.nodes.length ≤ 8 ∧ b.sites.length ≤ 4 := by
  have hb := big_of h
  have hz := sizes_of hb.2.1
  have hz' := hz
  refine ⟨up_of h, fun j x hx => ?_, fun i z hz => ?_, hz.1.1, hz.1.2, hz.2.2.1, hz.2.2.2.1⟩
  · have h1 := (hb.2.2.2.2.1 j x hx).1
    unfold seatB at h1
    simp only [Bool.and_eq_true] at h1
    exact (under_dn hz.1.1 h1.2).1
  · have := under_dn hz'.1.1 (hb.2.2.2.2.2.1 i z hz)
    exact ⟨this.1, by omega⟩
theorem tops_in {cs : List Ctl} {b : Big} (h : bigB cs b = true) {i : Nat} {z : Int} (hz : b.sites[i]? = some z) : -4 ≤ topF b.nodes b.nodes.length z ∧ topF b.nodes b.nodes.length z < 0 := by
  obtain ⟨h1, h2, h3, h4, h5, h6, h7⟩ := good_sites h
  obtain ⟨a1, a2⟩ := h3 i z hz
  have := topF_dn h2 b.nodes.length z a1
  exact ⟨by omega, topF_root h1 _ _ a2 a2⟩

set_option maxRecDepth 20000 in
set_option maxHeartbeats 1600000 in
theorem l3Top_any (v0 v2 v3 v4 v5 : Value) (A1 : Option Addr) (n1 c1 : Nat) (ns : List Nd) (z0 : Int) (w0 w : World) (h : NdsAt w0 w0.heap.size A1 n1 ns) (hb0 : Below w0.heap.size w0 w) (hn : n1 ≤ 8) (hu : Up ns) (hz : z0 < n1) :
    Calls Try.prog 104 #[.agg #[v0, .slice A1 n1 c1, v2, v3, v4, v5], .int .i64 z0] w fun e w' => e = .returned (.int .i64 (topF ns n1 z0)) ∧ Below w.heap.size w w' := by
  have HU := Lib.hid hu
  have HBox := Lib.hid (six_new w v0 (.slice A1 n1 c1) v2 v3 v4 v5 37)
  clear hu
  go_enter Try.func104, Try.ntmps104
  go_wp2_with fail
  go_loopw [1] (fun p wr => ∃ (f : Nat) (z : Int), p = .int .i64 z ∧ z < f ∧ f ≤ n1 ∧ topF ns f z = topF ns n1 z0 ∧ Below (w.heap.size + 1) (w.alloc (.cells #[v0, .slice A1 n1 c1, v2, v3, v4, v5] 37)) wr) (fun p _ => (intOf p + 1).toNat)
  case atStart => exact ⟨n1, z0, rfl, hz, Nat.le_refl _, rfl, Below.refl _ _⟩
  case round =>
    obtain ⟨f, z, rfl, hzf, hfn, hys, hbel⟩ := hrel
    have hsz := hbel.size
    simp at hsz
    have hrow := HBox.out.of_block (hbel.block w.heap.size (by omega))
    obtain ⟨x0, x1, x2, x3, x4, x5⟩ := row6 hrow
    simp only [six] at x0 x1 x2 x3 x4 x5
    simp at x0 x1 x2 x3 x4 x5
    have hbw : Below w0.heap.size w0 wr := hb0.trans (((Below.refl w0.heap.size w).alloc hb0.size _).trans (hbel.mono (by have := hb0.size; omega)))
    have HY := Lib.hid hys
    have HB := Lib.hid (((Below.refl w.heap.size w).alloc (Nat.le_refl _) (.cells #[v0, .slice A1 n1 c1, v2, v3, v4, v5] 37)).trans (hbel.mono (Nat.le_succ _)))
    have HBel := Lib.hid hbel
    clear hrow hys hbel
    by_cases hlt : z < 0
    · have HT : Hid (topF ns n1 z0 = z) := Lib.hid (by rw [← HY.out, topF_neg hlt])
      go_wp2_with fail
      go_ret
      exact ⟨by rw [HT.out]; rfl, HB.out⟩
    · obtain ⟨k, rfl⟩ : ∃ k : Nat, z = k := ⟨z.toNat, by omega⟩
      have hkn : k < n1 := by omega
      obtain ⟨b, off, x, rfl, hbb, hx, c0, c1', -⟩ := h.get hkn
      have d1 := (hbw.cell (p := ⟨b, off + k * 3 + 1, none⟩) hbb).trans c1'
      obtain ⟨f', rfl⟩ : ∃ f', f = f' + 1 := ⟨f - 1, by omega⟩
      have hxp := HU.out k x hx
      have HT := Lib.hid (show topF ns f' x.parent = topF ns n1 z0 by rw [← HY.out, topF_step hx])
      have HP := Lib.hid (And.intro hxp (And.intro hzf hfn))
      obtain ⟨pp, hpp⟩ : ∃ pp, x.parent = pp := ⟨_, rfl⟩
      rw [hpp] at d1 HT HP
      clear hx c0 c1' hxp hpp hzf
      go_wp2_with fail
      go_roundw
      case rel => exact ⟨f', pp, rfl, by have := HP.out; omega, by have := HP.out; omega, HT.out, HBel.out⟩
      case measure => have := HP.out; simp [intOf]; omega
end Go.Proofs.Ytemahmnchcnfeaa.tp
