/- spec.l3Identity: an identity. -/
import Derived.Test.YtlpgldejmdiceabGreatSy
namespace Go.Proofs.YtlpgldejmdiceabGreat.idn
open kit bg sg opn strs only hb sig isig un over gn nm inn ht gd im pt marks eqs hc hi hw hn rs br bm bw cf lf ib lawb lw cl pl mb wb nw cz ix su asc so sx sy
open Go.RowKit
set_option linter.unusedVariables false
set_option linter.unusedSimpArgs false
theorem flat_big {w : World} {lo hi c2 c4 c5 : Nat} {A2 A4 A5 : Option Addr} {R E : Int} {zs : List Int} {outer : List ByteArray} {inner : List Wr} (h2 : RowR w lo hi 3 1 A2 zs.length c2 (iat zs)) (h4 : RowR w lo hi 9 1 A4 outer.length c4 (at_ outer)) (h5 : RowR w lo hi 80 2 A5 inner.length c5 (wic inner)) :
    BigR w lo hi (.agg #[.int .i64 R, .slice none 0 0, .slice A2 zs.length c2, .int .i64 E, .slice A4 outer.length c4, .slice A5 inner.length c5]) ⟨R, [], zs, E, outer, inner⟩ :=
  ⟨⟨none, 0, A2, c2, A4, c4, A5, c5, fun _ => none, fun _ => 0⟩, rfl, fun k hk => absurd hk (Nat.not_lt_zero k), ⟨RowR.nil, fun k hk => absurd hk (Nat.not_lt_zero k)⟩, h2, h4, h5⟩
/-- the roots of an identity's sites -/
def downs (n : Nat) : List Int := (nums n).map fun z => -1 - z
theorem downs_at {n k : Nat} (h : k < n) : (downs n)[k]? = some (-1 - (k : Int)) := by unfold downs; rw [List.getElem?_map, nums_at h]; rfl
theorem downs_len (n : Nat) : (downs n).length = n := by unfold downs; rw [List.length_map, nums_len]
/-- an identity -/
def idB (n : Nat) (ss : List ByteArray) : Big := ⟨n, [], downs n, 0, ss, tied ss (nums ss.length)⟩
/-- blocks below a bound stay but one -/
def Kp (β B : Nat) (a w : World) : Prop := (∀ j, j < B → j ≠ β → w.heap[j]? = a.heap[j]?) ∧ a.heap.size ≤ w.heap.size
theorem kp_refl (β B : Nat) (a : World) : Kp β B a a := ⟨fun _ _ _ => rfl, Nat.le_refl _⟩
theorem kp_below {β B : Nat} {a w w' : World} (h : Kp β B a w) (hb : Below w.heap.size w w') (hB : B ≤ w.heap.size) : Kp β B a w' := ⟨fun j h1 h2 => (hb.block j (by omega)).trans (h.1 j h1 h2), Nat.le_trans h.2 hb.size⟩
theorem kp_grown {β B : Nat} {a w w' : World} {row : Option Nat} (h : Kp β B a w) (hg : w.grownBy w' row) (hB : B ≤ w.heap.size) (hr : ∀ r, row = some r → B ≤ r) : Kp β B a w' := ⟨fun j h1 h2 => (hg.block j (by omega) (fun e => by have := hr j e.symm; omega)).trans (h.1 j h1 h2), Nat.le_trans h.2 hg.size⟩
theorem kp_set {β B : Nat} {a w : World} (h : Kp β B a w) (o : Nat) (u : Value) : Kp β B a (w.setCell ⟨β, o, none⟩ u) := ⟨fun j h1 h2 => (Below.heap_setCell _ _ _ _ (by dsimp only; exact h2)).trans (h.1 j h1 h2), by simp [World.setCell]; exact h.2⟩
end Go.Proofs.YtlpgldejmdiceabGreat.idn
