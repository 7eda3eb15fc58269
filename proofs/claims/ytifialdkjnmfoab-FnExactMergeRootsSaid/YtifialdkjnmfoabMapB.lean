/- A set kept in a map of bools that the call made. -/
import Derived.Test.YtifialdkjnmfoabKit
import Derived.Maps.OwnOps
import Derived.Maps.OwnIn
import Derived.Maps.Views
namespace Go.Proofs.Ytifialdkjnmfoab.mapb
open Go.Maps (Keyed)
open Go.RowKit

theorem plainElem_bool_inv {H : Type} {P : Program} {e : TypeId} (he : P.underlying e = some .bool) {v : Value} {z : DataW H × List MemPlace} (h : plainElem P e v = some z) : ∃ x, v = .bool x ∧ z = (.lit (.bool x), []) := by
  unfold plainElem at h
  rw [he] at h
  cases v <;> simp at h
  obtain rfl := h
  exact ⟨_, rfl, rfl⟩

/-- block b is a map of at most n entries, and looking a key up in it gives true just for the keys in S -/
def SetAt (P : Program) (k e : TypeId) (w : World) (b n : Nat) (S : Lit → Prop) : Prop :=
  ∃ D : DataW Unit, w.ownsMap P k (plainElem P e) b n D ∧ Maps.IsMap D ∧ ∀ kl, WideAt.IsKeyLit kl → ∃ x, D.atKey kl (.lit (.bool false)) = .lit (.bool x) ∧ (x = true ↔ S kl)

section
variable {P : Program} {k e : TypeId} {w : World} {b n : Nat} {S : Lit → Prop}
theorem SetAt.run (h : SetAt P k e w b n S) {t : TypeId} (K : Keyed P k) (ht : P.underlying t = some (.map k e)) (he : P.underlying e = some .bool) (hz : (zeroValue e).run P w = .ok (.bool false) w)
    {key : Value} {kl : Lit} (hkey : keyOf P k key = some kl) (hkl : WideAt.IsKeyLit kl) : ∃ x, (Instr.lookup t (.map (some b)) key false).run P w = .ok (.bool x) w ∧ (x = true ↔ S kl) := by
  obtain ⟨D, hown, _, hS⟩ := h
  obtain ⟨v, ps, hrun, hv⟩ := hown.lookup K ht hz (plainElem_bool he false) hkey
  obtain ⟨x, rfl, hx⟩ := plainElem_bool_inv he hv
  obtain ⟨x', h1, h2⟩ := hS kl hkl
  rw [h1] at hx
  simp at hx
  exact ⟨x, hrun, by rw [← hx.1]; exact h2⟩
theorem SetAt.run_true (h : SetAt P k e w b n S) {t : TypeId} (K : Keyed P k) (ht : P.underlying t = some (.map k e)) (he : P.underlying e = some .bool) (hz : (zeroValue e).run P w = .ok (.bool false) w)
    {key : Value} {kl : Lit} (hkey : keyOf P k key = some kl) (hkl : WideAt.IsKeyLit kl) (hS : S kl) : (Instr.lookup t (.map (some b)) key false).run P w = .ok (.bool true) w := by
  obtain ⟨x, h1, h2⟩ := h.run K ht he hz hkey hkl
  rw [h1, h2.2 hS]
theorem SetAt.run_false (h : SetAt P k e w b n S) {t : TypeId} (K : Keyed P k) (ht : P.underlying t = some (.map k e)) (he : P.underlying e = some .bool) (hz : (zeroValue e).run P w = .ok (.bool false) w)
    {key : Value} {kl : Lit} (hkey : keyOf P k key = some kl) (hkl : WideAt.IsKeyLit kl) (hS : ¬ S kl) : (Instr.lookup t (.map (some b)) key false).run P w = .ok (.bool false) w := by
  obtain ⟨x, h1, h2⟩ := h.run K ht he hz hkey hkl
  cases x
  · exact h1
  · exact absurd (h2.1 rfl) hS
theorem SetAt.congr {S' : Lit → Prop} (h : SetAt P k e w b n S) (hS : ∀ l, S l ↔ S' l) : SetAt P k e w b n S' := by
  obtain ⟨D, h1, h2, h3⟩ := h
  exact ⟨D, h1, h2, fun kl hk => by
    obtain ⟨x, e1, e2⟩ := h3 kl hk
    exact ⟨x, e1, e2.trans (hS kl)⟩⟩
theorem SetAt.made (w : World) (P : Program) (k e : TypeId) : SetAt P k e (w.alloc (.map #[] 0)) w.heap.size 0 (fun _ => False) :=
  ⟨_, World.ownsMap_made w P k _, ⟨_, rfl⟩, fun kl hk => ⟨false, WideAt.atKey_none _ (by simp), by simp⟩⟩
theorem SetAt.kept {w' : World} {row : Option Nat} (h : SetAt P k e w b n S) (hg : w.grownBy w' row) (hne : some b ≠ row) : SetAt P k e w' b n S := by
  obtain ⟨D, hown, r⟩ := h
  exact ⟨D, hown.kept hg hne, r⟩
theorem SetAt.lt (h : SetAt P k e w b n S) : b < w.heap.size := by
  obtain ⟨D, hown, _⟩ := h
  exact hown.lt
theorem SetAt.block {w' : World} (h : SetAt P k e w b n S) (e2 : w'.heap[b]? = w.heap[b]?) : SetAt P k e w' b n S := by
  obtain ⟨D, ⟨es, clock, hb, r⟩, q⟩ := h
  exact ⟨D, ⟨es, clock, e2.trans hb, r⟩, q⟩
theorem SetAt.below {w' : World} {B : Nat} (h : SetAt P k e w b n S) (hb : Below B w w') (hB : b < B) : SetAt P k e w' b n S := h.block (hb.block b hB)

theorem wpList_store_set (w : World) {ops : Array Oper} {rest : List Oper} {o : Oper} {a : Act} {Q : Exit → Act → World → Prop}
    (hg : o.guard = none) (m x v : Operand) (t : TypeId) (hop : o.op = Op.mapUpdate t m x v)
    (k e : TypeId) (K : Keyed P k) (ht : P.underlying t = some (.map k e)) (he : P.underlying e = some .bool) (b n : Nat) (S : Lit → Prop)
    (hm : a.eval m = .map (some b)) (h : SetAt P k e w b n S) (hn : n < maxLen) (key : Value) (y : Bool) (kl : Lit) (hx : a.eval x = key) (hv : a.eval v = .bool y) (hkey : keyOf P k key = some kl) (hkl : WideAt.IsKeyLit kl)
    (hK : ∀ w', SetAt P k e w' b (n + 1) (fun l => (l = kl ∧ y = true) ∨ (l ≠ kl ∧ S l)) → w.grownBy w' (some b) → wpList P ops Q rest (a.put o.dst undef) w') :
    wpList P ops Q (o :: rest) a w := by
  obtain ⟨D, hown, hmap, hS⟩ := h
  refine wpList_mapUpdate_own w hg m x v t hop k e K ht _ b n D hm hown hn key (.bool y) kl hx hv hkey (.lit (.bool y)) [] (plainElem_bool he y) ?_
  intro w1 hown1 hg1
  refine hK w1 ⟨_, hown1, ?_, fun l hl => ?_⟩ hg1
  · exact hmap.put _ _
  · by_cases e2 : l = kl
    · subst e2
      exact ⟨y, Maps.atKey_put_same hmap hl _ _, by simp⟩
    · obtain ⟨x, h1, h2⟩ := hS l hl
      exact ⟨x, by rw [Maps.atKey_put_other e2]; exact h1, by simp [e2, h2]⟩
end
end Go.Proofs.Ytifialdkjnmfoab.mapb
