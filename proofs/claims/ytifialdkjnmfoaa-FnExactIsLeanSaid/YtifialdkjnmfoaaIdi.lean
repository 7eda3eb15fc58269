/- The idle links: impl.IdleLinks. -/
import Derived.Test.YtifialdkjnmfoaaIdl
import Derived.Test.YtifialdkjnmfoaaLf
import Derived.Test.YtifialdkjnmfoaaMapB
import Derived.RangeFuncBox
namespace Go.Proofs.Ytifialdkjnmfoaa.idi
open Go.Maps (Keyed)
open kit bg opn strs only hb sg sig isig un gd inn ht hi cf pt lf ib rs rt pts psp chd idl mapb
open Go.RowKit
set_option linter.unusedVariables false
attribute [local go_sem] Oper.semAt_some

theorem lawI : Keyed Try.prog 3 := Maps.int_keyed Try.underlying3
theorem keyI {z : Int} (h : (Lit.int .i64 z).wf = true) : keyOf Try.prog 3 (.int .i64 z) = some (.int .i64 z) := Maps.keyOf_int_mk Try.underlying3 h
theorem ends_nil (ws : List Wr) (z : Int) : ∀ k, (ends ws z k).length = 0 ↔ ∀ (j : Nat) x, j < k → ws[j]? = some x → x.link ≠ z
  | 0 => ⟨fun _ j x hj => absurd hj (Nat.not_lt_zero j), fun _ => rfl⟩
  | k + 1 => by
    have ih := ends_nil ws z k
    cases hx : ws[k]? with
    | none =>
      have e : ends ws z (k + 1) = ends ws z k := by rw [ends, hx]
      rw [e, ih]
      refine ⟨fun h j x hj hj2 => ?_, fun h j x hj hj2 => h j x (by omega) hj2⟩
      by_cases e : j = k
      · subst e; rw [hx] at hj2; cases hj2
      · exact h j x (by omega) hj2
    | some y =>
      by_cases hz : y.link = z
      · rw [ends_yes hx hz, List.length_append, List.length_singleton]
        exact ⟨fun h => by omega, fun h => absurd hz (h k y (by omega) hx)⟩
      · rw [ends_no hx hz, ih]
        refine ⟨fun h j x hj hj2 => ?_, fun h j x hj hj2 => h j x (by omega) hj2⟩
        by_cases e : j = k
        · subst e; rw [hx] at hj2; injection hj2 with e2; subst e2; exact hz
        · exact h j x (by omega) hj2
/-- the links of some ports and of the first inner names -/
def Busy (ps : List Port) (ws : List Wr) (k : Nat) (l : Lit) : Prop := (∃ p ∈ ps, l = .int .i64 p.2.2) ∨ ∃ (j : Nat) (x : Wr), j < k ∧ ws[j]? = some x ∧ l = .int .i64 x.link
theorem busy_iff (b : Big) (l : Int) : Busy (ports b.nodes) b.inner b.inner.length (.int .i64 l) ↔ idleB b l = false := by
  have h2 := ends_nil b.inner l b.inner.length
  have h1 : (onL l (ports b.nodes)).length = 0 ↔ ∀ p ∈ ports b.nodes, p.2.2 ≠ l := by
    unfold onL
    rw [List.length_eq_zero_iff, List.filter_eq_nil_iff]
    simp
  constructor
  · intro h
    unfold idleB
    rcases h with ⟨p, hp, e⟩ | ⟨j, x, hj, hx, e⟩
    · injection e with _ e
      rw [decide_eq_false (fun h => h1.1 h p hp e.symm)]; rfl
    · injection e with _ e
      rw [decide_eq_false (p := (ends b.inner l b.inner.length).length = 0) (fun h => h2.1 h j x hj hx e.symm), Bool.and_false]
  · intro h
    apply Classical.byContradiction
    intro hn
    have e1 := h1.2 (fun p hp e => hn (.inl ⟨p, hp, by rw [e]⟩))
    have e2 := h2.2 (fun j x hj hx e => hn (.inr ⟨j, x, hj, hx, by rw [e]⟩))
    unfold idleB at h
    rw [e1, e2] at h
    simp at h

theorem wpListIn_store_set {F : Fence} {nF : Nat} {P : Program} (w : World) {ops : Array Oper} {rest : List Oper} {o : Oper} {a : Act} {Q : Exit → Act → World → Prop}
    (hg : o.guard = none) (m x v : Operand) (t : TypeId) (hop : o.op = Op.mapUpdate t m x v)
    (k e : TypeId) (K : Keyed P k) (ht : P.underlying t = some (.map k e)) (he : P.underlying e = some .bool) (b n : Nat) (S : Lit → Prop)
    (hm : a.eval m = .map (some b)) (h : SetAt P k e w b n S) (hn : n < maxLen) (key : Value) (y : Bool) (kl : Lit) (hx : a.eval x = key) (hv : a.eval v = .bool y) (hkey : keyOf P k key = some kl) (hkl : WideAt.IsKeyLit kl)
    (hK : ∀ w', SetAt P k e w' b (n + 1) (fun l => (l = kl ∧ y = true) ∨ (l ≠ kl ∧ S l)) → w.grownBy w' (some b) → wpListIn F nF P ops Q rest (a.put o.dst undef) w') :
    wpListIn F nF P ops Q (o :: rest) a w := by
  obtain ⟨D, hown, hmap, hS⟩ := h
  refine wpListIn_mapUpdate_own w hg m x v t hop k e K ht _ b n D hm hown hn key (.bool y) kl hx hv hkey (.lit (.bool y)) [] (plainElem_bool he y) ?_
  intro w1 hown1 hg1
  refine hK w1 ⟨_, hown1, ?_, fun l hl => ?_⟩ hg1
  · exact hmap.put _ _
  · by_cases e2 : l = kl
    · subst e2
      exact ⟨y, Maps.atKey_put_same hmap hl _ _, by simp⟩
    · obtain ⟨x, h1, h2⟩ := hS l hl
      exact ⟨x, by rw [Maps.atKey_put_other e2]; exact h1, by simp [e2, h2]⟩
end Go.Proofs.Ytifialdkjnmfoaa.idi
