/- spec.l2Sorted: names in ascending order, each once. -/
import Derived.Test.YtlpgldejmdiceabGreatSu
import Derived.Test.YtlpgldejmdiceabGreatQe
import Derived.Test.YtlpgldejmdiceabGreatQd
import Derived.Test.YtlpgldejmdiceabGreatSa
import Derived.BigQuiet
import Derived.Handy
namespace Go.Proofs.YtlpgldejmdiceabGreat.so
open kit bg sg opn strs only over gn nm un sig hb inn ht marks eqs hc hi hw hn rs br bm bw cf lawb lw cl wb sb sa su
open Go.RowKit
set_option linter.unusedVariables false
set_option linter.unusedSimpArgs false
section
variable {P : Program} {ops : Array Oper} {md : Region.Mode} {S : World → Prop} {n : Nat} {Q : Exit → Act → World → Prop}
/-- two operations may come up -/
theorem go_two {i j : Nat} {oi oj : Oper} {f : Nat} {listed : Array Bool} {a : Act} {w : World} (hi : ops[i]? = some oi) (hj : ops[j]? = some oj)
    (hB : (decide (i < n) && decide (j < n) && decide (Region.ready md ops listed = [i, j])) = true)
    (h1 : ∀ K' : Act → World → Prop, Shut (∀ a w, S w → (S w → rh.Go_ P md ops Q S n f (listed.setIfInBounds i true) a w) → K' a w) → if Region.wanted oi (yielded ops a.tmps) = true then Oper.wp P oi a w K' Q else K' (a.put oi.dst undef) w)
    (h2 : ∀ K' : Act → World → Prop, Shut (∀ a w, S w → (S w → rh.Go_ P md ops Q S n f (listed.setIfInBounds j true) a w) → K' a w) → if Region.wanted oj (yielded ops a.tmps) = true then Oper.wp P oj a w K' Q else K' (a.put oj.dst undef) w) : rh.Go_ P md ops Q S n (f + 1) listed a w := fun inv => by
  simp only [Bool.and_eq_true, decide_eq_true_eq] at hB
  obtain ⟨⟨hin, hjn⟩, hr⟩ := hB
  refine ⟨fun h0 => (by rw [hr] at h0; cases h0), fun k hk => ?_⟩
  have hk' := hk
  rw [hr] at hk
  rcases List.mem_cons.1 hk with e | hk
  · subst e
    exact wpOp_step hi (fun K' hK => h1 K' (fun a w hS hW => hK a w ⟨fun _ => hS, hW hS (inv.set hk' hin)⟩))
  · obtain rfl : k = j := by simpa using hk
    exact wpOp_step hj (fun K' hK => h2 K' (fun a w hS hW => hK a w ⟨fun _ => hS, hW hS (inv.set hk' hjn)⟩))
end
theorem below_drewN {B : Nat} {a w : World} (h : Below B a w) (n : Nat) : Below B a (w.drewN n) := ⟨h.os, h.tape, h.output, h.size, h.block⟩
theorem owns_keep {w w' : World} {B : Nat} {t : TypeId} {v : Value} {ys : List Value} (h : Owns w B t v ys) (hb : Below w.heap.size w w') : Owns w' B t v ys := by
  refine ⟨?_, h.2⟩
  rcases h.1 with ⟨h1, ⟨e, h2⟩ | ⟨g, cap, cur, e, hg, hh, hr⟩⟩
  · exact ⟨h1, .inl ⟨e, h2⟩⟩
  · exact ⟨h1, .inr ⟨g, cap, cur, e, hg, (hb.block g (lt_of_block hh)).trans hh, hr⟩⟩
theorem take_cells {w : World} {B m g j : Nat} {L : List ByteArray} (h : SR w B (some ⟨g, 0, none⟩) m (L.map Value.string)) : ∀ (i : Nat) u, ((L.take j).map Value.string)[i]? = some u → w.cell? ((⟨g, 0, none⟩ : Addr).add i) = some u := by
  intro i u hu
  have hu2 : (L.map Value.string)[i]? = some u := by
    rw [List.getElem?_map] at hu ⊢
    by_cases e : i < j
    · rwa [List.getElem?_take_of_lt e] at hu
    · rw [List.getElem?_take_eq_none (by omega)] at hu
      cases hu
  exact sr_cells h i u hu2
theorem drop_cells {w : World} {B m g j o : Nat} {L : List ByteArray} (h : SR w B (some ⟨g, 0, none⟩) m (L.map Value.string)) (ho : j < m → o = j) : ∀ (i : Nat) u, ((L.drop j).map Value.string)[i]? = some u → w.cell? ((⟨g, o, none⟩ : Addr).add i) = some u := by
  intro i u hu
  have hlen := h.1
  rw [List.length_map] at hlen
  have hi := (List.getElem?_eq_some_iff.1 hu).1
  rw [List.length_map, List.length_drop] at hi
  have e := ho (by omega)
  subst e
  have hu2 : (L.map Value.string)[o + i]? = some u := by
    rw [List.getElem?_map] at hu ⊢
    rwa [List.getElem?_drop] at hu
  have := sr_cells h (o + i) u hu2
  rw [cl.add_none] at this ⊢
  rwa [Nat.zero_add] at this
theorem strs_one (l : List ByteArray) : ∀ u ∈ l.map Value.string, u.oneCell' = true := fun u hu => by obtain ⟨s, -, rfl⟩ := List.mem_map.1 hu; rfl
theorem one_one (x : ByteArray) : ∀ u ∈ [Value.string x], u.oneCell' = true := fun u hu => by simp at hu; subst hu; rfl
/-- a cell in a block of its own stays where another row grows -/
theorem one_keep {w w' : World} {β : Nat} {row : Option Nat} {x : Value} (hc : ∀ (i : Nat) u, [x][i]? = some u → w.cell? ((⟨β, 0, none⟩ : Addr).add i) = some u) (hg : w.grownBy w' row) (hβ : β < w.heap.size) (hne : some β ≠ row) : ∀ (i : Nat) u, [x][i]? = some u → w'.cell? ((⟨β, 0, none⟩ : Addr).add i) = some u := by
  intro i u hu
  have := hc i u hu
  rw [cl.add_none] at this ⊢
  rw [World.cell?_of_block (w := w) (hg.block β hβ hne)]
  exact this
theorem owns_of {w : World} {B B' m j : Nat} {t : TypeId} {v : Value} {x : ByteArray} {L : List ByteArray} (h : w.ownsRow B' t 1 v (0 + j + 1 + (m - j)) ([] ++ (L.take j).map Value.string ++ [.string x] ++ (L.drop j).map Value.string)) (hB : B ≤ B') (hv : v ≠ .slice none 0 0) (hm : L.length = m) (hj : j ≤ m) : Owns w B t v ((L.take j ++ [x] ++ L.drop j).map Value.string) := by
  have e : [] ++ (L.take j).map Value.string ++ [Value.string x] ++ (L.drop j).map Value.string = (L.take j ++ [x] ++ L.drop j).map Value.string := by simp
  have e2 : 0 + j + 1 + (m - j) = ((L.take j ++ [x] ++ L.drop j).map Value.string).length := by simp; omega
  rw [e, e2] at h
  refine ⟨?_, hv⟩
  rcases h with ⟨h1, ⟨e, h2⟩ | ⟨g, cap, cur, e, hg, hr⟩⟩
  · exact ⟨h1, .inl ⟨e, h2⟩⟩
  · exact ⟨h1, .inr ⟨g, cap, cur, e, by omega, hr⟩⟩
theorem wp_name {P : Program} {c : Code} {Q : Exit → Act → World → Prop} {a : Act} {w : World} (h : ∀ W, W = w → Code.wp P c Q a W) : Code.wp P c Q a w := h w rfl
end Go.Proofs.YtlpgldejmdiceabGreat.so
