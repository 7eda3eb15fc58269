/- A Bigraph edited in place: links and wires with a box that stays; entries that stay as they are. -/
import Derived.Test.YtlpgldejmdiceabGreatQe
namespace Go.Proofs.YtlpgldejmdiceabGreat.edp
open kit bg sg opn strs only hb sig isig un over gn nm inn ht gd im pt marks eqs hc hi hw hn rs br bm bw cf lf ib lawb lw cl rl ed
open Go.RowKit
set_option linter.unusedVariables false
theorem mixL_all (f : Int → Int) (b : Big) : (mixL (fun _ _ l => f l) b.nodes.length 0 b).nodes = (relB f b).nodes := by
  refine List.ext_getElem? (fun i => ?_)
  unfold mixL relB
  simp only [List.getElem?_mapIdx, List.getElem?_map]
  cases hx : b.nodes[i]? with
  | none => rfl
  | some x =>
    have hi := (List.getElem?_eq_some_iff.1 hx).1
    simp only [Option.map_some]
    congr 2
    refine List.ext_getElem? (fun m => ?_)
    rw [List.getElem?_mapIdx, List.getElem?_map]
    cases x.links[m]? with
    | none => rfl
    | some l => simp only [Option.map_some]; rw [if_pos (.inl hi)]
theorem mixW_all (f : Int → Int) (b : Big) : (mixW (fun _ l => f l) b.inner.length b).inner = (relB f b).inner := by
  refine List.ext_getElem? (fun i => ?_)
  unfold mixW relB
  simp only [List.getElem?_mapIdx, List.getElem?_map]
  cases hx : b.inner[i]? with
  | none => rfl
  | some x =>
    have hi := (List.getElem?_eq_some_iff.1 hx).1
    simp only [Option.map_some]
    rw [if_pos hi]
theorem lk_parts {w : World} {lo hi β k j : Nat} {P : Plan} {bb : Big} {x : Nd} {l : Int} {v0 v1 v2 v3 v4 v5 : Value} (h : Laid w lo hi P bb) (hx : bb.nodes[k]? = some x) (hj : x.links[j]? = some l) (hb : BoxAt w β 31 v0 v1 v2 v3 v4 v5) :
    ∃ g2 f2, P.LA k = some ⟨g2, 0, none⟩ ∧ lo ≤ g2 ∧ w.rowIs g2 3 (P.LC k) f2 ∧ j < P.LC k ∧ f2 j = .int .i64 l ∧ ∀ w', Below w.heap.size w w' → ∀ z, Laid (w'.setCell ⟨g2, j, none⟩ (.int .i64 z)) lo hi P (setL bb k j z) ∧ BoxAt (w'.setCell ⟨g2, j, none⟩ (.int .i64 z)) β 31 v0 v1 v2 v3 v4 v5 := by
  obtain ⟨g2, f2, e, hg, hr, hjc, hf, -⟩ := h.link hx hj
  refine ⟨g2, f2, e, hg, hr, hjc, hf, fun w' hq z => ⟨?_, ?_⟩⟩
  · obtain ⟨g3, f3, e', -, -, -, -, hst⟩ := (h.on hq).link hx hj
    rw [e] at e'
    injection e' with e'
    injection e' with e'
    subst e'
    exact hst z
  · have hne : β ≠ g2 := fun e => by
      subst e
      have := (rowIs_uniq hb hr).1
      exact absurd this (by decide)
    exact World.rowIs.setOther (hb.on hq) (a := ⟨g2, j, none⟩) hne _
theorem wr_parts {w : World} {lo hi β k : Nat} {P : Plan} {bb : Big} {x : Wr} {v0 v1 v2 v3 v4 v5 : Value} (h : Laid w lo hi P bb) (hx : bb.inner[k]? = some x) (hb : BoxAt w β 31 v0 v1 v2 v3 v4 v5) :
    ∃ g2 f2, P.A5 = some ⟨g2, 0, none⟩ ∧ lo ≤ g2 ∧ w.rowIs g2 80 (P.c5 * 2) f2 ∧ k * 2 + 1 < P.c5 * 2 ∧ f2 (k * 2 + 1) = .int .i64 x.link ∧ ∀ w', Below w.heap.size w w' → ∀ z, Laid (w'.setCell ⟨g2, k * 2 + 1, none⟩ (.int .i64 z)) lo hi P (setW bb k z) ∧ BoxAt (w'.setCell ⟨g2, k * 2 + 1, none⟩ (.int .i64 z)) β 31 v0 v1 v2 v3 v4 v5 := by
  obtain ⟨g2, f2, e, hg, hr, hjc, -, hf, -⟩ := h.wire hx
  refine ⟨g2, f2, e, hg, hr, hjc, hf, fun w' hq z => ⟨?_, ?_⟩⟩
  · obtain ⟨g3, f3, e', -, -, -, -, -, hst⟩ := (h.on hq).wire hx
    rw [e] at e'
    injection e' with e'
    injection e' with e'
    subst e'
    exact hst z
  · have hne : β ≠ g2 := fun e => by
      subst e
      have := (rowIs_uniq hb hr).1
      exact absurd this (by decide)
    exact World.rowIs.setOther (hb.on hq) (a := ⟨g2, k * 2 + 1, none⟩) hne _
theorem mixL_skip {F : Nat → Nat → Int → Int} {k j : Nat} {b : Big} {x : Nd} {l : Int} (hx : b.nodes[k]? = some x) (hl : x.links[j]? = some l) (h : F k j l = l) : mixL F k (j + 1) b = mixL F k j b := by
  unfold mixL
  congr 1
  refine List.ext_getElem? (fun i => ?_)
  simp only [List.getElem?_mapIdx]
  cases hy : b.nodes[i]? with
  | none => rfl
  | some y =>
    simp only [Option.map_some]
    congr 2
    refine List.ext_getElem? (fun m => ?_)
    simp only [List.getElem?_mapIdx]
    cases hm : y.links[m]? with
    | none => rfl
    | some l' =>
      simp only [Option.map_some]
      congr 1
      by_cases e : i = k ∧ m = j
      · obtain ⟨rfl, rfl⟩ := e
        rw [hx] at hy
        injection hy with hy
        subst hy
        rw [hl] at hm
        injection hm with hm
        subst hm
        rw [if_pos (by omega), if_neg (by omega)]
        exact h
      · by_cases c : i < k ∨ i = k ∧ m < j
        · rw [if_pos c, if_pos (by omega)]
        · rw [if_neg c, if_neg (by omega)]
theorem mixW_skip {F : Nat → Int → Int} {k : Nat} {b : Big} {x : Wr} (hx : b.inner[k]? = some x) (h : F k x.link = x.link) : mixW F (k + 1) b = mixW F k b := by
  unfold mixW
  congr 1
  refine List.ext_getElem? (fun i => ?_)
  simp only [List.getElem?_mapIdx]
  cases hy : b.inner[i]? with
  | none => rfl
  | some y =>
    simp only [Option.map_some]
    congr 2
    by_cases e : i = k
    · subst e
      rw [hx] at hy
      injection hy with hy
      subst hy
      rw [if_pos (by omega), if_neg (by omega)]
      exact h
    · by_cases c : i < k
      · rw [if_pos c, if_pos (by omega)]
      · rw [if_neg c, if_neg (by omega)]
end Go.Proofs.YtlpgldejmdiceabGreat.edp
