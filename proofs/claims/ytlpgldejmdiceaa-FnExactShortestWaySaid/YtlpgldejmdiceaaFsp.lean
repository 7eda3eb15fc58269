/- A list of triples that grows beside a list of ints of one's own; the answer of ShortestWay. -/
import Derived.Test.YtlpgldejmdiceaaFay
import Derived.Test.YtlpgldejmdiceaaFai
import Derived.Test.YtlpgldejmdiceaaRtt
import Derived.Test.YtlpgldejmdiceaaLoi
namespace Go.Proofs.Ytlpgldejmdiceaa.fsp
open kit bg sg opn strs only hb sig isig un over gn nm inn ht gd im pt marks eqs hc hi hw hn rs br bm bw cf lf ib isa lawb lw cl bgs cz has syx sya rea rkx fax fay syh syi syc syg syb syk syl syt syr rcs rci rcf rks rki syz rep rkf fai rtt loi
open Go.RowKit
set_option linter.unusedVariables false
set_option linter.unusedSimpArgs false
theorem ownT_on {w w' : World} {lo : Nat} {v : Value} {ts : List Tri} (h : OwnT w lo v ts) (hb : Below w.heap.size w w') : OwnT w' lo v ts := by
  obtain ⟨⟨a1, a2⟩, a3⟩ := h
  refine ⟨⟨a1, ?_⟩, a3⟩
  rcases a2 with ⟨e, _⟩ | ⟨g, cap, cur, e, hbb, hh, rr⟩
  · exact absurd e a3
  · exact .inr ⟨g, cap, cur, e, hbb, (hb.block g (Array.getElem?_eq_some_iff.1 hh).1).trans hh, rr⟩
theorem ownT_row {w : World} {lo : Nat} {v : Value} {ts : List Tri} (h : OwnT w lo v ts) : ∃ g m f, v.ownBlock = some g ∧ lo ≤ g ∧ w.rowIs g 76 m f := by
  obtain ⟨⟨h1, h2⟩, hn⟩ := h
  rcases h2 with ⟨e, _⟩ | ⟨g, cap, cur, rfl, hb, hh, hc, hm, hs, ht⟩
  · exact absurd e hn
  · exact ⟨g, cap * 3, (fun i => (cur[i]?).getD undef), rfl, hb, cur, hh, by simpa using hs, fun i hi => by
      show cur[i]? = some ((cur[i]?).getD undef)
      rw [Array.getElem?_eq_getElem (show i < cur.size by omega)]; rfl⟩
/-- ints of one's own stay where a list of triples grows -/
theorem ints_stay {w w' : World} {B lo : Nat} {v u : Value} {ys : List Value} {ts : List Tri} (h : Owns w B 3 v ys) (ht : OwnT w lo u ts) (hg : w.grownBy w' u.ownBlock) : Owns w' B 3 v ys := by
  obtain ⟨g, m, f, e, _, hr⟩ := ownT_row ht
  rw [e] at hg
  exact own_apart h hr (by decide) hg
/-- what lies behind a list's block stays when the list grows -/
theorem grow_cell {w0 w w' : World} {lo : Nat} {u : Value} {P : List Tri} {g k : Nat} {x : Value} (h : OwnT w0 lo u P) (hg : w0.heap.size ≤ g) (hl : g < w.heap.size) (hgr : w.grownBy w' u.ownBlock) (hc : w.cell? ⟨g, k, none⟩ = some x) : w'.cell? ⟨g, k, none⟩ = some x := by
  obtain ⟨r, m, f, e, _, hr⟩ := ownT_row h
  rw [e] at hgr
  exact (World.cell?_of_block (w := w) (hgr.block g hl (fun e2 => by injection e2 with e2; have := hr.lt; omega))).trans hc
/-- a row of another kind stays where a list of triples grows -/
theorem row_stay {w w' : World} {a m lo : Nat} {t : TypeId} {f : Nat → Value} {u : Value} {P : List Tri} (h : w.rowIs a t m f) (hne : t ≠ 76) (ho : OwnT w lo u P) (hg : w.grownBy w' u.ownBlock) : w'.rowIs a t m f := by
  obtain ⟨r, k, g, e, _, hr⟩ := ownT_row ho
  rw [e] at hg
  refine h.of_block (hg.block a h.lt (fun e2 => ?_))
  injection e2 with e2
  subst e2
  exact hne (rowIs_uniq h hr).1
theorem ownT_set {w : World} {lo : Nat} {v u : Value} {ts : List Tri} {a : Addr} (h : OwnT w lo v ts) (ha : a.block < lo) : OwnT (w.setCell a u) lo v ts := by
  obtain ⟨⟨a1, a2⟩, a3⟩ := h
  refine ⟨⟨a1, ?_⟩, a3⟩
  rcases a2 with ⟨e, _⟩ | ⟨g, cap, cur, e, hbb, hh, rr⟩
  · exact absurd e a3
  · exact .inr ⟨g, cap, cur, e, hbb, (Below.heap_setCell _ _ _ _ (by omega)).trans hh, rr⟩
theorem owns_set {w : World} {lo : Nat} {t : TypeId} {v u : Value} {ys : List Value} {a : Addr} (h : Owns w lo t v ys) (ha : a.block < lo) : Owns (w.setCell a u) lo t v ys := by
  obtain ⟨⟨a1, a2⟩, a3⟩ := h
  refine ⟨⟨a1, ?_⟩, a3⟩
  rcases a2 with ⟨e, _⟩ | ⟨g, cap, cur, e, hbb, hh, rr⟩
  · exact absurd e a3
  · exact .inr ⟨g, cap, cur, e, hbb, (Below.heap_setCell _ _ _ _ (by omega)).trans hh, rr⟩
def swQ (n : Nat) (ts : List Tri) (z : Int) (gs : List Int) : Bool := goodB n ts && (inb z 0 ((n : Int) - 1) && (golB n gs && decide (0 ≤ (faL n ts gs).getD z.toNat 0)))
def swA (n : Nat) (ts : List Tri) (z : Int) (gs : List Int) : List Tri := if swQ n ts z gs = true then wayF ts (faL n ts gs) ((faL n ts gs).getD z.toNat 0).toNat z else []
theorem sw_no {n : Nat} {ts : List Tri} {z : Int} {gs : List Int} (h : swQ n ts z gs = false) : swA n ts z gs = [] := by unfold swA; rw [h]; rfl
theorem sw_yes {n : Nat} {ts : List Tri} {z : Int} {gs : List Int} (h : swQ n ts z gs = true) : swA n ts z gs = wayF ts (faL n ts gs) ((faL n ts gs).getD z.toNat 0).toNat z := by unfold swA; rw [if_pos h]
theorem good_ends {n : Nat} {ts : List Tri} (h : goodB n ts = true) : ∀ t ∈ ts, (0 ≤ t.1 ∧ t.1 < (n : Int)) ∧ 0 ≤ t.2.2 ∧ t.2.2 < (n : Int) := fun t ht => ⟨⟨(goodB_mem h ht).1, (goodB_mem h ht).2.1⟩, (goodB_mem h ht).2.2.2.2.1, (goodB_mem h ht).2.2.2.2.2⟩
theorem swA_len {n : Nat} {ts : List Tri} {z : Int} {gs : List Int} : (swA n ts z gs).length ≤ n := by
  unfold swA
  split
  · rename_i h
    unfold swQ at h
    simp only [Bool.and_eq_true] at h
    obtain ⟨h1, h2, h3, h4⟩ := h
    obtain ⟨a, b, c⟩ := fal_wit (gs := gs) (good_ends h1)
    refine Nat.le_trans (way_len _ _ _ _) ?_
    have hz := in_to h2
    have hl : z.toNat < (faL n ts gs).length := by rw [a.len]; omega
    have hg : (faL n ts gs)[z.toNat]? = some ((faL n ts gs).getD z.toNat 0) := by
      rw [List.getD_eq_getElem?_getD, List.getElem?_eq_getElem hl]; rfl
    have := c _ _ hg
    omega
  · simp
end Go.Proofs.Ytlpgldejmdiceaa.fsp
