/- Rnm Rn in one. -/
import Derived.Test.YtmcdbhlpmlcjpaaQe
import Derived.Test.YtmcdbhlpmlcjpaaQf
import Derived.Test.YtmcdbhlpmlcjpaaQd
import Derived.Handy
set_option linter.unusedSimpArgs false
section
namespace Go.Proofs.Ytmcdbhlpmlcjpaa.rnm
open kit bg sg opn strs only hb sig isig un over gn nm inn ht gd im pt marks eqs hc hi hw hn rs br bm bw cf lf ib isa lawb lw cl rt chd pts psp idl has pm sb wb mb rl ed rnp lep tp
open Go.RowKit
set_option linter.unusedVariables false
def zc (x : Nat) : Value := if x % 3 = 2 then .slice none 0 0 else .int .i64 0
def mpOf (ns : List Nd) (ts : List Int) (i : Nat) : Value := match ns[i]? with
  | some x => .int .i64 (mvP ts x.parent)
  | none => undef
theorem mpOf_at {ns : List Nd} {ts : List Int} {i : Nat} {x : Nd} (h : ns[i]? = some x) : mpOf ns ts i = .int .i64 (mvP ts x.parent) := by unfold mpOf; rw [h]
/-- the cells of the nodes behind k rounds -/
def nrv (b : Big) (ts : List Int) (LA : Nat → Option Addr) (LC : Nat → Nat) (k x : Nat) : Value :=
  if ts.idxOf ((x / 3 : Nat) : Int) < k then (if x % 3 = 0 then ctOf b.nodes (ts.idxOf ((x / 3 : Nat) : Int)) else if x % 3 = 1 then mpOf b.nodes ts (ts.idxOf ((x / 3 : Nat) : Int)) else .slice (LA (ts.idxOf ((x / 3 : Nat) : Int))) (lnOf b.nodes (ts.idxOf ((x / 3 : Nat) : Int))) (LC (ts.idxOf ((x / 3 : Nat) : Int)))) else zc x
structure RnMid (lo : Nat) (wr : World) (b : Big) (ts es : List Int) (n1 g1 k : Nat) (LA : Nat → Option Addr) (LC : Nat → Nat) : Prop where
  r1 : wr.rowIs g1 86 (n1 * 3) (nrv b ts LA LC k)
  lnk : ∀ i, i < k → RowR wr lo wr.heap.size 3 1 (LA i) (lnOf b.nodes i) (LC i) (iat ((linksOf b.nodes i).map (tieF b.edges es)))
  ne : ∀ i j, i < j → j < k → LA j ≠ none → LA i ≠ LA j
section
variable {lo : Nat} {wr wr' : World} {b : Big} {ts es : List Int} {n1 g1 k : Nat} {LA : Nat → Option Addr} {LC : Nat → Nat}
theorem RnMid.zero (h : wr.rowIs g1 86 (n1 * 3) zc) : RnMid lo wr b ts es n1 g1 0 LA LC :=
  ⟨h.congr (fun x _ => by unfold nrv; rw [if_neg (Nat.not_lt_zero _)]), fun i hi => absurd hi (Nat.not_lt_zero i), fun i j _ hj => absurd hj (Nat.not_lt_zero j)⟩
theorem RnMid.on (h : RnMid lo wr b ts es n1 g1 k LA LC) (hb : Below wr.heap.size wr wr') : RnMid lo wr' b ts es n1 g1 k LA LC :=
  ⟨h.r1.of_block (hb.block _ h.r1.lt), fun i hi => rowR_here ((h.lnk i hi).on hb), h.ne⟩
/-- a box is written -/
theorem RnMid.box {β o : Nat} {u : Value} {g : Nat → Value} (h : RnMid lo wr b ts es n1 g1 k LA LC) (hb : wr.rowIs β 28 6 g) : RnMid lo (wr.setCell ⟨β, o, none⟩ u) b ts es n1 g1 k LA LC :=
  ⟨h.r1.setOther (a := ⟨β, o, none⟩) (fun e => by subst e; exact absurd (rowIs_uniq h.r1 hb).1 (by decide)) u, fun i hi => rowR_here (row_other_set (h.lnk i hi) hb (by decide)), h.ne⟩
/-- a node is put in its place -/
theorem RnMid.next {x : Nd} {t : Int} {A : Option Addr} {c len : Nat} (h : RnMid lo wr b ts es n1 g1 k LA LC) (hT : EachP ts b.nodes.length) (hx : b.nodes[k]? = some x) (ht : ts[k]? = some t) (hn : b.nodes.length = n1) (hlen : len = x.links.length)
    (hA : RowR wr lo wr.heap.size 3 1 A len c (iat (x.links.map (tieF b.edges es)))) (hne : ∀ j, j < k → A ≠ none → LA j ≠ A) :
    RnMid lo (((wr.setCell ⟨g1, t.toNat * 3, none⟩ (.int .i64 x.control)).setCell ⟨g1, t.toNat * 3 + 1, none⟩ (.int .i64 (mvP ts x.parent))).setCell ⟨g1, t.toNat * 3 + 2, none⟩ (.slice A len c)) b ts es n1 g1 (k + 1) (fun j => if j = k then A else LA j) (fun j => if j = k then c else LC j) := by
  have hln : lnOf b.nodes k = len := by unfold lnOf; rw [linksOf_at hx, hlen]
  have hti := each_idx hT ht
  have htr := each_in hT ht
  obtain ⟨q0, -⟩ := ctOf_at hx
  have q1 := mpOf_at (ts := ts) hx
  refine ⟨(((h.r1.set (t.toNat * 3) _).set (t.toNat * 3 + 1) _).set (t.toNat * 3 + 2) _).congr (fun y hy => ?_), fun i hi => ?_, fun i j hij hj hno => ?_⟩
  · show (if y = t.toNat * 3 + 2 then _ else if y = t.toNat * 3 + 1 then _ else if y = t.toNat * 3 then _ else nrv b ts LA LC k y) = _
    by_cases hyt : y / 3 = t.toNat
    · have hL : ts.idxOf ((y / 3 : Nat) : Int) = k := by rw [hyt]; exact hti
      unfold nrv
      rw [hL, if_pos (Nat.lt_succ_self k)]
      have h3 : y = t.toNat * 3 + y % 3 := by omega
      have hm : y % 3 = 0 ∨ y % 3 = 1 ∨ y % 3 = 2 := by omega
      rcases hm with e | e | e
      · rw [e] at h3
        rw [if_neg (by omega), if_neg (by omega), if_pos (by omega), if_pos e, q0]
      · rw [e] at h3
        rw [if_neg (by omega), if_pos (by omega), if_neg (by omega), if_pos e, q1]
      · rw [e] at h3
        rw [if_pos (by omega), if_neg (by omega), if_neg (by omega)]
        show _ = Value.slice (if k = k then A else LA k) _ (if k = k then c else LC k)
        rw [if_pos rfl, if_pos rfl, hln]
    · rw [if_neg (by omega), if_neg (by omega), if_neg (by omega)]
      have hL : ts.idxOf ((y / 3 : Nat) : Int) ≠ k := fun e => by
        have hj : y / 3 < b.nodes.length := by omega
        have hg := idx_get (hT.1 (y / 3) hj)
        rw [e, ht] at hg
        injection hg with hg
        omega
      unfold nrv
      by_cases hlt : ts.idxOf ((y / 3 : Nat) : Int) < k
      · rw [if_pos hlt, if_pos (show ts.idxOf ((y / 3 : Nat) : Int) < k + 1 by omega)]
        dsimp only
        rw [if_neg hL, if_neg hL]
      · rw [if_neg hlt, if_neg (by omega)]
  · have hs : ∀ {A' : Option Addr} {n' c' : Nat} {M : Nat → Value}, RowR wr lo wr.heap.size 3 1 A' n' c' M → RowR (((wr.setCell ⟨g1, t.toNat * 3, none⟩ (.int .i64 x.control)).setCell ⟨g1, t.toNat * 3 + 1, none⟩ (.int .i64 (mvP ts x.parent))).setCell ⟨g1, t.toNat * 3 + 2, none⟩ (.slice A len c)) lo (((wr.setCell ⟨g1, t.toNat * 3, none⟩ (.int .i64 x.control)).setCell ⟨g1, t.toNat * 3 + 1, none⟩ (.int .i64 (mvP ts x.parent))).setCell ⟨g1, t.toNat * 3 + 2, none⟩ (.slice A len c)).heap.size 3 1 A' n' c' M := fun h9 => rowR_here (row_other_set (row_other_set (row_other_set h9 h.r1 (by decide)) (h.r1.set _ _) (by decide)) ((h.r1.set _ _).set _ _) (by decide))
    by_cases e : i = k
    · subst e
      rw [if_pos rfl, if_pos rfl, hln, linksOf_at hx]
      exact hs hA
    · rw [if_neg e, if_neg e]
      exact hs (h.lnk i (by omega))
  · show (if i = k then A else LA i) ≠ (if j = k then A else LA j)
    have hno : (if j = k then A else LA j) ≠ none := hno
    by_cases e : j = k
    · subst e
      rw [if_pos rfl] at hno
      rw [if_neg (by omega), if_pos rfl]
      exact hne i hij hno
    · rw [if_neg e] at hno
      rw [if_neg (by omega), if_neg e]
      exact h.ne i j hij (by omega) hno
end
theorem rn_links {b : Big} {ts es : List Int} {j : Nat} (hT : EachP ts b.nodes.length) (hj : j < b.nodes.length) : linksOf (rnB b ts es).nodes j = (linksOf b.nodes (ts.idxOf (j : Int))).map (tieF b.edges es) ∧ ctOf (rnB b ts es).nodes j = ctOf b.nodes (ts.idxOf (j : Int)) ∧ paOf (rnB b ts es).nodes j = mpOf b.nodes ts (ts.idxOf (j : Int)) := by
  have hi := each_lt hT hj
  have hx : b.nodes[ts.idxOf (j : Int)]? = some (b.nodes[ts.idxOf (j : Int)]'hi) := List.getElem?_eq_getElem _
  have hr : (rnB b ts es).nodes[j]? = some (rnN b ts es (b.nodes[ts.idxOf (j : Int)]'hi)) := by rw [rn_get hj, rnAt_of rfl hx]
  obtain ⟨c1, c2⟩ := ctOf_at hr
  rw [linksOf_at hr, linksOf_at hx, c1, c2, (ctOf_at hx).1, mpOf_at hx]
  exact ⟨rfl, rfl, rfl⟩
theorem RnMid.big {lo : Nat} {wr : World} {b : Big} {ts es : List Int} {n1 g1 n2 n4 n5 : Nat} {LA : Nat → Option Addr} {LC : Nat → Nat} {B2 B4 B5 : Option Addr} {e2 e4 e5 : Nat} (h : RnMid lo wr b ts es n1 g1 n1 LA LC) (hT : EachP ts b.nodes.length) (l1 : b.nodes.length = n1) (l2 : b.sites.length = n2) (l4 : b.outer.length = n4) (l5 : b.inner.length = n5) (hlo : lo ≤ g1)
    (h2 : RowR wr lo wr.heap.size 3 1 B2 n2 e2 (iat (b.sites.map (mvP ts)))) (h2n : ∀ i, i < n1 → LA i ≠ none → LA i ≠ B2) (h4 : RowR wr lo wr.heap.size 9 1 B4 n4 e4 (at_ b.outer)) (h5 : RowR wr lo wr.heap.size 93 2 B5 n5 e5 (wic (rnB b ts es).inner)) :
    BigR wr lo wr.heap.size (.agg #[.int .i64 b.roots, .slice (some ⟨g1, 0, none⟩) n1 n1, .slice B2 n2 e2, .int .i64 b.edges, .slice B4 n4 e4, .slice B5 n5 e5]) (rnB b ts es) := by
  subst l1 l2 l4 l5
  have k1 : (rnB b ts es).nodes.length = b.nodes.length := by simp [rnB]
  have k2 : (rnB b ts es).sites.length = b.sites.length := by simp [rnB]
  have k5 : (rnB b ts es).inner.length = b.inner.length := by simp [rnB]
  refine ⟨⟨some ⟨g1, 0, none⟩, b.nodes.length, B2, e2, B4, e4, B5, e5, fun j => LA (ts.idxOf (j : Int)), fun j => LC (ts.idxOf (j : Int))⟩, by rw [k1, k2, k5]; rfl, ?_, ⟨?_, ?_⟩, ?_, h4, ?_⟩
  · intro k hk hno
    rw [k1] at hk ⊢
    have hi := each_lt hT hk
    refine ⟨h2n _ hi hno, fun j hj hjk e => ?_⟩
    have hj2 := each_lt hT hj
    have e : LA (ts.idxOf (j : Int)) = LA (ts.idxOf (k : Int)) := e
    have hd : ts.idxOf (j : Int) ≠ ts.idxOf (k : Int) := fun e2 => by
      have g1 := idx_get (hT.1 j hj)
      have g2 := idx_get (hT.1 k hk)
      rw [e2, g2] at g1
      injection g1 with g1
      omega
    rcases Nat.lt_or_gt_of_ne hd with hl | hl
    · exact h.ne _ _ hl hi hno e
    · have hno2 : LA (ts.idxOf (j : Int)) ≠ none := by rw [e]; exact hno
      exact h.ne _ _ hl hj2 hno2 e.symm
  · rw [k1]
    refine .inr ⟨g1, _, rfl, hlo, h.r1.lt, Nat.le_refl _, h.r1, fun x hx => ?_⟩
    have hj : x / 3 < b.nodes.length := by omega
    have hi := each_lt hT hj
    obtain ⟨r1, r2, r3⟩ := rn_links (es := es) hT hj
    unfold nrv ndc
    have hln : lnOf (rnB b ts es).nodes (x / 3) = lnOf b.nodes (ts.idxOf ((x / 3 : Nat) : Int)) := by unfold lnOf; rw [r1, List.length_map]
    rw [if_pos hi, r2, r3, hln]
  · intro j hj
    rw [k1] at hj
    have hi := each_lt hT hj
    obtain ⟨r1, -, -⟩ := rn_links (es := es) hT hj
    have hln : lnOf (rnB b ts es).nodes j = lnOf b.nodes (ts.idxOf (j : Int)) := by unfold lnOf; rw [r1, List.length_map]
    rw [hln]
    dsimp only
    rw [r1]
    exact h.lnk _ hi
  · rw [k2]; exact h2
  · rw [k5]; exact h5
theorem _root_.Go.Proofs.Ytmcdbhlpmlcjpaa.cf.BoxAt.put5 {w : World} {β : Nat} {t : TypeId} {v0 v1 v2 v3 v4 v5 : Value} (h : BoxAt w β t v0 v1 v2 v3 v4 v5) (u : Value) : BoxAt (w.setCell ⟨β, 5, none⟩ u) β t v0 v1 v2 v3 v4 u := by
  have h6 : (w.setCell ⟨β, 5, none⟩ u).rowIs β t 6 _ := World.rowIs.set h 5 u
  unfold BoxAt
  refine h6.congr ?_
  intro i hi
  match i, hi with
  | 0, _ => rfl
  | 1, _ => rfl
  | 2, _ => rfl
  | 3, _ => rfl
  | 4, _ => rfl
  | 5, _ => rfl
/-- what the loops keep beside the nodes -/
structure RnS (U W1 wr : World) (b : Big) (ts es : List Int) (n1 n4 g1 β k : Nat) (B4 : Option Addr) (e4 : Nat) (LA : Nat → Option Addr) (LC : Nat → Nat) (S2 S5 : Value) : Prop where
  mid : RnMid W1.heap.size wr b ts es n1 g1 k LA LC
  box : BoxAt wr β 28 (.int .i64 b.roots) (.slice (some ⟨g1, 0, none⟩) n1 n1) S2 (.int .i64 b.edges) (.slice B4 n4 e4) S5
  r4 : RowR wr U.heap.size W1.heap.size 9 1 B4 n4 e4 (at_ b.outer)
  bel : Below U.heap.size U wr
  sz : W1.heap.size ≤ wr.heap.size
section
variable {U W1 wr wr' : World} {b : Big} {ts es : List Int} {n1 n4 g1 β k : Nat} {B4 : Option Addr} {e4 : Nat} {LA : Nat → Option Addr} {LC : Nat → Nat} {S2 S5 : Value}
theorem RnS.on (h : RnS U W1 wr b ts es n1 n4 g1 β k B4 e4 LA LC S2 S5) (hb : Below wr.heap.size wr wr') : RnS U W1 wr' b ts es n1 n4 g1 β k B4 e4 LA LC S2 S5 :=
  ⟨h.mid.on hb, h.box.on hb, h.r4.on hb, h.bel.trans (hb.mono h.bel.size), Nat.le_trans h.sz hb.size⟩
theorem RnS.next {x : Nd} {t : Int} {A : Option Addr} {c len : Nat} (h : RnS U W1 wr b ts es n1 n4 g1 β k B4 e4 LA LC S2 S5) (hT : EachP ts b.nodes.length) (hx : b.nodes[k]? = some x) (ht : ts[k]? = some t) (hn : b.nodes.length = n1) (hlen : len = x.links.length)
    (hA : RowR wr W1.heap.size wr.heap.size 3 1 A len c (iat (x.links.map (tieF b.edges es)))) (hne : ∀ j, j < k → A ≠ none → LA j ≠ A) (hβg : β ≠ g1) (hg1 : U.heap.size ≤ g1) :
    RnS U W1 (((wr.setCell ⟨g1, t.toNat * 3, none⟩ (.int .i64 x.control)).setCell ⟨g1, t.toNat * 3 + 1, none⟩ (.int .i64 (mvP ts x.parent))).setCell ⟨g1, t.toNat * 3 + 2, none⟩ (.slice A len c)) b ts es n1 n4 g1 β (k + 1) B4 e4 (fun j => if j = k then A else LA j) (fun j => if j = k then c else LC j) S2 S5 :=
  ⟨h.mid.next hT hx ht hn hlen hA hne, ((h.box.else_ hβg _).else_ hβg _).else_ hβg _, row_other_set (row_other_set (row_other_set h.r4 h.mid.r1 (by decide)) (h.mid.r1.set _ _) (by decide)) ((h.mid.r1.set _ _).set _ _) (by decide),
    ((h.bel.setCell (p := ⟨g1, t.toNat * 3, none⟩) hg1 _).setCell (p := ⟨g1, t.toNat * 3 + 1, none⟩) hg1 _).setCell (p := ⟨g1, t.toNat * 3 + 2, none⟩) hg1 _, by simp [World.setCell]; exact h.sz⟩
end
/-- all that lay is as it was, but for one box -/
structure Cb (W wr : World) (β : Nat) : Prop where
  os : wr.os = W.os
  tape : wr.tape = W.tape
  output : wr.output = W.output
  size : W.heap.size ≤ wr.heap.size
  block : ∀ g, g < W.heap.size → g ≠ β → wr.heap[g]? = W.heap[g]?
section
variable {W wr wr' : World} {β : Nat}
theorem Cb.refl (W : World) (β : Nat) : Cb W W β := ⟨rfl, rfl, rfl, Nat.le_refl _, fun _ _ _ => rfl⟩
theorem Cb.below (h : Cb W wr β) (hb : Below W.heap.size wr wr') : Cb W wr' β := ⟨hb.os.trans h.os, hb.tape.trans h.tape, hb.output.trans h.output, Nat.le_trans h.size hb.size, fun g hg hne => (hb.block g hg).trans (h.block g hg hne)⟩
theorem Cb.set (h : Cb W wr β) (o : Nat) (u : Value) : Cb W (wr.setCell ⟨β, o, none⟩ u) β := ⟨h.os, h.tape, h.output, by simpa [World.setCell] using h.size, fun g hg hne => (Below.heap_setCell _ _ _ _ hne).trans (h.block g hg hne)⟩
theorem Cb.trans {W' : World} (h : Cb W W' β) (k : Cb W' wr β) : Cb W wr β := ⟨k.os.trans h.os, k.tape.trans h.tape, k.output.trans h.output, Nat.le_trans h.size k.size, fun g hg hne => (k.block g (Nat.lt_of_lt_of_le hg h.size) hne).trans (h.block g hg hne)⟩
theorem Cb.out {U : World} (h : Cb W wr β) (hU : Below U.heap.size U W) (hβ : U.heap.size ≤ β) : Below U.heap.size U wr := ⟨h.os.trans hU.os, h.tape.trans hU.tape, h.output.trans hU.output, Nat.le_trans hU.size h.size, fun g hg => (h.block g (Nat.lt_of_lt_of_le hg hU.size) (by omega)).trans (hU.block g hg)⟩
theorem Cb.row {lo hi n c sz : Nat} {t : TypeId} {A : Option Addr} {M g : Nat → Value} (h : Cb W wr β) (hb : W.rowIs β 28 6 g) (hr : RowR W lo hi t sz A n c M) (ht : t ≠ 28) : RowR wr lo hi t sz A n c M :=
  hr.stay fun g2 f m e hg _ _ => by
    rcases hr with ⟨e0, _⟩ | ⟨g3, f3, e3, _, _, _, k4, _⟩
    · rw [blk, e0] at e; cases e
    · rw [blk, e3] at e
      injection e with e
      injection e with e
      subst e
      exact h.block _ hg.lt (fun e => by subst e; exact ht (rowIs_uniq k4 hb).1)
theorem Cb.mid {lo : Nat} {b : Big} {ts es : List Int} {n1 g1 k : Nat} {LA : Nat → Option Addr} {LC : Nat → Nat} {g : Nat → Value} (h : Cb W wr β) (hb : W.rowIs β 28 6 g) (hm : RnMid lo W b ts es n1 g1 k LA LC) : RnMid lo wr b ts es n1 g1 k LA LC :=
  ⟨hm.r1.of_block (h.block _ hm.r1.lt (fun e => by subst e; exact absurd (rowIs_uniq hm.r1 hb).1 (by decide))), fun i hi => rowR_here (h.row hb (hm.lnk i hi) (by decide)), hm.ne⟩
end
end Go.Proofs.Ytmcdbhlpmlcjpaa.rnm
end

section
namespace Go.Proofs.Ytmcdbhlpmlcjpaa.rn
open kit bg sg opn strs only hb sig isig un over gn nm inn ht gd im pt marks eqs hc hi hw hn rs br bm bw cf lf ib isa lawb lw cl rt chd pts psp idl has pm sb wb mb rl ed rnp lep rnm tp
open Go.RowKit
set_option linter.unusedVariables false
theorem six_at {w : World} {g : Nat} {t : TypeId} {a b c d e f : Value} (h : w.heap[g]? = some (.cells #[a, b, c, d, e, f] t)) : BoxAt w g t a b c d e f :=
  ⟨_, h, rfl, fun i hi => by
    match i, hi with
    | 0, _ => rfl
    | 1, _ => rfl
    | 2, _ => rfl
    | 3, _ => rfl
    | 4, _ => rfl
    | 5, _ => rfl⟩
theorem zc_at {w : World} {g n : Nat} {t : TypeId} (h : w.heap[g]? = some (.cells (madeCells #[.int .i64 0, .int .i64 0, .slice none 0 0] (n * 3)) t)) : w.rowIs g t (n * 3) zc :=
  ⟨_, h, size_madeCells _ _, fun i hi => by
    have h3 : i % 3 = 0 ∨ i % 3 = 1 ∨ i % 3 = 2 := by omega
    rcases h3 with e | e | e <;> simp [madeCells, hi, e, zc]⟩
theorem nil_at {w : World} {g B : Nat} {t : TypeId} {sz : Nat} (h : w.heap[g]? = some (.cells #[] t)) (hB : B ≤ g) : w.ownsRow B t sz (.slice (some ⟨g, 0, none⟩) 0 0) 0 [] := by
  exact ⟨by simp, .inr ⟨g, 0, #[], rfl, hB, h, Nat.le_refl _, Nat.zero_le _, by simp, by simp⟩⟩
theorem run_make3 (W : World) (n : Nat) (hn : n ≤ 1048576) : (Instr.makeSlice 24 (.int .i64 (n : Int)) (.int .i64 (n : Int))).run Try.prog W = .ok (.slice (some ⟨W.heap.size, 0, none⟩) n n) (W.alloc (.cells (madeCells #[.int .i64 0, .int .i64 0, .slice none 0 0] (n * 3)) 86)) := by
  obtain ⟨i0, hi, hz0, hz1, hz2⟩ := info_parts node_info
  have hr := run_make (P := Try.prog) W 24 86 i0 _ Try.underlying24 hi hz0 .i64 .i64 n n (by omega) (Int.le_refl _) (by rw [hz2]; omega) (by omega)
  simp only [Int.toNat_natCast, hz1] at hr
  exact hr

theorem at_new {w : World} {o : Obj} {k : Nat} (h : k = w.heap.size) : (w.alloc o).heap[k]? = some o := by subst h; exact World.alloc_heap_new w o
theorem at_old {w : World} {o x : Obj} {k : Nat} (h : k < w.heap.size) (hx : w.heap[k]? = some x) : (w.alloc o).heap[k]? = some x := (Below.heap_alloc w o k h).trans hx
theorem at_drew {w : World} {x : Obj} {k : Nat} (hx : w.heap[k]? = some x) : w.drew.heap[k]? = some x := hx
theorem boxEarly {X Y : World} {row : Option Nat} {g : Nat} {G : Prop} (hg : X.grownBy Y row) (h : X.heap[g]? = some (.cells #[.int .i64 0, .slice none 0 0, .slice none 0 0, .int .i64 0, .slice none 0 0, .slice none 0 0] 28)) (hl : g < X.heap.size) (hne : some g ≠ row) (k : Y.rowIs g 28 6 (six (.int .i64 0) (.slice none 0 0) (.slice none 0 0) (.int .i64 0) (.slice none 0 0) (.slice none 0 0)) → G) : G := k (World.rowIs.of_block (six_at h) (hg.block g hl hne))
theorem rowEarly {X Y : World} {row : Option Nat} {g n : Nat} {G : Prop} (hg : X.grownBy Y row) (h : X.heap[g]? = some (.cells (madeCells #[.int .i64 0, .int .i64 0, .slice none 0 0] (n * 3)) 86)) (hl : g < X.heap.size) (hne : some g ≠ row) (k : Y.rowIs g 86 (n * 3) zc → G) : G := k (World.rowIs.of_block (zc_at h) (hg.block g hl hne))
theorem zero_at {w : World} {g : Nat} (h : w.heap[g]? = some (.cells #[.int .i64 0, .slice none 0 0, .slice none 0 0, .int .i64 0, .slice none 0 0, .slice none 0 0] 28)) : BoxAt w g 28 (.int .i64 0) (.slice none 0 0) (.slice none 0 0) (.int .i64 0) (.slice none 0 0) (.slice none 0 0) := six_at h
/-- the result's box, its row of nodes and its outer names -/
def MadeN (U : World) (b : Big) (n1 n4 : Nat) (s7 : Value) (wx : World) : Prop :=
  ∃ β g1 A4 c4, s7 = .pointer (some ⟨β, 0, none⟩) ∧ U.heap.size ≤ β ∧ U.heap.size ≤ g1 ∧ BoxAt wx β 28 (.int .i64 b.roots) (.slice (some ⟨g1, 0, none⟩) n1 n1) (.slice none 0 0) (.int .i64 b.edges) (.slice A4 n4 c4) (.slice none 0 0) ∧ wx.rowIs g1 86 (n1 * 3) zc ∧ RowR wx U.heap.size wx.heap.size 9 1 A4 n4 c4 (at_ b.outer) ∧ Below U.heap.size U wx
theorem madeN_sets {U X : World} {b : Big} {n1 n4 β g1 c4 : Nat} {g : Nat → Value} {A4 : Option Addr} (h : X.rowIs β 28 6 g) (hβ : U.heap.size ≤ β) (hm : X.rowIs g1 86 (n1 * 3) zc) (hg1 : U.heap.size ≤ g1) (r4 : RowR X U.heap.size X.heap.size 9 1 A4 n4 c4 (at_ b.outer)) (hk : Below U.heap.size U X) :
    MadeN U b n1 n4 (.pointer (some ⟨β, 0, none⟩)) ((((((X.setCell ⟨β, 0, none⟩ (.int .i64 b.roots)).setCell ⟨β, 1, none⟩ (.slice (some ⟨g1, 0, none⟩) n1 n1)).setCell ⟨β, 2, none⟩ (.slice none 0 0)).setCell ⟨β, 3, none⟩ (.int .i64 b.edges)).setCell ⟨β, 4, none⟩ (.slice A4 n4 c4)).setCell ⟨β, 5, none⟩ (.slice none 0 0)) :=
  show MadeN U b n1 n4 _ (sets6 X β (.int .i64 b.roots) (.slice (some ⟨g1, 0, none⟩) n1 n1) (.slice none 0 0) (.int .i64 b.edges) (.slice A4 n4 c4) (.slice none 0 0)) from
  ⟨β, g1, A4, c4, rfl, hβ, hg1, sets6_box h _ _ _ _ _ _, hm.of_block (sets6_block _ _ _ _ _ _ (fun e => by subst e; exact absurd (rowIs_uniq hm h).1 (by decide))), by rw [sets6_size]; exact row_sets6 h r4 (by decide) _ _ _ _ _ _, sets6_below hk hβ _ _ _ _ _ _⟩
theorem madeN_late {U X : World} {b : Big} {n1 n4 g1 c4 : Nat} {A4 : Option Addr} (hm : X.rowIs g1 86 (n1 * 3) zc) (hg1 : U.heap.size ≤ g1) (r4 : RowR X U.heap.size X.heap.size 9 1 A4 n4 c4 (at_ b.outer)) (hk : Below U.heap.size U X) :
    MadeN U b n1 n4 (.pointer (some ⟨X.heap.size, 0, none⟩)) (X.alloc (.cells #[.int .i64 b.roots, .slice (some ⟨g1, 0, none⟩) n1 n1, .slice none 0 0, .int .i64 b.edges, .slice A4 n4 c4, .slice none 0 0] 28)) := by
  have hX := (Below.refl X.heap.size X).alloc (Nat.le_refl _) (.cells #[.int .i64 b.roots, .slice (some ⟨g1, 0, none⟩) n1 n1, .slice none 0 0, .int .i64 b.edges, .slice A4 n4 c4, .slice none 0 0] 28)
  exact ⟨X.heap.size, g1, A4, c4, rfl, hk.size, hg1, six_new X _ _ _ _ _ _ _, hm.of_block (hX.block _ hm.lt), rowR_here (r4.on hX), hk.alloc hk.size _⟩

theorem made_new (X : World) (n1 : Nat) : (X.alloc (.cells (madeCells #[.int .i64 0, .int .i64 0, .slice none 0 0] (n1 * 3)) 86)).rowIs X.heap.size 86 (n1 * 3) zc := zc_at (n := n1) (t := 86) (World.alloc_heap_new X (.cells (madeCells #[.int .i64 0, .int .i64 0, .slice none 0 0] (n1 * 3)) 86))
theorem madeN_sets2 {U X : World} {b : Big} {n1 n4 β c4 : Nat} {g : Nat → Value} {A4 : Option Addr} (h : X.rowIs β 28 6 g) (hβ : U.heap.size ≤ β) (r4 : RowR X U.heap.size X.heap.size 9 1 A4 n4 c4 (at_ b.outer)) (hk : Below U.heap.size U X) :
    MadeN U b n1 n4 (.pointer (some ⟨β, 0, none⟩)) (((((((X.alloc (.cells (madeCells #[.int .i64 0, .int .i64 0, .slice none 0 0] (n1 * 3)) 86)).setCell ⟨β, 0, none⟩ (.int .i64 b.roots)).setCell ⟨β, 1, none⟩ (.slice (some ⟨X.heap.size, 0, none⟩) n1 n1)).setCell ⟨β, 2, none⟩ (.slice none 0 0)).setCell ⟨β, 3, none⟩ (.int .i64 b.edges)).setCell ⟨β, 4, none⟩ (.slice A4 n4 c4)).setCell ⟨β, 5, none⟩ (.slice none 0 0)) := by
  have hX := (Below.refl X.heap.size X).alloc (Nat.le_refl _) (.cells (madeCells #[.int .i64 0, .int .i64 0, .slice none 0 0] (n1 * 3)) 86)
  exact madeN_sets (World.rowIs.of_block h (hX.block _ h.lt)) hβ (made_new X n1) hk.size (rowR_here (r4.on hX)) (hk.alloc hk.size _)
theorem madeN_late1 {U X : World} {b : Big} {n1 n4 c4 : Nat} {A4 : Option Addr} (r4 : RowR X U.heap.size X.heap.size 9 1 A4 n4 c4 (at_ b.outer)) (hk : Below U.heap.size U X) :
    MadeN U b n1 n4 (.pointer (some ⟨X.heap.size + 1, 0, none⟩)) ((X.alloc (.cells (madeCells #[.int .i64 0, .int .i64 0, .slice none 0 0] (n1 * 3)) 86)).alloc (.cells #[.int .i64 b.roots, .slice (some ⟨X.heap.size, 0, none⟩) n1 n1, .slice none 0 0, .int .i64 b.edges, .slice A4 n4 c4, .slice none 0 0] 28)) := by
  have hX := (Below.refl X.heap.size X).alloc (Nat.le_refl _) (.cells (madeCells #[.int .i64 0, .int .i64 0, .slice none 0 0] (n1 * 3)) 86)
  have h := madeN_late (made_new X n1) hk.size (rowR_here (r4.on hX)) (hk.alloc hk.size (.cells (madeCells #[.int .i64 0, .int .i64 0, .slice none 0 0] (n1 * 3)) 86))
  rw [World.size_alloc] at h
  exact h
theorem madeN_late2 {U X : World} {b : Big} {n1 n4 c4 : Nat} {A4 : Option Addr} (r4 : RowR X U.heap.size X.heap.size 9 1 A4 n4 c4 (at_ b.outer)) (hk : Below U.heap.size U X) :
    MadeN U b n1 n4 (.pointer (some ⟨X.heap.size, 0, none⟩)) ((X.alloc (.cells #[.int .i64 b.roots, .slice (some ⟨X.heap.size + 1, 0, none⟩) n1 n1, .slice none 0 0, .int .i64 b.edges, .slice A4 n4 c4, .slice none 0 0] 28)).alloc (.cells (madeCells #[.int .i64 0, .int .i64 0, .slice none 0 0] (n1 * 3)) 86)) := by
  have hX := (Below.refl X.heap.size X).alloc (Nat.le_refl _) (.cells #[.int .i64 b.roots, .slice (some ⟨X.heap.size + 1, 0, none⟩) n1 n1, .slice none 0 0, .int .i64 b.edges, .slice A4 n4 c4, .slice none 0 0] 28)
  obtain ⟨Y, hY⟩ : ∃ Y, X.alloc (.cells #[.int .i64 b.roots, .slice (some ⟨X.heap.size + 1, 0, none⟩) n1 n1, .slice none 0 0, .int .i64 b.edges, .slice A4 n4 c4, .slice none 0 0] 28) = Y := ⟨_, rfl⟩
  have hb : Y.rowIs X.heap.size 28 6 _ := hY ▸ six_new X (.int .i64 b.roots) (.slice (some ⟨X.heap.size + 1, 0, none⟩) n1 n1) (.slice none 0 0) (.int .i64 b.edges) (.slice A4 n4 c4) (.slice none 0 0) 28
  have hYs : Y.heap.size = X.heap.size + 1 := by rw [← hY]; exact World.size_alloc ..
  have hk2 := hk.alloc hk.size (.cells #[.int .i64 b.roots, .slice (some ⟨X.heap.size + 1, 0, none⟩) n1 n1, .slice none 0 0, .int .i64 b.edges, .slice A4 n4 c4, .slice none 0 0] 28)
  rw [hY] at hX hk2 ⊢
  have hZ := (Below.refl Y.heap.size Y).alloc (Nat.le_refl _) (.cells (madeCells #[.int .i64 0, .int .i64 0, .slice none 0 0] (n1 * 3)) 86)
  have hm := made_new Y n1
  rw [hYs] at hm
  exact ⟨X.heap.size, X.heap.size + 1, A4, c4, rfl, hk.size, by have := hk.size; omega, World.rowIs.of_block hb (hZ.block _ hb.lt), hm, rowR_here ((rowR_here (r4.on hX)).on hZ), hk2.alloc hk2.size _⟩
theorem owned_strs2 {w : World} {lo n c : Nat} {A : Option Addr} {ss : List ByteArray} (h : w.ownsRow lo 9 1 (.slice A n c) n (ss.map Value.string)) (hl : ss.length = n) : RowR w lo w.heap.size 9 1 A n c (at_ ss) := by
  obtain ⟨A', c', hv, hr⟩ := strs_owned h
  injection hv with h1 h2 h3
  subst h1 h3
  rw [hl] at hr
  exact hr

theorem cells_two_new (w : World) (a b : Value) (t : TypeId) : ∀ (j : Nat) u, [a, b][j]? = some u → (w.alloc (.cells #[a, b] t)).cell? ((⟨w.heap.size, 0, none⟩ : Addr).add j) = some u := by
  have hr := row_new w #[a, b] t 2 rfl
  intro j u hu
  rw [cl.add_none]
  match j, hu with
  | 0, hu =>
    simp at hu
    subst hu
    exact (hr.cell (show 0 < 2 by omega) : _)
  | 1, hu =>
    simp at hu
    subst hu
    exact (hr.cell (show 1 < 2 by omega) : _)
  | j + 2, hu => simp at hu
theorem owns_on {w w' : World} {base sz n : Nat} {e : TypeId} {v : Value} {xs : List Value} (h : w.ownsRow base e sz v n xs) (hb : Below w.heap.size w w') : w'.ownsRow base e sz v n xs := by
  obtain ⟨h1, h2⟩ := h
  refine ⟨h1, h2.imp id ?_⟩
  rintro ⟨g, cap, cur, e1, hbb, hh, r⟩
  exact ⟨g, cap, cur, e1, hbb, (hb.block g (Array.getElem?_eq_some_iff.1 hh).1).trans hh, r⟩
end Go.Proofs.Ytmcdbhlpmlcjpaa.rn
end
