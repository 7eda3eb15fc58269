/- Rnm Rn in one. -/
import Derived.Test.YtlpgldejmdiceabGreatQe
import Derived.Test.YtlpgldejmdiceabGreatQf
import Derived.Test.YtlpgldejmdiceabGreatQd
import Derived.Handy
set_option linter.unusedSimpArgs false
section
namespace Go.Proofs.YtlpgldejmdiceabGreat.rnm
open kit bg sg opn strs only hb sig isig un over gn nm inn ht gd im pt marks eqs hc hi hw hn rs br bm bw cf lf ib isa lawb lw cl rt chd pts psp idl has pm sb wb mb rl ed rnp lep tp
open Go.RowKit
set_option linter.unusedVariables false
def zc (x : Nat) : Value := if x % 3 = 2 then .slice none 0 0 else .int .i64 0
def mpOf (ns : List Nd) (ts : List Int) (i : Nat) : Value := match ns[i]? with
  | some x => .int .i64 (mvP ts x.parent)
  | none => undef
theorem mpOf_at {ns : List Nd} {ts : List Int} {i : Nat} {x : Nd} (h : ns[i]? = some x) : mpOf ns ts i = .int .i64 (mvP ts x.parent) := by unfold mpOf; rw [h]
/-- the cells of the nodes behind k rounds -/
def nrv (b : Big) (ts : List Int) (LA : Nat → Option Addr) (LC : Nat → Nat) (k x : Nat) : Value :=
  if ts.idxOf ((x / 3 : Nat) : Int) < k then (if x % 3 = 0 then ctOf b.nodes (ts.idxOf ((x / 3 : Nat) : Int)) else if x % 3 = 1 then mpOf b.nodes ts (ts.idxOf ((x / 3 : Nat) : Int)) else .slice (LA (ts.idxOf ((x / 3 : Nat) : Int))) (lnOf b.nodes (ts.idxOf ((x / 3 : Nat) : Int))) (LC (ts.idxOf ((x / 3 : Nat) : Int)))) else zc x
structure RnMid (lo : Nat) (wr : World) (b : Big) (ts es : List Int) (n1 g1 k : Nat) (LA : Nat → Option Addr) (LC : Nat → Nat) : Prop where
  r1 : wr.rowIs g1 96 (n1 * 3) (nrv b ts LA LC k)
  lnk : ∀ i, i < k → RowR wr lo wr.heap.size 3 1 (LA i) (lnOf b.nodes i) (LC i) (iat ((linksOf b.nodes i).map (tieF b.edges es)))
  ne : ∀ i j, i < j → j < k → LA j ≠ none → LA i ≠ LA j
section
variable {lo : Nat} {wr wr' : World} {b : Big} {ts es : List Int} {n1 g1 k : Nat} {LA : Nat → Option Addr} {LC : Nat → Nat}
theorem RnMid.zero (h : wr.rowIs g1 96 (n1 * 3) zc) : RnMid lo wr b ts es n1 g1 0 LA LC :=
  ⟨h.congr (fun x _ => by unfold nrv; rw [if_neg (Nat.not_lt_zero _)]), fun i hi => absurd hi (Nat.not_lt_zero i), fun i j _ hj => absurd hj (Nat.not_lt_zero j)⟩
theorem RnMid.on (h : RnMid lo wr b ts es n1 g1 k LA LC) (hb : Below wr.heap.size wr wr') : RnMid lo wr' b ts es n1 g1 k LA LC :=
  ⟨h.r1.of_block (hb.block _ h.r1.lt), fun i hi => rowR_here ((h.lnk i hi).on hb), h.ne⟩
/-- a box is written -/
theorem RnMid.box {β o : Nat} {u : Value} {g : Nat → Value} (h : RnMid lo wr b ts es n1 g1 k LA LC) (hb : wr.rowIs β 31 6 g) : RnMid lo (wr.setCell ⟨β, o, none⟩ u) b ts es n1 g1 k LA LC :=
  ⟨h.r1.setOther (a := ⟨β, o, none⟩) (fun e => by subst e; exact absurd (rowIs_uniq h.r1 hb).1 (by decide)) u, fun i hi => rowR_here (row_other_set (h.lnk i hi) hb (by decide)), h.ne⟩
/-- a node is put in its place -/
theorem RnMid.next {x : Nd} {t : Int} {A : Option Addr} {c len : Nat} (h : RnMid lo wr b ts es n1 g1 k LA LC) (hT : EachP ts b.nodes.length) (hx : b.nodes[k]? = some x) (ht : ts[k]? = some t) (hn : b.nodes.length = n1) (hlen : len = x.links.length)
    (hA : RowR wr lo wr.heap.size 3 1 A len c (iat (x.links.map (tieF b.edges es)))) (hne : ∀ j, j < k → A ≠ none → LA j ≠ A) :
    RnMid lo (((wr.setCell ⟨g1, t.toNat * 3, none⟩ (.int .i64 x.control)).setCell ⟨g1, t.toNat * 3 + 1, none⟩ (.int .i64 (mvP ts x.parent))).setCell ⟨g1, t.toNat * 3 + 2, none⟩ (.slice A len c)) b ts es n1 g1 (k + 1) (fun j => if j = k then A else LA j) (fun j => if j = k then c else LC j) := by
  have hln : lnOf b.nodes k = len := by unfold lnOf; rw [linksOf_at hx, hlen]
  have hti := each_idx hT ht
  have htr := each_in hT ht
  obtain ⟨q0, -⟩ := ctOf_at hx
  have q1 := mpOf_at (ts := ts) hx
  refine ⟨(((h.r1.set (t.toNat * 3) _).set (t.toNat * 3 + 1) _).set (t.toNat * 3 + 2) _).congr (fun y hy => ?_), fun i hi => ?_, fun i j hij hj hno => ?_⟩
  · show (if y = t.toNat * 3 + 2 then _ else if y = t.toNat * 3 + 1 then _ else if y = t.toNat * 3 then _ else nrv b ts LA LC k y) = _
    by_cases hyt : y / 3 = t.toNat
    · have hL : ts.idxOf ((y / 3 : Nat) : Int) = k := by rw [hyt]; exact hti
      unfold nrv
      rw [hL, if_pos (Nat.lt_succ_self k)]
      have h3 : y = t.toNat * 3 + y % 3 := by omega
      have hm : y % 3 = 0 ∨ y % 3 = 1 ∨ y % 3 = 2 := by omega
      rcases hm with e | e | e
      · rw [e] at h3
        rw [if_neg (by omega), if_neg (by omega), if_pos (by omega), if_pos e, q0]
      · rw [e] at h3
        rw [if_neg (by omega), if_pos (by omega), if_neg (by omega), if_pos e, q1]
      · rw [e] at h3
        rw [if_pos (by omega), if_neg (by omega), if_neg (by omega)]
        show _ = Value.slice (if k = k then A else LA k) _ (if k = k then c else LC k)
        rw [if_pos rfl, if_pos rfl, hln]
    · rw [if_neg (by omega), if_neg (by omega), if_neg (by omega)]
      have hL : ts.idxOf ((y / 3 : Nat) : Int) ≠ k := fun e => by
        have hj : y / 3 < b.nodes.length := by omega
        have hg := idx_get (hT.1 (y / 3) hj)
        rw [e, ht] at hg
        injection hg with hg
        omega
      unfold nrv
      by_cases hlt : ts.idxOf ((y / 3 : Nat) : Int) < k
      · rw [if_pos hlt, if_pos (show ts.idxOf ((y / 3 : Nat) : Int) < k + 1 by omega)]
        dsimp only
        rw [if_neg hL, if_neg hL]
      · rw [if_neg hlt, if_neg (by omega)]
  · have hs : ∀ {A' : Option Addr} {n' c' : Nat} {M : Nat → Value}, RowR wr lo wr.heap.size 3 1 A' n' c' M → RowR (((wr.setCell ⟨g1, t.toNat * 3, none⟩ (.int .i64 x.control)).setCell ⟨g1, t.toNat * 3 + 1, none⟩ (.int .i64 (mvP ts x.parent))).setCell ⟨g1, t.toNat * 3 + 2, none⟩ (.slice A len c)) lo (((wr.setCell ⟨g1, t.toNat * 3, none⟩ (.int .i64 x.control)).setCell ⟨g1, t.toNat * 3 + 1, none⟩ (.int .i64 (mvP ts x.parent))).setCell ⟨g1, t.toNat * 3 + 2, none⟩ (.slice A len c)).heap.size 3 1 A' n' c' M := fun h9 => rowR_here (row_other_set (row_other_set (row_other_set h9 h.r1 (by decide)) (h.r1.set _ _) (by decide)) ((h.r1.set _ _).set _ _) (by decide))
    by_cases e : i = k
    · subst e
      rw [if_pos rfl, if_pos rfl, hln, linksOf_at hx]
      exact hs hA
    · rw [if_neg e, if_neg e]
      exact hs (h.lnk i (by omega))
  · show (if i = k then A else LA i) ≠ (if j = k then A else LA j)
    have hno : (if j = k then A else LA j) ≠ none := hno
    by_cases e : j = k
    · subst e
      rw [if_pos rfl] at hno
      rw [if_neg (by omega), if_pos rfl]
      exact hne i hij hno
    · rw [if_neg e] at hno
      rw [if_neg (by omega), if_neg e]
      exact h.ne i j hij (by omega) hno
end
theorem rn_links {b : Big} {ts es : List Int} {j : Nat} (hT : EachP ts b.nodes.length) (hj : j < b.nodes.length) : linksOf (rnB b ts es).nodes j = (linksOf b.nodes (ts.idxOf (j : Int))).map (tieF b.edges es) ∧ ctOf (rnB b ts es).nodes j = ctOf b.nodes (ts.idxOf (j : Int)) ∧ paOf (rnB b ts es).nodes j = mpOf b.nodes ts (ts.idxOf (j : Int)) := by
  have hi := each_lt hT hj
  have hx : b.nodes[ts.idxOf (j : Int)]? = some (b.nodes[ts.idxOf (j : Int)]'hi) := List.getElem?_eq_getElem _
  have hr : (rnB b ts es).nodes[j]? = some (rnN b ts es (b.nodes[ts.idxOf (j : Int)]'hi)) := by rw [rn_get hj, rnAt_of rfl hx]
  obtain ⟨c1, c2⟩ := ctOf_at hr
  rw [linksOf_at hr, linksOf_at hx, c1, c2, (ctOf_at hx).1, mpOf_at hx]
  exact ⟨rfl, rfl, rfl⟩
theorem RnMid.big {lo : Nat} {wr : World} {b : Big} {ts es : List Int} {n1 g1 n2 n4 n5 : Nat} {LA : Nat → Option Addr} {LC : Nat → Nat} {B2 B4 B5 : Option Addr} {e2 e4 e5 : Nat} (h : RnMid lo wr b ts es n1 g1 n1 LA LC) (hT : EachP ts b.nodes.length) (l1 : b.nodes.length = n1) (l2 : b.sites.length = n2) (l4 : b.outer.length = n4) (l5 : b.inner.length = n5) (hlo : lo ≤ g1)
    (h2 : RowR wr lo wr.heap.size 3 1 B2 n2 e2 (iat (b.sites.map (mvP ts)))) (h2n : ∀ i, i < n1 → LA i ≠ none → LA i ≠ B2) (h4 : RowR wr lo wr.heap.size 9 1 B4 n4 e4 (at_ b.outer)) (h5 : RowR wr lo wr.heap.size 80 2 B5 n5 e5 (wic (rnB b ts es).inner)) :
    BigR wr lo wr.heap.size (.agg #[.int .i64 b.roots, .slice (some ⟨g1, 0, none⟩) n1 n1, .slice B2 n2 e2, .int .i64 b.edges, .slice B4 n4 e4, .slice B5 n5 e5]) (rnB b ts es) := by
  subst l1 l2 l4 l5
  have k1 : (rnB b ts es).nodes.length = b.nodes.length := by simp [rnB]
  have k2 : (rnB b ts es).sites.length = b.sites.length := by simp [rnB]
  have k5 : (rnB b ts es).inner.length = b.inner.length := by simp [rnB]
  refine ⟨⟨some ⟨g1, 0, none⟩, b.nodes.length, B2, e2, B4, e4, B5, e5, fun j => LA (ts.idxOf (j : Int)), fun j => LC (ts.idxOf (j : Int))⟩, by rw [k1, k2, k5]; rfl, ?_, ⟨?_, ?_⟩, ?_, h4, ?_⟩
  · intro k hk hno
    rw [k1] at hk ⊢
    have hi := each_lt hT hk
    refine ⟨h2n _ hi hno, fun j hj hjk e => ?_⟩
    have hj2 := each_lt hT hj
    have e : LA (ts.idxOf (j : Int)) = LA (ts.idxOf (k : Int)) := e
    have hd : ts.idxOf (j : Int) ≠ ts.idxOf (k : Int) := fun e2 => by
      have g1 := idx_get (hT.1 j hj)
      have g2 := idx_get (hT.1 k hk)
      rw [e2, g2] at g1
      injection g1 with g1
      omega
    rcases Nat.lt_or_gt_of_ne hd with hl | hl
    · exact h.ne _ _ hl hi hno e
    · have hno2 : LA (ts.idxOf (j : Int)) ≠ none := by rw [e]; exact hno
      exact h.ne _ _ hl hj2 hno2 e.symm
  · rw [k1]
    refine .inr ⟨g1, _, rfl, hlo, h.r1.lt, Nat.le_refl _, h.r1, fun x hx => ?_⟩
    have hj : x / 3 < b.nodes.length := by omega
    have hi := each_lt hT hj
    obtain ⟨r1, r2, r3⟩ := rn_links (es := es) hT hj
    unfold nrv ndc
    have hln : lnOf (rnB b ts es).nodes (x / 3) = lnOf b.nodes (ts.idxOf ((x / 3 : Nat) : Int)) := by unfold lnOf; rw [r1, List.length_map]
    rw [if_pos hi, r2, r3, hln]
  · intro j hj
    rw [k1] at hj
    have hi := each_lt hT hj
    obtain ⟨r1, -, -⟩ := rn_links (es := es) hT hj
    have hln : lnOf (rnB b ts es).nodes j = lnOf b.nodes (ts.idxOf (j : Int)) := by unfold lnOf; rw [r1, List.length_map]
    rw [hln]
    dsimp only
    rw [r1]
    exact h.lnk _ hi
  · rw [k2]; exact h2
  · rw [k5]; exact h5
theorem _root_.Go.Proofs.YtlpgldejmdiceabGreat.cf.BoxAt.put5 {w : World} {β : Nat} {t : TypeId} {v0 v1 v2 v3 v4 v5 : Value} (h : BoxAt w β t v0 v1 v2 v3 v4 v5) (u : Value) : BoxAt (w.setCell ⟨β, 5, none⟩ u) β t v0 v1 v2 v3 v4 u := by
  have h6 : (w.setCell ⟨β, 5, none⟩ u).rowIs β t 6 _ := World.rowIs.set h 5 u
  unfold BoxAt
  refine h6.congr ?_
  intro i hi
  match i, hi with
  | 0, _ => rfl
  | 1, _ => rfl
  | 2, _ => rfl
  | 3, _ => rfl
  | 4, _ => rfl
  | 5, _ => rfl
/-- what the loops keep beside the nodes -/
structure RnS (U W1 wr : World) (b : Big) (ts es : List Int) (n1 n4 g1 β k : Nat) (B4 : Option Addr) (e4 : Nat) (LA : Nat → Option Addr) (LC : Nat → Nat) (S2 S5 : Value) : Prop where
  mid : RnMid W1.heap.size wr b ts es n1 g1 k LA LC
  box : BoxAt wr β 31 (.int .i64 b.roots) (.slice (some ⟨g1, 0, none⟩) n1 n1) S2 (.int .i64 b.edges) (.slice B4 n4 e4) S5
  r4 : RowR wr U.heap.size W1.heap.size 9 1 B4 n4 e4 (at_ b.outer)
  bel : Below U.heap.size U wr
  sz : W1.heap.size ≤ wr.heap.size
section
variable {U W1 wr wr' : World} {b : Big} {ts es : List Int} {n1 n4 g1 β k : Nat} {B4 : Option Addr} {e4 : Nat} {LA : Nat → Option Addr} {LC : Nat → Nat} {S2 S5 : Value}
theorem RnS.on (h : RnS U W1 wr b ts es n1 n4 g1 β k B4 e4 LA LC S2 S5) (hb : Below wr.heap.size wr wr') : RnS U W1 wr' b ts es n1 n4 g1 β k B4 e4 LA LC S2 S5 :=
  ⟨h.mid.on hb, h.box.on hb, h.r4.on hb, h.bel.trans (hb.mono h.bel.size), Nat.le_trans h.sz hb.size⟩
theorem RnS.next {x : Nd} {t : Int} {A : Option Addr} {c len : Nat} (h : RnS U W1 wr b ts es n1 n4 g1 β k B4 e4 LA LC S2 S5) (hT : EachP ts b.nodes.length) (hx : b.nodes[k]? = some x) (ht : ts[k]? = some t) (hn : b.nodes.length = n1) (hlen : len = x.links.length)
    (hA : RowR wr W1.heap.size wr.heap.size 3 1 A len c (iat (x.links.map (tieF b.edges es)))) (hne : ∀ j, j < k → A ≠ none → LA j ≠ A) (hβg : β ≠ g1) (hg1 : U.heap.size ≤ g1) :
    RnS U W1 (((wr.setCell ⟨g1, t.toNat * 3, none⟩ (.int .i64 x.control)).setCell ⟨g1, t.toNat * 3 + 1, none⟩ (.int .i64 (mvP ts x.parent))).setCell ⟨g1, t.toNat * 3 + 2, none⟩ (.slice A len c)) b ts es n1 n4 g1 β (k + 1) B4 e4 (fun j => if j = k then A else LA j) (fun j => if j = k then c else LC j) S2 S5 :=
  ⟨h.mid.next hT hx ht hn hlen hA hne, ((h.box.else_ hβg _).else_ hβg _).else_ hβg _, row_other_set (row_other_set (row_other_set h.r4 h.mid.r1 (by decide)) (h.mid.r1.set _ _) (by decide)) ((h.mid.r1.set _ _).set _ _) (by decide),
    ((h.bel.setCell (p := ⟨g1, t.toNat * 3, none⟩) hg1 _).setCell (p := ⟨g1, t.toNat * 3 + 1, none⟩) hg1 _).setCell (p := ⟨g1, t.toNat * 3 + 2, none⟩) hg1 _, by simp [World.setCell]; exact h.sz⟩
end
/-- all that lay is as it was, but for one box -/
structure Cb (W wr : World) (β : Nat) : Prop where
  os : wr.os = W.os
  tape : wr.tape = W.tape
  output : wr.output = W.output
  size : W.heap.size ≤ wr.heap.size
  block : ∀ g, g < W.heap.size → g ≠ β → wr.heap[g]? = W.heap[g]?
section
variable {W wr wr' : World} {β : Nat}
theorem Cb.refl (W : World) (β : Nat) : Cb W W β := ⟨rfl, rfl, rfl, Nat.le_refl _, fun _ _ _ => rfl⟩
theorem Cb.below (h : Cb W wr β) (hb : Below W.heap.size wr wr') : Cb W wr' β := ⟨hb.os.trans h.os, hb.tape.trans h.tape, hb.output.trans h.output, Nat.le_trans h.size hb.size, fun g hg hne => (hb.block g hg).trans (h.block g hg hne)⟩
theorem Cb.set (h : Cb W wr β) (o : Nat) (u : Value) : Cb W (wr.setCell ⟨β, o, none⟩ u) β := ⟨h.os, h.tape, h.output, by simpa [World.setCell] using h.size, fun g hg hne => (Below.heap_setCell _ _ _ _ hne).trans (h.block g hg hne)⟩
theorem Cb.trans {W' : World} (h : Cb W W' β) (k : Cb W' wr β) : Cb W wr β := ⟨k.os.trans h.os, k.tape.trans h.tape, k.output.trans h.output, Nat.le_trans h.size k.size, fun g hg hne => (k.block g (Nat.lt_of_lt_of_le hg h.size) hne).trans (h.block g hg hne)⟩
theorem Cb.out {U : World} (h : Cb W wr β) (hU : Below U.heap.size U W) (hβ : U.heap.size ≤ β) : Below U.heap.size U wr := ⟨h.os.trans hU.os, h.tape.trans hU.tape, h.output.trans hU.output, Nat.le_trans hU.size h.size, fun g hg => (h.block g (Nat.lt_of_lt_of_le hg hU.size) (by omega)).trans (hU.block g hg)⟩
theorem Cb.row {lo hi n c sz : Nat} {t : TypeId} {A : Option Addr} {M g : Nat → Value} (h : Cb W wr β) (hb : W.rowIs β 31 6 g) (hr : RowR W lo hi t sz A n c M) (ht : t ≠ 31) : RowR wr lo hi t sz A n c M :=
  hr.stay fun g2 f m e hg _ _ => by
    rcases hr with ⟨e0, _⟩ | ⟨g3, f3, e3, _, _, _, k4, _⟩
    · rw [blk, e0] at e; cases e
    · rw [blk, e3] at e
      injection e with e
      injection e with e
      subst e
      exact h.block _ hg.lt (fun e => by subst e; exact ht (rowIs_uniq k4 hb).1)
theorem Cb.mid {lo : Nat} {b : Big} {ts es : List Int} {n1 g1 k : Nat} {LA : Nat → Option Addr} {LC : Nat → Nat} {g : Nat → Value} (h : Cb W wr β) (hb : W.rowIs β 31 6 g) (hm : RnMid lo W b ts es n1 g1 k LA LC) : RnMid lo wr b ts es n1 g1 k LA LC :=
  ⟨hm.r1.of_block (h.block _ hm.r1.lt (fun e => by subst e; exact absurd (rowIs_uniq hm.r1 hb).1 (by decide))), fun i hi => rowR_here (h.row hb (hm.lnk i hi) (by decide)), hm.ne⟩
end
end Go.Proofs.YtlpgldejmdiceabGreat.rnm
end

section
namespace Go.Proofs.YtlpgldejmdiceabGreat.rn
open kit bg sg opn strs only hb sig isig un over gn nm inn ht gd im pt marks eqs hc hi hw hn rs br bm bw cf lf ib isa lawb lw cl rt chd pts psp idl has pm sb wb mb rl ed rnp lep rnm tp
open Go.RowKit
set_option linter.unusedVariables false
theorem six_at {w : World} {g : Nat} {t : TypeId} {a b c d e f : Value} (h : w.heap[g]? = some (.cells #[a, b, c, d, e, f] t)) : BoxAt w g t a b c d e f :=
  ⟨_, h, rfl, fun i hi => by
    match i, hi with
    | 0, _ => rfl
    | 1, _ => rfl
    | 2, _ => rfl
    | 3, _ => rfl
    | 4, _ => rfl
    | 5, _ => rfl⟩
theorem zc_at {w : World} {g n : Nat} {t : TypeId} (h : w.heap[g]? = some (.cells (madeCells #[.int .i64 0, .int .i64 0, .slice none 0 0] (n * 3)) t)) : w.rowIs g t (n * 3) zc :=
  ⟨_, h, size_madeCells _ _, fun i hi => by
    have h3 : i % 3 = 0 ∨ i % 3 = 1 ∨ i % 3 = 2 := by omega
    rcases h3 with e | e | e <;> simp [madeCells, hi, e, zc]⟩
theorem nil_at {w : World} {g B : Nat} {t : TypeId} {sz : Nat} (h : w.heap[g]? = some (.cells #[] t)) (hB : B ≤ g) : w.ownsRow B t sz (.slice (some ⟨g, 0, none⟩) 0 0) 0 [] := by
  exact ⟨by simp, .inr ⟨g, 0, #[], rfl, hB, h, Nat.le_refl _, Nat.zero_le _, by simp, by simp⟩⟩
theorem run_make3 (W : World) (n : Nat) (hn : n ≤ 1048576) : (Instr.makeSlice 26 (.int .i64 (n : Int)) (.int .i64 (n : Int))).run Tryz.prog W = .ok (.slice (some ⟨W.heap.size, 0, none⟩) n n) (W.alloc (.cells (madeCells #[.int .i64 0, .int .i64 0, .slice none 0 0] (n * 3)) 96)) := by
  obtain ⟨i0, hi, hz0, hz1, hz2⟩ := info_parts node_info
  have hr := run_make (P := Tryz.prog) W 26 96 i0 _ Tryz.underlying26 hi hz0 .i64 .i64 n n (by omega) (Int.le_refl _) (by rw [hz2]; omega) (by omega)
  simp only [Int.toNat_natCast, hz1] at hr
  exact hr

set_option maxHeartbeats 800000 in
theorem move_any (At : Option Addr) (nt ct : Nat) (ts : List Int) (p : Int) (w : World) (B : Nat) (h : IntsAt w B At nt ts) (hp : p < nt) (hn : nt ≤ 1048576) (hp0 : -8 ≤ p) :
    Calls Tryz.prog 73 #[.int .i64 p, .slice At nt ct] w fun e w' => e = .returned (.int .i64 (mvP ts p)) ∧ w = w' := by
  by_cases h0 : p < 0
  · have HE := Lib.hid (mvP_neg (ts := ts) h0)
    rw [HE.out]
    go_enter Tryz.func73, Tryz.ntmps73
    go_wp2_with fail
    go_ret
    exact ⟨rfl, rfl⟩
  · obtain ⟨k, rfl⟩ : ∃ k : Nat, p = k := ⟨p.toNat, by omega⟩
    obtain ⟨b, off, z, rfl, hb, hz, cz⟩ := h.get (show k < nt by omega)
    have HE := Lib.hid (mvP_get (ts := ts) h0 (by rw [Int.toNat_natCast]; exact hz))
    rw [HE.out]
    clear hz
    go_enter Tryz.func73, Tryz.ntmps73
    go_wp2_with fail
    go_ret
    exact ⟨rfl, rfl⟩
set_option maxRecDepth 20000 in
set_option maxHeartbeats 800000 in
theorem tie_any (p0 p1 p2 p4 p5 : Value) (E : Int) (Ae : Option Addr) (ne ce : Nat) (es : List Int) (l : Int) (w : World) (B : Nat) (h : IntsAt w B Ae ne es) (hB : B ≤ w.heap.size) (hE : E = ne) (hn : ne ≤ 16) (hl : 0 ≤ l ∧ l ≤ 100) :
    Calls Tryz.prog 72 #[.agg #[p0, p1, p2, .int .i64 E, p4, p5], .int .i64 l, .slice Ae ne ce] w fun e w' => e = .returned (.int .i64 (tieF E es l)) ∧ Below w.heap.size w w' := by
  obtain ⟨hl0, hl1⟩ := hl
  subst hE
  have hb1 := (Below.refl w.heap.size w).alloc (Nat.le_refl _) (.cells #[p0, p1, p2, .int .i64 (ne : Int), p4, p5] 31)
  have HBb : Hid (BoxAt (w.alloc (.cells #[p0, p1, p2, .int .i64 (ne : Int), p4, p5] 31)) w.heap.size 31 p0 p1 p2 (.int .i64 (ne : Int)) p4 p5) := Lib.hid (six_new w _ _ _ _ _ _ _)
  obtain ⟨x0, x1, x2, x3, x4, x5⟩ := HBb.out.get
  have HB := Lib.hid hb1
  by_cases h0 : (ne : Int) ≤ l
  · have HE := Lib.hid (tieF_out (es := es) h0)
    rw [HE.out]
    clear hb1
    go_enter Tryz.func72, Tryz.ntmps72
    go_wp2_with fail
    go_ret
    exact ⟨rfl, HB.out⟩
  · obtain ⟨k, rfl⟩ : ∃ k : Nat, l = k := ⟨l.toNat, by omega⟩
    obtain ⟨b, off, z, rfl, hb, hz, cz⟩ := h.get (show k < ne by omega)
    have cz2 := (hb1.cell (p := ⟨b, off + k, none⟩) (Nat.lt_of_lt_of_le hb hB)).trans cz
    have HE := Lib.hid (tieF_get (es := es) h0 (by rw [Int.toNat_natCast]; exact hz))
    rw [HE.out]
    clear hz cz hb1
    go_enter Tryz.func72, Tryz.ntmps72
    go_wp2_with fail
    go_ret
    exact ⟨rfl, HB.out⟩

theorem at_new {w : World} {o : Obj} {k : Nat} (h : k = w.heap.size) : (w.alloc o).heap[k]? = some o := by subst h; exact World.alloc_heap_new w o
theorem at_old {w : World} {o x : Obj} {k : Nat} (h : k < w.heap.size) (hx : w.heap[k]? = some x) : (w.alloc o).heap[k]? = some x := (Below.heap_alloc w o k h).trans hx
theorem at_drew {w : World} {x : Obj} {k : Nat} (hx : w.heap[k]? = some x) : w.drew.heap[k]? = some x := hx
theorem boxEarly {X Y : World} {row : Option Nat} {g : Nat} {G : Prop} (hg : X.grownBy Y row) (h : X.heap[g]? = some (.cells #[.int .i64 0, .slice none 0 0, .slice none 0 0, .int .i64 0, .slice none 0 0, .slice none 0 0] 31)) (hl : g < X.heap.size) (hne : some g ≠ row) (k : Y.rowIs g 31 6 (six (.int .i64 0) (.slice none 0 0) (.slice none 0 0) (.int .i64 0) (.slice none 0 0) (.slice none 0 0)) → G) : G := k (World.rowIs.of_block (six_at h) (hg.block g hl hne))
theorem rowEarly {X Y : World} {row : Option Nat} {g n : Nat} {G : Prop} (hg : X.grownBy Y row) (h : X.heap[g]? = some (.cells (madeCells #[.int .i64 0, .int .i64 0, .slice none 0 0] (n * 3)) 96)) (hl : g < X.heap.size) (hne : some g ≠ row) (k : Y.rowIs g 96 (n * 3) zc → G) : G := k (World.rowIs.of_block (zc_at h) (hg.block g hl hne))
theorem zero_at {w : World} {g : Nat} (h : w.heap[g]? = some (.cells #[.int .i64 0, .slice none 0 0, .slice none 0 0, .int .i64 0, .slice none 0 0, .slice none 0 0] 31)) : BoxAt w g 31 (.int .i64 0) (.slice none 0 0) (.slice none 0 0) (.int .i64 0) (.slice none 0 0) (.slice none 0 0) := six_at h
/-- the result's box, its row of nodes and its outer names -/
def MadeN (U : World) (b : Big) (n1 n4 : Nat) (s7 : Value) (wx : World) : Prop :=
  ∃ β g1 A4 c4, s7 = .pointer (some ⟨β, 0, none⟩) ∧ U.heap.size ≤ β ∧ U.heap.size ≤ g1 ∧ BoxAt wx β 31 (.int .i64 b.roots) (.slice (some ⟨g1, 0, none⟩) n1 n1) (.slice none 0 0) (.int .i64 b.edges) (.slice A4 n4 c4) (.slice none 0 0) ∧ wx.rowIs g1 96 (n1 * 3) zc ∧ RowR wx U.heap.size wx.heap.size 9 1 A4 n4 c4 (at_ b.outer) ∧ Below U.heap.size U wx
theorem madeN_sets {U X : World} {b : Big} {n1 n4 β g1 c4 : Nat} {g : Nat → Value} {A4 : Option Addr} (h : X.rowIs β 31 6 g) (hβ : U.heap.size ≤ β) (hm : X.rowIs g1 96 (n1 * 3) zc) (hg1 : U.heap.size ≤ g1) (r4 : RowR X U.heap.size X.heap.size 9 1 A4 n4 c4 (at_ b.outer)) (hk : Below U.heap.size U X) :
    MadeN U b n1 n4 (.pointer (some ⟨β, 0, none⟩)) ((((((X.setCell ⟨β, 0, none⟩ (.int .i64 b.roots)).setCell ⟨β, 1, none⟩ (.slice (some ⟨g1, 0, none⟩) n1 n1)).setCell ⟨β, 2, none⟩ (.slice none 0 0)).setCell ⟨β, 3, none⟩ (.int .i64 b.edges)).setCell ⟨β, 4, none⟩ (.slice A4 n4 c4)).setCell ⟨β, 5, none⟩ (.slice none 0 0)) :=
  show MadeN U b n1 n4 _ (sets6 X β (.int .i64 b.roots) (.slice (some ⟨g1, 0, none⟩) n1 n1) (.slice none 0 0) (.int .i64 b.edges) (.slice A4 n4 c4) (.slice none 0 0)) from
  ⟨β, g1, A4, c4, rfl, hβ, hg1, sets6_box h _ _ _ _ _ _, hm.of_block (sets6_block _ _ _ _ _ _ (fun e => by subst e; exact absurd (rowIs_uniq hm h).1 (by decide))), by rw [sets6_size]; exact row_sets6 h r4 (by decide) _ _ _ _ _ _, sets6_below hk hβ _ _ _ _ _ _⟩
theorem madeN_late {U X : World} {b : Big} {n1 n4 g1 c4 : Nat} {A4 : Option Addr} (hm : X.rowIs g1 96 (n1 * 3) zc) (hg1 : U.heap.size ≤ g1) (r4 : RowR X U.heap.size X.heap.size 9 1 A4 n4 c4 (at_ b.outer)) (hk : Below U.heap.size U X) :
    MadeN U b n1 n4 (.pointer (some ⟨X.heap.size, 0, none⟩)) (X.alloc (.cells #[.int .i64 b.roots, .slice (some ⟨g1, 0, none⟩) n1 n1, .slice none 0 0, .int .i64 b.edges, .slice A4 n4 c4, .slice none 0 0] 31)) := by
  have hX := (Below.refl X.heap.size X).alloc (Nat.le_refl _) (.cells #[.int .i64 b.roots, .slice (some ⟨g1, 0, none⟩) n1 n1, .slice none 0 0, .int .i64 b.edges, .slice A4 n4 c4, .slice none 0 0] 31)
  exact ⟨X.heap.size, g1, A4, c4, rfl, hk.size, hg1, six_new X _ _ _ _ _ _ _, hm.of_block (hX.block _ hm.lt), rowR_here (r4.on hX), hk.alloc hk.size _⟩

theorem made_new (X : World) (n1 : Nat) : (X.alloc (.cells (madeCells #[.int .i64 0, .int .i64 0, .slice none 0 0] (n1 * 3)) 96)).rowIs X.heap.size 96 (n1 * 3) zc := zc_at (n := n1) (t := 96) (World.alloc_heap_new X (.cells (madeCells #[.int .i64 0, .int .i64 0, .slice none 0 0] (n1 * 3)) 96))
theorem madeN_sets2 {U X : World} {b : Big} {n1 n4 β c4 : Nat} {g : Nat → Value} {A4 : Option Addr} (h : X.rowIs β 31 6 g) (hβ : U.heap.size ≤ β) (r4 : RowR X U.heap.size X.heap.size 9 1 A4 n4 c4 (at_ b.outer)) (hk : Below U.heap.size U X) :
    MadeN U b n1 n4 (.pointer (some ⟨β, 0, none⟩)) (((((((X.alloc (.cells (madeCells #[.int .i64 0, .int .i64 0, .slice none 0 0] (n1 * 3)) 96)).setCell ⟨β, 0, none⟩ (.int .i64 b.roots)).setCell ⟨β, 1, none⟩ (.slice (some ⟨X.heap.size, 0, none⟩) n1 n1)).setCell ⟨β, 2, none⟩ (.slice none 0 0)).setCell ⟨β, 3, none⟩ (.int .i64 b.edges)).setCell ⟨β, 4, none⟩ (.slice A4 n4 c4)).setCell ⟨β, 5, none⟩ (.slice none 0 0)) := by
  have hX := (Below.refl X.heap.size X).alloc (Nat.le_refl _) (.cells (madeCells #[.int .i64 0, .int .i64 0, .slice none 0 0] (n1 * 3)) 96)
  exact madeN_sets (World.rowIs.of_block h (hX.block _ h.lt)) hβ (made_new X n1) hk.size (rowR_here (r4.on hX)) (hk.alloc hk.size _)
theorem madeN_late1 {U X : World} {b : Big} {n1 n4 c4 : Nat} {A4 : Option Addr} (r4 : RowR X U.heap.size X.heap.size 9 1 A4 n4 c4 (at_ b.outer)) (hk : Below U.heap.size U X) :
    MadeN U b n1 n4 (.pointer (some ⟨X.heap.size + 1, 0, none⟩)) ((X.alloc (.cells (madeCells #[.int .i64 0, .int .i64 0, .slice none 0 0] (n1 * 3)) 96)).alloc (.cells #[.int .i64 b.roots, .slice (some ⟨X.heap.size, 0, none⟩) n1 n1, .slice none 0 0, .int .i64 b.edges, .slice A4 n4 c4, .slice none 0 0] 31)) := by
  have hX := (Below.refl X.heap.size X).alloc (Nat.le_refl _) (.cells (madeCells #[.int .i64 0, .int .i64 0, .slice none 0 0] (n1 * 3)) 96)
  have h := madeN_late (made_new X n1) hk.size (rowR_here (r4.on hX)) (hk.alloc hk.size (.cells (madeCells #[.int .i64 0, .int .i64 0, .slice none 0 0] (n1 * 3)) 96))
  rw [World.size_alloc] at h
  exact h
theorem madeN_late2 {U X : World} {b : Big} {n1 n4 c4 : Nat} {A4 : Option Addr} (r4 : RowR X U.heap.size X.heap.size 9 1 A4 n4 c4 (at_ b.outer)) (hk : Below U.heap.size U X) :
    MadeN U b n1 n4 (.pointer (some ⟨X.heap.size, 0, none⟩)) ((X.alloc (.cells #[.int .i64 b.roots, .slice (some ⟨X.heap.size + 1, 0, none⟩) n1 n1, .slice none 0 0, .int .i64 b.edges, .slice A4 n4 c4, .slice none 0 0] 31)).alloc (.cells (madeCells #[.int .i64 0, .int .i64 0, .slice none 0 0] (n1 * 3)) 96)) := by
  have hX := (Below.refl X.heap.size X).alloc (Nat.le_refl _) (.cells #[.int .i64 b.roots, .slice (some ⟨X.heap.size + 1, 0, none⟩) n1 n1, .slice none 0 0, .int .i64 b.edges, .slice A4 n4 c4, .slice none 0 0] 31)
  obtain ⟨Y, hY⟩ : ∃ Y, X.alloc (.cells #[.int .i64 b.roots, .slice (some ⟨X.heap.size + 1, 0, none⟩) n1 n1, .slice none 0 0, .int .i64 b.edges, .slice A4 n4 c4, .slice none 0 0] 31) = Y := ⟨_, rfl⟩
  have hb : Y.rowIs X.heap.size 31 6 _ := hY ▸ six_new X (.int .i64 b.roots) (.slice (some ⟨X.heap.size + 1, 0, none⟩) n1 n1) (.slice none 0 0) (.int .i64 b.edges) (.slice A4 n4 c4) (.slice none 0 0) 31
  have hYs : Y.heap.size = X.heap.size + 1 := by rw [← hY]; exact World.size_alloc ..
  have hk2 := hk.alloc hk.size (.cells #[.int .i64 b.roots, .slice (some ⟨X.heap.size + 1, 0, none⟩) n1 n1, .slice none 0 0, .int .i64 b.edges, .slice A4 n4 c4, .slice none 0 0] 31)
  rw [hY] at hX hk2 ⊢
  have hZ := (Below.refl Y.heap.size Y).alloc (Nat.le_refl _) (.cells (madeCells #[.int .i64 0, .int .i64 0, .slice none 0 0] (n1 * 3)) 96)
  have hm := made_new Y n1
  rw [hYs] at hm
  exact ⟨X.heap.size, X.heap.size + 1, A4, c4, rfl, hk.size, by have := hk.size; omega, World.rowIs.of_block hb (hZ.block _ hb.lt), hm, rowR_here ((rowR_here (r4.on hX)).on hZ), hk2.alloc hk2.size _⟩
theorem owned_strs2 {w : World} {lo n c : Nat} {A : Option Addr} {ss : List ByteArray} (h : w.ownsRow lo 9 1 (.slice A n c) n (ss.map Value.string)) (hl : ss.length = n) : RowR w lo w.heap.size 9 1 A n c (at_ ss) := by
  obtain ⟨A', c', hv, hr⟩ := strs_owned h
  injection hv with h1 h2 h3
  subst h1 h3
  rw [hl] at hr
  exact hr

theorem cells_two_new (w : World) (a b : Value) (t : TypeId) : ∀ (j : Nat) u, [a, b][j]? = some u → (w.alloc (.cells #[a, b] t)).cell? ((⟨w.heap.size, 0, none⟩ : Addr).add j) = some u := by
  have hr := row_new w #[a, b] t 2 rfl
  intro j u hu
  rw [cl.add_none]
  match j, hu with
  | 0, hu =>
    simp at hu
    subst hu
    exact (hr.cell (show 0 < 2 by omega) : _)
  | 1, hu =>
    simp at hu
    subst hu
    exact (hr.cell (show 1 < 2 by omega) : _)
  | j + 2, hu => simp at hu
theorem owns_on {w w' : World} {base sz n : Nat} {e : TypeId} {v : Value} {xs : List Value} (h : w.ownsRow base e sz v n xs) (hb : Below w.heap.size w w') : w'.ownsRow base e sz v n xs := by
  obtain ⟨h1, h2⟩ := h
  refine ⟨h1, h2.imp id ?_⟩
  rintro ⟨g, cap, cur, e1, hbb, hh, r⟩
  exact ⟨g, cap, cur, e1, hbb, (hb.block g (Array.getElem?_eq_some_iff.1 hh).1).trans hh, r⟩
/-- a Bigraph that need not be valid, but has small parts -/
structure Sane (b : Big) : Prop where
  sz : (0 ≤ b.roots ∧ b.roots ≤ 8) ∧ (0 ≤ b.edges ∧ b.edges ≤ 16) ∧ b.nodes.length ≤ 16 ∧ b.sites.length ≤ 8 ∧ b.outer.length ≤ 32 ∧ b.inner.length ≤ 32
  l3 : ∀ x ∈ b.nodes, x.links.length ≤ 3
  gs : abv.Up b.nodes ∧ tp.Dn b.nodes b.roots ∧ (∀ (i : Nat) z, b.sites[i]? = some z → -b.roots ≤ z ∧ z < b.nodes.length) ∧ 0 ≤ b.roots ∧ b.roots ≤ 8 ∧ b.nodes.length ≤ 16 ∧ b.sites.length ≤ 8
  bl : ∀ x ∈ b.nodes, ∀ l ∈ x.links, 0 ≤ l ∧ l ≤ 100
  bw : ∀ x ∈ b.inner, 0 ≤ x.link ∧ x.link ≤ 100
theorem sane_of {cs : List Ctl} {b : Big} (h : bigB cs b = true) : Sane b := by
  have hz := sizes_of (big_of h).2.1
  have hg := good_sites h
  exact ⟨by omega, links3 h, ⟨hg.1, hg.2.1, hg.2.2.1, by omega, by omega, by omega, by omega⟩, fun x hx l hl => big_link h hx hl, fun x hx => big_wire h hx⟩
set_option maxRecDepth 20000 in
set_option maxHeartbeats 25600000 in
theorem rn_gen (v : Value) (b : Big) (At : Option Addr) (nt ct : Nat) (ts : List Int) (Ae : Option Addr) (ne ce : Nat) (es : List Int) (w : World) (hv : BigAt w w.heap.size v b) (hN : NilV v) (hg : Sane b) (ht : IntsAt w w.heap.size At nt ts) (he : IntsAt w w.heap.size Ae ne es) (hT : EachP ts b.nodes.length) (hE : b.edges = ne) :
    Calls Tryz.prog 52 #[v, .slice At nt ct, .slice Ae ne ce] w fun e w' => ∃ v', e = .returned v' ∧ BigR w' w.heap.size w'.heap.size v' (rnB b ts es) ∧ Below w.heap.size w w' := by
  obtain ⟨A1, n1, c1, A2, n2, c2, A4, n4, c4, A5, n5, c5, rfl, h1, h2, h4, h5⟩ := hv
  have hnil := hN.get
  have hbx := (Below.refl w.heap.size w).alloc (Nat.le_refl _) (.cells #[.int .i64 b.roots, .slice A1 n1 c1, .slice A2 n2 c2, .int .i64 b.edges, .slice A4 n4 c4, .slice A5 n5 c5] 31)
  have HBoxI : Hid (BoxAt (w.alloc (.cells #[.int .i64 b.roots, .slice A1 n1 c1, .slice A2 n2 c2, .int .i64 b.edges, .slice A4 n4 c4, .slice A5 n5 c5] 31)) w.heap.size 31 (.int .i64 b.roots) (.slice A1 n1 c1) (.slice A2 n2 c2) (.int .i64 b.edges) (.slice A4 n4 c4) (.slice A5 n5 c5)) := Lib.hid (six_new w _ _ _ _ _ _ _)
  obtain ⟨W0, hW0⟩ : ∃ W, w.alloc (.cells #[.int .i64 b.roots, .slice A1 n1 c1, .slice A2 n2 c2, .int .i64 b.edges, .slice A4 n4 c4, .slice A5 n5 c5] 31) = W := ⟨_, rfl⟩
  have hWz0 : W0.heap.size = w.heap.size + 1 := by rw [← hW0]; simp
  rw [hW0] at hbx HBoxI
  have hb0 := (Below.refl W0.heap.size W0).alloc (Nat.le_refl _) (.cells #[.int .i64 0, .slice none 0 0, .slice none 0 0, .int .i64 0, .slice none 0 0, .slice none 0 0] 31)
  have HBx0 : Hid (BoxAt (W0.alloc (.cells #[.int .i64 0, .slice none 0 0, .slice none 0 0, .int .i64 0, .slice none 0 0, .slice none 0 0] 31)) W0.heap.size 31 (.int .i64 0) (.slice none 0 0) (.slice none 0 0) (.int .i64 0) (.slice none 0 0) (.slice none 0 0)) := Lib.hid (six_new W0 _ _ _ _ _ _ _)
  have HBox := Lib.hid (HBoxI.out.on hb0)
  obtain ⟨W, hW⟩ : ∃ W, W0.alloc (.cells #[.int .i64 0, .slice none 0 0, .slice none 0 0, .int .i64 0, .slice none 0 0, .slice none 0 0] 31) = W := ⟨_, rfl⟩
  have hWz : W.heap.size = w.heap.size + 1 + 1 := by rw [← hW]; simp; exact hWz0
  rw [hW] at hb0 HBx0 HBox
  rw [hWz0] at HBx0
  have HWq0 := Lib.hid hW0
  have HWq := Lib.hid hW
  have HB0 := Lib.hid (hbx.trans (hb0.mono hbx.size))
  have HWz := Lib.hid hWz
  have hVW : BigAt W W.heap.size (.agg #[.int .i64 b.roots, .slice A1 n1 c1, .slice A2 n2 c2, .int .i64 b.edges, .slice A4 n4 c4, .slice A5 n5 c5]) b := BigAt.wide (BigAt.below ⟨_, _, _, _, _, _, _, _, _, _, _, _, rfl, h1, h2, h4, h5⟩ HB0.out) HB0.out.size
  clear hW0 hW hb0 hWz hWz0 hbx HBoxI hN
  clear hVW
  have hz := hg.sz
  have l1 := h1.1
  have l2 := h2.len
  have l4 := h4.strlen
  have l5 := h5.1
  have hn1 : n1 ≤ 16 := by omega
  have hn2 : n2 ≤ 8 := by omega
  have hn4 : n4 ≤ 32 := by omega
  have hn5 : n5 ≤ 32 := by omega
  have hnt : n1 = nt := by have := ht.len; have := hT.2; omega
  subst hnt
  have HL1 := Lib.hid l1
  have HL2 := Lib.hid l2
  have HL4 := Lib.hid l4
  have HL5 := Lib.hid l5
  have HG := Lib.hid hg
  have HT := Lib.hid hT
  have HE := Lib.hid hE
  have hlk := hg.l3
  have HLk := Lib.hid hlk
  obtain ⟨i0, hi, hz0, hz1, hz2⟩ := info_parts str_info
  have HI0 := Lib.hid (And.intro hi (And.intro hz0 (And.intro hz1 hz2)))
  have HZ4 := Lib.hid (fun e : A4 = none => And.intro (sr_zero h4 e) (hnil.2.2.1 e))
  have e1 : 0 + n4 ≤ maxLen := by unfold maxLen; omega
  have e2 : (0 + n4) * 16 ≤ 140737488355328 := by omega
  have e5 : ∀ u ∈ b.outer.map Value.string, u.oneCell' = true := fun u hu => by obtain ⟨s, _, rfl⟩ := List.mem_map.1 hu; rfl
  have e6 : (b.outer.map Value.string).length = n4 * 1 := by rw [List.length_map, HL4.out, Nat.mul_one]
  have hmk := fun W => run_make3 W n1 (by omega)
  obtain ⟨U, hU⟩ : ∃ U, W = U := ⟨_, rfl⟩
  rw [hU] at HBox HBx0 HWq HB0 HWz
  have hUs : w.heap.size < U.heap.size := by rw [HWz.out]; omega
  have HS : Hid (∀ w', Below U.heap.size U w' → w'.cell? ⟨w.heap.size, 0, none⟩ = some (.int .i64 b.roots) ∧ w'.cell? ⟨w.heap.size, 1, none⟩ = some (.slice A1 n1 c1) ∧ w'.cell? ⟨w.heap.size, 2, none⟩ = some (.slice A2 n2 c2) ∧ w'.cell? ⟨w.heap.size, 3, none⟩ = some (.int .i64 b.edges) ∧ w'.cell? ⟨w.heap.size, 4, none⟩ = some (.slice A4 n4 c4) ∧ w'.cell? ⟨w.heap.size, 5, none⟩ = some (.slice A5 n5 c5)) := Lib.hid (fun w' hq => (HBox.out.below hq hUs).get)
  clear hU l1 l2 l4 l5 hz hi hz0 hz1 hz2 hnil hg hT hE hlk
  obtain ⟨x0, x1, x2, x3, x4, x5⟩ := HBox.out.get
  go_enter Tryz.func52, Tryz.ntmps52
  go_wp2_with fail
  rw [HWq0.out, HWq.out]
  go_cut [7] from 13 to 25 (fun s7 wx => MadeN U b n1 n4 s7 wx)
  case first =>
    clear HWq0 HWq HWz h1 h2 h5 ht he HL1 HL2 HL5 HG HT HE HLk HBx0 hn1 hn2 hn5
    go_wp2_with fail
    go_region_held3 (fun w' => w'.cell? ⟨w.heap.size, 0, none⟩ = some (.int .i64 b.roots) ∧ w'.cell? ⟨w.heap.size, 1, none⟩ = some (.slice A1 n1 c1) ∧ w'.cell? ⟨w.heap.size, 2, none⟩ = some (.slice A2 n2 c2) ∧ w'.cell? ⟨w.heap.size, 3, none⟩ = some (.int .i64 b.edges) ∧ w'.cell? ⟨w.heap.size, 4, none⟩ = some (.slice A4 n4 c4) ∧ w'.cell? ⟨w.heap.size, 5, none⟩ = some (.slice A5 n5 c5))
      (exact HS.out _ (by go_grown))
      (first
       | (refine step_append_src rfl _ _ 28 rfl U.heap.size 9 i0 (.string ⟨#[]⟩) 1 16 Tryz.underlying28 HI0.out.1 HI0.out.2.1 HI0.out.2.2.1 HI0.out.2.2.2 rfl (by decide) _ _ _ (by first | rfl | simp [Act.eval, Act.put]) (nil_at (by first | (with_reducible refine at_drew (at_new ?_); (first | rfl | omega | (simp only [World.size_alloc, World.size_drew] <;> omega))) | (with_reducible refine at_drew (at_old ?_ (at_new ?_)); (first | rfl | omega | (simp only [World.size_alloc, World.size_drew] <;> omega)); (first | rfl | omega | (simp only [World.size_alloc, World.size_drew] <;> omega))) | (with_reducible refine at_drew (at_old ?_ (at_old ?_ (at_new ?_))); (first | rfl | omega | (simp only [World.size_alloc, World.size_drew] <;> omega)); (first | rfl | omega | (simp only [World.size_alloc, World.size_drew] <;> omega)); (first | rfl | omega | (simp only [World.size_alloc, World.size_drew] <;> omega)))) (by first | exact Nat.le_refl _ | omega)) A4 n4 c4 (b.outer.map Value.string) (by first | rfl | simp [Act.eval, Act.put]) HZ4.out e6 (sr_src (h4.below (HB0.out.trans (Below.mono (B := U.heap.size) (by go_grown) HB0.out.size)))) e5 e1 e2 (by go_size) ?_; intro v1 w10 hown1 hgrow1; have hkZ := Below.grown (B := U.heap.size) (a := U) (by go_grown) hgrow1 (by go_size) (fun j hj => by simp [Value.ownBlock] at hj; omega); have hks := hkZ.size; rw [Nat.zero_add, List.nil_append] at hown1; obtain ⟨A4o, c4o, rfl, -⟩ := rowR_owns hown1; have hr4 := owned_strs2 hown1 HL4.out; (first | (((with_reducible refine boxEarly hgrow1 (g := U.heap.size) ?_ ?_ ?_ ?_); (first | (with_reducible refine at_drew (at_new ?_); (first | rfl | omega | (simp only [World.size_alloc, World.size_drew] <;> omega))) | (with_reducible refine at_drew (at_old ?_ (at_new ?_)); (first | rfl | omega | (simp only [World.size_alloc, World.size_drew] <;> omega)); (first | rfl | omega | (simp only [World.size_alloc, World.size_drew] <;> omega))) | (with_reducible refine at_drew (at_old ?_ (at_old ?_ (at_new ?_))); (first | rfl | omega | (simp only [World.size_alloc, World.size_drew] <;> omega)); (first | rfl | omega | (simp only [World.size_alloc, World.size_drew] <;> omega)); (first | rfl | omega | (simp only [World.size_alloc, World.size_drew] <;> omega)))); (first | rfl | omega | (simp only [World.size_alloc, World.size_drew] <;> omega)); (simp only [Value.ownBlock]; intro he; injection he with he; omega); intro hrow; have hβ : U.heap.size ≤ U.heap.size := Nat.le_refl _); (obtain ⟨z0, z1, z2, z3, z4, z5⟩ := row6 hrow; have f0 := World.rowIs.frozen hrow 0; have f1 := World.rowIs.frozen hrow 1; have f2 := World.rowIs.frozen hrow 2; have f3 := World.rowIs.frozen hrow 3; have f4 := World.rowIs.frozen hrow 4; have f5 := World.rowIs.frozen hrow 5; have hrow2 := World.rowIs.of_block hrow (Below.heap_alloc w10 (.cells (madeCells #[.int .i64 0, .int .i64 0, .slice none 0 0] (n1 * 3)) 96) _ hrow.lt); obtain ⟨q0, q1, q2, q3, q4, q5⟩ := row6 hrow2; have r0 := World.rowIs.frozen hrow2 0; have r1 := World.rowIs.frozen hrow2 1; have r2 := World.rowIs.frozen hrow2 2; have r3 := World.rowIs.frozen hrow2 3; have r4 := World.rowIs.frozen hrow2 4; have r5 := World.rowIs.frozen hrow2 5)) | (((with_reducible refine boxEarly hgrow1 (g := U.heap.size + 1) ?_ ?_ ?_ ?_); (first | (with_reducible refine at_drew (at_new ?_); (first | rfl | omega | (simp only [World.size_alloc, World.size_drew] <;> omega))) | (with_reducible refine at_drew (at_old ?_ (at_new ?_)); (first | rfl | omega | (simp only [World.size_alloc, World.size_drew] <;> omega)); (first | rfl | omega | (simp only [World.size_alloc, World.size_drew] <;> omega))) | (with_reducible refine at_drew (at_old ?_ (at_old ?_ (at_new ?_))); (first | rfl | omega | (simp only [World.size_alloc, World.size_drew] <;> omega)); (first | rfl | omega | (simp only [World.size_alloc, World.size_drew] <;> omega)); (first | rfl | omega | (simp only [World.size_alloc, World.size_drew] <;> omega)))); (first | rfl | omega | (simp only [World.size_alloc, World.size_drew] <;> omega)); (simp only [Value.ownBlock]; intro he; injection he with he; omega); intro hrow; have hβ : U.heap.size ≤ U.heap.size + 1 := Nat.le_succ _); (obtain ⟨z0, z1, z2, z3, z4, z5⟩ := row6 hrow; have f0 := World.rowIs.frozen hrow 0; have f1 := World.rowIs.frozen hrow 1; have f2 := World.rowIs.frozen hrow 2; have f3 := World.rowIs.frozen hrow 3; have f4 := World.rowIs.frozen hrow 4; have f5 := World.rowIs.frozen hrow 5; have hrow2 := World.rowIs.of_block hrow (Below.heap_alloc w10 (.cells (madeCells #[.int .i64 0, .int .i64 0, .slice none 0 0] (n1 * 3)) 96) _ hrow.lt); obtain ⟨q0, q1, q2, q3, q4, q5⟩ := row6 hrow2; have r0 := World.rowIs.frozen hrow2 0; have r1 := World.rowIs.frozen hrow2 1; have r2 := World.rowIs.frozen hrow2 2; have r3 := World.rowIs.frozen hrow2 3; have r4 := World.rowIs.frozen hrow2 4; have r5 := World.rowIs.frozen hrow2 5)) | (((with_reducible refine boxEarly hgrow1 (g := U.heap.size + 1 + 1) ?_ ?_ ?_ ?_); (first | (with_reducible refine at_drew (at_new ?_); (first | rfl | omega | (simp only [World.size_alloc, World.size_drew] <;> omega))) | (with_reducible refine at_drew (at_old ?_ (at_new ?_)); (first | rfl | omega | (simp only [World.size_alloc, World.size_drew] <;> omega)); (first | rfl | omega | (simp only [World.size_alloc, World.size_drew] <;> omega))) | (with_reducible refine at_drew (at_old ?_ (at_old ?_ (at_new ?_))); (first | rfl | omega | (simp only [World.size_alloc, World.size_drew] <;> omega)); (first | rfl | omega | (simp only [World.size_alloc, World.size_drew] <;> omega)); (first | rfl | omega | (simp only [World.size_alloc, World.size_drew] <;> omega)))); (first | rfl | omega | (simp only [World.size_alloc, World.size_drew] <;> omega)); (simp only [Value.ownBlock]; intro he; injection he with he; omega); intro hrow; have hβ : U.heap.size ≤ U.heap.size + 1 + 1 := by omega); (obtain ⟨z0, z1, z2, z3, z4, z5⟩ := row6 hrow; have f0 := World.rowIs.frozen hrow 0; have f1 := World.rowIs.frozen hrow 1; have f2 := World.rowIs.frozen hrow 2; have f3 := World.rowIs.frozen hrow 3; have f4 := World.rowIs.frozen hrow 4; have f5 := World.rowIs.frozen hrow 5; have hrow2 := World.rowIs.of_block hrow (Below.heap_alloc w10 (.cells (madeCells #[.int .i64 0, .int .i64 0, .slice none 0 0] (n1 * 3)) 96) _ hrow.lt); obtain ⟨q0, q1, q2, q3, q4, q5⟩ := row6 hrow2; have r0 := World.rowIs.frozen hrow2 0; have r1 := World.rowIs.frozen hrow2 1; have r2 := World.rowIs.frozen hrow2 2; have r3 := World.rowIs.frozen hrow2 3; have r4 := World.rowIs.frozen hrow2 4; have r5 := World.rowIs.frozen hrow2 5)) | (have hrow3 := World.rowIs.of_block (six_new w10 (.int .i64 0) (.slice none 0 0) (.slice none 0 0) (.int .i64 0) (.slice none 0 0) (.slice none 0 0) 31) (Below.heap_alloc (w10.alloc (.cells #[.int .i64 0, .slice none 0 0, .slice none 0 0, .int .i64 0, .slice none 0 0, .slice none 0 0] 31)) (.cells (madeCells #[.int .i64 0, .int .i64 0, .slice none 0 0] (n1 * 3)) 96) w10.heap.size (by rw [World.size_alloc]; exact Nat.lt_succ_self _)); obtain ⟨q0, q1, q2, q3, q4, q5⟩ := row6 hrow3; have r0 := World.rowIs.frozen hrow3 0; have r1 := World.rowIs.frozen hrow3 1; have r2 := World.rowIs.frozen hrow3 2; have r3 := World.rowIs.frozen hrow3 3; have r4 := World.rowIs.frozen hrow3 4; have r5 := World.rowIs.frozen hrow3 5)); (first | ((with_reducible refine rowEarly hgrow1 (g := U.heap.size) (n := n1) ?_ ?_ ?_ ?_); (first | (with_reducible refine at_drew (at_new ?_); (first | rfl | omega | (simp only [World.size_alloc, World.size_drew] <;> omega))) | (with_reducible refine at_drew (at_old ?_ (at_new ?_)); (first | rfl | omega | (simp only [World.size_alloc, World.size_drew] <;> omega)); (first | rfl | omega | (simp only [World.size_alloc, World.size_drew] <;> omega))) | (with_reducible refine at_drew (at_old ?_ (at_old ?_ (at_new ?_))); (first | rfl | omega | (simp only [World.size_alloc, World.size_drew] <;> omega)); (first | rfl | omega | (simp only [World.size_alloc, World.size_drew] <;> omega)); (first | rfl | omega | (simp only [World.size_alloc, World.size_drew] <;> omega)))); (first | rfl | omega | (simp only [World.size_alloc, World.size_drew] <;> omega)); (simp only [Value.ownBlock]; intro he; injection he with he; omega); intro hmr; have hmg : U.heap.size ≤ U.heap.size := Nat.le_refl _) | ((with_reducible refine rowEarly hgrow1 (g := U.heap.size + 1) (n := n1) ?_ ?_ ?_ ?_); (first | (with_reducible refine at_drew (at_new ?_); (first | rfl | omega | (simp only [World.size_alloc, World.size_drew] <;> omega))) | (with_reducible refine at_drew (at_old ?_ (at_new ?_)); (first | rfl | omega | (simp only [World.size_alloc, World.size_drew] <;> omega)); (first | rfl | omega | (simp only [World.size_alloc, World.size_drew] <;> omega))) | (with_reducible refine at_drew (at_old ?_ (at_old ?_ (at_new ?_))); (first | rfl | omega | (simp only [World.size_alloc, World.size_drew] <;> omega)); (first | rfl | omega | (simp only [World.size_alloc, World.size_drew] <;> omega)); (first | rfl | omega | (simp only [World.size_alloc, World.size_drew] <;> omega)))); (first | rfl | omega | (simp only [World.size_alloc, World.size_drew] <;> omega)); (simp only [Value.ownBlock]; intro he; injection he with he; omega); intro hmr; have hmg : U.heap.size ≤ U.heap.size + 1 := Nat.le_succ _) | ((with_reducible refine rowEarly hgrow1 (g := U.heap.size + 1 + 1) (n := n1) ?_ ?_ ?_ ?_); (first | (with_reducible refine at_drew (at_new ?_); (first | rfl | omega | (simp only [World.size_alloc, World.size_drew] <;> omega))) | (with_reducible refine at_drew (at_old ?_ (at_new ?_)); (first | rfl | omega | (simp only [World.size_alloc, World.size_drew] <;> omega)); (first | rfl | omega | (simp only [World.size_alloc, World.size_drew] <;> omega))) | (with_reducible refine at_drew (at_old ?_ (at_old ?_ (at_new ?_))); (first | rfl | omega | (simp only [World.size_alloc, World.size_drew] <;> omega)); (first | rfl | omega | (simp only [World.size_alloc, World.size_drew] <;> omega)); (first | rfl | omega | (simp only [World.size_alloc, World.size_drew] <;> omega)))); (first | rfl | omega | (simp only [World.size_alloc, World.size_drew] <;> omega)); (simp only [Value.ownBlock]; intro he; injection he with he; omega); intro hmr; have hmg : U.heap.size ≤ U.heap.size + 1 + 1 := by omega) | skip); clear hown1 hgrow1))
    all_goals (go_wp2_with fail; go_meet)
    all_goals (first
      | with_reducible exact madeN_late hmr hmg hr4 hkZ
      | with_reducible exact madeN_sets hrow hβ hmr hmg hr4 hkZ
      | with_reducible exact madeN_sets2 hrow hβ hr4 hkZ
      | with_reducible exact madeN_late1 hr4 hkZ
      | with_reducible exact madeN_late2 hr4 hkZ)
  case rest =>
    clear x0 x1 x2 x3 x4 x5 HI0 HZ4 e1 e2 e5 e6 hmk
    obtain ⟨W1, hwc⟩ : ∃ x, wc = x := ⟨_, rfl⟩
    rw [hwc] at hcut ⊢
    clear hwc
    obtain ⟨β, g1, B4, e4, rfl, hβ, hg1, hbox, hrow, hr4, hb⟩ := hcut
    have hβ1 : β < W1.heap.size := World.rowIs.lt hbox
    have hg11 : g1 < W1.heap.size := hrow.lt
    have hβg : β ≠ g1 := fun e => by subst e; exact absurd (rowIs_uniq hrow hbox).1 (by decide)
    have HS0 : Hid (RnS U W1 W1 b ts es n1 n4 g1 β 0 B4 e4 (fun _ => none) (fun _ => 0) (.slice none 0 0) (.slice none 0 0)) := Lib.hid ⟨RnMid.zero hrow, hbox, hr4, hb, Nat.le_refl _⟩
    have hUW := hb.size
    have hUz : U.heap.size = w.heap.size + 1 + 1 := HWz.out
    have HTie := Lib.hid (fun (l : Int) (Y : World) (hY : Below w.heap.size w Y) (hl : 0 ≤ l ∧ l ≤ 100) => tie_any (.int .i64 b.roots) (.slice A1 n1 c1) (.slice A2 n2 c2) (.slice A4 n4 c4) (.slice A5 n5 c5) b.edges Ae ne ce es l Y _ (he.below hY) hY.size HE.out (by have := HE.out; have := HG.out.sz.2.1; omega) hl)
    have HMv := Lib.hid (fun (p : Int) (Y : World) (hY : Below w.heap.size w Y) (hp : p < n1) (hp0 : -8 ≤ p) => move_any At n1 ct ts p Y _ (ht.below hY) hp (by omega) hp0)
    obtain ⟨i1, hi, hz0, hz1, hz2⟩ := info_parts int_info
    have HI1 := Lib.hid (And.intro hi (And.intro hz0 (And.intro hz1 hz2)))
    obtain ⟨i2, hi', hz0', hz1', hz2'⟩ := info_parts wire_info
    have HI2 := Lib.hid (And.intro hi' (And.intro hz0' (And.intro hz1' hz2')))
    have HGs := Lib.hid (HG.out.gs)
    clear hbox hrow hr4 hb hi hz0 hz1 hz2 hi' hz0' hz1' hz2'
    obtain ⟨y0, y1, y2, y3, y4, y5⟩ := HS0.out.box.get
    go_wp2_with fail
    clear y0 y1 y2 y3 y4 y5
    go_loopw [8] (fun i wr => ∃ (k : Nat) (LA : Nat → Option Addr) (LC : Nat → Nat), k ≤ n1 ∧ i = .int .i64 k ∧ RnS U W1 wr b ts es n1 n4 g1 β k B4 e4 LA LC (.slice none 0 0) (.slice none 0 0)) (fun i _ => n1 - (intOf i).toNat)
    case atStart => exact ⟨0, _, _, Nat.zero_le _, rfl, HS0.out⟩
    case round =>
      obtain ⟨k, LA, LC, hk, rfl, hM⟩ := hrel
      obtain ⟨wo, rfl⟩ : ∃ wo : World, wo = wr := ⟨_, rfl⟩
      have HM := Lib.hid hM
      have hbw := HB0.out.trans (hM.bel.mono HB0.out.size)
      have hUo := hM.bel.size
      obtain ⟨x0, x1, x2, x3, x4, x5⟩ := (HBox.out.below hM.bel hUs).get
      obtain ⟨y0, y1, y2, y3, y4, y5⟩ := hM.box.get
      by_cases hlt : k < n1
      · obtain ⟨b1, off1, x, rfl, hb1, hx, d0, d1, L, nl, cap, d2, hil⟩ := h1.get hlt
        obtain ⟨bt, offt, t, rfl, hbt, htk, ct'⟩ := ht.get hlt
        have p0 := (hbw.cell (p := ⟨b1, off1 + k * 3, none⟩) hb1).trans d0
        have p1 := (hbw.cell (p := ⟨b1, off1 + k * 3 + 1, none⟩) hb1).trans d1
        have p2 := (hbw.cell (p := ⟨b1, off1 + k * 3 + 2, none⟩) hb1).trans d2
        have hnl : nl ≤ 3 := by have := HLk.out x (List.mem_of_getElem? hx); have := hil.len; omega
        have HX := Lib.hid hx
        have HTk := Lib.hid htk
        have HIl := Lib.hid hil
        have HP0 := Lib.hid p0
        have HP1 := Lib.hid p1
        have HP2 := Lib.hid p2
        have HCt := Lib.hid ((hbw.cell (p := ⟨bt, offt + k, none⟩) hbt).trans ct')
        have hbV := (Below.refl wo.heap.size wo).alloc (Nat.le_refl _) (.cells #[] 3)
        have HOn := Lib.hid (ownsRow_nil_new wo 3 1 wo.heap.size (Nat.le_refl _))
        have HbV := Lib.hid hbV
        have HPx := Lib.hid (show (wo.alloc (.cells #[] 3)).cell? ⟨b1, off1 + k * 3 + 2, none⟩ = some (.slice L nl cap) from (hbV.cell (p := ⟨b1, off1 + k * 3 + 2, none⟩) (Nat.lt_of_lt_of_le hb1 hbw.size)).trans p2)
        clear hx htk hil d0 d1 d2 ct' hM hbV p0 p1 p2
        go_wp2_with fail
        clear x0 x1 x2 x3 x4 x5 y0 y1 y2 y3 y4 y5
        go_loopw [9, 10] (fun l i wi => ∃ (m : Nat) (v : Value), m ≤ nl ∧ i = .int .i64 m ∧ l = v ∧ wi.ownsRow wo.heap.size 3 1 v m (((x.links.take m).map (tieF b.edges es)).map (Value.int .i64)) ∧ Below wo.heap.size wo wi) (fun _ i _ => nl - (intOf i).toNat)
        case atStart => exact ⟨0, _, Nat.zero_le _, rfl, rfl, HOn.out, HbV.out⟩
        case round =>
          obtain ⟨m, v, hm, rfl, rfl, hown, hbel⟩ := hrel
          have hb2 : Below U.heap.size U wr := HM.out.bel.trans (hbel.mono hUo)
          have hbw2 := HB0.out.trans (hb2.mono HB0.out.size)
          have hU2 := hb2.size
          have q2 := (hbel.cell (p := ⟨b1, off1 + k * 3 + 2, none⟩) (Nat.lt_of_lt_of_le hb1 hbw.size)).trans HP2.out
          obtain ⟨x0, x1, x2, x3, x4, x5⟩ := (HBox.out.below hb2 hUs).get
          by_cases hlm : m < nl
          · obtain ⟨bl, offl, z, rfl, hbl, hz, cz⟩ := HIl.out.get hlm
            have q3 := (hbw2.cell (p := ⟨bl, offl + m, none⟩) hbl).trans cz
            have HZ := Lib.hid hz
            have hzr := HG.out.bl _ (List.mem_of_getElem? HX.out) _ (List.mem_of_getElem? hz)
            obtain ⟨T, hT⟩ : ∃ T, tieF b.edges es z = T := ⟨_, rfl⟩
            have CT := fun Y hY => hT ▸ HTie.out z Y hY hzr
            have HTk2 : Hid (((x.links.take (m + 1)).map (tieF b.edges es)).map (Value.int .i64) = ((x.links.take m).map (tieF b.edges es)).map (Value.int .i64) ++ [.int .i64 T]) := Lib.hid (by rw [take_snoc hz, List.map_append, List.map_append, ← hT]; rfl)
            obtain ⟨D, hD⟩ : ∃ D, ((x.links.take m).map (tieF b.edges es)).map (Value.int .i64) = D := ⟨_, rfl⟩
            rw [hD] at hown HTk2
            have HO := Lib.hid hown
            have HB2 := Lib.hid hbel
            have HU2 := Lib.hid hb2
            have e1 : m + 1 ≤ maxLen := by unfold maxLen; omega
            have e2 : (m + 1) * 8 ≤ 140737488355328 := by omega
            have e4' : ∀ u ∈ [Value.int .i64 T], u.oneCell' = true := fun u hu => by rw [List.mem_singleton.1 hu]; rfl
            have hwD := hbw2.drew
            have hwo := HB2.out.size
            have hbs1 : b1 < wr.heap.size := by omega
            have hbls : bl < wr.heap.size := by omega
            have HS2 : Hid (∀ w', Below U.heap.size wr w' → (w'.cell? ⟨w.heap.size, 0, none⟩ = some (.int .i64 b.roots) ∧ w'.cell? ⟨w.heap.size, 1, none⟩ = some (.slice (some ⟨b1, off1, none⟩) n1 c1) ∧ w'.cell? ⟨w.heap.size, 2, none⟩ = some (.slice A2 n2 c2) ∧ w'.cell? ⟨w.heap.size, 3, none⟩ = some (.int .i64 b.edges) ∧ w'.cell? ⟨w.heap.size, 4, none⟩ = some (.slice A4 n4 c4) ∧ w'.cell? ⟨w.heap.size, 5, none⟩ = some (.slice A5 n5 c5)) ∧ (w'.cell? ⟨b1, off1 + k * 3 + 2, none⟩ = some (.slice (some ⟨bl, offl, none⟩) nl cap) ∧ w'.cell? ⟨bl, offl + m, none⟩ = some (.int .i64 z))) := Lib.hid (fun w' hq => ⟨((HBox.out.below HU2.out hUs).below hq hUs).get, (hq.cell (p := ⟨b1, off1 + k * 3 + 2, none⟩) (by dsimp only; omega)).trans q2, (hq.cell (p := ⟨bl, offl + m, none⟩) (by dsimp only; omega)).trans q3⟩)
            clear hz cz hT hown hbel hb2 hD
            go_wp2_with fail
            clear x0 x1 x2 x3 x4 x5 q2 q3
            have hkD := (Below.refl wr.heap.size wr).drew
            have hkDU := hkD.mono hU2
            refine rh.go_begin 15 (fun w' => (w'.cell? ⟨w.heap.size, 0, none⟩ = some (.int .i64 b.roots) ∧ w'.cell? ⟨w.heap.size, 1, none⟩ = some (.slice (some ⟨b1, off1, none⟩) n1 c1) ∧ w'.cell? ⟨w.heap.size, 2, none⟩ = some (.slice A2 n2 c2) ∧ w'.cell? ⟨w.heap.size, 3, none⟩ = some (.int .i64 b.edges) ∧ w'.cell? ⟨w.heap.size, 4, none⟩ = some (.slice A4 n4 c4) ∧ w'.cell? ⟨w.heap.size, 5, none⟩ = some (.slice A5 n5 c5)) ∧ (w'.cell? ⟨b1, off1 + k * 3 + 2, none⟩ = some (.slice (some ⟨bl, offl, none⟩) nl cap) ∧ w'.cell? ⟨bl, offl + m, none⟩ = some (.int .i64 z))) (by kernel_rfl) ?_ (fun hHeld => ?_)
            · ((try dsimp only); exact HS2.out _ (by go_grown))
            refine rh.go_take (i := 0) (v := ?v1) rfl (by kernel_rfl) (fun _ _ _ h => h) (Or.inl ⟨by rfl, ?hy1⟩) (by assumption) ?rest1
            case hy1 => (intro wS hSw; (try dsimp only at hSw); go_simp; try (with_reducible rfl))
            try simp only [Act.put, List.setIfInBounds_toArray, List.set_cons_zero, List.set_cons_succ]
            refine rh.go_take (i := 1) (v := ?v2) rfl (by kernel_rfl) (fun _ _ _ h => h) (Or.inl ⟨by rfl, ?hy2⟩) (by assumption) ?rest2
            case hy2 => (intro wS hSw; (try dsimp only at hSw); go_simp; try (with_reducible rfl))
            try simp only [Act.put, List.setIfInBounds_toArray, List.set_cons_zero, List.set_cons_succ]
            refine rh.go_take (i := 2) (v := ?v3) rfl (by kernel_rfl) (fun _ _ _ h => h) (Or.inl ⟨by rfl, ?hy3⟩) (by assumption) ?rest3
            case hy3 => (intro wS hSw; (try dsimp only at hSw); go_simp; try (with_reducible rfl))
            try simp only [Act.put, List.setIfInBounds_toArray, List.set_cons_zero, List.set_cons_succ]
            refine rh.go_take (i := 3) (v := ?v4) rfl (by kernel_rfl) (fun _ _ _ h => h) (Or.inl ⟨by rfl, ?hy4⟩) (by assumption) ?rest4
            case hy4 => (intro wS hSw; (try dsimp only at hSw); go_simp; try (with_reducible rfl))
            try simp only [Act.put, List.setIfInBounds_toArray, List.set_cons_zero, List.set_cons_succ]
            refine rh.go_take (i := 4) (v := ?v5) rfl (by kernel_rfl) (fun _ _ _ h => h) (Or.inl ⟨by rfl, ?hy5⟩) (by assumption) ?rest5
            case hy5 => (intro wS hSw; (try dsimp only at hSw); go_simp; try (with_reducible rfl))
            try simp only [Act.put, List.setIfInBounds_toArray, List.set_cons_zero, List.set_cons_succ]
            refine rh.go_take (i := 5) (v := ?v6) rfl (by kernel_rfl) (fun _ _ _ h => h) (Or.inl ⟨by rfl, ?hy6⟩) (by assumption) ?rest6
            case hy6 => (intro wS hSw; (try dsimp only at hSw); go_simp; try (with_reducible rfl))
            try simp only [Act.put, List.setIfInBounds_toArray, List.set_cons_zero, List.set_cons_succ]
            refine rh.go_take (i := 6) (v := ?v7) rfl (by kernel_rfl) (fun _ _ _ h => h) (Or.inl ⟨by rfl, ?hy7⟩) (by assumption) ?rest7
            case hy7 => (intro wS hSw; (try dsimp only at hSw); go_simp; try (with_reducible rfl))
            try simp only [Act.put, List.setIfInBounds_toArray, List.set_cons_zero, List.set_cons_succ]
            refine rh.go_take (i := 7) (v := ?v8) rfl (by kernel_rfl) (fun _ _ _ h => h) (Or.inl ⟨by rfl, ?hy8⟩) (by assumption) ?rest8
            case hy8 => (intro wS hSw; (try dsimp only at hSw); go_simp; try (with_reducible rfl))
            try simp only [Act.put, List.setIfInBounds_toArray, List.set_cons_zero, List.set_cons_succ]
            refine rh.go_take (i := 8) (v := ?v9) rfl (by kernel_rfl) (fun _ _ _ h => h) (Or.inl ⟨by rfl, ?hy9⟩) (by assumption) ?rest9
            case hy9 => (intro wS hSw; (try dsimp only at hSw); go_simp; try (with_reducible rfl))
            try simp only [Act.put, List.setIfInBounds_toArray, List.set_cons_zero, List.set_cons_succ]
            refine rh.go_take (i := 9) (v := ?v10) rfl (by kernel_rfl) (fun _ _ _ h => h) (Or.inl ⟨by rfl, ?hy10⟩) (by assumption) ?rest10
            case hy10 => (intro wS hSw; (try dsimp only at hSw); go_simp; try (with_reducible rfl))
            try simp only [Act.put, List.setIfInBounds_toArray, List.set_cons_zero, List.set_cons_succ]
            refine rh.go_take (i := 10) (v := ?v11) rfl (by kernel_rfl) (fun _ _ _ h => h) (Or.inl ⟨by rfl, ?hy11⟩) (by assumption) ?rest11
            case hy11 => (intro wS hSw; (try dsimp only at hSw); go_simp; try (with_reducible rfl))
            try simp only [Act.put, List.setIfInBounds_toArray, List.set_cons_zero, List.set_cons_succ]
            refine rh.go_take (i := 11) (v := ?v12) rfl (by kernel_rfl) (fun _ _ _ h => h) (Or.inl ⟨by rfl, ?hy12⟩) (by assumption) ?rest12
            case hy12 => (intro wS hSw; (try dsimp only at hSw); go_simp; try (with_reducible rfl))
            try simp only [Act.put, List.setIfInBounds_toArray, List.set_cons_zero, List.set_cons_succ]
            refine rh.go_next (i := 12) rfl (by kernel_rfl) (fun K2 hK => ?_)
            (go_simp; go_at_call 72; refine (CT _ hwD).mono ?_; rintro e w2 ⟨rfl, hb⟩; have hk2 := hkD.trans (hb.mono hkD.size); have hkA := hk2.alloc hk2.size (.cells #[.int .i64 T] 3); have HOA := Lib.hid (owns_on HO.out hkA); have HkA := Lib.hid hkA; have hk2U := hk2.mono hU2; have hk2s := hk2.size; have hk2t := hk2U.size; have e3 := Nat.le_trans hwo hkA.size; clear hb hkA; go_wp2_with fail)
            refine hK.out _ _ ?_ (fun hHeld => ?_)
            · ((try dsimp only); exact HS2.out _ (by go_grown))
            clear hK K2
            try simp only [Act.put, List.setIfInBounds_toArray, List.set_cons_zero, List.set_cons_succ]
            refine rh.go_next (i := 13) rfl (by kernel_rfl) (fun K2 hK => ?_)
            go_simp
            refine hK.out _ _ ?_ (fun hHeld => ?_)
            · ((try dsimp only); exact HS2.out _ (by go_grown))
            clear hK K2
            try simp only [Act.put, List.setIfInBounds_toArray, List.set_cons_zero, List.set_cons_succ]
            refine rh.go_next (i := 14) rfl (by kernel_rfl) (fun K2 hK => ?_)
            (refine step_append_own rfl _ _ 27 rfl wo.heap.size 3 i1 (.int .i64 0) 1 8 Tryz.underlying27 HI1.out.1 HI1.out.2.1 HI1.out.2.2.1 HI1.out.2.2.2 rfl (by decide) _ _ _ (by first | rfl | simp [Act.eval, Act.put]) HOA.out ⟨w2.heap.size, 0, none⟩ 1 1 [.int .i64 T] (by first | rfl | simp [Act.eval, Act.put]) rfl (cell_one_new _ _ _) e4' e1 e2 e3 ?_; intro v1 w3 hown1 hgrow1 hnil1; have HOw3 := Lib.hid hown1; have hq3 := (HkA.out.mono hwo).grown hgrow1 (by simp; omega) (fun j hj => (HOA.out.lt j hj).1); have hq3U := ((HkA.out.mono hU2).grown hgrow1 (by simp; omega) (fun j hj => by have := (HOA.out.lt j hj).1; omega)); clear hgrow1 hnil1 hown1; (try go_simp))
            refine hK.out _ _ ?_ (fun hHeld => ?_)
            · ((try dsimp only); exact HS2.out _ (by go_grown))
            clear hK K2
            try simp only [Act.put, List.setIfInBounds_toArray, List.set_cons_zero, List.set_cons_succ]
            refine rh.go_last rfl (by kernel_rfl) (fun K2 hK => ?_)
            go_simp
            refine hK.out _ _ ?_
            refine NoPanic.normal ?_
            clear hK K2
            go_wp2_with fail
            go_roundw
            case rel => exact ⟨m + 1, _, by omega, by go_num, rfl, by rw [HTk2.out]; exact HOw3.out, HB2.out.trans hq3⟩
            case measure => simp [intOf]; omega
          · obtain rfl : m = nl := by omega
            rw [List.take_of_length_le (by rw [HIl.out.len]; exact Nat.le_refl _)] at hown
            obtain ⟨Al, cl', rfl, hrw⟩ := ints_owned hown
            have hlen : (x.links.map (tieF b.edges es)).length = m := by rw [List.length_map]; exact HIl.out.len
            rw [hlen] at hrw ⊢
            have HS1 := Lib.hid (HM.out.on hbel)
            obtain ⟨tn, rfl⟩ : ∃ tn : Nat, t = tn := ⟨t.toNat, by have := each_in HT.out HTk.out; omega⟩
            have htn : tn < n1 := by have := each_in HT.out HTk.out; have := HL1.out; omega
            have hxp := HGs.out.1 k x HX.out
            have hxd := HGs.out.2.1 k x HX.out
            have hroots := HGs.out.2.2.2.2.1
            obtain ⟨T, hT⟩ : ∃ T, mvP ts x.parent = T := ⟨_, rfl⟩
            have HMT := Lib.hid hT
            have CT := fun Y hY => hT ▸ HMv.out x.parent Y hY (by omega) (by omega)
            have HRw := Lib.hid hrw
            have hwo2 : W1.heap.size ≤ wo.heap.size := HM.out.sz
            have hsz2 : W1.heap.size ≤ wr.heap.size := HS1.out.sz
            have r1' := HS1.out.mid.r1
            have a0' := r1'.cell (show tn * 3 < n1 * 3 by omega)
            have a1' := r1'.cell (show tn * 3 + 1 < n1 * 3 by omega)
            have a2' := r1'.cell (show tn * 3 + 2 < n1 * 3 by omega)
            have f0' := r1'.frozen (tn * 3)
            have f1' := r1'.frozen (tn * 3 + 1)
            have f2' := r1'.frozen (tn * 3 + 2)
            have a0 := (r1'.of_block (w' := wr.drew) rfl).cell (show tn * 3 < n1 * 3 by omega)
            have a1 := (r1'.of_block (w' := wr.drew) rfl).cell (show tn * 3 + 1 < n1 * 3 by omega)
            have a2 := (r1'.of_block (w' := wr.drew) rfl).cell (show tn * 3 + 2 < n1 * 3 by omega)
            have f0 := (r1'.of_block (w' := wr.drew) rfl).frozen (tn * 3)
            have f1 := (r1'.of_block (w' := wr.drew) rfl).frozen (tn * 3 + 1)
            have f2 := (r1'.of_block (w' := wr.drew) rfl).frozen (tn * 3 + 2)
            have HS3 : Hid (∀ w', Below W1.heap.size wr w' → (w'.cell? ⟨w.heap.size, 0, none⟩ = some (.int .i64 b.roots) ∧ w'.cell? ⟨w.heap.size, 1, none⟩ = some (.slice (some ⟨b1, off1, none⟩) n1 c1) ∧ w'.cell? ⟨w.heap.size, 2, none⟩ = some (.slice A2 n2 c2) ∧ w'.cell? ⟨w.heap.size, 3, none⟩ = some (.int .i64 b.edges) ∧ w'.cell? ⟨w.heap.size, 4, none⟩ = some (.slice A4 n4 c4) ∧ w'.cell? ⟨w.heap.size, 5, none⟩ = some (.slice A5 n5 c5)) ∧ (w'.cell? ⟨b1, off1 + k * 3, none⟩ = some (.int .i64 x.control) ∧ w'.cell? ⟨b1, off1 + k * 3 + 1, none⟩ = some (.int .i64 x.parent) ∧ w'.cell? ⟨bt, offt + k, none⟩ = some (.int .i64 (tn : Int)) ∧ w'.cell? ⟨β, 1, none⟩ = some (.slice (some ⟨g1, 0, none⟩) n1 n1))) := Lib.hid (fun w' hq => ⟨((HBox.out.below hb2 hUs).below hq (by omega)).get, (hq.cell (p := ⟨b1, off1 + k * 3, none⟩) (by dsimp only; omega)).trans ((hbel.cell (p := ⟨b1, off1 + k * 3, none⟩) (by dsimp only; omega)).trans HP0.out), (hq.cell (p := ⟨b1, off1 + k * 3 + 1, none⟩) (by dsimp only; omega)).trans ((hbel.cell (p := ⟨b1, off1 + k * 3 + 1, none⟩) (by dsimp only; omega)).trans HP1.out), (hq.cell (p := ⟨bt, offt + k, none⟩) (by dsimp only; omega)).trans ((hbel.cell (p := ⟨bt, offt + k, none⟩) (by dsimp only; omega)).trans HCt.out), (HS1.out.box.below hq hβ1).get.2.1⟩)
            have hwD := hbw2.drew
            have hkDU := (Below.refl W1.heap.size wr).drew
            clear hown hbel hb2 hT r1' hlen
            go_wp2_with fail
            clear x0 x1 x2 x3 x4 x5 q2
            refine rh.go_begin 23 (fun w' => (w'.cell? ⟨w.heap.size, 0, none⟩ = some (.int .i64 b.roots) ∧ w'.cell? ⟨w.heap.size, 1, none⟩ = some (.slice (some ⟨b1, off1, none⟩) n1 c1) ∧ w'.cell? ⟨w.heap.size, 2, none⟩ = some (.slice A2 n2 c2) ∧ w'.cell? ⟨w.heap.size, 3, none⟩ = some (.int .i64 b.edges) ∧ w'.cell? ⟨w.heap.size, 4, none⟩ = some (.slice A4 n4 c4) ∧ w'.cell? ⟨w.heap.size, 5, none⟩ = some (.slice A5 n5 c5)) ∧ (w'.cell? ⟨b1, off1 + k * 3, none⟩ = some (.int .i64 x.control) ∧ w'.cell? ⟨b1, off1 + k * 3 + 1, none⟩ = some (.int .i64 x.parent) ∧ w'.cell? ⟨bt, offt + k, none⟩ = some (.int .i64 (tn : Int)) ∧ w'.cell? ⟨β, 1, none⟩ = some (.slice (some ⟨g1, 0, none⟩) n1 n1))) (by kernel_rfl) ?_ (fun hHeld => ?_)
            · ((try dsimp only); exact HS3.out _ (by go_grown))
            refine rh.go_take (i := 0) (v := ?v13) rfl (by kernel_rfl) (fun _ _ _ h => h) (Or.inl ⟨by rfl, ?hy13⟩) (by assumption) ?rest13
            case hy13 => (intro wS hSw; (try dsimp only at hSw); go_simp; try (with_reducible rfl))
            try simp only [Act.put, List.setIfInBounds_toArray, List.set_cons_zero, List.set_cons_succ]
            refine rh.go_take (i := 1) (v := ?v14) rfl (by kernel_rfl) (fun _ _ _ h => h) (Or.inl ⟨by rfl, ?hy14⟩) (by assumption) ?rest14
            case hy14 => (intro wS hSw; (try dsimp only at hSw); go_simp; try (with_reducible rfl))
            try simp only [Act.put, List.setIfInBounds_toArray, List.set_cons_zero, List.set_cons_succ]
            refine rh.go_take (i := 2) (v := ?v15) rfl (by kernel_rfl) (fun _ _ _ h => h) (Or.inl ⟨by rfl, ?hy15⟩) (by assumption) ?rest15
            case hy15 => (intro wS hSw; (try dsimp only at hSw); go_simp; try (with_reducible rfl))
            try simp only [Act.put, List.setIfInBounds_toArray, List.set_cons_zero, List.set_cons_succ]
            refine rh.go_take (i := 3) (v := ?v16) rfl (by kernel_rfl) (fun _ _ _ h => h) (Or.inl ⟨by rfl, ?hy16⟩) (by assumption) ?rest16
            case hy16 => (intro wS hSw; (try dsimp only at hSw); go_simp; try (with_reducible rfl))
            try simp only [Act.put, List.setIfInBounds_toArray, List.set_cons_zero, List.set_cons_succ]
            refine rh.go_take (i := 4) (v := ?v17) rfl (by kernel_rfl) (fun _ _ _ h => h) (Or.inl ⟨by rfl, ?hy17⟩) (by assumption) ?rest17
            case hy17 => (intro wS hSw; (try dsimp only at hSw); go_simp; try (with_reducible rfl))
            try simp only [Act.put, List.setIfInBounds_toArray, List.set_cons_zero, List.set_cons_succ]
            refine rh.go_take (i := 5) (v := ?v18) rfl (by kernel_rfl) (fun _ _ _ h => h) (Or.inl ⟨by rfl, ?hy18⟩) (by assumption) ?rest18
            case hy18 => (intro wS hSw; (try dsimp only at hSw); go_simp; try (with_reducible rfl))
            try simp only [Act.put, List.setIfInBounds_toArray, List.set_cons_zero, List.set_cons_succ]
            refine rh.go_take (i := 6) (v := ?v19) rfl (by kernel_rfl) (fun _ _ _ h => h) (Or.inl ⟨by rfl, ?hy19⟩) (by assumption) ?rest19
            case hy19 => (intro wS hSw; (try dsimp only at hSw); go_simp; try (with_reducible rfl))
            try simp only [Act.put, List.setIfInBounds_toArray, List.set_cons_zero, List.set_cons_succ]
            refine rh.go_take (i := 7) (v := ?v20) rfl (by kernel_rfl) (fun _ _ _ h => h) (Or.inl ⟨by rfl, ?hy20⟩) (by assumption) ?rest20
            case hy20 => (intro wS hSw; (try dsimp only at hSw); go_simp; try (with_reducible rfl))
            try simp only [Act.put, List.setIfInBounds_toArray, List.set_cons_zero, List.set_cons_succ]
            refine rh.go_take (i := 8) (v := ?v21) rfl (by kernel_rfl) (fun _ _ _ h => h) (Or.inl ⟨by rfl, ?hy21⟩) (by assumption) ?rest21
            case hy21 => (intro wS hSw; (try dsimp only at hSw); go_simp; try (with_reducible rfl))
            try simp only [Act.put, List.setIfInBounds_toArray, List.set_cons_zero, List.set_cons_succ]
            refine rh.go_take (i := 9) (v := ?v22) rfl (by kernel_rfl) (fun _ _ _ h => h) (Or.inl ⟨by rfl, ?hy22⟩) (by assumption) ?rest22
            case hy22 => (intro wS hSw; (try dsimp only at hSw); go_simp; try (with_reducible rfl))
            try simp only [Act.put, List.setIfInBounds_toArray, List.set_cons_zero, List.set_cons_succ]
            refine rh.go_take (i := 10) (v := ?v23) rfl (by kernel_rfl) (fun _ _ _ h => h) (Or.inl ⟨by rfl, ?hy23⟩) (by assumption) ?rest23
            case hy23 => (intro wS hSw; (try dsimp only at hSw); go_simp; try (with_reducible rfl))
            try simp only [Act.put, List.setIfInBounds_toArray, List.set_cons_zero, List.set_cons_succ]
            refine rh.go_take (i := 11) (v := ?v24) rfl (by kernel_rfl) (fun _ _ _ h => h) (Or.inl ⟨by rfl, ?hy24⟩) (by assumption) ?rest24
            case hy24 => (intro wS hSw; (try dsimp only at hSw); go_simp; try (with_reducible rfl))
            try simp only [Act.put, List.setIfInBounds_toArray, List.set_cons_zero, List.set_cons_succ]
            refine rh.go_take (i := 12) (v := ?v25) rfl (by kernel_rfl) (fun _ _ _ h => h) (Or.inl ⟨by rfl, ?hy25⟩) (by assumption) ?rest25
            case hy25 => (intro wS hSw; (try dsimp only at hSw); go_simp; try (with_reducible rfl))
            try simp only [Act.put, List.setIfInBounds_toArray, List.set_cons_zero, List.set_cons_succ]
            refine rh.go_take (i := 13) (v := ?v26) rfl (by kernel_rfl) (fun _ _ _ h => h) (Or.inl ⟨by rfl, ?hy26⟩) (by assumption) ?rest26
            case hy26 => (intro wS hSw; (try dsimp only at hSw); go_simp; try (with_reducible rfl))
            try simp only [Act.put, List.setIfInBounds_toArray, List.set_cons_zero, List.set_cons_succ]
            refine rh.go_take (i := 14) (v := ?v27) rfl (by kernel_rfl) (fun _ _ _ h => h) (Or.inl ⟨by rfl, ?hy27⟩) (by assumption) ?rest27
            case hy27 => (intro wS hSw; (try dsimp only at hSw); go_simp; try (with_reducible rfl))
            try simp only [Act.put, List.setIfInBounds_toArray, List.set_cons_zero, List.set_cons_succ]
            refine rh.go_take (i := 15) (v := ?v28) rfl (by kernel_rfl) (fun _ _ _ h => h) (Or.inl ⟨by rfl, ?hy28⟩) (by assumption) ?rest28
            case hy28 => (intro wS hSw; (try dsimp only at hSw); go_simp; try (with_reducible rfl))
            try simp only [Act.put, List.setIfInBounds_toArray, List.set_cons_zero, List.set_cons_succ]
            refine rh.go_take (i := 16) (v := ?v29) rfl (by kernel_rfl) (fun _ _ _ h => h) (Or.inl ⟨by rfl, ?hy29⟩) (by assumption) ?rest29
            case hy29 => (intro wS hSw; (try dsimp only at hSw); go_simp; try (with_reducible rfl))
            try simp only [Act.put, List.setIfInBounds_toArray, List.set_cons_zero, List.set_cons_succ]
            refine rh.go_take (i := 17) (v := ?v30) rfl (by kernel_rfl) (fun _ _ _ h => h) (Or.inl ⟨by rfl, ?hy30⟩) (by assumption) ?rest30
            case hy30 => (intro wS hSw; (try dsimp only at hSw); go_simp; try (with_reducible rfl))
            try simp only [Act.put, List.setIfInBounds_toArray, List.set_cons_zero, List.set_cons_succ]
            refine rh.go_take (i := 18) (v := ?v31) rfl (by kernel_rfl) (fun _ _ _ h => h) (Or.inl ⟨by rfl, ?hy31⟩) (by assumption) ?rest31
            case hy31 => (intro wS hSw; (try dsimp only at hSw); go_simp; try (with_reducible rfl))
            try simp only [Act.put, List.setIfInBounds_toArray, List.set_cons_zero, List.set_cons_succ]
            refine rh.go_take (i := 20) (v := ?v32) rfl (by kernel_rfl) (fun _ _ _ h => h) (Or.inl ⟨by rfl, ?hy32⟩) (by assumption) ?rest32
            case hy32 => (intro wS hSw; (try dsimp only at hSw); go_simp; try (with_reducible rfl))
            try simp only [Act.put, List.setIfInBounds_toArray, List.set_cons_zero, List.set_cons_succ]
            refine rh.go_next (i := 19) rfl (by kernel_rfl) (fun K2 hK => ?_)
            (go_simp; go_at_call 73; refine (CT _ hwD).mono ?_; rintro e w2 ⟨rfl, rfl⟩; go_wp2_with fail)
            refine hK.out _ _ ?_ (fun hHeld => ?_)
            · ((try dsimp only); exact HS3.out _ (by go_grown))
            clear hK K2
            try simp only [Act.put, List.setIfInBounds_toArray, List.set_cons_zero, List.set_cons_succ]
            refine rh.go_take (i := 21) (v := ?v33) rfl (by kernel_rfl) (fun _ _ _ h => h) (Or.inl ⟨by rfl, ?hy33⟩) (by assumption) ?rest33
            case hy33 => (intro wS hSw; (try dsimp only at hSw); go_simp; try (with_reducible rfl))
            try simp only [Act.put, List.setIfInBounds_toArray, List.set_cons_zero, List.set_cons_succ]
            refine rh.go_take (i := 22) (v := ?v34) rfl (by kernel_rfl) (fun _ _ _ h => h) (Or.inl ⟨by rfl, ?hy34⟩) (by assumption) ?rest34
            case hy34 => (intro wS hSw; (try dsimp only at hSw); go_simp; try (with_reducible rfl))
            try simp only [Act.put, List.setIfInBounds_toArray, List.set_cons_zero, List.set_cons_succ]
            refine rh.go_last rfl (by kernel_rfl) (fun K2 hK => ?_)
            go_simp
            refine hK.out _ _ ?_
            refine NoPanic.normal ?_
            clear hK K2
            have hnx := (HS1.out.on (Below.refl wr.heap.size wr).drew).next HT.out HX.out HTk.out HL1.out HIl.out.len.symm ((rowR_here (HRw.out.on (Below.refl wr.heap.size wr).drew)).wide hwo2 (Nat.le_refl _)) (fun j hj hno e => by
              have hin := (HM.out.mid.lnk j hj)
              rcases hin with ⟨e0, _⟩ | ⟨g, f, e0, _, h2, _⟩
              · exact hno (by rw [← e, e0])
              · have := HRw.out.in_ (g := g) (by rw [blk, ← e, e0]); omega) hβg hg1
            rw [Int.toNat_natCast, HMT.out] at hnx
            go_wp2_with fail
            go_roundw
            case rel => exact ⟨k + 1, _, _, by omega, by go_num, hnx⟩
            case measure => simp [intOf]; omega
      · obtain rfl : n1 = k := by omega
        have hW2 := HM.out.bel
        have hβ2 : β < wo.heap.size := by have := HM.out.sz; omega
        go_wp2_with fail
        clear x0 x1 x2 x3 x4 x5 y0 y1 y2 y3 y4 y5
        go_loopw [11] (fun i wr => ∃ (j : Nat) (v : Value), j ≤ n2 ∧ i = .int .i64 j ∧ wr.ownsRow wo.heap.size 3 1 v j (((b.sites.take j).map (mvP ts)).map (Value.int .i64)) ∧ BoxAt wr β 31 (.int .i64 b.roots) (.slice (some ⟨g1, 0, none⟩) n1 n1) v (.int .i64 b.edges) (.slice B4 n4 e4) (.slice none 0 0) ∧ Cb wo wr β) (fun i _ => n2 - (intOf i).toNat)
        case atStart => exact ⟨0, .slice none 0 0, Nat.zero_le _, rfl, World.ownsRow_nil _ _ _ _, HM.out.box, Cb.refl _ _⟩
        case round =>
          obtain ⟨j, v, hj, rfl, hown, hbo, hcb⟩ := hrel
          have hb3 := hcb.out hW2 hβ
          have hbw3 := HB0.out.trans (hb3.mono HB0.out.size)
          have hwo3 := hcb.size
          obtain ⟨x0, x1, x2, x3, x4, x5⟩ := (HBox.out.below hb3 hUs).get
          by_cases hlj : j < n2
          · obtain ⟨bs, offs, z, rfl, hbs, hz, cz⟩ := h2.get hlj
            have hzr := HGs.out.2.2.1 j z hz
            have hroots := HGs.out.2.2.2.2.1
            have hzn : z < n1 := by have := hzr.2; have := HL1.out; omega
            obtain ⟨T, hT⟩ : ∃ T, mvP ts z = T := ⟨_, rfl⟩
            have CT := fun Y hY => hT ▸ HMv.out z Y hY hzn (by omega)
            have HTk2 : Hid (((b.sites.take (j + 1)).map (mvP ts)).map (Value.int .i64) = ((b.sites.take j).map (mvP ts)).map (Value.int .i64) ++ [.int .i64 T]) := Lib.hid (by rw [take_snoc hz, List.map_append, List.map_append, ← hT]; rfl)
            obtain ⟨D, hD⟩ : ∃ D, ((b.sites.take j).map (mvP ts)).map (Value.int .i64) = D := ⟨_, rfl⟩
            rw [hD] at hown HTk2
            have HO := Lib.hid hown
            have HBo := Lib.hid hbo
            have HCb := Lib.hid hcb
            have hgt : ∀ j', v.ownBlock = some j' → wo.heap.size ≤ j' := fun j' e => (hown.lt j' e).1
            have n1' : some β ≠ v.ownBlock := fun e => by have := (hown.lt _ e.symm).1; omega
            have e1 : j + 1 ≤ maxLen := by unfold maxLen; omega
            have e2 : (j + 1) * 8 ≤ 140737488355328 := by omega
            have e4' : ∀ u ∈ [Value.int .i64 T], u.oneCell' = true := fun u hu => by rw [List.mem_singleton.1 hu]; rfl
            have hkD := (Below.refl wr.heap.size wr).drew
            have hkDw := hkD.mono hwo3
            have HS4 : Hid (∀ w', Below wo.heap.size wr w' → (w'.cell? ⟨w.heap.size, 0, none⟩ = some (.int .i64 b.roots) ∧ w'.cell? ⟨w.heap.size, 1, none⟩ = some (.slice A1 n1 c1) ∧ w'.cell? ⟨w.heap.size, 2, none⟩ = some (.slice (some ⟨bs, offs, none⟩) n2 c2) ∧ w'.cell? ⟨w.heap.size, 3, none⟩ = some (.int .i64 b.edges) ∧ w'.cell? ⟨w.heap.size, 4, none⟩ = some (.slice A4 n4 c4) ∧ w'.cell? ⟨w.heap.size, 5, none⟩ = some (.slice A5 n5 c5)) ∧ (w'.cell? ⟨bs, offs + j, none⟩ = some (.int .i64 z) ∧ w'.cell? ⟨β, 2, none⟩ = some v)) := Lib.hid (fun w' hq => ⟨((HBox.out.below hb3 hUs).below hq (by omega)).get, (hq.cell (p := ⟨bs, offs + j, none⟩) (by dsimp only; omega)).trans ((hbw3.cell (p := ⟨bs, offs + j, none⟩) hbs).trans cz), (HBo.out.below hq hβ2).get.2.2.1⟩)
            have hwD := hbw3.drew
            have hkA := hkD.alloc hkD.size (.cells #[.int .i64 T] 3)
            have HkA := Lib.hid hkA
            have HOA := Lib.hid (owns_on HO.out hkA)
            have HBoA := Lib.hid (HBo.out.on hkA)
            have e3 := Nat.le_trans hwo3 hkA.size
            clear hz cz hT hown hbo hcb hb3 hD hkA
            go_wp2_with fail
            clear x0 x1 x2 x3 x4 x5
            refine rh.go_begin 12 (fun w' => (w'.cell? ⟨w.heap.size, 0, none⟩ = some (.int .i64 b.roots) ∧ w'.cell? ⟨w.heap.size, 1, none⟩ = some (.slice A1 n1 c1) ∧ w'.cell? ⟨w.heap.size, 2, none⟩ = some (.slice (some ⟨bs, offs, none⟩) n2 c2) ∧ w'.cell? ⟨w.heap.size, 3, none⟩ = some (.int .i64 b.edges) ∧ w'.cell? ⟨w.heap.size, 4, none⟩ = some (.slice A4 n4 c4) ∧ w'.cell? ⟨w.heap.size, 5, none⟩ = some (.slice A5 n5 c5)) ∧ (w'.cell? ⟨bs, offs + j, none⟩ = some (.int .i64 z) ∧ w'.cell? ⟨β, 2, none⟩ = some v)) (by kernel_rfl) ?_ (fun hHeld => ?_)
            · ((try dsimp only); exact HS4.out _ (by go_grown))
            refine rh.go_take (i := 0) (v := ?v35) rfl (by kernel_rfl) (fun _ _ _ h => h) (Or.inl ⟨by rfl, ?hy35⟩) (by assumption) ?rest35
            case hy35 => (intro wS hSw; (try dsimp only at hSw); go_simp; try (with_reducible rfl))
            try simp only [Act.put, List.setIfInBounds_toArray, List.set_cons_zero, List.set_cons_succ]
            refine rh.go_take (i := 1) (v := ?v36) rfl (by kernel_rfl) (fun _ _ _ h => h) (Or.inl ⟨by rfl, ?hy36⟩) (by assumption) ?rest36
            case hy36 => (intro wS hSw; (try dsimp only at hSw); go_simp; try (with_reducible rfl))
            try simp only [Act.put, List.setIfInBounds_toArray, List.set_cons_zero, List.set_cons_succ]
            refine rh.go_take (i := 2) (v := ?v37) rfl (by kernel_rfl) (fun _ _ _ h => h) (Or.inl ⟨by rfl, ?hy37⟩) (by assumption) ?rest37
            case hy37 => (intro wS hSw; (try dsimp only at hSw); go_simp; try (with_reducible rfl))
            try simp only [Act.put, List.setIfInBounds_toArray, List.set_cons_zero, List.set_cons_succ]
            refine rh.go_take (i := 3) (v := ?v38) rfl (by kernel_rfl) (fun _ _ _ h => h) (Or.inl ⟨by rfl, ?hy38⟩) (by assumption) ?rest38
            case hy38 => (intro wS hSw; (try dsimp only at hSw); go_simp; try (with_reducible rfl))
            try simp only [Act.put, List.setIfInBounds_toArray, List.set_cons_zero, List.set_cons_succ]
            refine rh.go_take (i := 4) (v := ?v39) rfl (by kernel_rfl) (fun _ _ _ h => h) (Or.inl ⟨by rfl, ?hy39⟩) (by assumption) ?rest39
            case hy39 => (intro wS hSw; (try dsimp only at hSw); go_simp; try (with_reducible rfl))
            try simp only [Act.put, List.setIfInBounds_toArray, List.set_cons_zero, List.set_cons_succ]
            refine rh.go_take (i := 5) (v := ?v40) rfl (by kernel_rfl) (fun _ _ _ h => h) (Or.inl ⟨by rfl, ?hy40⟩) (by assumption) ?rest40
            case hy40 => (intro wS hSw; (try dsimp only at hSw); go_simp; try (with_reducible rfl))
            try simp only [Act.put, List.setIfInBounds_toArray, List.set_cons_zero, List.set_cons_succ]
            refine rh.go_take (i := 6) (v := ?v41) rfl (by kernel_rfl) (fun _ _ _ h => h) (Or.inl ⟨by rfl, ?hy41⟩) (by assumption) ?rest41
            case hy41 => (intro wS hSw; (try dsimp only at hSw); go_simp; try (with_reducible rfl))
            try simp only [Act.put, List.setIfInBounds_toArray, List.set_cons_zero, List.set_cons_succ]
            refine rh.go_take (i := 7) (v := ?v42) rfl (by kernel_rfl) (fun _ _ _ h => h) (Or.inl ⟨by rfl, ?hy42⟩) (by assumption) ?rest42
            case hy42 => (intro wS hSw; (try dsimp only at hSw); go_simp; try (with_reducible rfl))
            try simp only [Act.put, List.setIfInBounds_toArray, List.set_cons_zero, List.set_cons_succ]
            refine rh.go_next (i := 8) rfl (by kernel_rfl) (fun K2 hK => ?_)
            (go_simp; go_at_call 73; refine (CT _ hwD).mono ?_; rintro e w2 ⟨rfl, rfl⟩; go_wp2_with fail)
            refine hK.out _ _ ?_ (fun hHeld => ?_)
            · ((try dsimp only); exact HS4.out _ (by go_grown))
            clear hK K2
            try simp only [Act.put, List.setIfInBounds_toArray, List.set_cons_zero, List.set_cons_succ]
            refine rh.go_next (i := 9) rfl (by kernel_rfl) (fun K2 hK => ?_)
            go_simp
            refine hK.out _ _ ?_ (fun hHeld => ?_)
            · ((try dsimp only); exact HS4.out _ (by go_grown))
            clear hK K2
            try simp only [Act.put, List.setIfInBounds_toArray, List.set_cons_zero, List.set_cons_succ]
            refine rh.go_next (i := 10) rfl (by kernel_rfl) (fun K2 hK => ?_)
            (refine step_append_own rfl _ _ 27 rfl wo.heap.size 3 i1 (.int .i64 0) 1 8 Tryz.underlying27 HI1.out.1 HI1.out.2.1 HI1.out.2.2.1 HI1.out.2.2.2 rfl (by decide) _ _ _ (by first | rfl | simp [Act.eval, Act.put]) HOA.out ⟨wr.drew.heap.size, 0, none⟩ 1 1 [.int .i64 T] (by first | rfl | simp [Act.eval, Act.put]) rfl (cell_one_new _ _ _) e4' e1 e2 e3 ?_; intro v1 w3 hown1 hgrow1 hnil1; obtain ⟨A1', c1', rfl, -⟩ := rowR_owns hown1; have HOw3 := Lib.hid hown1; have hq3 := (HkA.out.mono hwo3).grown hgrow1 e3 (fun j' hj' => (HOA.out.lt j' hj').1); have HBo3 := Lib.hid (HBoA.out.kept hgrow1 n1'); have HCb3 := Lib.hid (HCb.out.below hq3); have hq3s := hq3.size; clear hgrow1 hnil1 hown1; (try go_simp))
            refine hK.out _ _ ?_ (fun hHeld => ?_)
            · ((try dsimp only); exact HS4.out _ (by go_grown))
            clear hK K2
            try simp only [Act.put, List.setIfInBounds_toArray, List.set_cons_zero, List.set_cons_succ]
            refine rh.go_take (i := 11) (v := ?v43) rfl (by kernel_rfl) (fun _ _ _ h => h) (Or.inl ⟨by rfl, ?hy43⟩) (by assumption) ?rest43
            case hy43 => (intro wS hSw; (try dsimp only at hSw); go_simp; try (with_reducible rfl))
            try simp only [Act.put, List.setIfInBounds_toArray, List.set_cons_zero, List.set_cons_succ]
            obtain ⟨y0, y1, y2, y3, y4, y5⟩ := HBo3.out.get
            have g2 := World.rowIs.frozen HBo3.out 2
            refine rh.go_last rfl (by kernel_rfl) (fun K2 hK => ?_)
            go_simp
            refine hK.out _ _ ?_
            refine NoPanic.normal ?_
            clear hK K2
            go_wp2_with fail
            go_roundw
            case rel => exact ⟨j + 1, _, by omega, by go_num, by rw [HTk2.out]; exact owns_set HOw3.out hβ2, HBo3.out.put2 _, HCb3.out.set 2 _⟩
            case measure => simp [intOf]; omega
          · obtain rfl : n2 = j := by omega
            rw [List.take_of_length_le (by rw [HL2.out]; exact Nat.le_refl _)] at hown
            obtain ⟨A2o, c2o, rfl, hrs⟩ := ints_owned hown
            have hls : (b.sites.map (mvP ts)).length = n2 := by rw [List.length_map]; exact HL2.out
            rw [hls] at hrs hbo
            have HRs := Lib.hid hrs
            have HBo3 := Lib.hid hbo
            have HCb3 := Lib.hid hcb
            have HB3 := Lib.hid hb3
            have hβ3 : β < wr.heap.size := by omega
            obtain ⟨w3, hw3⟩ : ∃ w3, wr = w3 := ⟨_, rfl⟩
            rw [hw3] at HRs HBo3 HCb3 HB3 hβ3 hwo3 ⊢
            obtain ⟨IN, hIN⟩ : ∃ IN : List Wr, (rnB b ts es).inner = IN := ⟨_, rfl⟩
            have HIN := Lib.hid hIN
            have hINl : IN.length = n5 := by rw [← hIN]; show (b.inner.map _).length = _; rw [List.length_map]; exact HL5.out
            have HINl := Lib.hid hINl
            have x5' := x5
            rw [hw3] at x0 x1 x2 x3 x4 x5
            clear hown hrs hbo hcb hb3 hbw3 hls hw3 hIN x5'
            go_wp2_with fail
            clear x0 x1 x2 x3 x4 x5
            go_loopw [12] (fun i wr => ∃ (j : Nat) (v : Value), j ≤ n5 ∧ i = .int .i64 j ∧ wr.ownsRow w3.heap.size 80 2 v j (wcs (IN.take j)) ∧ BoxAt wr β 31 (.int .i64 b.roots) (.slice (some ⟨g1, 0, none⟩) n1 n1) (.slice A2o n2 c2o) (.int .i64 b.edges) (.slice B4 n4 e4) v ∧ Cb w3 wr β) (fun i _ => n5 - (intOf i).toNat)
            case atStart => exact ⟨0, .slice none 0 0, Nat.zero_le _, rfl, World.ownsRow_nil _ _ _ _, HBo3.out, Cb.refl _ _⟩
            case round =>
              obtain ⟨j, v, hj, rfl, hown, hbo, hcb⟩ := hrel
              have hb4 := hcb.out HB3.out hβ
              have hbw4 := HB0.out.trans (hb4.mono HB0.out.size)
              have hw34 := hcb.size
              have hU3 := HB3.out.size
              obtain ⟨x0, x1, x2, x3, x4, x5⟩ := (HBox.out.below hb4 hUs).get
              by_cases hlj : j < n5
              · obtain ⟨bs, offs, z, rfl, hbs, hz, cz0, cz1⟩ := h5.get hlj
                have hzr := HG.out.bw _ (List.mem_of_getElem? hz)
                obtain ⟨T, hT⟩ : ∃ T, tieF b.edges es z.link = T := ⟨_, rfl⟩
                have CT := fun Y hY => hT ▸ HTie.out z.link Y hY hzr
                have HTk2 : Hid (wcs (IN.take (j + 1)) = wcs (IN.take j) ++ [.string z.name, .int .i64 T]) := Lib.hid (by rw [take_snoc (s := (⟨z.name, T⟩ : Wr)) (by rw [← HIN.out]; show (b.inner.map _)[j]? = _; rw [List.getElem?_map, hz, ← hT]; rfl), wcs_snoc])
                obtain ⟨D, hD⟩ : ∃ D, wcs (IN.take j) = D := ⟨_, rfl⟩
                rw [hD] at hown HTk2
                have HO := Lib.hid hown
                have HBo := Lib.hid hbo
                have HCb := Lib.hid hcb
                have n1' : some β ≠ v.ownBlock := fun e => by have := (hown.lt _ e.symm).1; omega
                have e1 : j + 1 ≤ maxLen := by unfold maxLen; omega
                have e2 : (j + 1) * 24 ≤ 140737488355328 := by omega
                have e4' : ∀ u ∈ [Value.string z.name, Value.int .i64 T], u.oneCell' = true := fun u hu => by
                  simp at hu
                  rcases hu with rfl | rfl <;> rfl
                have hkD := (Below.refl wr.heap.size wr).drew
                have hkDw := hkD.mono hw34
                have HS5 : Hid (∀ w', Below w3.heap.size wr w' → (w'.cell? ⟨w.heap.size, 0, none⟩ = some (.int .i64 b.roots) ∧ w'.cell? ⟨w.heap.size, 1, none⟩ = some (.slice A1 n1 c1) ∧ w'.cell? ⟨w.heap.size, 2, none⟩ = some (.slice A2 n2 c2) ∧ w'.cell? ⟨w.heap.size, 3, none⟩ = some (.int .i64 b.edges) ∧ w'.cell? ⟨w.heap.size, 4, none⟩ = some (.slice A4 n4 c4) ∧ w'.cell? ⟨w.heap.size, 5, none⟩ = some (.slice (some ⟨bs, offs, none⟩) n5 c5)) ∧ (w'.cell? ⟨bs, offs + j * 2, none⟩ = some (.string z.name) ∧ w'.cell? ⟨bs, offs + j * 2 + 1, none⟩ = some (.int .i64 z.link) ∧ w'.cell? ⟨β, 5, none⟩ = some v)) := Lib.hid (fun w' hq => ⟨((HBox.out.below hb4 hUs).below hq (by omega)).get, (hq.cell (p := ⟨bs, offs + j * 2, none⟩) (by dsimp only; omega)).trans ((hbw4.cell (p := ⟨bs, offs + j * 2, none⟩) hbs).trans cz0), (hq.cell (p := ⟨bs, offs + j * 2 + 1, none⟩) (by dsimp only; omega)).trans ((hbw4.cell (p := ⟨bs, offs + j * 2 + 1, none⟩) hbs).trans cz1), (HBo.out.below hq hβ3).get.2.2.2.2.2⟩)
                have hwD := hbw4.drew
                clear hz cz0 cz1 hT hown hbo hcb hb4 hD
                go_wp2_with fail
                clear x0 x1 x2 x3 x4 x5
                refine rh.go_begin 21 (fun w' => (w'.cell? ⟨w.heap.size, 0, none⟩ = some (.int .i64 b.roots) ∧ w'.cell? ⟨w.heap.size, 1, none⟩ = some (.slice A1 n1 c1) ∧ w'.cell? ⟨w.heap.size, 2, none⟩ = some (.slice A2 n2 c2) ∧ w'.cell? ⟨w.heap.size, 3, none⟩ = some (.int .i64 b.edges) ∧ w'.cell? ⟨w.heap.size, 4, none⟩ = some (.slice A4 n4 c4) ∧ w'.cell? ⟨w.heap.size, 5, none⟩ = some (.slice (some ⟨bs, offs, none⟩) n5 c5)) ∧ (w'.cell? ⟨bs, offs + j * 2, none⟩ = some (.string z.name) ∧ w'.cell? ⟨bs, offs + j * 2 + 1, none⟩ = some (.int .i64 z.link) ∧ w'.cell? ⟨β, 5, none⟩ = some v)) (by kernel_rfl) ?_ (fun hHeld => ?_)
                · ((try dsimp only); exact HS5.out _ (by go_grown))
                refine rh.go_take (i := 0) (v := ?v44) rfl (by kernel_rfl) (fun _ _ _ h => h) (Or.inl ⟨by rfl, ?hy44⟩) (by assumption) ?rest44
                case hy44 => (intro wS hSw; (try dsimp only at hSw); go_simp; try (with_reducible rfl))
                try simp only [Act.put, List.setIfInBounds_toArray, List.set_cons_zero, List.set_cons_succ]
                refine rh.go_take (i := 1) (v := ?v45) rfl (by kernel_rfl) (fun _ _ _ h => h) (Or.inl ⟨by rfl, ?hy45⟩) (by assumption) ?rest45
                case hy45 => (intro wS hSw; (try dsimp only at hSw); go_simp; try (with_reducible rfl))
                try simp only [Act.put, List.setIfInBounds_toArray, List.set_cons_zero, List.set_cons_succ]
                refine rh.go_take (i := 2) (v := ?v46) rfl (by kernel_rfl) (fun _ _ _ h => h) (Or.inl ⟨by rfl, ?hy46⟩) (by assumption) ?rest46
                case hy46 => (intro wS hSw; (try dsimp only at hSw); go_simp; try (with_reducible rfl))
                try simp only [Act.put, List.setIfInBounds_toArray, List.set_cons_zero, List.set_cons_succ]
                refine rh.go_take (i := 3) (v := ?v47) rfl (by kernel_rfl) (fun _ _ _ h => h) (Or.inl ⟨by rfl, ?hy47⟩) (by assumption) ?rest47
                case hy47 => (intro wS hSw; (try dsimp only at hSw); go_simp; try (with_reducible rfl))
                try simp only [Act.put, List.setIfInBounds_toArray, List.set_cons_zero, List.set_cons_succ]
                refine rh.go_take (i := 4) (v := ?v48) rfl (by kernel_rfl) (fun _ _ _ h => h) (Or.inl ⟨by rfl, ?hy48⟩) (by assumption) ?rest48
                case hy48 => (intro wS hSw; (try dsimp only at hSw); go_simp; try (with_reducible rfl))
                try simp only [Act.put, List.setIfInBounds_toArray, List.set_cons_zero, List.set_cons_succ]
                refine rh.go_take (i := 5) (v := ?v49) rfl (by kernel_rfl) (fun _ _ _ h => h) (Or.inl ⟨by rfl, ?hy49⟩) (by assumption) ?rest49
                case hy49 => (intro wS hSw; (try dsimp only at hSw); go_simp; try (with_reducible rfl))
                try simp only [Act.put, List.setIfInBounds_toArray, List.set_cons_zero, List.set_cons_succ]
                refine rh.go_take (i := 6) (v := ?v50) rfl (by kernel_rfl) (fun _ _ _ h => h) (Or.inl ⟨by rfl, ?hy50⟩) (by assumption) ?rest50
                case hy50 => (intro wS hSw; (try dsimp only at hSw); go_simp; try (with_reducible rfl))
                try simp only [Act.put, List.setIfInBounds_toArray, List.set_cons_zero, List.set_cons_succ]
                refine rh.go_take (i := 7) (v := ?v51) rfl (by kernel_rfl) (fun _ _ _ h => h) (Or.inl ⟨by rfl, ?hy51⟩) (by assumption) ?rest51
                case hy51 => (intro wS hSw; (try dsimp only at hSw); go_simp; try (with_reducible rfl))
                try simp only [Act.put, List.setIfInBounds_toArray, List.set_cons_zero, List.set_cons_succ]
                refine rh.go_take (i := 8) (v := ?v52) rfl (by kernel_rfl) (fun _ _ _ h => h) (Or.inl ⟨by rfl, ?hy52⟩) (by assumption) ?rest52
                case hy52 => (intro wS hSw; (try dsimp only at hSw); go_simp; try (with_reducible rfl))
                try simp only [Act.put, List.setIfInBounds_toArray, List.set_cons_zero, List.set_cons_succ]
                refine rh.go_take (i := 9) (v := ?v53) rfl (by kernel_rfl) (fun _ _ _ h => h) (Or.inl ⟨by rfl, ?hy53⟩) (by assumption) ?rest53
                case hy53 => (intro wS hSw; (try dsimp only at hSw); go_simp; try (with_reducible rfl))
                try simp only [Act.put, List.setIfInBounds_toArray, List.set_cons_zero, List.set_cons_succ]
                refine rh.go_take (i := 10) (v := ?v54) rfl (by kernel_rfl) (fun _ _ _ h => h) (Or.inl ⟨by rfl, ?hy54⟩) (by assumption) ?rest54
                case hy54 => (intro wS hSw; (try dsimp only at hSw); go_simp; try (with_reducible rfl))
                try simp only [Act.put, List.setIfInBounds_toArray, List.set_cons_zero, List.set_cons_succ]
                refine rh.go_take (i := 11) (v := ?v55) rfl (by kernel_rfl) (fun _ _ _ h => h) (Or.inl ⟨by rfl, ?hy55⟩) (by assumption) ?rest55
                case hy55 => (intro wS hSw; (try dsimp only at hSw); go_simp; try (with_reducible rfl))
                try simp only [Act.put, List.setIfInBounds_toArray, List.set_cons_zero, List.set_cons_succ]
                refine rh.go_take (i := 12) (v := ?v56) rfl (by kernel_rfl) (fun _ _ _ h => h) (Or.inl ⟨by rfl, ?hy56⟩) (by assumption) ?rest56
                case hy56 => (intro wS hSw; (try dsimp only at hSw); go_simp; try (with_reducible rfl))
                try simp only [Act.put, List.setIfInBounds_toArray, List.set_cons_zero, List.set_cons_succ]
                refine rh.go_take (i := 13) (v := ?v57) rfl (by kernel_rfl) (fun _ _ _ h => h) (Or.inl ⟨by rfl, ?hy57⟩) (by assumption) ?rest57
                case hy57 => (intro wS hSw; (try dsimp only at hSw); go_simp; try (with_reducible rfl))
                try simp only [Act.put, List.setIfInBounds_toArray, List.set_cons_zero, List.set_cons_succ]
                refine rh.go_take (i := 14) (v := ?v58) rfl (by kernel_rfl) (fun _ _ _ h => h) (Or.inl ⟨by rfl, ?hy58⟩) (by assumption) ?rest58
                case hy58 => (intro wS hSw; (try dsimp only at hSw); go_simp; try (with_reducible rfl))
                try simp only [Act.put, List.setIfInBounds_toArray, List.set_cons_zero, List.set_cons_succ]
                refine rh.go_take (i := 15) (v := ?v59) rfl (by kernel_rfl) (fun _ _ _ h => h) (Or.inl ⟨by rfl, ?hy59⟩) (by assumption) ?rest59
                case hy59 => (intro wS hSw; (try dsimp only at hSw); go_simp; try (with_reducible rfl))
                try simp only [Act.put, List.setIfInBounds_toArray, List.set_cons_zero, List.set_cons_succ]
                refine rh.go_next (i := 16) rfl (by kernel_rfl) (fun K2 hK => ?_)
                (go_simp; go_at_call 72; refine (CT _ hwD).mono ?_; rintro e w2 ⟨rfl, hb⟩; have hk2 := hkD.trans (hb.mono hkD.size); have hk2w := hk2.mono hw34; have hk2s := hk2w.size; have hkA := hk2.alloc hk2.size (.cells #[.string z.name, .int .i64 T] 80); have HkA := Lib.hid hkA; have HOA := Lib.hid (owns_on HO.out hkA); have HBoA := Lib.hid (HBo.out.on hkA); have e3 := Nat.le_trans hw34 hkA.size; clear hb hkA; go_wp2_with fail)
                refine hK.out _ _ ?_ (fun hHeld => ?_)
                · ((try dsimp only); exact HS5.out _ (by go_grown))
                clear hK K2
                try simp only [Act.put, List.setIfInBounds_toArray, List.set_cons_zero, List.set_cons_succ]
                refine rh.go_take (i := 17) (v := ?v60) rfl (by kernel_rfl) (fun _ _ _ h => h) (Or.inl ⟨by rfl, ?hy60⟩) (by assumption) ?rest60
                case hy60 => (intro wS hSw; (try dsimp only at hSw); go_simp; try (with_reducible rfl))
                try simp only [Act.put, List.setIfInBounds_toArray, List.set_cons_zero, List.set_cons_succ]
                refine rh.go_next (i := 18) rfl (by kernel_rfl) (fun K2 hK => ?_)
                go_simp
                refine hK.out _ _ ?_ (fun hHeld => ?_)
                · ((try dsimp only); exact HS5.out _ (by go_grown))
                clear hK K2
                try simp only [Act.put, List.setIfInBounds_toArray, List.set_cons_zero, List.set_cons_succ]
                refine rh.go_next (i := 19) rfl (by kernel_rfl) (fun K2 hK => ?_)
                (refine step_append_own rfl _ _ 29 rfl w3.heap.size 80 i2 (.agg #[.string ⟨#[]⟩, .int .i64 0]) 2 24 Tryz.underlying29 HI2.out.1 HI2.out.2.1 HI2.out.2.2.1 HI2.out.2.2.2 rfl (by decide) _ _ _ (by first | rfl | simp [Act.eval, Act.put]) HOA.out ⟨w2.heap.size, 0, none⟩ 1 1 [.string z.name, .int .i64 T] (by first | rfl | simp [Act.eval, Act.put]) rfl (cells_two_new w2 (.string z.name) (.int .i64 T) 80) e4' e1 e2 e3 ?_; intro v1 w5 hown1 hgrow1 hnil1; obtain ⟨A1', c1', rfl, -⟩ := rowR_owns hown1; have HOw5 := Lib.hid hown1; have hq5 := (HkA.out.mono hw34).grown hgrow1 e3 (fun j' hj' => (HOA.out.lt j' hj').1); have HBo5 := Lib.hid (HBoA.out.kept hgrow1 n1'); have HCb5 := Lib.hid (HCb.out.below hq5); have hq5s := hq5.size; clear hgrow1 hnil1 hown1; (try go_simp))
                refine hK.out _ _ ?_ (fun hHeld => ?_)
                · ((try dsimp only); exact HS5.out _ (by go_grown))
                clear hK K2
                try simp only [Act.put, List.setIfInBounds_toArray, List.set_cons_zero, List.set_cons_succ]
                refine rh.go_take (i := 20) (v := ?v61) rfl (by kernel_rfl) (fun _ _ _ h => h) (Or.inl ⟨by rfl, ?hy61⟩) (by assumption) ?rest61
                case hy61 => (intro wS hSw; (try dsimp only at hSw); go_simp; try (with_reducible rfl))
                try simp only [Act.put, List.setIfInBounds_toArray, List.set_cons_zero, List.set_cons_succ]
                obtain ⟨y0, y1, y2, y3, y4, y5⟩ := HBo5.out.get
                have g5 := World.rowIs.frozen HBo5.out 5
                refine rh.go_last rfl (by kernel_rfl) (fun K2 hK => ?_)
                go_simp
                refine hK.out _ _ ?_
                refine NoPanic.normal ?_
                clear hK K2
                go_wp2_with fail
                go_roundw
                case rel => exact ⟨j + 1, _, by omega, by go_num, by rw [HTk2.out]; exact owns_set HOw5.out hβ3, HBo5.out.put5 _, HCb5.out.set 5 _⟩
                case measure => simp [intOf]; omega
              · obtain rfl : n5 = j := by omega
                rw [List.take_of_length_le (by rw [HINl.out]; exact Nat.le_refl _)] at hown
                obtain ⟨A5o, c5o, rfl, hrw⟩ := wrs_owned hown
                rw [HINl.out] at hrw hbo
                have hcb2 := HCb3.out.trans hcb
                have hmid := hcb2.mid HM.out.box HM.out.mid
                have hr4' := hcb2.row HM.out.box HM.out.r4 (by decide)
                have hrs' := hcb.row HBo3.out HRs.out (by decide)
                have hlw := HM.out.sz
                have HBig := Lib.hid (((RnMid.big (n2 := n2) (n4 := n4) (n5 := n5) (B2 := A2o) (B4 := B4) (B5 := A5o) (e2 := c2o) (e4 := e4) (e5 := c5o) (lo := U.heap.size) ⟨hmid.r1, fun i hi => (hmid.lnk i hi).wide hUW (Nat.le_refl _), hmid.ne⟩ HT.out HL1.out HL2.out HL4.out HL5.out hg1 (rowR_here (hrs'.wide hUo (Nat.le_refl _))) (fun i hi hno e => by
                  rcases HM.out.mid.lnk i hi with ⟨e0, _⟩ | ⟨g, f, e0, _, h2', _⟩
                  · exact hno e0
                  · have := HRs.out.in_ (g := g) (by rw [blk, ← e, e0]); omega) (rowR_here (hr4'.wide (Nat.le_refl _) (Nat.le_refl _))) (by rw [HIN.out]; exact rowR_here (hrw.wide (by omega) (Nat.le_refl _)))).here).wide (lo' := w.heap.size) (show w.heap.size ≤ U.heap.size by omega) (Nat.le_refl _))
                have HBxi := Lib.hid (HBx0.out.below hb4 (by omega))
                have HBl := Lib.hid hbw4
                obtain ⟨y0, y1, y2, y3, y4, y5⟩ := hbo.get
                obtain ⟨z0, z1, z2, z3, z4, z5⟩ := HBxi.out.get
                have f0 := World.rowIs.frozen HBxi.out 0
                have f1 := World.rowIs.frozen HBxi.out 1
                have f2 := World.rowIs.frozen HBxi.out 2
                have f3 := World.rowIs.frozen HBxi.out 3
                have f4 := World.rowIs.frozen HBxi.out 4
                have f5 := World.rowIs.frozen HBxi.out 5
                clear hown hbo hcb hcb2 hmid hr4' hrs' hrw
                go_wp2_with fail
                have hbig := (sets6_big HBxi.out HBig.out (.int .i64 b.roots) (.slice (some ⟨g1, 0, none⟩) n1 n1) (.slice A2o n2 c2o) (.int .i64 b.edges) (.slice B4 n4 e4) (.slice A5o n5 c5o)).here
                have hbel := sets6_below HBl.out (show w.heap.size ≤ w.heap.size + 1 from Nat.le_succ _) (.int .i64 b.roots) (.slice (some ⟨g1, 0, none⟩) n1 n1) (.slice A2o n2 c2o) (.int .i64 b.edges) (.slice B4 n4 e4) (.slice A5o n5 c5o)
                unfold sets6 at hbig hbel
                exact bodyPost_ret (v := .agg #[.int .i64 b.roots, .slice (some ⟨g1, 0, none⟩) n1 n1, .slice A2o n2 c2o, .int .i64 b.edges, .slice B4 n4 e4, .slice A5o n5 c5o]) (by simp [results, Tryz.results52, go_sem, z0, z1, z2, z3, z4, z5]) rfl ⟨_, rfl, hbig, hbel⟩
theorem rn_any (v : Value) (cs : List Ctl) (b : Big) (At : Option Addr) (nt ct : Nat) (ts : List Int) (Ae : Option Addr) (ne ce : Nat) (es : List Int) (w : World) (hv : BigAt w w.heap.size v b) (hN : NilV v) (hg : bigB cs b = true) (ht : IntsAt w w.heap.size At nt ts) (he : IntsAt w w.heap.size Ae ne es) (hT : EachP ts b.nodes.length) (hE : b.edges = ne) :
    Calls Tryz.prog 52 #[v, .slice At nt ct, .slice Ae ne ce] w fun e w' => ∃ v', e = .returned v' ∧ BigR w' w.heap.size w'.heap.size v' (rnB b ts es) ∧ Below w.heap.size w w' :=
  rn_gen v b At nt ct ts Ae ne ce es w hv hN (sane_of hg) ht he hT hE
end Go.Proofs.YtlpgldejmdiceabGreat.rn
end
