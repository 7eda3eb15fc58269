/- Two rows of Nodes as one; a row's cells as a list. -/
import Derived.Test.YtlpgldejmdiceabGreatCg
import Derived.Test.YtlpgldejmdiceabGreatRk
import Derived.Test.YtlpgldejmdiceabGreatUw
namespace Go.Proofs.YtlpgldejmdiceabGreat.nj
open kit bg sg opn strs only hb sig isig un over gn nm inn ht gd im pt marks eqs hc hi hw hn rs br bm bw cf lf ib isa lawb lw cl pl mb sb wb ek rn rnm tp wk rl ed mrp mrs nk idl lep psp rk cc cg uw
open Go.RowKit
set_option linter.unusedVariables false
set_option linter.unusedSimpArgs false
/-- one after the other -/
def jn {α : Type} (n : Nat) (f g : Nat → α) (k : Nat) : α := if k < n then f k else g (k - n)
section
variable {ns ms : List Nd} {LA LB : Nat → Option Addr} {LC LD : Nat → Nat}
theorem jn_lo {α : Type} {n k : Nat} {f g : Nat → α} (h : k < n) : jn n f g k = f k := if_pos h
theorem jn_hi {α : Type} {n k : Nat} {f g : Nat → α} : jn n f g (n + k) = g k := by unfold jn; rw [if_neg (by omega), Nat.add_sub_cancel_left]
theorem of_lo {k : Nat} (h : k < ns.length) : ctOf (ns ++ ms) k = ctOf ns k ∧ paOf (ns ++ ms) k = paOf ns k ∧ linksOf (ns ++ ms) k = linksOf ns k := by
  unfold ctOf paOf linksOf
  rw [List.getElem?_append_left h]
  exact ⟨rfl, rfl, rfl⟩
theorem of_hi {k : Nat} : ctOf (ns ++ ms) (ns.length + k) = ctOf ms k ∧ paOf (ns ++ ms) (ns.length + k) = paOf ms k ∧ linksOf (ns ++ ms) (ns.length + k) = linksOf ms k := by
  unfold ctOf paOf linksOf
  rw [List.getElem?_append_right (by omega), Nat.add_sub_cancel_left]
  exact ⟨rfl, rfl, rfl⟩
theorem ls_lo {k : Nat} (h : k < ns.length) : lsF (ns ++ ms) (jn ns.length LA LB) (jn ns.length LC LD) k = lsF ns LA LC k := by
  unfold lsF lnOf
  rw [(of_lo h).2.2, jn_lo h, jn_lo h]
theorem ls_hi {k : Nat} : lsF (ns ++ ms) (jn ns.length LA LB) (jn ns.length LC LD) (ns.length + k) = lsF ms LB LD k := by
  unfold lsF lnOf
  rw [of_hi.2.2, jn_hi, jn_hi]
theorem ndv_lo {x : Nat} (h : x < ns.length * 3) : ndv (ns ++ ms) (lsF (ns ++ ms) (jn ns.length LA LB) (jn ns.length LC LD)) x = ndv ns (lsF ns LA LC) x := by
  have hk : x / 3 < ns.length := by omega
  unfold ndv
  rw [(of_lo hk).1, (of_lo hk).2.1, ls_lo hk]
theorem ndv_hi {x : Nat} : ndv (ns ++ ms) (lsF (ns ++ ms) (jn ns.length LA LB) (jn ns.length LC LD)) (ns.length * 3 + x) = ndv ms (lsF ms LB LD) x := by
  have hm : (ns.length * 3 + x) % 3 = x % 3 := by omega
  have hd : (ns.length * 3 + x) / 3 = ns.length + x / 3 := by omega
  unfold ndv
  rw [hm, hd, of_hi.1, of_hi.2.1, ls_hi]
/-- two rows of Nodes, laid one behind the other -/
theorem ndr_join {w : World} {lo mid hi N c : Nat} {A : Option Addr} {xs ys : List Value} (hlo : lo ≤ mid) (hmi : mid ≤ hi) (hN : N = ns.length + ms.length) (hr : RowR w lo hi 96 3 A N c (fun x => ((xs ++ ys)[x]?).getD undef))
    (hxl : xs.length = ns.length * 3) (hx : ∀ j, j < ns.length * 3 → xs[j]? = some (ndv ns (lsF ns LA LC) j)) (hy : ∀ j, j < ms.length * 3 → ys[j]? = some (ndv ms (lsF ms LB LD) j))
    (ra : ∀ i, i < ns.length → RowR w lo mid 3 1 (LA i) (lnOf ns i) (LC i) (iat (linksOf ns i))) (na : ∀ i j, i < j → j < ns.length → LA j ≠ none → LA i ≠ LA j)
    (rb : ∀ i, i < ms.length → RowR w mid hi 3 1 (LB i) (lnOf ms i) (LD i) (iat (linksOf ms i))) (nb : ∀ i j, i < j → j < ms.length → LB j ≠ none → LB i ≠ LB j) :
    NdR w lo hi A N c (jn ns.length LA LB) (jn ns.length LC LD) (ns ++ ms) := by
  subst hN
  refine ⟨hr.congr (fun x hxx => ?_), fun i hi => ?_, fun i j hij hj hne => ?_⟩
  · show ((xs ++ ys)[x]?).getD undef = _
    by_cases h : x < ns.length * 3
    · rw [List.getElem?_append_left (by omega), hx x h, ndv_lo h]
      rfl
    · obtain ⟨k, rfl⟩ : ∃ k, x = ns.length * 3 + k := ⟨x - ns.length * 3, by omega⟩
      rw [List.getElem?_append_right (by omega), hxl, Nat.add_sub_cancel_left, hy k (by omega), ndv_hi]
      rfl
  · by_cases h : i < ns.length
    · unfold lnOf
      rw [jn_lo h, jn_lo h, (of_lo h).2.2]
      exact (ra i h).wide (Nat.le_refl _) hmi
    · obtain ⟨k, rfl⟩ : ∃ k, i = ns.length + k := ⟨i - ns.length, by omega⟩
      unfold lnOf
      rw [jn_hi, jn_hi, of_hi.2.2]
      exact (rb k (by omega)).wide hlo (Nat.le_refl _)
  · by_cases h : j < ns.length
    · rw [jn_lo h] at hne ⊢
      rw [jn_lo (Nat.lt_trans hij h)]
      exact na i j hij h hne
    · obtain ⟨k, rfl⟩ : ∃ k, j = ns.length + k := ⟨j - ns.length, by omega⟩
      rw [jn_hi] at hne ⊢
      by_cases h2 : i < ns.length
      · rw [jn_lo h2]
        intro e
        rcases ra i h2 with ⟨e0, -⟩ | ⟨g, f, e0, a1, a2, -⟩
        · exact hne (e.symm.trans e0)
        · have := (rb k (by omega)).in_ (g := g) (by rw [blk]; exact e.symm.trans e0)
          omega
      · obtain ⟨l, rfl⟩ : ∃ l, i = ns.length + l := ⟨i - ns.length, by omega⟩
        rw [jn_hi]
        exact nb l k (by omega) (by omega) hne
end
/-- a row's cells -/
def cellsOf (m : Nat) (M : Nat → Value) : List Value := (List.range m).map M
theorem cells_get {m j : Nat} {M : Nat → Value} (h : j < m) : (cellsOf m M)[j]? = some (M j) := by unfold cellsOf; rw [List.getElem?_map, List.getElem?_range h]; rfl
theorem cells_len (m : Nat) (M : Nat → Value) : (cellsOf m M).length = m := by unfold cellsOf; rw [List.length_map, List.length_range]
theorem row_sr {w : World} {lo hi sz n c : Nat} {t : TypeId} {A : Option Addr} {M : Nat → Value} (h : RowR w lo hi t sz A n c M) : SR w w.heap.size A (n * sz) (cellsOf (n * sz) M) := by
  refine ⟨cells_len _ _, fun hn => ?_⟩
  rcases h with ⟨-, -, rfl⟩ | ⟨g, f, rfl, h1, h2, h3, h4, h5⟩
  · simp at hn
  · refine ⟨g, 0, rfl, h4.lt, fun k u hk => ?_⟩
    have hkn : k < n * sz := by
      have := (List.getElem?_eq_some_iff.1 hk).1
      rw [cells_len] at this
      exact this
    rw [cells_get hkn] at hk
    injection hk with hk
    rw [← hk, ← h5 k hkn, Nat.zero_add]
    exact h4.cell (Nat.lt_of_lt_of_le hkn (Nat.mul_le_mul_right _ h3))
theorem one_cells {m : Nat} {M : Nat → Value} (h : ∀ x, x < m → (M x).oneCell' = true) : ∀ u ∈ cellsOf m M, u.oneCell' = true := fun u hu => by
  unfold cellsOf at hu
  obtain ⟨x, hx, rfl⟩ := List.mem_map.1 hu
  exact h x (List.mem_range.1 hx)
theorem one_ndv (ns : List Nd) (LA : Nat → Option Addr) (LC : Nat → Nat) (x : Nat) (hx : x < ns.length * 3) : (ndv ns (lsF ns LA LC) x).oneCell' = true := by
  obtain ⟨y, hy⟩ : ∃ y, ns[x / 3]? = some y := ⟨_, List.getElem?_eq_getElem (show x / 3 < ns.length by omega)⟩
  unfold ndv
  split
  · rw [(ctOf_at hy).1]; rfl
  · split
    · rw [(ctOf_at hy).2]; rfl
    · rfl
theorem one_iat (zs : List Int) (x : Nat) : (iat zs x).oneCell' = true := rfl
theorem nil0 {w : World} {lo hi n c sz : Nat} {t : TypeId} {A : Option Addr} {M : Nat → Value} (h : RowR w lo hi t sz A n c M) : A = none → c = 0 := fun e => by
  rcases h with ⟨-, h, -⟩ | ⟨g, f, h, -⟩
  · exact h
  · rw [e] at h
    cases h
theorem one_wic (ws : List Wr) (x : Nat) (hx : x < ws.length * 2) : (wic ws x).oneCell' = true := by
  obtain ⟨y, hy⟩ : ∃ y, ws[x / 2]? = some y := ⟨_, List.getElem?_eq_getElem (show x / 2 < ws.length by omega)⟩
  unfold wic
  rw [hy]
  dsimp only
  split <;> rfl
theorem sr_vals2 (w : World) (vs : List Value) (t : TypeId) : SR (w.alloc (.cells vs.toArray t)) (w.alloc (.cells vs.toArray t)).heap.size (some ⟨w.heap.size, 0, none⟩) vs.length vs := by
  refine ⟨rfl, fun _ => ⟨_, _, rfl, by simp, fun j u hj => ?_⟩⟩
  have h := cell_of_row (w.alloc (.cells vs.toArray t)) w.heap.size j vs.toArray t (0, 0) (heap_alloc_new w _)
  rw [Nat.zero_add, h, ← hj]
  simp
/-- slices.Concat of two rows of Nodes -/
theorem concatN_two {w : World} {Av A B : Option Addr} {cv c d lo mid : Nat} {LA LB : Nat → Option Addr} {LC LD : Nat → Nat} {ns ms : List Nd} (hV : SR w w.heap.size Av 2 [.slice A ns.length c, .slice B ms.length d]) (ha : NdR w lo mid A ns.length c LA LC ns) (hb : NdR w mid w.heap.size B ms.length d LB LD ms) (hlm : lo ≤ mid) (hmw : mid ≤ w.heap.size) (hn : ns.length ≤ 1000) (hm : ms.length ≤ 1000) :
    Calls Tryz.prog 98 #[.slice Av 2 cv] w fun e w' => ∃ A' c', e = .returned (.slice A' (ns.length + ms.length) c') ∧ NdR w' lo w'.heap.size A' (ns.length + ms.length) c' (jn ns.length LA LB) (jn ns.length LC LD) (ns ++ ms) ∧ Below w.heap.size w w' := by
  have h := concatN_any Av 2 cv (ns.length + ms.length) [.slice A ns.length c, .slice B ms.length d] [cellsOf (ns.length * 3) (ndv ns (lsF ns LA LC)), cellsOf (ms.length * 3) (ndv ms (lsF ms LB LD))] w hV
    (partsK_two (row_sr ha.1) (nil0 ha.1) (one_cells (one_ndv ns LA LC)) (row_sr hb.1) (nil0 hb.1) (one_cells (one_ndv ms LB LD))) rfl (by simp [cells_len]; omega) (by omega) (by omega)
  refine h.mono ?_
  rintro e w' ⟨v, rfl, hown, hbel⟩
  obtain ⟨A', c', rfl, hr⟩ := rowR_owns hown
  refine ⟨A', c', rfl, ?_, hbel⟩
  refine ndr_join (mid := mid) (xs := cellsOf (ns.length * 3) (ndv ns (lsF ns LA LC))) (ys := cellsOf (ms.length * 3) (ndv ms (lsF ms LB LD))) hlm (Nat.le_trans hmw hbel.size) rfl ?_ (cells_len _ _) (fun j hj => cells_get hj) (fun j hj => cells_get hj) (fun i hi => (ha.2.1 i hi).on hbel) ha.2.2 (fun i hi => ((hb.2.1 i hi).on hbel).wide (Nat.le_refl _) hbel.size) hb.2.2
  have h2 : ([cellsOf (ns.length * 3) (ndv ns (lsF ns LA LC)), cellsOf (ms.length * 3) (ndv ms (lsF ms LB LD))] : List (List Value)).flatten = cellsOf (ns.length * 3) (ndv ns (lsF ns LA LC)) ++ cellsOf (ms.length * 3) (ndv ms (lsF ms LB LD)) := by simp
  rw [h2] at hr
  exact hr.wide (Nat.le_trans hlm hmw) (Nat.le_refl _)
theorem laid_ndr {w : World} {lo hi : Nat} {P : Plan} {b : Big} (h : Laid w lo hi P b) : NdR w lo hi P.A1 b.nodes.length P.c1 P.LA P.LC b.nodes :=
  ⟨h.2.1.1.congr (fun x _ => rfl), h.2.1.2, fun i j hij hj hne e => (h.1 j hj hne).2 i (Nat.lt_trans hij hj) (Nat.ne_of_lt hij) e⟩
theorem laid_nil {w : World} {lo hi : Nat} {P : Plan} {b : Big} (h : Laid w lo hi P b) : NilV (.agg #[.int .i64 b.roots, .slice P.A1 b.nodes.length P.c1, .slice P.A2 b.sites.length P.c2, .int .i64 b.edges, .slice P.A4 b.outer.length P.c4, .slice P.A5 b.inner.length P.c5]) :=
  ⟨_, _, _, _, _, _, _, _, _, _, _, _, _, _, rfl, nil0 h.2.1.1, nil0 h.2.2.1, nil0 h.2.2.2.1, nil0 h.2.2.2.2⟩
/-- a Bigraph out of two rows of Nodes and the second one's sites -/
theorem big_join {w : World} {lo mid hi N c : Nat} {A A2 A4 A5 : Option Addr} {ns ms : List Nd} {LA LB : Nat → Option Addr} {LC LD : Nat → Nat} {n2 c2 n4 c4 n5 c5 : Nat} {R E : Int} {ss : List Int} {ou : List ByteArray} {ws : List Wr} (hr : NdR w lo hi A N c (jn ns.length LA LB) (jn ns.length LC LD) (ns ++ ms)) (hN : N = ns.length + ms.length)
    (ra : ∀ i, i < ns.length → RowR w lo mid 3 1 (LA i) (lnOf ns i) (LC i) (iat (linksOf ns i))) (hap : ∀ k, k < ms.length → LB k ≠ none → LB k ≠ A2) (h2 : RowR w mid hi 3 1 A2 n2 c2 (iat ss)) (l2 : ss.length = n2) (h4 : RowR w lo hi 9 1 A4 n4 c4 (at_ ou)) (l4 : ou.length = n4) (h5 : RowR w lo hi 80 2 A5 n5 c5 (wic ws)) (l5 : ws.length = n5) (hlo : lo ≤ mid) :
    BigR w lo hi (.agg #[.int .i64 R, .slice A N c, .slice A2 n2 c2, .int .i64 E, .slice A4 n4 c4, .slice A5 n5 c5]) ⟨R, ns ++ ms, ss, E, ou, ws⟩ := by
  subst l2 l4 l5 hN
  have hlen : (ns ++ ms).length = ns.length + ms.length := List.length_append
  refine ⟨⟨A, c, A2, c2, A4, c4, A5, c5, jn ns.length LA LB, jn ns.length LC LD⟩, by dsimp only; rw [hlen], ?_, ⟨by dsimp only; rw [hlen]; exact hr.1.congr (fun x _ => rfl), fun k hk => by dsimp only at hk ⊢; rw [hlen] at hk; exact hr.2.1 k hk⟩, h2.wide hlo (Nat.le_refl _), h4, h5⟩
  intro k hk hno
  dsimp only at hk hno ⊢
  rw [hlen] at hk
  refine ⟨fun e => ?_, fun j hj hjk e => ?_⟩
  · by_cases h : k < ns.length
    · rw [jn_lo h] at e hno
      rcases ra k h with ⟨e0, -⟩ | ⟨g, f, e0, a1, a2, -⟩
      · exact hno e0
      · have := h2.in_ (g := g) (by rw [blk]; exact e.symm.trans e0)
        omega
    · obtain ⟨i, rfl⟩ : ∃ i, k = ns.length + i := ⟨k - ns.length, by omega⟩
      rw [jn_hi] at e hno
      exact hap i (by omega) hno e
  · rw [hlen] at hj
    rcases Nat.lt_or_gt_of_ne hjk with hl | hl
    · exact hr.2.2 j k hl hk hno e
    · exact hr.2.2 k j hl hj (by rw [e]; exact hno) e.symm
end Go.Proofs.YtlpgldejmdiceabGreat.nj
