/- Rl Ed Rnp Rh in one. -/
import Derived.Test.YtlpgldejmdiceabGreatQd
import Derived.OrdersHeld
import Derived.StillTail
import Derived.Deep.RegionHeld3
set_option linter.unusedSimpArgs false
section
namespace Go.Proofs.YtlpgldejmdiceabGreat.rl
open kit bg sg opn strs only hb sig isig un over gn nm inn ht gd im pt marks eqs hc hi hw hn rs br bm bw cf lf ib lawb lw cl
open Go.RowKit
set_option linter.unusedVariables false

/-- where nodes lie, with what lies in their third cells -/
def NdL (w : World) (B : Nat) (A : Option Addr) (n : Nat) (ns : List Nd) (LS : Nat → Value) : Prop :=
  ns.length = n ∧ (0 < n → ∃ b off, A = some ⟨b, off, none⟩ ∧ b < B ∧ ∀ (k : Nat) x, ns[k]? = some x →
    w.cell? ⟨b, off + k * 3, none⟩ = some (.int .i64 x.control) ∧ w.cell? ⟨b, off + k * 3 + 1, none⟩ = some (.int .i64 x.parent) ∧ w.cell? ⟨b, off + k * 3 + 2, none⟩ = some (LS k) ∧
    ∃ A' n' c', LS k = .slice A' n' c' ∧ IntsAt w B A' n' x.links)
theorem ndl_of {w : World} {B n : Nat} {A : Option Addr} {ns : List Nd} (h : NdsAt w B A n ns) : ∃ LS, NdL w B A n ns LS := by
  obtain ⟨h1, h2⟩ := h
  by_cases h0 : 0 < n
  · obtain ⟨b, off, e, hb, hc⟩ := h2 h0
    refine ⟨fun k => (w.cell? ⟨b, off + k * 3 + 2, none⟩).getD undef, h1, fun _ => ⟨b, off, e, hb, fun k x hx => ?_⟩⟩
    obtain ⟨c0, c1, A', n', c', c2, hi⟩ := hc k x hx
    exact ⟨c0, c1, by show _ = some ((w.cell? _).getD undef); rw [c2]; rfl, A', n', c', by show (w.cell? _).getD undef = _; rw [c2]; rfl, hi⟩
  · exact ⟨fun _ => undef, h1, fun h => absurd h h0⟩
theorem NdL.move {w w' : World} {B n : Nat} {A : Option Addr} {ns : List Nd} {LS : Nat → Value} (h : NdL w B A n ns LS) (hk : ∀ p : Addr, p.block < B → w'.cell? p = w.cell? p) : NdL w' B A n ns LS :=
  ⟨h.1, fun hn => by
    obtain ⟨b, off, e, hb, hc⟩ := h.2 hn
    refine ⟨b, off, e, hb, fun k x hx => ?_⟩
    obtain ⟨c0, c1, c2, A', n', c', e2, hi⟩ := hc k x hx
    exact ⟨(hk _ hb).trans c0, (hk _ hb).trans c1, (hk _ hb).trans c2, A', n', c', e2, hi.move hk⟩⟩
theorem NdL.below {w w' : World} {B n : Nat} {A : Option Addr} {ns : List Nd} {LS : Nat → Value} (h : NdL w B A n ns LS) (hb : Below B w w') : NdL w' B A n ns LS := h.move fun _ hp => hb.cell hp
theorem NdL.wide {w : World} {B B' n : Nat} {A : Option Addr} {ns : List Nd} {LS : Nat → Value} (h : NdL w B A n ns LS) (hB : B ≤ B') : NdL w B' A n ns LS :=
  ⟨h.1, fun hn => by
    obtain ⟨b, off, e, hb, hc⟩ := h.2 hn
    refine ⟨b, off, e, by omega, fun k x hx => ?_⟩
    obtain ⟨c0, c1, c2, A', n', c', e2, hi⟩ := hc k x hx
    exact ⟨c0, c1, c2, A', n', c', e2, hi.wide hB⟩⟩
theorem NdL.links {w : World} {B n : Nat} {A : Option Addr} {ns : List Nd} {LS : Nat → Value} (h : NdL w B A n ns LS) {k : Nat} {x : Nd} (hx : ns[k]? = some x) : ∃ A' n' c', LS k = .slice A' n' c' ∧ IntsAt w B A' n' x.links := by
  have hk := (List.getElem?_eq_some_iff.1 hx).1
  obtain ⟨b, off, e, hb, hc⟩ := h.2 (by have := h.1; omega)
  exact (hc k x hx).2.2.2
/-- the cells of nodes -/
def ndv (ns : List Nd) (LS : Nat → Value) (x : Nat) : Value := if x % 3 = 0 then ctOf ns (x / 3) else if x % 3 = 1 then paOf ns (x / 3) else LS (x / 3)
theorem ndv_at (ns : List Nd) (LS : Nat → Value) (k : Nat) : ndv ns LS (k * 3) = ctOf ns k ∧ ndv ns LS (k * 3 + 1) = paOf ns k ∧ ndv ns LS (k * 3 + 2) = LS k := by
  unfold ndv
  rw [show k * 3 / 3 = k by omega, show (k * 3 + 1) / 3 = k by omega, show (k * 3 + 2) / 3 = k by omega]
  exact ⟨if_pos (by omega), by rw [if_neg (by omega), if_pos (by omega)], by rw [if_neg (by omega), if_neg (by omega)]⟩
def ncs (ns : List Nd) (LS : Nat → Value) : List Value := (List.range (ns.length * 3)).map (ndv ns LS)
theorem ncs_len (ns : List Nd) (LS : Nat → Value) : (ncs ns LS).length = ns.length * 3 := by unfold ncs; simp
theorem ncs_get {ns : List Nd} {LS : Nat → Value} {j : Nat} (hj : j < ns.length * 3) : (ncs ns LS)[j]? = some (ndv ns LS j) := by unfold ncs; rw [List.getElem?_map, List.getElem?_range hj]; rfl
theorem ncs_cells {w : World} {B n : Nat} {A : Addr} {ns : List Nd} {LS : Nat → Value} (h : NdL w B (some A) n ns LS) : ∀ (j : Nat) u, (ncs ns LS)[j]? = some u → w.cell? (A.add j) = some u := by
  intro j u hu
  have hj : j < ns.length * 3 := by have := (List.getElem?_eq_some_iff.1 hu).1; rw [ncs_len] at this; exact this
  rw [ncs_get hj] at hu
  injection hu with hu
  subst hu
  obtain ⟨b, off, e, hb, hc⟩ := h.2 (by have := h.1; omega)
  injection e with e
  subst e
  have hk : ns[j / 3]? = some (ns[j / 3]'(by omega)) := List.getElem?_eq_getElem _
  obtain ⟨c0, c1, c2, -⟩ := hc _ _ hk
  obtain ⟨q0, q1⟩ := ctOf_at hk
  obtain ⟨g0, g1, g2⟩ := ndv_at ns LS (j / 3)
  rw [cl.add_none]
  have hm : j % 3 = 0 ∨ j % 3 = 1 ∨ j % 3 = 2 := by omega
  rcases hm with e | e | e
  · rw [show j / 3 * 3 = j by omega] at g0 c0; rw [c0, g0, q0]
  · rw [show j / 3 * 3 + 1 = j by omega] at g1; rw [show off + j / 3 * 3 + 1 = off + j by omega] at c1; rw [c1, g1, q1]
  · rw [show j / 3 * 3 + 2 = j by omega] at g2; rw [show off + j / 3 * 3 + 2 = off + j by omega] at c2; rw [c2, g2]
theorem ncs_one {w : World} {B n : Nat} {A : Option Addr} {ns : List Nd} {LS : Nat → Value} (h : NdL w B A n ns LS) : ∀ u ∈ ncs ns LS, u.oneCell' = true := by
  intro u hu
  obtain ⟨j, hj⟩ := List.getElem?_of_mem hu
  have hjl : j < ns.length * 3 := by have := (List.getElem?_eq_some_iff.1 hj).1; rw [ncs_len] at this; exact this
  rw [ncs_get hjl] at hj
  injection hj with hj
  have hk : ns[j / 3]? = some (ns[j / 3]'(by omega)) := List.getElem?_eq_getElem _
  obtain ⟨q0, q1⟩ := ctOf_at hk
  obtain ⟨A', n', c', e2, -⟩ := h.links hk
  rw [← hj]
  unfold ndv
  split
  · rw [q0]; rfl
  · split
    · rw [q1]; rfl
    · rw [e2]; rfl
set_option maxRecDepth 20000 in
set_option maxHeartbeats 800000 in
theorem cloneN_any (A : Option Addr) (n c : Nat) (ns : List Nd) (LS : Nat → Value) (w : World) (h : NdL w w.heap.size A n ns LS) (hn : n ≤ 1048576) (h0 : A = none → c = 0) :
    Calls Tryz.prog 129 #[.slice A n c] w fun e w' => ∃ A' c', e = .returned (.slice A' n c') ∧ RowR w' w.heap.size w'.heap.size 96 3 A' n c' (ndv ns LS) ∧ (A' = none → c' = 0) ∧ Below w.heap.size w w' := by
  obtain ⟨i0, hi, hz0, hz1, hz2⟩ := info_parts node_info
  have hln : ns.length = n := h.1
  have hq0 := fun w => Lib.run_eql_slice_nil (P := Tryz.prog) w 26 96 A n c 0 0 Tryz.underlying26
  cases A with
  | none =>
    simp only [Option.isNone_none] at hq0
    obtain rfl : c = 0 := h0 rfl
    obtain rfl : n = 0 := by
      by_cases e : n = 0
      · exact e
      · obtain ⟨b, off, e2, _⟩ := h.2 (by omega)
        cases e2
    go_enter Tryz.func129, Tryz.ntmps129
    go_wp2_with fail
    go_ret
    exact ⟨none, 0, rfl, RowR.nil, fun _ => rfl, Below.refl _ _⟩
  | some A =>
    simp only [Option.isNone_some] at hq0
    have hown := ownsRow_nil_new w 96 3 w.heap.size (Nat.le_refl _)
    have hB := (Below.refl w.heap.size w).alloc (Nat.le_refl _) (.cells #[] 96)
    have hce : ∀ (j : Nat) u, (ncs ns LS)[j]? = some u → (w.alloc (.cells #[] 96)).cell? (A.add j) = some u := fun j u hu => (hB.cell (p := A.add j) (by
      obtain ⟨b, off, e, hb, _⟩ := h.2 (by have := (List.getElem?_eq_some_iff.1 hu).1; rw [ncs_len] at this; omega)
      injection e with e; subst e; rw [cl.add_none]; exact hb)).trans (ncs_cells h j u hu)
    go_enter Tryz.func129, Tryz.ntmps129
    go_wp2_with (at_builtin; refine wpList_append_own _ rfl _ _ 26 rfl w.heap.size 96 i0 (.agg #[.int .i64 0, .int .i64 0, .slice none 0 0]) 3 40 Tryz.underlying26 hi hz0 hz1 hz2 rfl (by decide) _ _ _ rfl hown A n c (ncs ns LS) rfl (by rw [ncs_len, hln]) hce (ncs_one h) (by unfold maxLen; omega) (by omega) (by simp) ?_; intro v1 w3 hown1 hgrow1 hnil1)
    rw [Nat.zero_add, List.nil_append] at hown1
    have hb3 : Below w.heap.size w w3 := hB.grown hgrow1 (by simp) (fun j hj => (hown.lt j hj).1)
    obtain ⟨A', c', rfl, hR⟩ := rowR_owns hown1
    have HR := Lib.hid (hR.congr (M' := ndv ns LS) (fun x hx => by rw [ncs_get (by omega)]; rfl))
    have HN : Hid (A' = none → c' = 0) := Lib.hid (by
      rintro rfl
      rcases hown1.2 with ⟨e, _⟩ | ⟨g, cap, cur, e, _⟩
      · injection e
      · injection e with e; cases e)
    clear hown1 hgrow1 hnil1 hR hce hown
    go_wp2_with fail
    go_ret
    exact ⟨A', c', rfl, HR.out, HN.out, hb3⟩

/-- the result's box behind the copies -/
def Made (U : World) (b : Big) (n1 n2 n4 n5 : Nat) (LS : Nat → Value) (s5 : Value) (wx : World) : Prop :=
  ∃ β B1 e1 B2 e2 B4 e4 B5 e5, s5 = .pointer (some ⟨β, 0, none⟩) ∧ U.heap.size ≤ β ∧ BoxAt wx β 31 (.int .i64 b.roots) (.slice B1 n1 e1) (.slice B2 n2 e2) (.int .i64 b.edges) (.slice B4 n4 e4) (.slice B5 n5 e5) ∧
    RowR wx U.heap.size wx.heap.size 96 3 B1 n1 e1 (ndv b.nodes LS) ∧ RowR wx U.heap.size wx.heap.size 3 1 B2 n2 e2 (iat b.sites) ∧ RowR wx U.heap.size wx.heap.size 9 1 B4 n4 e4 (at_ b.outer) ∧ RowR wx U.heap.size wx.heap.size 80 2 B5 n5 e5 (wic b.inner) ∧ Below U.heap.size U wx
theorem row_sets6 {X : World} {β lo hi n c sz : Nat} {t : TypeId} {A : Option Addr} {M g : Nat → Value} (h : X.rowIs β 31 6 g) (hr : RowR X lo hi t sz A n c M) (ht : t ≠ 31) (a b c' d e f : Value) : RowR (sets6 X β a b c' d e f) lo hi t sz A n c M := by
  rcases hr with h0 | ⟨g2, f2, e2, k1, k2, k3, k4, k5⟩
  · exact .inl h0
  · exact .inr ⟨g2, f2, e2, k1, k2, k3, k4.of_block (sets6_block _ _ _ _ _ _ (fun e => by subst e; exact ht (rowIs_uniq k4 h).1)), k5⟩
theorem made_early {U X : World} {b : Big} {n1 n2 n4 n5 : Nat} {LS : Nat → Value} {β : Nat} {g : Nat → Value} {B1 B2 B4 B5 : Option Addr} {e1 e2 e4 e5 : Nat} (h : X.rowIs β 31 6 g) (hβ : U.heap.size ≤ β)
    (r1 : RowR X U.heap.size X.heap.size 96 3 B1 n1 e1 (ndv b.nodes LS)) (r2 : RowR X U.heap.size X.heap.size 3 1 B2 n2 e2 (iat b.sites)) (r4 : RowR X U.heap.size X.heap.size 9 1 B4 n4 e4 (at_ b.outer)) (r5 : RowR X U.heap.size X.heap.size 80 2 B5 n5 e5 (wic b.inner)) (hk : Below U.heap.size U X) :
    Made U b n1 n2 n4 n5 LS (.pointer (some ⟨β, 0, none⟩)) ((((((X.setCell ⟨β, 0, none⟩ (.int .i64 b.roots)).setCell ⟨β, 1, none⟩ (.slice B1 n1 e1)).setCell ⟨β, 2, none⟩ (.slice B2 n2 e2)).setCell ⟨β, 3, none⟩ (.int .i64 b.edges)).setCell ⟨β, 4, none⟩ (.slice B4 n4 e4)).setCell ⟨β, 5, none⟩ (.slice B5 n5 e5)) :=
  show Made U b n1 n2 n4 n5 LS _ (sets6 X β (.int .i64 b.roots) (.slice B1 n1 e1) (.slice B2 n2 e2) (.int .i64 b.edges) (.slice B4 n4 e4) (.slice B5 n5 e5)) from
  ⟨β, B1, e1, B2, e2, B4, e4, B5, e5, rfl, hβ, sets6_box h _ _ _ _ _ _, by rw [sets6_size]; exact row_sets6 h r1 (by decide) _ _ _ _ _ _, by rw [sets6_size]; exact row_sets6 h r2 (by decide) _ _ _ _ _ _, by rw [sets6_size]; exact row_sets6 h r4 (by decide) _ _ _ _ _ _, by rw [sets6_size]; exact row_sets6 h r5 (by decide) _ _ _ _ _ _, sets6_below hk hβ _ _ _ _ _ _⟩
theorem made_late {U X : World} {b : Big} {n1 n2 n4 n5 : Nat} {LS : Nat → Value} {B1 B2 B4 B5 : Option Addr} {e1 e2 e4 e5 : Nat}
    (r1 : RowR X U.heap.size X.heap.size 96 3 B1 n1 e1 (ndv b.nodes LS)) (r2 : RowR X U.heap.size X.heap.size 3 1 B2 n2 e2 (iat b.sites)) (r4 : RowR X U.heap.size X.heap.size 9 1 B4 n4 e4 (at_ b.outer)) (r5 : RowR X U.heap.size X.heap.size 80 2 B5 n5 e5 (wic b.inner)) (hk : Below U.heap.size U X) :
    Made U b n1 n2 n4 n5 LS (.pointer (some ⟨X.heap.size, 0, none⟩)) (X.alloc (.cells #[.int .i64 b.roots, .slice B1 n1 e1, .slice B2 n2 e2, .int .i64 b.edges, .slice B4 n4 e4, .slice B5 n5 e5] 31)) := by
  have hX := (Below.refl X.heap.size X).alloc (Nat.le_refl _) (.cells #[.int .i64 b.roots, .slice B1 n1 e1, .slice B2 n2 e2, .int .i64 b.edges, .slice B4 n4 e4, .slice B5 n5 e5] 31)
  exact ⟨X.heap.size, B1, e1, B2, e2, B4, e4, B5, e5, rfl, hk.size, six_new X _ _ _ _ _ _ _, rowR_here (r1.on hX), rowR_here (r2.on hX), rowR_here (r4.on hX), rowR_here (r5.on hX), hk.alloc hk.size _⟩

/-- a Bigraph with other links -/
def relB (f : Int → Int) (b : Big) : Big := ⟨b.roots, b.nodes.map (fun x => ⟨x.control, x.parent, x.links.map f⟩), b.sites, b.edges, b.outer, b.inner.map (fun x => ⟨x.name, f x.link⟩)⟩
/-- the cells of nodes of which the first k have links of their own -/
def rlv (ns : List Nd) (LS : Nat → Value) (LA : Nat → Option Addr) (k x : Nat) : Value := if x % 3 = 0 then ctOf ns (x / 3) else if x % 3 = 1 then paOf ns (x / 3) else if x / 3 < k then .slice (LA (x / 3)) (lnOf ns (x / 3)) (lnOf ns (x / 3)) else LS (x / 3)
theorem rlv_zero (ns : List Nd) (LS : Nat → Value) (LA : Nat → Option Addr) (x : Nat) : rlv ns LS LA 0 x = ndv ns LS x := by unfold rlv ndv; simp
theorem rlv_at (ns : List Nd) (LS : Nat → Value) (LA : Nat → Option Addr) (k j : Nat) : rlv ns LS LA k (j * 3) = ctOf ns j ∧ rlv ns LS LA k (j * 3 + 1) = paOf ns j ∧ rlv ns LS LA k (j * 3 + 2) = if j < k then .slice (LA j) (lnOf ns j) (lnOf ns j) else LS j := by
  unfold rlv
  rw [show j * 3 / 3 = j by omega, show (j * 3 + 1) / 3 = j by omega, show (j * 3 + 2) / 3 = j by omega]
  exact ⟨if_pos (by omega), by rw [if_neg (by omega), if_pos (by omega)], by rw [if_neg (by omega), if_neg (by omega)]⟩
def wlv (ws : List Wr) (f : Int → Int) (k x : Nat) : Value := match ws[x / 2]? with
  | some y => if x % 2 = 0 then .string y.name else if x / 2 < k then .int .i64 (f y.link) else .int .i64 y.link
  | none => undef
theorem wlv_zero (ws : List Wr) (f : Int → Int) (x : Nat) : wlv ws f 0 x = wic ws x := by
  unfold wlv wic
  cases ws[x / 2]? with
  | none => rfl
  | some y => simp
theorem wlv_at {ws : List Wr} {f : Int → Int} {k j : Nat} {y : Wr} (h : ws[j]? = some y) : wlv ws f k (j * 2) = .string y.name ∧ wlv ws f k (j * 2 + 1) = if j < k then .int .i64 (f y.link) else .int .i64 y.link := by
  unfold wlv
  rw [show j * 2 / 2 = j by omega, show (j * 2 + 1) / 2 = j by omega, h]
  exact ⟨if_pos (by omega), if_neg (by omega)⟩
structure RMid (U W1 wr : World) (b : Big) (n1 n2 n4 n5 : Nat) (LS : Nat → Value) (f : Int → Int) (β : Nat) (B1 B2 B4 B5 : Option Addr) (e1 e2 e4 e5 k m : Nat) (LA : Nat → Option Addr) : Prop where
  box : BoxAt wr β 31 (.int .i64 b.roots) (.slice B1 n1 e1) (.slice B2 n2 e2) (.int .i64 b.edges) (.slice B4 n4 e4) (.slice B5 n5 e5)
  r1 : RowR wr U.heap.size W1.heap.size 96 3 B1 n1 e1 (rlv b.nodes LS LA k)
  lnk : ∀ j, j < k → ∃ g, LA j = some ⟨g, 0, none⟩ ∧ W1.heap.size ≤ g ∧ g < wr.heap.size ∧ wr.rowIs g 3 (lnOf b.nodes j) (iat ((linksOf b.nodes j).map f))
  ne : ∀ i j, i < j → j < k → LA i ≠ LA j
  r2 : RowR wr U.heap.size W1.heap.size 3 1 B2 n2 e2 (iat b.sites)
  r4 : RowR wr U.heap.size W1.heap.size 9 1 B4 n4 e4 (at_ b.outer)
  r5 : RowR wr U.heap.size W1.heap.size 80 2 B5 n5 e5 (wlv b.inner f m)
  bel : Below U.heap.size U wr
  sz : W1.heap.size ≤ wr.heap.size
  lt : β < W1.heap.size ∧ U.heap.size ≤ β
section
variable {U W1 wr wr' : World} {b : Big} {n1 n2 n4 n5 : Nat} {LS : Nat → Value} {f : Int → Int} {β : Nat} {B1 B2 B4 B5 : Option Addr} {e1 e2 e4 e5 k m : Nat} {LA : Nat → Option Addr}
theorem RMid.on (h : RMid U W1 wr b n1 n2 n4 n5 LS f β B1 B2 B4 B5 e1 e2 e4 e5 k m LA) (hb : Below wr.heap.size wr wr') : RMid U W1 wr' b n1 n2 n4 n5 LS f β B1 B2 B4 B5 e1 e2 e4 e5 k m LA :=
  ⟨h.box.on hb, h.r1.on hb, fun j hj => by
    obtain ⟨g, e, h1, h2, h3⟩ := h.lnk j hj
    exact ⟨g, e, h1, Nat.lt_of_lt_of_le h2 hb.size, h3.of_block (hb.block g h2)⟩, h.ne, h.r2.on hb, h.r4.on hb, h.r5.on hb, h.bel.trans (hb.mono h.bel.size), Nat.le_trans h.sz hb.size, h.lt⟩
/-- a cell of one row is written -/
theorem row_other_set {w : World} {lo hi n c sz g off m2 : Nat} {t t' : TypeId} {A : Option Addr} {M q : Nat → Value} {u : Value} (h : RowR w lo hi t sz A n c M) (hg : w.rowIs g t' m2 q) (ht : t ≠ t') : RowR (w.setCell ⟨g, off, none⟩ u) lo hi t sz A n c M := by
  rcases h with h0 | ⟨g2, f2, e2, k1, k2, k3, k4, k5⟩
  · exact .inl h0
  · exact .inr ⟨g2, f2, e2, k1, k2, k3, k4.setOther (a := ⟨g, off, none⟩) (fun e => by subst e; exact ht (rowIs_uniq k4 hg).1) u, k5⟩
theorem RMid.next {g len : Nat} {x : Nd} (h : RMid U W1 wr b n1 n2 n4 n5 LS f β B1 B2 B4 B5 e1 e2 e4 e5 k m LA) (hx : b.nodes[k]? = some x) (hk : k < n1) {g1 : Nat} (hB : B1 = some ⟨g1, 0, none⟩) (hlen : len = x.links.length)
    (hg : wr.rowIs g 3 len (iat (x.links.map f))) (hg1 : W1.heap.size ≤ g) (hne : ∀ j, j < k → LA j ≠ some ⟨g, 0, none⟩) :
    RMid U W1 (wr.setCell ⟨g1, k * 3 + 2, none⟩ (.slice (some ⟨g, 0, none⟩) len len)) b n1 n2 n4 n5 LS f β B1 B2 B4 B5 e1 e2 e4 e5 (k + 1) m (fun j => if j = k then some ⟨g, 0, none⟩ else LA j) := by
  have hln : lnOf b.nodes k = len := by unfold lnOf; rw [linksOf_at hx, hlen]
  rcases h.r1 with ⟨e, -⟩ | ⟨g2, q, e, a1, a2, a3, a4, a5⟩
  · rw [hB] at e; cases e
  · rw [hB] at e
    injection e with e
    injection e with e
    subst e
    have hgo : ∀ j, j < k → LA j = some ⟨g1, 0, none⟩ → False := fun j hj e => by
      obtain ⟨g3, e3, -, -, h4⟩ := h.lnk j hj
      rw [e] at e3
      injection e3 with e3
      injection e3 with e3
      subst e3
      exact absurd (rowIs_uniq a4 h4).1 (by decide)
    have hgg : g ≠ g1 := fun e => by subst e; exact absurd (rowIs_uniq a4 hg).1 (by decide)
    refine ⟨h.box.else_ (fun e => by subst e; exact absurd (rowIs_uniq a4 h.box).1 (by decide)) _, ?_, fun j hj => ?_, fun i j hij hj => ?_, row_other_set h.r2 a4 (by decide), row_other_set h.r4 a4 (by decide), row_other_set h.r5 a4 (by decide), h.bel.setCell (p := ⟨g1, k * 3 + 2, none⟩) a1 _, by simp [World.setCell]; exact h.sz, h.lt⟩
    · refine .inr ⟨g1, _, hB, a1, a2, a3, a4.set (k * 3 + 2) _, fun y hy => ?_⟩
      show (if y = k * 3 + 2 then _ else q y) = _
      by_cases ey : y = k * 3 + 2
      · rw [if_pos ey, ey, (rlv_at b.nodes LS _ (k + 1) k).2.2, if_pos (Nat.lt_succ_self k), hln, if_pos rfl]
      · rw [if_neg ey, a5 y hy]
        unfold rlv
        split
        · rfl
        · split
          · rfl
          · by_cases e2 : y / 3 < k
            · rw [if_pos e2, if_pos (show y / 3 < k + 1 by omega)]
              show _ = Value.slice (if _ then _ else _) _ _
              rw [if_neg (show ¬ y / 3 = k by omega)]
            · rw [if_neg e2, if_neg (by omega)]
    · by_cases e : j = k
      · subst e
        exact ⟨g, by show (if _ then _ else _) = _; rw [if_pos rfl], hg1, by simp [World.setCell]; exact hg.lt, by rw [hln, linksOf_at hx]; exact hg.setOther (a := ⟨g1, j * 3 + 2, none⟩) hgg _⟩
      · obtain ⟨g3, e3, b1, b2, b3⟩ := h.lnk j (by omega)
        exact ⟨g3, by show (if _ then _ else _) = _; rw [if_neg e]; exact e3, b1, by simp [World.setCell]; exact b2, b3.setOther (a := ⟨g1, k * 3 + 2, none⟩) (fun e4 => by subst e4; exact hgo j (by omega) e3) _⟩
    · show (if i = k then _ else LA i) ≠ if j = k then _ else LA j
      by_cases e : j = k
      · rw [if_neg (by omega), if_pos e]; exact hne i (by omega)
      · rw [if_neg (by omega), if_neg e]; exact h.ne i j hij (by omega)
theorem RMid.wire {y : Wr} (h : RMid U W1 wr b n1 n2 n4 n5 LS f β B1 B2 B4 B5 e1 e2 e4 e5 k m LA) (hy : b.inner[m]? = some y) (hm : m < n5) {g5 : Nat} (hB : B5 = some ⟨g5, 0, none⟩) :
    RMid U W1 (wr.setCell ⟨g5, m * 2 + 1, none⟩ (.int .i64 (f y.link))) b n1 n2 n4 n5 LS f β B1 B2 B4 B5 e1 e2 e4 e5 k (m + 1) LA := by
  rcases h.r5 with ⟨e, -⟩ | ⟨g2, q, e, a1, a2, a3, a4, a5⟩
  · rw [hB] at e; cases e
  · rw [hB] at e
    injection e with e
    injection e with e
    subst e
    refine ⟨h.box.else_ (fun e => by subst e; exact absurd (rowIs_uniq a4 h.box).1 (by decide)) _, row_other_set h.r1 a4 (by decide), fun j hj => ?_, h.ne, row_other_set h.r2 a4 (by decide), row_other_set h.r4 a4 (by decide), ?_, h.bel.setCell (p := ⟨g5, m * 2 + 1, none⟩) a1 _, by simp [World.setCell]; exact h.sz, h.lt⟩
    · obtain ⟨g3, e3, b1, b2, b3⟩ := h.lnk j hj
      exact ⟨g3, e3, b1, by simp [World.setCell]; exact b2, b3.setOther (a := ⟨g5, m * 2 + 1, none⟩) (fun e4 => by subst e4; exact absurd (rowIs_uniq a4 b3).1 (by decide)) _⟩
    · refine .inr ⟨g5, _, hB, a1, a2, a3, a4.set (m * 2 + 1) _, fun x hx => ?_⟩
      show (if x = m * 2 + 1 then _ else q x) = _
      by_cases ex : x = m * 2 + 1
      · rw [if_pos ex, ex, (wlv_at hy).2, if_pos (Nat.lt_succ_self m)]
      · rw [if_neg ex, a5 x hx]
        unfold wlv
        cases b.inner[x / 2]? with
        | none => rfl
        | some z =>
          dsimp only
          by_cases e0 : x % 2 = 0
          · rw [if_pos e0, if_pos e0]
          · rw [if_neg e0, if_neg e0]
            by_cases e2 : x / 2 < m
            · rw [if_pos e2, if_pos (by omega)]
            · rw [if_neg e2, if_neg (by omega)]
end


theorem linksOf_rel (f : Int → Int) (b : Big) (k : Nat) : linksOf (relB f b).nodes k = (linksOf b.nodes k).map f := by
  unfold linksOf relB
  simp only [List.getElem?_map]
  cases b.nodes[k]? with
  | none => rfl
  | some x => rfl
theorem lnOf_rel (f : Int → Int) (b : Big) (k : Nat) : lnOf (relB f b).nodes k = lnOf b.nodes k := by unfold lnOf; rw [linksOf_rel, List.length_map]
theorem ctOf_rel (f : Int → Int) (b : Big) (k : Nat) : ctOf (relB f b).nodes k = ctOf b.nodes k ∧ paOf (relB f b).nodes k = paOf b.nodes k := by
  unfold ctOf paOf relB
  simp only [List.getElem?_map]
  cases b.nodes[k]? with
  | none => exact ⟨rfl, rfl⟩
  | some x => exact ⟨rfl, rfl⟩
theorem wlv_end (f : Int → Int) (b : Big) {x : Nat} (hx : x < b.inner.length * 2) : wlv b.inner f b.inner.length x = wic (relB f b).inner x := by
  unfold wlv wic relB
  simp only [List.getElem?_map]
  have e : b.inner[x / 2]? = some (b.inner[x / 2]'(by omega)) := List.getElem?_eq_getElem _
  rw [e]
  dsimp only [Option.map]
  by_cases h0 : x % 2 = 0
  · rw [if_pos h0, if_pos h0]
  · rw [if_neg h0, if_neg h0, if_pos (by omega)]
theorem RMid.big {U W1 wr : World} {b : Big} {n1 n2 n4 n5 : Nat} {LS : Nat → Value} {f : Int → Int} {β : Nat} {B1 B2 B4 B5 : Option Addr} {e1 e2 e4 e5 : Nat} {LA : Nat → Option Addr} (h : RMid U W1 wr b n1 n2 n4 n5 LS f β B1 B2 B4 B5 e1 e2 e4 e5 n1 n5 LA)
    (l1 : b.nodes.length = n1) (l2 : b.sites.length = n2) (l4 : b.outer.length = n4) (l5 : b.inner.length = n5) : BigR wr U.heap.size wr.heap.size (.agg #[.int .i64 b.roots, .slice B1 n1 e1, .slice B2 n2 e2, .int .i64 b.edges, .slice B4 n4 e4, .slice B5 n5 e5]) (relB f b) := by
  subst l1 l2 l4 l5
  have hUW : U.heap.size ≤ W1.heap.size := by have := h.lt; omega
  refine ⟨⟨B1, e1, B2, e2, B4, e4, B5, e5, LA, lnOf b.nodes⟩, by simp [relB], ?_, ⟨?_, ?_⟩, rowR_here h.r2, rowR_here h.r4, ?_⟩
  · intro k hk _
    have hk' : k < b.nodes.length := by simpa [relB] using hk
    obtain ⟨g, e, a, _, hr⟩ := h.lnk k hk'
    refine ⟨fun e2 => ?_, fun j hj hjk => ?_⟩
    · have e2 : LA k = B2 := e2
      rcases h.r2 with ⟨e3, _⟩ | ⟨g3, _, e3, _, b2, _⟩
      · rw [e2, e3] at e; cases e
      · rw [e2, e3] at e
        injection e with e
        injection e with e
        omega
    · have hj' : j < b.nodes.length := by simpa [relB] using hj
      show LA j ≠ LA k
      rcases Nat.lt_or_gt_of_ne hjk with hl | hl
      · exact h.ne j k hl hk'
      · exact fun e4 => h.ne k j hl hj' e4.symm
  · have hl : (relB f b).nodes.length = b.nodes.length := by simp [relB]
    rw [hl]
    refine (rowR_here h.r1).congr (fun x hx => ?_)
    unfold rlv ndc
    rw [lnOf_rel, (ctOf_rel f b (x / 3)).1, (ctOf_rel f b (x / 3)).2]
    by_cases h0 : x % 3 = 0
    · rw [if_pos h0, if_pos h0]
    · rw [if_neg h0, if_neg h0]
      by_cases h1 : x % 3 = 1
      · rw [if_pos h1, if_pos h1]
      · rw [if_neg h1, if_neg h1, if_pos (by omega)]
  · intro k hk
    have hk' : k < b.nodes.length := by simpa [relB] using hk
    obtain ⟨g, e, a, c, hr⟩ := h.lnk k hk'
    show RowR wr U.heap.size wr.heap.size 3 1 (LA k) (lnOf (relB f b).nodes k) (lnOf b.nodes k) (iat (linksOf (relB f b).nodes k))
    rw [lnOf_rel, linksOf_rel]
    exact .inr ⟨g, _, e, by omega, c, Nat.le_refl _, by rw [Nat.mul_one]; exact hr, fun _ _ => rfl⟩
  · have hl : (relB f b).inner.length = b.inner.length := by simp [relB]
    rw [hl]
    exact (rowR_here h.r5).congr (fun x hx => wlv_end f b hx)

set_option maxRecDepth 20000 in
set_option maxHeartbeats 12800000 in
theorem relinked_any (F : FuncId) (lb : Array Value) (f : Int → Int) (Q : Int → Prop) (v : Value) (b : Big) (w : World) (eg : ∀ args w, (callFunc F args).run Tryz.prog w = .ok (.enter F args) w) (hto : ∀ (l : Int) (W : World), Q l → Below w.heap.size w W → Calls Tryz.prog F (#[.int .i64 l] ++ lb) W fun e W' => e = .returned (.int .i64 (f l)) ∧ Below W.heap.size W W') (hv : BigAt w w.heap.size v b) (hS : BigS b) (hN : NilV v) (hQn : ∀ x ∈ b.nodes, ∀ l ∈ x.links, Q l) (hQw : ∀ x ∈ b.inner, Q x.link) :
    Calls Tryz.prog 112 #[v, .func (.func F) #[] lb] w fun e w' => ∃ v', e = .returned v' ∧ BigR w' w.heap.size w'.heap.size v' (relB f b) ∧ Below w.heap.size w w' := by
  obtain ⟨A1, n1, c1, A2, n2, c2, A4, n4, c4, A5, n5, c5, rfl, h1, h2, h4, h5⟩ := hv
  have hnil := hN.get
  have hbx := (Below.refl w.heap.size w).alloc (Nat.le_refl _) (.cells #[.int .i64 b.roots, .slice A1 n1 c1, .slice A2 n2 c2, .int .i64 b.edges, .slice A4 n4 c4, .slice A5 n5 c5] 31)
  have HBoxI : Hid (BoxAt (w.alloc (.cells #[.int .i64 b.roots, .slice A1 n1 c1, .slice A2 n2 c2, .int .i64 b.edges, .slice A4 n4 c4, .slice A5 n5 c5] 31)) w.heap.size 31 (.int .i64 b.roots) (.slice A1 n1 c1) (.slice A2 n2 c2) (.int .i64 b.edges) (.slice A4 n4 c4) (.slice A5 n5 c5)) := Lib.hid (six_new w _ _ _ _ _ _ _)
  obtain ⟨W0, hW0⟩ : ∃ W, w.alloc (.cells #[.int .i64 b.roots, .slice A1 n1 c1, .slice A2 n2 c2, .int .i64 b.edges, .slice A4 n4 c4, .slice A5 n5 c5] 31) = W := ⟨_, rfl⟩
  have hWz0 : W0.heap.size = w.heap.size + 1 := by rw [← hW0]; simp
  rw [hW0] at hbx HBoxI
  have hb0 := (Below.refl W0.heap.size W0).alloc (Nat.le_refl _) (.cells #[.int .i64 0, .slice none 0 0, .slice none 0 0, .int .i64 0, .slice none 0 0, .slice none 0 0] 31)
  have HBx0 : Hid (BoxAt (W0.alloc (.cells #[.int .i64 0, .slice none 0 0, .slice none 0 0, .int .i64 0, .slice none 0 0, .slice none 0 0] 31)) W0.heap.size 31 (.int .i64 0) (.slice none 0 0) (.slice none 0 0) (.int .i64 0) (.slice none 0 0) (.slice none 0 0)) := Lib.hid (six_new W0 _ _ _ _ _ _ _)
  have HBox := Lib.hid (HBoxI.out.on hb0)
  obtain ⟨W, hW⟩ : ∃ W, W0.alloc (.cells #[.int .i64 0, .slice none 0 0, .slice none 0 0, .int .i64 0, .slice none 0 0, .slice none 0 0] 31) = W := ⟨_, rfl⟩
  have hWz : W.heap.size = w.heap.size + 1 + 1 := by rw [← hW]; simp; exact hWz0
  rw [hW] at hb0 HBx0 HBox
  rw [hWz0] at HBx0
  have HWq0 := Lib.hid hW0
  have HWq := Lib.hid hW
  have HB0 := Lib.hid (hbx.trans (hb0.mono hbx.size))
  have HWz := Lib.hid hWz
  have hVW : BigAt W W.heap.size (.agg #[.int .i64 b.roots, .slice A1 n1 c1, .slice A2 n2 c2, .int .i64 b.edges, .slice A4 n4 c4, .slice A5 n5 c5]) b := BigAt.wide (BigAt.below ⟨_, _, _, _, _, _, _, _, _, _, _, _, rfl, h1, h2, h4, h5⟩ HB0.out) HB0.out.size
  clear hW0 hW hb0 hWz hWz0 hbx HBoxI hN
  clear hVW
  have hS1 := hS.1
  have hS2 := hS.2.1
  have hS3 := hS.2.2.1
  have hS4 := hS.2.2.2.1
  have hS5 := hS.2.2.2.2.2.1
  have l1 := h1.1
  have l2 := h2.len
  have l4 := h4.strlen
  have l5 := h5.1
  rw [l1] at hS1
  rw [l2] at hS3
  rw [l4] at hS4
  rw [l5] at hS5
  obtain ⟨LS, hL⟩ := ndl_of h1
  have HL := Lib.hid hL
  have HLk := Lib.hid hS2
  have HQn := Lib.hid hQn
  have HQw := Lib.hid hQw
  have HTo := Lib.hid hto
  have HL1 := Lib.hid l1
  have HL2 := Lib.hid l2
  have HL4 := Lib.hid l4
  have HL5 := Lib.hid l5
  have H5 := Lib.hid h5
  have HCn := Lib.hid (fun (w2 : World) (hb2 : Below w.heap.size w w2) => cloneN_any A1 n1 c1 b.nodes LS w2 ((hL.below hb2).wide hb2.size) hS1 hnil.1)
  have HCi := Lib.hid (fun (w2 : World) (hb2 : Below w.heap.size w w2) => cloneI_any A2 n2 c2 b.sites w2 ((h2.below hb2).wide hb2.size) hS3 hnil.2.1)
  have HCs := Lib.hid (fun (w2 : World) (hb2 : Below w.heap.size w w2) => cloneS_any A4 n4 c4 b.outer w2 ((h4.below hb2).wide hb2.size) hS4 hnil.2.2.1)
  have HCw := Lib.hid (fun (w2 : World) (hb2 : Below w.heap.size w w2) => cloneW_any A5 n5 c5 b.inner w2 ((h5.below hb2).wide hb2.size) hS5 hnil.2.2.2)
  obtain ⟨U, hU⟩ : ∃ U, W = U := ⟨_, rfl⟩
  rw [hU] at HBox HBx0 HWq HB0 HWz
  have hβl : w.heap.size < w.heap.size + 1 := Nat.lt_succ_self _
  obtain ⟨x0, x1, x2, x3, x4, x5⟩ := HBox.out.get
  clear hU hL h1 h2 h4 h5 hS hS2 l1 l2 l4 l5 hnil hQn hQw hto
  go_enter Tryz.func112, Tryz.ntmps112
  go_wp2_with fail
  rw [HWq0.out, HWq.out]
  go_cut [5] from 13 to 29 (fun s5 wx => Made U b n1 n2 n4 n5 LS s5 wx)
  case first =>
    go_wp2_with fail
    have hkD := (Below.refl U.heap.size U).drew
    go_region_held3 (fun w' => w'.cell? ⟨w.heap.size, 0, none⟩ = some (.int .i64 b.roots) ∧ w'.cell? ⟨w.heap.size, 1, none⟩ = some (.slice A1 n1 c1) ∧ w'.cell? ⟨w.heap.size, 2, none⟩ = some (.slice A2 n2 c2) ∧ w'.cell? ⟨w.heap.size, 3, none⟩ = some (.int .i64 b.edges) ∧ w'.cell? ⟨w.heap.size, 4, none⟩ = some (.slice A4 n4 c4) ∧ w'.cell? ⟨w.heap.size, 5, none⟩ = some (.slice A5 n5 c5)) (first | with_reducible exact (HBox.out.on (((((((hk3).setCell hβ _).setCell hβ _).setCell hβ _).setCell hβ _).setCell hβ _).setCell hβ _)).get | with_reducible exact (HBox.out.on (((((((hk3.alloc hk3.size _).setCell hk3.size _).setCell hk3.size _).setCell hk3.size _).setCell hk3.size _).setCell hk3.size _).setCell hk3.size _)).get | with_reducible exact (HBox.out.on hk3).get | with_reducible exact (HBox.out.on (hk3.alloc hk3.size _)).get | with_reducible exact (HBox.out.on hk2).get | with_reducible exact (HBox.out.on (hk2.alloc hk2.size _)).get | with_reducible exact (HBox.out.on hk1).get | with_reducible exact (HBox.out.on (hk1.alloc hk1.size _)).get | with_reducible exact (HBox.out.on hk0).get | with_reducible exact (HBox.out.on (hk0.alloc hk0.size _)).get | with_reducible exact (HBox.out.on hkD).get | with_reducible exact (HBox.out.on ((Below.refl U.heap.size U).alloc (Nat.le_refl _) _).drew).get)
      (first
       | (go_at_call 129; refine (HCn.out _ (HB0.out.trans ((((Below.refl U.heap.size U).alloc (Nat.le_refl _) (.cells #[.int .i64 0, .slice none 0 0, .slice none 0 0, .int .i64 0, .slice none 0 0, .slice none 0 0] 31)).drew).mono HB0.out.size))).mono ?_; rintro e u0 ⟨B1, e1, rfl, hr1, hz1, hb⟩; have hk0 := (((Below.refl U.heap.size U).alloc (Nat.le_refl _) (.cells #[.int .i64 0, .slice none 0 0, .slice none 0 0, .int .i64 0, .slice none 0 0, .slice none 0 0] 31)).drew).trans (hb.mono (((Below.refl U.heap.size U).alloc (Nat.le_refl _) (.cells #[.int .i64 0, .slice none 0 0, .slice none 0 0, .int .i64 0, .slice none 0 0, .slice none 0 0] 31)).drew).size); have hr1 := hr1.wide (lo' := U.heap.size) (((Below.refl U.heap.size U).alloc (Nat.le_refl _) (.cells #[.int .i64 0, .slice none 0 0, .slice none 0 0, .int .i64 0, .slice none 0 0, .slice none 0 0] 31)).drew).size (Nat.le_refl _); have hβ := Nat.le_refl U.heap.size; have hrow := (World.rowIs.drew (six_new U (.int .i64 0) (.slice none 0 0) (.slice none 0 0) (.int .i64 0) (.slice none 0 0) (.slice none 0 0) 31)).of_block (hb.block _ (by simp)); clear hb)
       | (go_at_call 129; refine (HCn.out _ (HB0.out.trans (hkD.mono HB0.out.size))).mono ?_; rintro e u0 ⟨B1, e1, rfl, hr1, hz1, hb⟩; have hk0 := hkD.trans (hb.mono hkD.size); have hr1 := hr1.wide (lo' := U.heap.size) hkD.size (Nat.le_refl _); clear hb)
       | (have hTest := hβ; go_at_call 130; refine (HCi.out _ (HB0.out.trans (hk0.mono HB0.out.size))).mono ?_; rintro e u1 ⟨B2, e2, rfl, hr2, hz2, hb⟩; have hk1 := hk0.trans (hb.mono hk0.size); have hr2 := hr2.wide (lo' := U.heap.size) hk0.size (Nat.le_refl _); have hr1 := rowR_here (hr1.on hb); have hrow := hrow.of_block (hb.block _ hrow.lt); clear hTest; clear hb)
       | (go_at_call 130; refine (HCi.out _ (HB0.out.trans ((hk0.alloc hk0.size (.cells #[.int .i64 0, .slice none 0 0, .slice none 0 0, .int .i64 0, .slice none 0 0, .slice none 0 0] 31)).mono HB0.out.size))).mono ?_; rintro e u1 ⟨B2, e2, rfl, hr2, hz2, hb⟩; have hk1 := (hk0.alloc hk0.size (.cells #[.int .i64 0, .slice none 0 0, .slice none 0 0, .int .i64 0, .slice none 0 0, .slice none 0 0] 31)).trans (hb.mono (hk0.alloc hk0.size (.cells #[.int .i64 0, .slice none 0 0, .slice none 0 0, .int .i64 0, .slice none 0 0, .slice none 0 0] 31)).size); have hr2 := hr2.wide (lo' := U.heap.size) (hk0.alloc hk0.size (.cells #[.int .i64 0, .slice none 0 0, .slice none 0 0, .int .i64 0, .slice none 0 0, .slice none 0 0] 31)).size (Nat.le_refl _); have hr1 := rowR_here ((hr1.on ((Below.refl _ _).alloc (Nat.le_refl _) (.cells #[.int .i64 0, .slice none 0 0, .slice none 0 0, .int .i64 0, .slice none 0 0, .slice none 0 0] 31))).on hb); have hβ := hk0.size; have hrow := (six_new u0 (.int .i64 0) (.slice none 0 0) (.slice none 0 0) (.int .i64 0) (.slice none 0 0) (.slice none 0 0) 31).of_block (hb.block _ (by simp)); clear hb)
       | (go_at_call 130; refine (HCi.out _ (HB0.out.trans (hk0.mono HB0.out.size))).mono ?_; rintro e u1 ⟨B2, e2, rfl, hr2, hz2, hb⟩; have hk1 := hk0.trans (hb.mono hk0.size); have hr2 := hr2.wide (lo' := U.heap.size) hk0.size (Nat.le_refl _); have hr1 := rowR_here (hr1.on hb); clear hb)
       | (have hTest := hβ; go_at_call 114; refine (HCs.out _ (HB0.out.trans (hk1.mono HB0.out.size))).mono ?_; rintro e u2 ⟨B4, e4, rfl, hr4, hz4, hb⟩; have hk2 := hk1.trans (hb.mono hk1.size); have hr4 := hr4.wide (lo' := U.heap.size) hk1.size (Nat.le_refl _); have hr1 := rowR_here (hr1.on hb); have hr2 := rowR_here (hr2.on hb); have hrow := hrow.of_block (hb.block _ hrow.lt); clear hTest; clear hb)
       | (go_at_call 114; refine (HCs.out _ (HB0.out.trans ((hk1.alloc hk1.size (.cells #[.int .i64 0, .slice none 0 0, .slice none 0 0, .int .i64 0, .slice none 0 0, .slice none 0 0] 31)).mono HB0.out.size))).mono ?_; rintro e u2 ⟨B4, e4, rfl, hr4, hz4, hb⟩; have hk2 := (hk1.alloc hk1.size (.cells #[.int .i64 0, .slice none 0 0, .slice none 0 0, .int .i64 0, .slice none 0 0, .slice none 0 0] 31)).trans (hb.mono (hk1.alloc hk1.size (.cells #[.int .i64 0, .slice none 0 0, .slice none 0 0, .int .i64 0, .slice none 0 0, .slice none 0 0] 31)).size); have hr4 := hr4.wide (lo' := U.heap.size) (hk1.alloc hk1.size (.cells #[.int .i64 0, .slice none 0 0, .slice none 0 0, .int .i64 0, .slice none 0 0, .slice none 0 0] 31)).size (Nat.le_refl _); have hr1 := rowR_here ((hr1.on ((Below.refl _ _).alloc (Nat.le_refl _) (.cells #[.int .i64 0, .slice none 0 0, .slice none 0 0, .int .i64 0, .slice none 0 0, .slice none 0 0] 31))).on hb); have hr2 := rowR_here ((hr2.on ((Below.refl _ _).alloc (Nat.le_refl _) (.cells #[.int .i64 0, .slice none 0 0, .slice none 0 0, .int .i64 0, .slice none 0 0, .slice none 0 0] 31))).on hb); have hβ := hk1.size; have hrow := (six_new u1 (.int .i64 0) (.slice none 0 0) (.slice none 0 0) (.int .i64 0) (.slice none 0 0) (.slice none 0 0) 31).of_block (hb.block _ (by simp)); clear hb)
       | (go_at_call 114; refine (HCs.out _ (HB0.out.trans (hk1.mono HB0.out.size))).mono ?_; rintro e u2 ⟨B4, e4, rfl, hr4, hz4, hb⟩; have hk2 := hk1.trans (hb.mono hk1.size); have hr4 := hr4.wide (lo' := U.heap.size) hk1.size (Nat.le_refl _); have hr1 := rowR_here (hr1.on hb); have hr2 := rowR_here (hr2.on hb); clear hb)
       | (have hTest := hβ; go_at_call 131; refine (HCw.out _ (HB0.out.trans (hk2.mono HB0.out.size))).mono ?_; rintro e u3 ⟨B5, e5, rfl, hr5, hz5, hb⟩; have hk3 := hk2.trans (hb.mono hk2.size); have hr5 := hr5.wide (lo' := U.heap.size) hk2.size (Nat.le_refl _); have hr1 := rowR_here (hr1.on hb); have hr2 := rowR_here (hr2.on hb); have hr4 := rowR_here (hr4.on hb); have hrow := hrow.of_block (hb.block _ hrow.lt); clear hTest; obtain ⟨z0, z1, z2, z3, z4, z5⟩ := row6 hrow; have f0 := hrow.frozen 0; have f1 := hrow.frozen 1; have f2 := hrow.frozen 2; have f3 := hrow.frozen 3; have f4 := hrow.frozen 4; have f5 := hrow.frozen 5; clear hb)
       | (go_at_call 131; refine (HCw.out _ (HB0.out.trans ((hk2.alloc hk2.size (.cells #[.int .i64 0, .slice none 0 0, .slice none 0 0, .int .i64 0, .slice none 0 0, .slice none 0 0] 31)).mono HB0.out.size))).mono ?_; rintro e u3 ⟨B5, e5, rfl, hr5, hz5, hb⟩; have hk3 := (hk2.alloc hk2.size (.cells #[.int .i64 0, .slice none 0 0, .slice none 0 0, .int .i64 0, .slice none 0 0, .slice none 0 0] 31)).trans (hb.mono (hk2.alloc hk2.size (.cells #[.int .i64 0, .slice none 0 0, .slice none 0 0, .int .i64 0, .slice none 0 0, .slice none 0 0] 31)).size); have hr5 := hr5.wide (lo' := U.heap.size) (hk2.alloc hk2.size (.cells #[.int .i64 0, .slice none 0 0, .slice none 0 0, .int .i64 0, .slice none 0 0, .slice none 0 0] 31)).size (Nat.le_refl _); have hr1 := rowR_here ((hr1.on ((Below.refl _ _).alloc (Nat.le_refl _) (.cells #[.int .i64 0, .slice none 0 0, .slice none 0 0, .int .i64 0, .slice none 0 0, .slice none 0 0] 31))).on hb); have hr2 := rowR_here ((hr2.on ((Below.refl _ _).alloc (Nat.le_refl _) (.cells #[.int .i64 0, .slice none 0 0, .slice none 0 0, .int .i64 0, .slice none 0 0, .slice none 0 0] 31))).on hb); have hr4 := rowR_here ((hr4.on ((Below.refl _ _).alloc (Nat.le_refl _) (.cells #[.int .i64 0, .slice none 0 0, .slice none 0 0, .int .i64 0, .slice none 0 0, .slice none 0 0] 31))).on hb); have hβ := hk2.size; have hrow := (six_new u2 (.int .i64 0) (.slice none 0 0) (.slice none 0 0) (.int .i64 0) (.slice none 0 0) (.slice none 0 0) 31).of_block (hb.block _ (by simp)); obtain ⟨z0, z1, z2, z3, z4, z5⟩ := row6 hrow; have f0 := hrow.frozen 0; have f1 := hrow.frozen 1; have f2 := hrow.frozen 2; have f3 := hrow.frozen 3; have f4 := hrow.frozen 4; have f5 := hrow.frozen 5; clear hb)
       | (go_at_call 131; refine (HCw.out _ (HB0.out.trans (hk2.mono HB0.out.size))).mono ?_; rintro e u3 ⟨B5, e5, rfl, hr5, hz5, hb⟩; have hk3 := hk2.trans (hb.mono hk2.size); have hr5 := hr5.wide (lo' := U.heap.size) hk2.size (Nat.le_refl _); have hr1 := rowR_here (hr1.on hb); have hr2 := rowR_here (hr2.on hb); have hr4 := rowR_here (hr4.on hb); clear hb))
    all_goals (go_wp2_with fail; go_meet)
    all_goals (first | with_reducible exact made_late hr1 hr2 hr4 hr5 hk3 | with_reducible exact made_early hrow hβ hr1 hr2 hr4 hr5 hk3)
  case rest =>
    clear x0 x1 x2 x3 x4 x5
    obtain ⟨W1, hwc⟩ : ∃ x, wc = x := ⟨_, rfl⟩
    rw [hwc] at hcut ⊢
    clear hwc
    obtain ⟨β, B1, e1, B2, e2, B4, e4, B5, e5, rfl, hβ, hbox, r1, r2, r4, r5, hb⟩ := hcut
    have HM0 : Hid (RMid U W1 W1 b n1 n2 n4 n5 LS f β B1 B2 B4 B5 e1 e2 e4 e5 0 0 (fun _ => none)) := Lib.hid ⟨hbox, r1.congr (fun x _ => (rlv_zero _ _ _ x).symm), fun j hj => absurd hj (Nat.not_lt_zero j), fun i j _ hj => absurd hj (Nat.not_lt_zero j), r2, r4, r5.congr (fun x _ => (wlv_zero _ _ x).symm), hb, Nat.le_refl _, ⟨World.rowIs.lt hbox, hβ⟩⟩
    have HBx := Lib.hid (HBx0.out.on hb)
    have hUz : U.heap.size = w.heap.size + 1 + 1 := HWz.out
    obtain ⟨y0, y1, y2, y3, y4, y5⟩ := hbox.get
    clear r1 r2 r4 r5 hb hβ
    go_wp2_with fail
    clear y0 y1 y2 y3 y4 y5 hbox
    go_loopw [33] (fun i wr => ∃ (k : Nat) (LA : Nat → Option Addr), k ≤ n1 ∧ i = .int .i64 k ∧ RMid U W1 wr b n1 n2 n4 n5 LS f β B1 B2 B4 B5 e1 e2 e4 e5 k 0 LA) (fun i _ => n1 - (intOf i).toNat)
    case atStart => exact ⟨0, _, Nat.zero_le _, rfl, HM0.out⟩
    case round =>
      obtain ⟨k, LA, hk, rfl, hM⟩ := hrel
      obtain ⟨wo, rfl⟩ : ∃ wo : World, wo = wr := ⟨_, rfl⟩
      have HM := Lib.hid hM
      by_cases hlt : k < n1
      · obtain ⟨x, hx⟩ : ∃ x, b.nodes[k]? = some x := ⟨_, List.getElem?_eq_getElem (by rw [HL1.out]; exact hlt)⟩
        rcases hM.r1 with ⟨-, -, e⟩ | ⟨g1, q1, rfl, a1, a2, a3, a4, a5⟩
        · omega
        obtain ⟨p0, p1, p2⟩ := rlv_at b.nodes LS LA k k
        obtain ⟨m0, m1⟩ := ctOf_at hx
        obtain ⟨Al, nl, cl', hLk, hil⟩ := HL.out.links hx
        have d0 : wo.cell? ⟨g1, k * 3, none⟩ = some (.int .i64 x.control) := by rw [a4.cell (by omega), a5 _ (by omega), p0, m0]
        have d1 : wo.cell? ⟨g1, k * 3 + 1, none⟩ = some (.int .i64 x.parent) := by rw [a4.cell (by omega), a5 _ (by omega), p1, m1]
        have d2 : wo.cell? ⟨g1, k * 3 + 2, none⟩ = some (.slice Al nl cl') := by rw [a4.cell (by omega), a5 _ (by omega), p2, if_neg (Nat.lt_irrefl k), hLk]
        have hnl : nl ≤ 1048576 := by have := HLk.out x (List.mem_of_getElem? hx); have := hil.len; omega
        have hnx : nl = x.links.length := hil.len.symm
        have hmk := fun W => run_make_row' (P := Tryz.prog) 27 3 (.int .i64 0) 8 Tryz.underlying27 int_info rfl .i64 .i64 nl (by omega) (by omega) W
        have hbN := (Below.refl wo.heap.size wo).alloc (Nat.le_refl _) (.cells #[.int .i64 x.control, .int .i64 x.parent, .slice Al nl cl'] 96)
        have hrN := row_new wo #[.int .i64 x.control, .int .i64 x.parent, .slice Al nl cl'] 96 3 rfl
        obtain ⟨V, hV⟩ : ∃ V, wo.alloc (.cells #[.int .i64 x.control, .int .i64 x.parent, .slice Al nl cl'] 96) = V := ⟨_, rfl⟩
        have hVz : V.heap.size = wo.heap.size + 1 := by rw [← hV]; simp
        rw [hV] at hbN hrN
        have HVq := Lib.hid hV
        have hmade := World.rowIs_made V (.int .i64 0) nl 3
        rw [hVz] at hmade
        have HMade := Lib.hid hmade
        have hbM := (Below.refl V.heap.size V).alloc (Nat.le_refl _) (.cells (madeCells #[.int .i64 0] nl) 3)
        have HbN := Lib.hid hbN
        have HbM := Lib.hid hbM
        have HX := Lib.hid hx
        have HI := Lib.hid hil
        have HrN := Lib.hid hrN
        have HVz := Lib.hid hVz
        have Hnx := Lib.hid hnx
        obtain ⟨v0, v1, v2⟩ := row3 hrN
        clear hV hmade hbM hbN hrN hVz hx hil hLk p0 p1 p2 m0 m1 hM hnx a4 a5
        go_wp2_with fail
        rw [HVq.out]
        go_wp2_with fail
        go_loopw [45] (fun i wi => ∃ m : Nat, m ≤ nl ∧ i = .int .i64 m ∧ wi.rowIs (wo.heap.size + 1) 3 nl (fun j => if j < m then iat (x.links.map f) j else .int .i64 0) ∧ Below wo.heap.size wo wi) (fun i _ => nl - (intOf i).toNat)
        case atStart => exact ⟨0, Nat.zero_le _, rfl, HMade.out.congr (fun _ _ => by simp), HbN.out.trans (HbM.out.mono HbN.out.size)⟩
        case round =>
          obtain ⟨m, hm, rfl, hrow, hbel⟩ := hrel
          have hbw : Below w.heap.size w wr := HB0.out.trans ((HM.out.bel.trans (hbel.mono HM.out.bel.size)).mono HB0.out.size)
          have HBel := Lib.hid hbel
          by_cases hlm : m < nl
          · obtain ⟨b2, off2, l, rfl, hb2, hl, cl⟩ := HI.out.get hlm
            have d3 := (hbw.cell (p := ⟨b2, off2 + m, none⟩) hb2).trans cl
            have CK := HTo.out l wr (HQn.out x (List.mem_of_getElem? HX.out) l (List.mem_of_getElem? hl)) hbw
            have HA : Hid (iat (x.links.map f) m = .int .i64 (f l)) := Lib.hid (iat_of (by rw [List.getElem?_map, hl]; rfl))
            have HRow := Lib.hid hrow
            clear hrow cl hl hbel hbw
            go_wp2_with (go_at_fn F; refine CK.mono ?_; rintro e w2 ⟨rfl, hb2⟩; have hrow2 := HRow.out.of_block (hb2.block _ HRow.out.lt); have zc := hrow2.cell hlm; have zf := hrow2.frozen m)
            have HR2 := Lib.hid (hrow2.set m (.int .i64 (f l)))
            have HB2 := Lib.hid ((HBel.out.trans (hb2.mono HBel.out.size)).setCell (p := ⟨wo.heap.size + 1, m, none⟩) (Nat.le_succ _) (.int .i64 (f l)))
            clear hrow2 hb2
            go_roundw
            case rel =>
              refine ⟨m + 1, by omega, by go_num, HR2.out.congr (fun j hj => ?_), HB2.out⟩
              show (if j = m then _ else if j < m then _ else _) = if j < m + 1 then _ else _
              by_cases e : j = m
              · subst e; rw [if_pos rfl, if_pos (by omega), HA.out]
              · rw [if_neg e]
                by_cases e2 : j < m
                · rw [if_pos e2, if_pos (by omega)]
                · rw [if_neg e2, if_neg (by omega)]
            case measure => simp [intOf]; omega
          · obtain rfl : m = nl := by omega
            have HG := Lib.hid (hrow.congr (g := iat (x.links.map f)) (fun j hj => if_pos hj))
            have HM2 := Lib.hid (HM.out.on hbel)
            have HNx : Hid (RMid U W1 _ b n1 n2 n4 n5 LS f β (some ⟨g1, 0, none⟩) B2 B4 B5 e1 e2 e4 e5 (k + 1) 0 _) := Lib.hid (HM2.out.next HX.out hlt rfl Hnx.out HG.out (by have := HM.out.sz; omega) (fun j hj e => by
              obtain ⟨g3, e3, -, h3, -⟩ := HM.out.lnk j hj
              rw [e] at e3
              injection e3 with e3
              injection e3 with e3
              omega))
            rcases HM2.out.r1 with ⟨e, -⟩ | ⟨g3, q3, e, b1, b2, b3, b4, b5⟩
            · cases e
            injection e with e
            injection e with e
            subst e
            have zc := b4.cell (show k * 3 + 2 < e1 * 3 by omega)
            have zf := b4.frozen (k * 3 + 2)
            obtain ⟨y0, y1, y2, y3, y4, y5⟩ := HM2.out.box.get
            clear hrow hbel hbw b4 b5
            go_wp2_with fail
            go_roundw
            case rel => exact ⟨k + 1, _, by omega, by go_num, HNx.out⟩
            case measure => simp [intOf]; omega
      · obtain rfl : k = n1 := by omega
        obtain ⟨y0, y1, y2, y3, y4, y5⟩ := hM.box.get
        clear hM
        go_wp2_with fail
        clear y0 y1 y2 y3 y4 y5
        go_loopw [67] (fun i wr => ∃ m : Nat, m ≤ n5 ∧ i = .int .i64 m ∧ RMid U W1 wr b k n2 n4 n5 LS f β B1 B2 B4 B5 e1 e2 e4 e5 k m LA) (fun i _ => n5 - (intOf i).toNat)
        case atStart => exact ⟨0, Nat.zero_le _, rfl, HM.out⟩
        case round =>
          obtain ⟨m, hm, rfl, hM⟩ := hrel
          obtain ⟨wi, rfl⟩ : ∃ wi : World, wi = wr := ⟨_, rfl⟩
          have HMi := Lib.hid hM
          by_cases hlm : m < n5
          · obtain ⟨y, hy⟩ : ∃ y, b.inner[m]? = some y := ⟨_, List.getElem?_eq_getElem (by rw [HL5.out]; exact hlm)⟩
            rcases hM.r5 with ⟨-, -, e⟩ | ⟨g5, q5, rfl, a1, a2, a3, a4, a5⟩
            · omega
            obtain ⟨p0, p1⟩ := wlv_at (f := f) (k := m) hy
            have d0 : wi.cell? ⟨g5, m * 2, none⟩ = some (.string y.name) := by rw [a4.cell (by omega), a5 _ (by omega), p0]
            have d1 : wi.cell? ⟨g5, m * 2 + 1, none⟩ = some (.int .i64 y.link) := by rw [a4.cell (by omega), a5 _ (by omega), p1, if_neg (Nat.lt_irrefl m)]
            have hbN := (Below.refl wi.heap.size wi).alloc (Nat.le_refl _) (.cells #[.string y.name, .int .i64 y.link] 80)
            have hrN := row_new wi #[.string y.name, .int .i64 y.link] 80 2 rfl
            obtain ⟨V, hV⟩ : ∃ V, wi.alloc (.cells #[.string y.name, .int .i64 y.link] 80) = V := ⟨_, rfl⟩
            have hVz : V.heap.size = wi.heap.size + 1 := by rw [← hV]; simp
            rw [hV] at hbN hrN
            have HVq := Lib.hid hV
            have HbN := Lib.hid hbN
            have HMV := Lib.hid (HMi.out.on hbN)
            have HrN := Lib.hid hrN
            have hVl : wi.heap.size < V.heap.size := by omega
            have hgV : g5 < wi.heap.size := a4.lt
            have hβg : β ≠ g5 := fun e => by subst e; exact absurd (rowIs_uniq a4 hM.box).1 (by decide)
            have hgw : wi.heap.size ≠ g5 := by omega
            have HY := Lib.hid hy
            have v1 : V.cell? ⟨wi.heap.size, 1, none⟩ = some (.int .i64 y.link) := hrN.cell (by omega)
            have HV1 := Lib.hid v1
            have HBV := Lib.hid (HB0.out.trans (HMV.out.bel.mono HB0.out.size))
            have CK := Lib.hid (fun (w2 : World) (hb2 : Below V.heap.size V w2) => HTo.out y.link w2 (HQw.out y (List.mem_of_getElem? HY.out)) (HBV.out.trans (hb2.mono HBV.out.size)))
            have hR5 := HMV.out.r5
            rcases hR5 with ⟨e, -⟩ | ⟨g6, q6, e, b1, b2, b3, b4, b5⟩
            · cases e
            injection e with e
            injection e with e
            subst e
            have HB4 := Lib.hid b4
            have hme : m * 2 + 1 < e5 * 2 := by omega
            obtain ⟨y0, y1, y2, y3, y4, y5⟩ := HMV.out.box.get
            clear hV hbN hrN hVz hM hy a4 a5 p0 p1 b4 b5
            go_wp2_with fail
            rw [HVq.out]
            go_wp2_with fail
            clear d0 d1
            have hkD := (Below.refl V.heap.size V).drew
            go_region_held3 (fun w' => w'.cell? ⟨β, 5, none⟩ = some (.slice (some ⟨g5, 0, none⟩) n5 e5) ∧ w'.cell? ⟨wi.heap.size, 1, none⟩ = some (.int .i64 y.link))
              (first
               | with_reducible exact ⟨((HMV.out.on hk2).box.else_ hβg _).get.2.2.2.2.2, World.rowIs.cell ((HrN.out.of_block (hk2.block _ hVl)).setOther (a := ⟨g5, m * 2 + 1, none⟩) hgw _) (Nat.lt_succ_self 1)⟩
               | with_reducible exact ⟨(HMV.out.on hk2).box.get.2.2.2.2.2, (hk2.cell (p := ⟨wi.heap.size, 1, none⟩) hVl).trans HV1.out⟩
               | with_reducible exact ⟨(HMV.out.on hkD).box.get.2.2.2.2.2, (hkD.cell (p := ⟨wi.heap.size, 1, none⟩) hVl).trans HV1.out⟩)
              (first
               | (go_at_fn F; refine (CK.out _ hkD).mono ?_; rintro e w2 ⟨rfl, hb2⟩; have hk2 := hkD.trans (hb2.mono hkD.size); have hr5 := HB4.out.of_block (hk2.block _ HB4.out.lt); have zc := hr5.cell hme; have zf := hr5.frozen (m * 2 + 1)))
            have HMn := Lib.hid ((HMV.out.on hk2).wire HY.out hlm rfl)
            clear hk2 hkD hb2 hr5 zc zf y0 y1 y2 y3 y4 y5
            go_wp2_with fail
            go_roundw
            case rel => exact ⟨m + 1, by omega, by go_num, HMn.out⟩
            case measure => simp [intOf]; omega
          · obtain rfl : m = n5 := by omega
            have HBR := Lib.hid (hM.big HL1.out HL2.out HL4.out HL5.out)
            have HBxi := Lib.hid (HBx0.out.on hM.bel)
            have HBl := Lib.hid (HB0.out.trans (hM.bel.mono HB0.out.size))
            obtain ⟨y0, y1, y2, y3, y4, y5⟩ := hM.box.get
            obtain ⟨z0, z1, z2, z3, z4, z5⟩ := HBxi.out.get
            have f0 := World.rowIs.frozen HBxi.out 0
            have f1 := World.rowIs.frozen HBxi.out 1
            have f2 := World.rowIs.frozen HBxi.out 2
            have f3 := World.rowIs.frozen HBxi.out 3
            have f4 := World.rowIs.frozen HBxi.out 4
            have f5 := World.rowIs.frozen HBxi.out 5
            clear hM
            go_wp2_with fail
            have hbig := ((sets6_big HBxi.out HBR.out (.int .i64 b.roots) (.slice B1 k e1) (.slice B2 n2 e2) (.int .i64 b.edges) (.slice B4 n4 e4) (.slice B5 m e5)).here).wide (lo' := w.heap.size) (show w.heap.size ≤ U.heap.size by omega) (Nat.le_refl _)
            have hbel := sets6_below HBl.out (show w.heap.size ≤ w.heap.size + 1 from Nat.le_succ _) (.int .i64 b.roots) (.slice B1 k e1) (.slice B2 n2 e2) (.int .i64 b.edges) (.slice B4 n4 e4) (.slice B5 m e5)
            unfold sets6 at hbig hbel
            exact bodyPost_ret (v := .agg #[.int .i64 b.roots, .slice B1 k e1, .slice B2 n2 e2, .int .i64 b.edges, .slice B4 n4 e4, .slice B5 m e5]) (by simp [results, Tryz.results112, go_sem, z0, z1, z2, z3, z4, z5]) rfl ⟨_, rfl, hbig, hbel⟩
end Go.Proofs.YtlpgldejmdiceabGreat.rl
end

section
namespace Go.Proofs.YtlpgldejmdiceabGreat.ed
open kit bg sg opn strs only hb sig isig un over gn nm inn ht gd im pt marks eqs hc hi hw hn rs br bm bw cf lf ib lawb lw cl rl
open Go.RowKit
set_option linter.unusedVariables false

/-- a Bigraph in memory of the call's own, laid by a plan -/
def Laid (w : World) (lo hi : Nat) (P : Plan) (b : Big) : Prop :=
  P.Apart b.nodes.length ∧ Nodes w lo hi P b.nodes.length (lnOf b.nodes) (ctOf b.nodes) (paOf b.nodes) (fun k => iat (linksOf b.nodes k)) ∧ RowR w lo hi 3 1 P.A2 b.sites.length P.c2 (iat b.sites) ∧ RowR w lo hi 9 1 P.A4 b.outer.length P.c4 (at_ b.outer) ∧ RowR w lo hi 80 2 P.A5 b.inner.length P.c5 (wic b.inner)
def Plan.val (P : Plan) (R E : Int) (n1 n2 n4 n5 : Nat) : Value := .agg #[.int .i64 R, .slice P.A1 n1 P.c1, .slice P.A2 n2 P.c2, .int .i64 E, .slice P.A4 n4 P.c4, .slice P.A5 n5 P.c5]
section
variable {w w' : World} {lo hi lo' hi' : Nat} {P : Plan} {b : Big}
theorem Laid.big (h : Laid w lo hi P b) : BigR w lo hi (.agg #[.int .i64 b.roots, .slice P.A1 b.nodes.length P.c1, .slice P.A2 b.sites.length P.c2, .int .i64 b.edges, .slice P.A4 b.outer.length P.c4, .slice P.A5 b.inner.length P.c5]) b := ⟨P, rfl, h⟩
theorem laid_of {v : Value} (h : BigR w lo hi v b) : ∃ P : Plan, v = .agg #[.int .i64 b.roots, .slice P.A1 b.nodes.length P.c1, .slice P.A2 b.sites.length P.c2, .int .i64 b.edges, .slice P.A4 b.outer.length P.c4, .slice P.A5 b.inner.length P.c5] ∧ Laid w lo hi P b := h
theorem Laid.stay (h : Laid w lo hi P b) (hb : ∀ g f m t, w.rowIs g t m f → lo ≤ g → g < hi → w'.heap[g]? = w.heap[g]?) : Laid w' lo hi P b := by
  obtain ⟨ha, h1, h2, h4, h5⟩ := h
  exact ⟨ha, h1.stay hb, h2.stay fun g f m _ hr => hb g f m _ hr, h4.stay fun g f m _ hr => hb g f m _ hr, h5.stay fun g f m _ hr => hb g f m _ hr⟩
theorem Laid.on (h : Laid w lo hi P b) (hb : Below w.heap.size w w') : Laid w' lo hi P b := h.stay fun g f m _ hr _ _ => hb.block g hr.lt
theorem Laid.wide (h : Laid w lo hi P b) (a1 : lo' ≤ lo) (a2 : hi ≤ hi') : Laid w lo' hi' P b := by
  obtain ⟨ha, h1, h2, h4, h5⟩ := h
  exact ⟨ha, h1.wide a1 a2, h2.wide a1 a2, h4.wide a1 a2, h5.wide a1 a2⟩
theorem Laid.here (h : Laid w lo hi P b) : Laid w lo w.heap.size P b := by
  obtain ⟨ha, ⟨h1, h1'⟩, h2, h4, h5⟩ := h
  exact ⟨ha, ⟨rowR_here h1, fun k hk => rowR_here (h1' k hk)⟩, rowR_here h2, rowR_here h4, rowR_here h5⟩
/-- the sizes and the faces alone tell nothing of the memory -/
theorem Laid.face (h : Laid w lo hi P b) (R E : Int) : Laid w lo hi P ⟨R, b.nodes, b.sites, E, b.outer, b.inner⟩ := h
/-- a store elsewhere -/
theorem row_far_set {n c sz g off : Nat} {t : TypeId} {A : Option Addr} {M : Nat → Value} {u : Value} (h : RowR w lo hi t sz A n c M) (hA : A ≠ some ⟨g, 0, none⟩) : RowR (w.setCell ⟨g, off, none⟩ u) lo hi t sz A n c M := by
  rcases h with h0 | ⟨g2, f2, e2, k1, k2, k3, k4, k5⟩
  · exact .inl h0
  · exact .inr ⟨g2, f2, e2, k1, k2, k3, k4.setOther (a := ⟨g, off, none⟩) (fun e => hA (by rw [e2, e])) u, k5⟩
theorem row_here_set {n c sz g off m : Nat} {t : TypeId} {M f : Nat → Value} {u : Value} (h : RowR w lo hi t sz (some ⟨g, 0, none⟩) n c M) : RowR (w.setCell ⟨g, off, none⟩ u) lo hi t sz (some ⟨g, 0, none⟩) n c (fun x => if x = off then u else M x) := by
  rcases h with ⟨e, _⟩ | ⟨g2, f2, e2, k1, k2, k3, k4, k5⟩
  · cases e
  · injection e2 with e2
    injection e2 with e2
    subst e2
    refine .inr ⟨g, _, rfl, k1, k2, k3, k4.set off u, fun x hx => ?_⟩
    show (if x = off then _ else f2 x) = if x = off then _ else M x
    by_cases e : x = off
    · rw [if_pos e, if_pos e]
    · rw [if_neg e, if_neg e, k5 x hx]
end

theorem _root_.Go.Proofs.YtlpgldejmdiceabGreat.br.BigR.edge {w : World} {lo hi : Nat} {R E : Int} {s1 s2 s4 s5 : Value} {b : Big} (h : BigR w lo hi (.agg #[.int .i64 R, s1, s2, .int .i64 E, s4, s5]) b) (E' : Int) : BigR w lo hi (.agg #[.int .i64 R, s1, s2, .int .i64 E', s4, s5]) ⟨b.roots, b.nodes, b.sites, E', b.outer, b.inner⟩ := by
  obtain ⟨P, e, h⟩ := h
  injection e with e
  injection e with e
  injection e with e0 e
  injection e with e1 e
  injection e with e2 e
  injection e with e3 e
  injection e with e4 e
  injection e with e5 e
  exact ⟨P, by rw [e0, e1, e2, e4, e5], h⟩
theorem _root_.Go.Proofs.YtlpgldejmdiceabGreat.br.BigR.root {w : World} {lo hi : Nat} {R E : Int} {s1 s2 s4 s5 : Value} {b : Big} (h : BigR w lo hi (.agg #[.int .i64 R, s1, s2, .int .i64 E, s4, s5]) b) (R' : Int) : BigR w lo hi (.agg #[.int .i64 R', s1, s2, .int .i64 E, s4, s5]) ⟨R', b.nodes, b.sites, b.edges, b.outer, b.inner⟩ := by
  obtain ⟨P, e, h⟩ := h
  injection e with e
  injection e with e
  injection e with e0 e
  injection e with e1 e
  injection e with e2 e
  injection e with e3 e
  injection e with e4 e
  injection e with e5 e
  exact ⟨P, by rw [e1, e2, e3, e4, e5], h⟩
/-- another link at a port -/
def setL (b : Big) (k j : Nat) (z : Int) : Big := ⟨b.roots, b.nodes.modify k (fun x => ⟨x.control, x.parent, x.links.set j z⟩), b.sites, b.edges, b.outer, b.inner⟩
/-- another parent -/
def setP (b : Big) (k : Nat) (z : Int) : Big := ⟨b.roots, b.nodes.modify k (fun x => ⟨x.control, z, x.links⟩), b.sites, b.edges, b.outer, b.inner⟩
/-- another link of an inner name -/
def setW (b : Big) (k : Nat) (z : Int) : Big := ⟨b.roots, b.nodes, b.sites, b.edges, b.outer, b.inner.modify k (fun x => ⟨x.name, z⟩)⟩
/-- another parent of a site -/
def setS (b : Big) (k : Nat) (z : Int) : Big := ⟨b.roots, b.nodes, b.sites.set k z, b.edges, b.outer, b.inner⟩
theorem ct_modify {ns : List Nd} {k : Nat} {F : Nd → Nd} (hF : ∀ x, (F x).control = x.control) (i : Nat) : ctOf (ns.modify k F) i = ctOf ns i := by
  unfold ctOf
  rw [List.getElem?_modify]
  cases ns[i]? with
  | none => rfl
  | some x =>
    show (match some (if k = i then F x else x) with | some x => Value.int .i64 x.control | none => undef) = _
    by_cases e : k = i
    · rw [if_pos e]; show Value.int .i64 (F x).control = _; rw [hF]
    · rw [if_neg e]
theorem pa_modify {ns : List Nd} {k : Nat} {F : Nd → Nd} (hF : ∀ x, (F x).parent = x.parent) (i : Nat) : paOf (ns.modify k F) i = paOf ns i := by
  unfold paOf
  rw [List.getElem?_modify]
  cases ns[i]? with
  | none => rfl
  | some x =>
    show (match some (if k = i then F x else x) with | some x => Value.int .i64 x.parent | none => undef) = _
    by_cases e : k = i
    · rw [if_pos e]; show Value.int .i64 (F x).parent = _; rw [hF]
    · rw [if_neg e]
theorem ls_modify {ns : List Nd} {k i : Nat} {F : Nd → Nd} (h : k = i → ∀ x, ns[i]? = some x → (F x).links = x.links) : linksOf (ns.modify k F) i = linksOf ns i := by
  unfold linksOf
  rw [List.getElem?_modify]
  cases hx : ns[i]? with
  | none => rfl
  | some x =>
    show (match some (if k = i then F x else x) with | some x => x.links | none => []) = _
    by_cases e : k = i
    · rw [if_pos e]; exact h e x hx
    · rw [if_neg e]
theorem ls_modify_at {ns : List Nd} {k : Nat} {F : Nd → Nd} {x : Nd} (hx : ns[k]? = some x) : linksOf (ns.modify k F) k = (F x).links := by
  unfold linksOf
  rw [List.getElem?_modify, hx]
  show (match some (if k = k then F x else x) with | some x => x.links | none => []) = _
  rw [if_pos rfl]
theorem iat_set {zs : List Int} {j : Nat} {z : Int} (x : Nat) (hx : x < zs.length) : iat (zs.set j z) x = if x = j then .int .i64 z else iat zs x := by
  by_cases e : x = j
  · subst e
    rw [if_pos rfl]
    exact iat_of (by rw [List.getElem?_set_self hx])
  · rw [if_neg e]
    have h1 : zs[x]? = some zs[x] := List.getElem?_eq_getElem hx
    rw [iat_of h1]
    exact iat_of (by rw [List.getElem?_set_ne (fun e2 => e e2.symm)]; exact h1)
section
variable {w w' : World} {lo hi : Nat} {P : Plan} {b : Big}
/-- a node and its links, and what storing there makes -/
theorem Laid.node {k : Nat} {x : Nd} (h : Laid w lo hi P b) (hx : b.nodes[k]? = some x) : ∃ g f, P.A1 = some ⟨g, 0, none⟩ ∧ lo ≤ g ∧ b.nodes.length ≤ P.c1 ∧ w.rowIs g 96 (P.c1 * 3) f ∧ k * 3 + 2 < P.c1 * 3 ∧ f (k * 3) = .int .i64 x.control ∧ f (k * 3 + 1) = .int .i64 x.parent ∧ f (k * 3 + 2) = .slice (P.LA k) x.links.length (P.LC k) ∧
    ∀ z, Laid (w.setCell ⟨g, k * 3 + 1, none⟩ (.int .i64 z)) lo hi P (setP b k z) := by
  obtain ⟨ha, ⟨h1, h1'⟩, h2, h4, h5⟩ := h
  have hk := (List.getElem?_eq_some_iff.1 hx).1
  have hln : lnOf b.nodes k = x.links.length := by unfold lnOf; rw [linksOf_at hx]
  rcases h1 with ⟨-, -, e⟩ | ⟨g, f, e, a1, a2, a3, a4, a5⟩
  · omega
  obtain ⟨e0, e1, e2⟩ := ndc_at P (lnOf b.nodes) (ctOf b.nodes) (paOf b.nodes) k
  obtain ⟨q0, q1⟩ := ctOf_at hx
  refine ⟨g, f, e, a1, a3, a4, by omega, by rw [a5 _ (by omega), e0, q0], by rw [a5 _ (by omega), e1, q1], by rw [a5 _ (by omega), e2, hln], fun z => ?_⟩
  have hl : (setP b k z).nodes.length = b.nodes.length := by simp [setP]
  have hls : ∀ i, linksOf (setP b k z).nodes i = linksOf b.nodes i := fun i => ls_modify (ns := b.nodes) (k := k) (F := fun x => ⟨x.control, z, x.links⟩) (fun _ _ _ => rfl)
  refine ⟨by rw [hl]; exact ha, ⟨?_, fun i hii => ?_⟩, row_other_set h2 a4 (by decide), row_other_set h4 a4 (by decide), row_other_set h5 a4 (by decide)⟩
  · rw [hl]
    refine .inr ⟨g, _, e, a1, a2, a3, a4.set (k * 3 + 1) _, fun y hy => ?_⟩
    show (if y = k * 3 + 1 then _ else f y) = _
    unfold ndc
    have hct : ctOf (setP b k z).nodes (y / 3) = ctOf b.nodes (y / 3) := ct_modify (ns := b.nodes) (k := k) (F := fun x => ⟨x.control, z, x.links⟩) (fun _ => rfl) _
    have hlo : lnOf (setP b k z).nodes (y / 3) = lnOf b.nodes (y / 3) := by unfold lnOf; rw [hls]
    by_cases e : y = k * 3 + 1
    · rw [if_pos e, if_neg (by omega), if_pos (by omega)]
      have hm : paOf (setP b k z).nodes (y / 3) = .int .i64 z := by
        rw [show y / 3 = k by omega]
        refine (ctOf_at (x := ⟨x.control, z, x.links⟩) ?_).2
        show (b.nodes.modify k _)[k]? = _
        rw [List.getElem?_modify, hx]
        show some (if k = k then _ else _) = _
        rw [if_pos rfl]
      rw [hm]
    · rw [if_neg e, a5 y hy, hct, hlo]
      unfold ndc
      split
      · rfl
      · split
        · have hne : y / 3 ≠ k := by omega
          unfold paOf
          show _ = (match (b.nodes.modify k _)[y / 3]? with | some x => _ | none => _)
          rw [List.getElem?_modify]
          cases b.nodes[y / 3]? with
          | none => rfl
          | some x2 =>
            show _ = (match some (if k = y / 3 then _ else x2) with | some x => Value.int .i64 x.parent | none => undef)
            rw [if_neg (fun e => hne e.symm)]
        · rfl
  · have hlo : lnOf (setP b k z).nodes i = lnOf b.nodes i := by unfold lnOf; rw [hls]
    rw [hlo]
    show RowR _ lo hi _ 1 (P.LA i) _ (P.LC i) (iat (linksOf (setP b k z).nodes i))
    rw [hls]
    exact row_other_set (h1' i (by rw [hl] at hii; exact hii)) a4 (by decide)
theorem Laid.link {k j : Nat} {x : Nd} {l : Int} (h : Laid w lo hi P b) (hx : b.nodes[k]? = some x) (hj : x.links[j]? = some l) : ∃ g f, P.LA k = some ⟨g, 0, none⟩ ∧ lo ≤ g ∧ w.rowIs g 3 (P.LC k) f ∧ j < P.LC k ∧ f j = .int .i64 l ∧
    ∀ z, Laid (w.setCell ⟨g, j, none⟩ (.int .i64 z)) lo hi P (setL b k j z) := by
  obtain ⟨ha, ⟨h1, h1'⟩, h2, h4, h5⟩ := h
  have hk := (List.getElem?_eq_some_iff.1 hx).1
  have hjl := (List.getElem?_eq_some_iff.1 hj).1
  have hln : lnOf b.nodes k = x.links.length := by unfold lnOf; rw [linksOf_at hx]
  have hr := h1' k hk
  simp only [hln, linksOf_at hx] at hr
  have hr0 := hr
  rcases hr with ⟨-, -, e⟩ | ⟨g, f, e, a1, a2, a3, a4, a5⟩
  · omega
  rw [Nat.mul_one] at a4
  refine ⟨g, f, e, a1, a4, by omega, by rw [a5 _ (by omega), iat_of hj], fun z => ?_⟩
  have hap := ha k hk (by rw [e]; exact fun h => by cases h)
  have hl : (setL b k j z).nodes.length = b.nodes.length := by simp [setL]
  have hlo : ∀ i, lnOf (setL b k j z).nodes i = lnOf b.nodes i := fun i => by
    unfold lnOf
    by_cases e2 : k = i
    · subst e2
      show (linksOf (b.nodes.modify k _) k).length = _
      rw [ls_modify_at hx, linksOf_at hx, List.length_set]
    · show (linksOf (b.nodes.modify k _) i).length = _
      rw [ls_modify (fun e3 => absurd e3 e2)]
  refine ⟨by rw [hl]; exact ha, ⟨?_, fun i hii => ?_⟩, row_far_set h2 (fun e2 => hap.1 (by rw [e, e2])), row_other_set h4 a4 (by decide), row_other_set h5 a4 (by decide)⟩
  · rw [hl]
    refine (row_other_set h1 a4 (by decide)).congr (fun y hy => ?_)
    unfold ndc
    have hct : ctOf (setL b k j z).nodes (y / 3) = ctOf b.nodes (y / 3) := ct_modify (ns := b.nodes) (k := k) (F := fun x => ⟨x.control, x.parent, x.links.set j z⟩) (fun _ => rfl) _
    have hpa : paOf (setL b k j z).nodes (y / 3) = paOf b.nodes (y / 3) := pa_modify (ns := b.nodes) (k := k) (F := fun x => ⟨x.control, x.parent, x.links.set j z⟩) (fun _ => rfl) _
    rw [hct, hpa, hlo]
  · rw [hlo]
    rw [hl] at hii
    show RowR _ lo hi _ 1 (P.LA i) _ (P.LC i) (iat (linksOf (b.nodes.modify k _) i))
    by_cases e2 : k = i
    · subst e2
      rw [ls_modify_at hx, hln, e]
      rw [e] at hr0
      refine (row_here_set hr0 (m := 0) (f := fun _ => undef)).congr (fun y hy => ?_)
      exact (iat_set y (by omega)).symm
    · rw [ls_modify (fun e3 => absurd e3 e2)]
      refine row_far_set (h1' i hii) (fun e3 => hap.2 i hii (fun e4 => e2 e4.symm) (by rw [e3, e]))
theorem Laid.wire {k : Nat} {x : Wr} (h : Laid w lo hi P b) (hx : b.inner[k]? = some x) : ∃ g f, P.A5 = some ⟨g, 0, none⟩ ∧ lo ≤ g ∧ w.rowIs g 80 (P.c5 * 2) f ∧ k * 2 + 1 < P.c5 * 2 ∧ f (k * 2) = .string x.name ∧ f (k * 2 + 1) = .int .i64 x.link ∧
    ∀ z, Laid (w.setCell ⟨g, k * 2 + 1, none⟩ (.int .i64 z)) lo hi P (setW b k z) := by
  obtain ⟨ha, ⟨h1, h1'⟩, h2, h4, h5⟩ := h
  have hk := (List.getElem?_eq_some_iff.1 hx).1
  rcases h5 with ⟨-, -, e⟩ | ⟨g, f, e, a1, a2, a3, a4, a5⟩
  · omega
  obtain ⟨e0, e1⟩ := wic_at hx
  refine ⟨g, f, e, a1, a4, by omega, by rw [a5 _ (by omega), e0], by rw [a5 _ (by omega), e1], fun z => ?_⟩
  have hl : (setW b k z).inner.length = b.inner.length := by simp [setW]
  refine ⟨ha, ⟨row_other_set h1 a4 (by decide), fun i hi => row_other_set (h1' i hi) a4 (by decide)⟩, row_other_set h2 a4 (by decide), row_other_set h4 a4 (by decide), ?_⟩
  rw [hl]
  refine .inr ⟨g, _, e, a1, a2, a3, a4.set (k * 2 + 1) _, fun y hy => ?_⟩
  show (if y = k * 2 + 1 then _ else f y) = _
  unfold wic
  show _ = (match (b.inner.modify k _)[y / 2]? with | some y2 => _ | none => _)
  rw [List.getElem?_modify]
  by_cases e : y = k * 2 + 1
  · rw [if_pos e, show y / 2 = k by omega, hx]
    show _ = (match some (if k = k then _ else x) with | some y2 => if y % 2 = 0 then Value.string y2.name else Value.int .i64 y2.link | none => undef)
    rw [if_pos rfl]
    dsimp only
    rw [if_neg (by omega)]
  · rw [if_neg e, a5 y hy]
    unfold wic
    cases hy2 : b.inner[y / 2]? with
    | none => rfl
    | some y2 =>
      show _ = (match some (if k = y / 2 then _ else y2) with | some y2 => if y % 2 = 0 then Value.string y2.name else Value.int .i64 y2.link | none => undef)
      by_cases e2 : k = y / 2
      · rw [if_pos e2]
        dsimp only
        rw [if_pos (by omega), if_pos (by omega)]
      · rw [if_neg e2]
theorem Laid.site {k : Nat} {l : Int} (h : Laid w lo hi P b) (hx : b.sites[k]? = some l) : ∃ g f, P.A2 = some ⟨g, 0, none⟩ ∧ lo ≤ g ∧ w.rowIs g 3 P.c2 f ∧ k < P.c2 ∧ f k = .int .i64 l ∧
    ∀ z, Laid (w.setCell ⟨g, k, none⟩ (.int .i64 z)) lo hi P (setS b k z) := by
  obtain ⟨ha, ⟨h1, h1'⟩, h2, h4, h5⟩ := h
  have hk := (List.getElem?_eq_some_iff.1 hx).1
  have h20 := h2
  rcases h2 with ⟨-, -, e⟩ | ⟨g, f, e, a1, a2, a3, a4, a5⟩
  · omega
  rw [Nat.mul_one] at a4
  refine ⟨g, f, e, a1, a4, by omega, by rw [a5 _ (by omega), iat_of hx], fun z => ?_⟩
  have hl : (setS b k z).sites.length = b.sites.length := by simp [setS]
  refine ⟨ha, ⟨row_other_set h1 a4 (by decide), fun i hi => row_far_set (h1' i hi) (fun e2 => (ha i hi (by rw [e2]; exact fun h => by cases h)).1 (by rw [e2, e]))⟩, ?_, row_other_set h4 a4 (by decide), row_other_set h5 a4 (by decide)⟩
  rw [hl, e]
  rw [e] at h20
  refine (row_here_set h20 (m := 0) (f := fun _ => undef)).congr (fun y hy => ?_)
  exact (iat_set y (by omega)).symm
end

/-- the links of the first k nodes, and the first j ones of the node behind them, are others -/
def mixL (F : Nat → Nat → Int → Int) (k j : Nat) (b : Big) : Big := ⟨b.roots, b.nodes.mapIdx (fun i x => ⟨x.control, x.parent, x.links.mapIdx (fun m l => if i < k ∨ i = k ∧ m < j then F i m l else l)⟩), b.sites, b.edges, b.outer, b.inner⟩
def mixW (F : Nat → Int → Int) (k : Nat) (b : Big) : Big := ⟨b.roots, b.nodes, b.sites, b.edges, b.outer, b.inner.mapIdx (fun i x => ⟨x.name, if i < k then F i x.link else x.link⟩)⟩
def mixP (F : Int → Int) (k : Nat) (b : Big) : Big := ⟨b.roots, b.nodes.mapIdx (fun i x => ⟨x.control, if i < k then F x.parent else x.parent, x.links⟩), b.sites, b.edges, b.outer, b.inner⟩
def mixS (F : Int → Int) (k : Nat) (b : Big) : Big := ⟨b.roots, b.nodes, b.sites.mapIdx (fun i x => if i < k then F x else x), b.edges, b.outer, b.inner⟩
theorem mixL_zero (F : Nat → Nat → Int → Int) (b : Big) : mixL F 0 0 b = b := by
  unfold mixL
  congr 1
  refine List.ext_getElem? (fun i => ?_)
  rw [List.getElem?_mapIdx]
  cases b.nodes[i]? with
  | none => rfl
  | some x =>
    have : x.links.mapIdx (fun m l => if i < 0 ∨ i = 0 ∧ m < 0 then F i m l else l) = x.links := by
      refine List.ext_getElem? (fun m => ?_)
      rw [List.getElem?_mapIdx]
      cases x.links[m]? with
      | none => rfl
      | some l => show some (if _ then _ else _) = some l; rw [if_neg (by omega)]
    simp only [Option.map_some]
    rw [this]
theorem mixL_get {F : Nat → Nat → Int → Int} {k j i : Nat} {b : Big} {x : Nd} (hx : b.nodes[i]? = some x) : (mixL F k j b).nodes[i]? = some ⟨x.control, x.parent, x.links.mapIdx (fun m l => if i < k ∨ i = k ∧ m < j then F i m l else l)⟩ := by
  unfold mixL
  show (b.nodes.mapIdx _)[i]? = _
  rw [List.getElem?_mapIdx, hx]
  rfl
theorem mixL_link {F : Nat → Nat → Int → Int} {k j : Nat} {b : Big} {x : Nd} {l : Int} (hl : x.links[j]? = some l) : (x.links.mapIdx (fun m l => if k < k ∨ k = k ∧ m < j then F k m l else l))[j]? = some l := by
  rw [List.getElem?_mapIdx, hl]
  show some (if _ then _ else _) = some l
  rw [if_neg (by omega)]
theorem mixL_next {F : Nat → Nat → Int → Int} {k j : Nat} {b : Big} {x : Nd} {l : Int} (hx : b.nodes[k]? = some x) (hl : x.links[j]? = some l) : setL (mixL F k j b) k j (F k j l) = mixL F k (j + 1) b := by
  unfold setL mixL
  congr 1
  refine List.ext_getElem? (fun i => ?_)
  rw [List.getElem?_modify, List.getElem?_mapIdx, List.getElem?_mapIdx]
  cases hi : b.nodes[i]? with
  | none => rfl
  | some y =>
    show some (if k = i then _ else _) = some _
    by_cases e : k = i
    · subst e
      rw [if_pos rfl]
      rw [hx] at hi
      injection hi with hi
      subst hi
      congr 2
      refine List.ext_getElem? (fun m => ?_)
      rw [List.getElem?_mapIdx]
      by_cases em : m = j
      · subst em
        have hlt : m < (x.links.mapIdx (fun m_1 l => if k < k ∨ k = k ∧ m_1 < m then F k m_1 l else l)).length := by rw [List.length_mapIdx]; exact (List.getElem?_eq_some_iff.1 hl).1
        rw [List.getElem?_set_self hlt, hl]
        show _ = some (if _ then _ else _)
        rw [if_pos (by omega)]
      · rw [List.getElem?_set_ne (fun e2 => em e2.symm), List.getElem?_mapIdx]
        cases x.links[m]? with
        | none => rfl
        | some z =>
          show some (if _ then _ else _) = some (if _ then _ else _)
          by_cases h1 : m < j
          · rw [if_pos (.inr ⟨rfl, h1⟩), if_pos (.inr ⟨rfl, by omega⟩)]
          · rw [if_neg (by omega), if_neg (by omega)]
    · rw [if_neg e]
      congr 1
      dsimp only
      congr 1
      refine List.ext_getElem? (fun m => ?_)
      rw [List.getElem?_mapIdx, List.getElem?_mapIdx]
      cases y.links[m]? with
      | none => rfl
      | some z =>
        show some (if _ then _ else _) = some (if _ then _ else _)
        by_cases h1 : i < k
        · rw [if_pos (.inl h1), if_pos (.inl h1)]
        · rw [if_neg (by omega), if_neg (by omega)]
theorem mixL_done {F : Nat → Nat → Int → Int} {k : Nat} {b : Big} {x : Nd} (hx : b.nodes[k]? = some x) : mixL F k x.links.length b = mixL F (k + 1) 0 b := by
  unfold mixL
  congr 1
  refine List.ext_getElem? (fun i => ?_)
  rw [List.getElem?_mapIdx, List.getElem?_mapIdx]
  cases hi : b.nodes[i]? with
  | none => rfl
  | some y =>
    show some _ = some _
    congr 1
    dsimp only
    congr 1
    refine List.ext_getElem? (fun m => ?_)
    rw [List.getElem?_mapIdx, List.getElem?_mapIdx]
    cases hm : y.links[m]? with
    | none => rfl
    | some z =>
      show some (if _ then _ else _) = some (if _ then _ else _)
      have hml := (List.getElem?_eq_some_iff.1 hm).1
      by_cases h1 : i < k
      · rw [if_pos (.inl h1), if_pos (.inl (by omega))]
      · by_cases h2 : i = k
        · subst h2
          rw [hx] at hi
          injection hi with hi
          subst hi
          rw [if_pos (.inr ⟨rfl, hml⟩), if_pos (.inl (by omega))]
        · rw [if_neg (by omega), if_neg (by omega)]
theorem mixW_zero (F : Nat → Int → Int) (b : Big) : mixW F 0 b = b := by
  unfold mixW
  congr 1
  refine List.ext_getElem? (fun i => ?_)
  rw [List.getElem?_mapIdx]
  cases b.inner[i]? with
  | none => rfl
  | some x => show some _ = some x; congr 1; 
theorem mixW_get {F : Nat → Int → Int} {k : Nat} {b : Big} {x : Wr} (hx : b.inner[k]? = some x) : (mixW F k b).inner[k]? = some x := by
  unfold mixW
  show (b.inner.mapIdx _)[k]? = _
  rw [List.getElem?_mapIdx, hx]
  show some (⟨x.name, if _ then _ else _⟩ : Wr) = some x
  rw [if_neg (Nat.lt_irrefl k)]
theorem mixW_next {F : Nat → Int → Int} {k : Nat} {b : Big} {x : Wr} (hx : b.inner[k]? = some x) : setW (mixW F k b) k (F k x.link) = mixW F (k + 1) b := by
  unfold setW mixW
  congr 1
  refine List.ext_getElem? (fun i => ?_)
  rw [List.getElem?_modify, List.getElem?_mapIdx, List.getElem?_mapIdx]
  cases hi : b.inner[i]? with
  | none => rfl
  | some y =>
    show some (if k = i then _ else _) = some _
    by_cases e : k = i
    · subst e
      rw [hx] at hi
      injection hi with hi
      subst hi
      rw [if_pos rfl]
      dsimp only
      rw [if_pos (Nat.lt_succ_self k)]
    · rw [if_neg e]
      congr 1
      dsimp only
      congr 1
      by_cases h1 : i < k
      · rw [if_pos h1, if_pos (by omega)]
      · rw [if_neg h1, if_neg (by omega)]
theorem mixP_zero (F : Int → Int) (b : Big) : mixP F 0 b = b := by
  unfold mixP
  congr 1
  refine List.ext_getElem? (fun i => ?_)
  rw [List.getElem?_mapIdx]
  cases b.nodes[i]? with
  | none => rfl
  | some x => rfl
theorem mixP_get {F : Int → Int} {k : Nat} {b : Big} {x : Nd} (hx : b.nodes[k]? = some x) : (mixP F k b).nodes[k]? = some x := by
  unfold mixP
  show (b.nodes.mapIdx _)[k]? = _
  rw [List.getElem?_mapIdx, hx]
  show some (⟨x.control, if _ then _ else _, x.links⟩ : Nd) = some x
  rw [if_neg (Nat.lt_irrefl k)]
theorem mixP_next {F : Int → Int} {k : Nat} {b : Big} {x : Nd} (hx : b.nodes[k]? = some x) : setP (mixP F k b) k (F x.parent) = mixP F (k + 1) b := by
  unfold setP mixP
  congr 1
  refine List.ext_getElem? (fun i => ?_)
  rw [List.getElem?_modify, List.getElem?_mapIdx, List.getElem?_mapIdx]
  cases hi : b.nodes[i]? with
  | none => rfl
  | some y =>
    show some (if k = i then _ else _) = some _
    by_cases e : k = i
    · subst e
      rw [hx] at hi
      injection hi with hi
      subst hi
      rw [if_pos rfl]
      dsimp only
      rw [if_pos (Nat.lt_succ_self k)]
    · rw [if_neg e]
      congr 1
      dsimp only
      congr 1
      by_cases h1 : i < k
      · rw [if_pos h1, if_pos (by omega)]
      · rw [if_neg h1, if_neg (by omega)]
end Go.Proofs.YtlpgldejmdiceabGreat.ed
end

section
namespace Go.Proofs.YtlpgldejmdiceabGreat.rnp
open kit bg sg opn strs only hb sig isig un over gn nm inn ht gd im pt marks eqs hc hi hw hn rs br bm bw cf lf ib lawb lw cl has pm rl ed
open Go.RowKit
set_option linter.unusedVariables false
def mvP (ts : List Int) (p : Int) : Int := if p < 0 then p else (ts[p.toNat]?).getD 0
def tieF (E : Int) (es : List Int) (l : Int) : Int := if E ≤ l then l else (es[l.toNat]?).getD 0
def rnN (b : Big) (ts es : List Int) (x : Nd) : Nd := ⟨x.control, mvP ts x.parent, x.links.map (tieF b.edges es)⟩
/-- the node that gets a number -/
def rnAt (b : Big) (ts es : List Int) (j : Nat) : Nd := match b.nodes[ts.idxOf (j : Int)]? with
  | some x => rnN b ts es x
  | none => ⟨0, 0, []⟩
def rnB (b : Big) (ts es : List Int) : Big := ⟨b.roots, (List.range b.nodes.length).map (rnAt b ts es), b.sites.map (mvP ts), b.edges, b.outer, b.inner.map (fun x => ⟨x.name, tieF b.edges es x.link⟩)⟩
theorem each_erase {zs : List Int} {n k : Nat} (he : EachP zs n) (hk : k < zs.length) (h : ∀ i : Nat, i < n → ∃ j : Nat, j ≠ k ∧ zs[j]? = some (i : Int)) : False := by
  have := cover_le n (zs.eraseIdx k) (fun i hi => by
    obtain ⟨j, e, hj⟩ := h i hi
    exact List.mem_eraseIdx_iff_getElem?.2 ⟨j, e, hj⟩)
  rw [List.length_eraseIdx_of_lt hk] at this
  have := he.2
  omega
theorem each_get {zs : List Int} {n : Nat} (he : EachP zs n) {i : Nat} (hi : i < n) : ∃ j : Nat, zs[j]? = some (i : Int) := List.getElem?_of_mem (he.1 i hi)
theorem each_in {zs : List Int} {n k : Nat} {z : Int} (he : EachP zs n) (hz : zs[k]? = some z) : 0 ≤ z ∧ z < n := by
  have hk := (List.getElem?_eq_some_iff.1 hz).1
  by_cases h : 0 ≤ z ∧ z < n
  · exact h
  · exfalso
    refine each_erase he hk (fun i hi => ?_)
    obtain ⟨j, hj⟩ := each_get he hi
    refine ⟨j, fun e => ?_, hj⟩
    subst e
    rw [hz] at hj
    injection hj with hj
    omega
theorem each_inj {zs : List Int} {n k m : Nat} {z : Int} (he : EachP zs n) (hk : zs[k]? = some z) (hm : zs[m]? = some z) : k = m := by
  have hkl := (List.getElem?_eq_some_iff.1 hk).1
  by_cases e : k = m
  · exact e
  · exfalso
    refine each_erase he hkl (fun i hi => ?_)
    obtain ⟨j, hj⟩ := each_get he hi
    by_cases e2 : j = k
    · subst e2
      rw [hk] at hj
      injection hj with hj
      exact ⟨m, fun e3 => e e3.symm, by rw [hm, hj]⟩
    · exact ⟨j, e2, hj⟩
theorem idx_get {zs : List Int} {z : Int} (h : z ∈ zs) : zs[zs.idxOf z]? = some z := by
  rw [List.getElem?_eq_getElem (List.idxOf_lt_length_of_mem h), List.getElem_idxOf]
/-- where a number stands -/
theorem each_idx {zs : List Int} {n k : Nat} {z : Int} (he : EachP zs n) (hk : zs[k]? = some z) : zs.idxOf ((z.toNat : Nat) : Int) = k := by
  have hz := each_in he hk
  have e : ((z.toNat : Nat) : Int) = z := by omega
  rw [e]
  exact each_inj he (idx_get (List.mem_of_getElem? hk)) hk
theorem each_lt {zs : List Int} {n j : Nat} (he : EachP zs n) (hj : j < n) : zs.idxOf (j : Int) < n := by
  have := List.idxOf_lt_length_of_mem (he.1 j hj)
  have := he.2
  omega
theorem rn_get {b : Big} {ts es : List Int} {j : Nat} (hj : j < b.nodes.length) : (rnB b ts es).nodes[j]? = some (rnAt b ts es j) := by
  show ((List.range b.nodes.length).map _)[j]? = _
  rw [List.getElem?_map, List.getElem?_range hj]
  rfl
theorem rnAt_of {b : Big} {ts es : List Int} {j k : Nat} {x : Nd} (hk : ts.idxOf (j : Int) = k) (hx : b.nodes[k]? = some x) : rnAt b ts es j = rnN b ts es x := by
  unfold rnAt
  rw [hk, hx]
theorem mvP_neg {ts : List Int} {p : Int} (h : p < 0) : mvP ts p = p := if_pos h
theorem mvP_get {ts : List Int} {p z : Int} (h : ¬ p < 0) (hz : ts[p.toNat]? = some z) : mvP ts p = z := by unfold mvP; rw [if_neg h, hz]; rfl
theorem tieF_out {E : Int} {es : List Int} {l : Int} (h : E ≤ l) : tieF E es l = l := if_pos h
theorem tieF_get {E : Int} {es : List Int} {l z : Int} (h : ¬ E ≤ l) (hz : es[l.toNat]? = some z) : tieF E es l = z := by unfold tieF; rw [if_neg h, hz]; rfl
/-- the numbers 0, 1, .. -/
def ids (n : Nat) : List Int := (List.range n).map (fun (i : Nat) => (i : Int))
theorem ids_get {n i : Nat} (h : i < n) : (ids n)[i]? = some (i : Int) := by unfold ids; rw [List.getElem?_map, List.getElem?_range h]; rfl
theorem ids_len (n : Nat) : (ids n).length = n := by unfold ids; simp
theorem ids_each (n : Nat) : EachP (ids n) n := ⟨fun i hi => List.mem_of_getElem? (ids_get hi), ids_len n⟩
theorem ids_snoc (n : Nat) : ids (n + 1) = ids n ++ [(n : Int)] := by unfold ids; rw [List.range_succ, List.map_append]; rfl
theorem mvP_ids {n : Nat} {p : Int} (h : p < n) : mvP (ids n) p = p := by
  by_cases hp : p < 0
  · exact mvP_neg hp
  · exact mvP_get hp (by rw [ids_get (by omega)]; congr 1; omega)
theorem tieF_ids {E : Nat} {l : Int} (h : 0 ≤ l) : tieF (E : Int) (ids E) l = l := by
  by_cases hp : (E : Int) ≤ l
  · exact tieF_out hp
  · exact tieF_get hp (by rw [ids_get (by omega)]; congr 1; omega)
/-- the same numbers make the same Bigraph -/
theorem rn_ids {b : Big} {E : Nat} (hE : b.edges = E) (hp : ∀ x ∈ b.nodes, x.parent < b.nodes.length) (hl : ∀ x ∈ b.nodes, ∀ l ∈ x.links, 0 ≤ l) (hs : ∀ z ∈ b.sites, z < b.nodes.length) (hw : ∀ x ∈ b.inner, 0 ≤ x.link) : rnB b (ids b.nodes.length) (ids E) = b := by
  have hn : (List.range b.nodes.length).map (rnAt b (ids b.nodes.length) (ids E)) = b.nodes := by
    refine List.ext_getElem? (fun j => ?_)
    rw [List.getElem?_map]
    by_cases hj : j < b.nodes.length
    · rw [List.getElem?_range hj]
      have hx : b.nodes[j]? = some b.nodes[j] := List.getElem?_eq_getElem hj
      have hi : (ids b.nodes.length).idxOf (j : Int) = j := by
        have := each_idx (ids_each b.nodes.length) (ids_get hj)
        rwa [Int.toNat_natCast] at this
      show some (rnAt _ _ _ j) = _
      rw [rnAt_of hi hx, hx]
      have hm := List.mem_of_getElem? hx
      have h1 := mvP_ids (hp _ hm)
      have h2 : b.nodes[j].links.map (tieF b.edges (ids E)) = b.nodes[j].links := by
        conv => rhs; rw [← List.map_id b.nodes[j].links]
        exact List.map_congr_left (fun l hl2 => by rw [hE]; exact tieF_ids (hl _ hm l hl2))
      unfold rnN
      rw [h1, h2]
    · rw [List.getElem?_eq_none (by simpa using hj), List.getElem?_eq_none (by omega)]; rfl
  have hs2 : b.sites.map (mvP (ids b.nodes.length)) = b.sites := by
    conv => rhs; rw [← List.map_id b.sites]
    exact List.map_congr_left (fun z hz => mvP_ids (hs z hz))
  have hw2 : b.inner.map (fun x => (⟨x.name, tieF b.edges (ids E) x.link⟩ : Wr)) = b.inner := by
    conv => rhs; rw [← List.map_id b.inner]
    exact List.map_congr_left (fun x hx => by rw [hE, tieF_ids (hw x hx)]; rfl)
  unfold rnB
  rw [hn, hs2, hw2]
end Go.Proofs.YtlpgldejmdiceabGreat.rnp
end

section
namespace Go.Proofs.YtlpgldejmdiceabGreat.rh
set_option linter.unusedVariables false
section
variable {P : Program} {ops : Array Oper} {md : Region.Mode} {S : World → Prop} {n : Nat} {Q : Exit → Act → World → Prop}
/-- whatever order is picked; behind each operation before the one with the number n, S holds -/
def Ups (P : Program) (md : Region.Mode) (ops : Array Oper) (Q : Exit → Act → World → Prop) (S : World → Prop) (n : Nat) : Nat → Array Bool → Act → World → Prop
  | 0, listed, a, w => Region.ready md ops listed = [] ∧ Q .normal a w
  | f + 1, listed, a, w => (Region.ready md ops listed = [] → Q .normal a w) ∧ ∀ j ∈ Region.ready md ops listed, wpOp P ops Q j (fun a' w' => (j < n → S w') ∧ Ups P md ops Q S n f (listed.setIfInBounds j true) a' w') a w
theorem any_of_ups : ∀ (f : Nat) (listed : Array Bool) (a : Act) (w : World), Ups P md ops Q S n f listed a w → wpAny P md ops Q f listed a w
  | 0, _, _, _, h => h
  | f + 1, _, _, _, h => ⟨h.1, fun j hj => wpOp_mono (fun a' w' h' => any_of_ups f _ a' w' h'.2) (h.2 j hj)⟩
/-- behind the last operation nothing comes -/
theorem ups_first {i : Nat} {oi : Oper} {v : Value} (hi : ops[i]? = some oi) (hsel : ∀ (j : Nat) (o : Oper) cs b, ops[j]? = some o → o.op ≠ .select cs b)
    (hQ : ∀ c a w, Q (.panic c) (a.put oi.dst v) w → Q (.panic c) a w) (hs : Region.sinkB md ops n = true) (hc : Region.chainB md ops n = true) (hn : n < ops.size) (hin : i < n) :
    ∀ (f : Nat) (listed : Array Bool) (a : Act) (w : World), HeadInv md ops n listed →
      (∀ j oj, ops[j]? = some oj → j ≠ i → listed.getD j true = false → (∀ e ∈ oj.after, Region.binds md e = true → e.on ≠ i) → oi.apart ops oj = true) →
      i ∈ Region.ready md ops listed → YieldsIf P ops S oi v a → S w →
      Ups P md ops Q S n f (listed.setIfInBounds i true) (a.put oi.dst v) w → Ups P md ops Q S n (f + 1) listed a w := by
  intro f
  induction f with
  | zero =>
    intro listed a w inv _ hr hy hS H
    refine ⟨fun h => (by rw [h] at hr; cases hr), fun j hj => ?_⟩
    by_cases hji : j = i
    · subst hji; exact hy.wpOp hi hS ⟨fun _ => hS, H⟩
    · have h0 := ready_mono hj hji
      rw [H.1] at h0
      cases h0
  | succ f ih =>
    intro listed a w inv hfree hr hy hS H
    have hun := (mem_ready.1 hr).1
    refine ⟨fun h => (by rw [h] at hr; cases hr), fun j hj => ?_⟩
    have hjn : j < n := by
      rcases Nat.lt_or_ge j n with h | h
      · exact h
      · exact absurd hj (tail_waits hs hc hn inv _ i rfl hin hun j h)
    by_cases hji : j = i
    · subst hji; exact hy.wpOp hi hS ⟨fun _ => hS, H⟩
    · have h1 := H.2 j (ready_mono hj hji)
      obtain ⟨hjun, oj, hoj, hall⟩ := mem_ready.1 hj
      have hnot : ∀ e ∈ oj.after, Region.binds md e = true → e.on ≠ i := fun e he hb heq => by
        have h2 := hall e he hb
        rw [heq, getD_both hun] at h2
        cases h2
      have h2 := wpOp_putIf hoj (hfree j oj hoj hji hjun hnot) (fun cs b => hsel i oi cs b hi) (fun cs b => hsel j oj cs b hoj) hQ hy h1
      have hfree' : ∀ k ok, ops[k]? = some ok → k ≠ i → (listed.setIfInBounds j true).getD k true = false →
          (∀ e ∈ ok.after, Region.binds md e = true → e.on ≠ i) → oi.apart ops ok = true := fun k ok hk hki hku hno => by
        refine hfree k ok hk hki ?_ hno
        by_cases hjk : j = k
        · subst hjk; exact hjun
        · rw [getD_set_ne true hjk] at hku; exact hku
      refine wpOp_mono (fun a' w' h3 => ?_) h2
      have hS' := h3.2.1 hjn
      refine ⟨fun _ => hS', ih (listed.setIfInBounds j true) a' w' (inv.set hj hjn) hfree' (ready_mono hr (Ne.symm hji)) h3.1 hS' ?_⟩
      rw [Array.setIfInBounds_comm _ _ hji]
      exact h3.2.2
/-- the walk's goal: the bookkeeping is handed along -/
def Go_ (P : Program) (md : Region.Mode) (ops : Array Oper) (Q : Exit → Act → World → Prop) (S : World → Prop) (n f : Nat) (listed : Array Bool) (a : Act) (w : World) : Prop := HeadInv md ops n listed → Ups P md ops Q S n f listed a w
theorem go_take {i : Nat} {oi : Oper} {v : Value} {f : Nat} {listed : Array Bool} {a : Act} {w : World} (hi : ops[i]? = some oi)
    (hB : (Region.noSelect ops && Region.sinkB md ops n && Region.chainB md ops n && decide (n < ops.size) && decide (i < n) && Region.free md ops listed i && (Region.ready md ops listed).contains i) = true)
    (hQ : ∀ c a w, Q (.panic c) (a.put oi.dst v) w → Q (.panic c) a w) (hy : YieldsIf P ops S oi v a) (hS : S w)
    (h : Go_ P md ops Q S n f (listed.setIfInBounds i true) (a.put oi.dst v) w) : Go_ P md ops Q S n (f + 1) listed a w := fun inv => by
  simp only [Bool.and_eq_true, decide_eq_true_eq] at hB
  obtain ⟨⟨⟨⟨⟨⟨b1, b2⟩, b3⟩, b4⟩, b5⟩, b6⟩, b7⟩ := hB
  have hr : i ∈ Region.ready md ops listed := by simpa using b7
  exact ups_first hi (Region.noSelect_spec b1) hQ b2 b3 b4 b5 f listed a w inv (Region.free_spec hi b6) hr hy hS (h (inv.set hr b5))
/-- an operation that alone may come up -/
theorem go_next {i : Nat} {oi : Oper} {f : Nat} {listed : Array Bool} {a : Act} {w : World} (hi : ops[i]? = some oi)
    (hB : (decide (i < n) && decide (Region.ready md ops listed = [i])) = true)
    (h : ∀ K' : Act → World → Prop, Shut (∀ a w, S w → (S w → Go_ P md ops Q S n f (listed.setIfInBounds i true) a w) → K' a w) → if Region.wanted oi (yielded ops a.tmps) = true then Oper.wp P oi a w K' Q else K' (a.put oi.dst undef) w) : Go_ P md ops Q S n (f + 1) listed a w := fun inv => by
  simp only [Bool.and_eq_true, decide_eq_true_eq] at hB
  obtain ⟨hin, hr⟩ := hB
  refine ⟨fun h0 => (by rw [hr] at h0; cases h0), fun j hj => ?_⟩
  have hj' := hj
  rw [hr] at hj
  obtain rfl : j = i := by simpa using hj
  exact wpOp_step hi (fun K' hK => h K' (fun a w hS hW => hK a w ⟨fun _ => hS, hW hS (inv.set hj' hin)⟩))
/-- the last operation -/
theorem go_last {oi : Oper} {f : Nat} {listed : Array Bool} {a : Act} {w : World} (hi : ops[n]? = some oi)
    (hB : (decide (Region.ready md ops listed = [n]) && (Region.ready md ops (listed.setIfInBounds n true)).isEmpty) = true)
    (h : ∀ K' : Act → World → Prop, Shut (∀ a w, Q .normal a w → K' a w) → if Region.wanted oi (yielded ops a.tmps) = true then Oper.wp P oi a w K' Q else K' (a.put oi.dst undef) w) : Go_ P md ops Q S n (f + 1) listed a w := fun inv => by
  simp only [Bool.and_eq_true, decide_eq_true_eq, List.isEmpty_iff] at hB
  obtain ⟨hr, he⟩ := hB
  refine ⟨fun h0 => (by rw [hr] at h0; cases h0), fun j hj => ?_⟩
  rw [hr] at hj
  obtain rfl : j = n := by simpa using hj
  refine wpOp_step hi (fun K' hK => h K' (fun a w hq => hK a w ⟨fun hlt => absurd hlt (Nat.lt_irrefl _), ?_⟩))
  cases f with
  | zero => exact ⟨he, hq⟩
  | succ f => exact ⟨fun _ => hq, by rw [he]; simp⟩
/-- the beginning, with 'False at a panic' -/
theorem go_begin {id : Nat} {a : Act} {w : World} (n : Nat) (S : World → Prop) (hm : P.follows .mixedOrders = true) (hS : S w.drew) (h : S w.drew → Go_ P .any ops (NoPanic Q) S n ops.size (Array.replicate ops.size false) a w.drew) : (Code.region id ops true).wp P Q a w := by
  refine wp_region_noPanic (wp_region_any hm (any_of_ups (n := n) (S := S) _ _ _ _ (h hS ?_)))
  exact ⟨by simp, fun j oj _ hl => (by rw [getD_replicate_false] at hl; cases hl), fun t _ ht => getD_in (by simpa using ht) (getD_replicate_false _ _)⟩
end
end Go.Proofs.YtlpgldejmdiceabGreat.rh
end
