/- A Bigraph that a function gives back: its slices are nil or lie in memory of the call's own; plain part: where it lies, its marks, and what a change of some blocks leaves. -/
import Derived.Test.YtifialdkjnmfoabRt
namespace Go.Proofs.Ytifialdkjnmfoab.br
open kit bg opn strs only hb sig inn ht marks eqs hc hi hw hn rs
open Go.RowKit
set_option linter.unusedVariables false

/-- a change of some blocks alone -/
structure Chg (S : Nat → Prop) (w w' : World) : Prop where
  os : w'.os = w.os
  tape : w'.tape = w.tape
  output : w'.output = w.output
  size : w.heap.size ≤ w'.heap.size
  block : ∀ k, k < w.heap.size → ¬ S k → w'.heap[k]? = w.heap[k]?
  rows : ∀ b t n, (∃ f, w.rowIs b t n f) → ∃ f, w'.rowIs b t n f
section
variable {S S' : Nat → Prop} {w w' : World} {lo hi : Nat}
theorem Chg.refl (S : Nat → Prop) (w : World) : Chg S w w := ⟨rfl, rfl, rfl, Nat.le_refl _, fun _ _ _ => rfl, fun _ _ _ h => h⟩
theorem Chg.trans {a b c : World} (h : Chg S a b) (k : Chg S b c) : Chg S a c :=
  ⟨k.os.trans h.os, k.tape.trans h.tape, k.output.trans h.output, Nat.le_trans h.size k.size, fun i hi h' => (k.block i (Nat.lt_of_lt_of_le hi h.size) h').trans (h.block i hi h'), fun b t n hr => k.rows b t n (h.rows b t n hr)⟩
theorem Chg.more (h : Chg S w w') (hs : ∀ k, S k → S' k) : Chg S' w w' := ⟨h.os, h.tape, h.output, h.size, fun k hk hn => h.block k hk (fun hS => hn (hs k hS)), h.rows⟩
theorem Chg.of_below (h : Below w.heap.size w w') : Chg S w w' := ⟨h.os, h.tape, h.output, h.size, fun k hk _ => h.block k hk, fun b t n ⟨f, hf⟩ => ⟨f, hf.of_block (h.block b hf.lt)⟩⟩
theorem Chg.set (w : World) {g : Nat} (hS : S g) (o : Nat) (u : Value) : Chg S w (w.setCell ⟨g, o, none⟩ u) :=
  ⟨rfl, rfl, rfl, by simp [World.setCell], fun k _ hk => Below.heap_setCell _ _ _ _ (by show k ≠ g; intro e; subst e; exact hk hS), fun b t n ⟨f, hf⟩ => by
    by_cases e : b = g
    · subst e; exact ⟨_, hf.set o u⟩
    · exact ⟨f, hf.setOther (a := ⟨g, o, none⟩) e u⟩⟩
theorem Chg.of_grown {g : Nat} {t : TypeId} {n : Nat} {f f' : Nat → Value} (hg : w.grownBy w' (some g)) (hr : w.rowIs g t n f) (hr' : w'.rowIs g t n f') (hS : S g) : Chg S w w' :=
  ⟨hg.os, hg.tape, hg.output, hg.size, fun k hk h' => hg.block k hk (fun e => by injection e with e; subst e; exact h' hS), fun b t2 n2 ⟨f2, hf2⟩ => by
    by_cases e : b = g
    · subst e
      obtain ⟨rfl, rfl⟩ := rowIs_uniq hr hf2
      exact ⟨f', hr'⟩
    · exact ⟨f2, hf2.of_block (hg.block b hf2.lt (fun e2 => e (by injection e2)))⟩⟩
theorem Chg.only (h : Chg S w w') (hS : ∀ k, k < w.heap.size → S k → lo ≤ k ∧ k < hi) : Only lo hi w w' :=
  ⟨h.os, h.tape, h.output, h.size, fun k hk h' => h.block k hk (fun hs => by have := hS k hk hs; omega), h.rows⟩
end

/-- a slice of elements of sz cells, nil or in a row of the blocks from lo to hi, with this content -/
def RowR (w : World) (lo hi : Nat) (t : TypeId) (sz : Nat) (A : Option Addr) (n c : Nat) (M : Nat → Value) : Prop :=
  (A = none ∧ c = 0 ∧ n = 0) ∨ ∃ g f, A = some ⟨g, 0, none⟩ ∧ lo ≤ g ∧ g < hi ∧ n ≤ c ∧ w.rowIs g t (c * sz) f ∧ ∀ x, x < n * sz → f x = M x
/-- the block of a slice -/
def blk (A : Option Addr) (g : Nat) : Prop := A = some ⟨g, 0, none⟩
section
variable {w w' : World} {lo hi lo' hi' n c sz : Nat} {t : TypeId} {A : Option Addr} {M M' : Nat → Value}
theorem RowR.nil : RowR w lo hi t sz none 0 0 M := .inl ⟨rfl, rfl, rfl⟩
theorem RowR.mk {g : Nat} {f : Nat → Value} (h1 : lo ≤ g) (h2 : g < hi) (h3 : n ≤ c) (h4 : w.rowIs g t (c * sz) f) (h5 : ∀ x, x < n * sz → f x = M x) : RowR w lo hi t sz (some ⟨g, 0, none⟩) n c M := .inr ⟨g, f, rfl, h1, h2, h3, h4, h5⟩
theorem RowR.stay (h : RowR w lo hi t sz A n c M) (hb : ∀ g f m, blk A g → w.rowIs g t m f → lo ≤ g → g < hi → w'.heap[g]? = w.heap[g]?) : RowR w' lo hi t sz A n c M :=
  h.imp id fun ⟨g, f, e, h1, h2, h3, h4, h5⟩ => ⟨g, f, e, h1, h2, h3, h4.of_block (hb g f _ e h4 h1 h2), h5⟩
theorem RowR.on (h : RowR w lo hi t sz A n c M) (hb : Below w.heap.size w w') : RowR w' lo hi t sz A n c M := h.stay fun g f m _ hr _ _ => hb.block g hr.lt
theorem RowR.far {l r : Nat} (h : RowR w lo hi t sz A n c M) (ho : Only l r w w') (hr : r ≤ lo ∨ hi ≤ l) : RowR w' lo hi t sz A n c M := h.stay fun g f m _ hb h1 h2 => ho.block g hb.lt (by omega)
theorem RowR.chg {S : Nat → Prop} (h : RowR w lo hi t sz A n c M) (ho : Chg S w w') (hS : ∀ g, blk A g → (∃ f m, w.rowIs g t m f) → ¬ S g) : RowR w' lo hi t sz A n c M := h.stay fun g f m e hb _ _ => ho.block g hb.lt (hS g e ⟨f, m, hb⟩)
theorem RowR.wide (h : RowR w lo hi t sz A n c M) (h1 : lo' ≤ lo) (h2 : hi ≤ hi') : RowR w lo' hi' t sz A n c M :=
  h.imp id fun ⟨g, f, e, a1, a2, h3, h4, h5⟩ => ⟨g, f, e, by omega, by omega, h3, h4, h5⟩
theorem RowR.congr (h : RowR w lo hi t sz A n c M) (e : ∀ x, x < n * sz → M x = M' x) : RowR w lo hi t sz A n c M' :=
  h.imp id fun ⟨g, f, e1, a1, a2, h3, h4, h5⟩ => ⟨g, f, e1, a1, a2, h3, h4, fun x hx => (h5 x hx).trans (e x hx)⟩
theorem RowR.in_ (h : RowR w lo hi t sz A n c M) {g : Nat} (e : blk A g) : lo ≤ g ∧ g < hi := by
  rcases h with ⟨e2, _⟩ | ⟨g2, f, e2, h1, h2, _⟩
  · rw [blk, e2] at e; cases e
  · rw [blk, e2] at e
    injection e with e
    injection e with e
    omega
end

theorem intsR_at {w : World} {lo hi : Nat} {A : Option Addr} {c : Nat} {zs : List Int} (h : RowR w lo hi 3 1 A zs.length c (iat zs)) : IntsAt w hi A zs.length zs := by
  rcases h with ⟨rfl, rfl, h0⟩ | ⟨g, f, rfl, h1, h2, h3, h4, h5⟩
  · exact ⟨by simp, fun h => by omega⟩
  · exact ints_row h4 (by omega) h2 rfl (fun k hk => h5 k (by omega))
theorem strsR_at {w : World} {lo hi : Nat} {A : Option Addr} {c : Nat} {ss : List ByteArray} (h : RowR w lo hi 9 1 A ss.length c (at_ ss)) : SR w hi A ss.length (ss.map Value.string) := by
  rcases h with ⟨rfl, rfl, h0⟩ | ⟨g, f, rfl, h1, h2, h3, h4, h5⟩
  · exact ⟨by simp, fun h => by omega⟩
  · refine SR.of_row2 h4 (by omega) h2 (fun k u hu => ?_) (by simp)
    rw [List.getElem?_map] at hu
    obtain ⟨s, hs, rfl⟩ := Option.map_eq_some_iff.1 hu
    have hk := (List.getElem?_eq_some_iff.1 hs).1
    exact ⟨hk, (h5 k (by omega)).trans (at_of hs)⟩
/-- the cells of Wires -/
def wic (ws : List Wr) (x : Nat) : Value := match ws[x / 2]? with
  | some y => if x % 2 = 0 then .string y.name else .int .i64 y.link
  | none => undef
theorem wic_at {ws : List Wr} {k : Nat} {y : Wr} (h : ws[k]? = some y) : wic ws (k * 2) = .string y.name ∧ wic ws (k * 2 + 1) = .int .i64 y.link := by
  unfold wic
  rw [show k * 2 / 2 = k by omega, show (k * 2 + 1) / 2 = k by omega, h]
  exact ⟨if_pos (by omega), if_neg (by omega)⟩
theorem wrsR_at {w : World} {lo hi : Nat} {A : Option Addr} {c : Nat} {ws : List Wr} (h : RowR w lo hi 60 2 A ws.length c (wic ws)) : WrsAt w hi A ws.length ws := by
  rcases h with ⟨rfl, rfl, h0⟩ | ⟨g, f, rfl, h1, h2, h3, h4, h5⟩
  · exact ⟨rfl, fun h => by omega⟩
  · refine ⟨rfl, fun _ => ⟨g, 0, rfl, h2, fun k y hk => ?_⟩⟩
    have hkl := (List.getElem?_eq_some_iff.1 hk).1
    obtain ⟨e0, e1⟩ := wic_at hk
    rw [Nat.zero_add]
    exact ⟨by rw [h4.cell (by omega), h5 _ (by omega), e0], by rw [h4.cell (by omega), h5 _ (by omega), e1]⟩

/-- where a Bigraph lies -/
structure Plan where
  A1 : Option Addr
  c1 : Nat
  A2 : Option Addr
  c2 : Nat
  A4 : Option Addr
  c4 : Nat
  A5 : Option Addr
  c5 : Nat
  LA : Nat → Option Addr
  LC : Nat → Nat
/-- the links of each node lie apart from the sites and from the other nodes' links -/
def Plan.Apart (P : Plan) (n : Nat) : Prop := ∀ k, k < n → P.LA k ≠ none → P.LA k ≠ P.A2 ∧ ∀ j, j < n → j ≠ k → P.LA j ≠ P.LA k
/-- the cells of nodes -/
def ndc (P : Plan) (ln : Nat → Nat) (mc mp : Nat → Value) (x : Nat) : Value := if x % 3 = 0 then mc (x / 3) else if x % 3 = 1 then mp (x / 3) else .slice (P.LA (x / 3)) (ln (x / 3)) (P.LC (x / 3))
theorem ndc_at (P : Plan) (ln : Nat → Nat) (mc mp : Nat → Value) (k : Nat) : ndc P ln mc mp (k * 3) = mc k ∧ ndc P ln mc mp (k * 3 + 1) = mp k ∧ ndc P ln mc mp (k * 3 + 2) = .slice (P.LA k) (ln k) (P.LC k) := by
  unfold ndc
  rw [show k * 3 / 3 = k by omega, show (k * 3 + 1) / 3 = k by omega, show (k * 3 + 2) / 3 = k by omega]
  exact ⟨if_pos (by omega), by rw [if_neg (by omega), if_pos (by omega)], by rw [if_neg (by omega), if_neg (by omega)]⟩
theorem ndc_of {f : Nat → Value} {P : Plan} {ln : Nat → Nat} {mc mp : Nat → Value} {n : Nat} (h : ∀ k, k < n → f (k * 3) = mc k ∧ f (k * 3 + 1) = mp k ∧ f (k * 3 + 2) = .slice (P.LA k) (ln k) (P.LC k)) : ∀ x, x < n * 3 → f x = ndc P ln mc mp x := by
  intro x hx
  obtain ⟨h0, h1, h2⟩ := h (x / 3) (by omega)
  obtain ⟨g0, g1, g2⟩ := ndc_at P ln mc mp (x / 3)
  have hm : x % 3 = 0 ∨ x % 3 = 1 ∨ x % 3 = 2 := by omega
  rcases hm with e | e | e
  · rw [show x / 3 * 3 = x by omega] at h0 g0; exact h0.trans g0.symm
  · rw [show x / 3 * 3 + 1 = x by omega] at h1 g1; exact h1.trans g1.symm
  · rw [show x / 3 * 3 + 2 = x by omega] at h2 g2; exact h2.trans g2.symm
def Nodes (w : World) (lo hi : Nat) (P : Plan) (n : Nat) (ln : Nat → Nat) (mc mp : Nat → Value) (ml : Nat → Nat → Value) : Prop :=
  RowR w lo hi 103 3 P.A1 n P.c1 (ndc P ln mc mp) ∧ ∀ k, k < n → RowR w lo hi 3 1 (P.LA k) (ln k) (P.LC k) (ml k)
/-- the blocks of the nodes -/
def Plan.S1 (P : Plan) (n : Nat) (g : Nat) : Prop := blk P.A1 g ∨ ∃ j, j < n ∧ blk (P.LA j) g
def linksOf (ns : List Nd) (k : Nat) : List Int := match ns[k]? with
  | some x => x.links
  | none => []
theorem linksOf_at {ns : List Nd} {k : Nat} {x : Nd} (h : ns[k]? = some x) : linksOf ns k = x.links := by unfold linksOf; rw [h]
def ctOf (ns : List Nd) (k : Nat) : Value := match ns[k]? with
  | some x => .int .i64 x.control
  | none => undef
def paOf (ns : List Nd) (k : Nat) : Value := match ns[k]? with
  | some x => .int .i64 x.parent
  | none => undef
theorem ctOf_at {ns : List Nd} {k : Nat} {x : Nd} (h : ns[k]? = some x) : ctOf ns k = .int .i64 x.control ∧ paOf ns k = .int .i64 x.parent := by unfold ctOf paOf; rw [h]; exact ⟨rfl, rfl⟩
def lnOf (ns : List Nd) (k : Nat) : Nat := (linksOf ns k).length
theorem nodes_at {w : World} {lo hi : Nat} {P : Plan} {ns : List Nd} (h : Nodes w lo hi P ns.length (lnOf ns) (ctOf ns) (paOf ns) (fun k => iat (linksOf ns k))) : NdsAt w hi P.A1 ns.length ns := by
  obtain ⟨h0, hl⟩ := h
  rcases h0 with ⟨e, e2, h0⟩ | ⟨g, f, e, h1, h2, h3, h4, h5⟩
  · exact ⟨rfl, fun h => by omega⟩
  · refine ⟨rfl, fun _ => ⟨g, 0, e, h2, fun k x hk => ?_⟩⟩
    have hkl := (List.getElem?_eq_some_iff.1 hk).1
    obtain ⟨e0, e1, e2⟩ := ndc_at P (lnOf ns) (ctOf ns) (paOf ns) k
    obtain ⟨q0, q1⟩ := ctOf_at hk
    have hln : lnOf ns k = x.links.length := by unfold lnOf; rw [linksOf_at hk]
    have hlk : RowR w lo hi 3 1 (P.LA k) x.links.length (P.LC k) (iat x.links) := by
      have := hl k hkl
      simp only [hln, linksOf_at hk] at this
      exact this
    rw [hln] at e2
    rw [Nat.zero_add]
    exact ⟨by rw [h4.cell (by omega), h5 _ (by omega), e0, q0], by rw [h4.cell (by omega), h5 _ (by omega), e1, q1], _, _, _, by rw [h4.cell (by omega), h5 _ (by omega), e2], intsR_at hlk⟩

/-- how many marks a Bigraph takes -/
def ndMk (ns : List Nd) : Nat := 2 * ns.length + sumBy (fun c : Nd => c.links.length) ns
def bigMk (b : Big) : Nat := ndMk b.nodes + b.sites.length + b.outer.length + 2 * b.inner.length
/-- a Bigraph in memory of the call's own, or nil in parts -/
def BigR (w : World) (lo hi : Nat) (v : Value) (b : Big) : Prop :=
  ∃ P : Plan, v = .agg #[.int .i64 b.roots, .slice P.A1 b.nodes.length P.c1, .slice P.A2 b.sites.length P.c2, .int .i64 b.edges, .slice P.A4 b.outer.length P.c4, .slice P.A5 b.inner.length P.c5] ∧ P.Apart b.nodes.length ∧
    Nodes w lo hi P b.nodes.length (lnOf b.nodes) (ctOf b.nodes) (paOf b.nodes) (fun k => iat (linksOf b.nodes k)) ∧ RowR w lo hi 3 1 P.A2 b.sites.length P.c2 (iat b.sites) ∧ RowR w lo hi 9 1 P.A4 b.outer.length P.c4 (at_ b.outer) ∧ RowR w lo hi 60 2 P.A5 b.inner.length P.c5 (wic b.inner)
/-- the marks of nodes and Wires, from k on -/
def ndT (ns : List Nd) (j : Nat) : Nat := 2 * j + sumBy (fun c : Nd => c.links.length) (ns.take j)
def mkc (k : Int) (ns : List Nd) (j : Nat) : Value := .int .i64 (k + ndT ns j)
def mkp (k : Int) (ns : List Nd) (j : Nat) : Value := .int .i64 (k + ndT ns j + 1)
def mkl (k : Int) (ns : List Nd) (j : Nat) : Nat → Value := mki (k + ndT ns j + 2)
def mkw (k : Int) (x : Nat) : Value := if x % 2 = 0 then .string (mt (k + x)) else .int .i64 (k + x)
theorem mkw_at (k : Int) (j : Nat) : mkw k (j * 2) = .string (mt (k + 2 * j)) ∧ mkw k (j * 2 + 1) = .int .i64 (k + 2 * j + 1) := by
  unfold mkw
  refine ⟨?_, ?_⟩
  · rw [if_pos (by omega)]; congr 2; omega
  · rw [if_neg (by omega)]; congr 1; omega
def BigM (w : World) (lo hi : Nat) (v : Value) (b : Big) (k : Int) : Prop :=
  ∃ P : Plan, v = .agg #[.int .i64 b.roots, .slice P.A1 b.nodes.length P.c1, .slice P.A2 b.sites.length P.c2, .int .i64 b.edges, .slice P.A4 b.outer.length P.c4, .slice P.A5 b.inner.length P.c5] ∧
    Nodes w lo hi P b.nodes.length (lnOf b.nodes) (mkc k b.nodes) (mkp k b.nodes) (mkl k b.nodes) ∧ RowR w lo hi 3 1 P.A2 b.sites.length P.c2 (mki (k + ndMk b.nodes)) ∧ RowR w lo hi 9 1 P.A4 b.outer.length P.c4 (mks (k + ndMk b.nodes + b.sites.length)) ∧ RowR w lo hi 60 2 P.A5 b.inner.length P.c5 (mkw (k + ndMk b.nodes + b.sites.length + b.outer.length))
section
variable {w w' : World} {lo hi lo' hi' n : Nat} {v : Value} {b : Big} {k : Int} {P : Plan} {ln : Nat → Nat} {mc mp : Nat → Value} {ml : Nat → Nat → Value}
theorem Nodes.stay (h : Nodes w lo hi P n ln mc mp ml) (hb : ∀ g f m t, w.rowIs g t m f → lo ≤ g → g < hi → w'.heap[g]? = w.heap[g]?) : Nodes w' lo hi P n ln mc mp ml :=
  ⟨h.1.stay fun g f m _ hr => hb g f m _ hr, fun k hk => (h.2 k hk).stay fun g f m _ hr => hb g f m _ hr⟩
theorem Nodes.wide (h : Nodes w lo hi P n ln mc mp ml) (h1 : lo' ≤ lo) (h2 : hi ≤ hi') : Nodes w lo' hi' P n ln mc mp ml := ⟨h.1.wide h1 h2, fun k hk => (h.2 k hk).wide h1 h2⟩
theorem BigR.at (h : BigR w lo hi v b) : BigAt w hi v b := by
  obtain ⟨P, rfl, -, h1, h2, h4, h5⟩ := h
  exact ⟨_, _, _, _, _, _, _, _, _, _, _, _, rfl, nodes_at h1, intsR_at h2, strsR_at h4, wrsR_at h5⟩
theorem BigR.stay (h : BigR w lo hi v b) (hb : ∀ g f m t, w.rowIs g t m f → lo ≤ g → g < hi → w'.heap[g]? = w.heap[g]?) : BigR w' lo hi v b := by
  obtain ⟨P, rfl, ha, h1, h2, h4, h5⟩ := h
  exact ⟨P, rfl, ha, h1.stay hb, h2.stay fun g f m _ hr => hb g f m _ hr, h4.stay fun g f m _ hr => hb g f m _ hr, h5.stay fun g f m _ hr => hb g f m _ hr⟩
theorem BigR.on (h : BigR w lo hi v b) (hb : Below w.heap.size w w') : BigR w' lo hi v b := h.stay fun g f m _ hr _ _ => hb.block g hr.lt
theorem BigR.far {l r : Nat} (h : BigR w lo hi v b) (ho : Only l r w w') (hr : r ≤ lo ∨ hi ≤ l) : BigR w' lo hi v b := h.stay fun g f m _ hb h1 h2 => ho.block g hb.lt (by omega)
theorem BigR.wide (h : BigR w lo hi v b) (a1 : lo' ≤ lo) (a2 : hi ≤ hi') : BigR w lo' hi' v b := by
  obtain ⟨P, rfl, ha, h1, h2, h4, h5⟩ := h
  exact ⟨P, rfl, ha, h1.wide a1 a2, h2.wide a1 a2, h4.wide a1 a2, h5.wide a1 a2⟩
theorem BigM.stay (h : BigM w lo hi v b k) (hb : ∀ g f m t, w.rowIs g t m f → lo ≤ g → g < hi → w'.heap[g]? = w.heap[g]?) : BigM w' lo hi v b k := by
  obtain ⟨P, rfl, h1, h2, h4, h5⟩ := h
  exact ⟨P, rfl, h1.stay hb, h2.stay fun g f m _ hr => hb g f m _ hr, h4.stay fun g f m _ hr => hb g f m _ hr, h5.stay fun g f m _ hr => hb g f m _ hr⟩
theorem BigM.on (h : BigM w lo hi v b k) (hb : Below w.heap.size w w') : BigM w' lo hi v b k := h.stay fun g f m _ hr _ _ => hb.block g hr.lt
theorem BigM.far {l r : Nat} (h : BigM w lo hi v b k) (ho : Only l r w w') (hr : r ≤ lo ∨ hi ≤ l) : BigM w' lo hi v b k := h.stay fun g f m _ hb h1 h2 => ho.block g hb.lt (by omega)
end
/-- what a function tells that gives back a Bigraph and whether there is an answer -/
def BigPost (q : Bool) (b : Big) (w : World) (e : Ending) (w' : World) : Prop :=
  ∃ v, e = .returned (.tuple #[v, .bool q]) ∧ BigR w' w.heap.size w'.heap.size v b ∧ Below w.heap.size w w'
/-- no Bigraph -/
def zeroBig : Big := ⟨0, [], [], 0, [], []⟩
def zeroPlan : Plan := ⟨none, 0, none, 0, none, 0, none, 0, fun _ => none, fun _ => 0⟩
theorem BigR.zero {w : World} {lo hi : Nat} : BigR w lo hi (.agg #[.int .i64 0, .slice none 0 0, .slice none 0 0, .int .i64 0, .slice none 0 0, .slice none 0 0]) zeroBig :=
  ⟨zeroPlan, rfl, fun k hk => absurd hk (Nat.not_lt_zero k), ⟨RowR.nil, fun k hk => absurd hk (Nat.not_lt_zero k)⟩, RowR.nil, RowR.nil, RowR.nil⟩
end Go.Proofs.Ytifialdkjnmfoab.br
