/- Words of the laws: what a copy of an argument and a variable of the law keep through a step. -/
import Derived.Test.YtifialdkjnmfoabBw
import Derived.Deep.Cut
import Derived.Deep.CutRange
namespace Go.Proofs.Ytifialdkjnmfoab.lw
open kit bg opn strs only hb sig inn ht marks eqs hc hi hw hn rs br bm bw cf lawb
open Go.RowKit
set_option linter.unusedVariables false

section
variable {w w' : World} {lo hi n c l r : Nat} {A : Option Addr} {cs : List Ctl} {b : Big} {v : Value} {t : TypeId} {v0 v1 v2 v3 v4 v5 : Value} {β : Nat}
theorem _root_.Go.Proofs.Ytifialdkjnmfoab.hc.CtlsOwn.blocks (h : CtlsOwn w lo hi A n cs) (hb : ∀ g, lo ≤ g → g < hi → g < w.heap.size → w'.heap[g]? = w.heap[g]?) : CtlsOwn w' lo hi A n cs := by
  obtain ⟨hl, g, f, rfl, h1, h2, hr, hf⟩ := h
  exact ⟨hl, g, f, rfl, h1, h2, hr.of_block (hb g h1 h2 hr.lt), hf⟩
theorem _root_.Go.Proofs.Ytifialdkjnmfoab.hc.CtlsOwn.on (h : CtlsOwn w lo hi A n cs) (hb : Below w.heap.size w w') : CtlsOwn w' lo hi A n cs := h.blocks fun g _ _ h3 => hb.block g h3
theorem _root_.Go.Proofs.Ytifialdkjnmfoab.hc.CtlsOwn.far (h : CtlsOwn w lo hi A n cs) (ho : Only l r w w') (hr : r ≤ lo ∨ hi ≤ l) : CtlsOwn w' lo hi A n cs := h.blocks fun g h1 h2 h3 => ho.block g h3 (by omega)
theorem _root_.Go.Proofs.Ytifialdkjnmfoab.hc.CtlsOwn.here (h : CtlsOwn w lo hi A n cs) : CtlsAt w w.heap.size A n cs := by
  obtain ⟨hl, g, f, rfl, h1, h2, hr, hf⟩ := h
  exact CtlsOwn.at (lo := lo) ⟨hl, g, f, rfl, h1, hr.lt, hr, hf⟩
theorem nds_blocks {A : Option Addr} {cs : List Nd} (h : NdsOwn w lo hi A n cs) (hb : ∀ g, lo ≤ g → g < hi → g < w.heap.size → w'.heap[g]? = w.heap[g]?) : NdsOwn w' lo hi A n cs := by
  obtain ⟨hl, g, f, rfl, h1, h2, hr, hf⟩ := h
  refine ⟨hl, g, f, rfl, h1, h2, hr.of_block (hb g h1 h2 hr.lt), fun k x hk => ?_⟩
  obtain ⟨e0, e1, b, e2, hb1, hb2, hbr⟩ := hf k x hk
  exact ⟨e0, e1, b, e2, hb1, hb2, hbr.of_block (hb b (by omega) hb2 hbr.lt)⟩
theorem wrs_blocks {A : Option Addr} {cs : List Wr} (h : WrsOwn w lo hi A n cs) (hb : ∀ g, lo ≤ g → g < hi → g < w.heap.size → w'.heap[g]? = w.heap[g]?) : WrsOwn w' lo hi A n cs := by
  obtain ⟨hl, g, f, rfl, h1, h2, hr, hf⟩ := h
  exact ⟨hl, g, f, rfl, h1, h2, hr.of_block (hb g h1 h2 hr.lt), hf⟩
theorem _root_.Go.Proofs.Ytifialdkjnmfoab.ht.BigOwn.blocks2 (h : BigOwn w lo hi v b) (hb : ∀ g, lo ≤ g → g < hi → g < w.heap.size → w'.heap[g]? = w.heap[g]?) : BigOwn w' lo hi v b := by
  obtain ⟨g1, g2, g4, g5, rfl, h1, ⟨h2, l2, k2⟩, ⟨h4, l4, k4⟩, h5⟩ := h
  exact ⟨_, _, _, _, rfl, nds_blocks h1 hb, ⟨h2.of_block (hb g2 l2 k2 h2.lt), l2, k2⟩, ⟨h4.of_block (hb g4 l4 k4 h4.lt), l4, k4⟩, wrs_blocks h5 hb⟩
theorem _root_.Go.Proofs.Ytifialdkjnmfoab.ht.BigOwn.on (h : BigOwn w lo hi v b) (hb : Below w.heap.size w w') : BigOwn w' lo hi v b := h.blocks2 fun g _ _ h3 => hb.block g h3
theorem _root_.Go.Proofs.Ytifialdkjnmfoab.ht.BigOwn.far (h : BigOwn w lo hi v b) (ho : Only l r w w') (hr : r ≤ lo ∨ hi ≤ l) : BigOwn w' lo hi v b := h.blocks2 fun g h1 h2 h3 => ho.block g h3 (by omega)
theorem nds_here {A : Option Addr} {cs : List Nd} (h : NdsOwn w lo hi A n cs) : NdsOwn w lo w.heap.size A n cs := by
  obtain ⟨hl, g, f, rfl, h1, h2, hr, hf⟩ := h
  refine ⟨hl, g, f, rfl, h1, hr.lt, hr, fun k x hk => ?_⟩
  obtain ⟨e0, e1, b, e2, hb1, hb2, hbr⟩ := hf k x hk
  exact ⟨e0, e1, b, e2, hb1, hbr.lt, hbr⟩
theorem _root_.Go.Proofs.Ytifialdkjnmfoab.ht.BigOwn.here (h : BigOwn w lo hi v b) : BigAt w w.heap.size v b := by
  obtain ⟨g1, g2, g4, g5, rfl, h1, ⟨h2, l2, k2⟩, ⟨h4, l4, k4⟩, h5⟩ := h
  obtain ⟨hl, g, f, e, a1, a2, hr, hf⟩ := h5
  exact BigOwn.at (lo := lo) ⟨g1, g2, g4, g5, rfl, nds_here h1, ⟨h2, l2, h2.lt⟩, ⟨h4, l4, h4.lt⟩, ⟨hl, g, f, e, a1, hr.lt, hr, hf⟩⟩
theorem _root_.Go.Proofs.Ytifialdkjnmfoab.cf.BoxAt.on (h : BoxAt w β t v0 v1 v2 v3 v4 v5) (hb : Below w.heap.size w w') : BoxAt w' β t v0 v1 v2 v3 v4 v5 := World.rowIs.of_block h (hb.block β (World.rowIs.lt h))
theorem _root_.Go.Proofs.Ytifialdkjnmfoab.cf.BoxAt.far (h : BoxAt w β t v0 v1 v2 v3 v4 v5) (ho : Only l r w w') (hr : r ≤ β ∨ β < l) : BoxAt w' β t v0 v1 v2 v3 v4 v5 := World.rowIs.of_block h (ho.block β (World.rowIs.lt h) (by omega))
end
/-- a slice without memory has no room -/
def NilV (v : Value) : Prop := ∃ a A1 n1 c1 A2 n2 c2 e A4 n4 c4 A5 n5 c5, v = .agg #[a, .slice A1 n1 c1, .slice A2 n2 c2, e, .slice A4 n4 c4, .slice A5 n5 c5] ∧ (A1 = none → c1 = 0) ∧ (A2 = none → c2 = 0) ∧ (A4 = none → c4 = 0) ∧ (A5 = none → c5 = 0)
theorem NilV.get {a e : Value} {A1 A2 A4 A5 : Option Addr} {n1 c1 n2 c2 n4 c4 n5 c5 : Nat} (h : NilV (.agg #[a, .slice A1 n1 c1, .slice A2 n2 c2, e, .slice A4 n4 c4, .slice A5 n5 c5])) : (A1 = none → c1 = 0) ∧ (A2 = none → c2 = 0) ∧ (A4 = none → c4 = 0) ∧ (A5 = none → c5 = 0) := by
  obtain ⟨a', A1', n1', c1', A2', n2', c2', e', A4', n4', c4', A5', n5', c5', h, h1, h2, h4, h5⟩ := h
  injection h with h
  simp at h
  obtain ⟨-, ⟨rfl, -, rfl⟩, ⟨rfl, -, rfl⟩, -, ⟨rfl, -, rfl⟩, ⟨rfl, -, rfl⟩⟩ := h
  exact ⟨h1, h2, h4, h5⟩
theorem NilV.of_own {w : World} {lo hi : Nat} {v : Value} {b : Big} (h : BigOwn w lo hi v b) : NilV v := by
  obtain ⟨g1, g2, g4, g5, rfl, -⟩ := h
  exact ⟨_, _, _, _, _, _, _, _, _, _, _, _, _, _, rfl, (fun e => by cases e), (fun e => by cases e), (fun e => by cases e), (fun e => by cases e)⟩
/-- how a result looks -/
theorem _root_.Go.Proofs.Ytifialdkjnmfoab.br.BigR.shape {w : World} {lo hi : Nat} {v : Value} {b : Big} (h : BigR w lo hi v b) : ∃ B1 d1 B2 d2 B4 d4 B5 d5, v = .agg #[.int .i64 b.roots, .slice B1 b.nodes.length d1, .slice B2 b.sites.length d2, .int .i64 b.edges, .slice B4 b.outer.length d4, .slice B5 b.inner.length d5] := by
  obtain ⟨P, rfl, -⟩ := h
  exact ⟨_, _, _, _, _, _, _, _, rfl⟩
theorem _root_.Go.Proofs.Ytifialdkjnmfoab.br.BigR.here {w : World} {lo hi : Nat} {v : Value} {b : Big} (h : BigR w lo hi v b) : BigR w lo w.heap.size v b := by
  have hh : ∀ {t sz A n c M}, RowR w lo hi t sz A n c M → RowR w lo w.heap.size t sz A n c M := fun h => h.imp id fun ⟨g, f, e, h1, h2, h3, h4, h5⟩ => ⟨g, f, e, h1, h4.lt, h3, h4, h5⟩
  obtain ⟨P, rfl, ha, h1, h2, h4, h5⟩ := h
  exact ⟨P, rfl, ha, ⟨hh h1.1, fun k hk => hh (h1.2 k hk)⟩, hh h2, hh h4, hh h5⟩

/-! ### copies of lists -/
theorem rowR_here {w : World} {lo hi : Nat} {t : TypeId} {sz : Nat} {A : Option Addr} {n c : Nat} {M : Nat → Value} (h : RowR w lo hi t sz A n c M) : RowR w lo w.heap.size t sz A n c M := h.imp id fun ⟨g, f, e, h1, h2, h3, h4, h5⟩ => ⟨g, f, e, h1, h4.lt, h3, h4, h5⟩
theorem toIR_any (A : Option Addr) (n c : Nat) (zs : List Int) (w : World) (h : IntsAt w w.heap.size A n zs) (hn : n ≤ 1048576) :
    Calls Try.prog 34 #[.slice A n c] w fun e w' => ∃ g, e = .returned (.slice (some ⟨g, 0, none⟩) zs.length zs.length) ∧ RowR w' w.heap.size w'.heap.size 3 1 (some ⟨g, 0, none⟩) zs.length zs.length (iat zs) ∧ Below w.heap.size w w' := by
  obtain rfl := h.len
  exact (toIS_ex A _ c zs w h hn).mono fun e w' ⟨g, he, h1, h2, h3, h4⟩ => ⟨g, he, RowR.mk h1 h2 (Nat.le_refl _) (by rw [Nat.mul_one]; exact h3) (fun _ _ => rfl), h4⟩
theorem toSR_any (A : Option Addr) (n c : Nat) (ss : List ByteArray) (w : World) (h : SR w w.heap.size A n (ss.map Value.string)) (hn : n ≤ 1048576) :
    Calls Try.prog 35 #[.slice A n c] w fun e w' => ∃ g, e = .returned (.slice (some ⟨g, 0, none⟩) ss.length ss.length) ∧ RowR w' w.heap.size w'.heap.size 9 1 (some ⟨g, 0, none⟩) ss.length ss.length (at_ ss) ∧ Below w.heap.size w w' := by
  obtain rfl := h.strlen
  exact (to_any A _ c ss w h hn).mono fun e w' ⟨g, he, h1, h2, h3, h4⟩ => ⟨g, he, RowR.mk h1 h2 (Nat.le_refl _) (by rw [Nat.mul_one]; exact h3) (fun _ _ => rfl), h4⟩
theorem eqIR_any (A A' : Option Addr) (c c' : Nat) (zs : List Int) (w : World) (lo hi lo' hi' : Nat) (h : RowR w lo hi 3 1 A zs.length c (iat zs)) (h' : RowR w lo' hi' 3 1 A' zs.length c' (iat zs)) (hn : zs.length ≤ 1048576) :
    Calls Try.prog 46 #[.slice A zs.length c, .slice A' zs.length c'] w fun e w' => e = .returned (.bool true) ∧ Below w.heap.size w w' :=
  (eqIS_any A A' _ c c' zs w _ _ (intsR_at h) (intsR_at h') (by unfold maxLen; omega)).mono fun _ _ ⟨a, d⟩ => ⟨a, d.below _⟩
theorem eqSR_any (A A' : Option Addr) (c c' : Nat) (ss : List ByteArray) (w : World) (lo hi lo' hi' : Nat) (h : RowR w lo hi 9 1 A ss.length c (at_ ss)) (h' : RowR w lo' hi' 9 1 A' ss.length c' (at_ ss)) (hn : ss.length ≤ 1048576) :
    Calls Try.prog 47 #[.slice A ss.length c, .slice A' ss.length c'] w fun e w' => e = .returned (.bool true) ∧ Below w.heap.size w w' :=
  (eq_any A A' _ c c' ss w _ _ (strsR_at h) (strsR_at h') hn).mono fun _ _ ⟨a, d⟩ => ⟨a, d.below _⟩
theorem markIO_any (A : Option Addr) (n c : Nat) (M : Nat → Value) (k : Int) (w : World) (lo hi : Nat) (h : RowR w lo hi 3 1 A n c M) (h0 : 0 < k) (h1 : k ≤ 8000000) (hn : n ≤ 1048576) :
    Calls Try.prog 52 #[.slice A n c, .int .i64 k] w fun e w' => e = .returned (.int .i64 (k + n)) ∧ Only lo hi w w' :=
  (markIR_any A n c M k w lo hi h h0 h1 hn).mono fun _ _ ⟨a, _, d⟩ => ⟨a, d.only (fun g _ e => h.in_ e)⟩
theorem markSO_any (A : Option Addr) (n c : Nat) (M : Nat → Value) (k : Int) (w : World) (lo hi : Nat) (h : RowR w lo hi 9 1 A n c M) (h0 : 0 < k) (h1 : k ≤ 8000000) (hn : n ≤ 1048576) :
    Calls Try.prog 53 #[.slice A n c, .int .i64 k] w fun e w' => e = .returned (.int .i64 (k + n)) ∧ Only lo hi w w' :=
  (markSR_any A n c M k w lo hi h h0 h1 hn).mono fun _ _ ⟨a, _, d⟩ => ⟨a, d.only (fun g _ e => h.in_ e)⟩
theorem markCO_any (A : Option Addr) (n c : Nat) (cs : List Ctl) (k : Int) (w : World) (lo hi : Nat) (h : CtlsOwn w lo hi A n cs) (h0 : 0 < k) (h1 : k ≤ 8000000) (hn : n ≤ 1048576) :
    Calls Try.prog 15 #[.slice A n c, .int .i64 k] w fun e w' => e = .returned (.int .i64 (k + 3 * n)) ∧ Only lo hi w w' := by
  obtain ⟨g, f, rfl, a1, a2, a3⟩ := h.rows
  exact markCS_any g n c f k w lo hi a3 a1 a2 h0 h1 hn

/-! ### a result that is put into a variable of the law's own -/
def sets6 (X : World) (β : Nat) (a b c d e f : Value) : World := (((((X.setCell ⟨β, 0, none⟩ a).setCell ⟨β, 1, none⟩ b).setCell ⟨β, 2, none⟩ c).setCell ⟨β, 3, none⟩ d).setCell ⟨β, 4, none⟩ e).setCell ⟨β, 5, none⟩ f
theorem sets6_box {X : World} {β : Nat} {t : TypeId} {g : Nat → Value} (h : X.rowIs β t 6 g) (a b c d e f : Value) : BoxAt (sets6 X β a b c d e f) β t a b c d e f := by
  have h6 : (sets6 X β a b c d e f).rowIs β t 6 _ := World.rowIs.set (World.rowIs.set (World.rowIs.set (World.rowIs.set (World.rowIs.set (World.rowIs.set h 0 a) 1 b) 2 c) 3 d) 4 e) 5 f
  unfold BoxAt
  refine h6.congr ?_
  intro i hi
  match i, hi with
  | 0, _ => rfl
  | 1, _ => rfl
  | 2, _ => rfl
  | 3, _ => rfl
  | 4, _ => rfl
  | 5, _ => rfl
theorem sets6_block {X : World} {β g : Nat} (a b c d e f : Value) (h : g ≠ β) : (sets6 X β a b c d e f).heap[g]? = X.heap[g]? := by
  unfold sets6
  rw [Below.heap_setCell _ _ _ _ h, Below.heap_setCell _ _ _ _ h, Below.heap_setCell _ _ _ _ h, Below.heap_setCell _ _ _ _ h, Below.heap_setCell _ _ _ _ h, Below.heap_setCell _ _ _ _ h]
theorem sets6_big {X : World} {β lo hi : Nat} {g : Nat → Value} {v : Value} {r : Big} (h : X.rowIs β 34 6 g) (hr : BigR X lo hi v r) (a b c d e f : Value) : BigR (sets6 X β a b c d e f) lo hi v r := by
  obtain ⟨P, rfl, ha, h1, h2, h4, h5⟩ := hr
  have no : ∀ {t sz A n c' M}, RowR X lo hi t sz A n c' M → t ≠ 34 → RowR (sets6 X β a b c d e f) lo hi t sz A n c' M := fun hR ht => by
    rcases hR with h0 | ⟨g2, f2, e2, k1, k2, k3, k4, k5⟩
    · exact .inl h0
    · exact .inr ⟨g2, f2, e2, k1, k2, k3, k4.of_block (sets6_block _ _ _ _ _ _ (fun e => by subst e; exact ht (rowIs_uniq k4 h).1)), k5⟩
  exact ⟨P, rfl, ha, ⟨no h1.1 (by decide), fun k hk => no (h1.2 k hk) (by decide)⟩, no h2 (by decide), no h4 (by decide), no h5 (by decide)⟩
theorem sets6_below {X w2 : World} {β B : Nat} (hb : Below B w2 X) (hβ : B ≤ β) (a b c d e f : Value) : Below B w2 (sets6 X β a b c d e f) :=
  (((((hb.setCell (p := ⟨β, 0, none⟩) hβ a).setCell (p := ⟨β, 1, none⟩) hβ b).setCell (p := ⟨β, 2, none⟩) hβ c).setCell (p := ⟨β, 3, none⟩) hβ d).setCell (p := ⟨β, 4, none⟩) hβ e).setCell (p := ⟨β, 5, none⟩) hβ f
theorem sets6_size (X : World) (β : Nat) (a b c d e f : Value) : (sets6 X β a b c d e f).heap.size = X.heap.size := by simp [sets6, World.setCell]
/-- what a variable holds that a result was put into -/
def GotBox (w2 : World) (q : Bool) (r : Big) (s6 s7 : Value) (wx : World) : Prop :=
  ∃ β B1 d1 B2 d2 B4 d4 B5 d5, s6 = .pointer (some ⟨β, 0, none⟩) ∧ s7 = .bool q ∧ w2.heap.size ≤ β ∧ BoxAt wx β 34 (.int .i64 r.roots) (.slice B1 r.nodes.length d1) (.slice B2 r.sites.length d2) (.int .i64 r.edges) (.slice B4 r.outer.length d4) (.slice B5 r.inner.length d5) ∧
    BigR wx w2.heap.size wx.heap.size (.agg #[.int .i64 r.roots, .slice B1 r.nodes.length d1, .slice B2 r.sites.length d2, .int .i64 r.edges, .slice B4 r.outer.length d4, .slice B5 r.inner.length d5]) r ∧ Below w2.heap.size w2 wx
theorem got_early {w2 X : World} {β : Nat} {g : Nat → Value} {r : Big} {B1 B2 B4 B5 : Option Addr} {d1 d2 d4 d5 lo hi : Nat} (q : Bool) (h : X.rowIs β 34 6 g) (hβ : w2.heap.size ≤ β)
    (hr : BigR X lo hi (.agg #[.int .i64 r.roots, .slice B1 r.nodes.length d1, .slice B2 r.sites.length d2, .int .i64 r.edges, .slice B4 r.outer.length d4, .slice B5 r.inner.length d5]) r) (hlo : w2.heap.size ≤ lo) (hk : Below w2.heap.size w2 X) :
    GotBox w2 q r (.pointer (some ⟨β, 0, none⟩)) (.bool q) ((((((X.setCell ⟨β, 0, none⟩ (.int .i64 r.roots)).setCell ⟨β, 1, none⟩ (.slice B1 r.nodes.length d1)).setCell ⟨β, 2, none⟩ (.slice B2 r.sites.length d2)).setCell ⟨β, 3, none⟩ (.int .i64 r.edges)).setCell ⟨β, 4, none⟩ (.slice B4 r.outer.length d4)).setCell ⟨β, 5, none⟩ (.slice B5 r.inner.length d5)) :=
  show GotBox w2 q r (.pointer (some ⟨β, 0, none⟩)) (.bool q) (sets6 X β (.int .i64 r.roots) (.slice B1 r.nodes.length d1) (.slice B2 r.sites.length d2) (.int .i64 r.edges) (.slice B4 r.outer.length d4) (.slice B5 r.inner.length d5)) from
  ⟨β, B1, d1, B2, d2, B4, d4, B5, d5, rfl, rfl, hβ, sets6_box h _ _ _ _ _ _, ((sets6_big h hr _ _ _ _ _ _).here).wide hlo (Nat.le_refl _), sets6_below hk hβ _ _ _ _ _ _⟩
theorem got_late {w2 X : World} {r : Big} {B1 B2 B4 B5 : Option Addr} {d1 d2 d4 d5 lo hi : Nat} (q : Bool)
    (hr : BigR X lo hi (.agg #[.int .i64 r.roots, .slice B1 r.nodes.length d1, .slice B2 r.sites.length d2, .int .i64 r.edges, .slice B4 r.outer.length d4, .slice B5 r.inner.length d5]) r) (hlo : w2.heap.size ≤ lo) (hk : Below w2.heap.size w2 X) :
    GotBox w2 q r (.pointer (some ⟨X.heap.size, 0, none⟩)) (.bool q) (X.alloc (.cells #[.int .i64 r.roots, .slice B1 r.nodes.length d1, .slice B2 r.sites.length d2, .int .i64 r.edges, .slice B4 r.outer.length d4, .slice B5 r.inner.length d5] 34)) :=
  ⟨X.heap.size, B1, d1, B2, d2, B4, d4, B5, d5, rfl, rfl, hk.size, six_new X _ _ _ _ _ _ _, ((hr.on ((Below.refl _ _).alloc (Nat.le_refl _) _)).here).wide hlo (Nat.le_refl _), hk.alloc hk.size _⟩
end Go.Proofs.Ytifialdkjnmfoab.lw
