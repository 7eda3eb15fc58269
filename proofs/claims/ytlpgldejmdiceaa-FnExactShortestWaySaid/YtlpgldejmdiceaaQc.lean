/- Im Pt Cf Lf Ib IsA LawB Rs Rt Br in one. -/
import Derived.Test.YtlpgldejmdiceaaQb
import Derived.Test.YtlpgldejmdiceaaQa
import Derived.RangeFuncBox
import Derived.RangeFuncLeaves
import Derived.Shelf.Abstract
import Derived.OwnWalkIn
import Derived.TacticsInMore
import Derived.LoopNIn
import Derived.LoopIn
import Derived.Maps.AppendAt
import Derived.RangeFuncWrites
import Derived.RangeFuncNested
import Derived.Deep.RegionHeld3
set_option linter.unusedSimpArgs false
section
namespace Go.Proofs.Ytlpgldejmdiceaa.im
open kit bg sg sig only un hb opn over gn nm inn ht gd
open Go.RowKit
set_option linter.unusedVariables false

theorem sizes_no {b : Big} (h : ¬ ((0 ≤ b.roots ∧ b.roots ≤ 4) ∧ (0 ≤ b.edges ∧ b.edges ≤ 8) ∧ b.nodes.length ≤ 8 ∧ b.sites.length ≤ 4 ∧ b.outer.length ≤ 16 ∧ b.inner.length ≤ 16)) : sizesB b = false := by
  cases hq : sizesB b with
  | false => rfl
  | true => exact absurd (sizes_of hq) h

/-- whether all nodes and sites may be where they are -/
def PlacesP (cs : List Ctl) (b : Big) : Prop := (∀ (k : Nat) x, b.nodes[k]? = some x → seatB cs b k x = true) ∧ ∀ (i : Nat) p, b.sites[i]? = some p → underB cs b p b.nodes.length = true
open Classical in
noncomputable def placesB (cs : List Ctl) (b : Big) : Bool := decide (PlacesP cs b)
open Classical in
theorem places_true {cs : List Ctl} {b : Big} (h : PlacesP cs b) : placesB cs b = true := by unfold placesB; exact decide_eq_true h
open Classical in
theorem places_false {cs : List Ctl} {b : Big} (h : ¬ PlacesP cs b) : placesB cs b = false := by unfold placesB; exact decide_eq_false h
open Classical in
theorem places_of {cs : List Ctl} {b : Big} (h : placesB cs b = true) : PlacesP cs b := by unfold placesB at h; exact of_decide_eq_true h
theorem ctrl_seat {cs : List Ctl} {b : Big} {m : Nat} (h : ∀ (j : Nat) x, j < m → b.nodes[j]? = some x → seatB cs b j x = true) : Ctrl cs b.nodes m := fun j x hj hx => by
  have := h j x hj hx
  unfold seatB at this
  simp only [Bool.and_eq_true] at this
  exact this.1

end Go.Proofs.Ytlpgldejmdiceaa.im
end

section
namespace Go.Proofs.Ytlpgldejmdiceaa.pt
open kit bg only hb
open Go.RowKit
set_option linter.unusedVariables false

attribute [local go_sem] Oper.semAt_some

/-- a port: node, index, link -/
abbrev Port := Nat × Nat × Int
def prts (k : Nat) (ls : List Int) (m : Nat) : List Port := (List.range m).map fun i => (k, i, ls.getD i 0)
theorem prts_succ {k m : Nat} {ls : List Int} {l : Int} (h : ls[m]? = some l) : prts k ls (m + 1) = prts k ls m ++ [(k, m, l)] := by
  unfold prts
  rw [List.range_succ, List.map_append]
  simp [List.getD, h]
def prtsTo (ns : List Nd) : Nat → List Port
  | 0 => []
  | k + 1 => prtsTo ns k ++ (match ns[k]? with | some x => prts k x.links x.links.length | none => [])
def ports (ns : List Nd) : List Port := prtsTo ns ns.length
theorem prtsTo_succ {ns : List Nd} {k : Nat} {x : Nd} (h : ns[k]? = some x) : prtsTo ns (k + 1) = prtsTo ns k ++ prts k x.links x.links.length := by
  show prtsTo ns k ++ _ = _
  rw [h]
theorem prtsTo_prefix (ns : List Nd) {k m : Nat} (h : k ≤ m) : prtsTo ns k <+: prtsTo ns m := by
  induction m with
  | zero => obtain rfl : k = 0 := by omega
            exact List.prefix_rfl
  | succ m ih =>
    by_cases e : k = m + 1
    · subst e; exact List.prefix_rfl
    · exact (ih (by omega)).trans (List.prefix_append _ _)
theorem prts_prefix (k : Nat) (ls : List Int) {a b : Nat} (h : a ≤ b) : prts k ls a <+: prts k ls b := by
  unfold prts
  induction b with
  | zero => obtain rfl : a = 0 := by omega
            exact List.prefix_rfl
  | succ b ih =>
    by_cases e : a = b + 1
    · subst e; exact List.prefix_rfl
    · refine (ih (by omega)).trans ?_
      rw [List.range_succ, List.map_append]
      exact List.prefix_append _ _
/-- what has come so far is the beginning of all -/
theorem part_prefix {ns : List Nd} {k m : Nat} {x : Nd} (h : ns[k]? = some x) (hm : m ≤ x.links.length) : prtsTo ns k ++ prts k x.links m <+: ports ns := by
  have hk : k < ns.length := (List.getElem?_eq_some_iff.1 h).1
  refine List.IsPrefix.trans ?_ (prtsTo_prefix ns (show k + 1 ≤ ns.length by omega))
  rw [prtsTo_succ h]
  exact (List.prefix_append_right_inj _).2 (prts_prefix k x.links hm)
theorem part_lt {ns : List Nd} {k m : Nat} {x : Nd} {l : Int} (h : ns[k]? = some x) (hl : x.links[m]? = some l) : (prtsTo ns k ++ prts k x.links m).length < (ports ns).length := by
  have hm : m < x.links.length := (List.getElem?_eq_some_iff.1 hl).1
  have h1 := (part_prefix (m := m + 1) h (by omega)).length_le
  rw [prts_succ hl, ← List.append_assoc, List.length_append] at h1
  simp only [List.length_singleton] at h1
  omega

/-- a port as the loop gets it -/
def encP (p : Port) : Array Value := #[.agg #[.int .i64 p.1, .int .i64 p.2.1], .int .i64 p.2.2]

end Go.Proofs.Ytlpgldejmdiceaa.pt
end

section
namespace Go.Proofs.Ytlpgldejmdiceaa.cf
open kit bg sg sig only un hb over
open Go.RowKit
set_option linter.unusedVariables false

/-- a box of six cells -/
def BoxAt (w : World) (β : Nat) (t : TypeId) (v0 v1 v2 v3 v4 v5 : Value) : Prop := w.rowIs β t 6 (six v0 v1 v2 v3 v4 v5)
theorem BoxAt.get {w : World} {β : Nat} {t : TypeId} {v0 v1 v2 v3 v4 v5 : Value} (h : BoxAt w β t v0 v1 v2 v3 v4 v5) :
    w.cell? ⟨β, 0, none⟩ = some v0 ∧ w.cell? ⟨β, 1, none⟩ = some v1 ∧ w.cell? ⟨β, 2, none⟩ = some v2 ∧ w.cell? ⟨β, 3, none⟩ = some v3 ∧ w.cell? ⟨β, 4, none⟩ = some v4 ∧ w.cell? ⟨β, 5, none⟩ = some v5 := row6 h
theorem BoxAt.below {w w' : World} {β B : Nat} {t : TypeId} {v0 v1 v2 v3 v4 v5 : Value} (h : BoxAt w β t v0 v1 v2 v3 v4 v5) (hb : Below B w w') (hB : β < B) : BoxAt w' β t v0 v1 v2 v3 v4 v5 := World.rowIs.of_block h (hb.block β hB)

/-- what the closure finds: the first wrong link -/
def WirOk (b : Big) (ws : List Wr) (k : Nat) : Prop := ∀ (j : Nat) x, j < k → ws[j]? = some x → linkB b x.link = true
def IdxPost (b : Big) (ws : List Wr) (w : World) (e : Ending) (w' : World) : Prop :=
  (∃ k : Nat, e = .returned (.int .i64 k) ∧ (∃ x, ws[k]? = some x ∧ linkB b x.link = false) ∧ Below w.heap.size w w') ∨ (e = .returned (.int .i64 (-1)) ∧ WirOk b ws ws.length ∧ Below w.heap.size w w')

open Classical in
/-- whether some inner name has a wrong link -/
noncomputable def wirB (b : Big) (ws : List Wr) : Bool := decide (WirOk b ws ws.length)
open Classical in
theorem wir_true {b : Big} {ws : List Wr} (h : WirOk b ws ws.length) : wirB b ws = true := by unfold wirB; exact decide_eq_true h
open Classical in
theorem wir_false {b : Big} {ws : List Wr} (h : ¬ WirOk b ws ws.length) : wirB b ws = false := by unfold wirB; exact decide_eq_false h
open Classical in
theorem wir_of {b : Big} {ws : List Wr} (h : wirB b ws = true) : WirOk b ws ws.length := by unfold wirB at h; exact of_decide_eq_true h

end Go.Proofs.Ytlpgldejmdiceaa.cf
end

section
namespace Go.Proofs.Ytlpgldejmdiceaa.lf
open kit bg sg sig only un hb opn over gn nm inn ht gd im pt cf
open Go.RowKit
set_option linter.unusedVariables false
attribute [local go_sem] Oper.semAt_some

theorem keepsFrom_below {B : Nat} {W W' : World} (h : Below W.heap.size W W') : KeepsFrom B W W' := ⟨h.size, fun k o _ hk _ => (h.block k (lt_of_block hk)).trans hk⟩
theorem set_get {w : World} {a : Addr} {u v : Value} (h : w.cell? a = some u) : (w.setCell a v).cell? a = some v := World.cell?_setCell_same' _ _ _ (by rw [h]; rfl)

/-- whether all nodes have as many links as ports, and all points have links -/
def LinksP (cs : List Ctl) (b : Big) : Prop := (∀ (k : Nat) x, b.nodes[k]? = some x → portsB cs x = true) ∧ (∀ p ∈ ports b.nodes, linkB b p.2.2 = true) ∧ WirOk b b.inner b.inner.length
open Classical in
noncomputable def linksB (cs : List Ctl) (b : Big) : Bool := decide (LinksP cs b)
open Classical in
theorem links_true {cs : List Ctl} {b : Big} (h : LinksP cs b) : linksB cs b = true := by unfold linksB; exact decide_eq_true h
open Classical in
theorem links_false {cs : List Ctl} {b : Big} (h : ¬ LinksP cs b) : linksB cs b = false := by unfold linksB; exact decide_eq_false h
open Classical in
theorem links_of {cs : List Ctl} {b : Big} (h : linksB cs b = true) : LinksP cs b := by unfold linksB at h; exact of_decide_eq_true h

end Go.Proofs.Ytlpgldejmdiceaa.lf
end

section
namespace Go.Proofs.Ytlpgldejmdiceaa.ib
open kit bg sg sig isig only un hb opn over gn nm inn ht gd im pt cf lf
open Go.RowKit
set_option linter.unusedVariables false

theorem mem_prts {k m : Nat} {ls : List Int} {p : Port} (h : p ∈ prts k ls m) : ∃ i, i < m ∧ p = (k, i, ls.getD i 0) := by
  unfold prts at h
  obtain ⟨i, hi, rfl⟩ := List.mem_map.1 h
  exact ⟨i, List.mem_range.1 hi, rfl⟩
theorem mem_prtsTo {ns : List Nd} {m : Nat} {p : Port} (h : p ∈ prtsTo ns m) : ∃ (k : Nat) (x : Nd) (i : Nat), ns[k]? = some x ∧ x.links[i]? = some p.2.2 := by
  induction m with
  | zero => cases h
  | succ m ih =>
    rcases List.mem_append.1 h with h | h
    · exact ih h
    · cases hx : ns[m]? with
      | none => rw [hx] at h; cases h
      | some x =>
        rw [hx] at h
        obtain ⟨i, hi, rfl⟩ := mem_prts h
        have : x.links[i]? = some (x.links[i]) := List.getElem?_eq_getElem hi
        exact ⟨m, x, i, hx, by simp [List.getD, this]⟩
theorem prtsTo_mem {ns : List Nd} {k i m : Nat} {x : Nd} {l : Int} (hx : ns[k]? = some x) (hl : x.links[i]? = some l) (hk : k < m) : (k, i, l) ∈ prtsTo ns m := by
  have hi : i < x.links.length := (List.getElem?_eq_some_iff.1 hl).1
  have h1 : (k, i, l) ∈ prtsTo ns (k + 1) := by
    rw [prtsTo_succ hx]
    refine List.mem_append.2 (.inr ?_)
    unfold prts
    exact List.mem_map.2 ⟨i, List.mem_range.2 hi, by simp [List.getD, hl]⟩
  exact (prtsTo_prefix ns (show k + 1 ≤ m by omega)).subset h1

theorem big_parts (cs : List Ctl) (b : Big) : bigB cs b = (sigB cs && sizesB b && placesB cs b && linksB cs b && namesB b.outer && namesB (nms b.inner)) := by
  cases hq : (sigB cs && sizesB b && placesB cs b && linksB cs b && namesB b.outer && namesB (nms b.inner)) with
  | true =>
    simp only [Bool.and_eq_true] at hq
    obtain ⟨⟨⟨⟨⟨h1, h2⟩, h3⟩, h4⟩, h5⟩, h6⟩ := hq
    have p3 := places_of h3
    have p4 := links_of h4
    refine big_true ⟨sig_of h1, h2, names_of h5, names_of h6, fun k x hx => ⟨p3.1 k x hx, p4.1 k x hx, fun i l hl => ?_⟩, p3.2, fun i x hx => p4.2.2 i x (List.getElem?_eq_some_iff.1 hx).1 hx⟩
    exact p4.2.1 (k, i, l) (prtsTo_mem hx hl (List.getElem?_eq_some_iff.1 hx).1)
  | false =>
    refine big_false (fun hp => ?_)
    obtain ⟨h1, h2, h3, h4, h5, h6, h7⟩ := hp
    have g3 := places_true (cs := cs) (b := b) ⟨fun k x hx => (h5 k x hx).1, h6⟩
    have g4 := links_true (cs := cs) (b := b) ⟨fun k x hx => (h5 k x hx).2.1, fun p hp => by
      obtain ⟨k, x, i, hx, hl⟩ := mem_prtsTo hp
      exact (h5 k x hx).2.2 i _ hl, fun j x _ hx => h7 j x hx⟩
    have g5 := names_true h3
    have g6 : namesB (nms b.inner) = true := names_true h4
    rw [sig_true h1, h2, g3, g4, g5, g6] at hq
    cases hq

end Go.Proofs.Ytlpgldejmdiceaa.ib
end

section
namespace Go.Proofs.Ytlpgldejmdiceaa.isa
open kit bg sg sig isig only un hb opn over gn nm inn ht gd im pt cf lf ib
open Go.RowKit
set_option linter.unusedVariables false

/-- whether a Bigraph is an agent -/
noncomputable def agentB (cs : List Ctl) (b : Big) : Bool := bigB cs b && decide (b.sites.length = 0) && decide (b.inner.length = 0)

theorem agent_of {cs : List Ctl} {b : Big} {q : Bool} (h : bigB cs b = q) {n2 n5 : Nat} (h2 : b.sites.length = n2) (h5 : b.inner.length = n5) : agentB cs b = (q && decide (n2 = 0) && decide (n5 = 0)) := by
  unfold agentB
  rw [h, h2, h5]

end Go.Proofs.Ytlpgldejmdiceaa.isa
end

section
namespace Go.Proofs.Ytlpgldejmdiceaa.lawb
open kit bg opn sig isig hc only hb gd cf ht
open Go.RowKit
set_option linter.unusedVariables false

/-- a variable of a Bigraph's own, and its six parts stored -/
def put6 (t : TypeId) (w : World) (a b c d e f : Value) : World :=
  ((((((w.alloc (.cells #[.int .i64 0, .slice none 0 0, .slice none 0 0, .int .i64 0, .slice none 0 0, .slice none 0 0] t)).setCell ⟨w.heap.size, 0, none⟩ a).setCell ⟨w.heap.size, 1, none⟩ b).setCell ⟨w.heap.size, 2, none⟩ c).setCell ⟨w.heap.size, 3, none⟩ d).setCell ⟨w.heap.size, 4, none⟩ e).setCell ⟨w.heap.size, 5, none⟩ f
theorem put6_at (t : TypeId) (w : World) (a b c d e f : Value) : BoxAt (put6 t w a b c d e f) w.heap.size t a b c d e f ∧ Below w.heap.size w (put6 t w a b c d e f) ∧ (put6 t w a b c d e f).heap.size = w.heap.size + 1 := by
  refine ⟨?_, ?_, by simp [put6, World.setCell]⟩
  · have h := six_new w (.int .i64 0) (.slice none 0 0) (.slice none 0 0) (.int .i64 0) (.slice none 0 0) (.slice none 0 0) t
    have h6 : (put6 t w a b c d e f).rowIs w.heap.size t 6 _ := World.rowIs.set (World.rowIs.set (World.rowIs.set (World.rowIs.set (World.rowIs.set (World.rowIs.set h 0 a) 1 b) 2 c) 3 d) 4 e) 5 f
    unfold BoxAt
    refine h6.congr ?_
    intro i hi
    match i, hi with
    | 0, _ => rfl
    | 1, _ => rfl
    | 2, _ => rfl
    | 3, _ => rfl
    | 4, _ => rfl
    | 5, _ => rfl
  · unfold put6
    exact (((((((Below.refl w.heap.size w).alloc (Nat.le_refl _) _).setCell (p := ⟨w.heap.size, 0, none⟩) (Nat.le_refl _) a).setCell (p := ⟨w.heap.size, 1, none⟩) (Nat.le_refl _) b).setCell (p := ⟨w.heap.size, 2, none⟩) (Nat.le_refl _) c).setCell (p := ⟨w.heap.size, 3, none⟩) (Nat.le_refl _) d).setCell (p := ⟨w.heap.size, 4, none⟩) (Nat.le_refl _) e).setCell (p := ⟨w.heap.size, 5, none⟩) (Nat.le_refl _) f
end Go.Proofs.Ytlpgldejmdiceaa.lawb
end

section
namespace Go.Proofs.Ytlpgldejmdiceaa.rs
open kit bg strs only hb sig inn ht marks eqs hi
open Go.RowKit
set_option linter.unusedVariables false

/-- a slice with these values, nil or in the blocks from lo to hi -/
def Res (w : World) (lo hi : Nat) (t : TypeId) (v : Value) (ys : List Value) : Prop :=
  ∃ A c, v = .slice A ys.length c ∧ SR w hi A ys.length ys ∧ ((A = none ∧ c = 0 ∧ ys = []) ∨ ∃ g f, A = some ⟨g, 0, none⟩ ∧ lo ≤ g ∧ g < hi ∧ ys.length ≤ c ∧ w.rowIs g t c f)
/-- the same, all of it marked -/
def Mkd (w : World) (lo hi : Nat) (t : TypeId) (v : Value) (n : Nat) (M : Nat → Value) : Prop :=
  ∃ A c, v = .slice A n c ∧ ((A = none ∧ c = 0 ∧ n = 0) ∨ ∃ g f, A = some ⟨g, 0, none⟩ ∧ lo ≤ g ∧ g < hi ∧ n ≤ c ∧ w.rowIs g t c f ∧ ∀ x, x < n → f x = M x)
section
variable {w w' : World} {lo hi lo' hi' n : Nat} {t : TypeId} {v : Value} {ys : List Value} {M : Nat → Value}
theorem Res.of_owns (h : Owns w lo t v ys) : Res w lo w.heap.size t v ys := by
  obtain ⟨g, cap, f, rfl, hb, hc, hr, hf⟩ := h.row
  exact ⟨_, _, rfl, SR.of_row2 hr hc hr.lt (fun k u hu => ⟨(List.getElem?_eq_some_iff.1 hu).1, hf k u hu⟩) rfl, .inr ⟨g, f, rfl, hb, hr.lt, hc, hr⟩⟩
theorem Res.nil : Res w lo hi t (.slice none 0 0) [] := ⟨none, 0, rfl, SR.nil_, .inl ⟨rfl, rfl, rfl⟩⟩
theorem Res.empty {B : Nat} (hB : B ≤ w.heap.size) : Res (w.alloc (.cells #[] t)) B (w.alloc (.cells #[] t)).heap.size t (.slice (some ⟨w.heap.size, 0, none⟩) 0 0) [] :=
  ⟨_, 0, rfl, SR.nil_, .inr ⟨_, _, rfl, hB, by simp, Nat.le_refl _, row_new w #[] t 0 rfl⟩⟩
theorem Res.wide (h : Res w lo hi t v ys) (a1 : lo' ≤ lo) (a2 : hi ≤ hi') : Res w lo' hi' t v ys := by
  obtain ⟨A, c, rfl, hs, hr⟩ := h
  refine ⟨A, c, rfl, hs.wide a2, hr.imp id ?_⟩
  rintro ⟨g, f, e, h1, h2, h3, h4⟩
  exact ⟨g, f, e, by omega, by omega, h3, h4⟩
theorem Res.below {B : Nat} (h : Res w lo hi t v ys) (hb : Below B w w') (hB : hi ≤ B) : Res w' lo hi t v ys := by
  obtain ⟨A, c, rfl, hs, hr⟩ := h
  refine ⟨A, c, rfl, hs.below (hb.mono hB), hr.imp id ?_⟩
  rintro ⟨g, f, e, h1, h2, h3, h4⟩
  exact ⟨g, f, e, h1, h2, h3, h4.of_block (hb.block g (by omega))⟩
/-- a change of other blocks leaves it -/
theorem Res.apart {l r : Nat} (h : Res w lo hi t v ys) (ho : Only l r w w') (hr : r ≤ lo) : Res w' lo hi t v ys := by
  obtain ⟨A, c, rfl, hs, hq⟩ := h
  refine ⟨A, c, rfl, ⟨hs.1, fun hp => ?_⟩, hq.imp id ?_⟩
  · obtain ⟨b, off, e, hb, hc⟩ := hs.2 hp
    rcases hq with ⟨e2, -, e3⟩ | ⟨g, f, e2, h1, h2, h3, h4⟩
    · rw [e3] at hp; exact absurd hp (by simp)
    · rw [e2] at e
      injection e with e
      injection e with e5 e6 _
      subst e5
      refine ⟨g, off, by rw [e2, e6], hb, fun k u hu => ?_⟩
      exact (World.cell?_of_block (w := w) (ho.block g h4.lt (.inr (by omega)))).trans (hc k u hu)
  · rintro ⟨g, f, e, h1, h2, h3, h4⟩
    exact ⟨g, f, e, h1, h2, h3, h4.of_block (ho.block g h4.lt (.inr (by omega)))⟩
theorem Mkd.below {B : Nat} (h : Mkd w lo hi t v n M) (hb : Below B w w') (hB : hi ≤ B) : Mkd w' lo hi t v n M := by
  obtain ⟨A, c, rfl, hr⟩ := h
  refine ⟨A, c, rfl, hr.imp id ?_⟩
  rintro ⟨g, f, e, h1, h2, h3, h4, h5⟩
  exact ⟨g, f, e, h1, h2, h3, h4.of_block (hb.block g (by omega)), h5⟩
theorem Mkd.apart {l r : Nat} (h : Mkd w lo hi t v n M) (ho : Only l r w w') (hr : r ≤ lo ∨ hi ≤ l) : Mkd w' lo hi t v n M := by
  obtain ⟨A, c, rfl, hq⟩ := h
  refine ⟨A, c, rfl, hq.imp id ?_⟩
  rintro ⟨g, f, e, h1, h2, h3, h4, h5⟩
  exact ⟨g, f, e, h1, h2, h3, h4.of_block (ho.block g h4.lt (by omega)), h5⟩
end

theorem markS_nil (k : Int) (w : World) (h0 : 0 < k) (h1 : k ≤ 8000000) : Calls Try.prog 115 #[.slice none 0 0, .int .i64 k] w fun e w' => e = .returned (.int .i64 k) ∧ w = w' := by
  go_enter Try.func115, Try.ntmps115
  go_wp2_with fail
  go_loopw [1, 5] (fun q i wr => i = .int .i64 0 ∧ q = .int .i64 k ∧ w = wr) (fun _ i _ => 0)
  case atStart => exact ⟨rfl, rfl, rfl⟩
  case round =>
    obtain ⟨rfl, rfl, rfl⟩ := hrel
    go_wp2_with fail
    go_ret
    exact ⟨rfl, rfl⟩
theorem markI_nil (k : Int) (w : World) (h0 : 0 < k) (h1 : k ≤ 8000000) : Calls Try.prog 28 #[.slice none 0 0, .int .i64 k] w fun e w' => e = .returned (.int .i64 k) ∧ w = w' := by
  go_enter Try.func28, Try.ntmps28
  go_wp2_with fail
  go_loopw [1, 5] (fun q i wr => i = .int .i64 0 ∧ q = .int .i64 k ∧ w = wr) (fun _ i _ => 0)
  case atStart => exact ⟨rfl, rfl, rfl⟩
  case round =>
    obtain ⟨rfl, rfl, rfl⟩ := hrel
    go_wp2_with fail
    go_ret
    exact ⟨rfl, rfl⟩
theorem heldI_nil (k : Int) (w : World) (h0 : 0 < k) (h1 : k ≤ 8000000) : Calls Try.prog 33 #[.slice none 0 0, .int .i64 k] w fun e w' => e = .returned (.int .i64 k) ∧ w = w' := by
  go_enter Try.func33, Try.ntmps33
  go_wp2_with fail
  go_loopw [1, 5] (fun q i wr => i = .int .i64 0 ∧ q = .int .i64 k ∧ w = wr) (fun _ i _ => 0)
  case atStart => exact ⟨rfl, rfl, rfl⟩
  case round =>
    obtain ⟨rfl, rfl, rfl⟩ := hrel
    go_wp2_with fail
    go_ret
    exact ⟨rfl, rfl⟩

theorem eqRS_any (v v' : Value) (ss : List ByteArray) (w : World) (lo hi lo' hi' : Nat) (h : Res w lo hi 9 v (ss.map Value.string)) (h' : Res w lo' hi' 9 v' (ss.map Value.string)) (hn : ss.length ≤ 1048576) :
    Calls Try.prog 136 #[v, v'] w fun e w' => e = .returned (.bool true) ∧ Below w.heap.size w w' := by
  obtain ⟨A, c, rfl, h1, -⟩ := h
  obtain ⟨A', c', rfl, h2, -⟩ := h'
  exact (eq_any A A' _ c c' ss w _ _ h1 h2 (by simpa using hn)).mono fun _ _ ⟨a, d⟩ => ⟨a, d.below _⟩
theorem eqRI_any (v v' : Value) (zs : List Int) (w : World) (lo hi lo' hi' : Nat) (h : Res w lo hi 3 v (zs.map (Value.int .i64))) (h' : Res w lo' hi' 3 v' (zs.map (Value.int .i64))) (hn : zs.length ≤ 1048576) :
    Calls Try.prog 26 #[v, v'] w fun e w' => e = .returned (.bool true) ∧ Below w.heap.size w w' := by
  obtain ⟨A, c, rfl, h1, -⟩ := h
  obtain ⟨A', c', rfl, h2, -⟩ := h'
  exact (eqIS_any A A' _ c c' zs w _ _ h1 h2 (by unfold maxLen; simp; omega)).mono fun _ _ ⟨a, d⟩ => ⟨a, d.below _⟩

theorem markRS_any (v : Value) (ys : List Value) (k : Int) (w : World) (lo hi : Nat) (h : Res w lo hi 9 v ys) (h0 : 0 < k) (h1 : k ≤ 2000000) (hn : ys.length ≤ 1048576) :
    Calls Try.prog 115 #[v, .int .i64 k] w fun e w' => e = .returned (.int .i64 (k + ys.length)) ∧ Mkd w' lo hi 9 v ys.length (mks k) ∧ Only lo hi w w' := by
  obtain ⟨A, c, rfl, -, ⟨rfl, rfl, rfl⟩ | ⟨g, f, rfl, a1, a2, hc, hr⟩⟩ := h
  · refine (markS_nil k w h0 (by omega)).mono ?_
    rintro e w1 ⟨rfl, rfl⟩
    exact ⟨by simp, ⟨none, 0, rfl, .inl ⟨rfl, rfl, rfl⟩⟩, Only.refl _ _ _⟩
  · refine (markS_any g ys.length c f k w hr hc h0 (by omega) (by omega)).mono ?_
    rintro e w1 ⟨rfl, hr1, hg⟩
    exact ⟨rfl, ⟨_, c, rfl, .inr ⟨g, _, rfl, a1, a2, hc, hr1, fun x hx => if_pos hx⟩⟩, Only.of_grown hg hr hr1 a1 a2⟩
theorem markRI_any (v : Value) (ys : List Value) (k : Int) (w : World) (lo hi : Nat) (h : Res w lo hi 3 v ys) (h0 : 0 < k) (h1 : k ≤ 2000000) (hn : ys.length ≤ 1048576) :
    Calls Try.prog 28 #[v, .int .i64 k] w fun e w' => e = .returned (.int .i64 (k + ys.length)) ∧ Mkd w' lo hi 3 v ys.length (mki k) ∧ Only lo hi w w' := by
  obtain ⟨A, c, rfl, -, ⟨rfl, rfl, rfl⟩ | ⟨g, f, rfl, a1, a2, hc, hr⟩⟩ := h
  · refine (markI_nil k w h0 (by omega)).mono ?_
    rintro e w1 ⟨rfl, rfl⟩
    exact ⟨by simp, ⟨none, 0, rfl, .inl ⟨rfl, rfl, rfl⟩⟩, Only.refl _ _ _⟩
  · refine (markI_any g ys.length c f k w hr hc h0 (by omega) (by omega)).mono ?_
    rintro e w1 ⟨rfl, hr1, hg⟩
    exact ⟨rfl, ⟨_, c, rfl, .inr ⟨g, _, rfl, a1, a2, hc, hr1, fun x hx => if_pos hx⟩⟩, Only.of_grown hg hr hr1 a1 a2⟩
theorem heldRI_any (v : Value) (n : Nat) (k : Int) (w : World) (lo hi : Nat) (h : Mkd w lo hi 3 v n (mki k)) (h0 : 0 < k) (h1 : k ≤ 2000000) (hn : n ≤ 1048576) :
    Calls Try.prog 33 #[v, .int .i64 k] w fun e w' => e = .returned (.int .i64 (k + n)) ∧ Below w.heap.size w w' := by
  obtain ⟨A, c, rfl, ⟨rfl, rfl, rfl⟩ | ⟨g, f, rfl, a1, a2, hc, hr, hf⟩⟩ := h
  · refine (heldI_nil k w h0 (by omega)).mono ?_
    rintro e w1 ⟨rfl, rfl⟩
    exact ⟨by simp, Below.refl _ _⟩
  · exact heldI_any g n c k w f hr hf hc h0 (by omega) (by omega)

/-- what a function tells that gives back a slice and whether there is an answer -/
def ResPost (t : TypeId) (q : Bool) (ys : List Value) (w : World) (e : Ending) (w' : World) : Prop :=
  ∃ v, e = .returned (.tuple #[v, .bool q]) ∧ Res w' w.heap.size w'.heap.size t v ys ∧ Below w.heap.size w w'
end Go.Proofs.Ytlpgldejmdiceaa.rs
end

section
namespace Go.Proofs.Ytlpgldejmdiceaa.rs
open kit bg strs only hb sig inn ht marks eqs hi
open Go.RowKit
set_option linter.unusedVariables false

section
variable {w w' : World} {lo hi n g : Nat} {t : TypeId} {v : Value} {ys : List Value} {M : Nat → Value}
theorem Res.stay (h : Res w lo hi t v ys) (hb : ∀ b f c, w.rowIs b t c f → lo ≤ b → b < hi → w'.heap[b]? = w.heap[b]?) : Res w' lo hi t v ys := by
  obtain ⟨A, c, rfl, hs, hq⟩ := h
  refine ⟨A, c, rfl, ⟨hs.1, fun hp => ?_⟩, hq.imp id ?_⟩
  · obtain ⟨b, off, e, hbb, hc⟩ := hs.2 hp
    rcases hq with ⟨e2, -, e3⟩ | ⟨g, f, e2, h1, h2, h3, h4⟩
    · rw [e3] at hp; exact absurd hp (by simp)
    · rw [e2] at e
      injection e with e
      injection e with e5 e6 _
      subst e5
      refine ⟨g, off, by rw [e2, e6], hbb, fun k u hu => ?_⟩
      exact (World.cell?_of_block (w := w) (hb g f c h4 h1 h2)).trans (hc k u hu)
  · rintro ⟨g, f, e, h1, h2, h3, h4⟩
    exact ⟨g, f, e, h1, h2, h3, h4.of_block (hb g f c h4 h1 h2)⟩
theorem Res.on (h : Res w lo hi t v ys) (hb : Below w.heap.size w w') : Res w' lo hi t v ys := h.stay fun b f c hr _ _ => hb.block b hr.lt
theorem Res.far {l r : Nat} (h : Res w lo hi t v ys) (ho : Only l r w w') (hr : r ≤ lo ∨ hi ≤ l) : Res w' lo hi t v ys := h.stay fun b f c hb h1 h2 => ho.block b hb.lt (by omega)
theorem Mkd.on (h : Mkd w lo hi t v n M) (hb : Below w.heap.size w w') : Mkd w' lo hi t v n M := by
  obtain ⟨A, c, rfl, hr⟩ := h
  refine ⟨A, c, rfl, hr.imp id ?_⟩
  rintro ⟨g, f, e, h1, h2, h3, h4, h5⟩
  exact ⟨g, f, e, h1, h2, h3, h4.of_block (hb.block g h4.lt), h5⟩
theorem Res.one (h : Owns w lo t v ys) : ∃ g, lo ≤ g ∧ v.ownBlock = some g ∧ g < w.heap.size ∧ Res w g (g + 1) t v ys := by
  obtain ⟨g, cap, f, rfl, hb, hc, hr, hf⟩ := h.row
  exact ⟨g, hb, rfl, hr.lt, _, _, rfl, SR.of_row2 hr hc (Nat.lt_succ_self _) (fun k u hu => ⟨(List.getElem?_eq_some_iff.1 hu).1, hf k u hu⟩) rfl, .inr ⟨g, f, rfl, Nat.le_refl _, Nat.lt_succ_self _, hc, hr⟩⟩
theorem Res.one_empty (w : World) (t : TypeId) : Res (w.alloc (.cells #[] t)) w.heap.size (w.heap.size + 1) t (.slice (some ⟨w.heap.size, 0, none⟩) 0 0) [] :=
  ⟨_, 0, rfl, SR.nil_, .inr ⟨_, _, rfl, Nat.le_refl _, Nat.lt_succ_self _, Nat.le_refl _, row_new w #[] t 0 rfl⟩⟩
end
end Go.Proofs.Ytlpgldejmdiceaa.rs
namespace Go.Proofs.Ytlpgldejmdiceaa.rt
open Go.RowKit
open kit bg strs only hb sig inn ht marks eqs hi rs
/-- two slices in two rows from block lo on -/
def Two (w : World) (lo : Nat) (t t' : TypeId) (v v' : Value) (ys ys' : List Value) : Prop :=
  ∃ g g', g ≠ g' ∧ lo ≤ g ∧ lo ≤ g' ∧ Res w g (g + 1) t v ys ∧ Res w g' (g' + 1) t' v' ys'
theorem Two.nil {w : World} {lo : Nat} {t t' : TypeId} : Two w lo t t' (.slice none 0 0) (.slice none 0 0) [] [] := ⟨lo, lo + 1, by omega, Nat.le_refl _, Nat.le_succ _, Res.nil, Res.nil⟩
theorem Two.low {w : World} {lo lo' : Nat} {t t' : TypeId} {v v' : Value} {ys ys' : List Value} (h : Two w lo t t' v v' ys ys') (hl : lo' ≤ lo) : Two w lo' t t' v v' ys ys' := by
  obtain ⟨g, g', a, b, c, d⟩ := h
  exact ⟨g, g', a, by omega, by omega, d⟩
def Res2Post (t t' : TypeId) (q : Bool) (ys ys' : List Value) (w : World) (e : Ending) (w' : World) : Prop :=
  ∃ v v', e = .returned (.tuple #[v, v', .bool q]) ∧ Two w' w.heap.size t t' v v' ys ys' ∧ Below w.heap.size w w'
end Go.Proofs.Ytlpgldejmdiceaa.rt
end

section
namespace Go.Proofs.Ytlpgldejmdiceaa.br
open kit bg opn strs only hb sig inn ht marks eqs hc hi hw hn rs
open Go.RowKit
set_option linter.unusedVariables false

/-- a change of some blocks alone -/
structure Chg (S : Nat → Prop) (w w' : World) : Prop where
  os : w'.os = w.os
  tape : w'.tape = w.tape
  output : w'.output = w.output
  size : w.heap.size ≤ w'.heap.size
  block : ∀ k, k < w.heap.size → ¬ S k → w'.heap[k]? = w.heap[k]?
  rows : ∀ b t n, (∃ f, w.rowIs b t n f) → ∃ f, w'.rowIs b t n f
section
variable {S S' : Nat → Prop} {w w' : World} {lo hi : Nat}
theorem Chg.refl (S : Nat → Prop) (w : World) : Chg S w w := ⟨rfl, rfl, rfl, Nat.le_refl _, fun _ _ _ => rfl, fun _ _ _ h => h⟩
theorem Chg.trans {a b c : World} (h : Chg S a b) (k : Chg S b c) : Chg S a c :=
  ⟨k.os.trans h.os, k.tape.trans h.tape, k.output.trans h.output, Nat.le_trans h.size k.size, fun i hi h' => (k.block i (Nat.lt_of_lt_of_le hi h.size) h').trans (h.block i hi h'), fun b t n hr => k.rows b t n (h.rows b t n hr)⟩
theorem Chg.more (h : Chg S w w') (hs : ∀ k, S k → S' k) : Chg S' w w' := ⟨h.os, h.tape, h.output, h.size, fun k hk hn => h.block k hk (fun hS => hn (hs k hS)), h.rows⟩
theorem Chg.of_below (h : Below w.heap.size w w') : Chg S w w' := ⟨h.os, h.tape, h.output, h.size, fun k hk _ => h.block k hk, fun b t n ⟨f, hf⟩ => ⟨f, hf.of_block (h.block b hf.lt)⟩⟩
theorem Chg.set (w : World) {g : Nat} (hS : S g) (o : Nat) (u : Value) : Chg S w (w.setCell ⟨g, o, none⟩ u) :=
  ⟨rfl, rfl, rfl, by simp [World.setCell], fun k _ hk => Below.heap_setCell _ _ _ _ (by show k ≠ g; intro e; subst e; exact hk hS), fun b t n ⟨f, hf⟩ => by
    by_cases e : b = g
    · subst e; exact ⟨_, hf.set o u⟩
    · exact ⟨f, hf.setOther (a := ⟨g, o, none⟩) e u⟩⟩
theorem Chg.of_grown {g : Nat} {t : TypeId} {n : Nat} {f f' : Nat → Value} (hg : w.grownBy w' (some g)) (hr : w.rowIs g t n f) (hr' : w'.rowIs g t n f') (hS : S g) : Chg S w w' :=
  ⟨hg.os, hg.tape, hg.output, hg.size, fun k hk h' => hg.block k hk (fun e => by injection e with e; subst e; exact h' hS), fun b t2 n2 ⟨f2, hf2⟩ => by
    by_cases e : b = g
    · subst e
      obtain ⟨rfl, rfl⟩ := rowIs_uniq hr hf2
      exact ⟨f', hr'⟩
    · exact ⟨f2, hf2.of_block (hg.block b hf2.lt (fun e2 => e (by injection e2)))⟩⟩
theorem Chg.only (h : Chg S w w') (hS : ∀ k, k < w.heap.size → S k → lo ≤ k ∧ k < hi) : Only lo hi w w' :=
  ⟨h.os, h.tape, h.output, h.size, fun k hk h' => h.block k hk (fun hs => by have := hS k hk hs; omega), h.rows⟩
end

/-- a slice of elements of sz cells, nil or in a row of the blocks from lo to hi, with this content -/
def RowR (w : World) (lo hi : Nat) (t : TypeId) (sz : Nat) (A : Option Addr) (n c : Nat) (M : Nat → Value) : Prop :=
  (A = none ∧ c = 0 ∧ n = 0) ∨ ∃ g f, A = some ⟨g, 0, none⟩ ∧ lo ≤ g ∧ g < hi ∧ n ≤ c ∧ w.rowIs g t (c * sz) f ∧ ∀ x, x < n * sz → f x = M x
/-- the block of a slice -/
def blk (A : Option Addr) (g : Nat) : Prop := A = some ⟨g, 0, none⟩
section
variable {w w' : World} {lo hi lo' hi' n c sz : Nat} {t : TypeId} {A : Option Addr} {M M' : Nat → Value}
theorem RowR.nil : RowR w lo hi t sz none 0 0 M := .inl ⟨rfl, rfl, rfl⟩
theorem RowR.mk {g : Nat} {f : Nat → Value} (h1 : lo ≤ g) (h2 : g < hi) (h3 : n ≤ c) (h4 : w.rowIs g t (c * sz) f) (h5 : ∀ x, x < n * sz → f x = M x) : RowR w lo hi t sz (some ⟨g, 0, none⟩) n c M := .inr ⟨g, f, rfl, h1, h2, h3, h4, h5⟩
theorem RowR.stay (h : RowR w lo hi t sz A n c M) (hb : ∀ g f m, blk A g → w.rowIs g t m f → lo ≤ g → g < hi → w'.heap[g]? = w.heap[g]?) : RowR w' lo hi t sz A n c M :=
  h.imp id fun ⟨g, f, e, h1, h2, h3, h4, h5⟩ => ⟨g, f, e, h1, h2, h3, h4.of_block (hb g f _ e h4 h1 h2), h5⟩
theorem RowR.on (h : RowR w lo hi t sz A n c M) (hb : Below w.heap.size w w') : RowR w' lo hi t sz A n c M := h.stay fun g f m _ hr _ _ => hb.block g hr.lt
theorem RowR.far {l r : Nat} (h : RowR w lo hi t sz A n c M) (ho : Only l r w w') (hr : r ≤ lo ∨ hi ≤ l) : RowR w' lo hi t sz A n c M := h.stay fun g f m _ hb h1 h2 => ho.block g hb.lt (by omega)
theorem RowR.chg {S : Nat → Prop} (h : RowR w lo hi t sz A n c M) (ho : Chg S w w') (hS : ∀ g, blk A g → (∃ f m, w.rowIs g t m f) → ¬ S g) : RowR w' lo hi t sz A n c M := h.stay fun g f m e hb _ _ => ho.block g hb.lt (hS g e ⟨f, m, hb⟩)
theorem RowR.wide (h : RowR w lo hi t sz A n c M) (h1 : lo' ≤ lo) (h2 : hi ≤ hi') : RowR w lo' hi' t sz A n c M :=
  h.imp id fun ⟨g, f, e, a1, a2, h3, h4, h5⟩ => ⟨g, f, e, by omega, by omega, h3, h4, h5⟩
theorem RowR.congr (h : RowR w lo hi t sz A n c M) (e : ∀ x, x < n * sz → M x = M' x) : RowR w lo hi t sz A n c M' :=
  h.imp id fun ⟨g, f, e1, a1, a2, h3, h4, h5⟩ => ⟨g, f, e1, a1, a2, h3, h4, fun x hx => (h5 x hx).trans (e x hx)⟩
theorem RowR.in_ (h : RowR w lo hi t sz A n c M) {g : Nat} (e : blk A g) : lo ≤ g ∧ g < hi := by
  rcases h with ⟨e2, _⟩ | ⟨g2, f, e2, h1, h2, _⟩
  · rw [blk, e2] at e; cases e
  · rw [blk, e2] at e
    injection e with e
    injection e with e
    omega
end

theorem intsR_at {w : World} {lo hi : Nat} {A : Option Addr} {c : Nat} {zs : List Int} (h : RowR w lo hi 3 1 A zs.length c (iat zs)) : IntsAt w hi A zs.length zs := by
  rcases h with ⟨rfl, rfl, h0⟩ | ⟨g, f, rfl, h1, h2, h3, h4, h5⟩
  · exact ⟨by simp, fun h => by omega⟩
  · exact ints_row h4 (by omega) h2 rfl (fun k hk => h5 k (by omega))
theorem strsR_at {w : World} {lo hi : Nat} {A : Option Addr} {c : Nat} {ss : List ByteArray} (h : RowR w lo hi 9 1 A ss.length c (at_ ss)) : SR w hi A ss.length (ss.map Value.string) := by
  rcases h with ⟨rfl, rfl, h0⟩ | ⟨g, f, rfl, h1, h2, h3, h4, h5⟩
  · exact ⟨by simp, fun h => by omega⟩
  · refine SR.of_row2 h4 (by omega) h2 (fun k u hu => ?_) (by simp)
    rw [List.getElem?_map] at hu
    obtain ⟨s, hs, rfl⟩ := Option.map_eq_some_iff.1 hu
    have hk := (List.getElem?_eq_some_iff.1 hs).1
    exact ⟨hk, (h5 k (by omega)).trans (at_of hs)⟩
/-- the cells of Wires -/
def wic (ws : List Wr) (x : Nat) : Value := match ws[x / 2]? with
  | some y => if x % 2 = 0 then .string y.name else .int .i64 y.link
  | none => undef
theorem wic_at {ws : List Wr} {k : Nat} {y : Wr} (h : ws[k]? = some y) : wic ws (k * 2) = .string y.name ∧ wic ws (k * 2 + 1) = .int .i64 y.link := by
  unfold wic
  rw [show k * 2 / 2 = k by omega, show (k * 2 + 1) / 2 = k by omega, h]
  exact ⟨if_pos (by omega), if_neg (by omega)⟩
theorem wrsR_at {w : World} {lo hi : Nat} {A : Option Addr} {c : Nat} {ws : List Wr} (h : RowR w lo hi 147 2 A ws.length c (wic ws)) : WrsAt w hi A ws.length ws := by
  rcases h with ⟨rfl, rfl, h0⟩ | ⟨g, f, rfl, h1, h2, h3, h4, h5⟩
  · exact ⟨rfl, fun h => by omega⟩
  · refine ⟨rfl, fun _ => ⟨g, 0, rfl, h2, fun k y hk => ?_⟩⟩
    have hkl := (List.getElem?_eq_some_iff.1 hk).1
    obtain ⟨e0, e1⟩ := wic_at hk
    rw [Nat.zero_add]
    exact ⟨by rw [h4.cell (by omega), h5 _ (by omega), e0], by rw [h4.cell (by omega), h5 _ (by omega), e1]⟩

/-- where a Bigraph lies -/
structure Plan where
  A1 : Option Addr
  c1 : Nat
  A2 : Option Addr
  c2 : Nat
  A4 : Option Addr
  c4 : Nat
  A5 : Option Addr
  c5 : Nat
  LA : Nat → Option Addr
  LC : Nat → Nat
/-- the links of each node lie apart from the sites and from the other nodes' links -/
def Plan.Apart (P : Plan) (n : Nat) : Prop := ∀ k, k < n → P.LA k ≠ none → P.LA k ≠ P.A2 ∧ ∀ j, j < n → j ≠ k → P.LA j ≠ P.LA k
/-- the cells of nodes -/
def ndc (P : Plan) (ln : Nat → Nat) (mc mp : Nat → Value) (x : Nat) : Value := if x % 3 = 0 then mc (x / 3) else if x % 3 = 1 then mp (x / 3) else .slice (P.LA (x / 3)) (ln (x / 3)) (P.LC (x / 3))
theorem ndc_at (P : Plan) (ln : Nat → Nat) (mc mp : Nat → Value) (k : Nat) : ndc P ln mc mp (k * 3) = mc k ∧ ndc P ln mc mp (k * 3 + 1) = mp k ∧ ndc P ln mc mp (k * 3 + 2) = .slice (P.LA k) (ln k) (P.LC k) := by
  unfold ndc
  rw [show k * 3 / 3 = k by omega, show (k * 3 + 1) / 3 = k by omega, show (k * 3 + 2) / 3 = k by omega]
  exact ⟨if_pos (by omega), by rw [if_neg (by omega), if_pos (by omega)], by rw [if_neg (by omega), if_neg (by omega)]⟩
theorem ndc_of {f : Nat → Value} {P : Plan} {ln : Nat → Nat} {mc mp : Nat → Value} {n : Nat} (h : ∀ k, k < n → f (k * 3) = mc k ∧ f (k * 3 + 1) = mp k ∧ f (k * 3 + 2) = .slice (P.LA k) (ln k) (P.LC k)) : ∀ x, x < n * 3 → f x = ndc P ln mc mp x := by
  intro x hx
  obtain ⟨h0, h1, h2⟩ := h (x / 3) (by omega)
  obtain ⟨g0, g1, g2⟩ := ndc_at P ln mc mp (x / 3)
  have hm : x % 3 = 0 ∨ x % 3 = 1 ∨ x % 3 = 2 := by omega
  rcases hm with e | e | e
  · rw [show x / 3 * 3 = x by omega] at h0 g0; exact h0.trans g0.symm
  · rw [show x / 3 * 3 + 1 = x by omega] at h1 g1; exact h1.trans g1.symm
  · rw [show x / 3 * 3 + 2 = x by omega] at h2 g2; exact h2.trans g2.symm
def Nodes (w : World) (lo hi : Nat) (P : Plan) (n : Nat) (ln : Nat → Nat) (mc mp : Nat → Value) (ml : Nat → Nat → Value) : Prop :=
  RowR w lo hi 144 3 P.A1 n P.c1 (ndc P ln mc mp) ∧ ∀ k, k < n → RowR w lo hi 3 1 (P.LA k) (ln k) (P.LC k) (ml k)
/-- the blocks of the nodes -/
def Plan.S1 (P : Plan) (n : Nat) (g : Nat) : Prop := blk P.A1 g ∨ ∃ j, j < n ∧ blk (P.LA j) g
def linksOf (ns : List Nd) (k : Nat) : List Int := match ns[k]? with
  | some x => x.links
  | none => []
theorem linksOf_at {ns : List Nd} {k : Nat} {x : Nd} (h : ns[k]? = some x) : linksOf ns k = x.links := by unfold linksOf; rw [h]
def ctOf (ns : List Nd) (k : Nat) : Value := match ns[k]? with
  | some x => .int .i64 x.control
  | none => undef
def paOf (ns : List Nd) (k : Nat) : Value := match ns[k]? with
  | some x => .int .i64 x.parent
  | none => undef
theorem ctOf_at {ns : List Nd} {k : Nat} {x : Nd} (h : ns[k]? = some x) : ctOf ns k = .int .i64 x.control ∧ paOf ns k = .int .i64 x.parent := by unfold ctOf paOf; rw [h]; exact ⟨rfl, rfl⟩
def lnOf (ns : List Nd) (k : Nat) : Nat := (linksOf ns k).length
theorem nodes_at {w : World} {lo hi : Nat} {P : Plan} {ns : List Nd} (h : Nodes w lo hi P ns.length (lnOf ns) (ctOf ns) (paOf ns) (fun k => iat (linksOf ns k))) : NdsAt w hi P.A1 ns.length ns := by
  obtain ⟨h0, hl⟩ := h
  rcases h0 with ⟨e, e2, h0⟩ | ⟨g, f, e, h1, h2, h3, h4, h5⟩
  · exact ⟨rfl, fun h => by omega⟩
  · refine ⟨rfl, fun _ => ⟨g, 0, e, h2, fun k x hk => ?_⟩⟩
    have hkl := (List.getElem?_eq_some_iff.1 hk).1
    obtain ⟨e0, e1, e2⟩ := ndc_at P (lnOf ns) (ctOf ns) (paOf ns) k
    obtain ⟨q0, q1⟩ := ctOf_at hk
    have hln : lnOf ns k = x.links.length := by unfold lnOf; rw [linksOf_at hk]
    have hlk : RowR w lo hi 3 1 (P.LA k) x.links.length (P.LC k) (iat x.links) := by
      have := hl k hkl
      simp only [hln, linksOf_at hk] at this
      exact this
    rw [hln] at e2
    rw [Nat.zero_add]
    exact ⟨by rw [h4.cell (by omega), h5 _ (by omega), e0, q0], by rw [h4.cell (by omega), h5 _ (by omega), e1, q1], _, _, _, by rw [h4.cell (by omega), h5 _ (by omega), e2], intsR_at hlk⟩

/-- how many marks a Bigraph takes -/
def ndMk (ns : List Nd) : Nat := 2 * ns.length + sumBy (fun c : Nd => c.links.length) ns
def bigMk (b : Big) : Nat := ndMk b.nodes + b.sites.length + b.outer.length + 2 * b.inner.length
/-- a Bigraph in memory of the call's own, or nil in parts -/
def BigR (w : World) (lo hi : Nat) (v : Value) (b : Big) : Prop :=
  ∃ P : Plan, v = .agg #[.int .i64 b.roots, .slice P.A1 b.nodes.length P.c1, .slice P.A2 b.sites.length P.c2, .int .i64 b.edges, .slice P.A4 b.outer.length P.c4, .slice P.A5 b.inner.length P.c5] ∧ P.Apart b.nodes.length ∧
    Nodes w lo hi P b.nodes.length (lnOf b.nodes) (ctOf b.nodes) (paOf b.nodes) (fun k => iat (linksOf b.nodes k)) ∧ RowR w lo hi 3 1 P.A2 b.sites.length P.c2 (iat b.sites) ∧ RowR w lo hi 9 1 P.A4 b.outer.length P.c4 (at_ b.outer) ∧ RowR w lo hi 147 2 P.A5 b.inner.length P.c5 (wic b.inner)
/-- the marks of nodes and Wires, from k on -/
def ndT (ns : List Nd) (j : Nat) : Nat := 2 * j + sumBy (fun c : Nd => c.links.length) (ns.take j)
def mkc (k : Int) (ns : List Nd) (j : Nat) : Value := .int .i64 (k + ndT ns j)
def mkp (k : Int) (ns : List Nd) (j : Nat) : Value := .int .i64 (k + ndT ns j + 1)
def mkl (k : Int) (ns : List Nd) (j : Nat) : Nat → Value := mki (k + ndT ns j + 2)
def mkw (k : Int) (x : Nat) : Value := if x % 2 = 0 then .string (mt (k + x)) else .int .i64 (k + x)
theorem mkw_at (k : Int) (j : Nat) : mkw k (j * 2) = .string (mt (k + 2 * j)) ∧ mkw k (j * 2 + 1) = .int .i64 (k + 2 * j + 1) := by
  unfold mkw
  refine ⟨?_, ?_⟩
  · rw [if_pos (by omega)]; congr 2; omega
  · rw [if_neg (by omega)]; congr 1; omega
def BigM (w : World) (lo hi : Nat) (v : Value) (b : Big) (k : Int) : Prop :=
  ∃ P : Plan, v = .agg #[.int .i64 b.roots, .slice P.A1 b.nodes.length P.c1, .slice P.A2 b.sites.length P.c2, .int .i64 b.edges, .slice P.A4 b.outer.length P.c4, .slice P.A5 b.inner.length P.c5] ∧
    Nodes w lo hi P b.nodes.length (lnOf b.nodes) (mkc k b.nodes) (mkp k b.nodes) (mkl k b.nodes) ∧ RowR w lo hi 3 1 P.A2 b.sites.length P.c2 (mki (k + ndMk b.nodes)) ∧ RowR w lo hi 9 1 P.A4 b.outer.length P.c4 (mks (k + ndMk b.nodes + b.sites.length)) ∧ RowR w lo hi 147 2 P.A5 b.inner.length P.c5 (mkw (k + ndMk b.nodes + b.sites.length + b.outer.length))
section
variable {w w' : World} {lo hi lo' hi' n : Nat} {v : Value} {b : Big} {k : Int} {P : Plan} {ln : Nat → Nat} {mc mp : Nat → Value} {ml : Nat → Nat → Value}
theorem Nodes.stay (h : Nodes w lo hi P n ln mc mp ml) (hb : ∀ g f m t, w.rowIs g t m f → lo ≤ g → g < hi → w'.heap[g]? = w.heap[g]?) : Nodes w' lo hi P n ln mc mp ml :=
  ⟨h.1.stay fun g f m _ hr => hb g f m _ hr, fun k hk => (h.2 k hk).stay fun g f m _ hr => hb g f m _ hr⟩
theorem Nodes.wide (h : Nodes w lo hi P n ln mc mp ml) (h1 : lo' ≤ lo) (h2 : hi ≤ hi') : Nodes w lo' hi' P n ln mc mp ml := ⟨h.1.wide h1 h2, fun k hk => (h.2 k hk).wide h1 h2⟩
theorem BigR.at (h : BigR w lo hi v b) : BigAt w hi v b := by
  obtain ⟨P, rfl, -, h1, h2, h4, h5⟩ := h
  exact ⟨_, _, _, _, _, _, _, _, _, _, _, _, rfl, nodes_at h1, intsR_at h2, strsR_at h4, wrsR_at h5⟩
theorem BigR.stay (h : BigR w lo hi v b) (hb : ∀ g f m t, w.rowIs g t m f → lo ≤ g → g < hi → w'.heap[g]? = w.heap[g]?) : BigR w' lo hi v b := by
  obtain ⟨P, rfl, ha, h1, h2, h4, h5⟩ := h
  exact ⟨P, rfl, ha, h1.stay hb, h2.stay fun g f m _ hr => hb g f m _ hr, h4.stay fun g f m _ hr => hb g f m _ hr, h5.stay fun g f m _ hr => hb g f m _ hr⟩
theorem BigR.on (h : BigR w lo hi v b) (hb : Below w.heap.size w w') : BigR w' lo hi v b := h.stay fun g f m _ hr _ _ => hb.block g hr.lt
theorem BigR.far {l r : Nat} (h : BigR w lo hi v b) (ho : Only l r w w') (hr : r ≤ lo ∨ hi ≤ l) : BigR w' lo hi v b := h.stay fun g f m _ hb h1 h2 => ho.block g hb.lt (by omega)
theorem BigR.wide (h : BigR w lo hi v b) (a1 : lo' ≤ lo) (a2 : hi ≤ hi') : BigR w lo' hi' v b := by
  obtain ⟨P, rfl, ha, h1, h2, h4, h5⟩ := h
  exact ⟨P, rfl, ha, h1.wide a1 a2, h2.wide a1 a2, h4.wide a1 a2, h5.wide a1 a2⟩
theorem BigM.stay (h : BigM w lo hi v b k) (hb : ∀ g f m t, w.rowIs g t m f → lo ≤ g → g < hi → w'.heap[g]? = w.heap[g]?) : BigM w' lo hi v b k := by
  obtain ⟨P, rfl, h1, h2, h4, h5⟩ := h
  exact ⟨P, rfl, h1.stay hb, h2.stay fun g f m _ hr => hb g f m _ hr, h4.stay fun g f m _ hr => hb g f m _ hr, h5.stay fun g f m _ hr => hb g f m _ hr⟩
theorem BigM.on (h : BigM w lo hi v b k) (hb : Below w.heap.size w w') : BigM w' lo hi v b k := h.stay fun g f m _ hr _ _ => hb.block g hr.lt
theorem BigM.far {l r : Nat} (h : BigM w lo hi v b k) (ho : Only l r w w') (hr : r ≤ lo ∨ hi ≤ l) : BigM w' lo hi v b k := h.stay fun g f m _ hb h1 h2 => ho.block g hb.lt (by omega)
end
/-- what a function tells that gives back a Bigraph and whether there is an answer -/
def BigPost (q : Bool) (b : Big) (w : World) (e : Ending) (w' : World) : Prop :=
  ∃ v, e = .returned (.tuple #[v, .bool q]) ∧ BigR w' w.heap.size w'.heap.size v b ∧ Below w.heap.size w w'
/-- no Bigraph -/
def zeroBig : Big := ⟨0, [], [], 0, [], []⟩
def zeroPlan : Plan := ⟨none, 0, none, 0, none, 0, none, 0, fun _ => none, fun _ => 0⟩
theorem BigR.zero {w : World} {lo hi : Nat} : BigR w lo hi (.agg #[.int .i64 0, .slice none 0 0, .slice none 0 0, .int .i64 0, .slice none 0 0, .slice none 0 0]) zeroBig :=
  ⟨zeroPlan, rfl, fun k hk => absurd hk (Nat.not_lt_zero k), ⟨RowR.nil, fun k hk => absurd hk (Nat.not_lt_zero k)⟩, RowR.nil, RowR.nil, RowR.nil⟩
end Go.Proofs.Ytlpgldejmdiceaa.br
end
