/- Pts Ha Rp Anc Psp Chd Idl Idi Ptm Idm Bs Ln Lep in one. -/
import Derived.Test.YtlpgldejmdiceabGreatQc
import Derived.Maps.AppendAt
import Derived.StillTailTactics
import Derived.Test.YtlpgldejmdiceabGreatQd
import Derived.Deep.RegionHeld3
import Derived.Test.YtlpgldejmdiceabGreatQa
import Derived.RangeFuncBox
import Derived.RangeFuncLeaves
import Derived.Shelf.Abstract
import Derived.OwnWalkIn
import Derived.TacticsInMore
import Derived.LoopNIn
import Derived.LoopIn
import Derived.RangeFuncWrites
import Derived.RangeFuncNested
import Derived.Lib.Walk
import Derived.Deep.LoopGhost
import Derived.Deep.Draws
import Derived.Test.YtlpgldejmdiceabGreatQe
set_option linter.unusedSimpArgs false
section
namespace Go.Proofs.YtlpgldejmdiceabGreat.pts
open kit bg opn strs only hb sg sig isig un gd inn ht hi cf pt ib rs
open Go.RowKit
set_option linter.unusedVariables false

/-- the names of the first inner names that have a link -/
def ends (ws : List Wr) (z : Int) : Nat → List ByteArray
  | 0 => []
  | k + 1 => match ws[k]? with
    | some x => if x.link = z then ends ws z k ++ [x.name] else ends ws z k
    | none => ends ws z k
theorem ends_yes {ws : List Wr} {z : Int} {k : Nat} {x : Wr} (h : ws[k]? = some x) (hz : x.link = z) : ends ws z (k + 1) = ends ws z k ++ [x.name] := by
  rw [ends, h]
  show (if x.link = z then _ else _) = _
  rw [if_pos hz]
theorem ends_no {ws : List Wr} {z : Int} {k : Nat} {x : Wr} (h : ws[k]? = some x) (hz : ¬ x.link = z) : ends ws z (k + 1) = ends ws z k := by
  rw [ends, h]
  show (if x.link = z then _ else _) = _
  rw [if_neg hz]
theorem ends_len (ws : List Wr) (z : Int) : ∀ k, (ends ws z k).length ≤ k
  | 0 => Nat.le_refl _
  | k + 1 => by
    have := ends_len ws z k
    unfold ends
    split
    · split
      · rw [List.length_append, List.length_singleton]; omega
      · omega
    · omega
/-- the ports of a link among some -/
def onL (z : Int) (ps : List Port) : List Port := ps.filter fun p => decide (p.2.2 = z)
theorem onL_yes {z : Int} {ps : List Port} {p : Port} (h : p.2.2 = z) : onL z (ps ++ [p]) = onL z ps ++ [p] := by
  unfold onL
  rw [List.filter_append]
  simp [h]
theorem onL_no {z : Int} {ps : List Port} {p : Port} (h : ¬ p.2.2 = z) : onL z (ps ++ [p]) = onL z ps := by
  unfold onL
  rw [List.filter_append]
  simp [h]
theorem onL_len (z : Int) (ps : List Port) : (onL z ps).length ≤ ps.length := List.length_filter_le _ _
theorem prts_len (k : Nat) (ls : List Int) (m : Nat) : (prts k ls m).length = m := by unfold prts; simp
theorem prtsTo_len {ns : List Nd} {M : Nat} (h : ∀ x ∈ ns, x.links.length ≤ M) (k : Nat) : (prtsTo ns k).length ≤ k * M := by
  induction k with
  | zero => simp [prtsTo]
  | succ k ih =>
    rw [Nat.succ_mul]
    cases hx : ns[k]? with
    | none =>
      have : prtsTo ns (k + 1) = prtsTo ns k ++ [] := by rw [prtsTo, hx]
      rw [this, List.append_nil]; omega
    | some x =>
      rw [prtsTo_succ hx, List.length_append, prts_len]
      have := h x (List.mem_of_getElem? hx)
      omega
/-- ports as cells -/
def ptc (ps : List Port) : List Value := ps.flatMap fun p => [.int .i64 p.1, .int .i64 p.2.1]
theorem ptc_snoc (ps : List Port) (p : Port) : ptc (ps ++ [p]) = ptc ps ++ [.int .i64 p.1, .int .i64 p.2.1] := by unfold ptc; rw [List.flatMap_append]; simp
/-- a row of the call's own that holds these ports -/
def OwnsP (w : World) (B : Nat) (v : Value) (ps : List Port) : Prop := w.ownsRow B 143 2 v ps.length (ptc ps) ∧ v ≠ .slice none 0 0
theorem OwnsP.mono {w : World} {B B' : Nat} {v : Value} {ps : List Port} (h : OwnsP w B v ps) (hB : B' ≤ B) : OwnsP w B' v ps := by
  obtain ⟨⟨h1, h2⟩, hn⟩ := h
  refine ⟨⟨h1, ?_⟩, hn⟩
  rcases h2 with h | ⟨g, cap, cur, e, hb, r⟩
  · exact .inl h
  · exact .inr ⟨g, cap, cur, e, by omega, r⟩
theorem a2_info : (Tryz.prog.info? 143).map (fun i => (i.zero, i.size, i.bytes)) = some (some (.agg #[.int .i64 0, .int .i64 0]), 2, 16) := by kernel_rfl
theorem cell_two_new (w : World) (a b : Value) (t : TypeId) : ∀ (j : Nat) u, [a, b][j]? = some u → (w.alloc (.cells #[a, b] t)).cell? ((⟨w.heap.size, 0, none⟩ : Addr).add j) = some u := by
  have hr := row_new w #[a, b] t 2 rfl
  intro j u hu
  match j, hu with
  | 0, hu =>
    simp at hu
    subst hu
    exact (hr.cell (show 0 < 2 by omega) : _)
  | 1, hu =>
    simp at hu
    subst hu
    show (w.alloc _).cell? ⟨w.heap.size, 0 + 1, none⟩ = _
    exact (hr.cell (show 1 < 2 by omega) : _)
  | j + 2, hu => simp at hu

end Go.Proofs.YtlpgldejmdiceabGreat.pts
end

section
namespace Go.Proofs.YtlpgldejmdiceabGreat.ha
open kit bg opn strs only hb hi marks rs pt pts
open Go.RowKit
set_option linter.unusedVariables false

/-- ports in memory -/
def PtsAt (w : World) (B : Nat) (A : Option Addr) (n : Nat) (ps : List Port) : Prop :=
  ps.length = n ∧ (0 < n → ∃ b off, A = some ⟨b, off, none⟩ ∧ b < B ∧ ∀ (k : Nat) p, ps[k]? = some p → w.cell? ⟨b, off + k * 2, none⟩ = some (.int .i64 (p.1 : Nat)) ∧ w.cell? ⟨b, off + k * 2 + 1, none⟩ = some (.int .i64 (p.2.1 : Nat)))
theorem PtsAt.get {w : World} {B : Nat} {A : Option Addr} {n : Nat} {ps : List Port} {k : Nat} (h : PtsAt w B A n ps) (hk : k < n) : ∃ b off p, A = some ⟨b, off, none⟩ ∧ b < B ∧ ps[k]? = some p ∧ w.cell? ⟨b, off + k * 2, none⟩ = some (.int .i64 (p.1 : Nat)) ∧ w.cell? ⟨b, off + k * 2 + 1, none⟩ = some (.int .i64 (p.2.1 : Nat)) := by
  obtain ⟨b, off, e, hb, hc⟩ := h.2 (by omega)
  have hx : ps[k]? = some (ps[k]'(by have := h.1; omega)) := List.getElem?_eq_getElem _
  exact ⟨b, off, _, e, hb, hx, hc k _ hx⟩

end Go.Proofs.YtlpgldejmdiceabGreat.ha
end

section
namespace Go.Proofs.YtlpgldejmdiceabGreat.rp
open kit bg opn strs only hb hi marks sig inn rs rt pt pts ha
open Go.RowKit
set_option linter.unusedVariables false

/-- a slice with these ports, nil or in the blocks from lo to hi -/
def ResP (w : World) (lo hi : Nat) (v : Value) (ps : List Port) : Prop :=
  ∃ A c, v = .slice A ps.length c ∧ ((A = none ∧ c = 0 ∧ ps = []) ∨ ∃ g f, A = some ⟨g, 0, none⟩ ∧ lo ≤ g ∧ g < hi ∧ ps.length ≤ c ∧ w.rowIs g 143 (c * 2) f ∧ ∀ (k : Nat) p, ps[k]? = some p → f (k * 2) = .int .i64 (p.1 : Nat) ∧ f (k * 2 + 1) = .int .i64 (p.2.1 : Nat))
def MkdP (w : World) (lo hi : Nat) (v : Value) (n : Nat) (M : Nat → Value) : Prop :=
  ∃ A c, v = .slice A n c ∧ ((A = none ∧ c = 0 ∧ n = 0) ∨ ∃ g f, A = some ⟨g, 0, none⟩ ∧ lo ≤ g ∧ g < hi ∧ n ≤ c ∧ w.rowIs g 143 (c * 2) f ∧ ∀ x, x < n * 2 → f x = M x)
theorem ptc_get : ∀ {ps : List Port} {k : Nat} {p : Port}, ps[k]? = some p → (ptc ps)[k * 2]? = some (.int .i64 (p.1 : Nat)) ∧ (ptc ps)[k * 2 + 1]? = some (.int .i64 (p.2.1 : Nat))
  | [], k, p, h => by simp at h
  | q :: ps, 0, p, h => by
    simp at h
    subst h
    exact ⟨rfl, rfl⟩
  | q :: ps, k + 1, p, h => by
    have ih := ptc_get (ps := ps) (k := k) (p := p) (by simpa using h)
    have e : ptc (q :: ps) = .int .i64 (q.1 : Nat) :: .int .i64 (q.2.1 : Nat) :: ptc ps := rfl
    rw [e, show (k + 1) * 2 = k * 2 + 1 + 1 by omega]
    exact ⟨by simpa using ih.1, by simpa using ih.2⟩
theorem ptc_len (ps : List Port) : (ptc ps).length = ps.length * 2 := by
  induction ps with
  | nil => rfl
  | cons p ps ih =>
    have e : ptc (p :: ps) = .int .i64 (p.1 : Nat) :: .int .i64 (p.2.1 : Nat) :: ptc ps := rfl
    rw [e]; simp; omega
section
variable {w w' : World} {lo hi n : Nat} {v : Value} {ps : List Port} {M : Nat → Value}
theorem ResP.nil : ResP w lo hi (.slice none 0 0) [] := ⟨none, 0, rfl, .inl ⟨rfl, rfl, rfl⟩⟩
theorem ResP.stay (h : ResP w lo hi v ps) (hb : ∀ b f c, w.rowIs b 143 c f → lo ≤ b → b < hi → w'.heap[b]? = w.heap[b]?) : ResP w' lo hi v ps := by
  obtain ⟨A, c, rfl, hq⟩ := h
  refine ⟨A, c, rfl, hq.imp id ?_⟩
  rintro ⟨g, f, e, h1, h2, h3, h4, h5⟩
  exact ⟨g, f, e, h1, h2, h3, h4.of_block (hb g f _ h4 h1 h2), h5⟩
theorem ResP.on (h : ResP w lo hi v ps) (hb : Below w.heap.size w w') : ResP w' lo hi v ps := h.stay fun b f c hr _ _ => hb.block b hr.lt
theorem ResP.far {l r : Nat} (h : ResP w lo hi v ps) (ho : Only l r w w') (hr : r ≤ lo ∨ hi ≤ l) : ResP w' lo hi v ps := h.stay fun b f c hb h1 h2 => ho.block b hb.lt (by omega)
theorem MkdP.on (h : MkdP w lo hi v n M) (hb : Below w.heap.size w w') : MkdP w' lo hi v n M := by
  obtain ⟨A, c, rfl, hr⟩ := h
  refine ⟨A, c, rfl, hr.imp id ?_⟩
  rintro ⟨g, f, e, h1, h2, h3, h4, h5⟩
  exact ⟨g, f, e, h1, h2, h3, h4.of_block (hb.block g h4.lt), h5⟩
theorem MkdP.apart {l r : Nat} (h : MkdP w lo hi v n M) (ho : Only l r w w') (hr : r ≤ lo ∨ hi ≤ l) : MkdP w' lo hi v n M := by
  obtain ⟨A, c, rfl, hq⟩ := h
  refine ⟨A, c, rfl, hq.imp id ?_⟩
  rintro ⟨g, f, e, h1, h2, h3, h4, h5⟩
  exact ⟨g, f, e, h1, h2, h3, h4.of_block (ho.block g h4.lt (by omega)), h5⟩
theorem ResP.one (h : OwnsP w lo v ps) : ∃ g, lo ≤ g ∧ v.ownBlock = some g ∧ g < w.heap.size ∧ ResP w g (g + 1) v ps := by
  obtain ⟨⟨h1, h2⟩, hn⟩ := h
  rcases h2 with ⟨e, _⟩ | ⟨g, cap, cur, rfl, hb, hh, hc, hm, hs, ht⟩
  · exact absurd e hn
  · have hrow : w.rowIs g 143 (cap * 2) (fun i => (cur[i]?).getD undef) := ⟨cur, hh, by simpa using hs, fun i hi => by
      show cur[i]? = some ((cur[i]?).getD undef)
      rw [Array.getElem?_eq_getElem (show i < cur.size by omega)]; rfl⟩
    have hat : ∀ (i : Nat) u, i < ps.length * 2 → (ptc ps)[i]? = some u → (cur[i]?).getD undef = u := fun i u hi hu => by
      rw [← ht, List.getElem?_take_of_lt hi] at hu
      have hu2 : cur[i]? = some u := by simpa using hu
      rw [hu2]; rfl
    refine ⟨g, hb, rfl, hrow.lt, _, _, rfl, .inr ⟨g, _, rfl, Nat.le_refl _, Nat.lt_succ_self _, hc, hrow, fun k p hk => ?_⟩⟩
    have hkl : k < ps.length := (List.getElem?_eq_some_iff.1 hk).1
    obtain ⟨e1, e2⟩ := ptc_get hk
    exact ⟨hat _ _ (by omega) e1, hat _ _ (by omega) e2⟩
theorem ResP.one_empty (w : World) : ResP (w.alloc (.cells #[] 143)) w.heap.size (w.heap.size + 1) (.slice (some ⟨w.heap.size, 0, none⟩) 0 0) [] :=
  ⟨_, 0, rfl, .inr ⟨_, _, rfl, Nat.le_refl _, Nat.lt_succ_self _, Nat.le_refl _, row_new w #[] 143 0 rfl, fun k p h => by simp at h⟩⟩
theorem ResP.at (h : ResP w lo hi v ps) (hl : ps.length ≤ n) : ∃ A c, v = .slice A ps.length c ∧ PtsAt w w.heap.size A ps.length ps := by
  obtain ⟨A, c, rfl, ⟨rfl, rfl, rfl⟩ | ⟨g, f, rfl, h1, h2, h3, h4, h5⟩⟩ := h
  · exact ⟨_, _, rfl, rfl, fun h => absurd h (by simp)⟩
  · refine ⟨_, _, rfl, rfl, fun _ => ⟨g, 0, rfl, h4.lt, fun k p hk => ?_⟩⟩
    have hkl : k < ps.length := (List.getElem?_eq_some_iff.1 hk).1
    obtain ⟨e1, e2⟩ := h5 k p hk
    rw [Nat.zero_add]
    exact ⟨by rw [h4.cell (show k * 2 < c * 2 by omega), e1], by rw [h4.cell (show k * 2 + 1 < c * 2 by omega), e2]⟩
end
def TwoP (w : World) (lo : Nat) (v v' : Value) (ps : List Port) (ys' : List Value) : Prop :=
  ∃ g g', g ≠ g' ∧ lo ≤ g ∧ lo ≤ g' ∧ ResP w g (g + 1) v ps ∧ Res w g' (g' + 1) 9 v' ys'
theorem TwoP.nil {w : World} {lo : Nat} : TwoP w lo (.slice none 0 0) (.slice none 0 0) [] [] := ⟨lo, lo + 1, by omega, Nat.le_refl _, Nat.le_succ _, ResP.nil, Res.nil⟩
def PtPost (q : Bool) (ps : List Port) (ys' : List Value) (w : World) (e : Ending) (w' : World) : Prop :=
  ∃ v v', e = .returned (.tuple #[v, v', .bool q]) ∧ TwoP w' w.heap.size v v' ps ys' ∧ Below w.heap.size w w'
end Go.Proofs.YtlpgldejmdiceabGreat.rp
end

section
namespace Go.Proofs.YtlpgldejmdiceabGreat.anc
open kit bg opn strs only hb sg sig isig un gd inn ht hi cf ib rs abv
open Go.RowKit
set_option linter.unusedVariables false

/-- whether there is an answer, and which -/
noncomputable def ancQ (cs : List Ctl) (b : Big) (z : Int) : Bool := bigB cs b && inb z 0 (b.nodes.length - 1)
noncomputable def ancR (cs : List Ctl) (b : Big) (z : Int) : List Int := if ancQ cs b z = true then abv b.nodes b.nodes.length z else []
theorem ancR_no {cs : List Ctl} {b : Big} {z : Int} (h : ancQ cs b z = false) : ancR cs b z = [] := by unfold ancR; rw [h]; rfl
theorem ancR_yes {cs : List Ctl} {b : Big} {z : Int} (h : ancQ cs b z = true) : ancR cs b z = abv b.nodes b.nodes.length z := by unfold ancR; rw [if_pos h]
theorem ancR_len {cs : List Ctl} {b : Big} {z : Int} (h : BigS b) : (ancR cs b z).length ≤ 1048576 := by
  cases hq : ancQ cs b z with
  | false => rw [ancR_no hq]; simp
  | true => rw [ancR_yes hq]; exact Nat.le_trans (abv_len _ _ _) h.1

end Go.Proofs.YtlpgldejmdiceabGreat.anc
end

section
namespace Go.Proofs.YtlpgldejmdiceabGreat.psp
open kit bg opn strs only hb sg sig isig un gd inn ht hi cf pt ib rs rt pts ha rp
open Go.RowKit
set_option linter.unusedVariables false

noncomputable def ptQ (cs : List Ctl) (b : Big) (z : Int) : Bool := bigB cs b && linkB b z
noncomputable def ptA (cs : List Ctl) (b : Big) (z : Int) : List Port := if ptQ cs b z = true then onL z (ports b.nodes) else []
noncomputable def ptB (cs : List Ctl) (b : Big) (z : Int) : List ByteArray := if ptQ cs b z = true then ends b.inner z b.inner.length else []
theorem ptA_no {cs : List Ctl} {b : Big} {z : Int} (h : ptQ cs b z = false) : ptA cs b z = [] := by unfold ptA; rw [h]; rfl
theorem ptA_yes {cs : List Ctl} {b : Big} {z : Int} (h : ptQ cs b z = true) : ptA cs b z = onL z (ports b.nodes) := by unfold ptA; rw [if_pos h]
theorem ptB_no {cs : List Ctl} {b : Big} {z : Int} (h : ptQ cs b z = false) : ptB cs b z = [] := by unfold ptB; rw [h]; rfl
theorem ptB_yes {cs : List Ctl} {b : Big} {z : Int} (h : ptQ cs b z = true) : ptB cs b z = ends b.inner z b.inner.length := by unfold ptB; rw [if_pos h]
theorem big8 {cs : List Ctl} {b : Big} (h : bigB cs b = true) : b.nodes.length ≤ 8 ∧ (0 ≤ b.edges ∧ b.edges ≤ 8) ∧ b.outer.length ≤ 16 ∧ b.inner.length ≤ 16 := by
  have := sizes_of (big_of h).2.1
  exact ⟨this.2.2.1, this.2.1, this.2.2.2.2.1, this.2.2.2.2.2⟩
theorem links3 {cs : List Ctl} {b : Big} (h : bigB cs b = true) : ∀ x ∈ b.nodes, x.links.length ≤ 3 := fun x hx => by
  obtain ⟨k, hk⟩ := List.getElem?_of_mem hx
  have h1 := ((big_of h).2.2.2.2.1 k x hk).2.1
  unfold portsB at h1
  cases hc : cs[x.control.toNat]? with
  | none => rw [hc] at h1; cases h1
  | some c =>
    rw [hc] at h1
    have h2 : (x.links.length : Int) = c.ports := by simpa using h1
    have h3 := (big_of h).1.1 _ c hc
    unfold ctlB at h3
    simp only [Bool.and_eq_true] at h3
    have h4 := inb_true h3.1.2
    omega
theorem ptQ_big {cs : List Ctl} {b : Big} {z : Int} (h : ptQ cs b z = true) : bigB cs b = true := by
  unfold ptQ at h
  simp only [Bool.and_eq_true] at h
  exact h.1
theorem ptA_len {cs : List Ctl} {b : Big} {z : Int} : (ptA cs b z).length ≤ 24 := by
  cases hq : ptQ cs b z with
  | false => rw [ptA_no hq]; simp
  | true =>
    rw [ptA_yes hq]
    have h8 := big8 (ptQ_big hq)
    have h1 := onL_len z (ports b.nodes)
    have h2 := prtsTo_len (links3 (ptQ_big hq)) b.nodes.length
    have h3 : b.nodes.length * 3 ≤ 8 * 3 := Nat.mul_le_mul_right _ h8.1
    unfold ports at h1 ⊢
    omega
theorem ptB_len {cs : List Ctl} {b : Big} {z : Int} (h : BigS b) : (ptB cs b z).length ≤ 1048576 := by
  cases hq : ptQ cs b z with
  | false => rw [ptB_no hq]; simp
  | true => rw [ptB_yes hq]; exact Nat.le_trans (ends_len _ _ _) h.2.2.2.2.2.1

end Go.Proofs.YtlpgldejmdiceabGreat.psp
end

section
namespace Go.Proofs.YtlpgldejmdiceabGreat.chd
open kit bg opn strs only hb sg sig isig un gd inn ht hi cf ib rs rt abv anc
open Go.RowKit
set_option linter.unusedVariables false

/-- the numbers below k that a test takes, in ascending order -/
def sel (P : Nat → Bool) : Nat → List Int
  | 0 => []
  | k + 1 => if P k = true then sel P k ++ [(k : Int)] else sel P k
theorem sel_yes {P : Nat → Bool} {k : Nat} (h : P k = true) : sel P (k + 1) = sel P k ++ [(k : Int)] := by rw [sel, if_pos h]
theorem sel_no {P : Nat → Bool} {k : Nat} (h : P k = false) : sel P (k + 1) = sel P k := by rw [sel, if_neg (by simp [h])]
theorem sel_len (P : Nat → Bool) : ∀ k, (sel P k).length ≤ k
  | 0 => Nat.le_refl _
  | k + 1 => by
    have := sel_len P k
    cases h : P k with
    | true => rw [sel_yes h, List.length_append, List.length_singleton]; omega
    | false => rw [sel_no h]; omega
def kidP (ns : List Nd) (p : Int) (i : Nat) : Bool := match ns[i]? with
  | some x => decide (x.parent = p)
  | none => false
def siteP (zs : List Int) (p : Int) (i : Nat) : Bool := match zs[i]? with
  | some u => decide (u = p)
  | none => false
theorem kid_at {ns : List Nd} {p : Int} {i : Nat} {x : Nd} (h : ns[i]? = some x) : kidP ns p i = decide (x.parent = p) := by unfold kidP; rw [h]
theorem site_at {zs : List Int} {p : Int} {i : Nat} {u : Int} (h : zs[i]? = some u) : siteP zs p i = decide (u = p) := by unfold siteP; rw [h]

noncomputable def chQ (cs : List Ctl) (b : Big) (p : Int) : Bool := bigB cs b && (inb p (-b.roots) (-1) || inb p 0 (b.nodes.length - 1))
noncomputable def chA (cs : List Ctl) (b : Big) (p : Int) : List Int := if chQ cs b p = true then sel (kidP b.nodes p) b.nodes.length else []
noncomputable def chB (cs : List Ctl) (b : Big) (p : Int) : List Int := if chQ cs b p = true then sel (siteP b.sites p) b.sites.length else []
theorem chA_no {cs : List Ctl} {b : Big} {p : Int} (h : chQ cs b p = false) : chA cs b p = [] := by unfold chA; rw [h]; rfl
theorem chA_yes {cs : List Ctl} {b : Big} {p : Int} (h : chQ cs b p = true) : chA cs b p = sel (kidP b.nodes p) b.nodes.length := by unfold chA; rw [if_pos h]
theorem chB_no {cs : List Ctl} {b : Big} {p : Int} (h : chQ cs b p = false) : chB cs b p = [] := by unfold chB; rw [h]; rfl
theorem chB_yes {cs : List Ctl} {b : Big} {p : Int} (h : chQ cs b p = true) : chB cs b p = sel (siteP b.sites p) b.sites.length := by unfold chB; rw [if_pos h]
theorem chA_len {cs : List Ctl} {b : Big} {p : Int} (h : BigS b) : (chA cs b p).length ≤ 1048576 := by
  cases hq : chQ cs b p with
  | false => rw [chA_no hq]; simp
  | true => rw [chA_yes hq]; exact Nat.le_trans (sel_len _ _) h.1
theorem chB_len {cs : List Ctl} {b : Big} {p : Int} (h : BigS b) : (chB cs b p).length ≤ 1048576 := by
  cases hq : chQ cs b p with
  | false => rw [chB_no hq]; simp
  | true => rw [chB_yes hq]; exact Nat.le_trans (sel_len _ _) h.2.2.1
theorem place_eq (p R : Int) (m : Nat) (hR : 0 ≤ R) : inb p (-R) ((m : Int) - 1) = (inb p (-R) (-1) || inb p 0 ((m : Int) - 1)) := by
  unfold inb
  rw [← Bool.decide_or]
  congr 1
  exact propext ⟨fun h => by omega, fun h => by omega⟩
theorem roots_of {cs : List Ctl} {b : Big} (h : bigB cs b = true) : 0 ≤ b.roots ∧ b.roots ≤ 4 := (sizes_of (big_of h).2.1).1
theorem sites_of {cs : List Ctl} {b : Big} (h : bigB cs b = true) : b.sites.length ≤ 4 := (sizes_of (big_of h).2.1).2.2.2.1

end Go.Proofs.YtlpgldejmdiceabGreat.chd
end

section
namespace Go.Proofs.YtlpgldejmdiceabGreat.idl
open kit bg opn strs only hb sg sig isig un gd inn ht hi cf pt ib rs rt pts psp chd
open Go.RowKit
set_option linter.unusedVariables false

/-- whether a link has no points -/
def idleB (b : Big) (l : Int) : Bool := decide ((onL l (ports b.nodes)).length = 0) && decide ((ends b.inner l b.inner.length).length = 0)
def idleP (b : Big) (i : Nat) : Bool := idleB b (i : Int)
noncomputable def idlR (cs : List Ctl) (b : Big) : List Int := if bigB cs b = true then sel (idleP b) (b.edges + b.outer.length).toNat else []
theorem idlR_no {cs : List Ctl} {b : Big} (h : bigB cs b = false) : idlR cs b = [] := by unfold idlR; rw [h]; rfl
theorem idlR_yes {cs : List Ctl} {b : Big} (h : bigB cs b = true) : idlR cs b = sel (idleP b) (b.edges + b.outer.length).toNat := by unfold idlR; rw [if_pos h]
theorem idlR_len {cs : List Ctl} {b : Big} : (idlR cs b).length ≤ 1048576 := by
  cases hq : bigB cs b with
  | false => rw [idlR_no hq]; simp
  | true =>
    rw [idlR_yes hq]
    have := sel_len (idleP b) (b.edges + b.outer.length).toNat
    have := big8 hq
    omega

theorem Owns.on {w w' : World} {B : Nat} {t : TypeId} {v : Value} {ys : List Value} (h : Owns w B t v ys) (hb : Below w.heap.size w w') : Owns w' B t v ys := by
  obtain ⟨⟨a1, a2⟩, a3⟩ := h
  refine ⟨⟨a1, ?_⟩, a3⟩
  rcases a2 with ⟨e, _⟩ | ⟨g, cap, cur, e, hbb, hh, rr⟩
  · exact absurd e a3
  · exact .inr ⟨g, cap, cur, e, hbb, (hb.block g (Array.getElem?_eq_some_iff.1 hh).1).trans hh, rr⟩
theorem ResP_len {w : World} {B : Nat} {v : Value} {ps : List Port} (h : OwnsP w B v ps) : ∃ g cap, B ≤ g ∧ g < w.heap.size ∧ v = .slice (some ⟨g, 0, none⟩) ps.length cap := by
  obtain ⟨⟨h1, h2⟩, hn⟩ := h
  rcases h2 with ⟨e, _⟩ | ⟨g, cap, cur, rfl, hb, hh, hc, hm, hs, ht⟩
  · exact absurd e hn
  · exact ⟨g, cap, hb, (Array.getElem?_eq_some_iff.1 hh).1, rfl⟩

end Go.Proofs.YtlpgldejmdiceabGreat.idl
end

section
namespace Go.Proofs.YtlpgldejmdiceabGreat.idi
open Go.Maps (Keyed)
open kit bg opn strs only hb sg sig isig un gd inn ht hi cf pt lf ib rs rt pts psp chd idl mapb
open Go.RowKit
set_option linter.unusedVariables false
attribute [local go_sem] Oper.semAt_some

theorem lawI : Keyed Tryz.prog 3 := Maps.int_keyed Tryz.underlying3
theorem keyI {z : Int} (h : (Lit.int .i64 z).wf = true) : keyOf Tryz.prog 3 (.int .i64 z) = some (.int .i64 z) := Maps.keyOf_int_mk Tryz.underlying3 h
theorem ends_nil (ws : List Wr) (z : Int) : ∀ k, (ends ws z k).length = 0 ↔ ∀ (j : Nat) x, j < k → ws[j]? = some x → x.link ≠ z
  | 0 => ⟨fun _ j x hj => absurd hj (Nat.not_lt_zero j), fun _ => rfl⟩
  | k + 1 => by
    have ih := ends_nil ws z k
    cases hx : ws[k]? with
    | none =>
      have e : ends ws z (k + 1) = ends ws z k := by rw [ends, hx]
      rw [e, ih]
      refine ⟨fun h j x hj hj2 => ?_, fun h j x hj hj2 => h j x (by omega) hj2⟩
      by_cases e : j = k
      · subst e; rw [hx] at hj2; cases hj2
      · exact h j x (by omega) hj2
    | some y =>
      by_cases hz : y.link = z
      · rw [ends_yes hx hz, List.length_append, List.length_singleton]
        exact ⟨fun h => by omega, fun h => absurd hz (h k y (by omega) hx)⟩
      · rw [ends_no hx hz, ih]
        refine ⟨fun h j x hj hj2 => ?_, fun h j x hj hj2 => h j x (by omega) hj2⟩
        by_cases e : j = k
        · subst e; rw [hx] at hj2; injection hj2 with e2; subst e2; exact hz
        · exact h j x (by omega) hj2
/-- the links of some ports and of the first inner names -/
def Busy (ps : List Port) (ws : List Wr) (k : Nat) (l : Lit) : Prop := (∃ p ∈ ps, l = .int .i64 p.2.2) ∨ ∃ (j : Nat) (x : Wr), j < k ∧ ws[j]? = some x ∧ l = .int .i64 x.link
theorem busy_iff (b : Big) (l : Int) : Busy (ports b.nodes) b.inner b.inner.length (.int .i64 l) ↔ idleB b l = false := by
  have h2 := ends_nil b.inner l b.inner.length
  have h1 : (onL l (ports b.nodes)).length = 0 ↔ ∀ p ∈ ports b.nodes, p.2.2 ≠ l := by
    unfold onL
    rw [List.length_eq_zero_iff, List.filter_eq_nil_iff]
    simp
  constructor
  · intro h
    unfold idleB
    rcases h with ⟨p, hp, e⟩ | ⟨j, x, hj, hx, e⟩
    · injection e with _ e
      rw [decide_eq_false (fun h => h1.1 h p hp e.symm)]; rfl
    · injection e with _ e
      rw [decide_eq_false (p := (ends b.inner l b.inner.length).length = 0) (fun h => h2.1 h j x hj hx e.symm), Bool.and_false]
  · intro h
    apply Classical.byContradiction
    intro hn
    have e1 := h1.2 (fun p hp e => hn (.inl ⟨p, hp, by rw [e]⟩))
    have e2 := h2.2 (fun j x hj hx e => hn (.inr ⟨j, x, hj, hx, by rw [e]⟩))
    unfold idleB at h
    rw [e1, e2] at h
    simp at h

theorem wpListIn_store_set {F : Fence} {nF : Nat} {P : Program} (w : World) {ops : Array Oper} {rest : List Oper} {o : Oper} {a : Act} {Q : Exit → Act → World → Prop}
    (hg : o.guard = none) (m x v : Operand) (t : TypeId) (hop : o.op = Op.mapUpdate t m x v)
    (k e : TypeId) (K : Keyed P k) (ht : P.underlying t = some (.map k e)) (he : P.underlying e = some .bool) (b n : Nat) (S : Lit → Prop)
    (hm : a.eval m = .map (some b)) (h : SetAt P k e w b n S) (hn : n < maxLen) (key : Value) (y : Bool) (kl : Lit) (hx : a.eval x = key) (hv : a.eval v = .bool y) (hkey : keyOf P k key = some kl) (hkl : WideAt.IsKeyLit kl)
    (hK : ∀ w', SetAt P k e w' b (n + 1) (fun l => (l = kl ∧ y = true) ∨ (l ≠ kl ∧ S l)) → w.grownBy w' (some b) → wpListIn F nF P ops Q rest (a.put o.dst undef) w') :
    wpListIn F nF P ops Q (o :: rest) a w := by
  obtain ⟨D, hown, hmap, hS⟩ := h
  refine wpListIn_mapUpdate_own w hg m x v t hop k e K ht _ b n D hm hown hn key (.bool y) kl hx hv hkey (.lit (.bool y)) [] (plainElem_bool he y) ?_
  intro w1 hown1 hg1
  refine hK w1 ⟨_, hown1, ?_, fun l hl => ?_⟩ hg1
  · exact hmap.put _ _
  · by_cases e2 : l = kl
    · subst e2
      exact ⟨y, Maps.atKey_put_same hmap hl _ _, by simp⟩
    · obtain ⟨x, h1, h2⟩ := hS l hl
      exact ⟨x, by rw [Maps.atKey_put_other e2]; exact h1, by simp [e2, h2]⟩
end Go.Proofs.YtlpgldejmdiceabGreat.idi
end

section
namespace Go.Proofs.YtlpgldejmdiceabGreat.ptm
open pt kit bg only hb
open Go.RowKit
set_option linter.unusedVariables false

attribute [local go_sem] Oper.semAt_some


theorem part_mem {ns : List Nd} {k m : Nat} {x : Nd} {l : Int} (h : ns[k]? = some x) (hl : x.links[m]? = some l) : (k, m, l) ∈ ports ns := by
  have hm : m < x.links.length := (List.getElem?_eq_some_iff.1 hl).1
  refine (part_prefix (m := m + 1) h (by omega)).subset ?_
  rw [prts_succ hl]
  simp
set_option maxRecDepth 100000 in
set_option maxHeartbeats 4000000 in
theorem ports_inM (F : Fence) (n : Nat) (h35 : F.fn 137) (hro : F.round = none) (hn : 1 ≤ n) (l β n₀ : Nat) (A1 : Option Addr) (n1 c1 : Nat) (ns : List Nd) (J Jx : List Port → World → Prop) (W : World)
    (hJ : AbidesFrom W.heap.size J)
    (hY : ∀ pre x W1, x ∈ ports ns → J pre W1 → pre.length < (ports ns).length → YieldAt F (n - 1) Tryz.prog l (encP x) W1 fun e W' =>
      (e = .returned (.bool true) ∧ J (pre ++ [x]) W' ∧ Below n₀ W1 W') ∨ (e = .returned (.bool false) ∧ Jx (pre ++ [x]) W'))
    (hc1 : W.cell? ⟨β, 1, none⟩ = some (.slice A1 n1 c1)) (hN : NdsAt W n₀ A1 n1 ns) (hn0 : n₀ ≤ W.heap.size) (hn1 : n1 ≤ 1048576) (hlk : ∀ x ∈ ns, x.links.length ≤ 1048576) (h0 : J [] W) :
    CallsIn F n Tryz.prog 137 #[.func (.yield l) #[] #[], .pointer (some ⟨β, 0, none⟩)] W fun e W' => (∃ v, e = .returned v) ∧
      ((∃ ys, ys = ports ns ∧ J ys W') ∨ (∃ pre, pre <+: ports ns ∧ Jx pre W')) := by
  have HL := Lib.hid hN.1
  have HLk := Lib.hid hlk
  clear hlk
  refine callsIn_of_wp Tryz.func137 rfl h35 ?_ hro
  simp only [Tryz.ntmps137, List.size_toArray, List.length_cons, List.length_nil, Nat.reduceAdd, Nat.reduceSub, Array.replicate_succ, Array.replicate_zero, List.push_toArray, List.append_toArray, List.nil_append, List.cons_append]
  gi_wp2
  gi_loopw [10] (fun i wr => ∃ k : Nat, k ≤ n1 ∧ i = .int .i64 k ∧ J (prtsTo ns k) wr ∧ Below n₀ W wr)
    (fun i _ => n1 - (intOf i).toNat)
  case atStart => exact ⟨0, Nat.zero_le _, rfl, h0, Below.refl _ _⟩
  case round =>
    obtain ⟨k, hk, rfl, hJs, hb⟩ := hrel
    obtain ⟨wo, rfl⟩ : ∃ wo : World, wo = wr := ⟨_, rfl⟩
    have hsz := hb.size
    by_cases hlt : k < n1
    · obtain ⟨b, off, x, rfl, hbb, hx, d0, d1, L, m, cap, d2, hi⟩ := hN.get hlt
      have g0 := (hb.cell (p := ⟨b, off + k * 3, none⟩) hbb).trans d0
      have g1 := (hb.cell (p := ⟨b, off + k * 3 + 1, none⟩) hbb).trans d1
      have g2 := (hb.cell (p := ⟨b, off + k * 3 + 2, none⟩) hbb).trans d2
      have hml : m ≤ 1048576 := by have := HLk.out x (List.mem_of_getElem? hx); have := hi.len; omega
      have hlen := hi.len
      have HX := Lib.hid hx
      have HI := Lib.hid hi
      have HLen := Lib.hid hlen
      have HJ1 := Lib.hid (hJ _ _ _ none hJs (World.grownBy_alloc wo (.cells #[.int .i64 x.control, .int .i64 x.parent, .slice L m cap] 96) none) (fun r e => by cases e))
      have HB1 := Lib.hid (hb.alloc (by omega) (.cells #[.int .i64 x.control, .int .i64 x.parent, .slice L m cap] 96))
      clear hx d0 d1 d2 hi hlen hJs hb
      gi_wp2
      gi_loopw [5, 6, 18] (fun _ _ i wi => ∃ j : Nat, j ≤ m ∧ i = .int .i64 j ∧ J (prtsTo ns k ++ prts k x.links j) wi ∧ Below n₀ W wi)
        (fun _ _ i _ => m - (intOf i).toNat)
      case atStart => exact ⟨0, Nat.zero_le _, rfl, by simpa [prts] using HJ1.out, HB1.out⟩
      case round =>
        obtain ⟨j, hj, rfl, hJi, hbi⟩ := hrel
        by_cases hjm : j < m
        · obtain ⟨bl, offl, z, rfl, hbl, hz, cz⟩ := HI.out.get hjm
          have cz2 := (hbi.cell (p := ⟨bl, offl + j, none⟩) hbl).trans cz
          obtain ⟨fn, tmps, assign, body, hy, hR⟩ := hY (prtsTo ns k ++ prts k x.links j) (k, j, z) wr (part_mem HX.out hz) hJi (part_lt HX.out hz)
          have HR := Lib.hid hR
          have HZ := Lib.hid hz
          have HBi := Lib.hid hbi
          dsimp only [encP] at hy
          clear hR hz cz hJi hbi
          gi_wp2
          refine HR.out.mono ?_
          rintro e W3 (⟨rfl, hJ3, hk3⟩ | ⟨rfl, hJx3⟩)
          · have HJ3 := Lib.hid (And.intro hJ3 (HBi.out.trans hk3))
            clear hJ3 hk3
            gi_wp2
            go_roundw
            case rel => exact ⟨j + 1, by omega, by go_num, by rw [prts_succ HZ.out, ← List.append_assoc]; exact HJ3.out.1, HJ3.out.2⟩
            case measure => simp [intOf]; omega
          · have HJx := Lib.hid hJx3
            clear hJx3
            gi_wp2
            refine bodyPost_ret (results_none rfl _ _ _) rfl ?_
            refine ⟨⟨_, rfl⟩, .inr ⟨_, ?_, HJx.out⟩⟩
            rw [List.append_assoc, ← prts_succ HZ.out]
            exact part_prefix HX.out (by have := (List.getElem?_eq_some_iff.1 HZ.out).1; omega)
        · obtain rfl : m = j := by omega
          have HJi := Lib.hid (And.intro hJi hbi)
          clear hJi hbi
          gi_wp2
          go_roundw
          case rel => exact ⟨k + 1, by omega, by go_num, by rw [prtsTo_succ HX.out, HLen.out]; exact HJi.out.1, HJi.out.2⟩
          case measure => simp [intOf]; omega
    · obtain rfl : n1 = k := by omega
      have HJs := Lib.hid hJs
      clear hJs
      gi_wp2
      go_end0
      exact ⟨⟨_, rfl⟩, .inl ⟨_, rfl, by unfold ports; rw [HL.out]; exact HJs.out⟩⟩


/-- a port of these nodes -/
def PortOf (ns : List Nd) : Type := { p : Port // p ∈ ports ns }
def PortOf.val {ns : List Nd} (p : PortOf ns) : Port := p.1
theorem ports_stopsM (F : Fence) (n : Nat) (h35 : F.fn 137) (hro : F.round = none) (hn : 1 ≤ n) (β n₀ : Nat) (A1 : Option Addr) (n1 c1 : Nat) (ns : List Nd) (w : World) (hβ : β < w.heap.size) (hn0 : n₀ ≤ w.heap.size)
    (hc1 : w.cell? ⟨β, 1, none⟩ = some (.slice A1 n1 c1)) (hN : NdsAt w n₀ A1 n1 ns) (hn1 : n1 ≤ 1048576) (hlk : ∀ x ∈ ns, x.links.length ≤ 1048576) :
    SeqStopsK F n Tryz.prog 137 #[.pointer (some ⟨β, 0, none⟩)] (fun p : PortOf ns => encP p.val) (Below n₀) (fun ys => ys.map PortOf.val = ports ns) (fun _ => True) (ports ns).length w := fun l J Jx W hW hJ _ hY h0 => by
  refine (ports_inM F n h35 hro hn l β n₀ A1 n1 c1 ns (fun pre W' => ∃ ys : List (PortOf ns), ys.map PortOf.val = pre ∧ J ys W') (fun pre W' => ∃ ys : List (PortOf ns), Jx ys W') W ?_ ?_ ((hW.cell (p := ⟨β, 1, none⟩) hβ).trans hc1) (hN.below (hW.mono hn0)) (by have := hW.size; omega) hn1 hlk ⟨[], rfl, h0⟩).mono ?_
  · rintro s A B row ⟨ys, e, hs⟩ hg hr
    exact ⟨ys, e, hJ _ _ _ _ hs hg hr⟩
  · rintro pre x W1 hx ⟨ys, rfl, hs⟩ hlt
    obtain ⟨fn, tmps, assign, body, hy, hR⟩ := hY ys ⟨x, hx⟩ W1 hs (by simpa using hlt)
    refine ⟨fn, tmps, assign, body, hy, hR.mono ?_⟩
    rintro e W' (⟨a, b, c⟩ | ⟨a, b⟩)
    · exact .inl ⟨a, ⟨ys ++ [⟨x, hx⟩], by rw [List.map_append]; rfl, b⟩, c⟩
    · exact .inr ⟨a, _, b⟩
  · rintro e W' ⟨hv, h⟩
    refine ⟨hv, ?_⟩
    rcases h with ⟨ys, e1, zs, e2, hz⟩ | ⟨pre, -, ys, hz⟩
    · exact .inl ⟨zs, e2.trans e1, hz⟩
    · exact .inr ⟨ys, trivial, hz⟩
end Go.Proofs.YtlpgldejmdiceabGreat.ptm
end

section
namespace Go.Proofs.YtlpgldejmdiceabGreat.idm
open Go.Maps (Keyed)
open kit bg opn strs only over hb sg sig isig un gd inn ht hi cf pt ptm lf ib rs rt pts psp chd idl mapb idi
open Go.RowKit
set_option linter.unusedVariables false
attribute [local go_sem] Oper.semAt_some

theorem wf_port {b : Big} (h : BigW b) {p : Port} (hp : p ∈ ports b.nodes) : (Lit.int .i64 p.2.2).wf = true := by
  obtain ⟨k, x, i, hx, hl⟩ := mem_prtsTo hp
  exact (h.2.2.2.1 x (List.mem_of_getElem? hx)).2.2.2 _ (List.mem_of_getElem? hl)

theorem wf_wire {b : Big} (h : BigW b) {x : Wr} (hx : x ∈ b.inner) : (Lit.int .i64 x.link).wf = true := by
  obtain ⟨-, -, -, -, -, -, -, -, -, hwi⟩ := h
  exact (hwi x hx).2
theorem wf_small : ∀ k : Nat, k < 25 → (Lit.int .i64 (k : Int)).wf = true := by decide

end Go.Proofs.YtlpgldejmdiceabGreat.idm
end

section
namespace Go.Proofs.YtlpgldejmdiceabGreat.bs
open kit bg hi sig
open Go.RowKit
set_option linter.unusedVariables false
def Asc (zs : List Int) : Prop := ∀ (i j : Nat) a b, i ≤ j → zs[i]? = some a → zs[j]? = some b → a ≤ b
/-- the first place from which on all elements are at least x -/
def PosP (zs : List Int) (x : Int) (m : Nat) : Prop := m ≤ zs.length ∧ (∀ (t : Nat) a, t < m → zs[t]? = some a → a < x) ∧ ∀ (t : Nat) a, m ≤ t → zs[t]? = some a → x ≤ a

end Go.Proofs.YtlpgldejmdiceabGreat.bs
end

section
namespace Go.Proofs.YtlpgldejmdiceabGreat.ln
open kit bg sg opn strs only hb sig isig un over gn nm inn ht gd im pt marks eqs hc hi hw hn rs br bm bw cf lf ib isa lawb lw rt chd pts psp idl idi idm bs
open Go.RowKit
set_option linter.unusedVariables false

theorem sel_none {P : Nat → Bool} : ∀ k, (∀ i, i < k → P i = false) → sel P k = []
  | 0, _ => rfl
  | k + 1, h => by rw [sel_no (h k (Nat.lt_succ_self k))]; exact sel_none k (fun i hi => h i (by omega))
theorem sel_once {P : Nat → Bool} : ∀ k, (∀ j, j < k → P j = true → ∀ i, i < j → P i = false) → (sel P k).length ≤ 1
  | 0, _ => Nat.zero_le _
  | k + 1, h => by
    cases hp : P k with
    | false => rw [sel_no hp]; exact sel_once k (fun j hj => h j (by omega))
    | true => rw [sel_yes hp, sel_none k (h k (Nat.lt_succ_self k) hp)]; exact Nat.le_refl _
theorem sel_ex {P : Nat → Bool} : ∀ k, (sel P k).length ≠ 0 → ∃ i, i < k ∧ P i = true
  | 0, h => absurd rfl h
  | k + 1, h => by
    cases hp : P k with
    | false =>
      rw [sel_no hp] at h
      obtain ⟨i, hi, hq⟩ := sel_ex k h
      exact ⟨i, by omega, hq⟩
    | true => exact ⟨k, Nat.lt_succ_self k, hp⟩
theorem sel_pos {P : Nat → Bool} {i : Nat} (hp : P i = true) : ∀ k, i < k → 0 < (sel P k).length
  | 0, h => absurd h (Nat.not_lt_zero i)
  | k + 1, h => by
    cases hk : P k with
    | false =>
      rw [sel_no hk]
      have : i ≠ k := fun e => by rw [e, hk] at hp; cases hp
      exact sel_pos hp k (by omega)
    | true => rw [sel_yes hk, List.length_append]; simp
noncomputable def leanQ (b : Big) : Bool := decide ((sel (idleP b) b.edges.toNat).length = 0)
theorem sel_mem {P : Nat → Bool} {z : Int} : ∀ k, z ∈ sel P k → 0 ≤ z ∧ z < k
  | 0, h => by cases h
  | k + 1, h => by
    cases hp : P k with
    | false => rw [sel_no hp] at h; have := sel_mem k h; omega
    | true =>
      rw [sel_yes hp] at h
      rcases List.mem_append.1 h with h | h
      · have := sel_mem k h; omega
      · have := List.mem_singleton.1 h; omega
theorem sel_add (P : Nat → Bool) (k : Nat) : ∀ m, ∃ T, sel P (k + m) = sel P k ++ T ∧ ∀ z ∈ T, (k : Int) ≤ z
  | 0 => ⟨[], by simp, by simp⟩
  | m + 1 => by
    obtain ⟨T, h1, h2⟩ := sel_add P k m
    cases hp : P (k + m) with
    | false => exact ⟨T, by rw [← Nat.add_assoc, sel_no hp, h1], h2⟩
    | true =>
      refine ⟨T ++ [((k + m : Nat) : Int)], by rw [← Nat.add_assoc, sel_yes hp, h1, List.append_assoc], fun z hz => ?_⟩
      rcases List.mem_append.1 hz with h | h
      · exact h2 z h
      · have := List.mem_singleton.1 h; omega
theorem sel_asc (P : Nat → Bool) : ∀ k, Asc (sel P k)
  | 0 => fun i j a b _ h => by cases h
  | k + 1 => by
    cases hp : P k with
    | false => rw [sel_no hp]; exact sel_asc P k
    | true =>
      rw [sel_yes hp]
      intro i j a b hij ha hb
      have hjl := (List.getElem?_eq_some_iff.1 hb).1
      rw [List.length_append, List.length_singleton] at hjl
      by_cases hj : j < (sel P k).length
      · rw [List.getElem?_append_left hj] at hb
        rw [List.getElem?_append_left (by omega)] at ha
        exact sel_asc P k i j a b hij ha hb
      · obtain rfl : j = (sel P k).length := by omega
        rw [List.getElem?_append_right (Nat.le_refl _), Nat.sub_self] at hb
        injection hb with hb
        by_cases hi : i < (sel P k).length
        · rw [List.getElem?_append_left hi] at ha
          have := sel_mem k (List.mem_of_getElem? ha)
          omega
        · obtain rfl : i = (sel P k).length := by omega
          rw [List.getElem?_append_right (Nat.le_refl _), Nat.sub_self] at ha
          injection ha with ha
          omega
/-- where a search for k ends -/
theorem sel_pos_at {P : Nat → Bool} {k N m : Nat} (hk : k ≤ N) (h : PosP (sel P N) k m) : m = (sel P k).length ∧ (sel P N).take m = sel P k := by
  obtain ⟨T, h1, h2⟩ := sel_add P k (N - k)
  rw [show k + (N - k) = N by omega] at h1
  obtain ⟨p1, p2, p3⟩ := h
  have e : m = (sel P k).length := by
    by_cases ha : m < (sel P k).length
    · have e : (sel P k)[m]? = some ((sel P k)[m]) := List.getElem?_eq_getElem ha
      have := p3 m _ (Nat.le_refl _) (by rw [h1, List.getElem?_append_left ha]; exact e)
      have := sel_mem k (List.mem_of_getElem? e)
      omega
    · by_cases hb : (sel P k).length < m
      · have hl : (sel P k).length < (sel P N).length := by omega
        obtain ⟨a, e⟩ : ∃ a, (sel P N)[(sel P k).length]? = some a := ⟨_, List.getElem?_eq_getElem hl⟩
        have h3 := p2 _ _ hb e
        rw [h1, List.getElem?_append_right (Nat.le_refl _), Nat.sub_self] at e
        have := h2 _ (List.mem_of_getElem? e)
        omega
      · omega
  refine ⟨e, ?_⟩
  rw [e, h1, List.take_left']
  rfl
theorem lean_bad {b : Big} {k : Nat} (hk : (k : Int) < b.edges) (h : idleB b (k : Int) = true) : leanQ b = false := by
  unfold leanQ
  have := sel_pos (P := idleP b) (i := k) h b.edges.toNat (by omega)
  exact decide_eq_false (by omega)
theorem lean_end {b : Big} (h : ∀ k : Nat, (k : Int) < b.edges → idleB b (k : Int) = false) : leanQ b = true := by
  unfold leanQ
  rw [sel_none (P := idleP b) _ (fun i hi => h i (by omega))]
  rfl

theorem ints_take {w : World} {B n p : Nat} {A : Option Addr} {zs : List Int} (h : IntsAt w B A n zs) (hp : p ≤ n) : IntsAt w B A p (zs.take p) := by
  obtain ⟨h1, h2⟩ := h
  have hl : zs.length = n := by simpa using h1
  refine ⟨by simp; omega, fun h0 => ?_⟩
  obtain ⟨b, off, e, hb, hc⟩ := h2 (by omega)
  refine ⟨b, off, e, hb, fun k u hu => hc k u ?_⟩
  rw [List.getElem?_map] at hu ⊢
  obtain ⟨s, hs, rfl⟩ := Option.map_eq_some_iff.1 hu
  have hk : k < p := by have := (List.getElem?_eq_some_iff.1 hs).1; rw [List.length_take] at this; omega
  rw [List.getElem?_take_of_lt hk] at hs
  rw [hs]; rfl
noncomputable def ieR (cs : List Ctl) (b : Big) : List Int := if bigB cs b = true then sel (idleP b) b.edges.toNat else []
theorem ieR_no {cs : List Ctl} {b : Big} (h : bigB cs b = false) : ieR cs b = [] := by unfold ieR; rw [h]; rfl
theorem ieR_yes {cs : List Ctl} {b : Big} (h : bigB cs b = true) : ieR cs b = sel (idleP b) b.edges.toNat := by unfold ieR; rw [if_pos h]
end Go.Proofs.YtlpgldejmdiceabGreat.ln
end

section
namespace Go.Proofs.YtlpgldejmdiceabGreat.lep
open kit bg sg opn strs only hb sig isig un over gn nm inn ht gd im pt marks eqs hc hi hw hn rs br bm bw cf lf ib isa lawb lw rt chd pts psp idl bs ln rl ed
set_option linter.unusedVariables false
/-- a link without the idle edges before it -/
def leF (b : Big) (l : Int) : Int := l - ((sel (idleP b) (min l b.edges).toNat).length : Nat)
def leB (b : Big) : Big := ⟨(relB (leF b) b).roots, (relB (leF b) b).nodes, (relB (leF b) b).sites, b.edges - ((sel (idleP b) b.edges.toNat).length : Nat), (relB (leF b) b).outer, (relB (leF b) b).inner⟩
noncomputable def leR (cs : List Ctl) (b : Big) : Big := if bigB cs b = true then leB b else zeroBig
theorem leR_no {cs : List Ctl} {b : Big} (h : bigB cs b = false) : leR cs b = zeroBig := by unfold leR; rw [h]; rfl
theorem leR_yes {cs : List Ctl} {b : Big} (h : bigB cs b = true) : leR cs b = leB b := by unfold leR; rw [if_pos h]
theorem leF_pos {b : Big} {l : Int} {m : Nat} (hl : 0 ≤ l) (h : PosP (sel (idleP b) b.edges.toNat) l m) : l - (m : Int) = leF b l := by
  unfold leF
  by_cases hE : l ≤ b.edges
  · rw [show min l b.edges = l by omega]
    obtain ⟨k, rfl⟩ : ∃ k : Nat, l = k := ⟨l.toNat, by omega⟩
    rw [Int.toNat_natCast]
    obtain ⟨e, -⟩ := sel_pos_at (k := k) (by omega) h
    rw [e]
  · rw [show min l b.edges = b.edges by omega]
    obtain ⟨p1, p2, p3⟩ := h
    have : m = (sel (idleP b) b.edges.toNat).length := by
      by_cases ha : m < (sel (idleP b) b.edges.toNat).length
      · have e : (sel (idleP b) b.edges.toNat)[m]? = some ((sel (idleP b) b.edges.toNat)[m]) := List.getElem?_eq_getElem ha
        have h1 := p3 m _ (Nat.le_refl _) e
        have h2 := sel_mem _ (List.mem_of_getElem? e)
        omega
      · omega
    rw [this]
theorem relB_len (f : Int → Int) (b : Big) : bigMk (relB f b) = bigMk b := by
  unfold bigMk ndMk
  have h1 : (relB f b).nodes.length = b.nodes.length := by simp [relB]
  have h2 : sumBy (fun c : Nd => c.links.length) (relB f b).nodes = sumBy (fun c : Nd => c.links.length) b.nodes := by
    unfold relB
    generalize b.nodes = ns
    induction ns with
    | nil => rfl
    | cons x r ih =>
      have e : ∀ (y : Nd) (l : List Nd), sumBy (fun c : Nd => c.links.length) (y :: l) = y.links.length + sumBy (fun c : Nd => c.links.length) l := fun y l => by simp [sumBy]
      simp only [List.map_cons] at ih ⊢
      rw [e, e, ih, List.length_map]
  have h5 : (relB f b).inner.length = b.inner.length := by simp [relB]
  rw [h1, h2, h5]
  rfl
theorem big_mk {cs : List Ctl} {b : Big} (h : bigB cs b = true) : bigMk b ≤ 1048576 := by
  have z := sizes_of (big_of h).2.1
  have hl := links3 h
  unfold bigMk ndMk
  have hs : sumBy (fun c : Nd => c.links.length) b.nodes ≤ b.nodes.length * 3 := by
    revert hl
    generalize b.nodes = ns
    intro hl
    induction ns with
    | nil => simp [sumBy]
    | cons x r ih =>
      have e : ∀ (y : Nd) (l : List Nd), sumBy (fun c : Nd => c.links.length) (y :: l) = y.links.length + sumBy (fun c : Nd => c.links.length) l := fun y l => by simp [sumBy]
      rw [e, List.length_cons]
      have h1 := hl x (List.mem_cons_self ..)
      have h2 := ih (fun y hy => hl y (List.mem_cons_of_mem _ hy))
      omega
  omega
theorem le_len (cs : List Ctl) (b : Big) : bigMk (leR cs b) ≤ 1048576 := by
  cases hq : bigB cs b with
  | false => rw [leR_no hq]; exact by decide
  | true =>
    rw [leR_yes hq]
    have h1 := relB_len (leF b) b
    have h2 := big_mk hq
    have : bigMk (leB b) = bigMk (relB (leF b) b) := rfl
    omega
theorem big_link {cs : List Ctl} {b : Big} (h : bigB cs b = true) {x : Nd} (hx : x ∈ b.nodes) {l : Int} (hl : l ∈ x.links) : 0 ≤ l ∧ l ≤ 100 := by
  obtain ⟨k, hk⟩ := List.getElem?_of_mem hx
  obtain ⟨i, hi⟩ := List.getElem?_of_mem hl
  have h1 := ((big_of h).2.2.2.2.1 k x hk).2.2 i l hi
  have z := sizes_of (big_of h).2.1
  unfold linkB at h1
  have := inb_true h1
  omega
theorem big_wire {cs : List Ctl} {b : Big} (h : bigB cs b = true) {x : Wr} (hx : x ∈ b.inner) : 0 ≤ x.link ∧ x.link ≤ 100 := by
  obtain ⟨k, hk⟩ := List.getElem?_of_mem hx
  have h1 := (big_of h).2.2.2.2.2.2 k x hk
  have z := sizes_of (big_of h).2.1
  unfold linkB at h1
  have := inb_true h1
  omega
end Go.Proofs.YtlpgldejmdiceabGreat.lep
end
