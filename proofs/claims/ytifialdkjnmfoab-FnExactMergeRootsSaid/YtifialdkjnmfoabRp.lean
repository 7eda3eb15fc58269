/- A slice of ports that a function gives back; two slices, the first of ports, the second of names. -/
import Derived.Test.YtifialdkjnmfoabHa
import Derived.Test.YtifialdkjnmfoabRt
namespace Go.Proofs.Ytifialdkjnmfoab.rp
open kit bg opn strs only hb hi marks sig inn rs rt pt pts ha
open Go.RowKit
set_option linter.unusedVariables false

/-- a slice with these ports, nil or in the blocks from lo to hi -/
def ResP (w : World) (lo hi : Nat) (v : Value) (ps : List Port) : Prop :=
  ∃ A c, v = .slice A ps.length c ∧ ((A = none ∧ c = 0 ∧ ps = []) ∨ ∃ g f, A = some ⟨g, 0, none⟩ ∧ lo ≤ g ∧ g < hi ∧ ps.length ≤ c ∧ w.rowIs g 112 (c * 2) f ∧ ∀ (k : Nat) p, ps[k]? = some p → f (k * 2) = .int .i64 (p.1 : Nat) ∧ f (k * 2 + 1) = .int .i64 (p.2.1 : Nat))
def MkdP (w : World) (lo hi : Nat) (v : Value) (n : Nat) (M : Nat → Value) : Prop :=
  ∃ A c, v = .slice A n c ∧ ((A = none ∧ c = 0 ∧ n = 0) ∨ ∃ g f, A = some ⟨g, 0, none⟩ ∧ lo ≤ g ∧ g < hi ∧ n ≤ c ∧ w.rowIs g 112 (c * 2) f ∧ ∀ x, x < n * 2 → f x = M x)
theorem ptc_get : ∀ {ps : List Port} {k : Nat} {p : Port}, ps[k]? = some p → (ptc ps)[k * 2]? = some (.int .i64 (p.1 : Nat)) ∧ (ptc ps)[k * 2 + 1]? = some (.int .i64 (p.2.1 : Nat))
  | [], k, p, h => by simp at h
  | q :: ps, 0, p, h => by
    simp at h
    subst h
    exact ⟨rfl, rfl⟩
  | q :: ps, k + 1, p, h => by
    have ih := ptc_get (ps := ps) (k := k) (p := p) (by simpa using h)
    have e : ptc (q :: ps) = .int .i64 (q.1 : Nat) :: .int .i64 (q.2.1 : Nat) :: ptc ps := rfl
    rw [e, show (k + 1) * 2 = k * 2 + 1 + 1 by omega]
    exact ⟨by simpa using ih.1, by simpa using ih.2⟩
theorem ptc_len (ps : List Port) : (ptc ps).length = ps.length * 2 := by
  induction ps with
  | nil => rfl
  | cons p ps ih =>
    have e : ptc (p :: ps) = .int .i64 (p.1 : Nat) :: .int .i64 (p.2.1 : Nat) :: ptc ps := rfl
    rw [e]; simp; omega
section
variable {w w' : World} {lo hi n : Nat} {v : Value} {ps : List Port} {M : Nat → Value}
theorem ResP.nil : ResP w lo hi (.slice none 0 0) [] := ⟨none, 0, rfl, .inl ⟨rfl, rfl, rfl⟩⟩
theorem ResP.stay (h : ResP w lo hi v ps) (hb : ∀ b f c, w.rowIs b 112 c f → lo ≤ b → b < hi → w'.heap[b]? = w.heap[b]?) : ResP w' lo hi v ps := by
  obtain ⟨A, c, rfl, hq⟩ := h
  refine ⟨A, c, rfl, hq.imp id ?_⟩
  rintro ⟨g, f, e, h1, h2, h3, h4, h5⟩
  exact ⟨g, f, e, h1, h2, h3, h4.of_block (hb g f _ h4 h1 h2), h5⟩
theorem ResP.on (h : ResP w lo hi v ps) (hb : Below w.heap.size w w') : ResP w' lo hi v ps := h.stay fun b f c hr _ _ => hb.block b hr.lt
theorem ResP.far {l r : Nat} (h : ResP w lo hi v ps) (ho : Only l r w w') (hr : r ≤ lo ∨ hi ≤ l) : ResP w' lo hi v ps := h.stay fun b f c hb h1 h2 => ho.block b hb.lt (by omega)
theorem MkdP.on (h : MkdP w lo hi v n M) (hb : Below w.heap.size w w') : MkdP w' lo hi v n M := by
  obtain ⟨A, c, rfl, hr⟩ := h
  refine ⟨A, c, rfl, hr.imp id ?_⟩
  rintro ⟨g, f, e, h1, h2, h3, h4, h5⟩
  exact ⟨g, f, e, h1, h2, h3, h4.of_block (hb.block g h4.lt), h5⟩
theorem MkdP.apart {l r : Nat} (h : MkdP w lo hi v n M) (ho : Only l r w w') (hr : r ≤ lo ∨ hi ≤ l) : MkdP w' lo hi v n M := by
  obtain ⟨A, c, rfl, hq⟩ := h
  refine ⟨A, c, rfl, hq.imp id ?_⟩
  rintro ⟨g, f, e, h1, h2, h3, h4, h5⟩
  exact ⟨g, f, e, h1, h2, h3, h4.of_block (ho.block g h4.lt (by omega)), h5⟩
theorem ResP.one (h : OwnsP w lo v ps) : ∃ g, lo ≤ g ∧ v.ownBlock = some g ∧ g < w.heap.size ∧ ResP w g (g + 1) v ps := by
  obtain ⟨⟨h1, h2⟩, hn⟩ := h
  rcases h2 with ⟨e, _⟩ | ⟨g, cap, cur, rfl, hb, hh, hc, hm, hs, ht⟩
  · exact absurd e hn
  · have hrow : w.rowIs g 112 (cap * 2) (fun i => (cur[i]?).getD undef) := ⟨cur, hh, by simpa using hs, fun i hi => by
      show cur[i]? = some ((cur[i]?).getD undef)
      rw [Array.getElem?_eq_getElem (show i < cur.size by omega)]; rfl⟩
    have hat : ∀ (i : Nat) u, i < ps.length * 2 → (ptc ps)[i]? = some u → (cur[i]?).getD undef = u := fun i u hi hu => by
      rw [← ht, List.getElem?_take_of_lt hi] at hu
      have hu2 : cur[i]? = some u := by simpa using hu
      rw [hu2]; rfl
    refine ⟨g, hb, rfl, hrow.lt, _, _, rfl, .inr ⟨g, _, rfl, Nat.le_refl _, Nat.lt_succ_self _, hc, hrow, fun k p hk => ?_⟩⟩
    have hkl : k < ps.length := (List.getElem?_eq_some_iff.1 hk).1
    obtain ⟨e1, e2⟩ := ptc_get hk
    exact ⟨hat _ _ (by omega) e1, hat _ _ (by omega) e2⟩
theorem ResP.one_empty (w : World) : ResP (w.alloc (.cells #[] 112)) w.heap.size (w.heap.size + 1) (.slice (some ⟨w.heap.size, 0, none⟩) 0 0) [] :=
  ⟨_, 0, rfl, .inr ⟨_, _, rfl, Nat.le_refl _, Nat.lt_succ_self _, Nat.le_refl _, row_new w #[] 112 0 rfl, fun k p h => by simp at h⟩⟩
theorem ResP.at (h : ResP w lo hi v ps) (hl : ps.length ≤ n) : ∃ A c, v = .slice A ps.length c ∧ PtsAt w w.heap.size A ps.length ps := by
  obtain ⟨A, c, rfl, ⟨rfl, rfl, rfl⟩ | ⟨g, f, rfl, h1, h2, h3, h4, h5⟩⟩ := h
  · exact ⟨_, _, rfl, rfl, fun h => absurd h (by simp)⟩
  · refine ⟨_, _, rfl, rfl, fun _ => ⟨g, 0, rfl, h4.lt, fun k p hk => ?_⟩⟩
    have hkl : k < ps.length := (List.getElem?_eq_some_iff.1 hk).1
    obtain ⟨e1, e2⟩ := h5 k p hk
    rw [Nat.zero_add]
    exact ⟨by rw [h4.cell (show k * 2 < c * 2 by omega), e1], by rw [h4.cell (show k * 2 + 1 < c * 2 by omega), e2]⟩
end
def TwoP (w : World) (lo : Nat) (v v' : Value) (ps : List Port) (ys' : List Value) : Prop :=
  ∃ g g', g ≠ g' ∧ lo ≤ g ∧ lo ≤ g' ∧ ResP w g (g + 1) v ps ∧ Res w g' (g' + 1) 9 v' ys'
theorem TwoP.nil {w : World} {lo : Nat} : TwoP w lo (.slice none 0 0) (.slice none 0 0) [] [] := ⟨lo, lo + 1, by omega, Nat.le_refl _, Nat.le_succ _, ResP.nil, Res.nil⟩
def PtPost (q : Bool) (ps : List Port) (ys' : List Value) (w : World) (e : Ending) (w' : World) : Prop :=
  ∃ v v', e = .returned (.tuple #[v, v', .bool q]) ∧ TwoP w' w.heap.size v v' ps ys' ∧ Below w.heap.size w w'
end Go.Proofs.Ytifialdkjnmfoab.rp
