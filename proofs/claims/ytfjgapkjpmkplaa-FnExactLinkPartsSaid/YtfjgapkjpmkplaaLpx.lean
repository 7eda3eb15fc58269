/- The parts of a graph of at most n nodes, by their least nodes: who they are, and two ways to find them. Plain Lean. -/
import Derived.Test.YtfjgapkjpmkplaaQa
namespace Go.Proofs.Ytfjgapkjpmkplaa.lpx
set_option linter.unusedVariables false

/-- joined by steps of R -/
inductive Conn (R : Nat → Nat → Prop) : Nat → Nat → Prop
  | refl (x : Nat) : Conn R x x
  | step {x y z : Nat} : Conn R x y → R y z → Conn R x z
section
variable {R : Nat → Nat → Prop} {n : Nat} {o s : Nat → Nat}
theorem Conn.trans {x y z : Nat} (h : Conn R x y) (k : Conn R y z) : Conn R x z := by
  induction k with
  | refl => exact h
  | step _ r ih => exact .step ih r
theorem Conn.one {x y : Nat} (h : R x y) : Conn R x y := .step (.refl _) h
theorem Conn.symm (hs : ∀ a b, R a b → R b a) {x y : Nat} (h : Conn R x y) : Conn R y x := by
  induction h with
  | refl => exact .refl _
  | step _ r ih => exact (Conn.one (hs _ _ r)).trans ih
theorem Conn.lt (hR : ∀ a b, R a b → a < n ∧ b < n) {x y : Nat} (h : Conn R x y) (hx : x < n) : y < n := by
  induction h with
  | refl => exact hx
  | step _ r _ => exact (hR _ _ r).2

/-- what both ways keep -/
structure Part (R : Nat → Nat → Prop) (n : Nat) (o : Nat → Nat) : Prop where
  le : ∀ x, x < n → o x ≤ x
  conn : ∀ x, x < n → Conn R x (o x)
theorem Part.zero : Part R n (fun x => x) := ⟨fun _ _ => Nat.le_refl _, fun x _ => .refl x⟩
theorem same_conn (h : ∀ x y, R x y → o x = o y) {x y : Nat} (c : Conn R x y) : o x = o y := by
  induction c with
  | refl => rfl
  | step _ r ih => rw [ih, h _ _ r]
theorem part_uniq (hs : ∀ a b, R a b → R b a) (h : Part R n o) (k : ∀ x y, R x y → o x = o y) (h' : Part R n s) (k' : ∀ x y, R x y → s x = s y) (x : Nat) (hx : x < n) : o x = s x := by
  have e1 : o x = o (s x) := same_conn k (h'.conn x hx)
  have e2 : s x = s (o x) := same_conn k' (h.conn x hx)
  have a1 : s x < n := Nat.lt_of_le_of_lt (h'.le x hx) hx
  have a2 : o x < n := Nat.lt_of_le_of_lt (h.le x hx) hx
  have b1 := h.le _ a1
  have b2 := h'.le _ a2
  omega

/-- how many of the first n have m -/
def cnt : Nat → (Nat → Nat) → Nat → Nat
  | 0, _, _ => 0
  | n + 1, o, m => cnt n o m + (if o n = m then 1 else 0)
theorem cnt_le (o : Nat → Nat) (m : Nat) : ∀ n, cnt n o m ≤ n
  | 0 => Nat.le_refl _
  | n + 1 => by
    have := cnt_le o m n
    unfold cnt
    split <;> omega
theorem cnt_mono {m : Nat} : ∀ n, (∀ z, z < n → s z = m → o z = m) → cnt n s m ≤ cnt n o m
  | 0, _ => Nat.le_refl _
  | n + 1, h => by
    have := cnt_mono n (fun z hz => h z (by omega))
    have hn := h n (by omega)
    unfold cnt
    by_cases e : s n = m
    · rw [if_pos e, if_pos (hn e)]; omega
    · rw [if_neg e]; omega
theorem cnt_more {m v : Nat} : ∀ n, (∀ z, z < n → s z = m → o z = m) → v < n → s v ≠ m → o v = m → cnt n s m + 1 ≤ cnt n o m
  | 0, _, hv, _, _ => absurd hv (Nat.not_lt_zero _)
  | n + 1, h, hv, h1, h2 => by
    have hn := h n (by omega)
    unfold cnt
    by_cases e : v = n
    · subst e
      have := cnt_mono v (fun z hz => h z (by omega))
      rw [if_neg h1, if_pos h2]
      omega
    · have := cnt_more n (fun z hz => h z (by omega)) (by omega) h1 h2
      by_cases e : s n = m
      · rw [if_pos e, if_pos (hn e)]; omega
      · rw [if_neg e]; omega
theorem cnt_pos {m : Nat} : ∀ n, m < n → o m = m → 1 ≤ cnt n o m
  | 0, hm, _ => absurd hm (Nat.not_lt_zero _)
  | n + 1, hm, h => by
    unfold cnt
    by_cases e : m = n
    · subst e; rw [if_pos h]; omega
    · have := cnt_pos n (by omega) h; omega

/-- behind t rounds: the least node of a part has come to all of it, or to t + 1 nodes -/
def Far (R : Nat → Nat → Prop) (n t : Nat) (o : Nat → Nat) : Prop := ∀ m, m < n → (∀ y, Conn R m y → m ≤ y) → (∀ y, Conn R m y → o y = m) ∨ t + 1 ≤ cnt n o m
theorem far_zero : Far R n 0 (fun x => x) := fun m hm hl => .inr (cnt_pos n hm rfl)
theorem part_min (hs : ∀ a b, R a b → R b a) (hR : ∀ a b, R a b → a < n ∧ b < n) (h : Part R n o) {m : Nat} (hm : m < n) (hl : ∀ y, Conn R m y → m ≤ y) {y : Nat} (c : Conn R m y) : m ≤ o y := hl _ (c.trans (h.conn y (c.lt hR hm)))
/-- one round -/
theorem far_next (hs : ∀ a b, R a b → R b a) (hR : ∀ a b, R a b → a < n ∧ b < n) {t : Nat} (h : Part R n s) (h' : Part R n o) (hle : ∀ x, x < n → o x ≤ s x) (hr : ∀ x y, R x y → o x ≤ s y) (hf : Far R n t s) : Far R n (t + 1) o := by
  intro m hm hl
  have hge := fun y (c : Conn R m y) => part_min hs hR h' hm hl c
  have hges := fun y (c : Conn R m y) => part_min hs hR h hm hl c
  have hkeep : ∀ z, z < n → s z = m → o z = m := fun z hz e => by
    have c : Conn R m z := by have := h.conn z hz; rw [e] at this; exact this.symm hs
    have := hge z c
    have := hle z hz
    omega
  rcases hf m hm hl with ha | hc
  · exact .inl (fun y c => by
      have hy := c.lt hR hm
      exact hkeep y hy (ha y c))
  · by_cases hall : ∀ y, Conn R m y → o y = m
    · exact .inl hall
    · refine .inr ?_
      have hex : ∃ v, v < n ∧ s v ≠ m ∧ o v = m := by
        have hm0 : s m = m := by have := h.le m hm; have := hges m (.refl m); omega
        have key : ∀ y, Conn R m y → s y = m ∨ ∃ v, v < n ∧ s v ≠ m ∧ o v = m := by
          intro y c
          induction c with
          | refl => exact .inl hm0
          | @step y z c r ih =>
            rcases ih with e | e
            · by_cases ez : s z = m
              · exact .inl ez
              · refine .inr ⟨z, (hR _ _ r).2, ez, ?_⟩
                have a := hr z y (hs _ _ r)
                have b := hge z (.step c r)
                omega
            · exact .inr e
        rcases Classical.not_forall.1 hall with ⟨y, hy⟩
        rcases Classical.not_imp.1 hy with ⟨c, hne⟩
        rcases key y c with e | e
        · exact absurd (hkeep y (c.lt hR hm) e) hne
        · exact e
      obtain ⟨v, hv, h1, h2⟩ := hex
      have := cnt_more n hkeep hv h1 h2
      omega
theorem least_in (hs : ∀ a b, R a b → R b a) : ∀ (k x : Nat), x < k → ∃ m, Conn R x m ∧ m ≤ x ∧ ∀ y, Conn R m y → m ≤ y := by
  intro k
  induction k with
  | zero => intro x hx; omega
  | succ k ih =>
    intro x hx
    by_cases h : ∃ y, Conn R x y ∧ y < x
    · obtain ⟨y, c, hy⟩ := h
      obtain ⟨m, c2, hm, hl⟩ := ih y (by omega)
      exact ⟨m, c.trans c2, by omega, hl⟩
    · refine ⟨x, .refl x, Nat.le_refl _, fun y c => ?_⟩
      by_cases e : y < x
      · exact absurd ⟨y, c, e⟩ h
      · omega
/-- n rounds are enough -/
theorem far_same (hs : ∀ a b, R a b → R b a) (hR : ∀ a b, R a b → a < n ∧ b < n) (hf : Far R n n o) : ∀ x y, R x y → o x = o y := by
  intro x y r
  obtain ⟨m, c, hm, hl⟩ := least_in hs (x + 1) x (by omega)
  have hx := (hR _ _ r).1
  rcases hf m (by omega) hl with h | h
  · rw [h x (c.symm hs), h y ((c.symm hs).trans (.one r))]
  · have := cnt_le o m n
    omega

/-- one joining: all that have the greater number of two get the lesser one -/
def joinO (o : Nat → Nat) (x y z : Nat) : Nat := if o z = max (o x) (o y) then min (o x) (o y) else o z
theorem join_part (hs : ∀ a b, R a b → R b a) (h : Part R n o) {x y : Nat} (hx : x < n) (hy : y < n) (c : Conn R x y) : Part R n (joinO o x y) := by
  refine ⟨fun z hz => ?_, fun z hz => ?_⟩
  · have := h.le z hz
    unfold joinO
    split <;> omega
  · unfold joinO
    split
    · next e =>
      have c1 := h.conn z hz
      have cx := h.conn x hx
      have cy := h.conn y hy
      have cxy : Conn R (o x) (o y) := ((cx.symm hs).trans c).trans cy
      rw [e] at c1
      rcases Nat.le_total (o x) (o y) with hle | hle
      · rw [Nat.max_eq_right hle] at c1
        rw [Nat.min_eq_left hle]
        exact c1.trans (cxy.symm hs)
      · rw [Nat.max_eq_left hle] at c1
        rw [Nat.min_eq_right hle]
        exact c1.trans cxy
    · exact h.conn z hz
theorem join_same {x y a b : Nat} (h : o a = o b) : joinO o x y a = joinO o x y b := by unfold joinO; rw [h]
theorem join_both (x y : Nat) : joinO o x y x = joinO o x y y := by
  unfold joinO
  rcases Nat.le_total (o x) (o y) with hle | hle
  · rw [Nat.max_eq_right hle, Nat.min_eq_left hle]
    split <;> simp_all
  · rw [Nat.max_eq_left hle, Nat.min_eq_right hle]
    split <;> simp_all
end
end Go.Proofs.Ytfjgapkjpmkplaa.lpx
