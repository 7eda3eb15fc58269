/- The number of steps to the nearest goal, in plain Lean: level by level, and by rounds that only lower; no program. -/
import Derived.Test.YtlpgldejmdiceaaRkx
namespace Go.Proofs.Ytlpgldejmdiceaa.fax
open has syx rea rkx
set_option linter.unusedVariables false
/-- the value at a step's source -/
abbrev fr' (ρ : List Int) (s : Tri) : Int := ρ.getD s.1.toNat 0
section
variable (n : Nat) (ts : List Tri) (gs : List Int)
/-- each number that is there leads on to a lower one, or belongs to a goal -/
structure Wit (ρ : List Int) : Prop where
  len : ρ.length = n
  goal : ∀ i, i < n → hasB gs i = true → ρ[i]? = some 0
  low : ∀ (i : Nat) r, ρ[i]? = some r → -1 ≤ r
  all : ∀ (i : Nat) r, ρ[i]? = some r → 0 ≤ r → hasB gs i = true ∨ ∃ s ∈ ts, s.1 = i ∧ 0 ≤ at' ρ s ∧ at' ρ s + 1 ≤ r
/-- no step gives a lower one -/
def Stab (ρ : List Int) : Prop := ∀ s ∈ ts, 0 ≤ at' ρ s → 0 ≤ fr' ρ s ∧ fr' ρ s ≤ at' ρ s + 1
end
section
variable {n : Nat} {ts : List Tri} {gs : List Int}
theorem fr_get {ρ : List Int} {s : Tri} (h : 0 ≤ s.1 ∧ s.1 < (ρ.length : Int)) : ρ[s.1.toNat]? = some (fr' ρ s) := by
  have hl : s.1.toNat < ρ.length := by omega
  show _ = some (ρ.getD s.1.toNat 0)
  rw [List.getD_eq_getElem?_getD, List.getElem?_eq_getElem hl]
  rfl
theorem wit_half (ht : ∀ t ∈ ts, (0 ≤ t.1 ∧ t.1 < (n : Int)) ∧ 0 ≤ t.2.2 ∧ t.2.2 < (n : Int)) {ρ σ : List Int} (h : Wit n ts gs ρ) (k : Wit n ts gs σ) (ks : Stab ts σ) : ∀ (r : Nat) (i : Nat) (q : Int), ρ[i]? = some (r : Int) → σ[i]? = some q → 0 ≤ q ∧ q ≤ r := by
  intro r
  induction r using Nat.strongRecOn with
  | _ r ih =>
    intro i q hi hq
    have hil : i < n := by rw [← h.len]; exact (List.getElem?_eq_some_iff.1 hi).1
    rcases h.all i r hi (by omega) with hg | ⟨s, hs, hsi, h0, h1⟩
    · have := k.goal i hil hg
      rw [hq] at this
      injection this with this
      omega
    · obtain ⟨⟨f1, f2⟩, t1, t2⟩ := ht s hs
      obtain ⟨p, hp⟩ : ∃ p : Nat, at' ρ s = (p : Int) := ⟨(at' ρ s).toNat, by omega⟩
      have hg1 := at_get (ρ := ρ) (s := s) (by rw [h.len]; exact ⟨t1, t2⟩)
      have hg2 := at_get (ρ := σ) (s := s) (by rw [k.len]; exact ⟨t1, t2⟩)
      rw [hp] at hg1 h1
      obtain ⟨a, b⟩ := ih p (by omega) _ _ hg1 hg2
      obtain ⟨c, d⟩ := ks s hs a
      have hf := fr_get (ρ := σ) (s := s) (by rw [k.len]; exact ⟨f1, f2⟩)
      have e : s.1.toNat = i := by omega
      rw [e, hq] at hf
      injection hf with hf
      omega
theorem wit_uniq (ht : ∀ t ∈ ts, (0 ≤ t.1 ∧ t.1 < (n : Int)) ∧ 0 ≤ t.2.2 ∧ t.2.2 < (n : Int)) {ρ σ : List Int} (h : Wit n ts gs ρ) (hs : Stab ts ρ) (k : Wit n ts gs σ) (ks : Stab ts σ) : ρ = σ := by
  apply List.ext_getElem?
  intro i
  by_cases hi : i < n
  · obtain ⟨r, hr⟩ : ∃ r, ρ[i]? = some r := ⟨_, List.getElem?_eq_getElem (by rw [h.len]; exact hi)⟩
    obtain ⟨q, hq⟩ : ∃ q, σ[i]? = some q := ⟨_, List.getElem?_eq_getElem (by rw [k.len]; exact hi)⟩
    rw [hr, hq]
    congr 1
    have a := h.low i r hr
    have b := k.low i q hq
    by_cases h0 : 0 ≤ r
    · obtain ⟨m, rfl⟩ : ∃ m : Nat, r = (m : Int) := ⟨r.toNat, by omega⟩
      obtain ⟨c, d⟩ := wit_half ht h k ks m i q hr hq
      obtain ⟨m2, rfl⟩ : ∃ m : Nat, q = (m : Int) := ⟨q.toNat, by omega⟩
      obtain ⟨e, f⟩ := wit_half ht k h hs m2 i m hq hr
      omega
    · by_cases h1 : 0 ≤ q
      · obtain ⟨m2, rfl⟩ : ∃ m : Nat, q = (m : Int) := ⟨q.toNat, by omega⟩
        obtain ⟨e, f⟩ := wit_half ht k h hs m2 i r hq hr
        omega
      · omega
  · rw [List.getElem?_eq_none (by rw [h.len]; omega), List.getElem?_eq_none (by rw [k.len]; omega)]
theorem wit_rk0 : Wit n ts gs (rk0 n gs) := by
  refine ⟨rk0_len, fun i hi hg => by rw [rk0_at hi, if_pos hg], fun i r hr => ?_, fun i r hr h0 => ?_⟩
  · have hi := (List.getElem?_eq_some_iff.1 hr).1
    rw [rk0_len] at hi
    rw [rk0_at hi] at hr
    injection hr with hr
    split at hr <;> omega
  · have hi := (List.getElem?_eq_some_iff.1 hr).1
    rw [rk0_len] at hi
    rw [rk0_at hi] at hr
    injection hr with hr
    split at hr
    · rename_i h; exact .inl h
    · omega

/-! ### a number that a step lowers, or gives -/
theorem set_get {ρ : List Int} {q i : Nat} {u r : Int} (h : (ρ.set q u)[i]? = some r) : (q = i ∧ r = u ∧ i < ρ.length) ∨ (q ≠ i ∧ ρ[i]? = some r) := by
  by_cases e : q = i
  · subst e
    have hl := (List.getElem?_eq_some_iff.1 h).1
    rw [List.length_set] at hl
    rw [List.getElem?_set_self hl] at h
    injection h with h
    exact .inl ⟨rfl, h.symm, hl⟩
  · rw [List.getElem?_set_ne e] at h
    exact .inr ⟨e, h⟩
/-- a step s may write its target's number and one more at its source, if that is lower or the first there -/
theorem wit_set (ht : ∀ t ∈ ts, (0 ≤ t.1 ∧ t.1 < (n : Int)) ∧ 0 ≤ t.2.2 ∧ t.2.2 < (n : Int)) {ρ : List Int} (h : Wit n ts gs ρ) {s : Tri} (hs : s ∈ ts) (h0 : 0 ≤ at' ρ s) (h1 : fr' ρ s < 0 ∨ at' ρ s + 1 < fr' ρ s) : Wit n ts gs (ρ.set s.1.toNat (at' ρ s + 1)) := by
  obtain ⟨⟨f1, f2⟩, t1, t2⟩ := ht s hs
  have hfg := fr_get (ρ := ρ) (s := s) (by rw [h.len]; exact ⟨f1, f2⟩)
  have hng : hasB gs (s.1.toNat : Int) = false := by
    cases hb : hasB gs (s.1.toNat : Int) with
    | false => rfl
    | true =>
      have := h.goal s.1.toNat (by omega) hb
      rw [hfg] at this
      injection this with this
      omega
  have hne : s.1.toNat ≠ s.2.2.toNat := fun e => by
    have hg1 := at_get (ρ := ρ) (s := s) (by rw [h.len]; exact ⟨t1, t2⟩)
    rw [← e, hfg] at hg1
    injection hg1 with hg1
    omega
  -- what another step reads behind the write is no greater, where it was there
  have hat : ∀ u ∈ ts, 0 ≤ at' ρ u → 0 ≤ at' (ρ.set s.1.toNat (at' ρ s + 1)) u ∧ at' (ρ.set s.1.toNat (at' ρ s + 1)) u ≤ at' ρ u := fun u hu hu0 => by
    obtain ⟨-, u1, u2⟩ := ht u hu
    have g1 := at_get (ρ := ρ) (s := u) (by rw [h.len]; exact ⟨u1, u2⟩)
    have g2 := at_get (ρ := ρ.set s.1.toNat (at' ρ s + 1)) (s := u) (by rw [List.length_set, h.len]; exact ⟨u1, u2⟩)
    rcases set_get g2 with ⟨e, e2, -⟩ | ⟨e, e2⟩
    · rw [← e, hfg] at g1
      injection g1 with g1
      omega
    · rw [g1] at e2
      injection e2 with e2
      omega
  refine ⟨by rw [List.length_set]; exact h.len, fun i hi hg => ?_, fun i r hr => ?_, fun i r hr hr0 => ?_⟩
  · have e : s.1.toNat ≠ i := fun e => by rw [e, hg] at hng; cases hng
    rw [List.getElem?_set_ne e]
    exact h.goal i hi hg
  · rcases set_get hr with ⟨-, e, -⟩ | ⟨-, e⟩
    · omega
    · exact h.low i r e
  · rcases set_get hr with ⟨e, e2, -⟩ | ⟨e, e2⟩
    · refine .inr ⟨s, hs, by omega, ?_⟩
      obtain ⟨a, b⟩ := hat s hs h0
      exact ⟨a, by omega⟩
    · rcases h.all i r e2 hr0 with hg | ⟨u, hu, hui, a, b⟩
      · exact .inl hg
      · obtain ⟨c, d⟩ := hat u hu a
        exact .inr ⟨u, hu, hui, c, by omega⟩
theorem Fax_up {M N : Int} {ρ : List Int} (h : Bnd M ρ) (hMN : M ≤ N) : Bnd N ρ := fun i r hr => Int.le_trans (h i r hr) hMN
/-! ### level by level -/
def stepL (l : Int) (ρ : List Int) (s : Tri) : List Int := if at' ρ s = l ∧ fr' ρ s < 0 then ρ.set s.1.toNat (l + 1) else ρ
def lvl (ts : List Tri) (l : Int) (ρ : List Int) : List Int := ts.foldl (stepL l) ρ
/-- in the middle of a round; us: the steps that are done -/
structure Mid (n : Nat) (ts : List Tri) (gs : List Int) (l : Int) (us : List Tri) (ρ : List Int) : Prop where
  wit : Wit n ts gs ρ
  bnd : Bnd (l + 1) ρ
  old : ∀ s ∈ ts, 0 ≤ at' ρ s → at' ρ s < l → 0 ≤ fr' ρ s ∧ fr' ρ s ≤ at' ρ s + 1
  done : ∀ s ∈ us, at' ρ s = l → 0 ≤ fr' ρ s
theorem mid_step (ht : ∀ t ∈ ts, (0 ≤ t.1 ∧ t.1 < (n : Int)) ∧ 0 ≤ t.2.2 ∧ t.2.2 < (n : Int)) {l : Int} (hl : 0 ≤ l) {us : List Tri} {ρ : List Int} {s : Tri} (hs : s ∈ ts) (hus : ∀ u ∈ us, u ∈ ts) (h : Mid n ts gs l us ρ) : Mid n ts gs l (us ++ [s]) (stepL l ρ s) ∧ Grows ρ (stepL l ρ s) := by
  unfold stepL
  by_cases hc : at' ρ s = l ∧ fr' ρ s < 0
  · rw [if_pos hc]
    obtain ⟨⟨f1, f2⟩, t1, t2⟩ := ht s hs
    have hfg := fr_get (ρ := ρ) (s := s) (by rw [h.wit.len]; exact ⟨f1, f2⟩)
    have hw := wit_set ht h.wit hs (by omega) (.inl hc.2)
    rw [hc.1] at hw
    have hg : Grows ρ (ρ.set s.1.toNat (l + 1)) := ⟨by simp, fun i r hr h0 => by
      have e : s.1.toNat ≠ i := fun e => by
        subst e
        rw [hfg] at hr
        injection hr with hr
        omega
      rw [List.getElem?_set_ne e]; exact hr, fun i r hr => h.wit.low i r hr, fun i r hr => hw.low i r hr⟩
    have hat : ∀ u ∈ ts, at' (ρ.set s.1.toNat (l + 1)) u = at' ρ u ∨ at' (ρ.set s.1.toNat (l + 1)) u = l + 1 := fun u hu => by
      obtain ⟨-, u1, u2⟩ := ht u hu
      have g1 := at_get (ρ := ρ) (s := u) (by rw [h.wit.len]; exact ⟨u1, u2⟩)
      have g2 := at_get (ρ := ρ.set s.1.toNat (l + 1)) (s := u) (by rw [List.length_set, h.wit.len]; exact ⟨u1, u2⟩)
      rcases set_get g2 with ⟨_, e2, _⟩ | ⟨_, e2⟩
      · exact .inr e2
      · rw [g1] at e2; injection e2 with e2; exact .inl e2.symm
    have hfr : ∀ u ∈ ts, 0 ≤ fr' ρ u → fr' (ρ.set s.1.toNat (l + 1)) u = fr' ρ u := fun u hu h0 => by
      obtain ⟨u1, -⟩ := ht u hu
      have g1 := fr_get (ρ := ρ) (s := u) (by rw [h.wit.len]; exact u1)
      have g2 := fr_get (ρ := ρ.set s.1.toNat (l + 1)) (s := u) (by rw [List.length_set, h.wit.len]; exact u1)
      rw [hg.stay _ _ g1 h0] at g2
      injection g2 with g2
      exact g2.symm
    have hself : fr' (ρ.set s.1.toNat (l + 1)) s = l + 1 := by
      have g2 := fr_get (ρ := ρ.set s.1.toNat (l + 1)) (s := s) (by rw [List.length_set, h.wit.len]; exact ⟨f1, f2⟩)
      rw [List.getElem?_set_self (by rw [h.wit.len]; omega)] at g2
      injection g2 with g2
      exact g2.symm
    refine ⟨⟨hw, fun i r hr => ?_, fun u hu h0 h1 => ?_, fun u hu h0 => ?_⟩, hg⟩
    · rcases set_get hr with ⟨_, e, _⟩ | ⟨_, e⟩
      · omega
      · exact h.bnd i r e
    · rcases hat u hu with e | e
      · rw [e] at h0 h1 ⊢
        obtain ⟨a, b⟩ := h.old u hu h0 h1
        rw [hfr u hu a]
        exact ⟨a, b⟩
      · omega
    · rcases List.mem_append.1 hu with hu | hu
      · rcases hat u (hus u hu) with e | e
        · rw [e] at h0
          have a := h.done u hu h0
          rw [hfr u (hus u hu) a]
          exact a
        · omega
      · obtain rfl := List.mem_singleton.1 hu
        rw [hself]
        omega
  · rw [if_neg hc]
    refine ⟨⟨h.wit, h.bnd, h.old, fun u hu h0 => ?_⟩, Grows.refl fun i r hr => h.wit.low i r hr⟩
    rcases List.mem_append.1 hu with hu | hu
    · exact h.done u hu h0
    · obtain rfl := List.mem_singleton.1 hu
      by_cases a : 0 ≤ fr' ρ u
      · exact a
      · exact absurd ⟨h0, by omega⟩ hc
theorem mid_fold (ht : ∀ t ∈ ts, (0 ≤ t.1 ∧ t.1 < (n : Int)) ∧ 0 ≤ t.2.2 ∧ t.2.2 < (n : Int)) {l : Int} (hl : 0 ≤ l) : ∀ (vs us : List Tri) (ρ : List Int), (∀ v ∈ vs, v ∈ ts) → (∀ u ∈ us, u ∈ ts) → Mid n ts gs l us ρ → Mid n ts gs l (us ++ vs) (vs.foldl (stepL l) ρ) ∧ Grows ρ (vs.foldl (stepL l) ρ)
  | [], us, ρ, _, _, h => by rw [List.append_nil]; exact ⟨h, Grows.refl fun i r hr => h.wit.low i r hr⟩
  | v :: vs, us, ρ, h1, h2, h => by
    obtain ⟨a, b⟩ := mid_step ht hl (h1 v List.mem_cons_self) h2 h
    obtain ⟨c, d⟩ := mid_fold ht hl vs (us ++ [v]) (stepL l ρ v) (fun x hx => h1 x (List.mem_cons_of_mem _ hx)) (fun x hx => by
      rcases List.mem_append.1 hx with hx | hx
      · exact h2 x hx
      · rw [List.mem_singleton.1 hx]; exact h1 v List.mem_cons_self) a
    rw [List.append_assoc] at c
    exact ⟨c, b.trans d⟩
/-- nothing of the level: nothing is written -/
theorem lvl_none (ht : ∀ t ∈ ts, 0 ≤ t.2.2 ∧ t.2.2 < (n : Int)) {l : Int} {ρ : List Int} (hn : ρ.length = n) (h : ∀ (i : Nat) r, ρ[i]? = some r → r ≠ l) : ∀ (vs : List Tri), (∀ v ∈ vs, v ∈ ts) → vs.foldl (stepL l) ρ = ρ
  | [], _ => rfl
  | v :: vs, hv => by
    have e : stepL l ρ v = ρ := by
      unfold stepL
      rw [if_neg (fun hc => h _ _ (at_get (ρ := ρ) (s := v) (by rw [hn]; exact ht v (hv v List.mem_cons_self))) hc.1)]
    show vs.foldl (stepL l) (stepL l ρ v) = ρ
    rw [e]
    exact lvl_none ht hn h vs (fun x hx => hv x (List.mem_cons_of_mem _ hx))
/-- behind r rounds -/
structure Lev (n : Nat) (ts : List Tri) (gs : List Int) (r : Nat) (ρ : List Int) : Prop where
  wit : Wit n ts gs ρ
  bnd : Bnd r ρ
  old : ∀ s ∈ ts, 0 ≤ at' ρ s → at' ρ s < r → 0 ≤ fr' ρ s ∧ fr' ρ s ≤ at' ρ s + 1
  cnt : (∀ (i : Nat) q, ρ[i]? = some q → q ≠ r) ∨ r ≤ cnt ρ
theorem lev_zero : Lev n ts gs 0 (rk0 n gs) := ⟨wit_rk0, bnd_rk0, fun s _ h0 h1 => by omega, .inr (Nat.zero_le _)⟩
theorem lev_next (ht : ∀ t ∈ ts, (0 ≤ t.1 ∧ t.1 < (n : Int)) ∧ 0 ≤ t.2.2 ∧ t.2.2 < (n : Int)) {r : Nat} {ρ : List Int} (h : Lev n ts gs r ρ) : Lev n ts gs (r + 1) (lvl ts r ρ) := by
  have hm : Mid n ts gs (r : Int) [] ρ := ⟨h.wit, Fax_up h.bnd (by omega), h.old, fun s hs => by cases hs⟩
  obtain ⟨a, b⟩ := mid_fold ht (by omega) ts [] ρ (fun _ hx => hx) (fun _ hx => by cases hx) hm
  rw [List.nil_append] at a
  refine ⟨a.wit, fun i q hq => by have := a.bnd i q hq; omega, fun s hs h0 h1 => ?_, ?_⟩
  · by_cases e : at' (lvl ts r ρ) s < r
    · exact a.old s hs h0 e
    · have e2 : at' (lvl ts r ρ) s = r := by omega
      refine ⟨a.done s hs e2, ?_⟩
      have hf := fr_get (ρ := lvl ts r ρ) (s := s) (by rw [show (lvl ts r ρ).length = n from a.wit.len]; exact (ht s hs).1)
      have := a.bnd _ _ hf
      omega
  · rcases h.cnt with hd | hc
    · have e : lvl ts r ρ = ρ := lvl_none (fun t h => (ht t h).2) h.wit.len hd ts (fun _ hx => hx)
      rw [e]
      exact .inl (fun i q hq => by have := h.bnd i q hq; omega)
    · rcases (grows_cnt b).2 with e | e
      · have e2 : lvl ts r ρ = ρ := e
        rw [e2]
        exact .inl (fun i q hq => by have := h.bnd i q hq; omega)
      · exact .inr (by show r + 1 ≤ cnt (lvl ts r ρ); have e2 : cnt ρ + 1 ≤ cnt (lvl ts r ρ) := e; omega)
theorem lev_stab (ht : ∀ t ∈ ts, (0 ≤ t.1 ∧ t.1 < (n : Int)) ∧ 0 ≤ t.2.2 ∧ t.2.2 < (n : Int)) {ρ : List Int} (h : Lev n ts gs n ρ) : Stab ts ρ := fun s hs h0 => by
  obtain ⟨⟨f1, f2⟩, t1, t2⟩ := ht s hs
  have hg := at_get (ρ := ρ) (s := s) (by rw [h.wit.len]; exact ⟨t1, t2⟩)
  have hf := fr_get (ρ := ρ) (s := s) (by rw [h.wit.len]; exact ⟨f1, f2⟩)
  have hb := h.bnd _ _ hg
  have hb2 := h.bnd _ _ hf
  by_cases e : at' ρ s < n
  · exact h.old s hs h0 e
  · rcases h.cnt with hd | hc
    · exact absurd (by omega) (hd _ _ hg)
    · have := cnt_all (ρ := ρ) (by rw [h.wit.len]; exact hc) _ (List.mem_of_getElem? hf)
      omega
def lvls (ts : List Tri) (ρ : List Int) : Nat → List Int
  | 0 => ρ
  | r + 1 => lvl ts r (lvls ts ρ r)
/-- the numbers of steps to the goals -/
def faL (n : Nat) (ts : List Tri) (gs : List Int) : List Int := lvls ts (rk0 n gs) n
theorem lvls_lev (ht : ∀ t ∈ ts, (0 ≤ t.1 ∧ t.1 < (n : Int)) ∧ 0 ≤ t.2.2 ∧ t.2.2 < (n : Int)) : ∀ r, Lev n ts gs r (lvls ts (rk0 n gs) r)
  | 0 => lev_zero
  | r + 1 => lev_next ht (lvls_lev ht r)
/-! ### rounds that only lower -/
def stepF (ρ : List Int) (s : Tri) : List Int := if 0 ≤ at' ρ s ∧ (fr' ρ s < 0 ∨ at' ρ s + 1 < fr' ρ s) then ρ.set s.1.toNat (at' ρ s + 1) else ρ
def bfr (ts : List Tri) (ρ : List Int) : List Int := ts.foldl stepF ρ
def HasTo (δ : List Int) (r : Int) (ρ : List Int) : Prop := ∀ (i : Nat) v, δ[i]? = some v → 0 ≤ v → v ≤ r → ρ[i]? = some v
theorem wit_step (ht : ∀ t ∈ ts, (0 ≤ t.1 ∧ t.1 < (n : Int)) ∧ 0 ≤ t.2.2 ∧ t.2.2 < (n : Int)) {ρ : List Int} {s : Tri} (hs : s ∈ ts) (h : Wit n ts gs ρ) : Wit n ts gs (stepF ρ s) := by
  unfold stepF
  split
  · rename_i hc; exact wit_set ht h hs hc.1 hc.2
  · exact h
theorem step_keep (ht : ∀ t ∈ ts, (0 ≤ t.1 ∧ t.1 < (n : Int)) ∧ 0 ≤ t.2.2 ∧ t.2.2 < (n : Int)) {ρ δ : List Int} {s : Tri} (hs : s ∈ ts) (h : Wit n ts gs ρ) (k : Wit n ts gs δ) (ks : Stab ts δ) {i : Nat} {v : Int} (hd : δ[i]? = some v) (h0 : 0 ≤ v) (hi : ρ[i]? = some v) : (stepF ρ s)[i]? = some v := by
  have hw := wit_step ht hs h
  have hl : i < (stepF ρ s).length := by rw [hw.len, ← h.len]; exact (List.getElem?_eq_some_iff.1 hi).1
  obtain ⟨q, hq⟩ : ∃ q, (stepF ρ s)[i]? = some q := ⟨_, List.getElem?_eq_getElem hl⟩
  rw [hq]
  congr 1
  unfold stepF at hq
  split at hq
  · rename_i hc
    rcases set_get hq with ⟨e, e2, -⟩ | ⟨-, e⟩
    · have hfg := fr_get (ρ := ρ) (s := s) (by rw [h.len]; exact (ht s hs).1)
      rw [e, hi] at hfg
      injection hfg with hfg
      obtain ⟨m, hm⟩ : ∃ m : Nat, q = (m : Int) := ⟨q.toNat, by omega⟩
      have hq' : (stepF ρ s)[i]? = some (m : Int) := by
        unfold stepF
        rw [if_pos hc, hq, hm]
      have := wit_half ht hw k ks m i v hq' hd
      omega
    · rw [hi] at e; injection e with e; exact e.symm
  · rw [hi] at hq; injection hq with hq; exact hq.symm
theorem step_tight (ht : ∀ t ∈ ts, (0 ≤ t.1 ∧ t.1 < (n : Int)) ∧ 0 ≤ t.2.2 ∧ t.2.2 < (n : Int)) {ρ δ : List Int} {s : Tri} (hs : s ∈ ts) (h : Wit n ts gs ρ) (k : Wit n ts gs δ) (ks : Stab ts δ) (h0 : 0 ≤ at' δ s) (he : fr' δ s = at' δ s + 1) (hat : at' ρ s = at' δ s) : (stepF ρ s)[s.1.toNat]? = some (fr' δ s) := by
  have hw := wit_step ht hs h
  have hfg := fr_get (ρ := ρ) (s := s) (by rw [h.len]; exact (ht s hs).1)
  have hfd := fr_get (ρ := δ) (s := s) (by rw [k.len]; exact (ht s hs).1)
  unfold stepF
  split
  · rw [List.getElem?_set_self (by rw [h.len]; have := (ht s hs).1; omega), hat, he]
  · rename_i hc
    rw [hfg]
    congr 1
    have h1 : 0 ≤ fr' ρ s ∧ fr' ρ s ≤ at' ρ s + 1 := by
      by_cases a : 0 ≤ fr' ρ s
      · refine ⟨a, ?_⟩
        by_cases b : at' ρ s + 1 < fr' ρ s
        · exact absurd ⟨by omega, .inr b⟩ hc
        · omega
      · exact absurd ⟨by omega, .inl (by omega)⟩ hc
    obtain ⟨m, hm⟩ : ∃ m : Nat, fr' ρ s = (m : Int) := ⟨(fr' ρ s).toNat, by omega⟩
    rw [hm] at hfg
    have := wit_half ht h k ks m _ _ hfg hfd
    omega
theorem bfr_fold (ht : ∀ t ∈ ts, (0 ≤ t.1 ∧ t.1 < (n : Int)) ∧ 0 ≤ t.2.2 ∧ t.2.2 < (n : Int)) {δ : List Int} (k : Wit n ts gs δ) (ks : Stab ts δ) {r : Int} : ∀ (vs us : List Tri) (ρ : List Int), (∀ v ∈ vs, v ∈ ts) → (∀ u ∈ us, u ∈ ts) → Wit n ts gs ρ → HasTo δ r ρ → (∀ u ∈ us, 0 ≤ at' δ u → at' δ u ≤ r → fr' δ u = at' δ u + 1 → ρ[u.1.toNat]? = some (fr' δ u)) →
    Wit n ts gs (vs.foldl stepF ρ) ∧ HasTo δ r (vs.foldl stepF ρ) ∧ ∀ u ∈ us ++ vs, 0 ≤ at' δ u → at' δ u ≤ r → fr' δ u = at' δ u + 1 → (vs.foldl stepF ρ)[u.1.toNat]? = some (fr' δ u)
  | [], us, ρ, _, _, h, hh, hd => ⟨h, hh, by rw [List.append_nil]; exact hd⟩
  | v :: vs, us, ρ, h1, h2, h, hh, hd => by
    have hv := h1 v List.mem_cons_self
    have hfd : ∀ u ∈ ts, δ[u.1.toNat]? = some (fr' δ u) := fun u hu => fr_get (by rw [k.len]; exact (ht u hu).1)
    have a := bfr_fold ht k ks (r := r) vs (us ++ [v]) (stepF ρ v) (fun x hx => h1 x (List.mem_cons_of_mem _ hx)) (fun x hx => by
      rcases List.mem_append.1 hx with hx | hx
      · exact h2 x hx
      · rw [List.mem_singleton.1 hx]; exact hv) (wit_step ht hv h) (fun i w hw h0 hr => step_keep ht hv h k ks hw h0 (hh i w hw h0 hr)) (fun u hu h0 hr he => by
      rcases List.mem_append.1 hu with hu | hu
      · exact step_keep ht hv h k ks (hfd u (h2 u hu)) (by omega) (hd u hu h0 hr he)
      · obtain rfl := List.mem_singleton.1 hu
        refine step_tight ht hv h k ks h0 he ?_
        have g1 := at_get (ρ := δ) (s := u) (by rw [k.len]; exact (ht u hv).2)
        have g2 := at_get (ρ := ρ) (s := u) (by rw [h.len]; exact (ht u hv).2)
        rw [hh _ _ g1 h0 hr] at g2
        injection g2 with g2
        exact g2.symm)
    rw [List.append_assoc] at a
    exact a
theorem bfr_next (ht : ∀ t ∈ ts, (0 ≤ t.1 ∧ t.1 < (n : Int)) ∧ 0 ≤ t.2.2 ∧ t.2.2 < (n : Int)) {δ ρ : List Int} (k : Wit n ts gs δ) (ks : Stab ts δ) {r : Int} (h : Wit n ts gs ρ) (hh : HasTo δ r ρ) (hr : 0 ≤ r) : Wit n ts gs (bfr ts ρ) ∧ HasTo δ (r + 1) (bfr ts ρ) := by
  obtain ⟨a, b, c⟩ := bfr_fold ht k ks (r := r) ts [] ρ (fun _ hx => hx) (fun _ hx => by cases hx) h hh (fun _ hx => by cases hx)
  refine ⟨a, fun i v hv h0 h1 => ?_⟩
  by_cases e : v ≤ r
  · exact b i v hv h0 e
  · have hil : i < n := by rw [← k.len]; exact (List.getElem?_eq_some_iff.1 hv).1
    rcases k.all i v hv h0 with hg | ⟨s, hs, hsi, h2, h3⟩
    · have := k.goal i hil hg
      rw [hv] at this
      injection this with this
      omega
    · have hfd := fr_get (ρ := δ) (s := s) (by rw [k.len]; exact (ht s hs).1)
      have ei : s.1.toNat = i := by omega
      rw [ei, hv] at hfd
      injection hfd with hfd
      have hst := ks s hs h2
      have := c s (by rw [List.nil_append]; exact hs) h2 (by omega) (by omega)
      rw [ei] at this
      rw [← hfd] at this
      exact this
def bfs (ts : List Tri) (ρ : List Int) : Nat → List Int
  | 0 => ρ
  | r + 1 => bfr ts (bfs ts ρ r)
theorem bfs_has (ht : ∀ t ∈ ts, (0 ≤ t.1 ∧ t.1 < (n : Int)) ∧ 0 ≤ t.2.2 ∧ t.2.2 < (n : Int)) {δ : List Int} (k : Wit n ts gs δ) (ks : Stab ts δ) : ∀ r : Nat, Wit n ts gs (bfs ts (rk0 n gs) r) ∧ HasTo δ r (bfs ts (rk0 n gs) r)
  | 0 => ⟨wit_rk0, fun i v hv h0 h1 => by
    have hil : i < n := by rw [← k.len]; exact (List.getElem?_eq_some_iff.1 hv).1
    rcases k.all i v hv h0 with hg | ⟨s, hs, hsi, h2, h3⟩
    · show (rk0 n gs)[i]? = _
      rw [rk0_at hil, if_pos hg]
      congr 1
      omega
    · omega⟩
  | r + 1 => by
    obtain ⟨a, b⟩ := bfs_has ht k ks r
    have := bfr_next ht k ks a b (by omega)
    exact this
/-- both end in the same list -/
theorem bfs_eq (ht : ∀ t ∈ ts, (0 ≤ t.1 ∧ t.1 < (n : Int)) ∧ 0 ≤ t.2.2 ∧ t.2.2 < (n : Int)) : bfs ts (rk0 n gs) n = faL n ts gs := by
  have hl := lvls_lev (gs := gs) ht n
  have hs := lev_stab ht hl
  obtain ⟨a, b⟩ := bfs_has ht hl.wit hs n
  apply List.ext_getElem?
  intro i
  by_cases hi : i < n
  · obtain ⟨v, hv⟩ : ∃ v, (faL n ts gs)[i]? = some v := ⟨_, List.getElem?_eq_getElem (by rw [show (faL n ts gs).length = n from hl.wit.len]; exact hi)⟩
    obtain ⟨q, hq⟩ : ∃ q, (bfs ts (rk0 n gs) n)[i]? = some q := ⟨_, List.getElem?_eq_getElem (by rw [a.len]; exact hi)⟩
    by_cases h0 : 0 ≤ v
    · rw [b i v hv h0 (hl.bnd i v hv), hv]
    · rw [hv, hq]
      congr 1
      have h1 := hl.wit.low i v hv
      have h2 := a.low i q hq
      by_cases h3 : 0 ≤ q
      · obtain ⟨m, rfl⟩ : ∃ m : Nat, q = (m : Int) := ⟨q.toNat, by omega⟩
        have := wit_half ht a hl.wit hs m i v hq hv
        omega
      · omega
  · rw [List.getElem?_eq_none (by rw [a.len]; omega), List.getElem?_eq_none (by rw [show (faL n ts gs).length = n from hl.wit.len]; omega)]
end
end Go.Proofs.Ytlpgldejmdiceaa.fax
