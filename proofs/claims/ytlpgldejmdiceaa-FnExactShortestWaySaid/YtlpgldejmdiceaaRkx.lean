/- Rankings by rounds in plain Lean; no program. -/
import Derived.Test.YtlpgldejmdiceaaRea
namespace Go.Proofs.Ytlpgldejmdiceaa.rkx
open has syx rea
set_option linter.unusedVariables false
abbrev at' (ρ : List Int) (s : Tri) : Int := ρ.getD s.2.2.toNat 0
def mostL (m : Int) (ρ : List Int) (ss : List Tri) : Int := ss.foldl (fun m s => max m (at' ρ s)) m
def okL (ρ : List Int) (ss : List Tri) : Bool := ss.all (fun s => decide (0 ≤ at' ρ s))
/-- the rank that a state's steps give, or -1 -/
def rkv (ρ : List Int) (ss : List Tri) : Int := if ss = [] then -1 else if okL ρ ss = true then mostL (-1) ρ ss + 1 else -1
theorem mostL_ge : ∀ (ρ : List Int) (ss : List Tri) (m : Int), m ≤ mostL m ρ ss
  | ρ, [], m => Int.le_refl _
  | ρ, s :: ss, m => Int.le_trans (Int.le_max_left m (at' ρ s)) (mostL_ge ρ ss (max m (at' ρ s)))
theorem mostL_mem : ∀ (ρ : List Int) (ss : List Tri) (m : Int) (s : Tri), s ∈ ss → at' ρ s ≤ mostL m ρ ss
  | ρ, u :: ss, m, s, h => by
    rcases List.mem_cons.1 h with rfl | h
    · exact Int.le_trans (Int.le_max_right m (at' ρ s)) (mostL_ge ρ ss _)
    · exact mostL_mem ρ ss _ s h
theorem mostL_congr : ∀ (ρ σ : List Int) (ss : List Tri) (m : Int), (∀ s ∈ ss, at' ρ s = at' σ s) → mostL m ρ ss = mostL m σ ss
  | ρ, σ, [], m, _ => rfl
  | ρ, σ, s :: ss, m, h => by
    show mostL (max m (at' ρ s)) ρ ss = mostL (max m (at' σ s)) σ ss
    rw [h s List.mem_cons_self]
    exact mostL_congr ρ σ ss _ (fun u hu => h u (List.mem_cons_of_mem _ hu))
theorem mostL_zero {ρ : List Int} {ss : List Tri} (hn : ss ≠ []) (h : okL ρ ss = true) : mostL 0 ρ ss = mostL (-1) ρ ss := by
  cases ss with
  | nil => exact absurd rfl hn
  | cons s r =>
    have h0 : 0 ≤ at' ρ s := of_decide_eq_true (List.all_eq_true.1 h s List.mem_cons_self)
    show mostL (max 0 (at' ρ s)) ρ r = mostL (max (-1) (at' ρ s)) ρ r
    rw [show max (0 : Int) (at' ρ s) = at' ρ s by omega, show max (-1 : Int) (at' ρ s) = at' ρ s by omega]
theorem mostL_snoc {ρ : List Int} {ss : List Tri} {k : Nat} {s : Tri} {m : Int} (h : ss[k]? = some s) : mostL m ρ (ss.take (k + 1)) = max (mostL m ρ (ss.take k)) (at' ρ s) := by
  unfold mostL
  rw [List.take_add_one, h, List.foldl_append]
  rfl
theorem okL_congr {ρ σ : List Int} {ss : List Tri} (h : okL ρ ss = true) (he : ∀ s ∈ ss, 0 ≤ at' ρ s → at' σ s = at' ρ s) : okL σ ss = true ∧ mostL (-1) σ ss = mostL (-1) ρ ss := by
  have h1 : ∀ s ∈ ss, at' σ s = at' ρ s := fun s hs => he s hs (of_decide_eq_true (List.all_eq_true.1 h s hs))
  refine ⟨List.all_eq_true.2 (fun s hs => by rw [h1 s hs]; exact List.all_eq_true.1 h s hs), mostL_congr σ ρ ss _ h1⟩
theorem rkv_or {ρ : List Int} {ss : List Tri} : rkv ρ ss = -1 ∧ (ss = [] ∨ okL ρ ss = false) ∨ ss ≠ [] ∧ okL ρ ss = true ∧ rkv ρ ss = mostL (-1) ρ ss + 1 ∧ 0 ≤ rkv ρ ss := by
  unfold rkv
  by_cases h : ss = []
  · rw [if_pos h]; exact .inl ⟨rfl, .inl h⟩
  · rw [if_neg h]
    cases ho : okL ρ ss with
    | true =>
      refine .inr ⟨h, rfl, by rw [if_pos rfl], ?_⟩
      rw [if_pos rfl]
      have := mostL_ge ρ ss (-1)
      omega
    | false => exact .inl ⟨by simp, .inr rfl⟩
section
variable (n : Nat) (ts : List Tri) (gs : List Int)
structure Sound (ρ : List Int) : Prop where
  len : ρ.length = n
  goal : ∀ i, i < n → hasB gs i = true → ρ[i]? = some 0
  all : ∀ (i : Nat) r, ρ[i]? = some r → r = -1 ∨ hasB gs i = true ∧ r = 0 ∨ hasB gs i = false ∧ outOf ts i ≠ [] ∧ okL ρ (outOf ts i) = true ∧ r = mostL (-1) ρ (outOf ts i) + 1
def Clsd (ρ : List Int) : Prop := ∀ i, i < n → ρ[i]? = some (-1) → rkv ρ (outOf ts i) = -1
/-- ranks stay -/
structure Grows (ρ σ : List Int) : Prop where
  len : σ.length = ρ.length
  stay : ∀ (i : Nat) r, ρ[i]? = some r → 0 ≤ r → σ[i]? = some r
  low : ∀ (i : Nat) r, ρ[i]? = some r → -1 ≤ r
  low' : ∀ (i : Nat) r, σ[i]? = some r → -1 ≤ r
end
section
variable {n : Nat} {ts : List Tri} {gs : List Int}
theorem Sound.low {ρ : List Int} (h : Sound n ts gs ρ) {i : Nat} {r : Int} (hr : ρ[i]? = some r) : -1 ≤ r := by
  rcases h.all i r hr with e | ⟨_, e⟩ | ⟨_, _, _, e⟩
  · omega
  · omega
  · have := mostL_ge ρ (outOf ts i) (-1); omega
theorem at_get {ρ : List Int} {s : Tri} (h : 0 ≤ s.2.2 ∧ s.2.2 < (ρ.length : Int)) : ρ[s.2.2.toNat]? = some (at' ρ s) := by
  have hl : s.2.2.toNat < ρ.length := by omega
  show _ = some (ρ.getD s.2.2.toNat 0)
  rw [List.getD_eq_getElem?_getD, List.getElem?_eq_getElem hl]
  rfl
theorem Grows.at {ρ σ : List Int} (h : Grows ρ σ) {s : Tri} (hs : 0 ≤ s.2.2 ∧ s.2.2 < (ρ.length : Int)) (h0 : 0 ≤ at' ρ s) : at' σ s = at' ρ s := by
  have h1 := h.stay _ _ (at_get hs) h0
  have h2 := at_get (ρ := σ) (s := s) (by rw [h.len]; exact hs)
  rw [h1] at h2
  injection h2 with h2
  exact h2.symm
theorem Grows.refl {ρ : List Int} (h : ∀ (i : Nat) r, ρ[i]? = some r → -1 ≤ r) : Grows ρ ρ := ⟨rfl, fun _ _ h _ => h, h, h⟩
theorem Grows.trans {ρ σ τ : List Int} (h : Grows ρ σ) (k : Grows σ τ) : Grows ρ τ := ⟨k.len.trans h.len, fun i r hr h0 => k.stay i r (h.stay i r hr h0) h0, h.low, k.low'⟩
theorem Grows.eq {ρ σ : List Int} (h : Grows ρ σ) (k : Grows σ ρ) : σ = ρ := by
  apply List.ext_getElem?
  intro i
  by_cases hi : i < ρ.length
  · obtain ⟨r, hr⟩ : ∃ r, ρ[i]? = some r := ⟨_, List.getElem?_eq_getElem hi⟩
    obtain ⟨q, hq⟩ : ∃ q, σ[i]? = some q := ⟨_, List.getElem?_eq_getElem (show i < σ.length by rw [h.len]; exact hi)⟩
    by_cases h0 : 0 ≤ r
    · rw [h.stay i r hr h0, hr]
    · by_cases h1 : 0 ≤ q
      · rw [k.stay i q hq h1, hq]
      · have a := h.low i r hr
        have b := h.low' i q hq
        rw [hr, hq]
        congr 1
        omega
  · rw [List.getElem?_eq_none (by rw [h.len]; omega), List.getElem?_eq_none (by omega)]
def cnt (ρ : List Int) : Nat := (ρ.filter (fun r => decide (0 ≤ r))).length
theorem cnt_le (ρ : List Int) : cnt ρ ≤ ρ.length := List.length_filter_le _ _
theorem cnt_all {ρ : List Int} (h : ρ.length ≤ cnt ρ) : ∀ r ∈ ρ, 0 ≤ r := by
  have h1 : ρ.filter (fun r => decide (0 ≤ r)) = ρ := List.Sublist.eq_of_length_le List.filter_sublist h
  intro r hr
  rw [← h1] at hr
  exact of_decide_eq_true (List.mem_filter.1 hr).2
theorem grows_tail {a b : Int} {ρ σ : List Int} (h : Grows (a :: ρ) (b :: σ)) : Grows ρ σ := ⟨by have := h.len; simpa using this, fun i r hr h0 => by simpa using h.stay (i + 1) r (by simpa using hr) h0, fun i r hr => h.low (i + 1) r (by simpa using hr), fun i r hr => h.low' (i + 1) r (by simpa using hr)⟩
theorem grows_cnt : ∀ {ρ σ : List Int}, Grows ρ σ → cnt ρ ≤ cnt σ ∧ (σ = ρ ∨ cnt ρ + 1 ≤ cnt σ)
  | [], σ, h => by
    have e : σ = [] := List.eq_nil_of_length_eq_zero h.len
    subst e
    exact ⟨Nat.le_refl _, .inl rfl⟩
  | a :: ρ, [], h => by have := h.len; simp at this
  | a :: ρ, b :: σ, h => by
    obtain ⟨h1, h2⟩ := grows_cnt (grows_tail h)
    have hla := h.low 0 a rfl
    have hlb := h.low' 0 b rfl
    by_cases h0 : 0 ≤ a
    · have e : b = a := by have := h.stay 0 a rfl h0; simpa using this
      subst e
      have e1 : cnt (b :: ρ) = cnt ρ + 1 := by unfold cnt; rw [List.filter_cons_of_pos (by simpa using h0)]; rfl
      have e2 : cnt (b :: σ) = cnt σ + 1 := by unfold cnt; rw [List.filter_cons_of_pos (by simpa using h0)]; rfl
      rw [e1, e2]
      refine ⟨by omega, ?_⟩
      rcases h2 with rfl | h2
      · exact .inl rfl
      · exact .inr (by omega)
    · have e1 : cnt (a :: ρ) = cnt ρ := by unfold cnt; rw [List.filter_cons_of_neg (by simpa using h0)]
      by_cases h3 : 0 ≤ b
      · have e2 : cnt (b :: σ) = cnt σ + 1 := by unfold cnt; rw [List.filter_cons_of_pos (by simpa using h3)]; rfl
        rw [e1, e2]
        exact ⟨by omega, .inr (by omega)⟩
      · have e2 : cnt (b :: σ) = cnt σ := by unfold cnt; rw [List.filter_cons_of_neg (by simpa using h3)]
        rw [e1, e2]
        refine ⟨h1, ?_⟩
        rcases h2 with rfl | h2
        · obtain rfl : a = b := by omega
          exact .inl rfl
        · exact .inr h2
/-- the ranks of a sound list are those of a closed one -/
theorem sound_half (ht : ∀ t ∈ ts, 0 ≤ t.2.2 ∧ t.2.2 < (n : Int)) {ρ σ : List Int} (h : Sound n ts gs ρ) (k : Sound n ts gs σ) (kc : Clsd n ts σ) : ∀ (r : Nat) (i : Nat), ρ[i]? = some (r : Int) → σ[i]? = some (r : Int) := by
  intro r
  induction r using Nat.strongRecOn with
  | _ r ih =>
    intro i hi
    have hil : i < n := by rw [← h.len]; exact (List.getElem?_eq_some_iff.1 hi).1
    rcases h.all i r hi with e | ⟨hg, e⟩ | ⟨hg, ho, hk, e⟩
    · omega
    · rw [k.goal i hil hg, e]
    · have hmem : ∀ s ∈ outOf ts i, 0 ≤ s.2.2 ∧ s.2.2 < (n : Int) := fun s hs => ht s (List.mem_filter.1 hs).1
      have heq : ∀ s ∈ outOf ts i, at' σ s = at' ρ s := fun s hs => by
        have h0 : 0 ≤ at' ρ s := of_decide_eq_true (List.all_eq_true.1 hk s hs)
        have h1 := mostL_mem ρ (outOf ts i) (-1) s hs
        have hg1 := at_get (ρ := ρ) (s := s) (by rw [h.len]; exact hmem s hs)
        obtain ⟨q, hq⟩ : ∃ q : Nat, at' ρ s = (q : Int) := ⟨(at' ρ s).toNat, by omega⟩
        rw [hq] at hg1 h1 ⊢
        have h2 := ih q (by omega) _ hg1
        have h3 := at_get (ρ := σ) (s := s) (by rw [k.len]; exact hmem s hs)
        rw [h2] at h3
        injection h3 with h3
        exact h3.symm
      have hok := okL_congr (σ := σ) hk (fun s hs _ => heq s hs)
      obtain ⟨q, hq⟩ : ∃ q, σ[i]? = some q := ⟨_, List.getElem?_eq_getElem (by rw [k.len]; exact hil)⟩
      rcases k.all i q hq with e2 | ⟨hg2, e2⟩ | ⟨_, _, _, e2⟩
      · subst e2
        have := kc i hil hq
        unfold rkv at this
        rw [if_neg ho, if_pos hok.1, hok.2] at this
        omega
      · rw [hg] at hg2; cases hg2
      · rw [hq, e2, hok.2, e]
theorem sound_uniq (ht : ∀ t ∈ ts, 0 ≤ t.2.2 ∧ t.2.2 < (n : Int)) {ρ σ : List Int} (h : Sound n ts gs ρ) (hc : Clsd n ts ρ) (k : Sound n ts gs σ) (kc : Clsd n ts σ) : ρ = σ := by
  refine (Grows.eq ⟨k.len.trans h.len.symm, fun i r hr h0 => ?_, fun i r hr => h.low hr, fun i r hr => k.low hr⟩ ⟨h.len.trans k.len.symm, fun i r hr h0 => ?_, fun i r hr => k.low hr, fun i r hr => h.low hr⟩).symm
  · obtain ⟨q, rfl⟩ : ∃ q : Nat, r = (q : Int) := ⟨r.toNat, by omega⟩
    exact sound_half ht h k kc q i hr
  · obtain ⟨q, rfl⟩ : ∃ q : Nat, r = (q : Int) := ⟨r.toNat, by omega⟩
    exact sound_half ht k h hc q i hr
/-- what is said of a list after r rounds -/
def After (n : Nat) (ts : List Tri) (gs : List Int) (r : Nat) (ρ : List Int) : Prop := Sound n ts gs ρ ∧ (Clsd n ts ρ ∨ r ≤ cnt ρ)
theorem after_cls {ρ : List Int} (h : After n ts gs n ρ) : Clsd n ts ρ := by
  rcases h.2 with h2 | h2
  · exact h2
  · have h3 := cnt_all (ρ := ρ) (by rw [h.1.len]; exact h2)
    intro i hi hr
    have := h3 _ (List.mem_of_getElem? hr)
    omega
theorem after_next {ρ σ : List Int} {r : Nat} (h : After n ts gs r ρ) (hs : Sound n ts gs σ) (hg : Grows ρ σ) (hc : σ = ρ → Clsd n ts ρ) (hk : Clsd n ts ρ → σ = ρ) : After n ts gs (r + 1) σ := by
  refine ⟨hs, ?_⟩
  obtain ⟨h1, rfl | h2⟩ := grows_cnt hg
  · exact .inl (hc rfl)
  · rcases h.2 with h3 | h3
    · rw [hk h3]; exact .inl h3
    · exact .inr (by omega)
theorem sound_grow (ht : ∀ t ∈ ts, 0 ≤ t.2.2 ∧ t.2.2 < (n : Int)) {ρ σ : List Int} (h : Sound n ts gs ρ) (hg : Grows ρ σ) (hn : ∀ (i : Nat) r, ρ[i]? = some (-1) → σ[i]? = some r → r = -1 ∨ r = rkv ρ (outOf ts i)) : Sound n ts gs σ := by
  have hok : ∀ i : Nat, okL ρ (outOf ts i) = true → okL σ (outOf ts i) = true ∧ mostL (-1) σ (outOf ts i) = mostL (-1) ρ (outOf ts i) := fun i hk => okL_congr hk (fun s hs h0 => hg.at (by rw [h.len]; exact ht s (List.mem_filter.1 hs).1) h0)
  refine ⟨hg.len.trans h.len, fun i hi hgi => hg.stay i 0 (h.goal i hi hgi) (Int.le_refl _), fun i r hr => ?_⟩
  have hi : i < ρ.length := by rw [← hg.len]; exact (List.getElem?_eq_some_iff.1 hr).1
  obtain ⟨q, hq⟩ : ∃ q, ρ[i]? = some q := ⟨_, List.getElem?_eq_getElem hi⟩
  have hlo := hg.low i q hq
  by_cases h0 : 0 ≤ q
  · have e := hg.stay i q hq h0
    rw [hr] at e
    injection e with e
    subst e
    rcases h.all i r hq with e | ⟨a, b⟩ | ⟨a, b, c, d⟩
    · omega
    · exact .inr (.inl ⟨a, b⟩)
    · exact .inr (.inr ⟨a, b, (hok i c).1, by rw [(hok i c).2]; exact d⟩)
  · obtain rfl : q = -1 := by omega
    have hng : hasB gs i = false := by
      cases hb : hasB gs i with
      | false => rfl
      | true =>
        have := h.goal i (by rw [← h.len]; exact hi) hb
        rw [hq] at this
        injection this with this
        omega
    rcases hn i r hq hr with e | e
    · exact .inl e
    · rcases @rkv_or ρ (outOf ts i) with ⟨e1, _⟩ | ⟨e1, e2, e3, _⟩
      · exact .inl (e.trans e1)
      · exact .inr (.inr ⟨hng, e1, (hok i e2).1, by rw [(hok i e2).2, e, e3]⟩)

/-! ### a round, all at once -/
def jv (ts : List Tri) (ρ : List Int) (i : Nat) : Int := if ρ.getD i 0 < 0 then rkv ρ (outOf ts i) else ρ.getD i 0
def nowK (ts : List Tri) (ρ : List Int) (k : Nat) : List Int := (List.range ρ.length).map (fun i => if i < k then jv ts ρ i else ρ.getD i 0)
theorem nowK_len (ρ : List Int) (k : Nat) : (nowK ts ρ k).length = ρ.length := by unfold nowK; simp
theorem nowK_at {ρ : List Int} {k i : Nat} (h : i < ρ.length) : (nowK ts ρ k)[i]? = some (if i < k then jv ts ρ i else ρ.getD i 0) := by
  unfold nowK
  rw [List.getElem?_map, List.getElem?_range h]
  rfl
theorem getD_of {ρ : List Int} {i : Nat} {r : Int} (h : ρ[i]? = some r) : ρ.getD i 0 = r := by rw [List.getD_eq_getElem?_getD, h]; rfl
theorem nowK_zero (ρ : List Int) : nowK ts ρ 0 = ρ := by
  apply List.ext_getElem?
  intro i
  by_cases h : i < ρ.length
  · rw [nowK_at h, if_neg (Nat.not_lt_zero i), List.getElem?_eq_getElem h]
    congr 1
    exact getD_of (List.getElem?_eq_getElem h)
  · rw [List.getElem?_eq_none (by rw [nowK_len]; omega), List.getElem?_eq_none (by omega)]
theorem nowK_succ {ρ : List Int} {k : Nat} : nowK ts ρ (k + 1) = (nowK ts ρ k).set k (jv ts ρ k) := by
  apply List.ext_getElem?
  intro i
  by_cases h : i < ρ.length
  · rw [nowK_at h]
    by_cases e : k = i
    · subst e
      rw [List.getElem?_set_self (by rw [nowK_len]; exact h), if_pos (by omega)]
    · rw [List.getElem?_set_ne e, nowK_at h]
      by_cases e2 : i < k
      · rw [if_pos e2, if_pos (by omega)]
      · rw [if_neg e2, if_neg (by omega)]
  · rw [List.getElem?_eq_none (by rw [nowK_len]; omega), List.getElem?_eq_none (by rw [List.length_set, nowK_len]; omega)]
theorem nowK_same {ρ : List Int} {k : Nat} (hk : k < ρ.length) (h : ¬ ρ.getD k 0 < 0) : nowK ts ρ (k + 1) = nowK ts ρ k := by
  rw [nowK_succ]
  apply List.ext_getElem?
  intro i
  by_cases e : k = i
  · subst e
    rw [List.getElem?_set_self (by rw [nowK_len]; exact hk), nowK_at hk, if_neg (Nat.lt_irrefl _)]
    unfold jv
    rw [if_neg h]
  · rw [List.getElem?_set_ne e]
theorem rkv_low (ρ : List Int) (ss : List Tri) : -1 ≤ rkv ρ ss := by
  rcases @rkv_or ρ ss with ⟨e, _⟩ | ⟨_, _, _, e⟩ <;> omega
theorem nowK_after (ht : ∀ t ∈ ts, 0 ≤ t.2.2 ∧ t.2.2 < (n : Int)) {ρ : List Int} {r : Nat} (h : After n ts gs r ρ) : After n ts gs (r + 1) (nowK ts ρ n) := by
  have hl := h.1.len
  have hval : ∀ (i : Nat) q, ρ[i]? = some q → (nowK ts ρ n)[i]? = some (if q < 0 then rkv ρ (outOf ts i) else q) := fun i q hq => by
    have hi := (List.getElem?_eq_some_iff.1 hq).1
    rw [nowK_at hi, if_pos (by omega)]
    unfold jv
    rw [getD_of hq]
  have hback : ∀ (i : Nat) q, (nowK ts ρ n)[i]? = some q → ∃ p, ρ[i]? = some p ∧ q = if p < 0 then rkv ρ (outOf ts i) else p := fun i q hq => by
    have hi := (List.getElem?_eq_some_iff.1 hq).1
    rw [nowK_len] at hi
    obtain ⟨p, hp⟩ : ∃ p, ρ[i]? = some p := ⟨_, List.getElem?_eq_getElem hi⟩
    have := hval i p hp
    rw [hq] at this
    injection this with this
    exact ⟨p, hp, this⟩
  have hgr : Grows ρ (nowK ts ρ n) := ⟨nowK_len ρ n, fun i q hq h0 => by rw [hval i q hq, if_neg (by omega)], fun i q hq => h.1.low hq, fun i q hq => by
    obtain ⟨p, hp, e⟩ := hback i q hq
    have := rkv_low ρ (outOf ts i)
    have := h.1.low hp
    split at e <;> omega⟩
  refine after_next h (sound_grow ht h.1 hgr (fun i q hp hq => ?_)) hgr (fun e i hi hq => ?_) (fun hc => ?_)
  · have := hval i (-1) hp
    rw [hq, if_pos (by omega)] at this
    injection this with this
    exact .inr this
  · have := hval i (-1) hq
    rw [e, hq, if_pos (by omega)] at this
    injection this with this
    exact this.symm
  · apply List.ext_getElem?
    intro i
    by_cases hi : i < ρ.length
    · obtain ⟨p, hp⟩ : ∃ p, ρ[i]? = some p := ⟨_, List.getElem?_eq_getElem hi⟩
      rw [hval i p hp, hp]
      congr 1
      split
      · have := h.1.low hp
        obtain rfl : p = -1 := by omega
        exact hc i (by omega) hp
      · rfl
    · rw [List.getElem?_eq_none (by rw [nowK_len]; omega), List.getElem?_eq_none (by omega)]

/-! ### a round, one state after the other -/
def stepI (ts : List Tri) (ρ : List Int) (i : Nat) : List Int := if ρ.getD i 0 = -1 ∧ rkv ρ (outOf ts i) ≠ -1 then ρ.set i (rkv ρ (outOf ts i)) else ρ
def rndI (ts : List Tri) (ρ : List Int) (k : Nat) : List Int := (List.range k).foldl (stepI ts) ρ
theorem rndI_succ (ρ : List Int) (k : Nat) : rndI ts ρ (k + 1) = stepI ts (rndI ts ρ k) k := by unfold rndI; rw [List.range_succ, List.foldl_append]; rfl
theorem stepI_grows (ht : ∀ t ∈ ts, 0 ≤ t.2.2 ∧ t.2.2 < (n : Int)) {ρ : List Int} {i : Nat} (h : Sound n ts gs ρ) : Sound n ts gs (stepI ts ρ i) ∧ Grows ρ (stepI ts ρ i) := by
  unfold stepI
  split
  · rename_i hc
    have hg : Grows ρ (ρ.set i (rkv ρ (outOf ts i))) := ⟨by simp, fun j q hq h0 => by
      by_cases e : i = j
      · subst e
        have := getD_of hq
        omega
      · rw [List.getElem?_set_ne e]; exact hq, fun j q hq => h.low hq, fun j q hq => by
      by_cases e : i = j
      · subst e
        have hl := (List.getElem?_eq_some_iff.1 hq).1
        rw [List.length_set] at hl
        rw [List.getElem?_set_self hl] at hq
        injection hq with hq
        have := rkv_low ρ (outOf ts i)
        omega
      · rw [List.getElem?_set_ne e] at hq; exact h.low hq⟩
    refine ⟨sound_grow ht h hg (fun j q hp hq => ?_), hg⟩
    by_cases e : i = j
    · subst e
      have hl := (List.getElem?_eq_some_iff.1 hp).1
      rw [List.getElem?_set_self hl] at hq
      injection hq with hq
      exact .inr hq.symm
    · rw [List.getElem?_set_ne e, hp] at hq
      injection hq with hq
      exact .inl hq.symm
  · exact ⟨h, Grows.refl fun j q hq => h.low hq⟩
theorem rndI_grows (ht : ∀ t ∈ ts, 0 ≤ t.2.2 ∧ t.2.2 < (n : Int)) {ρ : List Int} (h : Sound n ts gs ρ) : ∀ k, Sound n ts gs (rndI ts ρ k) ∧ Grows ρ (rndI ts ρ k)
  | 0 => ⟨h, Grows.refl fun j q hq => h.low hq⟩
  | k + 1 => by
    obtain ⟨h1, h2⟩ := rndI_grows ht h k
    rw [rndI_succ]
    obtain ⟨h3, h4⟩ := stepI_grows ht (i := k) h1
    exact ⟨h3, h2.trans h4⟩
theorem stepI_same {ρ : List Int} {i : Nat} (hi : i < ρ.length) (h : stepI ts ρ i = ρ) (hr : ρ[i]? = some (-1)) : rkv ρ (outOf ts i) = -1 := by
  unfold stepI at h
  by_cases hc : rkv ρ (outOf ts i) = -1
  · exact hc
  · rw [if_pos ⟨getD_of hr, hc⟩] at h
    have h2 : (ρ.set i (rkv ρ (outOf ts i)))[i]? = ρ[i]? := by rw [h]
    rw [List.getElem?_set_self hi, hr] at h2
    injection h2 with h2
theorem rndI_mid (ht : ∀ t ∈ ts, 0 ≤ t.2.2 ∧ t.2.2 < (n : Int)) {ρ : List Int} (h : Sound n ts gs ρ) : ∀ (d k : Nat), Grows (rndI ts ρ k) (rndI ts ρ (k + d))
  | 0, k => Grows.refl fun j q hq => (rndI_grows ht h k).1.low hq
  | d + 1, k => by
    have h1 := rndI_mid ht h d k
    have h2 := stepI_grows ht (i := k + d) (rndI_grows ht h (k + d)).1
    rw [← Nat.add_assoc, rndI_succ]
    exact h1.trans h2.2
theorem rndI_after (ht : ∀ t ∈ ts, 0 ≤ t.2.2 ∧ t.2.2 < (n : Int)) {ρ : List Int} {r : Nat} (h : After n ts gs r ρ) : After n ts gs (r + 1) (rndI ts ρ n) := by
  obtain ⟨hs, hg⟩ := rndI_grows ht h.1 n
  refine after_next h hs hg (fun e i hi hq => ?_) (fun hc => ?_)
  · have hk : ∀ k, k ≤ n → rndI ts ρ k = ρ := fun k hk => by
      have h1 := (rndI_grows ht h.1 k).2
      have h2 := rndI_mid ht h.1 (n - k) k
      rw [show k + (n - k) = n by omega, e] at h2
      exact Grows.eq h1 h2
    have h1 := hk (i + 1) (by omega)
    rw [rndI_succ, hk i (by omega)] at h1
    exact stepI_same (by rw [h.1.len]; exact hi) h1 hq
  · have hk : ∀ k, k ≤ n → rndI ts ρ k = ρ := fun k => by
      induction k with
      | zero => intro _; rfl
      | succ k ih =>
        intro hk
        rw [rndI_succ, ih (by omega)]
        unfold stepI
        obtain ⟨p, hp⟩ : ∃ p, ρ[k]? = some p := ⟨_, List.getElem?_eq_getElem (by rw [h.1.len]; omega)⟩
        rw [getD_of hp]
        by_cases e : p = -1
        · subst e
          rw [if_neg (fun hh => hh.2 (hc k (by omega) hp))]
        · rw [if_neg (fun hh => e hh.1)]
    exact hk n (Nat.le_refl _)
/-- at the beginning -/
def rk0 (n : Nat) (gs : List Int) : List Int := (List.range n).map (fun i : Nat => if hasB gs (i : Int) = true then (0 : Int) else -1)
theorem rk0_at {i : Nat} (h : i < n) : (rk0 n gs)[i]? = some (if hasB gs (i : Int) = true then (0 : Int) else -1) := by
  unfold rk0
  rw [List.getElem?_map, List.getElem?_range h]
  rfl
theorem rk0_len : (rk0 n gs).length = n := by unfold rk0; simp
theorem rk0_after : After n ts gs 0 (rk0 n gs) := by
  refine ⟨⟨rk0_len, fun i hi hg => by rw [rk0_at hi, if_pos hg], fun i r hr => ?_⟩, .inr (Nat.zero_le _)⟩
  have hi := (List.getElem?_eq_some_iff.1 hr).1
  rw [rk0_len] at hi
  rw [rk0_at hi] at hr
  injection hr with hr
  split at hr
  · rename_i h
    exact .inr (.inl ⟨h, hr.symm⟩)
  · exact .inl hr.symm
def jacN (ts : List Tri) (ρ : List Int) (n : Nat) : Nat → List Int
  | 0 => ρ
  | r + 1 => nowK ts (jacN ts ρ n r) n
/-- the ranking -/
def rkL (n : Nat) (ts : List Tri) (gs : List Int) : List Int := jacN ts (rk0 n gs) n n
theorem jacN_after (ht : ∀ t ∈ ts, 0 ≤ t.2.2 ∧ t.2.2 < (n : Int)) : ∀ r, After n ts gs r (jacN ts (rk0 n gs) n r)
  | 0 => rk0_after
  | r + 1 => nowK_after ht (jacN_after ht r)
theorem rkL_of (ht : ∀ t ∈ ts, 0 ≤ t.2.2 ∧ t.2.2 < (n : Int)) {ρ : List Int} (h : After n ts gs n ρ) : ρ = rkL n ts gs :=
  sound_uniq ht h.1 (after_cls h) (jacN_after ht n).1 (after_cls (jacN_after ht n))
/-! ### no rank is great -/
def Bnd (M : Int) (ρ : List Int) : Prop := ∀ (i : Nat) r, ρ[i]? = some r → r ≤ M
theorem Bnd.at {M : Int} {ρ : List Int} (h : Bnd M ρ) (h0 : 0 ≤ M) (s : Tri) : at' ρ s ≤ M := by
  show ρ.getD s.2.2.toNat 0 ≤ M
  rw [List.getD_eq_getElem?_getD]
  cases hr : ρ[s.2.2.toNat]? with
  | none => exact h0
  | some r => exact h _ r hr
theorem mostL_le {M : Int} {ρ : List Int} (h : ∀ s, at' ρ s ≤ M) : ∀ (ss : List Tri) (m : Int), m ≤ M → mostL m ρ ss ≤ M
  | [], m, hm => hm
  | s :: ss, m, hm => mostL_le h ss (max m (at' ρ s)) (by have := h s; omega)
theorem rkv_le {M : Int} {ρ : List Int} (h : Bnd M ρ) (h0 : 0 ≤ M) (ss : List Tri) : rkv ρ ss ≤ M + 1 := by
  rcases @rkv_or ρ ss with ⟨e, _⟩ | ⟨_, _, e, _⟩
  · omega
  · have := mostL_le (h.at h0) ss (-1) (by omega)
    omega
theorem bnd_rk0 : Bnd 0 (rk0 n gs) := fun i r hr => by
  have hi := (List.getElem?_eq_some_iff.1 hr).1
  rw [rk0_len] at hi
  rw [rk0_at hi] at hr
  injection hr with hr
  split at hr <;> omega
theorem bnd_now {M : Int} {ρ : List Int} (h : Bnd M ρ) (h0 : 0 ≤ M) (k : Nat) : Bnd (M + 1) (nowK ts ρ k) := fun i r hr => by
  have hi := (List.getElem?_eq_some_iff.1 hr).1
  rw [nowK_len] at hi
  rw [nowK_at hi] at hr
  injection hr with hr
  have h1 := h i _ (List.getElem?_eq_getElem hi)
  have h2 : ρ.getD i 0 = ρ[i] := getD_of (List.getElem?_eq_getElem hi)
  have h3 := rkv_le h h0 (outOf ts i)
  unfold jv at hr
  split at hr
  · split at hr <;> omega
  · omega
theorem bnd_jac : ∀ r : Nat, Bnd r (jacN ts (rk0 n gs) n r)
  | 0 => bnd_rk0
  | r + 1 => by have := bnd_now (ts := ts) (bnd_jac r) (by omega) n; exact this
theorem bnd_step {M : Int} {ρ : List Int} (h : Bnd M ρ) (h0 : 0 ≤ M) (k : Nat) : Bnd (M + 1) (stepI ts ρ k) := fun i r hr => by
  unfold stepI at hr
  split at hr
  · by_cases e : k = i
    · subst e
      have hl := (List.getElem?_eq_some_iff.1 hr).1
      rw [List.length_set] at hl
      rw [List.getElem?_set_self hl] at hr
      injection hr with hr
      have := rkv_le h h0 (outOf ts k)
      omega
    · rw [List.getElem?_set_ne e] at hr
      have := h i r hr
      omega
  · have := h i r hr
    omega
theorem bnd_rnd {M : Int} {ρ : List Int} (h : Bnd M ρ) (h0 : 0 ≤ M) : ∀ k : Nat, Bnd (M + k) (rndI ts ρ k)
  | 0 => by simpa [rndI] using h
  | k + 1 => by
    rw [rndI_succ]
    have := bnd_step (ts := ts) (bnd_rnd h h0 k) (by omega) k
    rw [show M + ((k + 1 : Nat) : Int) = M + k + 1 by omega]
    exact this
end
end Go.Proofs.Ytlpgldejmdiceaa.rkx
