/- Systems in plain Lean: Steps in order, binary search, lists of states; no program. -/
import Derived.Test.YtlpgldejmdiceaaCz
namespace Go.Proofs.Ytlpgldejmdiceaa.syx
open kit bg cz
set_option linter.unusedVariables false
abbrev Tri := Int × Int × Int
structure Sysm where
  states : List Big
  steps : List Tri
def lt3 (a b : Tri) : Bool := decide (a.1 < b.1) || (decide (a.1 = b.1) && (decide (a.2.1 < b.2.1) || (decide (a.2.1 = b.2.1) && decide (a.2.2 < b.2.2))))
def cmp3 (a b : Tri) : Int := if lt3 a b = true then -1 else if a = b then 0 else 1
theorem lt3_irrefl (a : Tri) : lt3 a a = false := by unfold lt3; simp
theorem lt3_trans {a b c : Tri} (h : lt3 a b = true) (h' : lt3 b c = true) : lt3 a c = true := by
  unfold lt3 at *
  simp only [Bool.or_eq_true, Bool.and_eq_true, decide_eq_true_eq] at *
  omega
theorem lt3_ne {a b : Tri} (h : lt3 a b = true) : a ≠ b := by rintro rfl; rw [lt3_irrefl] at h; cases h
theorem lt3_fst {a b : Tri} (h : lt3 a b = true) : a.1 ≤ b.1 := by
  unfold lt3 at h
  simp only [Bool.or_eq_true, Bool.and_eq_true, decide_eq_true_eq] at h
  omega
theorem lt3_tri {a b : Tri} (h : lt3 a b = false) (hn : a ≠ b) : lt3 b a = true := by
  unfold lt3 at *
  simp only [Bool.or_eq_true, Bool.and_eq_true, decide_eq_true_eq, Bool.or_eq_false_iff, Bool.and_eq_false_iff, decide_eq_false_iff_not] at *
  have : ¬ (a.1 = b.1 ∧ a.2.1 = b.2.1 ∧ a.2.2 = b.2.2) := fun h => hn (Prod.ext h.1 (Prod.ext h.2.1 h.2.2))
  omega
theorem cmp3_lt {a b : Tri} : (cmp3 a b < 0) ↔ lt3 a b = true := by
  unfold cmp3
  by_cases h : lt3 a b = true
  · simp [h]
  · simp [h]; split <;> omega
theorem cmp3_eq {a b : Tri} : (cmp3 a b = 0) ↔ a = b := by
  unfold cmp3
  by_cases h : lt3 a b = true
  · simp [h]; exact lt3_ne h
  · simp [h]

/-- Step i of a System with n States is one, and comes behind the one before it -/
def stepB (n : Nat) (ts : List Tri) (i : Nat) : Bool :=
  match ts[i]? with
  | none => true
  | some s => inb s.1 0 (n - 1) && inb s.2.1 0 5 && inb s.2.2 0 (n - 1) && (decide (i = 0) || match ts[i - 1]? with | some p => lt3 p s | none => true)
def stepsB (n : Nat) (ts : List Tri) : Bool := (List.range ts.length).all (stepB n ts)
def goodB (n : Nat) (ts : List Tri) : Bool := inb n 1 40 && stepsB n ts
theorem stepsB_yes {n : Nat} {ts : List Tri} (h : ∀ i, i < ts.length → stepB n ts i = true) : stepsB n ts = true := by
  unfold stepsB
  exact List.all_eq_true.2 fun x hx => h x (List.mem_range.1 hx)
theorem stepsB_no {n : Nat} {ts : List Tri} {i : Nat} (hi : i < ts.length) (h : stepB n ts i = false) : stepsB n ts = false := by
  unfold stepsB
  rw [List.all_eq_false]
  exact ⟨i, List.mem_range.2 hi, by simp [h]⟩
theorem goodB_n {n : Nat} {ts : List Tri} (h : goodB n ts = true) : 1 ≤ n ∧ n ≤ 40 := by
  unfold goodB at h
  simp only [Bool.and_eq_true] at h
  have := inb_true h.1
  omega
theorem goodB_at {n : Nat} {ts : List Tri} (h : goodB n ts = true) {i : Nat} (hi : i < ts.length) : stepB n ts i = true := by
  unfold goodB stepsB at h
  simp only [Bool.and_eq_true] at h
  exact List.all_eq_true.1 h.2 i (List.mem_range.2 hi)
theorem goodB_mem {n : Nat} {ts : List Tri} (h : goodB n ts = true) {s : Tri} (hs : s ∈ ts) : 0 ≤ s.1 ∧ s.1 < n ∧ 0 ≤ s.2.1 ∧ s.2.1 ≤ 5 ∧ 0 ≤ s.2.2 ∧ s.2.2 < n := by
  obtain ⟨i, hi⟩ := List.getElem?_of_mem hs
  have hlt := (List.getElem?_eq_some_iff.1 hi).1
  have h1 := goodB_at h hlt
  unfold stepB at h1
  rw [hi] at h1
  simp only [Bool.and_eq_true] at h1
  have a1 := inb_true h1.1.1.1
  have a2 := inb_true h1.1.1.2
  have a3 := inb_true h1.1.2
  omega
/-- neighbours in order: all in order -/
theorem pw_of_next {α : Type} {R : α → α → Prop} (tr : ∀ a b c, R a b → R b c → R a c) (l : List α) (h : ∀ (i : Nat) a b, l[i]? = some a → l[i + 1]? = some b → R a b) : l.Pairwise R := by
  induction l with
  | nil => exact List.Pairwise.nil
  | cons x l ih =>
    have hl := ih (fun i a b h1 h2 => h (i + 1) a b (by simpa using h1) (by simpa using h2))
    refine List.pairwise_cons.2 ⟨?_, hl⟩
    cases l with
    | nil => intro a ha; cases ha
    | cons y l =>
      have hxy := h 0 x y rfl rfl
      intro a ha
      rcases List.mem_cons.1 ha with rfl | ha
      · exact hxy
      · exact tr _ _ _ hxy ((List.pairwise_cons.1 hl).1 a ha)
theorem goodB_pw {n : Nat} {ts : List Tri} (h : goodB n ts = true) : ts.Pairwise (fun a b => lt3 a b = true) := by
  refine pw_of_next (R := fun a b => lt3 a b = true) (fun a b c => lt3_trans) ts (fun i a b h1 h2 => ?_)
  have hlt := (List.getElem?_eq_some_iff.1 h2).1
  have h3 := goodB_at h hlt
  unfold stepB at h3
  rw [h2] at h3
  simp only [Bool.and_eq_true, Nat.add_sub_cancel, h1] at h3
  simpa using h3.2
theorem goodB_fst {n : Nat} {ts : List Tri} (h : goodB n ts = true) : ts.Pairwise (fun a b => a.1 ≤ b.1) := (goodB_pw h).imp (fun hab => lt3_fst hab)

/-! ### binary search -/
theorem takeWhile_len {α : Type} {P : α → Bool} (l : List α) (i : Nat) (hi : i ≤ l.length) (h1 : ∀ (k : Nat) x, k < i → l[k]? = some x → P x = true) (h2 : ∀ x, l[i]? = some x → P x = false) : (l.takeWhile P).length = i := by
  induction l generalizing i with
  | nil => simp at hi; simp [hi]
  | cons y l ih =>
    cases i with
    | zero => have := h2 y rfl; rw [List.takeWhile_cons, this]; rfl
    | succ i =>
      have hy := h1 0 y (Nat.succ_pos _) rfl
      rw [List.takeWhile_cons, hy]
      simp only [if_true, List.length_cons]
      rw [ih i (by simpa using hi) (fun k x hk hx => h1 (k + 1) x (by omega) (by simpa using hx)) (fun x hx => h2 x (by simpa using hx))]
/-- the number of elements ahead of the first one for which P does not hold -/
def cut {α : Type} (P : α → Bool) (l : List α) : Nat := (l.takeWhile P).length
theorem cut_le {α : Type} (P : α → Bool) (l : List α) : cut P l ≤ l.length := by unfold cut; exact (List.takeWhile_sublist P).length_le
def fromLt (s : Int) (t : Tri) : Bool := decide (t.1 < s)
def outOf (ts : List Tri) (s : Int) : List Tri := ts.filter (fun t => decide (t.1 = s))
theorem cut_zero {ts : List Tri} {s : Int} (h : ∀ t ∈ ts, s ≤ t.1) : cut (fromLt s) ts = 0 := by
  cases ts with
  | nil => rfl
  | cons t ts =>
    have := h t List.mem_cons_self
    unfold cut fromLt
    rw [List.takeWhile_cons, if_neg (by simp; omega)]
    rfl
theorem from_cut {ts : List Tri} (h : ts.Pairwise (fun a b => a.1 ≤ b.1)) (s : Int) :
    cut (fromLt s) ts ≤ cut (fromLt (s + 1)) ts ∧ (ts.drop (cut (fromLt s) ts)).take (cut (fromLt (s + 1)) ts - cut (fromLt s) ts) = outOf ts s := by
  induction ts with
  | nil => exact ⟨Nat.le_refl _, rfl⟩
  | cons t ts ih =>
    obtain ⟨h1, h2⟩ := List.pairwise_cons.1 h
    obtain ⟨i1, i2⟩ := ih h2
    have e : ∀ z, cut (fromLt z) (t :: ts) = if t.1 < z then cut (fromLt z) ts + 1 else 0 := by
      intro z
      unfold cut fromLt
      rw [List.takeWhile_cons]
      by_cases hz : t.1 < z <;> simp [hz]
    rw [e, e]
    rcases Int.lt_trichotomy t.1 s with hlt | heq | hgt
    · rw [if_pos hlt, if_pos (by omega)]
      refine ⟨by omega, ?_⟩
      rw [Nat.add_sub_add_right, List.drop_succ_cons, i2]
      unfold outOf
      rw [List.filter_cons_of_neg (by simp; omega)]
    · rw [if_neg (by omega), if_pos (by omega)]
      refine ⟨by omega, ?_⟩
      have hz : cut (fromLt s) ts = 0 := cut_zero (fun x hx => by have := h1 x hx; omega)
      rw [hz, List.drop_zero, Nat.sub_zero] at i2
      rw [List.drop_zero, Nat.sub_zero, List.take_succ_cons, i2]
      unfold outOf
      rw [List.filter_cons_of_pos (by simp; omega)]
    · rw [if_neg (by omega), if_neg (by omega)]
      refine ⟨by omega, ?_⟩
      rw [Nat.sub_zero, List.take_zero]
      unfold outOf
      symm
      rw [List.filter_eq_nil_iff]
      intro x hx
      rcases List.mem_cons.1 hx with rfl | hx
      · simp; omega
      · have := h1 x hx
        simp; omega

/-! ### lists of states -/
def risAt (n : Nat) (gs : List Int) (i : Nat) : Bool :=
  match gs[i]? with
  | none => true
  | some z => inb z 0 (n - 1) && (decide (i = 0) || match gs[i - 1]? with | some p => decide (p < z) | none => true)
def golB (n : Nat) (gs : List Int) : Bool := (List.range gs.length).all (risAt n gs)
theorem golB_yes {n : Nat} {gs : List Int} (h : ∀ i, i < gs.length → risAt n gs i = true) : golB n gs = true := by
  unfold golB
  exact List.all_eq_true.2 fun x hx => h x (List.mem_range.1 hx)
theorem golB_no {n : Nat} {gs : List Int} {i : Nat} (hi : i < gs.length) (h : risAt n gs i = false) : golB n gs = false := by
  unfold golB
  rw [List.all_eq_false]
  exact ⟨i, List.mem_range.2 hi, by simp [h]⟩
theorem golB_mem {n : Nat} {gs : List Int} (h : golB n gs = true) {z : Int} (hz : z ∈ gs) : 0 ≤ z ∧ z < n := by
  obtain ⟨i, hi⟩ := List.getElem?_of_mem hz
  have hlt := (List.getElem?_eq_some_iff.1 hi).1
  have h1 := List.all_eq_true.1 h i (List.mem_range.2 hlt)
  unfold risAt at h1
  rw [hi] at h1
  simp only [Bool.and_eq_true] at h1
  have := inb_true h1.1
  omega
theorem golB_pw {n : Nat} {gs : List Int} (h : golB n gs = true) : gs.Pairwise (· < ·) := by
  refine pw_of_next (R := fun a b : Int => a < b) (fun a b c => Int.lt_trans) gs (fun i a b h1 h2 => ?_)
  have hlt := (List.getElem?_eq_some_iff.1 h2).1
  have h3 := List.all_eq_true.1 h (i + 1) (List.mem_range.2 hlt)
  unfold risAt at h3
  rw [h2] at h3
  simp only [Bool.and_eq_true, Nat.add_sub_cancel, h1] at h3
  simpa using h3.2
theorem sub_of {l f : List Int} (hl : l.Pairwise (· < ·)) (hf : f.Pairwise (· < ·)) (h : ∀ x ∈ l, x ∈ f) : l.Sublist f := by
  induction f generalizing l with
  | nil =>
    cases l with
    | nil => exact List.Sublist.slnil
    | cons x l => exact absurd (h x List.mem_cons_self) (by simp)
  | cons y f ih =>
    obtain ⟨f1, f2⟩ := List.pairwise_cons.1 hf
    cases l with
    | nil => exact List.nil_sublist _
    | cons x l =>
      obtain ⟨l1, l2⟩ := List.pairwise_cons.1 hl
      by_cases e : x = y
      · subst e
        refine (ih l2 f2 (fun z hz => ?_)).cons_cons _
        rcases List.mem_cons.1 (h z (List.mem_cons_of_mem _ hz)) with rfl | h'
        · exact absurd (l1 _ hz) (Int.lt_irrefl _)
        · exact h'
      · refine (ih hl f2 (fun z hz => ?_)).cons _
        have hxf : x ∈ f := by
          rcases List.mem_cons.1 (h x List.mem_cons_self) with h' | h'
          · exact absurd h' e
          · exact h'
        rcases List.mem_cons.1 (h z hz) with rfl | h'
        · rcases List.mem_cons.1 hz with h2 | h2
          · exact absurd h2.symm e
          · have a := l1 _ h2
            have b := f1 _ hxf
            omega
        · exact h'
theorem nums_pw (n : Nat) : (nums n).Pairwise (· < ·) := by
  unfold nums
  rw [List.pairwise_map]
  exact List.pairwise_lt_range.imp (fun h => by omega)
theorem nums_mem {n : Nat} {z : Int} : z ∈ nums n ↔ 0 ≤ z ∧ z < n := by
  unfold nums
  rw [List.mem_map]
  constructor
  · rintro ⟨k, hk, rfl⟩
    have := List.mem_range.1 hk
    omega
  · rintro ⟨h1, h2⟩
    exact ⟨z.toNat, List.mem_range.2 (by omega), by omega⟩
theorem sel_ris (n : Nat) (gs : List Int) : gs.isSublist (nums n) = golB n gs := by
  rw [Bool.eq_iff_iff, List.isSublist_iff_sublist]
  constructor
  · intro h
    refine golB_yes (fun i hi => ?_)
    have hp := (nums_pw n).sublist h
    obtain ⟨z, hz⟩ : ∃ z, gs[i]? = some z := ⟨_, List.getElem?_eq_getElem hi⟩
    have hm := nums_mem.1 (h.subset (List.mem_of_getElem? hz))
    unfold risAt
    rw [hz]
    simp only [Bool.and_eq_true]
    refine ⟨inb_mk (by omega), ?_⟩
    by_cases e : i = 0
    · simp [e]
    · simp only [Bool.or_eq_true]
      right
      obtain ⟨p, hp'⟩ : ∃ p, gs[i - 1]? = some p := ⟨_, List.getElem?_eq_getElem (by omega)⟩
      rw [hp']
      have := List.pairwise_iff_getElem.1 hp (i - 1) i (by omega) hi (by omega)
      have e1 := (List.getElem?_eq_some_iff.1 hp').2
      have e2 := (List.getElem?_eq_some_iff.1 hz).2
      rw [e1, e2] at this
      simpa using this
  · intro h
    exact sub_of (golB_pw h) (nums_pw n) (fun x hx => nums_mem.2 (golB_mem h hx))
theorem sel_all {l f : List Int} (hl : l.Pairwise (· < ·)) (hf : f.Pairwise (· < ·)) : l.isSublist f = l.all (fun x => f.contains x) := by
  rw [Bool.eq_iff_iff, List.isSublist_iff_sublist, List.all_eq_true]
  constructor
  · intro h x hx
    simpa using h.subset hx
  · intro h
    exact sub_of hl hf (fun x hx => by simpa using h x hx)
/-- isSelection, a step -/
theorem sel_cons {x : Int} {l f : List Int} {a : Nat} (ha : f[a]? = some x) (hn : ∀ j, j < a → f[j]? ≠ some x) : (x :: l).isSublist f = l.isSublist (f.drop (a + 1)) := by
  induction f generalizing a with
  | nil => simp at ha
  | cons y f ih =>
    cases a with
    | zero =>
      simp at ha
      subst ha
      simp [List.isSublist]
    | succ a =>
      have h0 : y ≠ x := fun e => hn 0 (Nat.succ_pos _) (by simp [e])
      have := ih (a := a) (by simpa using ha) (fun j hj => by have := hn (j + 1) (by omega); simpa using this)
      rw [List.isSublist, if_neg (by simpa using fun e => h0 e.symm), this]
      rfl
theorem sel_none {x : Int} {l f : List Int} (hn : x ∉ f) : (x :: l).isSublist f = false := by
  induction f with
  | nil => rfl
  | cons y f ih =>
    rw [List.isSublist, if_neg (by simp; rintro rfl; exact hn List.mem_cons_self)]
    exact ih (fun h => hn (List.mem_cons_of_mem _ h))
end Go.Proofs.Ytlpgldejmdiceaa.syx
