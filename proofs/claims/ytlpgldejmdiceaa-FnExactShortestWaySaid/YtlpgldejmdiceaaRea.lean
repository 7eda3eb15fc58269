/- Reached states in plain Lean: numbers put in order, rounds, a list worked off; no program. -/
import Derived.Test.YtlpgldejmdiceaaSyx
import Derived.Test.YtlpgldejmdiceaaQd
namespace Go.Proofs.Ytlpgldejmdiceaa.rea
open has syx
set_option linter.unusedVariables false

/-! ### a number put into a list in ascending order -/
def insI (y : Int) : List Int → List Int
  | [] => [y]
  | a :: r => if a < y then a :: insI y r else if a = y then a :: r else y :: a :: r
theorem ins_same {y : Int} : ∀ (L : List Int) (j : Nat), (∀ (t : Nat) z, t < j → L[t]? = some z → z < y) → L[j]? = some y → insI y L = L
  | [], j, _, h => by simp at h
  | a :: r, 0, _, h => by
    simp at h
    subst h
    unfold insI
    simp
  | a :: r, j + 1, h1, h => by
    have h0 := h1 0 a (by omega) rfl
    unfold insI
    rw [if_pos h0, ins_same r j (fun t z ht hz => h1 (t + 1) z (by omega) (by simpa using hz)) (by simpa using h)]
theorem ins_put {y : Int} : ∀ (L : List Int) (j : Nat), (∀ (t : Nat) z, t < j → L[t]? = some z → z < y) → j ≤ L.length → (∀ z, L[j]? = some z → ¬ z < y ∧ z ≠ y) → insI y L = L.take j ++ [y] ++ L.drop j
  | [], j, _, hj, _ => by
    simp at hj
    subst hj
    rfl
  | a :: r, 0, _, _, h => by
    obtain ⟨h0, h1⟩ := h a rfl
    unfold insI
    rw [if_neg h0, if_neg h1]
    rfl
  | a :: r, j + 1, h1, hj, h => by
    have h0 := h1 0 a (by omega) rfl
    unfold insI
    rw [if_pos h0, ins_put r j (fun t z ht hz => h1 (t + 1) z (by omega) (by simpa using hz)) (by simpa using hj) (fun z hz => h z (by simpa using hz))]
    rfl
theorem mem_ins {y z : Int} : ∀ (L : List Int), z ∈ insI y L ↔ z = y ∨ z ∈ L
  | [] => by simp [insI]
  | a :: r => by
    unfold insI
    by_cases h : a < y
    · rw [if_pos h, List.mem_cons, mem_ins r, List.mem_cons]
      constructor
      · rintro (h | h | h)
        · exact .inr (.inl h)
        · exact .inl h
        · exact .inr (.inr h)
      · rintro (h | h | h)
        · exact .inr (.inl h)
        · exact .inl h
        · exact .inr (.inr h)
    · rw [if_neg h]
      by_cases e : a = y
      · subst e
        rw [if_pos rfl, List.mem_cons]
        constructor
        · intro h; exact .inr h
        · rintro (h | h)
          · exact .inl h
          · exact h
      · rw [if_neg e, List.mem_cons]
abbrev Asc (L : List Int) : Prop := L.Pairwise (fun a b => a < b)
theorem asc_ins {y : Int} : ∀ {L : List Int}, Asc L → Asc (insI y L)
  | [], _ => by simp [Asc, insI]
  | a :: r, h => by
    obtain ⟨h1, h2⟩ := List.pairwise_cons.1 h
    unfold insI
    by_cases e : a < y
    · rw [if_pos e]
      refine List.pairwise_cons.2 ⟨fun b hb => ?_, asc_ins h2⟩
      rcases (mem_ins r).1 hb with rfl | hb
      · exact e
      · exact h1 b hb
    · rw [if_neg e]
      by_cases e2 : a = y
      · rw [if_pos e2]; exact h
      · rw [if_neg e2]
        refine List.pairwise_cons.2 ⟨fun b hb => ?_, h⟩
        rcases List.mem_cons.1 hb with rfl | hb
        · omega
        · have := h1 b hb; omega
theorem ins_mem {y : Int} : ∀ {L : List Int}, Asc L → y ∈ L → insI y L = L
  | [], _, h => by cases h
  | a :: r, h, hm => by
    obtain ⟨h1, h2⟩ := List.pairwise_cons.1 h
    unfold insI
    rcases List.mem_cons.1 hm with e | hm
    · rw [if_neg (by omega), if_pos e.symm]
    · rw [if_pos (h1 y hm), ins_mem h2 hm]
theorem ins_new {y : Int} : ∀ {L : List Int}, ¬ y ∈ L → (insI y L).length = L.length + 1
  | [], _ => rfl
  | a :: r, h => by
    unfold insI
    by_cases e : a < y
    · rw [if_pos e, List.length_cons, ins_new (fun hm => h (List.mem_cons_of_mem _ hm)), List.length_cons]
    · rw [if_neg e, if_neg (fun e => h (by rw [e]; exact List.mem_cons_self))]
      rfl
theorem ins_len {y : Int} : ∀ (L : List Int), (insI y L).length ≤ L.length + 1
  | [] => Nat.le_refl _
  | a :: r => by
    unfold insI
    have := ins_len (y := y) r
    split
    · simp; exact this
    · split <;> simp
theorem asc_len : ∀ {L : List Int} {a b : Int}, Asc L → a ≤ b → (∀ z ∈ L, a ≤ z ∧ z < b) → (L.length : Int) ≤ b - a
  | [], a, b, _, hab, _ => by simp; omega
  | x :: r, a, b, h, hab, hz => by
    obtain ⟨h1, h2⟩ := List.pairwise_cons.1 h
    have hx := hz x List.mem_cons_self
    have ih := asc_len (L := r) (a := x + 1) (b := b) h2 (by omega) (fun z hm => ⟨by have := h1 z hm; omega, (hz z (List.mem_cons_of_mem _ hm)).2⟩)
    simp
    omega
theorem asc_uniq : ∀ {L M : List Int}, Asc L → Asc M → (∀ z, z ∈ L ↔ z ∈ M) → L = M
  | [], [], _, _, _ => rfl
  | [], b :: s, _, _, h => absurd ((h b).2 List.mem_cons_self) (by simp)
  | a :: r, [], _, _, h => absurd ((h a).1 List.mem_cons_self) (by simp)
  | a :: r, b :: s, hl, hm, h => by
    obtain ⟨l1, l2⟩ := List.pairwise_cons.1 hl
    obtain ⟨m1, m2⟩ := List.pairwise_cons.1 hm
    have e : a = b := by
      rcases List.mem_cons.1 ((h a).1 List.mem_cons_self) with e | ha
      · exact e
      · rcases List.mem_cons.1 ((h b).2 List.mem_cons_self) with e | hb
        · exact e.symm
        · have := m1 a ha; have := l1 b hb; omega
    subst e
    rw [asc_uniq l2 m2 (fun z => ⟨fun hz => ?_, fun hz => ?_⟩)]
    · rcases List.mem_cons.1 ((h z).1 (List.mem_cons_of_mem _ hz)) with e | h'
      · have := l1 z hz; omega
      · exact h'
    · rcases List.mem_cons.1 ((h z).2 (List.mem_cons_of_mem _ hz)) with e | h'
      · have := m1 z hz; omega
      · exact h'
theorem nd_asc : ∀ (L : List Int), L.Nodup → ∃ M : List Int, Asc M ∧ (∀ z, z ∈ M ↔ z ∈ L) ∧ M.length = L.length
  | [], _ => ⟨[], List.Pairwise.nil, fun _ => Iff.rfl, rfl⟩
  | a :: r, h => by
    obtain ⟨h1, h2⟩ := List.nodup_cons.1 h
    obtain ⟨M, m1, m2, m3⟩ := nd_asc r h2
    refine ⟨insI a M, asc_ins m1, fun z => by rw [mem_ins, List.mem_cons, m2], ?_⟩
    rw [ins_new (fun hm => h1 ((m2 a).1 hm)), m3]
    rfl
/-- as many as there are states at most -/
theorem nd_len {L : List Int} {n : Nat} (h : L.Nodup) (hz : ∀ z ∈ L, 0 ≤ z ∧ z < (n : Int)) : L.length ≤ n := by
  obtain ⟨M, m1, m2, m3⟩ := nd_asc L h
  have := asc_len (a := 0) (b := n) m1 (by omega) (fun z hm => hz z ((m2 z).1 hm))
  omega

/-! ### what is reached -/
inductive Rch (ts : List Tri) (z : Int) : Int → Prop
  | here : Rch ts z z
  | next {t : Tri} : Rch ts z t.1 → t ∈ ts → Rch ts z t.2.2
def Cls (ts : List Tri) (L : List Int) : Prop := ∀ t ∈ ts, t.1 ∈ L → t.2.2 ∈ L
theorem rch_mem {ts : List Tri} {z : Int} {L : List Int} (h0 : z ∈ L) (hc : Cls ts L) {u : Int} (h : Rch ts z u) : u ∈ L := by
  induction h with
  | here => exact h0
  | next _ ht ih => exact hc _ ht ih
theorem rch_in {ts : List Tri} {z : Int} {n : Nat} (hz : 0 ≤ z ∧ z < (n : Int)) (ht : ∀ t ∈ ts, 0 ≤ t.2.2 ∧ t.2.2 < (n : Int)) {u : Int} (h : Rch ts z u) : 0 ≤ u ∧ u < (n : Int) := by
  cases h with
  | here => exact hz
  | next _ hm => exact ht _ hm

/-! ### the rounds -/
def stp (o : List Int) (t : Tri) : List Int := if hasB o t.1 = true then insI t.2.2 o else o
def rnd (ts : List Tri) (o : List Int) : List Int := ts.foldl stp o
def rnds (ts : List Tri) (z : Int) : Nat → List Int
  | 0 => [z]
  | r + 1 => rnd ts (rnds ts z r)
theorem rnd_snoc {ts : List Tri} {i : Nat} {t : Tri} {o : List Int} (h : ts[i]? = some t) : rnd (ts.take (i + 1)) o = stp (rnd (ts.take i) o) t := by
  unfold rnd
  rw [List.take_add_one, h, List.foldl_append]
  rfl
theorem stp_yes {o : List Int} {t : Tri} (h : hasB o t.1 = true) : stp o t = insI t.2.2 o := by unfold stp; rw [if_pos h]
theorem stp_no {o : List Int} {t : Tri} (h : hasB o t.1 = false) : stp o t = o := by unfold stp; rw [if_neg (by rw [h]; simp)]
theorem stp_asc {o : List Int} {t : Tri} (h : Asc o) : Asc (stp o t) := by
  unfold stp
  split
  · exact asc_ins h
  · exact h
theorem stp_sub {o : List Int} {t : Tri} {z : Int} (h : z ∈ o) : z ∈ stp o t := by
  unfold stp
  split
  · exact (mem_ins o).2 (.inr h)
  · exact h
theorem stp_or {o : List Int} {t : Tri} (h : Asc o) : (stp o t = o ∧ (t.1 ∈ o → t.2.2 ∈ o)) ∨ (stp o t).length = o.length + 1 := by
  by_cases h1 : t.1 ∈ o
  · have hb : hasB o t.1 = true := decide_eq_true h1
    rw [stp_yes hb]
    by_cases h2 : t.2.2 ∈ o
    · exact .inl ⟨ins_mem h h2, fun _ => h2⟩
    · exact .inr (ins_new h2)
  · have hb : hasB o t.1 = false := decide_eq_false h1
    rw [stp_no hb]
    exact .inl ⟨rfl, fun h => absurd h h1⟩
theorem rnd_asc : ∀ (ts : List Tri) {o : List Int}, Asc o → Asc (rnd ts o)
  | [], _, h => h
  | t :: ts, o, h => rnd_asc ts (o := stp o t) (stp_asc h)
theorem rnd_sub : ∀ (ts : List Tri) {o : List Int} {z : Int}, z ∈ o → z ∈ rnd ts o
  | [], _, _, h => h
  | t :: ts, o, z, h => rnd_sub ts (o := stp o t) (stp_sub h)
theorem rnd_len : ∀ (ts : List Tri) {o : List Int}, Asc o → o.length ≤ (rnd ts o).length
  | [], _, _ => Nat.le_refl _
  | t :: ts, o, h => by
    have h1 := rnd_len ts (stp_asc (t := t) h)
    rcases stp_or (t := t) h with ⟨e, -⟩ | e
    · have : (stp o t).length = o.length := by rw [e]
      exact Nat.le_trans (Nat.le_of_eq this.symm) h1
    · exact Nat.le_trans (by omega) h1
theorem rnd_or : ∀ (ts : List Tri) {o : List Int}, Asc o → (rnd ts o = o ∧ Cls ts o) ∨ o.length + 1 ≤ (rnd ts o).length
  | [], o, h => .inl ⟨rfl, fun t ht => by cases ht⟩
  | t :: ts, o, h => by
    show (rnd ts (stp o t) = o ∧ _) ∨ o.length + 1 ≤ (rnd ts (stp o t)).length
    have h1 := rnd_len ts (stp_asc (t := t) h)
    rcases stp_or (t := t) h with ⟨e, hc⟩ | e
    · rw [e]
      rcases rnd_or ts h with ⟨e2, hc2⟩ | h2
      · exact .inl ⟨e2, fun u hu => by
          rcases List.mem_cons.1 hu with rfl | hu
          · exact hc
          · exact hc2 u hu⟩
      · exact .inr h2
    · exact .inr (by omega)
theorem rnd_cls : ∀ (ts : List Tri) {o : List Int}, Asc o → Cls ts o → rnd ts o = o
  | [], _, _, _ => rfl
  | t :: ts, o, h, hc => by
    show rnd ts (stp o t) = o
    have e : stp o t = o := by
      unfold stp
      split
      · rename_i hb
        exact ins_mem h (hc t List.mem_cons_self (of_decide_eq_true hb))
      · rfl
    rw [e]
    exact rnd_cls ts h (fun u hu => hc u (List.mem_cons_of_mem _ hu))
theorem rnd_rch {ts : List Tri} {z : Int} : ∀ (us : List Tri) {o : List Int}, (∀ u ∈ us, u ∈ ts) → (∀ a ∈ o, Rch ts z a) → ∀ a ∈ rnd us o, Rch ts z a
  | [], _, _, h => h
  | t :: us, o, hs, h => rnd_rch us (o := stp o t) (fun u hu => hs u (List.mem_cons_of_mem _ hu)) (fun a ha => by
    unfold stp at ha
    split at ha
    · rename_i hb
      rcases (mem_ins o).1 ha with rfl | ha
      · exact .next (h _ (of_decide_eq_true hb)) (hs t List.mem_cons_self)
      · exact h a ha
    · exact h a ha)
theorem rnds_asc (ts : List Tri) (z : Int) : ∀ r, Asc (rnds ts z r)
  | 0 => by simp [rnds, Asc]
  | r + 1 => rnd_asc ts (rnds_asc ts z r)
theorem rnds_rch (ts : List Tri) (z : Int) : ∀ r, ∀ a ∈ rnds ts z r, Rch ts z a
  | 0 => fun a ha => by
    simp [rnds] at ha
    subst ha
    exact .here
  | r + 1 => rnd_rch ts (fun _ h => h) (rnds_rch ts z r)
theorem rnds_here (ts : List Tri) (z : Int) : ∀ r, z ∈ rnds ts z r
  | 0 => by simp [rnds]
  | r + 1 => rnd_sub ts (rnds_here ts z r)
theorem rnds_or (ts : List Tri) (z : Int) : ∀ r, Cls ts (rnds ts z r) ∨ r + 1 ≤ (rnds ts z r).length
  | 0 => .inr (by simp [rnds])
  | r + 1 => by
    rcases rnds_or ts z r with h | h
    · have e : rnds ts z (r + 1) = rnds ts z r := rnd_cls ts (rnds_asc ts z r) h
      rw [e]; exact .inl h
    · rcases rnd_or ts (rnds_asc ts z r) with ⟨e, hc⟩ | h2
      · have e : rnds ts z (r + 1) = rnds ts z r := e
        rw [e]; exact .inl hc
      · exact .inr (by show r + 1 + 1 ≤ (rnd ts (rnds ts z r)).length; omega)
/-- the numbers of the states reached from z -/
def rcL (n : Nat) (ts : List Tri) (z : Int) : List Int := rnds ts z n
section
variable {n : Nat} {ts : List Tri} {z : Int}
theorem rnds_in (hz : 0 ≤ z ∧ z < (n : Int)) (ht : ∀ t ∈ ts, 0 ≤ t.2.2 ∧ t.2.2 < (n : Int)) (r : Nat) : ∀ a ∈ rnds ts z r, 0 ≤ a ∧ a < (n : Int) := fun a ha => rch_in hz ht (rnds_rch ts z r a ha)
theorem rnds_len (hz : 0 ≤ z ∧ z < (n : Int)) (ht : ∀ t ∈ ts, 0 ≤ t.2.2 ∧ t.2.2 < (n : Int)) (r : Nat) : (rnds ts z r).length ≤ n := by
  have := asc_len (a := 0) (b := n) (rnds_asc ts z r) (by omega) (rnds_in hz ht r)
  omega
theorem rcL_cls (hz : 0 ≤ z ∧ z < (n : Int)) (ht : ∀ t ∈ ts, 0 ≤ t.2.2 ∧ t.2.2 < (n : Int)) : Cls ts (rcL n ts z) := by
  rcases rnds_or ts z n with h | h
  · exact h
  · have := rnds_len hz ht n; omega
theorem rcL_mem (hz : 0 ≤ z ∧ z < (n : Int)) (ht : ∀ t ∈ ts, 0 ≤ t.2.2 ∧ t.2.2 < (n : Int)) (u : Int) : u ∈ rcL n ts z ↔ Rch ts z u := ⟨rnds_rch ts z n u, rch_mem (rnds_here ts z n) (rcL_cls hz ht)⟩
theorem rcL_asc : Asc (rcL n ts z) := rnds_asc ts z n
/-- a list worked off, sorted -/
theorem rcL_of {Z S : List Int} (hz : 0 ≤ z ∧ z < (n : Int)) (ht : ∀ t ∈ ts, 0 ≤ t.2.2 ∧ t.2.2 < (n : Int)) (h0 : z ∈ Z) (hr : ∀ a ∈ Z, Rch ts z a) (hc : Cls ts Z) (hs : Asc S) (hm : ∀ u, u ∈ S ↔ u ∈ Z) : S = rcL n ts z :=
  asc_uniq hs rcL_asc (fun u => by rw [hm, rcL_mem hz ht]; exact ⟨hr u, rch_mem h0 hc⟩)
theorem sort_asc {Z : List Int} (h : Z.Nodup) : Asc (Z.mergeSort (fun x y => decide (x ≤ y))) := by
  have h1 : (Z.mergeSort (fun x y => decide (x ≤ y))).Pairwise (fun a b => decide (a ≤ b) = true) := List.pairwise_mergeSort (le := fun x y : Int => decide (x ≤ y)) (fun a b c h1 h2 => by simp at *; omega) (fun a b => by simp; omega) Z
  have h2 : (Z.mergeSort (fun x y => decide (x ≤ y))).Nodup := (List.mergeSort_perm Z _).nodup_iff.2 h
  exact (h1.and h2).imp (fun ⟨a, b⟩ => by simp at a; omega)
theorem sort_mem {Z : List Int} (u : Int) : u ∈ Z.mergeSort (fun x y => decide (x ≤ y)) ↔ u ∈ Z := (List.mergeSort_perm Z _).mem_iff
end
end Go.Proofs.Ytlpgldejmdiceaa.rea
