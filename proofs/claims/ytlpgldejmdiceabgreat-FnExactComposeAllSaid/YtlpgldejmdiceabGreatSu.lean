/- Names in ascending order, each once: what a list becomes, and that sorting and compacting comes to the same. -/
import Derived.Test.YtlpgldejmdiceabGreatQb
import Derived.Sort.OwnSorted
import Derived.Lib.SlicesCompact
import Derived.Sort.KeysCollected
namespace Go.Proofs.YtlpgldejmdiceabGreat.su
open kit bg sg opn strs only sig un over gn nm
open Go.RowKit Go.Sort Go.Lib
set_option linter.unusedVariables false
theorem bl_lt : ∀ a b : List UInt8, Op.bytesLess a b = true ↔ a < b
  | [], [] => by simp [Op.bytesLess]
  | [], y :: b => by simp [Op.bytesLess]
  | x :: a, [] => by simp [Op.bytesLess]
  | x :: a, y :: b => by
    have ih := bl_lt a b
    simp only [Op.bytesLess, Bool.or_eq_true, Bool.and_eq_true, decide_eq_true_eq, List.cons_lt_cons_iff, ih, beq_iff_eq]
/-- a string is less than another one -/
def ltS (a b : ByteArray) : Prop := a.toList < b.toList
theorem ltS_irr (a : ByteArray) : ¬ ltS a a := List.lt_irrefl _
theorem ltS_trans {a b c : ByteArray} (h : ltS a b) (k : ltS b c) : ltS a c := List.lt_trans h k
theorem toL_inj {a b : ByteArray} (h : a.toList = b.toList) : a = b := str_eq (by rw [h]; exact beq_self_eq_true _)
theorem ltS_tri (a b : ByteArray) (h : ¬ ltS a b) (hne : a ≠ b) : ltS b a := by
  by_cases h2 : b.toList < a.toList
  · exact h2
  · exact absurd (toL_inj (List.le_antisymm (List.not_lt.1 h2) (List.not_lt.1 h))) hne
open Classical in
/-- a string put in its place, if it is not there -/
noncomputable def insU (x : ByteArray) : List ByteArray → List ByteArray
  | [] => [x]
  | y :: l => if ltS y x then y :: insU x l else if y = x then y :: l else x :: y :: l
theorem ins_mem (x z : ByteArray) : ∀ l, z ∈ insU x l ↔ z = x ∨ z ∈ l
  | [] => by simp [insU]
  | y :: l => by
    unfold insU
    split
    · rw [List.mem_cons, ins_mem x z l, List.mem_cons]
      constructor
      · rintro (h | h | h)
        · exact .inr (.inl h)
        · exact .inl h
        · exact .inr (.inr h)
      · rintro (h | h | h)
        · exact .inr (.inl h)
        · exact .inl h
        · exact .inr (.inr h)
    · split
      · next h => subst h; simp
      · simp
theorem ins_pw (x : ByteArray) : ∀ l, l.Pairwise ltS → (insU x l).Pairwise ltS
  | [], _ => by simp [insU]
  | y :: l, h => by
    obtain ⟨h1, h2⟩ := List.pairwise_cons.1 h
    unfold insU
    split
    · next hlt =>
      refine List.pairwise_cons.2 ⟨fun z hz => ?_, ins_pw x l h2⟩
      rcases (ins_mem x z l).1 hz with rfl | hz
      · exact hlt
      · exact h1 z hz
    · split
      · exact h
      · next hlt hne =>
        have hxy := ltS_tri _ _ hlt hne
        refine List.pairwise_cons.2 ⟨fun z hz => ?_, h⟩
        rcases List.mem_cons.1 hz with rfl | hz
        · exact hxy
        · exact ltS_trans hxy (h1 z hz)
theorem ins_len (x : ByteArray) : ∀ l, (insU x l).length ≤ l.length + 1
  | [] => by simp [insU]
  | y :: l => by
    have := ins_len x l
    unfold insU
    split
    · simp only [List.length_cons]; omega
    · split <;> simp only [List.length_cons] <;> omega
theorem ins_put {x : ByteArray} : ∀ (l : List ByteArray) (k : Nat), (∀ (j : Nat) y, j < k → l[j]? = some y → ltS y x) → k ≤ l.length → (∀ y, l[k]? = some y → ¬ ltS y x ∧ y ≠ x) → insU x l = l.take k ++ [x] ++ l.drop k
  | [], k, _, hk, _ => by
    obtain rfl : k = 0 := by simpa using hk
    rfl
  | y :: l, 0, _, _, hn => by
    obtain ⟨a, b⟩ := hn y rfl
    unfold insU
    rw [if_neg a, if_neg b]
    rfl
  | y :: l, k + 1, hlt, hk, hn => by
    have h0 := hlt 0 y (by omega) rfl
    unfold insU
    rw [if_pos h0, ins_put l k (fun j z hj hz => hlt (j + 1) z (by omega) (by simpa using hz)) (by simpa using hk) (fun z hz => hn z (by simpa using hz))]
    rfl
theorem ins_same {x : ByteArray} : ∀ (l : List ByteArray) (k : Nat), (∀ (j : Nat) y, j < k → l[j]? = some y → ltS y x) → l[k]? = some x → insU x l = l
  | [], k, _, h => by simp at h
  | y :: l, 0, _, h => by
    have e : y = x := by simpa using h
    subst e
    unfold insU
    rw [if_neg (ltS_irr _), if_pos rfl]
  | y :: l, k + 1, hlt, h => by
    have h0 := hlt 0 y (by omega) rfl
    unfold insU
    rw [if_pos h0, ins_same l k (fun j z hj hz => hlt (j + 1) z (by omega) (by simpa using hz)) (by simpa using h)]
/-- the strings of a list in ascending order, each once -/
noncomputable def sortU (ss : List ByteArray) : List ByteArray := ss.foldl (fun o x => insU x o) []
theorem sortU_snoc (ss : List ByteArray) (x : ByteArray) : sortU (ss ++ [x]) = insU x (sortU ss) := by unfold sortU; rw [List.foldl_append]; rfl
theorem sortU_nil : sortU [] = [] := rfl
theorem sortU_all (ss : List ByteArray) : (∀ z, z ∈ sortU ss ↔ z ∈ ss) ∧ (sortU ss).Pairwise ltS ∧ (sortU ss).length ≤ ss.length := by
  have key : ∀ k, (∀ z, z ∈ sortU (ss.take k) ↔ z ∈ ss.take k) ∧ (sortU (ss.take k)).Pairwise ltS ∧ (sortU (ss.take k)).length ≤ (ss.take k).length := by
    intro k
    induction k with
    | zero => simp [sortU]
    | succ k ih =>
      obtain ⟨i1, i2, i3⟩ := ih
      rw [List.take_add_one]
      cases hx : ss[k]? with
      | none => simp only [Option.toList_none, List.append_nil]; exact ⟨i1, i2, i3⟩
      | some x =>
        simp only [Option.toList_some]
        rw [sortU_snoc]
        refine ⟨fun z => ?_, ins_pw x _ i2, ?_⟩
        · rw [ins_mem, i1, List.mem_append, List.mem_singleton]
          exact ⟨fun h => h.symm, fun h => h.symm⟩
        · have := ins_len x (sortU (ss.take k))
          rw [List.length_append, List.length_singleton]
          omega
  have := key ss.length
  rw [List.take_length] at this
  exact this
theorem sortU_mem {ss : List ByteArray} {z : ByteArray} : z ∈ sortU ss ↔ z ∈ ss := (sortU_all ss).1 z
theorem sortU_pw (ss : List ByteArray) : (sortU ss).Pairwise ltS := (sortU_all ss).2.1
theorem sortU_len (ss : List ByteArray) : (sortU ss).length ≤ ss.length := (sortU_all ss).2.2
/-- ascending lists with the same elements are the same -/
theorem pw_uniq : ∀ (l l' : List ByteArray), l.Pairwise ltS → l'.Pairwise ltS → (∀ x, x ∈ l ↔ x ∈ l') → l = l'
  | [], [], _, _, _ => rfl
  | [], y :: l', _, _, h => absurd ((h y).2 List.mem_cons_self) (by simp)
  | y :: l, [], _, _, h => absurd ((h y).1 List.mem_cons_self) (by simp)
  | y :: l, y' :: l', h1, h2, h => by
    obtain ⟨a1, b1⟩ := List.pairwise_cons.1 h1
    obtain ⟨a2, b2⟩ := List.pairwise_cons.1 h2
    have e : y = y' := by
      rcases List.mem_cons.1 ((h y).1 List.mem_cons_self) with e | e
      · exact e
      · rcases List.mem_cons.1 ((h y').2 List.mem_cons_self) with e2 | e2
        · exact e2.symm
        · exact absurd (ltS_trans (a1 _ e2) (a2 _ e)) (ltS_irr _)
    subst e
    congr 1
    refine pw_uniq l l' b1 b2 (fun x => ⟨fun hx => ?_, fun hx => ?_⟩)
    · rcases List.mem_cons.1 ((h x).1 (List.mem_cons_of_mem _ hx)) with e | e
      · subst e; exact absurd (a1 _ hx) (ltS_irr _)
      · exact e
    · rcases List.mem_cons.1 ((h x).2 (List.mem_cons_of_mem _ hx)) with e | e
      · subst e; exact absurd (a2 _ hx) (ltS_irr _)
      · exact e
theorem sortU_is {ss l : List ByteArray} (h : l.Pairwise ltS) (hm : ∀ x, x ∈ l ↔ x ∈ ss) : l = sortU ss := pw_uniq l _ h (sortU_pw ss) (fun x => (hm x).trans sortU_mem.symm)
theorem pw_of {α : Type} {r : α → α → Prop} (ht : ∀ a b c, r a b → r b c → r a c) : ∀ (l : List α), (∀ (k : Nat) a b, l[k]? = some a → l[k + 1]? = some b → r a b) → l.Pairwise r
  | [], _ => List.Pairwise.nil
  | [a], _ => by simp
  | a :: b :: l, h => by
    have ih := pw_of ht (b :: l) (fun k x y h1 h2 => h (k + 1) x y h1 h2)
    have hab := h 0 a b rfl rfl
    refine List.pairwise_cons.2 ⟨fun z hz => ?_, ih⟩
    rcases List.mem_cons.1 hz with rfl | hz
    · exact hab
    · exact ht _ _ _ hab ((List.pairwise_cons.1 ih).1 z hz)
theorem names_ltS {ss : List ByteArray} (h : NamesP ss) : ss.Pairwise ltS :=
  pw_of (r := ltS) (fun _ _ _ h1 h2 => ltS_trans h1 h2) ss (fun k a b h1 h2 => (bl_lt a.toList b.toList).1 (h.2 k a b h1 h2))
/-- names in ascending order stay -/
theorem sortU_id {ss : List ByteArray} (h : NamesP ss) : sortU ss = ss := (sortU_is (names_ltS h) (fun _ => Iff.rfl)).symm
/-- names that are sorted are names in ascending order -/
theorem sortU_names {ss : List ByteArray} : NamesP (sortU ss) ↔ ∀ s ∈ ss, nameB s = true := by
  constructor
  · intro h s hs
    obtain ⟨k, hk⟩ := List.getElem?_of_mem (sortU_mem.2 hs)
    exact h.1 k s hk
  · intro h
    refine ⟨fun k s hk => h s (sortU_mem.1 (List.mem_of_getElem? hk)), fun k a b h1 h2 => ?_⟩
    obtain ⟨l1, e1⟩ := List.getElem?_eq_some_iff.1 h1
    obtain ⟨l2, e2⟩ := List.getElem?_eq_some_iff.1 h2
    have := List.pairwise_iff_getElem.1 (sortU_pw ss) k (k + 1) l1 l2 (Nat.lt_succ_self k)
    rw [e1, e2] at this
    exact (bl_lt _ _).2 this
/-- strings as lists of bytes -/
def lists (ss : List ByteArray) : List (List UInt8) := ss.map fun s => s.data.toList
theorem lists_enc (ss : List ByteArray) : (lists ss).map encStr = ss.map Value.string := by
  unfold lists
  rw [List.map_map]
  exact List.map_congr_left (fun s _ => by simp [encStr])
theorem lists_back (ls : List (List UInt8)) : lists (ls.map fun l => (⟨l.toArray⟩ : ByteArray)) = ls := by
  unfold lists
  rw [List.map_map]
  exact List.map_id'' (fun l => by simp) ls
theorem back_enc (ls : List (List UInt8)) : ls.map encStr = (ls.map fun l => (⟨l.toArray⟩ : ByteArray)).map Value.string := by
  rw [List.map_map]
  rfl
/-- what compacting the first m of an ascending list comes to -/
theorem compact_pw (d : Array (List UInt8)) (hd : ∀ i j, i ≤ j → j < d.size → d[i]! ≤ d[j]!) : ∀ m, m ≤ d.size → (compactUpTo d m).Pairwise (· < ·) ∧ ∀ x, x ∈ compactUpTo d m ↔ ∃ j, j < m ∧ d[j]! = x := by
  intro m
  induction m with
  | zero => intro _; simp [compactUpTo]
  | succ m ih =>
    intro hm
    obtain ⟨i1, i2⟩ := ih (by omega)
    rw [compactUpTo_succ]
    cases hk : keeps d m with
    | true =>
      have hk2 : m = 0 ∨ d[m]! ≠ d[m - 1]! := by simpa [keeps] using hk
      rw [if_pos rfl]
      refine ⟨List.pairwise_append.2 ⟨i1, List.pairwise_singleton _ _, fun a ha b hb => ?_⟩, fun x => ?_⟩
      · rw [List.mem_singleton] at hb
        subst hb
        obtain ⟨j, hj, rfl⟩ := (i2 a).1 ha
        have h1 := hd j (m - 1) (by omega) (by omega)
        have h2 := hd (m - 1) m (by omega) (by omega)
        have h3 : d[m - 1]! < d[m]! := by
          by_cases h : d[m - 1]! < d[m]!
          · exact h
          · exact absurd (List.le_antisymm (List.not_lt.1 h) h2) (hk2.resolve_left (by omega))
        by_cases h : d[j]! < d[m]!
        · exact h
        · have h4 := List.not_lt.1 h
          exact absurd (List.le_antisymm (List.le_trans h4 h1) h2) (hk2.resolve_left (by omega))
      · rw [List.mem_append, List.mem_singleton, i2]
        constructor
        · rintro (⟨j, hj, e⟩ | e)
          · exact ⟨j, by omega, e⟩
          · exact ⟨m, by omega, e.symm⟩
        · rintro ⟨j, hj, e⟩
          by_cases h : j = m
          · subst h; exact .inr e.symm
          · exact .inl ⟨j, by omega, e⟩
    | false =>
      rw [if_neg (by simp), List.append_nil]
      have hk2 : ¬ (m = 0 ∨ d[m]! ≠ d[m - 1]!) := by
        intro h
        have : keeps d m = true := by unfold keeps; exact decide_eq_true h
        rw [this] at hk
        cases hk
      refine ⟨i1, fun x => (i2 x).trans ⟨fun ⟨j, hj, e⟩ => ⟨j, by omega, e⟩, fun ⟨j, hj, e⟩ => ?_⟩⟩
      by_cases h : j = m
      · subst h
        have hm0 : ¬ j = 0 := fun h => hk2 (.inl h)
        have he : d[j]! = d[j - 1]! := Classical.byContradiction fun h => hk2 (.inr h)
        exact ⟨j - 1, by omega, he ▸ e⟩
      · exact ⟨j, by omega, e⟩
/-- compacting what is sorted -/
theorem compact_sorted (ss : List ByteArray) : (compact ((lists ss).mergeSort fun x y => decide (x ≤ y))).map (fun l => (⟨l.toArray⟩ : ByteArray)) = sortU ss := by
  obtain ⟨L, hL⟩ : ∃ L, (lists ss).mergeSort (fun x y => decide (x ≤ y)) = L := ⟨_, rfl⟩
  have hp : L.Perm (lists ss) := hL ▸ List.mergeSort_perm _ _
  have hs : L.Pairwise (fun x y => decide (x ≤ y) = true) := by
    rw [← hL]
    refine List.pairwise_mergeSort (fun a b c h1 h2 => ?_) (fun a b => ?_) _
    · exact decide_eq_true (List.le_trans (of_decide_eq_true h1) (of_decide_eq_true h2))
    · rcases List.le_total a b with h | h
      · rw [decide_eq_true h]; rfl
      · rw [decide_eq_true h, Bool.or_true]
  rw [hL]
  clear hL
  unfold compact
  rw [show L.length = L.toArray.size from List.size_toArray.symm]
  obtain ⟨h1, h2⟩ := compact_pw L.toArray (fun i j hij hj => by
    have hj' : j < L.length := by simpa using hj
    by_cases e : i = j
    · subst e; exact List.le_refl _
    · have := List.pairwise_iff_getElem.1 hs i j (by omega) hj' (by omega)
      simpa [getElem!_pos, show i < L.length by omega, hj'] using of_decide_eq_true this) L.toArray.size (Nat.le_refl _)
  refine sortU_is ?_ (fun x => ?_)
  · refine List.pairwise_map.2 (h1.imp fun {a b} h => ?_)
    show (ByteArray.mk a.toArray).toList < (ByteArray.mk b.toArray).toList
    rw [ByteArray.toList_eq, ByteArray.toList_eq]
    exact h
  · rw [List.mem_map]
    constructor
    · rintro ⟨l, hl, rfl⟩
      obtain ⟨j, hj, e⟩ := (h2 l).1 hl
      have hj' : j < L.length := by simpa using hj
      have hm : l ∈ lists ss := hp.mem_iff.1 (by rw [← e]; simp [getElem!_pos, hj'])
      obtain ⟨s, hs', rfl⟩ := List.mem_map.1 hm
      exact hs'
    · intro hx
      have hm : x.data.toList ∈ L := hp.mem_iff.2 (List.mem_map.2 ⟨x, hx, rfl⟩)
      obtain ⟨j, hj, e⟩ := List.mem_iff_getElem.1 hm
      exact ⟨x.data.toList, (h2 _).2 ⟨j, by simpa using hj, by simp [getElem!_pos, hj, e]⟩, rfl⟩
end Go.Proofs.YtlpgldejmdiceabGreat.su
