/- JoinNames: what it makes. -/
import Derived.Test.YtlpgldejmdiceabGreatRtg
import Derived.Test.YtlpgldejmdiceabGreatLo
import Derived.Test.YtlpgldejmdiceabGreatNl
import Derived.Test.YtlpgldejmdiceabGreatQf
namespace Go.Proofs.YtlpgldejmdiceabGreat.jo
open kit bg sg opn strs only hb sig isig un over gn nm inn ht gd im pt marks eqs hc hi hw hn rs br bm bw cf lf ib isa lawb lw cl rt ix tg rl ed tp rtg lo nl lep rnp pm pl mb sb wb
open Go.RowKit
set_option linter.unusedVariables false
theorem bl_lt : ∀ a b : List UInt8, Op.bytesLess a b = true ↔ a < b
  | [], [] => by simp [Op.bytesLess]
  | [], y :: b => by simp [Op.bytesLess]
  | x :: a, [] => by simp [Op.bytesLess]
  | x :: a, y :: b => by
    have ih := bl_lt a b
    simp only [Op.bytesLess, Bool.or_eq_true, Bool.and_eq_true, decide_eq_true_eq, List.cons_lt_cons_iff, ih, beq_iff_eq]
theorem pw_of {α : Type} {r : α → α → Prop} (ht : ∀ a b c, r a b → r b c → r a c) : ∀ (l : List α), (∀ (k : Nat) a b, l[k]? = some a → l[k + 1]? = some b → r a b) → l.Pairwise r
  | [], _ => List.Pairwise.nil
  | [a], _ => by simp
  | a :: b :: l, h => by
    have ih := pw_of ht (b :: l) (fun k x y h1 h2 => h (k + 1) x y h1 h2)
    have hab := h 0 a b rfl rfl
    refine List.pairwise_cons.2 ⟨fun z hz => ?_, ih⟩
    rcases List.mem_cons.1 hz with rfl | hz
    · exact hab
    · exact ht _ _ _ hab ((List.pairwise_cons.1 ih).1 z hz)
/-- names in ascending order, as lists of bytes -/
theorem names_pw {ss : List ByteArray} (h : NamesP ss) : ss.Pairwise (fun a b => a.toList < b.toList) :=
  pw_of (r := fun a b : ByteArray => a.toList < b.toList) (fun _ _ _ h1 h2 => List.lt_trans h1 h2) ss (fun k a b h1 h2 => (bl_lt a.toList b.toList).1 (h.2 k a b h1 h2))
theorem names_inj {ss : List ByteArray} (h : NamesP ss) {i j : Nat} {s : ByteArray} (hi : ss[i]? = some s) (hj : ss[j]? = some s) : i = j := by
  have hp := List.pairwise_iff_getElem.1 (names_pw h)
  obtain ⟨h1, e1⟩ := List.getElem?_eq_some_iff.1 hi
  obtain ⟨h2, e2⟩ := List.getElem?_eq_some_iff.1 hj
  rcases Nat.lt_trichotomy i j with c | c | c
  · have := hp i j h1 h2 c
    rw [e1, e2] at this
    exact absurd this (List.lt_irrefl _)
  · exact c
  · have := hp j i h2 h1 c
    rw [e1, e2] at this
    exact absurd this (List.lt_irrefl _)
theorem name_ne {ss : List ByteArray} (h : NamesP ss) {s : ByteArray} (hs : s ∈ ss) : s.toList.isEmpty = false ∧ s ≠ noS := by
  obtain ⟨k, hk⟩ := List.getElem?_of_mem hs
  have h1 := h.1 k s hk
  unfold nameB at h1
  simp only [Bool.and_eq_true] at h1
  have h2 := inb_true h1.2
  have hne : s ≠ noS := fun e => by
    rw [e] at h2
    exact absurd h2.1 (by decide)
  refine ⟨?_, hne⟩
  cases hq : s.toList.isEmpty with
  | false => rfl
  | true => exact absurd (str_eq (b := noS) (by rw [List.isEmpty_iff.1 hq]; simp [noS])) hne
theorem relB_congr {f g : Int → Int} {b : Big} (h1 : ∀ x ∈ b.nodes, ∀ l ∈ x.links, f l = g l) (h2 : ∀ x ∈ b.inner, f x.link = g x.link) : relB f b = relB g b := by
  unfold relB
  congr 1
  · exact List.map_congr_left (fun x hx => by rw [List.map_congr_left (fun l hl => h1 x hx l hl)])
  · exact List.map_congr_left (fun x hx => by rw [h2 x hx])
/-- the names with one of them replaced -/
noncomputable def nmR (ss : List ByteArray) (fr tt : ByteArray) : List ByteArray := ss.set (ixF ss fr).toNat tt
theorem jo_link {b : Big} {fr tt : ByteArray} (hP : NamesP b.outer) (hf : fr ∈ b.outer) (ht : tt ∈ b.outer) {l : Int} (hl : 0 ≤ l ∧ l < b.edges + b.outer.length) (ou : List ByteArray) :
    reL b (insF ⟨0, fr⟩ ⟨0, tt⟩) b.edges ou l = ouF b (nmR b.outer fr tt) ou l := by
  have hfe := (name_ne hP hf).2
  by_cases h0 : l < b.edges
  · unfold reL
    rw [tgOf_edge h0, insF_no (fun h => hfe h.2.symm), lk_edge (by unfold isE noS; simp), ouF_edge h0]
  · obtain ⟨k, hk⟩ : ∃ k : Nat, l - b.edges = k := ⟨(l - b.edges).toNat, by omega⟩
    have hkl : k < b.outer.length := by omega
    have hs : b.outer[k]? = some b.outer[k] := List.getElem?_eq_getElem hkl
    obtain ⟨s, hs'⟩ : ∃ s, b.outer[k]'hkl = s := ⟨_, rfl⟩
    rw [hs'] at hs
    unfold reL
    rw [tgOf_name h0 hk hs]
    rcases ixF_cases b.outer fr with ⟨_, hno⟩ | ⟨j, hj, hjs, _⟩
    · exact absurd hf hno
    have hjn : (ixF b.outer fr).toNat = j := by rw [hj]; exact Int.toNat_natCast j
    by_cases e : s = fr
    · subst e
      have hkj := names_inj hP hs hjs
      subst hkj
      rw [insF_yes rfl rfl, lk_name (show isE ⟨0, tt⟩ = false from (name_ne hP ht).1)]
      rw [ouF_name (s := tt) h0 hk (by unfold nmR; rw [hjn, List.getElem?_set_self hkl])]
    · have hkj : j ≠ k := fun e2 => by
        subst e2
        rw [hjs] at hs
        injection hs with hs
        exact e hs.symm
      rw [insF_no (fun h => e h.2), lk_name (show isE ⟨0, s⟩ = false from (name_ne hP (List.mem_of_getElem? hs)).1)]
      rw [ouF_name (s := s) h0 hk (by unfold nmR; rw [hjn, List.getElem?_set_ne hkj]; exact hs)]
theorem jo_eq {cs : List Ctl} {b : Big} {fr tt : ByteArray} (hg : bigB cs b = true) (hf : fr ∈ b.outer) (ht : tt ∈ b.outer) (ou : List ByteArray) :
    reB b (insF ⟨0, fr⟩ ⟨0, tt⟩) b.edges ou = ouB b (nmR b.outer fr tt) ou := by
  have hP := (big_of hg).2.2.1
  have hlk : ∀ l : Int, inb l 0 (b.edges + b.outer.length - 1) = true → 0 ≤ l ∧ l < b.edges + b.outer.length := fun l h => by have := inb_true h; omega
  unfold reB ouB
  rw [relB_congr (f := reL b (insF ⟨0, fr⟩ ⟨0, tt⟩) b.edges ou) (g := ouF b (nmR b.outer fr tt) ou) (fun x hx l hl => ?_) (fun x hx => ?_)]
  · obtain ⟨k, hk⟩ := List.getElem?_of_mem hx
    obtain ⟨i, hi⟩ := List.getElem?_of_mem hl
    exact jo_link hP hf ht (hlk l (((big_of hg).2.2.2.2.1 k x hk).2.2 i l hi)) ou
  · obtain ⟨i, hi⟩ := List.getElem?_of_mem hx
    exact jo_link hP hf ht (hlk x.link ((big_of hg).2.2.2.2.2.2 i x hi)) ou
open Classical in
noncomputable def joP (cs : List Ctl) (b : Big) (fr tt : ByteArray) : Bool := bigB cs b && (!(fr.toList == tt.toList)) && inB b.outer fr && inB b.outer tt
noncomputable def joB (b : Big) (fr tt : ByteArray) : Big := ouB b (nmR b.outer fr tt) (lessL b.outer fr)
noncomputable def joR (cs : List Ctl) (b : Big) (fr tt : ByteArray) : Big := if joP cs b fr tt = true then joB b fr tt else zeroBig
theorem jo_no {cs : List Ctl} {b : Big} {fr tt : ByteArray} (h : joP cs b fr tt = false) : joR cs b fr tt = zeroBig := by unfold joR; rw [h]; rfl
theorem jo_yes {cs : List Ctl} {b : Big} {fr tt : ByteArray} (h : joP cs b fr tt = true) : joR cs b fr tt = joB b fr tt := by unfold joR; rw [h]; rfl
theorem jo_len (cs : List Ctl) (b : Big) (fr tt : ByteArray) : bigMk (joR cs b fr tt) ≤ 1048576 := by
  unfold joR
  split
  · next hq =>
    have hg : bigB cs b = true := by
      unfold joP at hq
      simp only [Bool.and_eq_true] at hq
      exact hq.1.1.1
    have h1 := relB_len (ouF b (nmR b.outer fr tt) (lessL b.outer fr)) b
    have h2 := big_mk hg
    have h3 := less_le b.outer fr
    have h4 : bigMk (joB b fr tt) + b.outer.length = bigMk (relB (ouF b (nmR b.outer fr tt) (lessL b.outer fr)) b) + (lessL b.outer fr).length := by
      show ndMk _ + _ + _ + _ + _ = ndMk _ + _ + _ + _ + _
      unfold joB ouB
      dsimp only
      show ndMk (relB (ouF b (nmR b.outer fr tt) (lessL b.outer fr)) b).nodes + b.sites.length + (lessL b.outer fr).length + 2 * (relB (ouF b (nmR b.outer fr tt) (lessL b.outer fr)) b).inner.length + b.outer.length = ndMk (relB (ouF b (nmR b.outer fr tt) (lessL b.outer fr)) b).nodes + b.sites.length + b.outer.length + 2 * (relB (ouF b (nmR b.outer fr tt) (lessL b.outer fr)) b).inner.length + (lessL b.outer fr).length
      omega
    omega
  · exact zero_len
end Go.Proofs.YtlpgldejmdiceabGreat.jo
