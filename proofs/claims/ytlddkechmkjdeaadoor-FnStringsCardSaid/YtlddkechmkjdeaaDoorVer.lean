/- VerifyChecksum of both programs. -/
import Derived.Test.YtlddkechmkjdeaaDoorSeal
import Derived.Test.YtlddkechmkjdeaaDoorSplit
import Derived.Test.YtlddkechmkjdeaaDoorShelfV
import Derived.Lib.IndexBytes
import Derived.Lib.IndexLaws
import Derived.Lib.Split
import Derived.Deep.AppendLies
namespace Go.Proofs.YtlddkechmkjdeaaDoor.vers
open kit hs sums num fmts seals split
open Go.RowKit
open Go.WideShapes (bytes_inj)

/-- the text ahead of the first mark -/
def pre (s : ByteArray) : ByteArray := ⟨(s.data.toList.takeWhile (· != 35)).toArray⟩
theorem tw_none {l : List UInt8} (h : ∀ k : Nat, l[k]? ≠ some 35) : l.takeWhile (· != 35) = l := by
  induction l with
  | nil => rfl
  | cons b l ih =>
    have hb : b ≠ 35 := fun e => h 0 (by rw [e]; rfl)
    rw [List.takeWhile_cons, if_pos (by simpa using hb), ih (fun k hk => h (k + 1) (by simpa using hk))]
theorem tw_at {l : List UInt8} : ∀ {o : Nat}, l[o]? = some 35 → (∀ k : Nat, k < o → l[k]? ≠ some 35) → l.takeWhile (· != 35) = l.take o := by
  induction l with
  | nil => intro o h _; simp at h
  | cons b l ih =>
    intro o h hn
    cases o with
    | zero =>
      have hb : b = 35 := by simpa using h
      subst hb
      simp
    | succ o =>
      have hb : b ≠ 35 := fun e => hn 0 (by omega) (by rw [e]; rfl)
      rw [List.takeWhile_cons, if_pos (by simpa using hb), List.take_succ_cons, ih (by simpa using h) (fun k hk hx => hn (k + 1) (by omega) (by simpa using hx))]
theorem cut_pre (s : ByteArray) : (ByteArray.mk (Lib.cut s.data.toList [35]).1.toArray) = pre s := by
  have e : (Lib.cut s.data.toList [35]).1 = s.data.toList.takeWhile (· != 35) := by
    unfold Lib.cut
    rw [Lib.index_one]
    by_cases h : 0 ≤ Lib.indexByte s.data.toList 35
    · rw [if_pos h]
      obtain ⟨o, ho⟩ := Int.eq_ofNat_of_zero_le h
      obtain ⟨h1, h2⟩ := Lib.indexByte_some ho
      rw [ho, Int.toNat_natCast]
      exact (tw_at h1 h2).symm
    · rw [if_neg h]
      have hg := Lib.indexByte_ge s.data.toList 35
      exact (tw_none (Lib.indexByte_none (l := s.data.toList) (c := 35) (by omega))).symm
  rw [e]; rfl
theorem has_pre (s : ByteArray) : has (pre s) 35 = false := by
  unfold has pre
  rw [List.any_eq_false]
  intro x hx
  have := List.all_takeWhile (p := fun x : UInt8 => x != 35) (l := s.data.toList)
  rw [List.all_eq_true] at this
  have h1 := this x (by simpa using hx)
  simp at h1 ⊢
  intro e
  exact h1 (UInt8.toNat_inj.1 (by show x.toNat = 35; omega))

theorem byte_iff {l : List UInt8} {k : Nat} (hk : k < l.length) : ((l.getD k 0).toNat : Int) = 35 ↔ l[k]? = some 35 := by
  rw [List.getD, List.getElem?_eq_getElem hk, Option.getD_some, Option.some.injEq]
  constructor
  · intro e; exact UInt8.toNat_inj.1 (by show l[k].toNat = 35; omega)
  · intro e; rw [e]; rfl
theorem done_succ (s : ByteArray) (c : Int) (k : Nat) : done s c (k + 1) = if ((s.data.toList.getD k 0).toNat : Int) = c then done s c k ++ [s.extract (frm s c k) k] else done s c k := rfl
theorem frm_succ (s : ByteArray) (c : Int) (k : Nat) : frm s c (k + 1) = if ((s.data.toList.getD k 0).toNat : Int) = c then k + 1 else frm s c k := rfl
theorem done_head (s : ByteArray) : ∀ k, k ≤ s.size → (done s 35 k = [] ∧ frm s 35 k = 0 ∧ ∀ j : Nat, j < k → s.data.toList[j]? ≠ some 35) ∨ (done s 35 k)[0]? = some (pre s) := by
  intro k
  induction k with
  | zero => intro _; exact .inl ⟨rfl, rfl, fun j hj => absurd hj (by omega)⟩
  | succ k ih =>
    intro hk
    have hl : k < s.data.toList.length := by simp; omega
    rw [done_succ, frm_succ]
    by_cases e : ((s.data.toList.getD k 0).toNat : Int) = 35
    · rw [if_pos e, if_pos e]
      right
      rcases ih (by omega) with ⟨h1, h2, h3⟩ | h
      · rw [h1, h2]
        have ht : (s.extract 0 k) = pre s := by
          apply bytes_inj
          rw [Lib.extract_from_zero, pre]
          exact (tw_at ((byte_iff hl).1 e) h3).symm
        rw [ht]; rfl
      · rw [List.getElem?_append_left (by have := (List.getElem?_eq_some_iff.1 h).1; exact this)]
        exact h
    · rw [if_neg e, if_neg e]
      rcases ih (by omega) with ⟨h1, h2, h3⟩ | h
      · refine .inl ⟨h1, h2, fun j hj => ?_⟩
        by_cases hjk : j = k
        · subst hjk; exact fun hx => e ((byte_iff hl).2 hx)
        · exact h3 j (by omega)
      · exact .inr h
theorem parts_head (s : ByteArray) : (parts s 35)[0]? = some (pre s) := by
  unfold parts
  rcases done_head s s.size (Nat.le_refl _) with ⟨h1, h2, h3⟩ | h
  · rw [h1, h2]
    have ht : (s.extract 0 s.size) = pre s := by
      apply bytes_inj
      rw [Lib.extract_from_zero, List.take_of_length_le (by simp), pre]
      refine (tw_none fun k => ?_).symm
      by_cases hk : k < s.size
      · exact h3 k hk
      · rw [List.getElem?_eq_none (by simp; omega)]; simp
    rw [ht]; rfl
  · rw [List.getElem?_append_left (by have := (List.getElem?_eq_some_iff.1 h).1; exact this)]
    exact h

open Classical in
/-- what VerifyChecksum comes to -/
noncomputable def verV (s : ByteArray) : Array Value := if s.size ≤ 4000 ∧ seal_ (pre s) = s then #[.string (pre s), .bool true] else #[.string ⟨#[]⟩, .bool false]
theorem ver_yes {s : ByteArray} (h : s.size ≤ 4000 ∧ seal_ (pre s) = s) : verV s = #[.string (pre s), .bool true] := if_pos h
theorem ver_no {s : ByteArray} (h : ¬ (s.size ≤ 4000 ∧ seal_ (pre s) = s)) : verV s = #[.string ⟨#[]⟩, .bool false] := if_neg h
theorem ver_form (s : ByteArray) : ∃ o b, verV s = #[.string o, .bool b] := by
  by_cases h : s.size ≤ 4000 ∧ seal_ (pre s) = s
  · exact ⟨_, _, ver_yes h⟩
  · exact ⟨_, _, ver_no h⟩
theorem pre_size (s : ByteArray) : (pre s).size ≤ s.size := by
  have h : (s.data.toList.takeWhile (· != 35)).length ≤ s.data.toList.length := (List.takeWhile_sublist _).length_le
  have e1 : (pre s).size = (s.data.toList.takeWhile (· != 35)).length := by simp [pre, ByteArray.size]
  have e2 : s.data.toList.length = s.size := by simp
  omega
theorem ba_ne {a s : ByteArray} (h : ¬ a = s) : (a.toList == s.toList) = false := by
  rw [ByteArray.toList_eq, ByteArray.toList_eq, beq_eq_false_iff_ne]
  intro e
  exact h (bytes_inj e)

set_option maxHeartbeats 800000 in
theorem specVer_any (s : ByteArray) (w : World) (hs : s.size ≤ 1048576) :
    Calls Tryd.prog 20 #[.string s] w fun e w' => e = .returned (.tuple (verV s)) ∧ Below w.heap.size w w' := by
  by_cases h1 : s.size ≤ 4000
  · have hpz := pre_size s
    have HH := Lib.hid (parts_head s)
    obtain ⟨p, hp⟩ : ∃ p, pre s = p := ⟨_, rfl⟩
    rw [hp] at hpz
    have HP := Lib.hid hp
    by_cases h2 : seal_ (pre s) = s
    · have HF := Lib.hid (ver_yes ⟨h1, h2⟩)
      have HE := Lib.hid h2
      clear h2 hp
      go_enter Tryd.func20, Tryd.ntmps20
      go_wp2_with fail
      refine (split_any s 35 _ hs).mono ?_
      rintro e w1 ⟨v, rfl, hown, -, hbel⟩
      have hlen : 0 < (parts s 35).length := (List.getElem?_eq_some_iff.1 HH.out).1
      obtain ⟨g, cap, hv, _, _⟩ := World.ownsRow.form hown hlen
      have hc := World.ownsRow.cells hown (g := g) (by rw [hv]; rfl) 0 (.string p) (by rw [List.getElem?_map, HH.out, HP.out]; rfl)
      have hc' : w1.cell? ⟨g, 0, none⟩ = some (.string p) := by simpa [Addr.add] using hc
      subst hv
      clear hc hown
      obtain ⟨n, hn⟩ : ∃ n, (parts s 35).length = n := ⟨_, rfl⟩
      rw [hn] at hlen ⊢
      clear hn
      go_wp2_with fail
      refine (seal_any p _ (by omega)).mono ?_
      have HE2 : Hid (seal_ p = s) := by rw [← HP.out]; exact HE.out
      rw [HE2.out]
      rintro e w2 ⟨rfl, hd⟩
      go_wp2_with fail
      go_ret2
      exact ⟨by rw [HF.out, HP.out]; rfl, hbel.trans (hd.below _)⟩
    · have HF := Lib.hid (ver_no (s := s) (fun h => h2 h.2))
      rw [hp] at h2
      have hne := ba_ne h2
      have hsz := seal_size p
      have hdz := dgt_size p
      obtain ⟨q, hq⟩ : ∃ q, seal_ p = q := ⟨_, rfl⟩
      rw [hq] at hne hsz
      have HQ := Lib.hid hq
      clear h2 hp hq hsz hdz
      go_enter Tryd.func20, Tryd.ntmps20
      go_wp2_with fail
      refine (split_any s 35 _ hs).mono ?_
      rintro e w1 ⟨v, rfl, hown, -, hbel⟩
      have hlen : 0 < (parts s 35).length := (List.getElem?_eq_some_iff.1 HH.out).1
      obtain ⟨g, cap, hv, _, _⟩ := World.ownsRow.form hown hlen
      have hc := World.ownsRow.cells hown (g := g) (by rw [hv]; rfl) 0 (.string p) (by rw [List.getElem?_map, HH.out, HP.out]; rfl)
      have hc' : w1.cell? ⟨g, 0, none⟩ = some (.string p) := by simpa [Addr.add] using hc
      subst hv
      clear hc hown
      obtain ⟨n, hn⟩ : ∃ n, (parts s 35).length = n := ⟨_, rfl⟩
      rw [hn] at hlen ⊢
      clear hn
      go_wp2_with fail
      refine (seal_any p _ (by omega)).mono ?_
      rw [HQ.out]
      rintro e w2 ⟨rfl, hd⟩
      go_wp2_with fail
      go_ret2
      exact ⟨by rw [HF.out]; rfl, hbel.trans (hd.below _)⟩
  · have HF := Lib.hid (ver_no (s := s) (fun h => h1 h.1))
    have h1' : 4000 < s.size := by omega
    go_enter Tryd.func20, Tryd.ntmps20
    go_wp2_with fail
    go_ret2
    exact ⟨by rw [HF.out]; rfl, Below.refl _ _⟩

/-- the cell of the library's that its searches look at -/
def Most (w : World) : Prop := ∃ m, w.cell? ⟨2, 0, none⟩ = some (.int .i64 m)
theorem most_of {w : World} (h : w.ShapedOpen Tryd.prog) : Most w := Tryd.laysM145.s1_3 w h
theorem Most.below {w w' : World} (h : Most w) (hb : Below w.heap.size w w') : Most w' := by
  obtain ⟨m, hm⟩ := h
  exact ⟨m, (hb.cell (World.block_lt_of_cell? w _ hm)).trans hm⟩
theorem cut_any (s : ByteArray) (w : World) (hs : s.size ≤ 1048576) (hm : Most w) :
    Calls Tryd.prog 35 #[.string s, .string ⟨#[35]⟩] w fun e w' => ∃ t b, e = .returned (.tuple #[.string (pre s), .string t, .bool b]) ∧ Dr w w' := by
  obtain ⟨m, hm⟩ := hm
  exact (Any.strings_Cut { Tryd.laysM145 with } s ⟨#[35]⟩ m w (by omega) hm).mono fun e w' ⟨he, hd⟩ => ⟨_, _, he.trans (by rw [← cut_pre]), hd⟩

set_option maxHeartbeats 800000 in
theorem implVer_any (s : ByteArray) (w : World) (hs : s.size ≤ 1048576) (hp : Pow w) (hm : Most w) :
    Calls Tryd.prog 18 #[.string s] w fun e w' => e = .returned (.tuple (verV s)) ∧ Below w.heap.size w w' := by
  have hpz := pre_size s
  have HHas := Lib.hid (has_pre s)
  have HVy := Lib.hid (ver_yes (s := s))
  have HVn := Lib.hid (ver_no (s := s))
  have HCut := Lib.hid (cut_any s w hs hm)
  obtain ⟨p, hpp⟩ : ∃ p, pre s = p := ⟨_, rfl⟩
  rw [hpp] at hpz HHas HVy HVn HCut
  have HP := Lib.hid hpp
  clear hpp
  by_cases hok : okS p
  · have HA := Lib.hid (apd_yes hok)
    by_cases h2 : seal_ p = s
    · have HF := Lib.hid (HVy.out ⟨by have := hok.2.2; rw [h2] at this; exact this, h2⟩)
      have HE := Lib.hid h2
      clear h2 hok
      go_enter Tryd.func18, Tryd.ntmps18
      go_wp2_with fail
      refine HCut.out.mono ?_
      rintro e w1 ⟨t, b, rfl, m, rfl⟩
      go_wp2_with fail
      refine (implApd_any p _ (by omega) (show Pow (w.drewN m) from hp)).mono ?_
      rw [HA.out, HE.out]
      rintro e w2 ⟨rfl, hb⟩
      go_wp2_with fail
      go_ret2
      exact ⟨by rw [HF.out]; rfl, (below_drewN (Below.refl _ _) m).trans hb⟩
    · have HF := Lib.hid (HVn.out (fun h => h2 h.2))
      have hne := ba_ne h2
      obtain ⟨q, hq⟩ : ∃ q, seal_ p = q := ⟨_, rfl⟩
      rw [hq] at hne
      have HQ := Lib.hid hq
      clear h2 hok hq
      go_enter Tryd.func18, Tryd.ntmps18
      go_wp2_with fail
      refine HCut.out.mono ?_
      rintro e w1 ⟨t, b, rfl, m, rfl⟩
      go_wp2_with fail
      refine (implApd_any p _ (by omega) (show Pow (w.drewN m) from hp)).mono ?_
      rw [HA.out, HQ.out]
      rintro e w2 ⟨rfl, hb⟩
      go_wp2_with fail
      go_ret2
      exact ⟨by rw [HF.out]; rfl, (below_drewN (Below.refl _ _) m).trans hb⟩
  · have HA := Lib.hid (apd_no hok)
    have HF := Lib.hid (HVn.out (fun h => hok ⟨by omega, HHas.out, by rw [h.2]; exact h.1⟩))
    clear hok
    go_enter Tryd.func18, Tryd.ntmps18
    go_wp2_with fail
    refine HCut.out.mono ?_
    rintro e w1 ⟨t, b, rfl, m, rfl⟩
    go_wp2_with fail
    refine (implApd_any p _ (by omega) (show Pow (w.drewN m) from hp)).mono ?_
    rw [HA.out]
    rintro e w2 ⟨rfl, hb⟩
    go_wp2_with fail
    go_ret2
    exact ⟨by rw [HF.out]; rfl, (below_drewN (Below.refl _ _) m).trans hb⟩
end Go.Proofs.YtlddkechmkjdeaaDoor.vers
