/- AppendChecksum of both programs: the text, a mark and the checksum's digits, where the text holds no mark and all of it is short enough. -/
import Derived.Test.YtlddkechmkjdeaaDoorSum
import Derived.Test.YtlddkechmkjdeaaDoorHas
import Derived.Test.YtlddkechmkjdeaaDoorFmt
import Derived.Test.YtlddkechmkjdeaaDoorShelfC
import Derived.Lib.Bytealg
namespace Go.Proofs.YtlddkechmkjdeaaDoor.seals
open kit hs sums num fmts
open Go.RowKit

def dgt (s : ByteArray) : ByteArray := ⟨(Lib.itoa (ck s.data.toList)).toArray⟩
/-- a text with its mark and its checksum -/
def seal_ (s : ByteArray) : ByteArray := s ++ ⟨#[35]⟩ ++ dgt s
def okS (s : ByteArray) : Prop := s.size ≤ 4000 ∧ has s 35 = false ∧ (seal_ s).size ≤ 4000
open Classical in
/-- what AppendChecksum comes to -/
noncomputable def apdV (s : ByteArray) : Array Value := if okS s then #[.string (seal_ s), .bool true] else #[.string ⟨#[]⟩, .bool false]
theorem apd_yes {s : ByteArray} (h : okS s) : apdV s = #[.string (seal_ s), .bool true] := if_pos h
theorem apd_no {s : ByteArray} (h : ¬ okS s) : apdV s = #[.string ⟨#[]⟩, .bool false] := if_neg h
theorem apd_form (s : ByteArray) : ∃ o b, apdV s = #[.string o, .bool b] := by
  by_cases h : okS s
  · exact ⟨_, _, apd_yes h⟩
  · exact ⟨_, _, apd_no h⟩
theorem seal_size (s : ByteArray) : (seal_ s).size = s.size + 1 + (dgt s).size := by
  simp only [seal_, ByteArray.size_append]; rfl
theorem dgt_size (s : ByteArray) : (dgt s).size ≤ 999979 := by
  have h := ck_bd s.data.toList
  have e : (dgt s).size = (Lib.decDigits (ck s.data.toList).toNat).length := by
    simp only [dgt, Lib.itoa]
    rw [if_neg (by omega)]
    simp [ByteArray.size]
  have := dec_len _ (ck s.data.toList).toNat (Nat.le_refl _)
  omega

theorem index_iff (l : List UInt8) : 0 ≤ Lib.indexByte l 35 ↔ (l.any fun x => (x.toNat : Int) == 35) = true := by
  induction l with
  | nil => simp [Lib.indexByte]
  | cons b l ih =>
    have hg := Lib.indexByte_ge l 35
    rw [Lib.indexByte, List.any_cons]
    by_cases hb : b = 35
    · subst hb; simp
    · have h1 : (b == 35) = false := by simpa using hb
      have h2 : ((b.toNat : Int) == 35) = false := by
        rw [beq_eq_false_iff_ne]
        intro e
        exact hb (UInt8.toNat_inj.1 (by show b.toNat = 35; omega))
      rw [h1, h2, Bool.false_or, ← ih]
      by_cases hm : Lib.indexByte l 35 = -1
      · simp [hm]
      · have h3 : (Lib.indexByte l 35 == -1) = false := by simpa using hm
        simp only [h3, Bool.false_eq_true, if_false]
        omega
theorem index_any (l : List UInt8) : decide (0 ≤ Lib.indexByte l 35) = l.any fun x => (x.toNat : Int) == 35 := by
  cases h : l.any fun x => (x.toNat : Int) == 35 with
  | true => exact decide_eq_true ((index_iff l).2 h)
  | false => exact decide_eq_false (fun h2 => by rw [(index_iff l).1 h2] at h; cases h)

set_option maxHeartbeats 800000 in
theorem seal_any (s : ByteArray) (w : World) (hs : s.size ≤ 1048576) :
    Calls Tryd.prog 34 #[.string s] w fun e w' => e = .returned (.string (seal_ s)) ∧ Dr w w' := by
  have hz := dgt_size s
  have hbd := ck_bd s.data.toList
  unfold seal_
  obtain ⟨d, hd⟩ : ∃ d, dgt s = d := ⟨_, rfl⟩
  rw [hd] at hz ⊢
  obtain ⟨c, hc⟩ : ∃ c, ck s.data.toList = c := ⟨_, rfl⟩
  rw [hc] at hbd
  have HD : Hid ((ByteArray.mk (Lib.itoa c).toArray) = d) := by rw [← hd, ← hc]; rfl
  have HC := Lib.hid hc
  clear hd hc
  go_enter Tryd.func34, Tryd.ntmps34
  go_wp2_with fail
  refine (l1Sum_any s _ (by unfold maxLen; omega)).mono ?_
  rw [HC.out]
  rintro e w' ⟨rfl, rfl⟩
  go_wp2_with fail
  refine (num_any c _ (by omega) (by omega)).mono ?_
  rw [HD.out]
  rintro e w' ⟨rfl, hdr⟩
  go_wp2_with fail
  go_ret
  exact ⟨rfl, hdr⟩

set_option maxHeartbeats 800000 in
theorem specApd_any (s : ByteArray) (w : World) (hs : s.size ≤ 1048576) :
    Calls Tryd.prog 17 #[.string s] w fun e w' => e = .returned (.tuple (apdV s)) ∧ Dr w w' := by
  by_cases h1 : s.size ≤ 4000
  · cases hq : has s 35 with
    | true =>
      have HF := Lib.hid (apd_no (s := s) (fun h => by rw [h.2.1] at hq; cases hq))
      have HQ := Lib.hid hq
      clear hq
      go_enter Tryd.func17, Tryd.ntmps17
      go_wp2_with fail
      refine (stands_q s 35 _ (by unfold maxLen; omega)).mono ?_
      rw [HQ.out]
      rintro e w' ⟨rfl, rfl⟩
      go_wp2_with fail
      go_ret2
      exact ⟨by rw [HF.out]; rfl, Dr.refl _⟩
    | false =>
      have HQ := Lib.hid hq
      by_cases h3 : (seal_ s).size ≤ 4000
      · have HF := Lib.hid (apd_yes ⟨h1, hq, h3⟩)
        clear hq
        obtain ⟨o, ho⟩ : ∃ o, seal_ s = o := ⟨_, rfl⟩
        rw [ho] at h3
        have HO := Lib.hid ho
        clear ho
        go_enter Tryd.func17, Tryd.ntmps17
        go_wp2_with fail
        refine (stands_q s 35 _ (by unfold maxLen; omega)).mono ?_
        rw [HQ.out]
        rintro e w' ⟨rfl, rfl⟩
        go_wp2_with fail
        refine (seal_any s _ hs).mono ?_
        rw [HO.out]
        rintro e w1 ⟨rfl, hd1⟩
        go_wp2_with fail
        refine (seal_any s _ hs).mono ?_
        rw [HO.out]
        rintro e w2 ⟨rfl, hd2⟩
        go_wp2_with fail
        go_ret2
        exact ⟨by rw [HF.out, HO.out]; rfl, hd1.trans hd2⟩
      · have HF := Lib.hid (apd_no (s := s) (fun h => h3 h.2.2))
        clear hq
        obtain ⟨o, ho⟩ : ∃ o, seal_ s = o := ⟨_, rfl⟩
        rw [ho] at h3
        have h3' : 4000 < o.size := by omega
        have HO := Lib.hid ho
        clear ho
        go_enter Tryd.func17, Tryd.ntmps17
        go_wp2_with fail
        refine (stands_q s 35 _ (by unfold maxLen; omega)).mono ?_
        rw [HQ.out]
        rintro e w' ⟨rfl, rfl⟩
        go_wp2_with fail
        refine (seal_any s _ hs).mono ?_
        rw [HO.out]
        rintro e w1 ⟨rfl, hd1⟩
        go_wp2_with fail
        go_ret2
        exact ⟨by rw [HF.out]; rfl, hd1⟩
  · have HF := Lib.hid (apd_no (s := s) (fun h => h1 h.1))
    have h1' : 4000 < s.size := by omega
    go_enter Tryd.func17, Tryd.ntmps17
    go_wp2_with fail
    go_ret2
    exact ⟨by rw [HF.out]; rfl, Dr.refl _⟩

theorem contains_mark (s : ByteArray) (w : World) : Calls Tryd.prog 32 #[.string s, .string ⟨#[35]⟩] w fun e w' => e = .returned (.bool (has s 35)) ∧ w = w' :=
  (Tryd.strings_Contains_one s 35 w).mono fun e w' ⟨he, hw⟩ => ⟨by rw [he, index_any]; rfl, hw.symm⟩

set_option maxHeartbeats 800000 in
theorem implApd_any (s : ByteArray) (w : World) (hs : s.size ≤ 1048576) (hp : Pow w) :
    Calls Tryd.prog 16 #[.string s] w fun e w' => e = .returned (.tuple (apdV s)) ∧ Below w.heap.size w w' := by
  have HSum := Lib.hid (implSum_any s w (by unfold maxLen; omega))
  by_cases h1 : s.size ≤ 4000
  · obtain ⟨c, hc⟩ : ∃ c, ck s.data.toList = c := ⟨_, rfl⟩
    have hbd := ck_bd s.data.toList
    rw [hc] at hbd
    have HR : Hid (Calls Tryd.prog 31 #[.string s] w fun e w' => e = .returned (.tuple #[.int .i64 c, .bool true]) ∧ w = w') := by
      have := HSum.out
      rw [if_pos h1, hc] at this
      exact this
    have hdz := dgt_size s
    have hsz := seal_size s
    obtain ⟨d, hd⟩ : ∃ d, dgt s = d := ⟨_, rfl⟩
    have hse : seal_ s = s ++ ⟨#[35]⟩ ++ d := by rw [← hd]; rfl
    rw [hd] at hdz hsz
    have HF : Hid (fmtV c = #[.string d, .bool true]) := by
      show fmtV c = _
      rw [fmtV, if_pos (by omega), ← hd, dgt, hc]
    clear HSum
    cases hq : has s 35 with
    | true =>
      have HN := Lib.hid (apd_no (s := s) (fun h => by rw [h.2.1] at hq; cases hq))
      have HQ := Lib.hid hq
      clear hq hc hd hse hsz
      go_enter Tryd.func16, Tryd.ntmps16
      go_wp2_with fail
      refine HR.out.mono ?_
      rintro e w' ⟨rfl, rfl⟩
      go_wp2_with fail
      refine (contains_mark s _).mono ?_
      rw [HQ.out]
      rintro e w' ⟨rfl, rfl⟩
      go_wp2_with fail
      go_ret2
      exact ⟨by rw [HN.out]; rfl, Below.refl _ _⟩
    | false =>
      have HQ := Lib.hid hq
      by_cases h3 : s.size + 1 + d.size ≤ 4000
      · have HN := Lib.hid (apd_yes (s := s) ⟨h1, hq, by omega⟩)
        have HE := Lib.hid hse
        clear hq hc hd hse hsz
        go_enter Tryd.func16, Tryd.ntmps16
        go_wp2_with fail
        refine HR.out.mono ?_
        rintro e w' ⟨rfl, rfl⟩
        go_wp2_with fail
        refine (contains_mark s _).mono ?_
        rw [HQ.out]
        rintro e w' ⟨rfl, rfl⟩
        go_wp2_with fail
        refine (implFmt_any c _ hp).mono ?_
        rw [HF.out]
        rintro e w1 ⟨rfl, hb⟩
        go_wp2_with fail
        go_ret2
        exact ⟨by rw [HN.out, HE.out]; rfl, hb⟩
      · have HN := Lib.hid (apd_no (s := s) (fun h => h3 (by have := h.2.2; omega)))
        have h3' : 4000 < s.size + 1 + d.size := by omega
        clear hq hc hd hse hsz
        go_enter Tryd.func16, Tryd.ntmps16
        go_wp2_with fail
        refine HR.out.mono ?_
        rintro e w' ⟨rfl, rfl⟩
        go_wp2_with fail
        refine (contains_mark s _).mono ?_
        rw [HQ.out]
        rintro e w' ⟨rfl, rfl⟩
        go_wp2_with fail
        refine (implFmt_any c _ hp).mono ?_
        rw [HF.out]
        rintro e w1 ⟨rfl, hb⟩
        go_wp2_with fail
        go_ret2
        exact ⟨by rw [HN.out]; rfl, hb⟩
  · have HR : Hid (Calls Tryd.prog 31 #[.string s] w fun e w' => e = .returned (.tuple #[.int .i64 0, .bool false]) ∧ w = w') := by
      have := HSum.out
      rw [if_neg h1] at this
      exact this
    have HN := Lib.hid (apd_no (s := s) (fun h => h1 h.1))
    clear HSum
    go_enter Tryd.func16, Tryd.ntmps16
    go_wp2_with fail
    refine HR.out.mono ?_
    rintro e w' ⟨rfl, rfl⟩
    go_wp2_with fail
    go_ret2
    exact ⟨by rw [HN.out]; rfl, Below.refl _ _⟩
end Go.Proofs.YtlddkechmkjdeaaDoor.seals
