/- ParseInt of both programs: the number whose own text it is, and nothing for all other texts. -/
import Derived.Test.YtlddkechmkjdeaaDoorDec
import Derived.Test.YtlddkechmkjdeaaDoorFmt
import Derived.Test.YtlddkechmkjdeaaDoorShelf2
namespace Go.Proofs.YtlddkechmkjdeaaDoor.prs
open kit num dec fmts
open Go.RowKit

theorem str_inj {a : List UInt8} {s : ByteArray} (h : (ByteArray.mk a.toArray) = s) : a = s.data.toList := by
  subst h; simp
theorem str_eq {a : List UInt8} {s : ByteArray} (h : a = s.data.toList) : (ByteArray.mk a.toArray) = s := by
  subst h
  obtain ⟨⟨l⟩⟩ := s
  rfl
theorem bneq_of {a : List UInt8} {s : ByteArray} (h : ¬ a = s.data.toList) : (a == s.toList) = false := by
  rw [ByteArray.toList_eq, beq_eq_false_iff_ne]
  exact h

/-- a variable of the library's that holds some value of an interface type -/
def Errs (w : World) (n : String) : Prop := ∃ tp p, w.var? Tryd.prog n = some #[.iface tp p]

theorem atoi_bad (s : ByteArray) (w : World) (hs : s.size ≤ 1048576) (h : ∀ n, ¬ Lib.atoiAll s.data.toList = .ok n) (h1 : Errs w "strconv.ErrSyntax") (h2 : Errs w "strconv.ErrRange") :
    Calls Tryd.prog 28 #[.string s] w fun e w' => ∃ (k : Int) (t : TypeId) (a : Addr), e = .returned (.tuple #[.int .i64 k, .iface t (.pointer (some a))]) ∧ Below w.heap.size w w' := by
  obtain ⟨tp1, p1, hv1⟩ := h1
  obtain ⟨tp2, p2, hv2⟩ := h2
  cases hat : Lib.atoiAll s.data.toList with
  | ok n => exact absurd hat (h n)
  | range => exact (Any.strconv_Atoi_range_var Tryd.laysC172 s (by omega) hat tp2 p2 w hv2).mono fun e w' ⟨N, he, _, _, hb⟩ => ⟨_, _, _, he, hb⟩
  | _ => exact (Any.strconv_Atoi_syntax_var Tryd.laysC172 s (by omega) hat tp1 p1 w hv1).mono fun e w' ⟨N, he, _, _, hb⟩ => ⟨_, _, _, he, hb⟩

set_option maxHeartbeats 800000 in
theorem implPrs_any (s : ByteArray) (w : World) (hs : s.size ≤ 1048576) (hp : Pow w) (h1 : Errs w "strconv.ErrSyntax") (h2 : Errs w "strconv.ErrRange") :
    Calls Tryd.prog 13 #[.string s] w fun e w' => e = .returned (.tuple (prsV s)) ∧ Below w.heap.size w w' := by
  have hg : 3 < w.heap.size := by
    have := World.block_lt_of_cell? w _ (Lib.TabIs.cell hp gPow 0 (by decide))
    exact this
  by_cases hok : ∃ n, Lib.atoiAll s.data.toList = .ok n
  · obtain ⟨n, hat⟩ := hok
    have hb := Lib.atoiAll_bounds hat
    have HA := Lib.hid hat
    have HB := Lib.hid hb
    have HG := Lib.hid hg
    clear hat hb hg h1 h2
    go_enter Tryd.func13, Tryd.ntmps13
    go_wp2_with fail
    refine (Tryd.strconv_Atoi_ok s (by omega) n HA.out _).mono ?_
    rintro e w1 ⟨rfl, hw1⟩
    have hbel : Below w.heap.size w w1 := by
      rcases hw1 with rfl | ⟨t, rfl⟩
      · exact Below.refl _ _
      · exact Lib.bytesWorld_below _ _ _
    have hp1 : Pow w1 := hp.below hbel HG.out
    clear hw1
    by_cases hin : -999999 ≤ n ∧ n ≤ 999999
    · by_cases heq : Lib.itoa n = s.data.toList
      · have hse := str_eq heq
        have HF := Lib.hid (prs_yes ⟨hin.1, hin.2, heq⟩)
        have HI := Lib.hid (And.intro hin hse)
        clear heq hse hin
        go_wp2_with fail
        refine (implFmt_any n _ hp1).mono ?_
        rw [fmtV, if_pos HI.out.1, HI.out.2]
        rintro e w2 ⟨rfl, hb2⟩
        go_wp2_with fail
        go_ret2
        exact ⟨by rw [HF.out]; rfl, hbel.trans (hb2.mono hbel.size)⟩
      · have hno : ∀ m, ¬ Is s m := fun m hm => by
          have e1 := all_itoa hm.1 hm.2.1
          rw [hm.2.2, HA.out] at e1
          injection e1 with e1
          subst e1
          exact heq hm.2.2
        have HF := Lib.hid (prs_no hno)
        have hbn := bneq_of heq
        have HI := Lib.hid hin
        have HN := Lib.hid hno
        clear hin heq hno
        go_wp2_with fail
        refine (implFmt_any n _ hp1).mono ?_
        rw [fmtV, if_pos HI.out]
        rintro e w2 ⟨rfl, hb2⟩
        go_wp2_with fail
        go_ret2
        exact ⟨by rw [HF.out]; rfl, hbel.trans (hb2.mono hbel.size)⟩
    · have hno : ∀ m, ¬ Is s m := fun m hm => by
        have e1 := all_itoa hm.1 hm.2.1
        rw [hm.2.2, HA.out] at e1
        injection e1 with e1
        subst e1
        exact hin ⟨hm.1, hm.2.1⟩
      have HF := Lib.hid (prs_no hno)
      have HI := Lib.hid hin
      clear hin hno
      go_wp2_with fail
      refine (implFmt_any n _ hp1).mono ?_
      rw [fmtV, if_neg HI.out]
      rintro e w2 ⟨rfl, hb2⟩
      go_wp2_with fail
      go_ret2
      exact ⟨by rw [HF.out]; rfl, hbel.trans (hb2.mono hbel.size)⟩
  · have hbad : ∀ n, ¬ Lib.atoiAll s.data.toList = .ok n := fun n h => hok ⟨n, h⟩
    have hno : ∀ m, ¬ Is s m := fun m hm => by
      have e1 := all_itoa hm.1 hm.2.1
      rw [hm.2.2] at e1
      exact hbad m e1
    have HF := Lib.hid (prs_no hno)
    have HB := Lib.hid hbad
    clear hbad hok hno
    go_enter Tryd.func13, Tryd.ntmps13
    go_wp2_with fail
    refine (atoi_bad s _ hs HB.out h1 h2).mono ?_
    rintro e w1 ⟨k, t, a, rfl, hb⟩
    go_wp2_with fail
    go_ret2
    exact ⟨by rw [HF.out]; rfl, hb⟩

/-- spec.l1Read behind the sign: what is left to prove once the digits' text t and the sign are known -/
theorem is_neg {s t : ByteArray} {n : Int} (h : Is s n) (hs : s.data.toList = 45 :: t.data.toList) : n < 0 ∧ t.data.toList = Lib.decDigits n.natAbs := by
  obtain ⟨_, _, h3⟩ := h
  rw [hs] at h3
  unfold Lib.itoa at h3
  by_cases hn : n < 0
  · rw [if_pos hn] at h3
    injection h3 with _ h3
    exact ⟨hn, h3.symm⟩
  · rw [if_neg hn] at h3
    obtain ⟨c, r, hc, hd⟩ := head_dig n.toNat
    rw [hc] at h3
    injection h3 with h3
    subst h3
    exact absurd hd.1 (by decide)
theorem is_pos {s : ByteArray} {n : Int} (h : Is s n) (hs : ¬ ∃ t, s.data.toList = 45 :: t ∧ t ≠ []) : 0 ≤ n ∧ s.data.toList = Lib.decDigits n.toNat := by
  obtain ⟨_, _, h3⟩ := h
  unfold Lib.itoa at h3
  by_cases hn : n < 0
  · rw [if_pos hn] at h3
    exact absurd ⟨_, h3.symm, by intro e; have := dec_pos n.natAbs; rw [e] at this; simp at this⟩ hs
  · rw [if_neg hn] at h3
    exact ⟨by omega, h3.symm⟩
theorem abs_six {s : ByteArray} {n : Int} (h : Is s n) : n.natAbs ≤ 999999 ∧ n.toNat ≤ 999999 := by
  obtain ⟨h1, h2, _⟩ := h
  omega

theorem take_one {t : ByteArray} {k : Nat} (hk : k < t.size) : t.data.toList.take (k + 1) = t.data.toList.take k ++ [t[k]] := by
  rw [List.take_succ_eq_append_getElem (by simpa using hk)]; rfl
theorem mem_at {t : ByteArray} {k : Nat} (hk : k < t.size) : t[k] ∈ t.data.toList := by
  have : k < t.data.toList.length := by simpa using hk
  exact List.mem_of_getElem? (i := k) (by rw [List.getElem?_eq_getElem this]; rfl)
/-- s is a sign and t, or t alone -/
def Part (neg : Bool) (s t : ByteArray) : Prop := (neg = true ∧ s.data.toList = 45 :: t.data.toList ∧ t.size = s.size - 1 ∧ 1 < s.size) ∨ (neg = false ∧ s = t ∧ ¬ ∃ r, s.data.toList = 45 :: r ∧ r ≠ [])
theorem part_dec {neg : Bool} {s t : ByteArray} (h : Part neg s t) {n : Int} (hi : Is s n) : t.data.toList = Lib.decDigits n.natAbs ∧ n = (if neg then -(val t.data.toList) else val t.data.toList) := by
  rcases h with ⟨rfl, h1, _, _⟩ | ⟨rfl, rfl, h1⟩
  · obtain ⟨hn, ht⟩ := is_neg hi h1
    refine ⟨ht, ?_⟩
    rw [if_pos rfl, ht, dec_val _ _ (Nat.le_refl _)]
    omega
  · obtain ⟨hn, ht⟩ := is_pos hi h1
    have e : n.natAbs = n.toNat := by omega
    rw [e]
    refine ⟨ht, ?_⟩
    rw [if_neg (by simp), ht, dec_val _ _ (Nat.le_refl _)]
    omega
theorem no_len {neg : Bool} {s t : ByteArray} (h : Part neg s t) (hl : ¬ (1 ≤ t.size ∧ t.size ≤ 6)) : prsV s = #[.int .i64 0, .bool false] := by
  refine prs_no fun n hi => hl ?_
  have h1 := (part_dec h hi).1
  have h2 := dec_pos n.natAbs
  have h3 := dec_six (abs_six hi).1
  have e : t.data.toList.length = t.size := by simp
  rw [← h1, e] at h2 h3
  exact ⟨h2, h3⟩
theorem no_dig {neg : Bool} {s t : ByteArray} (h : Part neg s t) {k : Nat} (hk : k < t.size) (hd : ¬ dig t[k]) : prsV s = #[.int .i64 0, .bool false] := by
  refine prs_no fun n hi => hd ?_
  have h1 := (part_dec h hi).1
  exact dec_dig _ _ (Nat.le_refl n.natAbs) _ (by rw [← h1]; exact mem_at hk)
theorem fin_yes {neg : Bool} {s t : ByteArray} (hd : digsOk t.data.toList) (hl : t.size ≤ 6) {n : Int} (hn : n = (if neg then -(val t.data.toList) else val t.data.toList)) (h : Lib.itoa n = s.data.toList) : prsV s = #[.int .i64 n, .bool true] := by
  have hb := val_six hd (by simpa using hl)
  refine prs_yes ⟨?_, ?_, h⟩
  · subst hn; split <;> omega
  · subst hn; split <;> omega
theorem fin_no {neg : Bool} {s t : ByteArray} (h : Part neg s t) {n : Int} (hn : n = (if neg then -(val t.data.toList) else val t.data.toList)) (hne : ¬ Lib.itoa n = s.data.toList) : prsV s = #[.int .i64 0, .bool false] := by
  refine prs_no fun m hi => hne ?_
  rw [hn, ← (part_dec h hi).2]
  exact hi.2.2
theorem part_neg {s : ByteArray} (h1 : 1 < s.size) (h2 : ((s[0].toNat : Int) == 45) = true) : Part true s (s.extract 1 s.size) := by
  have h0 : s[0].toNat = 45 := by simp at h2; omega
  have hb : s[0] = 45 := UInt8.toNat_inj.1 h0
  have hsz : (s.extract 1 s.size).size = s.size - 1 := by simp
  refine .inl ⟨rfl, ?_, hsz, h1⟩
  rw [Lib.extract_to_end]
  have hc : s.data.toList = s[0] :: s.data.toList.drop 1 := by
    have : 0 < s.data.toList.length := by simp; omega
    exact (List.drop_eq_getElem_cons (i := 0) this)
  rw [hb] at hc
  exact hc
theorem part_pos1 {s : ByteArray} (h1 : 1 < s.size) (h2 : ((s[0].toNat : Int) == 45) = false) : Part false s s := by
  refine .inr ⟨rfl, rfl, ?_⟩
  rintro ⟨r, hr, _⟩
  have h0 : s[0] = 45 := by
    have : 0 < s.data.toList.length := by simp; omega
    have e : s[0] = s.data.toList[0] := rfl
    rw [e]
    simp [hr]
  rw [h0] at h2
  simp at h2
theorem part_pos2 {s : ByteArray} (h1 : ¬ 1 < s.size) : Part false s s := by
  refine .inr ⟨rfl, rfl, ?_⟩
  rintro ⟨r, hr, hne⟩
  have e : s.data.toList.length = s.size := by simp
  rw [hr, List.length_cons] at e
  have : r.length = 0 := by omega
  exact hne (List.eq_nil_of_length_eq_zero this)

set_option maxHeartbeats 1600000 in
theorem specRead_any (s : ByteArray) (w : World) (hs : s.size ≤ 1048576) :
    Calls Tryd.prog 29 #[.string s] w fun e w' => e = .returned (.tuple (prsV s)) ∧ Dr w w' := by
  by_cases h1 : 1 < s.size
  · cases h2 : ((s[0].toNat : Int) == 45) with
    | true =>
      have hpart := part_neg h1 h2
      go_enter Tryd.func29, Tryd.ntmps29
      have hz : (s.extract 1 s.size).size = s.size - 1 := by simp
      have HZ0 := Lib.hid hz
      have HP0 := Lib.hid hpart
      clear hz hpart
      go_wp2_with fail
      obtain ⟨t, ht⟩ : ∃ t, s.extract 1 s.size = t := ⟨_, rfl⟩
      have HP : Hid (Part true s t) := by rw [← ht]; exact HP0.out
      have hz2 : s.size - 1 = t.size := by rw [← ht]; exact HZ0.out.symm
      rw [ht, hz2]
      have HZ : Hid (t.size < s.size) := by show t.size < s.size; omega
      clear HZ0 HP0 ht hz2 h2
      refine (in_any _ _ _ _).mono ?_
      by_cases hlen : 1 ≤ t.size ∧ t.size ≤ 6
      · rw [decide_eq_true (by omega)]
        rintro e w' ⟨rfl, rfl⟩
        obtain ⟨hl1, hl6⟩ := hlen
        go_wp2_with fail
        go_loop [5, 6] (fun n i => ∃ k : Nat, k ≤ t.size ∧ i = .int .i64 k ∧ n = .int .i64 (val (t.data.toList.take k)) ∧ digsOk (t.data.toList.take k)) (fun _ i => t.size - (intOf i).toNat)
        case atStart => exact ⟨0, Nat.zero_le _, rfl, rfl, fun c hc => absurd hc (by simp)⟩
        case round =>
          obtain ⟨k, hk, rfl, rfl, hok⟩ := hrel
          have hbd := val_six hok (by simp; omega)
          have HO := Lib.hid hok
          clear hok
          by_cases hlt : k < t.size
          · have hcb := t[k].toNat_lt
            by_cases hd1 : t[k].toNat < 48
            · have HF := Lib.hid (no_dig HP.out hlt (fun h => absurd h.1 (by omega)))
              have hd1' : (t[k].toNat : Int) < 48 := by omega
              go_wp2_with fail
              go_ret2
              exact ⟨by rw [HF.out]; rfl, Dr.refl _⟩
            · have hd1' : 48 ≤ (t[k].toNat : Int) := by omega
              by_cases hd2 : 57 < t[k].toNat
              · have HF := Lib.hid (no_dig HP.out hlt (fun h => absurd h.2 (by omega)))
                have hd2' : (57 : Int) < (t[k].toNat : Int) := by omega
                go_wp2_with fail
                go_ret2
                exact ⟨by rw [HF.out]; rfl, Dr.refl _⟩
              · have hd2' : (t[k].toNat : Int) ≤ 57 := by omega
                have hdig : dig t[k] := ⟨by omega, by omega⟩
                have HS : Hid (val (t.data.toList.take (k + 1)) = 10 * val (t.data.toList.take k) + ((t[k].toNat : Int) - 48)) := by rw [take_one hlt]; exact val_snoc _ _
                have HO2 : Hid (digsOk (t.data.toList.take (k + 1))) := by rw [take_one hlt]; exact ok_snoc HO.out hdig
                have HD := Lib.hid hdig
                clear hdig
                go_wp2_with fail
                go_round
                case rel => exact ⟨k + 1, by omega, by go_num, by rw [HS.out], HO2.out⟩
                case measure => simp [intOf]; omega
          · have hfull : t.data.toList.take k = t.data.toList := List.take_of_length_le (by simp; omega)
            rw [hfull] at hbd ⊢
            have HO3 : Hid (digsOk t.data.toList) := by have := HO.out; rwa [hfull] at this
            obtain ⟨v, hv⟩ : ∃ v, v = val t.data.toList := ⟨_, rfl⟩
            rw [← hv] at hbd ⊢
            have HV := Lib.hid hv
            clear hfull hv
            have hneg : (t.size : Int) < s.size := by have := HZ.out; omega
            go_wp2_with fail
            refine (num_any (-v) _ (by omega) (by omega)).mono ?_
            rintro e w' ⟨rfl, hd⟩
            by_cases heq : Lib.itoa (-v) = s.data.toList
            · have HF := Lib.hid (fin_yes (neg := true) HO3.out hl6 (by rw [if_pos rfl, HV.out]) heq)
              have hse : (Lib.itoa (-v) == s.toList) = true := by rw [ByteArray.toList_eq, heq]; simp
              have HE := Lib.hid heq
              clear heq
              go_wp2_with fail
              go_ret2
              exact ⟨by rw [HF.out]; rfl, hd⟩
            · have HF := Lib.hid (fin_no (n := -v) HP.out (by rw [if_pos rfl, HV.out]) heq)
              have hse := bneq_of heq
              clear heq
              go_wp2_with fail
              go_ret2
              exact ⟨by rw [HF.out]; rfl, hd⟩
      · rw [decide_eq_false (by omega)]
        have HF := Lib.hid (no_len HP.out hlen)
        clear hlen
        rintro e w' ⟨rfl, rfl⟩
        go_wp2_with fail
        go_ret2
        exact ⟨by rw [HF.out]; rfl, Dr.refl _⟩
    | false =>
      obtain ⟨t, rfl⟩ : ∃ t, t = s := ⟨_, rfl⟩
      have HP := Lib.hid (part_pos1 h1 h2)
      go_enter Tryd.func29, Tryd.ntmps29
      go_wp2_with fail
      refine (in_any _ _ _ _).mono ?_
      by_cases hlen : 1 ≤ t.size ∧ t.size ≤ 6
      · rw [decide_eq_true (by omega)]
        rintro e w' ⟨rfl, rfl⟩
        obtain ⟨hl1, hl6⟩ := hlen
        go_wp2_with fail
        go_loop [5, 6] (fun n i => ∃ k : Nat, k ≤ t.size ∧ i = .int .i64 k ∧ n = .int .i64 (val (t.data.toList.take k)) ∧ digsOk (t.data.toList.take k)) (fun _ i => t.size - (intOf i).toNat)
        case atStart => exact ⟨0, Nat.zero_le _, rfl, rfl, fun c hc => absurd hc (by simp)⟩
        case round =>
          obtain ⟨k, hk, rfl, rfl, hok⟩ := hrel
          have hbd := val_six hok (by simp; omega)
          have HO := Lib.hid hok
          clear hok
          by_cases hlt : k < t.size
          · have hcb := t[k].toNat_lt
            by_cases hd1 : t[k].toNat < 48
            · have HF := Lib.hid (no_dig HP.out hlt (fun h => absurd h.1 (by omega)))
              have hd1' : (t[k].toNat : Int) < 48 := by omega
              go_wp2_with fail
              go_ret2
              exact ⟨by rw [HF.out]; rfl, Dr.refl _⟩
            · have hd1' : 48 ≤ (t[k].toNat : Int) := by omega
              by_cases hd2 : 57 < t[k].toNat
              · have HF := Lib.hid (no_dig HP.out hlt (fun h => absurd h.2 (by omega)))
                have hd2' : (57 : Int) < (t[k].toNat : Int) := by omega
                go_wp2_with fail
                go_ret2
                exact ⟨by rw [HF.out]; rfl, Dr.refl _⟩
              · have hd2' : (t[k].toNat : Int) ≤ 57 := by omega
                have hdig : dig t[k] := ⟨by omega, by omega⟩
                have HS : Hid (val (t.data.toList.take (k + 1)) = 10 * val (t.data.toList.take k) + ((t[k].toNat : Int) - 48)) := by rw [take_one hlt]; exact val_snoc _ _
                have HO2 : Hid (digsOk (t.data.toList.take (k + 1))) := by rw [take_one hlt]; exact ok_snoc HO.out hdig
                have HD := Lib.hid hdig
                clear hdig
                go_wp2_with fail
                go_round
                case rel => exact ⟨k + 1, by omega, by go_num, by rw [HS.out], HO2.out⟩
                case measure => simp [intOf]; omega
          · have hfull : t.data.toList.take k = t.data.toList := List.take_of_length_le (by simp; omega)
            rw [hfull] at hbd ⊢
            have HO3 : Hid (digsOk t.data.toList) := by have := HO.out; rwa [hfull] at this
            obtain ⟨v, hv⟩ : ∃ v, v = val t.data.toList := ⟨_, rfl⟩
            rw [← hv] at hbd ⊢
            have HV := Lib.hid hv
            clear hfull hv
            go_wp2_with fail
            refine (num_any v _ (by omega) (by omega)).mono ?_
            rintro e w' ⟨rfl, hd⟩
            by_cases heq : Lib.itoa v = t.data.toList
            · have HF := Lib.hid (fin_yes (neg := false) HO3.out hl6 (by rw [if_neg (by simp), HV.out]) heq)
              have hse : (Lib.itoa v == t.toList) = true := by rw [ByteArray.toList_eq, heq]; simp
              have HE := Lib.hid heq
              clear heq
              go_wp2_with fail
              go_ret2
              exact ⟨by rw [HF.out]; rfl, hd⟩
            · have HF := Lib.hid (fin_no (n := v) HP.out (by rw [if_neg (by simp), HV.out]) heq)
              have hse := bneq_of heq
              clear heq
              go_wp2_with fail
              go_ret2
              exact ⟨by rw [HF.out]; rfl, hd⟩
      · rw [decide_eq_false (by omega)]
        have HF := Lib.hid (no_len HP.out hlen)
        clear hlen
        rintro e w' ⟨rfl, rfl⟩
        go_wp2_with fail
        go_ret2
        exact ⟨by rw [HF.out]; rfl, Dr.refl _⟩
  · obtain ⟨t, rfl⟩ : ∃ t, t = s := ⟨_, rfl⟩
    have HP := Lib.hid (part_pos2 h1)
    go_enter Tryd.func29, Tryd.ntmps29
    go_wp2_with fail
    refine (in_any _ _ _ _).mono ?_
    by_cases hlen : 1 ≤ t.size ∧ t.size ≤ 6
    · rw [decide_eq_true (by omega)]
      rintro e w' ⟨rfl, rfl⟩
      obtain ⟨hl1, hl6⟩ := hlen
      go_wp2_with fail
      go_loop [5, 6] (fun n i => ∃ k : Nat, k ≤ t.size ∧ i = .int .i64 k ∧ n = .int .i64 (val (t.data.toList.take k)) ∧ digsOk (t.data.toList.take k)) (fun _ i => t.size - (intOf i).toNat)
      case atStart => exact ⟨0, Nat.zero_le _, rfl, rfl, fun c hc => absurd hc (by simp)⟩
      case round =>
        obtain ⟨k, hk, rfl, rfl, hok⟩ := hrel
        have hbd := val_six hok (by simp; omega)
        have HO := Lib.hid hok
        clear hok
        by_cases hlt : k < t.size
        · have hcb := t[k].toNat_lt
          by_cases hd1 : t[k].toNat < 48
          · have HF := Lib.hid (no_dig HP.out hlt (fun h => absurd h.1 (by omega)))
            have hd1' : (t[k].toNat : Int) < 48 := by omega
            go_wp2_with fail
            go_ret2
            exact ⟨by rw [HF.out]; rfl, Dr.refl _⟩
          · have hd1' : 48 ≤ (t[k].toNat : Int) := by omega
            by_cases hd2 : 57 < t[k].toNat
            · have HF := Lib.hid (no_dig HP.out hlt (fun h => absurd h.2 (by omega)))
              have hd2' : (57 : Int) < (t[k].toNat : Int) := by omega
              go_wp2_with fail
              go_ret2
              exact ⟨by rw [HF.out]; rfl, Dr.refl _⟩
            · have hd2' : (t[k].toNat : Int) ≤ 57 := by omega
              have hdig : dig t[k] := ⟨by omega, by omega⟩
              have HS : Hid (val (t.data.toList.take (k + 1)) = 10 * val (t.data.toList.take k) + ((t[k].toNat : Int) - 48)) := by rw [take_one hlt]; exact val_snoc _ _
              have HO2 : Hid (digsOk (t.data.toList.take (k + 1))) := by rw [take_one hlt]; exact ok_snoc HO.out hdig
              have HD := Lib.hid hdig
              clear hdig
              go_wp2_with fail
              go_round
              case rel => exact ⟨k + 1, by omega, by go_num, by rw [HS.out], HO2.out⟩
              case measure => simp [intOf]; omega
        · have hfull : t.data.toList.take k = t.data.toList := List.take_of_length_le (by simp; omega)
          rw [hfull] at hbd ⊢
          have HO3 : Hid (digsOk t.data.toList) := by have := HO.out; rwa [hfull] at this
          obtain ⟨v, hv⟩ : ∃ v, v = val t.data.toList := ⟨_, rfl⟩
          rw [← hv] at hbd ⊢
          have HV := Lib.hid hv
          clear hfull hv
          go_wp2_with fail
          refine (num_any v _ (by omega) (by omega)).mono ?_
          rintro e w' ⟨rfl, hd⟩
          by_cases heq : Lib.itoa v = t.data.toList
          · have HF := Lib.hid (fin_yes (neg := false) HO3.out hl6 (by rw [if_neg (by simp), HV.out]) heq)
            have hse : (Lib.itoa v == t.toList) = true := by rw [ByteArray.toList_eq, heq]; simp
            have HE := Lib.hid heq
            clear heq
            go_wp2_with fail
            go_ret2
            exact ⟨by rw [HF.out]; rfl, hd⟩
          · have HF := Lib.hid (fin_no (n := v) HP.out (by rw [if_neg (by simp), HV.out]) heq)
            have hse := bneq_of heq
            clear heq
            go_wp2_with fail
            go_ret2
            exact ⟨by rw [HF.out]; rfl, hd⟩
    · rw [decide_eq_false (by omega)]
      have HF := Lib.hid (no_len HP.out hlen)
      clear hlen
      rintro e w' ⟨rfl, rfl⟩
      go_wp2_with fail
      go_ret2
      exact ⟨by rw [HF.out]; rfl, Dr.refl _⟩

theorem specPrs_any (s : ByteArray) (w : World) (hs : s.size ≤ 1048576) :
    Calls Tryd.prog 14 #[.string s] w fun e w' => e = .returned (.tuple (prsV s)) ∧ Dr w w' := by
  obtain ⟨n, b, hn⟩ := prs_form s
  rw [hn]
  have HN := Lib.hid hn
  clear hn
  go_enter Tryd.func14, Tryd.ntmps14
  go_wp2_with fail
  refine (specRead_any s _ hs).mono ?_
  rw [HN.out]
  rintro e w1 ⟨rfl, hd⟩
  go_wp2_with fail
  go_ret2
  exact ⟨rfl, hd⟩

end Go.Proofs.YtlddkechmkjdeaaDoor.prs
