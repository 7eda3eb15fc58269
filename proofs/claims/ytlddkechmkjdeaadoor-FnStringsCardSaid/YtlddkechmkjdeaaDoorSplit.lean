/- spec.l1Split: the parts of a string between the bytes c, as a new row. -/
import Derived.Test.YtlddkechmkjdeaaDoorHas
import Derived.Laws.OwnMore
namespace Go.Proofs.YtlddkechmkjdeaaDoor.split
open kit hs
open Go.RowKit

/-- where the part that is not closed begins, behind k bytes -/
def frm (s : ByteArray) (c : Int) : Nat → Nat
  | 0 => 0
  | k + 1 => if ((s.data.toList.getD k 0).toNat : Int) = c then k + 1 else frm s c k
/-- the parts that are closed, behind k bytes -/
def done (s : ByteArray) (c : Int) : Nat → List ByteArray
  | 0 => []
  | k + 1 => if ((s.data.toList.getD k 0).toNat : Int) = c then done s c k ++ [s.extract (frm s c k) k] else done s c k
/-- all parts -/
def parts (s : ByteArray) (c : Int) : List ByteArray := done s c s.size ++ [s.extract (frm s c s.size) s.size]
theorem frm_le (s : ByteArray) (c : Int) (k : Nat) : frm s c k ≤ k := by
  induction k with
  | zero => simp [frm]
  | succ k ih => unfold frm; split <;> omega
theorem done_le (s : ByteArray) (c : Int) (k : Nat) : (done s c k).length ≤ k := by
  induction k with
  | zero => simp [done]
  | succ k ih =>
    unfold done; split
    · rw [List.length_append, List.length_singleton]; omega
    · omega
theorem byte_at {s : ByteArray} {k : Nat} (hk : k < s.size) : s.data.toList.getD k 0 = s[k] := by
  have : k < s.data.toList.length := by simpa using hk
  rw [List.getD, List.getElem?_eq_getElem this]; rfl
theorem hit {s : ByteArray} {c : Int} {k : Nat} (hk : k < s.size) (h : ((s[k].toNat : Int) == c) = true) : frm s c (k + 1) = k + 1 ∧ done s c (k + 1) = done s c k ++ [s.extract (frm s c k) k] := by
  have e : ((s.data.toList.getD k 0).toNat : Int) = c := by rw [byte_at hk]; simpa using h
  exact ⟨by rw [frm, if_pos e], by rw [done, if_pos e]⟩
theorem miss {s : ByteArray} {c : Int} {k : Nat} (hk : k < s.size) (h : ((s[k].toNat : Int) == c) = false) : frm s c (k + 1) = frm s c k ∧ done s c (k + 1) = done s c k := by
  have e : ¬ ((s.data.toList.getD k 0).toNat : Int) = c := by rw [byte_at hk]; simpa using h
  exact ⟨by rw [frm, if_neg e], by rw [done, if_neg e]⟩

theorem str_info : (Tryd.prog.info? 9).map (fun i => (i.zero, i.size, i.bytes)) = some (some (.string ⟨#[]⟩), 1, 16) := by kernel_rfl

/-- v is a row of the call's own that holds these strings -/
def OwnS (w : World) (B : Nat) (v : Value) (ss : List ByteArray) : Prop := w.ownsRow B 9 1 v ss.length (ss.map Value.string)
/-- what splitting tells -/
def splitPost (ss : List ByteArray) (w : World) (e : Ending) (w' : World) : Prop := ∃ v, e = .returned v ∧ OwnS w' w.heap.size v ss ∧ v ≠ .slice none 0 0 ∧ Below w.heap.size w w'

theorem hit_rel {s : ByteArray} {c : Int} {k f B : Nat} {D : List ByteArray} {w w1 : World} {v1 : Value} (hk : k < s.size) (h : ((s[k].toNat : Int) == c) = true) (hf : frm s c k = f) (hD : done s c k = D)
    (ho : w1.ownsRow B 9 1 v1 (D.length + 1) (D.map Value.string ++ [.string (s.extract f k)])) (hn : v1 ≠ .slice none 0 0) (hb : Below B w w1) :
    Value.int .i64 ((k : Int) + 1) = .int .i64 ((frm s c (k + 1) : Nat) : Int) ∧ OwnS w1 B v1 (done s c (k + 1)) ∧ v1 ≠ .slice none 0 0 ∧ Below B w w1 := by
  obtain ⟨e1, e2⟩ := hit hk h
  rw [e1, e2, hf, hD]
  refine ⟨by go_num, ?_, hn, hb⟩
  unfold OwnS
  rw [List.length_append, List.map_append]
  exact ho
theorem miss_rel {s : ByteArray} {c : Int} {k f B : Nat} {D : List ByteArray} {w w1 : World} {v1 : Value} (hk : k < s.size) (h : ((s[k].toNat : Int) == c) = false) (hf : frm s c k = f) (hD : done s c k = D)
    (ho : w1.ownsRow B 9 1 v1 D.length (D.map Value.string)) (hn : v1 ≠ .slice none 0 0) (hb : Below B w w1) :
    Value.int .i64 (f : Int) = .int .i64 ((frm s c (k + 1) : Nat) : Int) ∧ OwnS w1 B v1 (done s c (k + 1)) ∧ v1 ≠ .slice none 0 0 ∧ Below B w w1 := by
  obtain ⟨e1, e2⟩ := miss hk h
  rw [e1, e2, hf, hD]
  exact ⟨rfl, ho, hn, hb⟩
theorem end_rel {s : ByteArray} {c : Int} {f B : Nat} {D : List ByteArray} {w1 : World} {v1 : Value} (hf : frm s c s.size = f) (hD : done s c s.size = D)
    (ho : w1.ownsRow B 9 1 v1 (D.length + 1) (D.map Value.string ++ [.string (s.extract f s.size)])) : OwnS w1 B v1 (parts s c) := by
  unfold OwnS parts
  rw [hf, hD, List.length_append, List.map_append]
  exact ho

set_option maxHeartbeats 1600000 in
theorem split_any (s : ByteArray) (c : Int) (w : World) (hs : s.size ≤ 1048576) :
    Calls Tryd.prog 36 #[.string s, .int .u8 c] w (splitPost (parts s c) w) := by
  obtain ⟨i0, hi, hz0, hz1, hz2⟩ := info_parts str_info
  have HI := Lib.hid (And.intro hi (And.intro hz0 (And.intro hz1 hz2)))
  clear hi hz0 hz1 hz2
  go_enter Tryd.func36, Tryd.ntmps36
  go_wp2_with fail
  go_loopw [5, 6, 7] (fun v f i wr => ∃ k : Nat, k ≤ s.size ∧ i = .int .i64 k ∧ f = .int .i64 (frm s c k) ∧ OwnS wr w.heap.size v (done s c k) ∧ v ≠ .slice none 0 0 ∧ Below w.heap.size w wr) (fun _ _ i _ => s.size - (intOf i).toNat)
  case atStart =>
    exact ⟨0, Nat.zero_le _, rfl, rfl, World.ownsRow_made w #[] 0 (Nat.le_refl _) (by unfold maxLen; omega) (by simp), by simp, (Below.refl _ _).alloc (Nat.le_refl _) _⟩
  case round =>
    obtain ⟨k, hk, rfl, rfl, hown, hnn, hbel⟩ := hrel
    have hfk := frm_le s c k
    have hdl := done_le s c k
    have hbs := hbel.size
    obtain ⟨f, hf⟩ : ∃ f, frm s c k = f := ⟨_, rfl⟩
    obtain ⟨D, hD⟩ : ∃ D, done s c k = D := ⟨_, rfl⟩
    rw [hf] at hfk ⊢
    rw [hD] at hdl hown
    have HF := Lib.hid (And.intro hf hD)
    unfold OwnS at hown
    have HN := Lib.hid hnn
    clear hf hD hnn
    by_cases hlt : k < s.size
    · cases hq : ((s[k].toNat : Int) == c) with
      | true =>
        have HQ := Lib.hid hq
        go_wp2_with (at_builtin; refine wpList_append_own _ rfl (.tmp 20) (.tmp 25) 44 rfl w.heap.size 9 i0 (.string ⟨#[]⟩) 1 16 Tryd.underlying44 HI.out.1 HI.out.2.1 HI.out.2.2.1 HI.out.2.2.2 rfl (by decide) _ _ _ rfl (hown.alloc _) ⟨wr.heap.size, 0, none⟩ 1 1 [.string (s.extract f k)] rfl rfl (cell_one_new _ _ _) (fun x hx => by simp at hx; subst hx; rfl) (by unfold maxLen; omega) (by omega) (by simp; omega) ?_; intro v1 w1 hown1 hgrow1 hnil1)
        have hb1 : Below w.heap.size w w1 := (hbel.alloc hbs _).grown hgrow1 (by simp; omega) (fun j hj => (hown.lt j hj).1)
        have R := hit_rel hlt HQ.out HF.out.1 HF.out.2 hown1 (fun h => HN.out (hnil1.1 h).1) hb1
        have HR := Lib.hid R
        clear hown1 hgrow1 hnil1 hown hb1 R hq
        go_wp2_with fail
        go_roundw
        case rel => exact ⟨k + 1, by omega, by go_num, HR.out⟩
        case measure => simp [intOf]; omega
      | false =>
        have HQ := Lib.hid hq
        go_wp2_with fail
        go_roundw
        case rel => exact ⟨k + 1, by omega, by go_num, miss_rel hlt HQ.out HF.out.1 HF.out.2 hown HN.out hbel⟩
        case measure => simp [intOf]; omega
    · obtain rfl : k = s.size := by omega
      go_wp2_with (at_builtin; refine wpList_append_own _ rfl (.tmp 29) (.tmp 33) 44 rfl w.heap.size 9 i0 (.string ⟨#[]⟩) 1 16 Tryd.underlying44 HI.out.1 HI.out.2.1 HI.out.2.2.1 HI.out.2.2.2 rfl (by decide) _ _ _ rfl (hown.alloc _) ⟨wr.heap.size, 0, none⟩ 1 1 [.string (s.extract f s.size)] rfl rfl (cell_one_new _ _ _) (fun x hx => by simp at hx; subst hx; rfl) (by unfold maxLen; omega) (by omega) (by simp; omega) ?_; intro v1 w1 hown1 hgrow1 hnil1)
      have hb1 : Below w.heap.size w w1 := (hbel.alloc hbs _).grown hgrow1 (by simp; omega) (fun j hj => (hown.lt j hj).1)
      have R := end_rel HF.out.1 HF.out.2 hown1
      have HR := Lib.hid R
      have HN1 : Hid (v1 ≠ .slice none 0 0) := fun h => HN.out (hnil1.1 h).1
      clear hown1 hgrow1 hnil1 hown R
      go_wp2_with fail
      go_ret
      exact ⟨v1, rfl, HR.out, HN1.out, hb1⟩
end Go.Proofs.YtlddkechmkjdeaaDoor.split
