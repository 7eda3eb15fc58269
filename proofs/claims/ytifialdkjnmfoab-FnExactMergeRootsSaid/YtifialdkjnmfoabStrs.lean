/- Contracts of the law's own helpers on []string: szStringS, toStringS, eqStringS; and of spec.l1Stands. -/
import Derived.Test.YtifialdkjnmfoabKit
namespace Go.Proofs.Ytifialdkjnmfoab.strs
open kit
open Go.ChangeShapes Go.WideShapes Go.ChangeAt Go.RowKit

/-- bytes of all strings together -/
def tot : List ByteArray → Nat
  | [] => 0
  | s :: r => s.size + tot r
theorem tot_append (a b : List ByteArray) : tot (a ++ b) = tot a + tot b := by
  induction a with
  | nil => simp [tot]
  | cons x a ih => simp only [List.cons_append, tot, ih]; omega
theorem tot_snoc {ss : List ByteArray} {k : Nat} {s : ByteArray} (h : ss[k]? = some s) : tot (ss.take (k + 1)) = tot (ss.take k) + s.size := by
  rw [take_snoc h, tot_append]; simp [tot]
theorem tot_take_le (ss : List ByteArray) (k : Nat) : tot (ss.take k) ≤ tot ss := by
  have := tot_append (ss.take k) (ss.drop k)
  rw [List.take_append_drop] at this
  omega

/-- what szStringS tells: a number below 0, or what is left -/
def szPost (ss : List ByteArray) (left : Int) (w : World) (e : Ending) (w' : World) : Prop :=
  ∃ r : Int, e = .returned (.int .i64 r) ∧ (r < 0 ∨ r = left - (ss.length : Int) - (tot ss : Int)) ∧ r ≤ left ∧ w = w'

set_option maxHeartbeats 400000 in
theorem sz_any (A : Option Addr) (n c : Nat) (ss : List ByteArray) (left : Int) (w : World) (B : Nat) (h : SR w B A n (ss.map Value.string)) (hl0 : -1 ≤ left) (hl : left ≤ 1048576) (hn : n ≤ maxLen) (hs : ∀ s ∈ ss, s.size ≤ maxLen) :
    Calls Try.prog 27 #[.slice A n c, .int .i64 left] w (szPost ss left w) := by
  have hlen := h.strlen
  unfold maxLen at hn
  have HS : Hid (∀ s ∈ ss, s.size ≤ maxLen) := Lib.hid hs
  have HL : Hid (ss.length = n) := Lib.hid hlen
  clear hs hlen
  by_cases hneg : left - (n : Int) < 0
  · go_enter Try.func27, Try.ntmps27
    go_wp2
    go_ret
    exact ⟨-1, rfl, .inl (by omega), by omega, rfl⟩
  · have hneg' : ¬ (left - (n : Int) < 0) := hneg
    go_enter Try.func27, Try.ntmps27
    go_wp2
    go_loop [1, 5] (fun l i => ∃ k : Nat, k ≤ n ∧ i = .int .i64 k ∧ l = .int .i64 (left - n - tot (ss.take k)) ∧ 0 ≤ left - n - tot (ss.take k)) (fun _ i => n - (intOf i).toNat)
    case atStart => exact ⟨0, Nat.zero_le _, rfl, by simp [tot], by simp [tot]; omega⟩
    case round =>
      obtain ⟨k, hk, rfl, rfl, h0⟩ := hrel
      by_cases hlt : k < n
      · obtain ⟨b, off, s, rfl, hb, hsk, hc⟩ := h.str hlt
        have HT : Hid (tot (ss.take (k + 1)) = tot (ss.take k) + s.size) := Lib.hid (tot_snoc hsk)
        have hsz : s.size ≤ 9223372036854775807 := HS.out s (List.mem_of_getElem? hsk)
        have HK : Hid (ss[k]? = some s) := Lib.hid hsk
        clear hsk
        by_cases hfit : left - (n : Int) - tot (ss.take k) - s.size < 0
        · go_wp2
          go_ret
          exact ⟨-1, rfl, .inl (by omega), by omega, rfl⟩
        · have hfit' : 0 ≤ left - (n : Int) - tot (ss.take k) - s.size := by omega
          go_wp2
          go_round
          case rel => exact ⟨k + 1, by omega, by go_num, by rw [HT.out]; go_num, by rw [HT.out]; omega⟩
          case measure => simp [intOf]; omega
      · go_wp2
        go_ret
        have hkn : k = n := by omega
        subst hkn
        refine ⟨left - k - tot (ss.take k), rfl, .inr ?_, by omega, rfl⟩
        rw [List.take_of_length_le (by rw [HL.out]; omega), HL.out]

theorem str_info : (Try.prog.info? 9).map (fun i => (i.zero, i.size, i.bytes)) = some (some (.string ⟨#[]⟩), 1, 16) := by kernel_rfl

/-- the k-th of these strings, as a cell -/
def at_ (ss : List ByteArray) (i : Nat) : Value := .string (ss.getD i ⟨#[]⟩)
theorem at_of {ss : List ByteArray} {k : Nat} {s : ByteArray} (h : ss[k]? = some s) : at_ ss k = .string s := by simp [at_, List.getD, h]

/-- what toStringS tells: a new row with the same strings -/
def toPost (ss : List ByteArray) (w : World) (e : Ending) (w' : World) : Prop :=
  ∃ b : Nat, e = .returned (.slice (some ⟨b, 0, none⟩) ss.length ss.length) ∧ w.heap.size ≤ b ∧ b < w'.heap.size ∧ w'.rowIs b 9 ss.length (at_ ss) ∧ Below w.heap.size w w'

set_option maxHeartbeats 800000 in
theorem to_any (A : Option Addr) (n c : Nat) (ss : List ByteArray) (w : World) (h : SR w w.heap.size A n (ss.map Value.string)) (hn : n ≤ 1048576) :
    Calls Try.prog 35 #[.slice A n c] w (toPost ss w) := by
  have hlen := h.strlen
  have HL : Hid (ss.length = n) := Lib.hid hlen
  clear hlen
  have hmk := fun W => run_make_row' (P := Try.prog) 25 9 (.string ⟨#[]⟩) 16 Try.underlying25 str_info rfl .i64 .i64 n (by omega) (by omega) W
  go_enter Try.func35, Try.ntmps35
  go_wp2
  clear hmk
  go_loopw [4] (fun i wr => ∃ k : Nat, k ≤ n ∧ i = .int .i64 k ∧ wr.rowIs w.heap.size 9 n (fun j => if j < k then at_ ss j else .string ⟨#[]⟩) ∧ Below w.heap.size w wr) (fun i _ => n - (intOf i).toNat)
  case atStart => exact ⟨0, Nat.zero_le _, rfl, (World.rowIs_made w (.string ⟨#[]⟩) n 9).congr (fun _ _ => by simp), (Below.refl _ _).alloc (Nat.le_refl _) _⟩
  case round =>
    obtain ⟨k, hk, rfl, hrow, hbel⟩ := hrel
    have hlt := hrow.lt
    by_cases hkn : k < n
    · obtain ⟨b, off, s, rfl, hb, hsk, hc⟩ := h.str hkn
      have hcell : wr.cell? ⟨b, off + k, none⟩ = some (.string s) := (hbel.cell (p := ⟨b, off + k, none⟩) hb).trans hc
      have hcell2 := hrow.cell hkn
      have hfz := hrow.frozen k
      have HA : Hid (at_ ss k = .string s) := Lib.hid (at_of hsk)
      have hrow2 := hrow.set k (.string s)
      have hbel2 := hbel.setCell (p := ⟨w.heap.size, k, none⟩) (Nat.le_refl _) (.string s)
      have HR := Lib.hid hrow2
      have HB := Lib.hid hbel2
      clear hrow hbel hsk hc hrow2 hbel2
      go_wp2
      go_roundw
      case rel =>
        refine ⟨k + 1, by omega, by go_num, HR.out.congr (fun j hj => ?_), HB.out⟩
        show (if j = k then _ else if j < k then _ else _) = if j < k + 1 then _ else _
        by_cases e : j = k
        · subst e; rw [if_pos rfl, if_pos (by omega), HA.out]
        · rw [if_neg e]
          by_cases e2 : j < k
          · rw [if_pos e2, if_pos (by omega)]
          · rw [if_neg e2, if_neg (by omega)]
      case measure => simp [intOf]; omega
    · go_wp2
      go_ret
      refine ⟨w.heap.size, by rw [HL.out]; rfl, Nat.le_refl _, hlt, ?_, hbel⟩
      rw [HL.out]
      exact hrow.congr (fun j hj => by show (if j < k then _ else _) = _; rw [if_pos (by omega)])
end Go.Proofs.Ytifialdkjnmfoab.strs
