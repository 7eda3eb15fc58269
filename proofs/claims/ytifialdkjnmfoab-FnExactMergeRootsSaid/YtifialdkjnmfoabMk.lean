/- The law's own marks: markText writes a number's mark, markStringS marks each place, heldStringS looks for the marks. -/
import Derived.Test.YtifialdkjnmfoabStrs
import Derived.Test.YtifialdkjnmfoabOnly
import Derived.Deep.RegionHeld3
import Derived.Deep.RegionWith
namespace Go.Proofs.Ytifialdkjnmfoab.marks
open kit strs only
open Go.RowKit

/-- the mark of a number above 0 -/
def mt (k : Int) : ByteArray := ⟨(109 :: Lib.decDigits k.toNat).toArray⟩

theorem nums_one {d : Int} (h0 : 0 ≤ d) (h1 : d < 10) : strOfNums [48 + d] = ⟨#[UInt8.ofNat (48 + d.toNat)]⟩ := by
  have e : (48 + d).toNat = 48 + d.toNat := by omega
  simp [strOfNums, e]
theorem one_join (b : UInt8) (r : List UInt8) : (ByteArray.mk #[b]) ++ ⟨r.toArray⟩ = ⟨(b :: r).toArray⟩ := by
  apply ByteArray.ext
  simp
theorem conv_one (w : World) (d : Int) (h0 : 0 ≤ d) (h1 : d < 10) :
    (convert 117 9 (.slice (some ⟨w.heap.size, 0, none⟩) 1 1)).run Try.prog (w.alloc (.cells #[.int .u8 (48 + d)] 5)) = .ok (.string ⟨#[UInt8.ofNat (48 + d.toNat)]⟩) (w.alloc (.cells #[.int .u8 (48 + d)] 5)) := by
  rw [run_convert_bytes_arg (w.alloc (.cells #[.int .u8 (48 + d)] 5)) 117 5 Try.underlying117 Try.underlying5 w.heap.size 0 1 1 [48 + d] rfl (fun i hi => by
    obtain rfl : i = 0 := by omega
    simp) 9 Try.underlying9, nums_one h0 h1]

theorem only_below {a w w1 : World} {row : Option Nat} (h : a.grownBy w row) (k : Below w.heap.size w w1) : a.grownBy w1 row :=
  ⟨k.os.trans h.os, k.tape.trans h.tape, k.output.trans h.output, Nat.le_trans h.size k.size, fun i hi hne => (k.block i (Nat.lt_of_lt_of_le hi h.size)).trans (h.block i hi hne)⟩
theorem only_set {a w : World} {g : Nat} (h : a.grownBy w (some g)) (o : Nat) (u : Value) : a.grownBy (w.setCell ⟨g, o, none⟩ u) (some g) :=
  ⟨h.os, h.tape, h.output, by simpa [World.setCell] using h.size, fun i hi hne => (Below.heap_setCell w ⟨g, o, none⟩ u i (fun e => hne (by rw [e]))).trans (h.block i hi hne)⟩

/-- what the loop keeps: m is what is left to write, r what has been written -/
def Mid (k m : Int) (r : List UInt8) : Prop := if 0 < m then Lib.decDigits k.toNat = Lib.decDigits m.toNat ++ r else Lib.decDigits k.toNat = r
theorem mid_len {k m : Int} {r : List UInt8} (h : Mid k m r) (hk : k ≤ 16000000) : r.length ≤ 16000001 := by
  have hl := dec_len _ k.toNat (Nat.le_refl _)
  unfold Mid at h
  split at h
  · rw [h, List.length_append] at hl; omega
  · rw [h] at hl; omega
theorem mid_next {k m : Int} {r : List UInt8} (h : Mid k m r) (hm : 0 < m) : Mid k (m / 10) (UInt8.ofNat (48 + (m % 10).toNat) :: r) := by
  unfold Mid at h ⊢
  rw [if_pos hm] at h
  have e1 : (m / 10).toNat = m.toNat / 10 := by omega
  have e2 : (m % 10).toNat = m.toNat % 10 := by omega
  by_cases h10 : m < 10
  · rw [if_neg (by omega), h, dec_small (by omega)]
    have e3 : m.toNat = m.toNat % 10 := by omega
    rw [e2, ← e3]; rfl
  · rw [if_pos (by omega), h, dec_big (by omega), e1, e2]
    simp

set_option maxHeartbeats 800000 in
theorem mark_any (k : Int) (w : World) (h0 : 0 < k) (h1 : k ≤ 16000000) :
    Calls Try.prog 50 #[.int .i64 k] w fun e w' => e = .returned (.string (mt k)) ∧ Below w.heap.size w w' := by
  go_enter Try.func50, Try.ntmps50
  go_wp2_with fail
  go_loopw [0, 3] (fun i s wr => ∃ (m : Int) (r : List UInt8), 0 ≤ m ∧ m ≤ k ∧ i = .int .i64 m ∧ s = .string ⟨r.toArray⟩ ∧ Mid k m r ∧ Below w.heap.size w wr) (fun i _ _ => (intOf i).toNat)
  case atStart => exact ⟨k, [], by omega, by omega, rfl, rfl, by unfold Mid; rw [if_pos h0]; simp, Below.refl _ _⟩
  case round =>
    obtain ⟨m, r, hm0, hm1, rfl, rfl, hd, hb⟩ := hrel
    have hbs := hb.size
    have hrl := mid_len hd h1
    have hrz : (ByteArray.mk r.toArray).size = r.length := by simp [ByteArray.size]
    obtain ⟨R, hR⟩ : ∃ R, ByteArray.mk r.toArray = R := ⟨_, rfl⟩
    have hRz : R.size ≤ 16000001 := by rw [← hR, hrz]; exact hrl
    rw [hR]
    have HD := Lib.hid hd
    have HR := Lib.hid hR
    clear hd hR hrz hrl
    by_cases hm : 0 < m
    · have p1 : 0 ≤ m % 10 := by omega
      have p2 : m % 10 < 10 := by omega
      have hcv := conv_one wr (m % 10) p1 p2
      go_wp2_with fail
      go_roundw
      case rel => exact ⟨m / 10, _, by omega, by omega, rfl, by rw [← HR.out, one_join]; simp, mid_next HD.out hm, hb.alloc hbs _⟩
      case measure => simp [intOf]; omega
    · obtain rfl : m = 0 := by omega
      go_wp2_with fail
      go_ret
      refine ⟨?_, hb⟩
      have e := HD.out
      unfold Mid at e
      rw [if_neg (by omega)] at e
      rw [← HR.out, one_join, mt, e]
      rfl

/-- the marks from k on -/
def mks (k : Int) (i : Nat) : Value := .string (mt (k + i))

set_option maxHeartbeats 1600000 in
theorem markS_any (g n cap : Nat) (f : Nat → Value) (k : Int) (w : World) (hr : w.rowIs g 9 cap f) (hc : n ≤ cap) (h0 : 0 < k) (h1 : k ≤ 8000000) (hn : n ≤ 8000000) :
    Calls Try.prog 53 #[.slice (some ⟨g, 0, none⟩) n cap, .int .i64 k] w fun e w' => e = .returned (.int .i64 (k + n)) ∧ w'.rowIs g 9 cap (fun x => if x < n then mks k x else f x) ∧ w.grownBy w' (some g) := by
  go_enter Try.func53, Try.ntmps53
  go_wp2_with fail
  go_loopw [1, 5] (fun q i wr => ∃ j : Nat, j ≤ n ∧ i = .int .i64 j ∧ q = .int .i64 (k + j) ∧ wr.rowIs g 9 cap (fun x => if x < j then mks k x else f x) ∧ w.grownBy wr (some g)) (fun _ i _ => n - (intOf i).toNat)
  case atStart => exact ⟨0, Nat.zero_le _, rfl, by simp, hr.congr (fun _ _ => by simp), World.grownBy.refl w _⟩
  case round =>
    obtain ⟨j, hj, rfl, rfl, hrow, hgr⟩ := hrel
    by_cases hlt : j < n
    · go_wp2_with fail
      refine (mark_any (k + j) _ (by omega) (by omega)).mono ?_
      rintro e w1 ⟨rfl, hb⟩
      have hrow1 := hrow.of_block (hb.block g hrow.lt)
      have hcell := hrow1.cell (show j < cap by omega)
      have hfz := hrow1.frozen j
      have HRow := Lib.hid (hrow1.set j (.string (mt (k + j))))
      have HG := Lib.hid (only_below hgr hb)
      clear hrow hrow1 hgr hb
      go_wp2_with fail
      go_roundw
      case rel =>
        refine ⟨j + 1, by omega, by go_num, by go_num, HRow.out.congr (fun x hx => ?_), only_set HG.out _ _⟩
        show (if x = j then _ else if x < j then _ else _) = if x < j + 1 then _ else _
        by_cases e : x = j
        · subst e; rw [if_pos rfl, if_pos (by omega)]; rfl
        · rw [if_neg e]
          by_cases e2 : x < j
          · rw [if_pos e2, if_pos (by omega)]
          · rw [if_neg e2, if_neg (by omega)]
      case measure => simp [intOf]; omega
    · obtain rfl : j = n := by omega
      go_wp2_with fail
      go_ret
      exact ⟨rfl, hrow, hgr⟩

set_option maxHeartbeats 1600000 in
theorem heldS_any (g n cap : Nat) (k : Int) (w : World) (f : Nat → Value) (hr : w.rowIs g 9 cap f) (hf : ∀ x, x < n → f x = mks k x) (hc : n ≤ cap) (h0 : 0 < k) (h1 : k ≤ 8000000) (hn : n ≤ 8000000) :
    Calls Try.prog 57 #[.slice (some ⟨g, 0, none⟩) n cap, .int .i64 k] w fun e w' => e = .returned (.int .i64 (k + n)) ∧ Below w.heap.size w w' := by
  have hgw := hr.lt
  have HF := Lib.hid hf
  clear hf
  go_enter Try.func57, Try.ntmps57
  go_wp2_with fail
  go_loopw [1, 5] (fun q i wr => ∃ j : Nat, j ≤ n ∧ i = .int .i64 j ∧ q = .int .i64 (k + j) ∧ Below w.heap.size w wr) (fun _ i _ => n - (intOf i).toNat)
  case atStart => exact ⟨0, Nat.zero_le _, rfl, by simp, Below.refl _ _⟩
  case round =>
    obtain ⟨j, hj, rfl, rfl, hb⟩ := hrel
    have hbs := hb.size
    by_cases hlt : j < n
    · have hcell2 : wr.cell? ⟨g, j, none⟩ = some (.string (mt (k + j))) := (hb.cell (p := ⟨g, j, none⟩) hgw).trans ((hr.cell (show j < cap by omega)).trans (by rw [HF.out j hlt]; rfl))
      have p1 : 0 < k + j := by omega
      have p2 : k + j ≤ 16000000 := by omega
      go_wp2_with fail
      have hj0 : (0 : Int) ≤ (j : Int) := Int.natCast_nonneg _
      have hj1 : (j : Int) < (n : Int) := by omega
      have hgr : g < wr.heap.size := by omega
      go_region_held3 (fun w' => w'.cell? ⟨g, j, none⟩ = some (.string (mt (k + j)))) (first | go_keep | (rw [hb1.cell (by simp; omega)]; assumption)) ((go_at_call 50; refine (mark_any (k + j) _ p1 p2).mono ?_; rintro e w1 ⟨rfl, hb1⟩))
      have HB := Lib.hid ((hb.drew).trans (hb1.mono (show w.heap.size ≤ wr.drew.heap.size from hbs)))
      clear hb1
      go_wp2_with fail
      go_roundw
      case rel => exact ⟨j + 1, by omega, by go_num, by go_num, HB.out⟩
      case measure => simp [intOf]; omega
    · obtain rfl : j = n := by omega
      go_wp2_with fail
      go_ret
      exact ⟨rfl, hb⟩
end Go.Proofs.Ytifialdkjnmfoab.marks
