/- The law's own helpers on []int: szIntS, toIntS, eqIntS, markIntS, heldIntS. -/
import Derived.Test.YtifialdkjnmfoabOpen
import Derived.Test.YtifialdkjnmfoabMk
import Derived.Deep.QuietTactic
import Derived.BigQuiet
namespace Go.Proofs.Ytifialdkjnmfoab.hi
open kit bg opn only marks
open Go.RowKit
set_option linter.unusedVariables false

theorem szI_any (A : Option Addr) (n c : Nat) (left : Int) (w : World) (hl0 : -1 ≤ left) (hl : left ≤ 1048576) (hn : n ≤ maxLen) :
    Calls Try.prog 26 #[.slice A n c, .int .i64 left] w (szP n left w) := by
  unfold maxLen at hn
  by_cases h : left - (n : Int) < 0
  · go_enter Try.func26, Try.ntmps26
    go_wp2
    go_ret
    exact ⟨-1, rfl, .inl (by omega), by omega, by omega, Below.refl _ _⟩
  · have h' : 0 ≤ left - (n : Int) := by omega
    go_enter Try.func26, Try.ntmps26
    go_wp2
    go_ret
    exact ⟨left - n, rfl, .inr rfl, by omega, by omega, Below.refl _ _⟩

theorem int_info : (Try.prog.info? 3).map (fun i => (i.zero, i.size, i.bytes)) = some (some (.int .i64 0), 1, 8) := by kernel_rfl
/-- the k-th of these numbers, as a cell -/
def iat (zs : List Int) (i : Nat) : Value := .int .i64 (zs.getD i 0)
theorem iat_of {zs : List Int} {k : Nat} {z : Int} (h : zs[k]? = some z) : iat zs k = .int .i64 z := by simp [iat, List.getD, h]

set_option maxHeartbeats 800000 in
theorem toIS_any (A : Option Addr) (n c : Nat) (zs : List Int) (w : World) (h : IntsAt w w.heap.size A n zs) (hn : n ≤ 1048576) :
    Calls Try.prog 34 #[.slice A n c] w fun e w' => e = .returned (.slice (some ⟨w.heap.size, 0, none⟩) n n) ∧ w'.rowIs w.heap.size 3 n (iat zs) ∧ Below w.heap.size w w' := by
  have hmk := fun W => run_make_row' (P := Try.prog) 24 3 (.int .i64 0) 8 Try.underlying24 int_info rfl .i64 .i64 n (by omega) (by omega) W
  go_enter Try.func34, Try.ntmps34
  go_wp2
  clear hmk
  go_loopw [4] (fun i wr => ∃ k : Nat, k ≤ n ∧ i = .int .i64 k ∧ wr.rowIs w.heap.size 3 n (fun j => if j < k then iat zs j else .int .i64 0) ∧ Below w.heap.size w wr) (fun i _ => n - (intOf i).toNat)
  case atStart => exact ⟨0, Nat.zero_le _, rfl, (World.rowIs_made w (.int .i64 0) n 3).congr (fun _ _ => by simp), (Below.refl _ _).alloc (Nat.le_refl _) _⟩
  case round =>
    obtain ⟨k, hk, rfl, hrow, hbel⟩ := hrel
    have hlt := hrow.lt
    by_cases hkn : k < n
    · obtain ⟨b, off, s, rfl, hb, hsk, hc⟩ := h.get hkn
      have hcell : wr.cell? ⟨b, off + k, none⟩ = some (.int .i64 s) := (hbel.cell (p := ⟨b, off + k, none⟩) hb).trans hc
      have hcell2 := hrow.cell hkn
      have hfz := hrow.frozen k
      have HA : Hid (iat zs k = .int .i64 s) := Lib.hid (iat_of hsk)
      have HR := Lib.hid (hrow.set k (.int .i64 s))
      have HB := Lib.hid (hbel.setCell (p := ⟨w.heap.size, k, none⟩) (Nat.le_refl _) (.int .i64 s))
      clear hrow hbel hsk hc
      go_wp2
      go_roundw
      case rel =>
        refine ⟨k + 1, by omega, by go_num, HR.out.congr (fun j hj => ?_), HB.out⟩
        show (if j = k then _ else if j < k then _ else _) = if j < k + 1 then _ else _
        by_cases e : j = k
        · subst e; rw [if_pos rfl, if_pos (by omega), HA.out]
        · rw [if_neg e]
          by_cases e2 : j < k
          · rw [if_pos e2, if_pos (by omega)]
          · rw [if_neg e2, if_neg (by omega)]
      case measure => simp [intOf]; omega
    · go_wp2
      go_ret
      exact ⟨rfl, hrow.congr (fun j hj => by show (if j < k then _ else _) = _; rw [if_pos (by omega)]), hbel⟩

theorem toIS_ex (A : Option Addr) (n c : Nat) (zs : List Int) (w : World) (h : IntsAt w w.heap.size A n zs) (hn : n ≤ 1048576) :
    Calls Try.prog 34 #[.slice A n c] w fun e w' => ∃ g, e = .returned (.slice (some ⟨g, 0, none⟩) n n) ∧ w.heap.size ≤ g ∧ g < w'.heap.size ∧ w'.rowIs g 3 n (iat zs) ∧ Below w.heap.size w w' :=
  (toIS_any A n c zs w h hn).mono fun e w' ⟨he, hr, hb⟩ => ⟨_, he, Nat.le_refl _, hr.lt, hr, hb⟩

theorem ints_row {w : World} {b B m n : Nat} {t : TypeId} {f : Nat → Value} {zs : List Int} (h : w.rowIs b t m f) (hm : n ≤ m) (hb : b < B) (hl : zs.length = n) (hf : ∀ k, k < n → f k = iat zs k) : IntsAt w B (some ⟨b, 0, none⟩) n zs :=
  SR.of_row2 h hm hb (fun k u hu => by
    rw [List.getElem?_map] at hu
    obtain ⟨z, hz, rfl⟩ := Option.map_eq_some_iff.1 hu
    have hk : k < n := by have := (List.getElem?_eq_some_iff.1 hz).1; omega
    exact ⟨hk, (hf k hk).trans (iat_of hz)⟩) (by simpa using hl)

set_option maxHeartbeats 800000 in
theorem eqIS_any (A A' : Option Addr) (n c c' : Nat) (zs : List Int) (w : World) (B B' : Nat) (h : IntsAt w B A n zs) (h' : IntsAt w B' A' n zs) (hn : n ≤ maxLen) :
    Calls Try.prog 46 #[.slice A n c, .slice A' n c'] w fun e w' => e = .returned (.bool true) ∧ Dr w w' := by
  unfold maxLen at hn
  go_enter Try.func46, Try.ntmps46
  go_wp2_with fail
  go_loopw [5] (fun i wr => ∃ k : Nat, k ≤ n ∧ i = .int .i64 k ∧ Dr w wr) (fun i _ => n - (intOf i).toNat)
  case atStart => exact ⟨0, Nat.zero_le _, rfl, Dr.refl w⟩
  case round =>
    obtain ⟨k, hk, rfl, hdr⟩ := hrel
    by_cases hlt : k < n
    · obtain ⟨b, off, s, rfl, hb, hsk, hc⟩ := h.get hlt
      obtain ⟨b', off', s', rfl, hb', hsk', hc'⟩ := h'.get hlt
      rw [hsk] at hsk'
      injection hsk' with e
      subst e
      have hcell : wr.cell? ⟨b, off + k, none⟩ = some (.int .i64 s) := (hdr.cell _).trans hc
      have hcell' : wr.cell? ⟨b', off' + k, none⟩ = some (.int .i64 s) := (hdr.cell _).trans hc'
      clear hsk hc hc'
      go_wp2_with fail
      go_quiet (fail)
      go_wp2_with fail
      go_roundw
      case rel => exact ⟨k + 1, by omega, by go_num, hdr.more _⟩
      case measure => simp [intOf]; omega
    · go_wp2_with fail
      go_ret
      exact ⟨rfl, hdr⟩

/-- the marks from k on -/
def mki (k : Int) (i : Nat) : Value := .int .i64 (k + i)

set_option maxHeartbeats 1600000 in
theorem markI_any (g n cap : Nat) (f : Nat → Value) (k : Int) (w : World) (hr : w.rowIs g 3 cap f) (hc : n ≤ cap) (h0 : 0 < k) (h1 : k ≤ 8000000) (hn : n ≤ 8000000) :
    Calls Try.prog 52 #[.slice (some ⟨g, 0, none⟩) n cap, .int .i64 k] w fun e w' => e = .returned (.int .i64 (k + n)) ∧ w'.rowIs g 3 cap (fun x => if x < n then mki k x else f x) ∧ w.grownBy w' (some g) := by
  go_enter Try.func52, Try.ntmps52
  go_wp2_with fail
  go_loopw [1, 5] (fun q i wr => ∃ j : Nat, j ≤ n ∧ i = .int .i64 j ∧ q = .int .i64 (k + j) ∧ wr.rowIs g 3 cap (fun x => if x < j then mki k x else f x) ∧ w.grownBy wr (some g)) (fun _ i _ => n - (intOf i).toNat)
  case atStart => exact ⟨0, Nat.zero_le _, rfl, by simp, hr.congr (fun _ _ => by simp), World.grownBy.refl w _⟩
  case round =>
    obtain ⟨j, hj, rfl, rfl, hrow, hgr⟩ := hrel
    by_cases hlt : j < n
    · have hcell := hrow.cell (show j < cap by omega)
      have hfz := hrow.frozen j
      have HRow := Lib.hid (hrow.set j (.int .i64 (k + j)))
      have HG := Lib.hid (only_set hgr j (.int .i64 (k + j)))
      clear hrow hgr
      go_wp2_with fail
      go_roundw
      case rel =>
        refine ⟨j + 1, by omega, by go_num, by go_num, HRow.out.congr (fun x hx => ?_), HG.out⟩
        show (if x = j then _ else if x < j then _ else _) = if x < j + 1 then _ else _
        by_cases e : x = j
        · subst e; rw [if_pos rfl, if_pos (by omega)]; rfl
        · rw [if_neg e]
          by_cases e2 : x < j
          · rw [if_pos e2, if_pos (by omega)]
          · rw [if_neg e2, if_neg (by omega)]
      case measure => simp [intOf]; omega
    · obtain rfl : j = n := by omega
      go_wp2_with fail
      go_ret
      exact ⟨rfl, hrow, hgr⟩

set_option maxHeartbeats 1600000 in
theorem heldI_any (g n cap : Nat) (k : Int) (w : World) (f : Nat → Value) (hr : w.rowIs g 3 cap f) (hf : ∀ x, x < n → f x = mki k x) (hc : n ≤ cap) (h0 : 0 < k) (h1 : k ≤ 8000000) (hn : n ≤ 8000000) :
    Calls Try.prog 56 #[.slice (some ⟨g, 0, none⟩) n cap, .int .i64 k] w fun e w' => e = .returned (.int .i64 (k + n)) ∧ Below w.heap.size w w' := by
  have HF := Lib.hid hf
  clear hf
  go_enter Try.func56, Try.ntmps56
  go_wp2_with fail
  go_loopw [1, 5] (fun q i wr => ∃ j : Nat, j ≤ n ∧ i = .int .i64 j ∧ q = .int .i64 (k + j) ∧ Dr w wr) (fun _ i _ => n - (intOf i).toNat)
  case atStart => exact ⟨0, Nat.zero_le _, rfl, by simp, Dr.refl _⟩
  case round =>
    obtain ⟨j, hj, rfl, rfl, hdr⟩ := hrel
    by_cases hlt : j < n
    · have hcell2 : wr.cell? ⟨g, j, none⟩ = some (.int .i64 (k + j)) := (hdr.cell _).trans ((hr.cell (show j < cap by omega)).trans (by rw [HF.out j hlt]; rfl))
      go_wp2_with fail
      try go_quiet (fail)
      go_wp2_with fail
      go_roundw
      case rel => exact ⟨j + 1, by omega, by go_num, by go_num, by first | exact hdr.more _ | exact hdr⟩
      case measure => simp [intOf]; omega
    · obtain rfl : j = n := by omega
      go_wp2_with fail
      go_ret
      exact ⟨rfl, hdr.below _⟩
end Go.Proofs.Ytifialdkjnmfoab.hi
