/- The laws' own helpers on [][2]int: eqIntA2S, markIntA2S, heldIntA2S; a slice of ports that a function gives back. -/
import Derived.Test.YtifialdkjnmfoaaPts
import Derived.StillTailTactics
namespace Go.Proofs.Ytifialdkjnmfoaa.ha
open kit bg opn strs only hb hi marks rs pt pts
open Go.RowKit
set_option linter.unusedVariables false

/-- ports in memory -/
def PtsAt (w : World) (B : Nat) (A : Option Addr) (n : Nat) (ps : List Port) : Prop :=
  ps.length = n ∧ (0 < n → ∃ b off, A = some ⟨b, off, none⟩ ∧ b < B ∧ ∀ (k : Nat) p, ps[k]? = some p → w.cell? ⟨b, off + k * 2, none⟩ = some (.int .i64 (p.1 : Nat)) ∧ w.cell? ⟨b, off + k * 2 + 1, none⟩ = some (.int .i64 (p.2.1 : Nat)))
theorem PtsAt.get {w : World} {B : Nat} {A : Option Addr} {n : Nat} {ps : List Port} {k : Nat} (h : PtsAt w B A n ps) (hk : k < n) : ∃ b off p, A = some ⟨b, off, none⟩ ∧ b < B ∧ ps[k]? = some p ∧ w.cell? ⟨b, off + k * 2, none⟩ = some (.int .i64 (p.1 : Nat)) ∧ w.cell? ⟨b, off + k * 2 + 1, none⟩ = some (.int .i64 (p.2.1 : Nat)) := by
  obtain ⟨b, off, e, hb, hc⟩ := h.2 (by omega)
  have hx : ps[k]? = some (ps[k]'(by have := h.1; omega)) := List.getElem?_eq_getElem _
  exact ⟨b, off, _, e, hb, hx, hc k _ hx⟩

set_option maxRecDepth 20000 in
set_option maxHeartbeats 1600000 in
theorem eqA2_any (p q : Int) (w : World) :
    Calls Try.prog 83 #[.agg #[.int .i64 p, .int .i64 q], .agg #[.int .i64 p, .int .i64 q]] w fun e w' => e = .returned (.bool true) ∧ Below w.heap.size w w' := by
  have r0 := row_new w #[.int .i64 p, .int .i64 q] 85 2 rfl
  have r1 := row_new (w.alloc (.cells #[.int .i64 p, .int .i64 q] 85)) #[.int .i64 p, .int .i64 q] 85 2 rfl
  rw [World.size_alloc] at r1
  have R0 := Lib.hid (r0.alloc (.cells #[.int .i64 p, .int .i64 q] 85))
  have R1 := Lib.hid r1
  have HB := Lib.hid (((Below.refl w.heap.size w).alloc (Nat.le_refl _) (.cells #[.int .i64 p, .int .i64 q] 85)).alloc (by simp) (.cells #[.int .i64 p, .int .i64 q] 85))
  clear r0 r1
  go_enter Try.func83, Try.ntmps83
  go_wp2_with fail
  obtain ⟨W, hW⟩ : ∃ W, (w.alloc (.cells #[.int .i64 p, .int .i64 q] 85)).alloc (.cells #[.int .i64 p, .int .i64 q] 85) = W := ⟨_, rfl⟩
  rw [hW] at R0 R1 HB ⊢
  clear hW
  go_loopw [5] (fun i wr => ∃ k : Nat, k ≤ 2 ∧ i = .int .i64 k ∧ Dr W wr) (fun i _ => 2 - (intOf i).toNat)
  case atStart => exact ⟨0, Nat.zero_le _, rfl, Dr.refl _⟩
  case round =>
    obtain ⟨k, hk, rfl, hd⟩ := hrel
    by_cases e0 : k = 0
    · subst e0
      have c0 : wr.cell? ⟨w.heap.size, 0, none⟩ = some (.int .i64 p) := (hd.cell _).trans (R0.out.cell (show 0 < 2 by omega))
      have c1 : wr.cell? ⟨w.heap.size + 1, 0, none⟩ = some (.int .i64 p) := (hd.cell _).trans (R1.out.cell (show 0 < 2 by omega))
      go_wp2_with fail
      go_quiet (fail)
      go_wp2_with fail
      go_roundw
      case rel => exact ⟨1, by omega, by go_num, by first | exact hd.more _ | exact hd⟩
      case measure => simp [intOf]
    · by_cases e1 : k = 1
      · subst e1
        have c0 : wr.cell? ⟨w.heap.size, 1, none⟩ = some (.int .i64 q) := (hd.cell _).trans (R0.out.cell (show 1 < 2 by omega))
        have c1 : wr.cell? ⟨w.heap.size + 1, 1, none⟩ = some (.int .i64 q) := (hd.cell _).trans (R1.out.cell (show 1 < 2 by omega))
        go_wp2_with fail
        go_quiet (fail)
        go_wp2_with fail
        go_roundw
        case rel => exact ⟨2, by omega, by go_num, by first | exact hd.more _ | exact hd⟩
        case measure => simp [intOf]
      · obtain rfl : k = 2 := by omega
        go_wp2_with fail
        go_ret
        exact ⟨rfl, HB.out.trans ((hd.below _).mono HB.out.size)⟩

set_option maxRecDepth 20000 in
set_option maxHeartbeats 1600000 in
theorem eqPS_any (A A' : Option Addr) (n c c' : Nat) (ps : List Port) (w : World) (B B' : Nat) (h : PtsAt w B A n ps) (h' : PtsAt w B' A' n ps) (hB : B ≤ w.heap.size) (hB' : B' ≤ w.heap.size) (hn : n ≤ maxLen) :
    Calls Try.prog 24 #[.slice A n c, .slice A' n c'] w fun e w' => e = .returned (.bool true) ∧ Below w.heap.size w w' := by
  unfold maxLen at hn
  go_enter Try.func24, Try.ntmps24
  go_wp2_with fail
  go_loopw [5] (fun i wr => ∃ k : Nat, k ≤ n ∧ i = .int .i64 k ∧ Below w.heap.size w wr) (fun i _ => n - (intOf i).toNat)
  case atStart => exact ⟨0, Nat.zero_le _, rfl, Below.refl _ _⟩
  case round =>
    obtain ⟨k, hk, rfl, hb⟩ := hrel
    by_cases hlt : k < n
    · obtain ⟨b, off, x, rfl, hbb, hx, c0, c1⟩ := h.get hlt
      obtain ⟨b', off', x', rfl, hbb', hx', c0', c1'⟩ := h'.get hlt
      rw [hx] at hx'
      injection hx' with e
      subst e
      have d0 := (hb.cell (p := ⟨b, off + k * 2, none⟩) (show b < w.heap.size by omega)).trans c0
      have d1 := (hb.cell (p := ⟨b, off + k * 2 + 1, none⟩) (show b < w.heap.size by omega)).trans c1
      have d0' := (hb.cell (p := ⟨b', off' + k * 2, none⟩) (show b' < w.heap.size by omega)).trans c0'
      have d1' := (hb.cell (p := ⟨b', off' + k * 2 + 1, none⟩) (show b' < w.heap.size by omega)).trans c1'
      clear hx c0 c1 c0' c1'
      go_wp2_with fail
      go_still_tail 8, (by kernel_rfl)
      change wpList _ _ _ _ _ wr.drew
      obtain ⟨w2, hw2⟩ : ∃ w2, wr.drew = w2 := ⟨_, rfl⟩
      have hb2 : Below w.heap.size w w2 := hw2 ▸ hb.drew
      rw [hw2]
      clear hw2
      go_wp2_with fail
      refine (eqA2_any _ _ _).mono ?_
      rintro e w3 ⟨rfl, hb3⟩
      have hb3' := hb2.trans (hb3.mono hb2.size)
      clear hb3
      go_wp2_with fail
      go_roundw
      case rel => exact ⟨k + 1, by omega, by go_num, hb3'⟩
      case measure => simp [intOf]; omega
    · obtain rfl : k = n := by omega
      go_wp2_with fail
      go_ret
      exact ⟨rfl, hb⟩

set_option maxRecDepth 20000 in
set_option maxHeartbeats 1600000 in
theorem markP_any (g n cap : Nat) (f : Nat → Value) (k : Int) (w : World) (hr : w.rowIs g 85 (cap * 2) f) (hc : n ≤ cap) (h0 : 0 < k) (h1 : k ≤ 3000000) (hn : n ≤ 2000000) :
    Calls Try.prog 30 #[.slice (some ⟨g, 0, none⟩) n cap, .int .i64 k] w fun e w' => e = .returned (.int .i64 (k + 2 * n)) ∧ w'.rowIs g 85 (cap * 2) (fun x => if x < n * 2 then mki k x else f x) ∧ w.grownBy w' (some g) := by
  go_enter Try.func30, Try.ntmps30
  go_wp2_with fail
  go_loopw [1, 5] (fun q i wr => ∃ j : Nat, j ≤ n ∧ i = .int .i64 j ∧ q = .int .i64 (k + 2 * j) ∧ wr.rowIs g 85 (cap * 2) (fun x => if x < j * 2 then mki k x else f x) ∧ w.grownBy wr (some g)) (fun _ i _ => n - (intOf i).toNat)
  case atStart => exact ⟨0, Nat.zero_le _, rfl, by simp, hr.congr (fun _ _ => by simp), World.grownBy.refl w _⟩
  case round =>
    obtain ⟨j, hj, rfl, rfl, hrow, hgr⟩ := hrel
    by_cases hlt : j < n
    · have HR0 := Lib.hid hrow
      have HG0 := Lib.hid hgr
      clear hrow hgr
      go_wp2_with fail
      go_loopw [1, 6] (fun q i wr => ∃ m : Nat, m ≤ 2 ∧ i = .int .i64 m ∧ q = .int .i64 (k + 2 * j + m) ∧ wr.rowIs g 85 (cap * 2) (fun x => if x < j * 2 + m then mki k x else f x) ∧ w.grownBy wr (some g)) (fun _ i _ => 2 - (intOf i).toNat)
      case atStart => exact ⟨0, Nat.zero_le _, rfl, by simp, HR0.out.congr (fun _ _ => by simp), HG0.out⟩
      case round =>
        obtain ⟨m, hm, rfl, rfl, hrow, hgr⟩ := hrel
        by_cases hlt2 : m < 2
        · have hcell := hrow.cell (show j * 2 + m < cap * 2 by omega)
          have hfz := hrow.frozen (j * 2 + m)
          have HRow := Lib.hid (hrow.set (j * 2 + m) (.int .i64 (k + 2 * j + m)))
          have HG := Lib.hid (only_set hgr (j * 2 + m) (.int .i64 (k + 2 * j + m)))
          clear hrow hgr
          go_wp2_with fail
          go_roundw
          case rel =>
            refine ⟨m + 1, by omega, by go_num, by go_num, HRow.out.congr (fun x hx => ?_), HG.out⟩
            show (if x = j * 2 + m then _ else if x < j * 2 + m then _ else _) = if x < j * 2 + (m + 1) then _ else _
            by_cases e : x = j * 2 + m
            · subst e
              rw [if_pos rfl, if_pos (by omega)]
              unfold mki
              congr 1
              simp
              omega
            · rw [if_neg e]
              by_cases e2 : x < j * 2 + m
              · rw [if_pos e2, if_pos (by omega)]
              · rw [if_neg e2, if_neg (by omega)]
          case measure => simp [intOf]; omega
        · obtain rfl : m = 2 := by omega
          have HR2 := Lib.hid (hrow.congr (g := fun x => if x < (j + 1) * 2 then mki k x else f x) (fun x _ => by rw [Nat.succ_mul]))
          have HG2 := Lib.hid hgr
          clear hrow hgr
          go_wp2_with fail
          go_roundw
          case rel => exact ⟨j + 1, by omega, by go_num, by go_num, HR2.out, HG2.out⟩
          case measure => simp [intOf]; omega
    · obtain rfl : j = n := by omega
      go_wp2_with fail
      go_ret
      exact ⟨rfl, hrow, hgr⟩

set_option maxRecDepth 20000 in
set_option maxHeartbeats 1600000 in
theorem heldP_any (g n cap : Nat) (k : Int) (w : World) (f : Nat → Value) (hr : w.rowIs g 85 (cap * 2) f) (hf : ∀ x, x < n * 2 → f x = mki k x) (hc : n ≤ cap) (h0 : 0 < k) (h1 : k ≤ 3000000) (hn : n ≤ 2000000) :
    Calls Try.prog 32 #[.slice (some ⟨g, 0, none⟩) n cap, .int .i64 k] w fun e w' => e = .returned (.int .i64 (k + 2 * n)) ∧ Below w.heap.size w w' := by
  have HF := Lib.hid hf
  clear hf
  go_enter Try.func32, Try.ntmps32
  go_wp2_with fail
  go_loopw [1, 5] (fun q i wr => ∃ j : Nat, j ≤ n ∧ i = .int .i64 j ∧ q = .int .i64 (k + 2 * j) ∧ Dr w wr) (fun _ i _ => n - (intOf i).toNat)
  case atStart => exact ⟨0, Nat.zero_le _, rfl, by simp, Dr.refl _⟩
  case round =>
    obtain ⟨j, hj, rfl, rfl, hdr⟩ := hrel
    by_cases hlt : j < n
    · go_wp2_with fail
      go_loopw [1, 6] (fun q i wr => ∃ m : Nat, m ≤ 2 ∧ i = .int .i64 m ∧ q = .int .i64 (k + 2 * j + m) ∧ Dr w wr) (fun _ i _ => 2 - (intOf i).toNat)
      case atStart => exact ⟨0, Nat.zero_le _, rfl, by simp, hdr⟩
      case round =>
        obtain ⟨m, hm, rfl, rfl, hdr⟩ := hrel
        by_cases hlt2 : m < 2
        · have hcell2 : wr.cell? ⟨g, j * 2 + m, none⟩ = some (.int .i64 (k + 2 * j + m)) := (hdr.cell _).trans ((hr.cell (show j * 2 + m < cap * 2 by omega)).trans (by
            rw [HF.out (j * 2 + m) (by omega)]
            unfold mki
            congr 2
            omega))
          go_wp2_with fail
          try go_quiet (fail)
          go_wp2_with fail
          go_roundw
          case rel => exact ⟨m + 1, by omega, by go_num, by go_num, by first | exact hdr.more _ | exact hdr⟩
          case measure => simp [intOf]; omega
        · obtain rfl : m = 2 := by omega
          go_wp2_with fail
          go_roundw
          case rel => exact ⟨j + 1, by omega, by go_num, by go_num, hdr⟩
          case measure => simp [intOf]; omega
    · obtain rfl : j = n := by omega
      go_wp2_with fail
      go_ret
      exact ⟨rfl, hdr.below _⟩
end Go.Proofs.Ytifialdkjnmfoaa.ha
