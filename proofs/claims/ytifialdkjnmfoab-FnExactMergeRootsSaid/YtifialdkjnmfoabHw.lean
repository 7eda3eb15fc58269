/- The law's own helpers on []Wire. -/
import Derived.Test.YtifialdkjnmfoabHc
namespace Go.Proofs.Ytifialdkjnmfoab.hw
open kit bg opn only marks hc
open Go.ChangeShapes Go.WideShapes Go.ChangeAt Go.RowKit
set_option linter.unusedVariables false

set_option maxHeartbeats 400000 in
theorem szW_any (s : ByteArray) (p left : Int) (w : World) (hl0 : -1 ≤ left) (hl : left ≤ 1048576) (hs : s.size ≤ maxLen) :
    Calls Try.prog 72 #[.agg #[.string s, .int .i64 p], .int .i64 left] w fun e w' => e = .returned (.int .i64 (if left - s.size < 0 then -1 else left - s.size)) ∧ Below w.heap.size w w' := by
  unfold maxLen at hs
  by_cases h : left - (s.size : Int) < 0
  · have e : (if left - (s.size : Int) < 0 then -1 else left - s.size) = -1 := if_pos h
    rw [e]
    clear e
    go_enter Try.func72, Try.ntmps72
    go_wp2
    go_ret
    exact ⟨rfl, (Below.refl _ _).alloc (Nat.le_refl _) _⟩
  · have e : (if left - (s.size : Int) < 0 then -1 else left - s.size) = left - s.size := if_neg h
    have h' : 0 ≤ left - (s.size : Int) := by omega
    rw [e]
    clear e
    go_enter Try.func72, Try.ntmps72
    go_wp2
    go_ret
    exact ⟨rfl, (Below.refl _ _).alloc (Nat.le_refl _) _⟩

theorem wire_info : (Try.prog.info? 60).map (fun i => (i.zero, i.size, i.bytes)) = some (some (.agg #[.string ⟨#[]⟩, .int .i64 0]), 2, 24) := by kernel_rfl

set_option maxHeartbeats 400000 in
theorem toW_any (s : ByteArray) (p : Int) (w : World) :
    Calls Try.prog 82 #[.agg #[.string s, .int .i64 p]] w fun e w' => e = .returned (.agg #[.string s, .int .i64 p]) ∧ Below w.heap.size w w' := by
  go_enter Try.func82, Try.ntmps82
  go_wp2
  exact bodyPost_ret (v := .agg #[.string s, .int .i64 p]) (by simp [results, Try.results82, go_sem]) rfl ⟨rfl, (((Below.refl _ _).alloc (Nat.le_refl _) _).alloc (by simp) _).alloc (by simp; omega) _⟩

set_option maxHeartbeats 400000 in
theorem eqW_any (s : ByteArray) (p : Int) (w : World) :
    Calls Try.prog 96 #[.agg #[.string s, .int .i64 p], .agg #[.string s, .int .i64 p]] w fun e w' => e = .returned (.bool true) ∧ Below w.heap.size w w' := by
  go_enter Try.func96, Try.ntmps96
  go_wp2
  go_ret
  exact ⟨rfl, ((Below.refl _ _).alloc (Nat.le_refl _) _).alloc (by simp) _⟩

set_option maxRecDepth 20000 in
set_option maxHeartbeats 800000 in
theorem eqWS_any (A A' : Option Addr) (n c c' : Nat) (cs : List Wr) (w : World) (B B' : Nat) (h : WrsAt w B A n cs) (h' : WrsAt w B' A' n cs) (hB : B ≤ w.heap.size) (hB' : B' ≤ w.heap.size) (hn : n ≤ maxLen) :
    Calls Try.prog 48 #[.slice A n c, .slice A' n c'] w fun e w' => e = .returned (.bool true) ∧ Below w.heap.size w w' := by
  unfold maxLen at hn
  go_enter Try.func48, Try.ntmps48
  go_wp2_with fail
  go_loopw [5] (fun i wr => ∃ k : Nat, k ≤ n ∧ i = .int .i64 k ∧ Below w.heap.size w wr) (fun i _ => n - (intOf i).toNat)
  case atStart => exact ⟨0, Nat.zero_le _, rfl, Below.refl _ _⟩
  case round =>
    obtain ⟨k, hk, rfl, hb⟩ := hrel
    by_cases hlt : k < n
    · obtain ⟨b, off, x, rfl, hbb, hx, c0, c1⟩ := h.get hlt
      obtain ⟨b', off', x', rfl, hbb', hx', c0', c1'⟩ := h'.get hlt
      rw [hx] at hx'
      injection hx' with e
      subst e
      have d0 := (hb.cell (p := ⟨b, off + k * 2, none⟩) (show b < w.heap.size by omega)).trans c0
      have d1 := (hb.cell (p := ⟨b, off + k * 2 + 1, none⟩) (show b < w.heap.size by omega)).trans c1
      have d0' := (hb.cell (p := ⟨b', off' + k * 2, none⟩) (show b' < w.heap.size by omega)).trans c0'
      have d1' := (hb.cell (p := ⟨b', off' + k * 2 + 1, none⟩) (show b' < w.heap.size by omega)).trans c1'
      clear hx c0 c1 c0' c1'
      go_wp2_with fail
      go_still_tail 8, (by kernel_rfl)
      change wpList _ _ _ _ _ wr.drew
      obtain ⟨w2, hw2⟩ : ∃ w2, wr.drew = w2 := ⟨_, rfl⟩
      have hb2 : Below w.heap.size w w2 := hw2 ▸ hb.drew
      rw [hw2]
      clear hw2
      go_wp2_with fail
      refine (eqW_any _ _ _).mono ?_
      rintro e w3 ⟨rfl, hb3⟩
      have hb3' := hb2.trans (hb3.mono hb2.size)
      clear hb3
      go_wp2_with fail
      go_roundw
      case rel => exact ⟨k + 1, by omega, by go_num, hb3'⟩
      case measure => simp [intOf]; omega
    · go_wp2_with fail
      go_ret
      exact ⟨rfl, hb⟩

/-- how much Wires take -/
def wrsWt (cs : List Wr) : Nat := cs.length + sumBy (fun c => c.name.size) cs

set_option maxHeartbeats 800000 in
theorem szWS_any (A : Option Addr) (n c : Nat) (cs : List Wr) (left : Int) (w : World) (B : Nat) (h : WrsAt w B A n cs) (hB : B ≤ w.heap.size) (hl0 : -1 ≤ left) (hl : left ≤ 1048576) (hn : n ≤ maxLen) (hw : ∀ x ∈ cs, WrW x) :
    Calls Try.prog 28 #[.slice A n c, .int .i64 left] w (szP (wrsWt cs) left w) := by
  have HL := Lib.hid h.1
  have HW := Lib.hid hw
  clear hw
  unfold maxLen at hn
  by_cases hneg : left - (n : Int) < 0
  · go_enter Try.func28, Try.ntmps28
    go_wp2_with fail
    go_ret
    exact ⟨-1, rfl, .inl (by omega), by omega, by omega, Below.refl _ _⟩
  · have hneg' : ¬ (left - (n : Int) < 0) := hneg
    go_enter Try.func28, Try.ntmps28
    go_wp2_with fail
    go_loopw [1, 5] (fun l i wr => ∃ k : Nat, k ≤ n ∧ i = .int .i64 k ∧ l = .int .i64 (left - n - sumBy (fun c : Wr => c.name.size) (cs.take k)) ∧ 0 ≤ left - n - sumBy (fun c : Wr => c.name.size) (cs.take k) ∧ Below w.heap.size w wr) (fun _ i _ => n - (intOf i).toNat)
    case atStart => exact ⟨0, Nat.zero_le _, rfl, by simp [sumBy], by simp [sumBy]; omega, Below.refl _ _⟩
    case round =>
      obtain ⟨k, hk, rfl, rfl, h0, hb⟩ := hrel
      by_cases hlt : k < n
      · obtain ⟨b, off, x, rfl, hbb, hx, c0, c1⟩ := h.get hlt
        have d0 := (hb.cell (p := ⟨b, off + k * 2, none⟩) (show b < w.heap.size by omega)).trans c0
        have d1 := (hb.cell (p := ⟨b, off + k * 2 + 1, none⟩) (show b < w.heap.size by omega)).trans c1
        have hxs : x.name.size ≤ maxLen := (HW.out x (List.mem_of_getElem? hx)).1
        have HT := Lib.hid (sumBy_snoc (fun c : Wr => c.name.size) hx)
        obtain ⟨T, hT⟩ : ∃ T, sumBy (fun c : Wr => c.name.size) (cs.take k) = T := ⟨_, rfl⟩
        have HTe := Lib.hid hT
        rw [hT] at h0 ⊢
        clear hx c0 c1 hT
        by_cases hfit : left - (n : Int) - T - x.name.size < 0
        · have C := szW_any x.name x.link (left - (n : Int) - T) wr (by omega) (by omega) hxs
          rw [if_pos hfit] at C
          go_wp2_with fail
          refine C.mono ?_
          rintro e w1 ⟨rfl, hb1⟩
          have hb2 := hb.trans (hb1.mono hb.size)
          clear hb1 C
          go_wp2_with fail
          go_ret
          exact ⟨-1, rfl, .inl (by omega), by omega, by omega, hb2⟩
        · have hfit' : 0 ≤ left - (n : Int) - T - x.name.size := by omega
          have C := szW_any x.name x.link (left - (n : Int) - T) wr (by omega) (by omega) hxs
          rw [if_neg hfit] at C
          go_wp2_with fail
          refine C.mono ?_
          rintro e w1 ⟨rfl, hb1⟩
          have hb2 := hb.trans (hb1.mono hb.size)
          clear hb1 C
          go_wp2_with fail
          go_roundw
          case rel => exact ⟨k + 1, by omega, by go_num, by rw [HT.out, HTe.out]; go_num, by rw [HT.out, HTe.out]; omega, hb2⟩
          case measure => simp [intOf]; omega
      · go_wp2_with fail
        go_ret
        have hkn : k = n := by omega
        subst hkn
        refine ⟨left - k - sumBy (fun c : Wr => c.name.size) (cs.take k), rfl, .inr ?_, by omega, by omega, hb⟩
        rw [List.take_of_length_le (by rw [HL.out]; omega)]
        unfold wrsWt
        rw [HL.out]
        omega

/-- Wires in memory of the call's own -/
def WrsOwn (w : World) (lo hi : Nat) (A : Option Addr) (n : Nat) (cs : List Wr) : Prop :=
  cs.length = n ∧ ∃ g f, A = some ⟨g, 0, none⟩ ∧ lo ≤ g ∧ g < hi ∧ w.rowIs g 60 (n * 2) f ∧ ∀ (k : Nat) c, cs[k]? = some c → f (k * 2) = .string c.name ∧ f (k * 2 + 1) = .int .i64 c.link
theorem WrsOwn.at {w : World} {lo hi : Nat} {A : Option Addr} {n : Nat} {cs : List Wr} (h : WrsOwn w lo hi A n cs) : WrsAt w hi A n cs := by
  obtain ⟨hl, g, f, rfl, h1, h2, hr, hf⟩ := h
  refine ⟨hl, fun _ => ⟨g, 0, rfl, h2, fun k c hk => ?_⟩⟩
  have hkn : k < n := by have := (List.getElem?_eq_some_iff.1 hk).1; omega
  obtain ⟨e0, e1⟩ := hf k c hk
  rw [Nat.zero_add]
  exact ⟨by rw [hr.cell (show k * 2 < n * 2 by omega), e0], by rw [hr.cell (show k * 2 + 1 < n * 2 by omega), e1]⟩
theorem WrsOwn.below {w w' : World} {lo hi B : Nat} {A : Option Addr} {n : Nat} {cs : List Wr} (h : WrsOwn w lo hi A n cs) (hb : Below B w w') (hB : hi ≤ B) : WrsOwn w' lo hi A n cs := by
  obtain ⟨hl, g, f, rfl, h1, h2, hr, hf⟩ := h
  exact ⟨hl, g, f, rfl, h1, h2, hr.of_block (hb.block g (by omega)), hf⟩
theorem WrsOwn.wide {w : World} {lo hi lo' hi' : Nat} {A : Option Addr} {n : Nat} {cs : List Wr} (h : WrsOwn w lo hi A n cs) (h1 : lo' ≤ lo) (h2 : hi ≤ hi') : WrsOwn w lo' hi' A n cs := by
  obtain ⟨hl, g, f, rfl, a1, a2, hr, hf⟩ := h
  exact ⟨hl, g, f, rfl, by omega, by omega, hr, hf⟩

set_option maxHeartbeats 800000 in
theorem toWS_any (A : Option Addr) (n c : Nat) (cs : List Wr) (w : World) (h : WrsAt w w.heap.size A n cs) (hn : n ≤ 1048576) :
    Calls Try.prog 36 #[.slice A n c] w fun e w' => ∃ g, e = .returned (.slice (some ⟨g, 0, none⟩) n n) ∧ WrsOwn w' w.heap.size w'.heap.size (some ⟨g, 0, none⟩) n cs ∧ Below w.heap.size w w' := by
  have HL := Lib.hid h.1
  have hmk : ∀ W : World, (Instr.makeSlice 32 (.int .i64 (n : Int)) (.int .i64 (n : Int))).run Try.prog W = .ok (.slice (some ⟨W.heap.size, 0, none⟩) n n) (W.alloc (.cells (madeCells #[.string ⟨#[]⟩, .int .i64 0] (n * 2)) 60)) := by
    intro W
    obtain ⟨i0, hi, hz0, hz1, hz2⟩ := info_parts wire_info
    have hr := run_make (P := Try.prog) W 32 60 i0 _ Try.underlying32 hi hz0 .i64 .i64 n n (by omega) (Int.le_refl _) (by rw [hz2]; omega) (by omega)
    simp only [Int.toNat_natCast, hz1] at hr
    exact hr
  go_enter Try.func36, Try.ntmps36
  go_wp2_with fail
  clear hmk
  go_loopw [4] (fun i wr => ∃ k : Nat, k ≤ n ∧ i = .int .i64 k ∧ (∃ f, wr.rowIs w.heap.size 60 (n * 2) f ∧ ∀ (j : Nat) c, j < k → cs[j]? = some c → f (j * 2) = .string c.name ∧ f (j * 2 + 1) = .int .i64 c.link) ∧ Below w.heap.size w wr) (fun i _ => n - (intOf i).toNat)
  case atStart => exact ⟨0, Nat.zero_le _, rfl, ⟨_, row_new w _ _ _ (size_madeCells _ _), fun j c hj => absurd hj (Nat.not_lt_zero j)⟩, (Below.refl _ _).alloc (Nat.le_refl _) _⟩
  case round =>
    obtain ⟨k, hk, rfl, ⟨f, hrow, hf⟩, hbel⟩ := hrel
    have hlt0 := hrow.lt
    by_cases hlt : k < n
    · obtain ⟨b, off, x, rfl, hbb, hx, c0, c1⟩ := h.get hlt
      have d0 := (hbel.cell (p := ⟨b, off + k * 2, none⟩) hbb).trans c0
      have d1 := (hbel.cell (p := ⟨b, off + k * 2 + 1, none⟩) hbb).trans c1
      have HX := Lib.hid hx
      have HF := Lib.hid hf
      clear hx c0 c1 hf
      go_wp2_with fail
      refine (toW_any _ _ _).mono ?_
      rintro e w1 ⟨rfl, hb1⟩
      have hbel1 := hbel.trans (hb1.mono hbel.size)
      have hrow1 := hrow.of_block (hb1.block _ hlt0)
      have z0 := hrow1.cell (show k * 2 < n * 2 by omega)
      have z1 := hrow1.cell (show k * 2 + 1 < n * 2 by omega)
      have f0 := hrow1.frozen (k * 2)
      have f1 := hrow1.frozen (k * 2 + 1)
      have HR := Lib.hid (put2_row hrow1 k (.string x.name) (.int .i64 x.link))
      have HB := Lib.hid (put2_below hbel1 (Nat.le_refl _) k (.string x.name) (.int .i64 x.link))
      clear hb1 hbel1 hrow hrow1 hbel
      go_wp2_with fail
      go_roundw
      case rel =>
        refine ⟨k + 1, by omega, by go_num, ⟨_, HR.out, fun j y hj hy => ?_⟩, HB.out⟩
        by_cases e : j = k
        · subst e
          rw [HX.out] at hy
          injection hy with hy
          subst hy
          exact put2_new
        · obtain ⟨p0, p1⟩ := put2_old (f := f) (k := k) (j := j) (a := .string x.name) (b := .int .i64 x.link) (by omega)
          rw [p0, p1]
          exact HF.out j y (by omega) hy
      case measure => simp [intOf]; omega
    · go_wp2_with fail
      go_ret
      obtain rfl : k = n := by omega
      exact ⟨w.heap.size, rfl, ⟨HL.out, w.heap.size, f, rfl, Nat.le_refl _, hlt0, hrow, fun j c hj => hf j c (by have := (List.getElem?_eq_some_iff.1 hj).1; rw [HL.out] at this; exact this) hj⟩, hbel⟩

set_option maxHeartbeats 1600000 in
theorem markWS_any (g n c : Nat) (f0 : Nat → Value) (k : Int) (w : World) (lo hi : Nat) (hr : w.rowIs g 60 (n * 2) f0) (hlo : lo ≤ g) (hhi : g < hi) (h0 : 0 < k) (h1 : k ≤ 8000000) (hn : n ≤ 1048576) :
    Calls Try.prog 54 #[.slice (some ⟨g, 0, none⟩) n c, .int .i64 k] w fun e w' => e = .returned (.int .i64 (k + 2 * n)) ∧ Only lo hi w w' := by
  go_enter Try.func54, Try.ntmps54
  go_wp2_with fail
  go_loopw [1, 5] (fun q i wr => ∃ j : Nat, j ≤ n ∧ i = .int .i64 j ∧ q = .int .i64 (k + 2 * j) ∧ (∃ f, wr.rowIs g 60 (n * 2) f) ∧ w.grownBy wr (some g)) (fun _ i _ => n - (intOf i).toNat)
  case atStart => exact ⟨0, Nat.zero_le _, rfl, by simp, ⟨f0, hr⟩, World.grownBy.refl w _⟩
  case round =>
    obtain ⟨j, hj, rfl, rfl, ⟨f, hrow⟩, hgr⟩ := hrel
    by_cases hlt : j < n
    · go_wp2_with fail
      refine (mark_any (k + 2 * j) _ (by omega) (by omega)).mono ?_
      rintro e w1 ⟨rfl, hb⟩
      have hrow1 := hrow.of_block (hb.block g hrow.lt)
      have z0 := hrow1.cell (show j * 2 < n * 2 by omega)
      have z1 := hrow1.cell (show j * 2 + 1 < n * 2 by omega)
      have f0 := hrow1.frozen (j * 2)
      have f1 := hrow1.frozen (j * 2 + 1)
      have HRow := Lib.hid (put2_row hrow1 j (.string (mt (k + 2 * j))) (.int .i64 (k + 2 * j + 1)))
      have HG := Lib.hid (only_set (only_set (only_below hgr hb) (j * 2) (.string (mt (k + 2 * j)))) (j * 2 + 1) (.int .i64 (k + 2 * j + 1)))
      clear hrow hrow1 hgr hb
      go_wp2_with fail
      go_roundw
      case rel => exact ⟨j + 1, by omega, by go_num, by go_num, ⟨_, HRow.out⟩, HG.out⟩
      case measure => simp [intOf]; omega
    · obtain rfl : j = n := by omega
      go_wp2_with fail
      go_ret
      exact ⟨rfl, Only.of_grown hgr hr hrow hlo hhi⟩
end Go.Proofs.Ytifialdkjnmfoab.hw
