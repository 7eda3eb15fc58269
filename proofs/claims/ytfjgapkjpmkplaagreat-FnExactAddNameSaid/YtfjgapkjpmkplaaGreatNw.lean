/- Lists of names: impl.isFace, spec.l3Names; NewNames of spec and impl. -/
import Derived.Test.YtfjgapkjpmkplaaGreatQd
namespace Go.Proofs.YtfjgapkjpmkplaaGreat.nw
open kit bg sg opn strs only hb sig isig un over gn nm inn ht gd im pt marks eqs hc hi hw hn rs br bm bw cf lf ib lawb lw cl pl mb wb
open Go.RowKit
set_option linter.unusedVariables false

/-- whether a list is of names, and not too long -/
noncomputable def faceB (ss : List ByteArray) (M : Int) : Bool := namesB ss && decide ((ss.length : Int) ≤ M)
theorem face_le {ss : List ByteArray} {M : Int} (h : faceB ss M = true) : (ss.length : Int) ≤ M := by
  unfold faceB at h
  simp only [Bool.and_eq_true, decide_eq_true_eq] at h
  exact h.2
set_option maxHeartbeats 800000 in
theorem isFace_any (A : Option Addr) (n c : Nat) (ss : List ByteArray) (M : Int) (w : World) (h : SR w w.heap.size A n (ss.map Value.string)) (hn : n ≤ 1048576) (hs : ∀ s ∈ ss, s.size ≤ 1048576) :
    Calls Tryz.prog 183 #[.slice A n c, .int .i64 M] w fun e w' => e = .returned (.bool (faceB ss M)) ∧ w = w' := by
  have C := areNames_any A n c ss w w.heap.size h hn hs
  have hl := h.strlen
  have hF : faceB ss M = (namesB ss && decide ((n : Int) ≤ M)) := by unfold faceB; rw [hl]
  rw [hF]
  obtain ⟨q, hq⟩ : ∃ q, namesB ss = q := ⟨_, rfl⟩
  rw [hq] at C ⊢
  clear hF hq hl
  by_cases hle : (n : Int) ≤ M
  · go_enter Tryz.func183, Tryz.ntmps183
    go_wp2_with fail
    refine C.mono ?_
    rintro e w1 ⟨rfl, rfl⟩
    cases q with
    | false =>
      go_wp2_with fail
      go_ret
      exact ⟨rfl, rfl⟩
    | true =>
      go_wp2_with fail
      go_ret
      exact ⟨by simp [hle], rfl⟩
  · go_enter Tryz.func183, Tryz.ntmps183
    go_wp2_with fail
    go_ret
    exact ⟨by simp [hle], rfl⟩
noncomputable def nwR (ss : List ByteArray) : Big := if faceB ss 16 = true then wiring 0 ss [] else zeroBig
theorem nwR_no {ss : List ByteArray} (h : faceB ss 16 = false) : nwR ss = zeroBig := by unfold nwR; rw [h]; rfl
theorem nwR_yes {ss : List ByteArray} (h : faceB ss 16 = true) : nwR ss = wiring 0 ss [] := by unfold nwR; rw [if_pos h]
theorem nw_len (ss : List ByteArray) : bigMk (nwR ss) ≤ 1048576 := by
  cases h : faceB ss 16 with
  | false => rw [nwR_no h]; exact zero_len
  | true => rw [nwR_yes h]; exact wiring_len (by have := face_le h; omega) (by simp)

set_option maxRecDepth 20000 in
set_option maxHeartbeats 1600000 in
theorem iNw_any (A : Option Addr) (n c : Nat) (ss : List ByteArray) (w : World) (h : SR w w.heap.size A n (ss.map Value.string)) (hn : n ≤ 1048576) (hs : ∀ s ∈ ss, s.size ≤ 1048576) (hnil : A = none → c = 0) :
    Calls Tryz.prog 122 #[.slice A n c] w (BigPost (faceB ss 16) (nwR ss) w) := by
  have hb0 := (Below.refl w.heap.size w).alloc (Nat.le_refl _) (.cells #[.int .i64 0, .slice none 0 0, .slice none 0 0, .int .i64 0, .slice none 0 0, .slice none 0 0] 36)
  have HBx0 : Hid (BoxAt (w.alloc (.cells #[.int .i64 0, .slice none 0 0, .slice none 0 0, .int .i64 0, .slice none 0 0, .slice none 0 0] 36)) w.heap.size 36 (.int .i64 0) (.slice none 0 0) (.slice none 0 0) (.int .i64 0) (.slice none 0 0) (.slice none 0 0)) := Lib.hid (six_new w _ _ _ _ _ _ _)
  obtain ⟨W, hW⟩ : ∃ W, w.alloc (.cells #[.int .i64 0, .slice none 0 0, .slice none 0 0, .int .i64 0, .slice none 0 0, .slice none 0 0] 36) = W := ⟨_, rfl⟩
  have hWz : W.heap.size = w.heap.size + 1 := by rw [← hW]; simp
  rw [hW] at hb0 HBx0
  have HWq := Lib.hid hW
  have HB0 := Lib.hid hb0
  have HWz := Lib.hid hWz
  clear hW hb0 hWz
  have hl := h.strlen
  have hW := (h.below HB0.out).wide HB0.out.size
  have CW := isFace_any A n c ss 16 W hW hn hs
  cases hq : faceB ss 16 with
  | false =>
    rw [hq] at CW
    have HR := Lib.hid (nwR_no hq)
    clear hq
    go_enter Tryz.func122, Tryz.ntmps122
    go_wp2_with fail
    rw [HWq.out]
    refine CW.mono ?_
    rintro e w1 ⟨rfl, rfl⟩
    clear CW
    obtain ⟨z0, z1, z2, z3, z4, z5⟩ := HBx0.out.get
    have f0 := World.rowIs.frozen HBx0.out 0
    have f1 := World.rowIs.frozen HBx0.out 1
    have f2 := World.rowIs.frozen HBx0.out 2
    have f3 := World.rowIs.frozen HBx0.out 3
    have f4 := World.rowIs.frozen HBx0.out 4
    have f5 := World.rowIs.frozen HBx0.out 5
    go_wp2_with fail
    refine bodyPost_ret (v := .tuple #[.agg #[.int .i64 0, .slice none 0 0, .slice none 0 0, .int .i64 0, .slice none 0 0, .slice none 0 0], .bool false]) (by simp [results, Tryz.results122, go_sem, z0, z1, z2, z3, z4, z5]) rfl ⟨_, rfl, by rw [HR.out]; exact BigR.zero, sets6_below HB0.out (Nat.le_refl _) _ _ _ _ _ _⟩
  | true =>
    rw [hq] at CW
    have HR := Lib.hid (nwR_yes hq)
    have hle := face_le hq
    clear hq
    have HC := Lib.hid (cloneS_any A n c ss W hW hn hnil)
    clear hs hnil
    go_enter Tryz.func122, Tryz.ntmps122
    go_wp2_with fail
    rw [HWq.out]
    refine CW.mono ?_
    rintro e w1 ⟨rfl, rfl⟩
    clear CW
    go_wp2_with fail
    refine HC.out.mono ?_
    rintro e w2 ⟨A', c', rfl, hr, -, hb⟩
    have HB2 := Lib.hid (HB0.out.trans (hb.mono HB0.out.size))
    have HBx2 := Lib.hid (HBx0.out.on hb)
    have HBR := Lib.hid (wiring_big (E := 0) (strs_row hl (hr.wide (lo' := w.heap.size) HB0.out.size (Nat.le_refl _))) (inner := []) (A5 := none) (c5 := 0) RowR.nil)
    rw [hl] at HBR
    clear hr hb
    obtain ⟨z0, z1, z2, z3, z4, z5⟩ := HBx2.out.get
    have f0 := World.rowIs.frozen HBx2.out 0
    have f1 := World.rowIs.frozen HBx2.out 1
    have f2 := World.rowIs.frozen HBx2.out 2
    have f3 := World.rowIs.frozen HBx2.out 3
    have f4 := World.rowIs.frozen HBx2.out 4
    have f5 := World.rowIs.frozen HBx2.out 5
    go_wp2_with fail
    have hbig := (sets6_big HBx2.out HBR.out (.int .i64 0) (.slice none 0 0) (.slice none 0 0) (.int .i64 0) (.slice A' n c') (.slice none 0 0)).here
    have hbel := sets6_below HB2.out (Nat.le_refl w.heap.size) (.int .i64 0) (.slice none 0 0) (.slice none 0 0) (.int .i64 0) (.slice A' n c') (.slice none 0 0)
    unfold sets6 at hbig hbel
    refine bodyPost_ret (v := .tuple #[.agg #[.int .i64 0, .slice none 0 0, .slice none 0 0, .int .i64 0, .slice A' n c', .slice none 0 0], .bool true]) (by simp [results, Tryz.results122, go_sem, z0, z1, z2, z3, z4, z5]) rfl ⟨_, rfl, by rw [HR.out]; exact hbig, hbel⟩

end Go.Proofs.YtfjgapkjpmkplaaGreat.nw
