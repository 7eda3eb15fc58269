/- Lists of names: impl.isFace, spec.l3Names; NewNames of spec and impl. -/
import Derived.Test.YtemahmnchcnfeabWb
namespace Go.Proofs.Ytemahmnchcnfeab.nw
open kit bg sg opn strs only hb sig isig un over gn nm inn ht gd im pt marks eqs hc hi hw hn rs br bm bw cf lf ib lawb lw cl pl mb wb
open Go.RowKit
set_option linter.unusedVariables false

/-- whether a list is of names, and not too long -/
noncomputable def faceB (ss : List ByteArray) (M : Int) : Bool := namesB ss && decide ((ss.length : Int) ≤ M)
theorem face_le {ss : List ByteArray} {M : Int} (h : faceB ss M = true) : (ss.length : Int) ≤ M := by
  unfold faceB at h
  simp only [Bool.and_eq_true, decide_eq_true_eq] at h
  exact h.2
set_option maxHeartbeats 800000 in
theorem isFace_any (A : Option Addr) (n c : Nat) (ss : List ByteArray) (M : Int) (w : World) (h : SR w w.heap.size A n (ss.map Value.string)) (hn : n ≤ 1048576) (hs : ∀ s ∈ ss, s.size ≤ 1048576) :
    Calls Try.prog 92 #[.slice A n c, .int .i64 M] w fun e w' => e = .returned (.bool (faceB ss M)) ∧ w = w' := by
  have C := areNames_any A n c ss w w.heap.size h hn hs
  have hl := h.strlen
  have hF : faceB ss M = (namesB ss && decide ((n : Int) ≤ M)) := by unfold faceB; rw [hl]
  rw [hF]
  obtain ⟨q, hq⟩ : ∃ q, namesB ss = q := ⟨_, rfl⟩
  rw [hq] at C ⊢
  clear hF hq hl
  by_cases hle : (n : Int) ≤ M
  · go_enter Try.func92, Try.ntmps92
    go_wp2_with fail
    refine C.mono ?_
    rintro e w1 ⟨rfl, rfl⟩
    cases q with
    | false =>
      go_wp2_with fail
      go_ret
      exact ⟨rfl, rfl⟩
    | true =>
      go_wp2_with fail
      go_ret
      exact ⟨by simp [hle], rfl⟩
  · go_enter Try.func92, Try.ntmps92
    go_wp2_with fail
    go_ret
    exact ⟨by simp [hle], rfl⟩
set_option maxHeartbeats 800000 in
theorem l3Names_any (A : Option Addr) (n c : Nat) (ss : List ByteArray) (w : World) (h : SR w w.heap.size A n (ss.map Value.string)) (hn : n ≤ 1048576) (hs : ∀ s ∈ ss, s.size ≤ 1048576) :
    Calls Try.prog 89 #[.slice A n c] w (Post (faceB ss 16) w) := by
  have C := l2Names_any A n c ss w w.heap.size h hn hs
  have hl := h.strlen
  have hF : faceB ss 16 = (namesB ss && decide ((n : Int) ≤ 16)) := by unfold faceB; rw [hl]
  rw [← hF] at C
  obtain ⟨q, hq⟩ : ∃ q, faceB ss 16 = q := ⟨_, rfl⟩
  rw [hq] at C ⊢
  clear hF hq hl
  go_enter Try.func89, Try.ntmps89
  go_wp2_with fail
  refine C.mono ?_
  rintro e w1 ⟨rfl, hb⟩
  go_wp2_with fail
  go_ret
  exact ⟨rfl, hb⟩
noncomputable def nwR (ss : List ByteArray) : Big := if faceB ss 16 = true then wiring 0 ss [] else zeroBig
theorem nwR_no {ss : List ByteArray} (h : faceB ss 16 = false) : nwR ss = zeroBig := by unfold nwR; rw [h]; rfl
theorem nwR_yes {ss : List ByteArray} (h : faceB ss 16 = true) : nwR ss = wiring 0 ss [] := by unfold nwR; rw [if_pos h]
theorem nw_len (ss : List ByteArray) : bigMk (nwR ss) ≤ 1048576 := by
  cases h : faceB ss 16 with
  | false => rw [nwR_no h]; exact zero_len
  | true => rw [nwR_yes h]; exact wiring_len (by have := face_le h; omega) (by simp)

set_option maxRecDepth 20000 in
set_option maxHeartbeats 1600000 in
theorem iNw_any (A : Option Addr) (n c : Nat) (ss : List ByteArray) (w : World) (h : SR w w.heap.size A n (ss.map Value.string)) (hn : n ≤ 1048576) (hs : ∀ s ∈ ss, s.size ≤ 1048576) (hnil : A = none → c = 0) :
    Calls Try.prog 54 #[.slice A n c] w (BigPost (faceB ss 16) (nwR ss) w) := by
  have hb0 := (Below.refl w.heap.size w).alloc (Nat.le_refl _) (.cells #[.int .i64 0, .slice none 0 0, .slice none 0 0, .int .i64 0, .slice none 0 0, .slice none 0 0] 38)
  have HBx0 : Hid (BoxAt (w.alloc (.cells #[.int .i64 0, .slice none 0 0, .slice none 0 0, .int .i64 0, .slice none 0 0, .slice none 0 0] 38)) w.heap.size 38 (.int .i64 0) (.slice none 0 0) (.slice none 0 0) (.int .i64 0) (.slice none 0 0) (.slice none 0 0)) := Lib.hid (six_new w _ _ _ _ _ _ _)
  obtain ⟨W, hW⟩ : ∃ W, w.alloc (.cells #[.int .i64 0, .slice none 0 0, .slice none 0 0, .int .i64 0, .slice none 0 0, .slice none 0 0] 38) = W := ⟨_, rfl⟩
  have hWz : W.heap.size = w.heap.size + 1 := by rw [← hW]; simp
  rw [hW] at hb0 HBx0
  have HWq := Lib.hid hW
  have HB0 := Lib.hid hb0
  have HWz := Lib.hid hWz
  clear hW hb0 hWz
  have hl := h.strlen
  have hW := (h.below HB0.out).wide HB0.out.size
  have CW := isFace_any A n c ss 16 W hW hn hs
  cases hq : faceB ss 16 with
  | false =>
    rw [hq] at CW
    have HR := Lib.hid (nwR_no hq)
    clear hq
    go_enter Try.func54, Try.ntmps54
    go_wp2_with fail
    rw [HWq.out]
    refine CW.mono ?_
    rintro e w1 ⟨rfl, rfl⟩
    clear CW
    obtain ⟨z0, z1, z2, z3, z4, z5⟩ := HBx0.out.get
    have f0 := World.rowIs.frozen HBx0.out 0
    have f1 := World.rowIs.frozen HBx0.out 1
    have f2 := World.rowIs.frozen HBx0.out 2
    have f3 := World.rowIs.frozen HBx0.out 3
    have f4 := World.rowIs.frozen HBx0.out 4
    have f5 := World.rowIs.frozen HBx0.out 5
    go_wp2_with fail
    refine bodyPost_ret (v := .tuple #[.agg #[.int .i64 0, .slice none 0 0, .slice none 0 0, .int .i64 0, .slice none 0 0, .slice none 0 0], .bool false]) (by simp [results, Try.results54, go_sem, z0, z1, z2, z3, z4, z5]) rfl ⟨_, rfl, by rw [HR.out]; exact BigR.zero, sets6_below HB0.out (Nat.le_refl _) _ _ _ _ _ _⟩
  | true =>
    rw [hq] at CW
    have HR := Lib.hid (nwR_yes hq)
    have hle := face_le hq
    clear hq
    have HC := Lib.hid (cloneS_any A n c ss W hW hn hnil)
    clear hs hnil
    go_enter Try.func54, Try.ntmps54
    go_wp2_with fail
    rw [HWq.out]
    refine CW.mono ?_
    rintro e w1 ⟨rfl, rfl⟩
    clear CW
    go_wp2_with fail
    refine HC.out.mono ?_
    rintro e w2 ⟨A', c', rfl, hr, -, hb⟩
    have HB2 := Lib.hid (HB0.out.trans (hb.mono HB0.out.size))
    have HBx2 := Lib.hid (HBx0.out.on hb)
    have HBR := Lib.hid (wiring_big (E := 0) (strs_row hl (hr.wide (lo' := w.heap.size) HB0.out.size (Nat.le_refl _))) (inner := []) (A5 := none) (c5 := 0) RowR.nil)
    rw [hl] at HBR
    clear hr hb
    obtain ⟨z0, z1, z2, z3, z4, z5⟩ := HBx2.out.get
    have f0 := World.rowIs.frozen HBx2.out 0
    have f1 := World.rowIs.frozen HBx2.out 1
    have f2 := World.rowIs.frozen HBx2.out 2
    have f3 := World.rowIs.frozen HBx2.out 3
    have f4 := World.rowIs.frozen HBx2.out 4
    have f5 := World.rowIs.frozen HBx2.out 5
    go_wp2_with fail
    have hbig := (sets6_big HBx2.out HBR.out (.int .i64 0) (.slice none 0 0) (.slice none 0 0) (.int .i64 0) (.slice A' n c') (.slice none 0 0)).here
    have hbel := sets6_below HB2.out (Nat.le_refl w.heap.size) (.int .i64 0) (.slice none 0 0) (.slice none 0 0) (.int .i64 0) (.slice A' n c') (.slice none 0 0)
    unfold sets6 at hbig hbel
    refine bodyPost_ret (v := .tuple #[.agg #[.int .i64 0, .slice none 0 0, .slice none 0 0, .int .i64 0, .slice A' n c', .slice none 0 0], .bool true]) (by simp [results, Try.results54, go_sem, z0, z1, z2, z3, z4, z5]) rfl ⟨_, rfl, by rw [HR.out]; exact hbig, hbel⟩

set_option maxRecDepth 20000 in
set_option maxHeartbeats 1600000 in
theorem sNw_any (A : Option Addr) (n c : Nat) (ss : List ByteArray) (w : World) (h : SR w w.heap.size A n (ss.map Value.string)) (hn : n ≤ 1048576) (hs : ∀ s ∈ ss, s.size ≤ 1048576) (hnil : A = none → c = 0) :
    Calls Try.prog 53 #[.slice A n c] w (BigPost (faceB ss 16) (nwR ss) w) := by
  have hb0 := (Below.refl w.heap.size w).alloc (Nat.le_refl _) (.cells #[.int .i64 0, .slice none 0 0, .slice none 0 0, .int .i64 0, .slice none 0 0, .slice none 0 0] 38)
  have HBx0 : Hid (BoxAt (w.alloc (.cells #[.int .i64 0, .slice none 0 0, .slice none 0 0, .int .i64 0, .slice none 0 0, .slice none 0 0] 38)) w.heap.size 38 (.int .i64 0) (.slice none 0 0) (.slice none 0 0) (.int .i64 0) (.slice none 0 0) (.slice none 0 0)) := Lib.hid (six_new w _ _ _ _ _ _ _)
  obtain ⟨W, hW⟩ : ∃ W, w.alloc (.cells #[.int .i64 0, .slice none 0 0, .slice none 0 0, .int .i64 0, .slice none 0 0, .slice none 0 0] 38) = W := ⟨_, rfl⟩
  have hWz : W.heap.size = w.heap.size + 1 := by rw [← hW]; simp
  rw [hW] at hb0 HBx0
  have HWq := Lib.hid hW
  have HB0 := Lib.hid hb0
  have HWz := Lib.hid hWz
  clear hW hb0 hWz
  have hl := h.strlen
  have hW := (h.below HB0.out).wide HB0.out.size
  have CW := l3Names_any A n c ss W hW hn hs
  cases hq : faceB ss 16 with
  | false =>
    rw [hq] at CW
    have HR := Lib.hid (nwR_no hq)
    clear hq
    go_enter Try.func53, Try.ntmps53
    go_wp2_with fail
    rw [HWq.out]
    refine CW.mono ?_
    rintro e w1 ⟨rfl, hb⟩
    clear CW
    have HBx1 := Lib.hid (HBx0.out.on hb)
    have HB1 := Lib.hid (HB0.out.trans (hb.mono HB0.out.size))
    clear hb
    obtain ⟨z0, z1, z2, z3, z4, z5⟩ := HBx1.out.get
    have f0 := World.rowIs.frozen HBx1.out 0
    have f1 := World.rowIs.frozen HBx1.out 1
    have f2 := World.rowIs.frozen HBx1.out 2
    have f3 := World.rowIs.frozen HBx1.out 3
    have f4 := World.rowIs.frozen HBx1.out 4
    have f5 := World.rowIs.frozen HBx1.out 5
    go_wp2_with fail
    refine bodyPost_ret (v := .tuple #[.agg #[.int .i64 0, .slice none 0 0, .slice none 0 0, .int .i64 0, .slice none 0 0, .slice none 0 0], .bool false]) (by simp [results, Try.results53, go_sem, z0, z1, z2, z3, z4, z5]) rfl ⟨_, rfl, by rw [HR.out]; exact BigR.zero, sets6_below HB1.out (Nat.le_refl _) _ _ _ _ _ _⟩
  | true =>
    rw [hq] at CW
    have HR := Lib.hid (nwR_yes hq)
    have hle := face_le hq
    clear hq
    obtain ⟨i0, hi, hz0, hz1, hz2⟩ := info_parts str_info
    have HI := Lib.hid (And.intro hi (And.intro hz0 (And.intro hz1 hz2)))
    have HZ := Lib.hid (fun e : A = none => And.intro (sr_zero h e) (hnil e))
    have e1 : 0 + n ≤ maxLen := by unfold maxLen; omega
    have e2 : (0 + n) * 16 ≤ 140737488355328 := by omega
    have e5 : ∀ u ∈ ss.map Value.string, u.oneCell' = true := fun u hu => by obtain ⟨s, _, rfl⟩ := List.mem_map.1 hu; rfl
    have e6 : (ss.map Value.string).length = n * 1 := by rw [List.length_map, hl, Nat.mul_one]
    have HH := Lib.hid h
    clear hs hnil h hW hi hz0 hz1 hz2
    go_enter Try.func53, Try.ntmps53
    go_wp2_with fail
    rw [HWq.out]
    refine CW.mono ?_
    rintro e w1 ⟨rfl, hb⟩
    clear CW
    have HBx1 := Lib.hid (HBx0.out.on hb)
    have HB1 := Lib.hid (HB0.out.trans (hb.mono HB0.out.size))
    have hbA := (Below.refl w1.heap.size w1).alloc (Nat.le_refl _) (.cells #[] 9)
    have HBxA := Lib.hid (HBx1.out.on hbA)
    have HBA := Lib.hid (HB1.out.trans (hbA.mono HB1.out.size))
    have HOA := Lib.hid (ownsRow_nil_new w1 9 1 w1.heap.size (Nat.le_refl _))
    have HSrc := Lib.hid (sr_src (HH.out.below HBA.out))
    have e3 : w1.heap.size ≤ (w1.alloc (.cells #[] 9)).heap.size := hbA.size
    have hsB := HB1.out.size
    clear hb hbA
    go_wp2_with (at_builtin; refine wpList_append_src _ rfl _ _ 25 rfl w1.heap.size 9 i0 (.string ⟨#[]⟩) 1 16 Try.underlying25 HI.out.1 HI.out.2.1 HI.out.2.2.1 HI.out.2.2.2 rfl (by decide) _ _ _ rfl HOA.out A n c (ss.map Value.string) rfl HZ.out e6 HSrc.out e5 e1 e2 e3 ?_; intro v1 w3 hown1 hgrow1; have HBx3 := Lib.hid (HBxA.out.kept hgrow1 (fun e => by have := (HOA.out.lt _ e.symm).1; have := World.rowIs.lt HBx1.out; omega)); have HB3 := Lib.hid (HBA.out.grown hgrow1 (Nat.le_trans hsB e3) (fun j hj => by have := (HOA.out.lt j hj).1; omega)); have HOw := Lib.hid hown1; clear hgrow1 hown1; obtain ⟨A', c', hv, hrow⟩ := strs_owned (by have := HOw.out; rw [Nat.zero_add, List.nil_append] at this; exact this); rw [hl] at hv; subst hv; have HRw := Lib.hid hrow; clear hrow; obtain ⟨z0, z1, z2, z3, z4, z5⟩ := HBx3.out.get; have f0 := World.rowIs.frozen HBx3.out 0; have f1 := World.rowIs.frozen HBx3.out 1; have f2 := World.rowIs.frozen HBx3.out 2; have f3 := World.rowIs.frozen HBx3.out 3; have f4 := World.rowIs.frozen HBx3.out 4; have f5 := World.rowIs.frozen HBx3.out 5)
    have HBR := Lib.hid (wiring_big (E := 0) (HRw.out.wide (lo' := w.heap.size) hsB (Nat.le_refl _)) (inner := []) (A5 := none) (c5 := 0) RowR.nil)
    rw [hl] at HBR
    have hbig := (sets6_big HBx3.out HBR.out (.int .i64 0) (.slice none 0 0) (.slice none 0 0) (.int .i64 0) (.slice A' n c') (.slice none 0 0)).here
    have hbel := sets6_below HB3.out (Nat.le_refl w.heap.size) (.int .i64 0) (.slice none 0 0) (.slice none 0 0) (.int .i64 0) (.slice A' n c') (.slice none 0 0)
    unfold sets6 at hbig hbel
    refine bodyPost_ret (v := .tuple #[.agg #[.int .i64 0, .slice none 0 0, .slice none 0 0, .int .i64 0, .slice A' n c', .slice none 0 0], .bool true]) (by simp [results, Try.results53, go_sem, z0, z1, z2, z3, z4, z5]) rfl ⟨_, rfl, by rw [HR.out]; exact hbig, hbel⟩

end Go.Proofs.Ytemahmnchcnfeab.nw
