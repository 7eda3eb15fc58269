/- impl.treeOf, impl.IsFormula. -/
import Derived.Test.YtlpgldejmdiceabDoorFrt
import Derived.Test.YtlpgldejmdiceabDoorFoe
namespace Go.Proofs.YtlpgldejmdiceabDoor.frm
open kit bg opn strs only hb sg sig isig un over hi fox foh fhd foe frt
open Go.RowKit
set_option linter.unusedVariables false
set_option linter.unusedSimpArgs false
/-- what readTree says: some four cells, a slice and a mark -/
theorem readP_any {o : Option (List Int)} {B : Nat} {w w' : World} {e : Ending} (h : ReadP o B w e w') : Below w.heap.size w w' ∧ ∃ A1 m1 k1 s p A4 m4 k4 A5 n5 c5 b5,
    e = .returned (.tuple #[.agg #[.slice A1 m1 k1, .string s, .int .i64 p, .slice A4 m4 k4], .slice A5 n5 c5, .bool b5]) ∧ (b5 && decide (n5 = 0)) = decide (o = some []) := by
  obtain ⟨hb, tv, ⟨A1, m1, k1, s, p, A4, m4, k4, rfl⟩, hm⟩ := h
  refine ⟨hb, A1, m1, k1, s, p, A4, m4, k4, ?_⟩
  cases o with
  | none => exact ⟨none, 0, 0, false, hm, by simp⟩
  | some r =>
    obtain ⟨A, c, he, _⟩ := hm
    refine ⟨A, r.length, c, true, he, ?_⟩
    cases r <;> simp
abbrev Z4 : Obj := .cells #[.slice none 0 0, .string ⟨#[]⟩, .int .i64 0, .slice none 0 0] 58
set_option maxRecDepth 20000 in
set_option maxHeartbeats 6400000 in
theorem tree_any (A : Option Addr) (nf cf : Nat) (f : List Int) (B : Nat) (w : World) (h : IntsAt w B A nf f) (hB : B ≤ w.heap.size) (hc : nf ≤ cf) (hcf : cf ≤ 1048576) :
    Calls Tryd.prog 43 #[.slice A nf cf] w fun e w' => Below w.heap.size w w' ∧ ∃ A1 m1 k1 s p A4 m4 k4, e = .returned (.tuple #[.agg #[.slice A1 m1 k1, .string s, .int .i64 p, .slice A4 m4 k4], .bool (isF f)]) := by
  have hln := h.len
  have hb1 := (Below.refl w.heap.size w).alloc (Nat.le_refl _) Z4
  have hBt := BoxF.new w #[.slice none 0 0, .string ⟨#[]⟩, .int .i64 0, .slice none 0 0] 58
  obtain ⟨W, hW⟩ : ∃ W, w.alloc (.cells #[.slice none 0 0, .string ⟨#[]⟩, .int .i64 0, .slice none 0 0] 58) = W := ⟨_, rfl⟩
  have hWz : W.heap.size = w.heap.size + 1 := by rw [← hW]; simp
  rw [hW] at hb1 hBt
  have HQ := Lib.hid hW
  have HB := Lib.hid hb1
  have HBt := Lib.hid hBt
  have HF := Lib.hid (h.below (hb1.mono hB))
  have HWz := Lib.hid hWz
  by_cases hn : f.length ≤ 200
  · obtain ⟨ok, hok⟩ : ∃ b, decide (rdF 201 f = some []) = b := ⟨_, rfl⟩
    have HIs := Lib.hid (show isF f = ok by unfold isF; rw [decide_eq_true hn, Bool.true_and, hok])
    have HRd := Lib.hid (fun (Y : World) (g c : Nat) (hY : Below W.heap.size W Y) (hh : HdsAt Y Y.heap.size g) => Calls.mono (read_any 201 g c A nf cf f B Y hh (HF.out.below (hY.mono (by omega))) (Nat.le_trans (by omega) hY.size) hc hcf (by omega)) (fun e w' hr => readP_any hr))
    rw [hok] at HRd
    have hn1 : ¬ (200 : Int) < (nf : Int) := by omega
    clear hb1 hBt hW h hok hn hWz
    go_enter Tryd.func43, Tryd.ntmps43
    go_wp2_with fail
    rw [HQ.out]
    try go_wp2_with fail
    refine (heads_any W).mono ?_
    rintro e w4 ⟨g, c, rfl, hhd, hb4⟩
    have CR := HRd.out w4 g c hb4 hhd
    go_wp2_with fail
    refine CR.mono ?_
    rintro e w5 ⟨hb5, A1, m1, k1, s, p, A4, m4, k4, A5, n5, c5, b5, rfl, hb5ok⟩
    clear CR
    have hb5 := hb4.trans (hb5.mono hb4.size)
    have HB5 := Lib.hid hb5
    have HOk := Lib.hid hb5ok
    have hbx := BoxF.new w5 #[.slice A1 m1 k1, .string s, .int .i64 p, .slice A4 m4 k4] 58
    have hb6 := (Below.refl w5.heap.size w5).alloc (Nat.le_refl _) (.cells #[.slice A1 m1 k1, .string s, .int .i64 p, .slice A4 m4 k4] 58)
    obtain ⟨w6, hw6⟩ : ∃ x, w5.alloc (.cells #[.slice A1 m1 k1, .string s, .int .i64 p, .slice A4 m4 k4] 58) = x := ⟨_, rfl⟩
    rw [hw6] at hbx hb6
    have HW6 := Lib.hid hw6
    have hbt := (HBt.out.on hb5).on hb6
    have x0 := hbx.cell (i := 0) rfl
    have x1 := hbx.cell (i := 1) rfl
    have x2 := hbx.cell (i := 2) rfl
    have x3 := hbx.cell (i := 3) rfl
    have t0 := hbt.cell (i := 0) rfl
    have t1 := hbt.cell (i := 1) rfl
    have t2 := hbt.cell (i := 2) rfl
    have t3 := hbt.cell (i := 3) rfl
    have f0 := World.rowIs.frozen hbt 0
    have f1 := World.rowIs.frozen hbt 1
    have f2 := World.rowIs.frozen hbt 2
    have f3 := World.rowIs.frozen hbt 3
    have h4 := (((hbt.set 0 (.slice A1 m1 k1)).set 1 (.string s)).set 2 (.int .i64 p)).set 3 (.slice A4 m4 k4)
    have u0 := h4.cell (i := 0) rfl
    have u1 := h4.cell (i := 1) rfl
    have u2 := h4.cell (i := 2) rfl
    have u3 := h4.cell (i := 3) rfl
    have hbw := (HB.out.trans (hb5.mono HB.out.size)).trans (hb6.mono (by have := hb5.size; have := HWz.out; omega))
    have HB4 := Lib.hid ((((hbw.setCell (p := ⟨w.heap.size, 0, none⟩) (Nat.le_refl _) (.slice A1 m1 k1)).setCell (p := ⟨w.heap.size, 1, none⟩) (Nat.le_refl _) (.string s)).setCell (p := ⟨w.heap.size, 2, none⟩) (Nat.le_refl _) (.int .i64 p)).setCell (p := ⟨w.heap.size, 3, none⟩) (Nat.le_refl _) (.slice A4 m4 k4))
    clear hhd hb4 hb5 hb5ok hbx hb6 hbt h4 hbw
    cases b5 with
    | true =>
      go_wp2_with fail
      have e1 : isF f = ((n5 : Int) == 0) := by
        rw [HIs.out, ← HOk.out]
        by_cases h : n5 = 0
        · subst h; rfl
        · have h' : ¬ (n5 : Int) = 0 := by omega
          simp [h, h']
      refine bodyPost_ret (v := .tuple #[.agg #[.slice A1 m1 k1, .string s, .int .i64 p, .slice A4 m4 k4], .bool ((n5 : Int) == 0)]) (by simp [results, Tryd.results43, go_sem, u0, u1, u2, u3]) rfl ?_
      exact ⟨HB4.out, _, _, _, _, _, _, _, _, by rw [e1]⟩
    | false =>
      go_wp2_with fail
      have e1 : isF f = false := by rw [HIs.out, ← HOk.out]; rfl
      refine bodyPost_ret (v := .tuple #[.agg #[.slice A1 m1 k1, .string s, .int .i64 p, .slice A4 m4 k4], .bool false]) (by simp [results, Tryd.results43, go_sem, u0, u1, u2, u3]) rfl ?_
      exact ⟨HB4.out, _, _, _, _, _, _, _, _, by rw [e1]⟩
  · have hn1 : (200 : Int) < (nf : Int) := by omega
    have t0 := HBt.out.cell (i := 0) rfl
    have t1 := HBt.out.cell (i := 1) rfl
    have t2 := HBt.out.cell (i := 2) rfl
    have t3 := HBt.out.cell (i := 3) rfl
    have HIs := Lib.hid (isF_long hn)
    clear hb1 hBt hW h hn hWz
    go_enter Tryd.func43, Tryd.ntmps43
    go_wp2_with fail
    rw [HQ.out]
    try go_wp2_with fail
    refine bodyPost_ret (v := .tuple #[.agg #[.slice none 0 0, .string ⟨#[]⟩, .int .i64 0, .slice none 0 0], .bool false]) (by simp [results, Tryd.results43, go_sem, t0, t1, t2, t3]) rfl ?_
    exact ⟨HB.out, _, _, _, _, _, _, _, _, by rw [HIs.out]⟩
set_option maxRecDepth 20000 in
set_option maxHeartbeats 1600000 in
theorem iIsf_any (A : Option Addr) (nf cf : Nat) (f : List Int) (B : Nat) (w : World) (h : IntsAt w B A nf f) (hB : B ≤ w.heap.size) (hc : nf ≤ cf) (hcf : cf ≤ 1048576) :
    Calls Tryd.prog 14 #[.slice A nf cf] w fun e w' => e = .returned (.bool (isF f)) ∧ Below w.heap.size w w' := by
  have C := tree_any A nf cf f B w h hB hc hcf
  clear h
  go_enter Tryd.func14, Tryd.ntmps14
  go_wp2_with fail
  refine C.mono ?_
  rintro e w1 ⟨hb, A1, m1, k1, s, p, A4, m4, k4, rfl⟩
  clear C
  have HB := Lib.hid (hb.alloc hb.size (.cells #[.slice A1 m1 k1, .string s, .int .i64 p, .slice A4 m4 k4] 58))
  clear hb
  go_wp2_with fail
  go_ret
  exact ⟨rfl, HB.out⟩
end Go.Proofs.YtlpgldejmdiceabDoor.frm
