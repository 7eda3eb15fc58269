/- SwapOf of impl: the whole. -/
import Derived.Test.YtifialdkjnmfoaaSwiA
import Derived.Test.YtifialdkjnmfoaaSwiB
import Derived.Test.YtifialdkjnmfoaaSwiC
import Derived.Test.YtifialdkjnmfoaaSwiD
namespace Go.Proofs.Ytifialdkjnmfoaa.swi
open kit bg sg opn strs only hb sig inn ht marks eqs hc hi hw hn rs br bm bw cf lawb lw cl pl mb pm has sa pn cz sw
open Go.RowKit
set_option linter.unusedVariables false

set_option maxRecDepth 20000 in
set_option maxHeartbeats 12800000 in
theorem iSwp_any (x y : Int) (w : World) (hwf : (Lit.int .i64 x).wf = true) (hwf2 : (Lit.int .i64 y).wf = true) :
    Calls Try.prog 48 #[.int .i64 x, .int .i64 y] w (BigPost (swpB x y) (swpR x y) w) := by
  have hb0 := (Below.refl w.heap.size w).alloc (Nat.le_refl _) (.cells #[.int .i64 0, .slice none 0 0, .slice none 0 0, .int .i64 0, .slice none 0 0, .slice none 0 0] 39)
  have HBx0 : Hid (BoxAt (w.alloc (.cells #[.int .i64 0, .slice none 0 0, .slice none 0 0, .int .i64 0, .slice none 0 0, .slice none 0 0] 39)) w.heap.size 39 (.int .i64 0) (.slice none 0 0) (.slice none 0 0) (.int .i64 0) (.slice none 0 0) (.slice none 0 0)) := Lib.hid (six_new w _ _ _ _ _ _ _)
  obtain ⟨W, hW⟩ : ∃ W, w.alloc (.cells #[.int .i64 0, .slice none 0 0, .slice none 0 0, .int .i64 0, .slice none 0 0, .slice none 0 0] 39) = W := ⟨_, rfl⟩
  have hWz : W.heap.size = w.heap.size + 1 := by rw [← hW]; simp
  rw [hW] at hb0 HBx0
  have HWq := Lib.hid hW
  have HB0 := Lib.hid hb0
  have HWz := Lib.hid hWz
  clear hW hb0 hWz
  cases hq1 : inb x 0 4 with
  | false =>
    have CW := win_any x 0 4 W
    rw [hq1] at CW
    have hq : swpB x y = false := by unfold swpB; rw [hq1]; rfl
    have HR := Lib.hid (swpR_no hq)
    rw [hq]
    clear hq hq1 hwf hwf2
    go_enter Try.func48, Try.ntmps48
    go_wp2_with fail
    rw [HWq.out]
    refine CW.mono ?_
    rintro e w1 ⟨rfl, rfl⟩
    clear CW
    obtain ⟨z0, z1, z2, z3, z4, z5⟩ := HBx0.out.get
    have f0 := World.rowIs.frozen HBx0.out 0
    have f1 := World.rowIs.frozen HBx0.out 1
    have f2 := World.rowIs.frozen HBx0.out 2
    have f3 := World.rowIs.frozen HBx0.out 3
    have f4 := World.rowIs.frozen HBx0.out 4
    have f5 := World.rowIs.frozen HBx0.out 5
    go_wp2_with fail
    refine bodyPost_ret (v := .tuple #[.agg #[.int .i64 0, .slice none 0 0, .slice none 0 0, .int .i64 0, .slice none 0 0, .slice none 0 0], .bool false]) (by simp [results, Try.results48, go_sem, z0, z1, z2, z3, z4, z5]) rfl ⟨_, rfl, by rw [HR.out]; exact BigR.zero, by first | exact HB0.out | exact sets6_below HB0.out (Nat.le_refl _) _ _ _ _ _ _⟩
  | true =>
  have hm := inb_true hq1
  obtain ⟨m, rfl⟩ : ∃ m : Nat, x = m := ⟨x.toNat, by omega⟩
  have hm4 : m ≤ 4 := by omega
  have CW := win_any (m : Int) 0 4 W
  rw [hq1] at CW
  have CW2 := win_any y 0 (4 - (m : Int)) W
  have hw4 : IntKind.i64.wrap (4 - (m : Int)) = 4 - (m : Int) := IntWalk.i64_in _ (by omega)
  cases hq2 : inb y 0 (4 - (m : Int)) with
  | false =>
    rw [hq2] at CW2
    have hq : swpB (m : Int) y = false := by unfold swpB; rw [hq2, hq1]; rfl
    have HR := Lib.hid (swpR_no hq)
    rw [hq]
    clear hq hq1 hq2 hwf hwf2 hm
    go_enter Try.func48, Try.ntmps48
    go_wp2_with fail
    rw [HWq.out]
    refine CW.mono ?_
    rintro e w1 ⟨rfl, rfl⟩
    clear CW
    go_wp2_with fail
    refine CW2.mono ?_
    rintro e w1 ⟨rfl, rfl⟩
    clear CW2
    obtain ⟨z0, z1, z2, z3, z4, z5⟩ := HBx0.out.get
    have f0 := World.rowIs.frozen HBx0.out 0
    have f1 := World.rowIs.frozen HBx0.out 1
    have f2 := World.rowIs.frozen HBx0.out 2
    have f3 := World.rowIs.frozen HBx0.out 3
    have f4 := World.rowIs.frozen HBx0.out 4
    have f5 := World.rowIs.frozen HBx0.out 5
    go_wp2_with fail
    refine bodyPost_ret (v := .tuple #[.agg #[.int .i64 0, .slice none 0 0, .slice none 0 0, .int .i64 0, .slice none 0 0, .slice none 0 0], .bool false]) (by simp [results, Try.results48, go_sem, z0, z1, z2, z3, z4, z5]) rfl ⟨_, rfl, by rw [HR.out]; exact BigR.zero, by first | exact HB0.out | exact sets6_below HB0.out (Nat.le_refl _) _ _ _ _ _ _⟩
  | true =>
  rw [hq2] at CW2
  have hn' := inb_true hq2
  obtain ⟨n, rfl⟩ : ∃ n : Nat, y = n := ⟨y.toNat, by omega⟩
  have hmn : m + n ≤ 4 := by omega
  have hq : swpB (m : Int) (n : Int) = true := by unfold swpB; rw [hq2, hq1]; rfl
  have hR := swpR_yes hq
  rw [hq]
  have hwmn : IntKind.i64.wrap ((m : Int) + (n : Int)) = (m : Int) + (n : Int) := IntWalk.i64_in _ (by omega)
  clear hq hq1 hq2 hwf hwf2 hm hn'
  by_cases hm0 : m = 0
  · subst hm0
    by_cases hn0 : n = 0
    · subst hn0
      exact iSwp_00 (by omega) _ w hR.symm
    · exact iSwp_0n n (by omega) (by omega) _ w (by rw [hR]; rw [Nat.zero_add])
  · by_cases hn0 : n = 0
    · subst hn0
      exact iSwp_m0 m (by omega) (by omega) _ w hR.symm
    · exact iSwp_mn m n (by omega) (by omega) hmn _ w hR.symm
end Go.Proofs.Ytifialdkjnmfoaa.swi
