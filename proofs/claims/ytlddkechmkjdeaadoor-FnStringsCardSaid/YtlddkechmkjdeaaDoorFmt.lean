/- FormatInt of both programs: the decimal text of every number from -999999 to 999999, and nothing for all others. -/
import Derived.Test.YtlddkechmkjdeaaDoorNum
import Derived.Test.YtlddkechmkjdeaaDoorShelf
import Derived.Test.YtlddkechmkjdeaaDoorRows
import Derived.Lib.LaidTab
import Derived.Stop.LaidErr
import Derived.WalkSmall
namespace Go.Proofs.YtlddkechmkjdeaaDoor.fmts
open kit num
open Go.RowKit

/-- the table of the powers of ten, as the translation's library holds it -/
def Pow (w : World) : Prop := Lib.TabIs Tryd.prog w "internal/strconv.uint64pow10" .u64 Lib.pow10Tab
theorem gPow : Tryd.prog.globalNamed "internal/strconv.uint64pow10" = some 3 := by kernel_rfl
theorem gPowT : (Tryd.prog.globals[3]?).map (·.type) = some 80 := by kernel_rfl
theorem cPow : Tryd.prog.cellsOf 80 = 20 := by kernel_rfl
theorem cU64 : Tryd.prog.cellsOf 35 = 1 := by kernel_rfl
theorem pow_of {W : World} {rest : List (String × DataW Unit)} (h : laidMet Tryd.prog (("internal/strconv.uint64pow10", Rows.laid_internal_strconv_uint64pow10) :: rest) W) : Pow W :=
  Lib.tabIs_of_head (rest := rest) gPow gPowT Tryd.underlying80 Tryd.underlying35 cU64 cPow h
theorem Pow.below {w w' : World} (h : Pow w) (hb : Below w.heap.size w w') (hs : 3 < w.heap.size) : Pow w' := var?_below hb gPow hs h

/-- what FormatInt comes to -/
def fmtV (n : Int) : Array Value := if -999999 ≤ n ∧ n ≤ 999999 then #[.string ⟨(Lib.itoa n).toArray⟩, .bool true] else #[.string ⟨#[]⟩, .bool false]

theorem below_grow (w : World) (k : Nat) (os : Array Obj) : Below w.heap.size w (Sort.grow (w.drewN k) os) :=
  ⟨rfl, rfl, rfl, by simp [Sort.grow, World.drewN], fun i hi => by
    simp [Sort.grow, Array.getElem?_append, hi]⟩

set_option maxHeartbeats 400000 in
theorem in_any (x a b : Int) (w : World) : Calls Tryd.prog 24 #[.int .i64 x, .int .i64 a, .int .i64 b] w fun e w' => e = .returned (.bool (decide (a ≤ x ∧ x ≤ b))) ∧ w = w' := by
  by_cases h1 : a ≤ x
  · by_cases h2 : x ≤ b
    · rw [decide_eq_true (And.intro h1 h2)]
      go_enter Tryd.func24, Tryd.ntmps24
      go_wp2_with fail
      go_ret
      exact ⟨rfl, rfl⟩
    · rw [decide_eq_false (fun hh => h2 hh.2)]
      have h2' : b < x := by omega
      go_enter Tryd.func24, Tryd.ntmps24
      go_wp2_with fail
      go_ret
      exact ⟨rfl, rfl⟩
  · rw [decide_eq_false (fun hh => h1 hh.1)]
    have h1' : x < a := by omega
    go_enter Tryd.func24, Tryd.ntmps24
    go_wp2_with fail
    go_ret
    exact ⟨rfl, rfl⟩

set_option maxHeartbeats 400000 in
theorem specFmt_any (n : Int) (w : World) : Calls Tryd.prog 11 #[.int .i64 n] w fun e w' => e = .returned (.tuple (fmtV n)) ∧ Dr w w' := by
  by_cases h : -999999 ≤ n ∧ n ≤ 999999
  · rw [fmtV, if_pos h]
    go_enter Tryd.func11, Tryd.ntmps11
    go_wp2_with fail
    refine (in_any _ _ _ _).mono ?_
    rw [decide_eq_true h]
    rintro e w' ⟨rfl, rfl⟩
    go_wp2_with fail
    refine (num_any _ _ (by omega) (by omega)).mono ?_
    rintro e w' ⟨rfl, hd⟩
    go_wp2_with fail
    go_ret2
    exact ⟨rfl, hd⟩
  · rw [fmtV, if_neg h]
    go_enter Tryd.func11, Tryd.ntmps11
    go_wp2_with fail
    refine (in_any _ _ _ _).mono ?_
    rw [decide_eq_false h]
    rintro e w' ⟨rfl, rfl⟩
    go_wp2_with fail
    go_ret2
    exact ⟨rfl, Dr.refl _⟩

set_option maxHeartbeats 400000 in
theorem implFmt_any (n : Int) (w : World) (hp : Pow w) : Calls Tryd.prog 10 #[.int .i64 n] w fun e w' => e = .returned (.tuple (fmtV n)) ∧ Below w.heap.size w w' := by
  by_cases h : -999999 ≤ n ∧ n ≤ 999999
  · rw [fmtV, if_pos h]
    obtain ⟨h1, h2⟩ := h
    go_enter Tryd.func10, Tryd.ntmps10
    go_wp2_with fail
    refine (Tryd.strconv_Itoa n (by omega) (by omega) _ hp).mono ?_
    rintro e w' ⟨rfl, k, os, rfl⟩
    go_wp2_with fail
    go_ret2
    exact ⟨rfl, below_grow _ _ _⟩
  · rw [fmtV, if_neg h]
    by_cases h1 : n < -999999
    · go_enter Tryd.func10, Tryd.ntmps10
      go_wp2_with fail
      go_ret2
      exact ⟨rfl, Below.refl _ _⟩
    · have h2 : 999999 < n := by omega
      go_enter Tryd.func10, Tryd.ntmps10
      go_wp2_with fail
      go_ret2
      exact ⟨rfl, Below.refl _ _⟩
end Go.Proofs.YtlddkechmkjdeaaDoor.fmts
