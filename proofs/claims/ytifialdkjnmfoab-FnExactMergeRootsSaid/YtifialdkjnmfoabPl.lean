/- Placings: impl.placingOf. -/
import Derived.Test.YtifialdkjnmfoabLw
import Derived.Test.YtifialdkjnmfoabCl
namespace Go.Proofs.Ytifialdkjnmfoab.pl
open kit bg opn strs only hb sig inn ht marks eqs hc hi hw hn rs br bm bw cf lawb lw cl
open Go.RowKit
set_option linter.unusedVariables false

/-- a Bigraph of roots and sites alone -/
def placing (R : Int) (zs : List Int) : Big := ⟨R, [], zs, 0, [], []⟩
theorem placing_len {R : Int} {zs : List Int} (h : zs.length ≤ 8) : bigMk (placing R zs) ≤ 1048576 := by
  unfold placing bigMk ndMk
  simp [sumBy]
  omega
/-- a Bigraph of roots and sites, its sites in a row -/
theorem placing_big {w : World} {lo hi c : Nat} {A : Option Addr} {R : Int} {zs : List Int} (h : RowR w lo hi 3 1 A zs.length c (iat zs)) : BigR w lo hi (.agg #[.int .i64 R, .slice none 0 0, .slice A zs.length c, .int .i64 0, .slice none 0 0, .slice none 0 0]) (placing R zs) :=
  ⟨⟨none, 0, A, c, none, 0, none, 0, fun _ => none, fun _ => 0⟩, rfl, fun k hk => absurd hk (Nat.not_lt_zero k), ⟨RowR.nil, fun k hk => absurd hk (Nat.not_lt_zero k)⟩, h, RowR.nil, RowR.nil⟩

theorem por_any (z : Int) (w : World) (h : -9 ≤ z ∧ z ≤ 9) : Calls Try.prog 70 #[.int .i64 z] w fun e w' => e = .returned (.int .i64 (-1 - z)) ∧ w = w' := by
  obtain ⟨h1, h2⟩ := h
  go_enter Try.func70, Try.ntmps70
  go_wp2_with fail
  go_ret
  exact ⟨rfl, rfl⟩

end Go.Proofs.Ytifialdkjnmfoab.pl
