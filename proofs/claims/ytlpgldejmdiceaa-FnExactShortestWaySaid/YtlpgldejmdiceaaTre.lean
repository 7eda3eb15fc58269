/- Equality of arrays of three numbers. -/
import Derived.Test.YtlpgldejmdiceaaSyh
namespace Go.Proofs.Ytlpgldejmdiceaa.tre
open kit bg sya syx
open Go.RowKit
set_option linter.unusedSimpArgs false
theorem eq3_run (d : Nat) (a0 a1 a2 b0 b1 b2 : Int) (w : World) :
    (Op.equalIn (d + 2) 76 (.agg #[.int .i64 a0, .int .i64 a1, .int .i64 a2]) (.agg #[.int .i64 b0, .int .i64 b1, .int .i64 b2])).run Try.prog w = .ok (a0 == b0 && (a1 == b1 && a2 == b2)) w := by
  have h3 : Try.prog.underlying 76 = some (.array 3 3) := Try.underlying76
  have hI : Try.prog.underlying 3 = some (.int .i64) := Try.underlying3
  rw [Op.equalIn]
  simp [Sem.run_bind, run_underlying h3]
  have hr : List.range' 0 3 = [0, 1, 2] := rfl
  rw [hr]
  simp only [List.forIn_cons, List.forIn_nil, part, isAgg, Sem.run_bind, run_underlying hI, Result.andThen_ok, Sem.run_pure, run_equalIn_int w d 3 .i64 .i64 _ _ hI]
  by_cases h0 : a0 = b0
  · by_cases h1 : a1 = b1
    · by_cases h2 : a2 = b2
      · simp [h0, h1, h2, run_underlying hI, run_equalIn_int w d 3 .i64 .i64 _ _ hI]
      · simp [h0, h1, h2, run_underlying hI, run_equalIn_int w d 3 .i64 .i64 _ _ hI]
    · simp [h0, h1, run_underlying hI, run_equalIn_int w d 3 .i64 .i64 _ _ hI]
  · simp [h0, run_underlying hI, run_equalIn_int w d 3 .i64 .i64 _ _ hI]
theorem eq3_any (a0 a1 a2 b0 b1 b2 : Int) (v : Bool) (h : (a0 == b0 && (a1 == b1 && a2 == b2)) = v) : ∀ w : World, (Op.equalIn 10000 76 (.agg #[.int .i64 a0, .int .i64 a1, .int .i64 a2]) (.agg #[.int .i64 b0, .int .i64 b1, .int .i64 b2])).run Try.prog w = .ok v w := fun w => h ▸ eq3_run 9998 a0 a1 a2 b0 b1 b2 w
end Go.Proofs.Ytlpgldejmdiceaa.tre
