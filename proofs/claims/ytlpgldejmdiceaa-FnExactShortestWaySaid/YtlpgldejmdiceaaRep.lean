/- slices.Repeat of one number. -/
import Derived.Test.YtlpgldejmdiceaaSyl
import Derived.Shelf.Bits.Mul64
import Derived.Laws.CopyOwn
import Derived.StillTailTactics
namespace Go.Proofs.Ytlpgldejmdiceaa.rep
open kit bg sg opn strs only hb sig isig un over gn nm inn ht gd im pt marks eqs hc hi hw hn rs br bm bw cf lf ib isa lawb lw cl bgs cz syx sya syh syi syc syg syl
open Go.RowKit Go.Lib
set_option linter.unusedVariables false
set_option linter.unusedSimpArgs false

set_option maxHeartbeats 1600000 in
theorem mul64_any (y : Nat) (hy : y ≤ 1048576) (w : World) :
    Calls Try.prog 144 #[.int .u64 1, .int .u64 (y : Int)] w fun e w' => e = .returned (.tuple #[.int .u64 0, .int .u64 (y : Int)]) ∧ w = w' := by
  have hm1 : bits .and .u64 (1 : Int) 4294967295 = 1 := by
    have := Mul64.maskN 1 (by omega)
    simpa using this
  have hmy : bits .and .u64 (y : Int) 4294967295 = (y : Int) := by
    rw [Mul64.maskN y (by omega), Nat.mod_eq_of_lt (by omega)]
  have hm0 : bits .and .u64 (0 : Int) 4294967295 = 0 := by
    have := Mul64.maskN 0 (by omega)
    simpa using this
  have hd : (y : Int) / 4294967296 = 0 := by omega
  have hd1 : (1 : Int) / 4294967296 = 0 := by omega
  have hwy : IntKind.u64.wrap (y : Int) = (y : Int) := Mul64.wrapN y (by omega)
  have hw0 : IntKind.u64.wrap 0 = 0 := by rw [IntKind.wrap_u64]; omega
  go_enter Try.func144, Try.ntmps144
  go_wp2_with fail
  refine bodyPost_ret (results_tmp2 rfl _ _ _) rfl ?_
  exact ⟨by simp [hm1, hmy, hm0, hd, hd1, hwy, hw0], rfl⟩
theorem mul_any (y : Nat) (hy : y ≤ 1048576) (w : World) :
    Calls Try.prog 122 #[.int .u64 1, .int .u64 (y : Int)] w fun e w' => e = .returned (.tuple #[.int .u64 0, .int .u64 (y : Int)]) ∧ w = w' := by
  go_enter Try.func122, Try.ntmps122
  go_wp2_with fail
  refine (mul64_any y hy _).mono ?_
  rintro e w1 ⟨rfl, rfl⟩
  go_wp2_with fail
  refine bodyPost_ret (results_tmp2 rfl _ _ _) rfl ?_
  exact ⟨rfl, rfl⟩

theorem addr_add (g o j : Nat) : (⟨g, o, none⟩ : Addr).add j = ⟨g, o + j, none⟩ := by simp [Addr.add]
theorem row_list {w : World} {g : Nat} {t : TypeId} {l : List Value} (h : w.heap[g]? = some (.cells l.toArray t (0, 0))) : w.rowIs g t l.length (fun i => (l[i]?).getD undef) :=
  ⟨l.toArray, h, by simp, fun i hi => by
    show l.toArray[i]? = some ((l[i]?).getD undef)
    simp [hi]⟩
def repL (z : Int) (n k : Nat) : List Value := List.replicate k (.int .i64 z) ++ List.replicate (n - k) (.int .i64 0)
theorem repL_len (z : Int) {n k : Nat} (h : k ≤ n) : (repL z n k).length = n := by unfold repL; simp; omega
theorem repL_at {z : Int} {n k j : Nat} (h : j < k) : (repL z n k)[j]? = some (.int .i64 z) := by
  unfold repL
  rw [List.getElem?_append_left (by simpa using h), List.getElem?_replicate, if_pos h]
theorem rep_splice {z : Int} {n k m : Nat} (h : k + m ≤ n) : splice (repL z n k) k (List.replicate m (.int .i64 z)) = repL z n (k + m) := by
  unfold splice repL
  rw [List.take_left' (by simp), List.drop_append, List.drop_eq_nil_of_le (by simp), List.nil_append, List.drop_replicate, ← List.append_assoc, List.replicate_append_replicate, List.length_replicate, List.length_replicate]
  congr 2
  omega
theorem rep_first {z : Int} {n : Nat} (h : 1 ≤ n) : splice (List.replicate n (Value.int .i64 0)) 0 [Value.int .i64 z] = repL z n 1 := by
  unfold splice repL
  simp

set_option maxRecDepth 20000 in
set_option maxHeartbeats 3200000 in
theorem rep_any (b c n : Nat) (z : Int) (w : World) (hz : w.cell? ⟨b, 0, none⟩ = some (.int .i64 z)) (hbl : b < w.heap.size) (h1 : 1 ≤ n) (hn : n ≤ 1048576) :
    Calls Try.prog 83 #[.slice (some ⟨b, 0, none⟩) 1 c, .int .i64 (n : Int)] w fun e w' => e = .returned (.slice (some ⟨w.heap.size, 0, none⟩) n n) ∧ w'.rowIs w.heap.size 3 n (fun _ => .int .i64 z) ∧ Below w.heap.size w w' := by
  have hmk := fun W => run_make_row' (P := Try.prog) 38 3 (.int .i64 0) 8 Try.underlying38 int_info rfl .i64 .i64 n (by omega) (by omega) W
  have hneg : ¬ ((n : Int) < 0) := by omega
  have hwn : IntKind.u64.wrap (n : Int) = (n : Int) := Mul64.wrapN n (by omega)
  have hw1 : IntKind.u64.wrap (1 : Int) = 1 := by rw [IntKind.wrap_u64]; omega
  have hwi : IntKind.i64.wrap (n : Int) = (n : Int) := IntWalk.i64_in _ (by omega)
  have hbig : ¬ ((9223372036854775807 : Int) < (n : Int)) := by omega
  have hZ := toList_madeCells_one (.int .i64 0) n
  have HSz : Hid ((Try.prog.info? 3).map (·.size) = some 1) := Lib.hid (by
    obtain ⟨i0, hi, hz0, hz1, hz2⟩ := info_parts int_info
    rw [hi]; exact congrArg some hz1)
  have HG0 : Hid ((w.alloc (.cells (madeCells #[.int .i64 0] n) 3)).heap[w.heap.size]? = some (.cells (List.replicate n (Value.int .i64 0)).toArray 3 (0, 0))) := Lib.hid (by rw [← hZ]; exact Go.Deep.blk_alloc_new _ _)
  have hbA := (Below.refl w.heap.size w).alloc (Nat.le_refl _) (.cells (madeCells #[.int .i64 0] n) 3)
  have HbA := Lib.hid hbA
  have HZc : Hid (∀ (j : Nat) v, [Value.int .i64 z][j]? = some v → (w.alloc (.cells (madeCells #[.int .i64 0] n) 3)).cell? ((⟨b, 0, none⟩ : Addr).add j) = some v) := Lib.hid (fun j v hv => by
    match j, hv with
    | 0, hv =>
      injection hv with hv
      subst hv
      rw [addr_add]
      exact (hbA.cell (p := ⟨b, 0, none⟩) hbl).trans hz)
  have HF1 : Hid (0 + [Value.int .i64 z].length ≤ (List.replicate n (Value.int .i64 0)).length) := Lib.hid (by simp; omega)
  have HN1 : Hid ([Value.int .i64 z].length = Nat.min 1 n) := Lib.hid (by rw [show Nat.min 1 n = 1 from Nat.min_eq_left h1]; rfl)
  have HO1 : Hid (∀ v ∈ [Value.int .i64 z], v.oneCell' = true) := Lib.hid (fun v hv => by rw [List.mem_singleton.1 hv]; rfl)
  have HFi := Lib.hid (rep_first (z := z) h1)
  clear hZ hbA
  go_enter Try.func83, Try.ntmps83
  go_wp2_with fail
  refine (mul_any n hn w).mono ?_
  rintro e w1 ⟨rfl, rfl⟩
  go_wp2_with (with_reducible show wpList _ _ _ _ _ _; (refine wpList_copy_splice (o := ⟨some 33, _, _, _, _, _⟩) rfl (.tmp 31) (.tmp 32) 38 38 rfl 3 Try.underlying38 HSz.out _ _ _ _ _ _ rfl rfl w.heap.size 0 _ 3 HG0.out [Value.int .i64 z] HN1.out (fun _ => ⟨rfl, _, rfl, HZc.out⟩) HF1.out HO1.out w.heap.size w HbA.out (Nat.le_refl _) ?_; intro w2 HG1 hb2; have Hb2 := Lib.hid hb2; clear hb2))
  have HG2 : Hid (w2.heap[w.heap.size]? = some (.cells (repL z n 1).toArray 3 (0, 0))) := Lib.hid (by rw [← HFi.out]; exact HG1.out)
  clear hmk
  go_loopw [8] (fun k wr => ∃ kk : Nat, 1 ≤ kk ∧ kk ≤ n ∧ k = .int .i64 kk ∧ Hid (wr.heap[w.heap.size]? = some (.cells (repL z n kk).toArray 3 (0, 0))) ∧ Below w.heap.size w wr) (fun k _ => n - (intOf k).toNat)
  case atStart => exact ⟨1, Nat.le_refl _, h1, rfl, HG2, Hb2.out⟩
  case round =>
    obtain ⟨k, hk1, hk, rfl, hG, hbel⟩ := hrel
    by_cases hlt : k < n
    · obtain ⟨m, hm⟩ : ∃ m, Nat.min k (n - k) = m := ⟨_, rfl⟩
      have hm1 : 1 ≤ m := by rw [← hm]; show 1 ≤ min k (n - k); omega
      have hm2 : k + m ≤ n := by rw [← hm]; show k + min k (n - k) ≤ n; omega
      have hmk2 : m ≤ k := by rw [← hm]; show min k (n - k) ≤ k; omega
      have HN : Hid ((List.replicate m (Value.int .i64 z)).length = Nat.min k (n - k)) := Lib.hid (by rw [hm]; simp)
      have HF : Hid (k + (List.replicate m (Value.int .i64 z)).length ≤ (repL z n k).length) := Lib.hid (by rw [repL_len z hk]; simpa using hm2)
      have HO : Hid (∀ v ∈ List.replicate m (Value.int .i64 z), v.oneCell' = true) := Lib.hid (fun v hv => by rw [List.eq_of_mem_replicate hv]; rfl)
      have HBel := Lib.hid hbel.drew
      have HGd : Hid (wr.drew.heap[w.heap.size]? = some (.cells (repL z n k).toArray 3 (0, 0))) := Lib.hid hG.out
      have HSrc : Hid (∀ (j : Nat) v, (List.replicate m (Value.int .i64 z))[j]? = some v → wr.drew.cell? ((⟨w.heap.size, 0, none⟩ : Addr).add j) = some v) := Lib.hid (fun j v hv => by
        have hj : j < m := by have := (List.getElem?_eq_some_iff.1 hv).1; simpa using this
        rw [List.getElem?_replicate, if_pos hj] at hv
        injection hv with hv
        subst hv
        rw [addr_add, Nat.zero_add]
        have hr := row_list HGd.out
        rw [hr.cell (by rw [repL_len z hk]; omega), repL_at (by omega)]
        rfl)
      have HSp := Lib.hid (rep_splice (z := z) hm2)
      have HLm : Hid (((List.replicate m (Value.int .i64 z)).length : Int) = (m : Int)) := Lib.hid (by simp)
      have hwk : IntKind.i64.wrap ((k : Int) + (m : Int)) = ((k + m : Nat) : Int) := by rw [IntWalk.i64_in _ (by omega)]; omega
      clear hm hG hbel
      go_wp2_with fail
      go_region_law (refine step_copy_splice (o := ⟨some 45, _, _, _, _, _⟩) rfl (.tmp 41) (.tmp 44) 38 38 rfl 3 Try.underlying38 HSz.out _ _ _ _ _ _ (by first | rfl | simp [Act.eval, Act.put]) (by first | rfl | simp [Act.eval, Act.put]) w.heap.size k (repL z n k) 3 HGd.out (List.replicate m (Value.int .i64 z)) HN.out (fun _ => ⟨by rw [if_neg (by omega)], _, rfl, HSrc.out⟩) HF.out HO.out w.heap.size w HBel.out (Nat.le_refl _) ?_; intro w3 HG3 hb3; have HB3 := Lib.hid hb3; clear hb3)
      rw [HSp.out] at HG3
      try simp only [Act.put, Array.set!_eq_setIfInBounds, List.setIfInBounds_toArray]
      go_wp2_with fail
      go_roundw
      case rel => exact ⟨k + m, by omega, by omega, by go_num, HG3, HB3.out⟩
      case measure => simp [intOf]; omega
    · obtain rfl : k = n := by omega
      have HR : Hid (wr.rowIs w.heap.size 3 k (fun _ => .int .i64 z)) := Lib.hid (by
        have hr := row_list hG.out
        rw [repL_len z (Nat.le_refl _)] at hr
        exact hr.congr (fun i hi => by rw [repL_at hi]; rfl))
      clear hG
      go_wp2_with fail
      go_ret
      exact ⟨rfl, HR.out, hbel⟩
end Go.Proofs.Ytlpgldejmdiceaa.rep
