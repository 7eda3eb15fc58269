/- spec.l4Edges, spec.l4Roots: numbers in a row; rows that stay where another row grows. -/
import Derived.Test.YtlpgldejmdiceabGreatQd
namespace Go.Proofs.YtlpgldejmdiceabGreat.ek
open kit bg sg opn strs only hb sig isig un over gn nm inn ht gd im pt marks eqs hc hi hw hn rs br bm bw cf lf ib isa lawb lw cl pl mb sb wb
open Go.RowKit
set_option linter.unusedVariables false
def seqF (z : Int) (n : Nat) : List Int := (List.range n).map (fun (i : Nat) => z + i)
def rtsF (z : Int) (n : Nat) : List Int := (List.range n).map (fun (i : Nat) => -1 - z - i)
theorem seq_snoc (z : Int) (n : Nat) : seqF z (n + 1) = seqF z n ++ [z + n] := by unfold seqF; rw [List.range_succ, List.map_append]; rfl
theorem rts_snoc (z : Int) (n : Nat) : rtsF z (n + 1) = rtsF z n ++ [-1 - z - n] := by unfold rtsF; rw [List.range_succ, List.map_append]; rfl
theorem seq_len (z : Int) (n : Nat) : (seqF z n).length = n := by unfold seqF; simp
theorem rts_len (z : Int) (n : Nat) : (rtsF z n).length = n := by unfold rtsF; simp
theorem seq_get {z : Int} {n i : Nat} (h : i < n) : (seqF z n)[i]? = some (z + i) := by unfold seqF; rw [List.getElem?_map, List.getElem?_range h]; rfl
theorem rts_get {z : Int} {n i : Nat} (h : i < n) : (rtsF z n)[i]? = some (-1 - z - i) := by unfold rtsF; rw [List.getElem?_map, List.getElem?_range h]; rfl
theorem row_grown {w w' : World} {lo hi n c sz base sz2 m : Nat} {t e : TypeId} {A : Option Addr} {M : Nat → Value} {v : Value} {xs : List Value} (h : RowR w lo hi t sz A n c M) (ho : w.ownsRow base e sz2 v m xs) (hg : w.grownBy w' v.ownBlock) (ht : t ≠ e) : RowR w' lo hi t sz A n c M := by
  rcases h with h0 | ⟨g, f, e1, h1, h2, h3, h4, h5⟩
  · exact .inl h0
  · refine .inr ⟨g, f, e1, h1, h2, h3, h4.of_block (hg.block g h4.lt ?_), h5⟩
    intro e2
    obtain ⟨_, ⟨rfl, rfl⟩ | ⟨g', cap, cur, rfl, hb, hh, -⟩⟩ := ho
    · simp [Value.ownBlock] at e2
    · simp [Value.ownBlock] at e2
      subst e2
      obtain ⟨arr, ha, -⟩ := h4
      rw [ha] at hh
      injection hh with hh
      injection hh with _ hh
      exact ht hh
set_option maxHeartbeats 1600000 in
theorem edg_any (z : Int) (n : Nat) (w : World) (hz : -1000 ≤ z ∧ z ≤ 1000) (hn : n ≤ 100) :
    Calls Tryz.prog 76 #[.int .i64 z, .int .i64 (n : Int)] w fun e w' => ∃ v, e = .returned v ∧ w'.ownsRow w.heap.size 3 1 v n ((seqF z n).map (Value.int .i64)) ∧ Below w.heap.size w w' := by
  obtain ⟨i0, hi, hz0, hz1, hz2⟩ := info_parts int_info
  have HI := Lib.hid (And.intro hi (And.intro hz0 (And.intro hz1 hz2)))
  obtain ⟨hzl, hzu⟩ := hz
  clear hi hz0 hz1 hz2
  go_enter Tryz.func76, Tryz.ntmps76
  go_wp2_with fail
  go_loopw [5, 6] (fun v i wr => ∃ k : Nat, k ≤ n ∧ i = .int .i64 k ∧ wr.ownsRow w.heap.size 3 1 v k ((seqF z k).map (Value.int .i64)) ∧ Below w.heap.size w wr) (fun _ i _ => n - (intOf i).toNat)
  case atStart => exact ⟨0, Nat.zero_le _, rfl, by
      have := ownsRow_nil_new w 3 1 w.heap.size (Nat.le_refl _)
      simpa [seqF] using this, (Below.refl _ _).alloc (Nat.le_refl _) _⟩
  case round =>
    obtain ⟨k, hk, rfl, hown, hbel⟩ := hrel
    have hsz := hbel.size
    by_cases hlt : k < n
    · obtain ⟨D, hD⟩ : ∃ D, (seqF z k).map (Value.int .i64) = D := ⟨_, rfl⟩
      have HT := Lib.hid (show (seqF z (k + 1)).map (Value.int .i64) = D ++ [.int .i64 (z + (k : Int))] by rw [seq_snoc, List.map_append, hD]; rfl)
      rw [hD] at hown
      clear hD
      go_wp2_with (at_builtin; refine wpList_append_own _ rfl _ _ 27 rfl w.heap.size 3 i0 (.int .i64 0) 1 8 Tryz.underlying27 HI.out.1 HI.out.2.1 HI.out.2.2.1 HI.out.2.2.2 rfl (by decide) _ _ _ rfl (hown.alloc _) ⟨wr.heap.size, 0, none⟩ 1 1 [.int .i64 (z + (k : Int))] rfl rfl (cell_one_new _ _ _) (fun x hx => by simp at hx; subst hx; rfl) (by unfold maxLen; omega) (by omega) (by simp; omega) ?_; intro v1 w1 hown1 hgrow1 hnil1)
      have hb1 := Lib.hid ((hbel.alloc (by omega) (.cells #[.int .i64 (z + (k : Int))] 3)).grown hgrow1 (by simp; omega) (fun j hj => (hown.lt j hj).1))
      have HOwn := Lib.hid hown1
      clear hown1 hgrow1 hnil1 hown
      go_wp2_with fail
      go_roundw
      case rel => exact ⟨k + 1, by omega, by go_num, by rw [HT.out]; exact HOwn.out, hb1.out⟩
      case measure => simp [intOf]; omega
    · obtain rfl : n = k := by omega
      have HO := Lib.hid hown
      clear hown
      go_wp2_with fail
      go_ret
      exact ⟨_, rfl, HO.out, hbel⟩
set_option maxHeartbeats 1600000 in
theorem rts_any (z : Int) (n : Nat) (w : World) (hz : -1000 ≤ z ∧ z ≤ 1000) (hn : n ≤ 100) :
    Calls Tryz.prog 100 #[.int .i64 z, .int .i64 (n : Int)] w fun e w' => ∃ v, e = .returned v ∧ w'.ownsRow w.heap.size 3 1 v n ((rtsF z n).map (Value.int .i64)) ∧ Below w.heap.size w w' := by
  obtain ⟨i0, hi, hz0, hz1, hz2⟩ := info_parts int_info
  have HI := Lib.hid (And.intro hi (And.intro hz0 (And.intro hz1 hz2)))
  obtain ⟨hzl, hzu⟩ := hz
  clear hi hz0 hz1 hz2
  go_enter Tryz.func100, Tryz.ntmps100
  go_wp2_with fail
  go_loopw [5, 6] (fun v i wr => ∃ k : Nat, k ≤ n ∧ i = .int .i64 k ∧ wr.ownsRow w.heap.size 3 1 v k ((rtsF z k).map (Value.int .i64)) ∧ Below w.heap.size w wr) (fun _ i _ => n - (intOf i).toNat)
  case atStart => exact ⟨0, Nat.zero_le _, rfl, by
      have := ownsRow_nil_new w 3 1 w.heap.size (Nat.le_refl _)
      simpa [rtsF] using this, (Below.refl _ _).alloc (Nat.le_refl _) _⟩
  case round =>
    obtain ⟨k, hk, rfl, hown, hbel⟩ := hrel
    have hsz := hbel.size
    by_cases hlt : k < n
    · obtain ⟨D, hD⟩ : ∃ D, (rtsF z k).map (Value.int .i64) = D := ⟨_, rfl⟩
      have HT := Lib.hid (show (rtsF z (k + 1)).map (Value.int .i64) = D ++ [.int .i64 (-1 - z - (k : Int))] by rw [rts_snoc, List.map_append, hD]; rfl)
      rw [hD] at hown
      clear hD
      go_wp2_with (at_builtin; refine wpList_append_own _ rfl _ _ 27 rfl w.heap.size 3 i0 (.int .i64 0) 1 8 Tryz.underlying27 HI.out.1 HI.out.2.1 HI.out.2.2.1 HI.out.2.2.2 rfl (by decide) _ _ _ rfl (hown.alloc _) ⟨wr.heap.size, 0, none⟩ 1 1 [.int .i64 (-1 - z - (k : Int))] rfl rfl (cell_one_new _ _ _) (fun x hx => by simp at hx; subst hx; rfl) (by unfold maxLen; omega) (by omega) (by simp; omega) ?_; intro v1 w1 hown1 hgrow1 hnil1)
      have hb1 := Lib.hid ((hbel.alloc (by omega) (.cells #[.int .i64 (-1 - z - (k : Int))] 3)).grown hgrow1 (by simp; omega) (fun j hj => (hown.lt j hj).1))
      have HOwn := Lib.hid hown1
      clear hown1 hgrow1 hnil1 hown
      go_wp2_with fail
      go_roundw
      case rel => exact ⟨k + 1, by omega, by go_num, by rw [HT.out]; exact HOwn.out, hb1.out⟩
      case measure => simp [intOf]; omega
    · obtain rfl : n = k := by omega
      have HO := Lib.hid hown
      clear hown
      go_wp2_with fail
      go_ret
      exact ⟨_, rfl, HO.out, hbel⟩
end Go.Proofs.YtlpgldejmdiceabGreat.ek
