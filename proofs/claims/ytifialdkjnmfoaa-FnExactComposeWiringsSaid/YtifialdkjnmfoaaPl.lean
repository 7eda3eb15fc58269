/- Placings: impl.placingOf. -/
import Derived.Test.YtifialdkjnmfoaaLw
import Derived.Test.YtifialdkjnmfoaaCl
namespace Go.Proofs.Ytifialdkjnmfoaa.pl
open kit bg opn strs only hb sig inn ht marks eqs hc hi hw hn rs br bm bw cf lawb lw cl
open Go.RowKit
set_option linter.unusedVariables false

/-- a Bigraph of roots and sites alone -/
def placing (R : Int) (zs : List Int) : Big := ⟨R, [], zs, 0, [], []⟩
theorem placing_len {R : Int} {zs : List Int} (h : zs.length ≤ 8) : bigMk (placing R zs) ≤ 1048576 := by
  unfold placing bigMk ndMk
  simp [sumBy]
  omega
/-- a Bigraph of roots and sites, its sites in a row -/
theorem placing_big {w : World} {lo hi c : Nat} {A : Option Addr} {R : Int} {zs : List Int} (h : RowR w lo hi 3 1 A zs.length c (iat zs)) : BigR w lo hi (.agg #[.int .i64 R, .slice none 0 0, .slice A zs.length c, .int .i64 0, .slice none 0 0, .slice none 0 0]) (placing R zs) :=
  ⟨⟨none, 0, A, c, none, 0, none, 0, fun _ => none, fun _ => 0⟩, rfl, fun k hk => absurd hk (Nat.not_lt_zero k), ⟨RowR.nil, fun k hk => absurd hk (Nat.not_lt_zero k)⟩, h, RowR.nil, RowR.nil⟩

theorem por_any (z : Int) (w : World) (h : -9 ≤ z ∧ z ≤ 9) : Calls Try.prog 116 #[.int .i64 z] w fun e w' => e = .returned (.int .i64 (-1 - z)) ∧ w = w' := by
  obtain ⟨h1, h2⟩ := h
  go_enter Try.func116, Try.ntmps116
  go_wp2_with fail
  go_ret
  exact ⟨rfl, rfl⟩

set_option maxRecDepth 20000 in
set_option maxHeartbeats 1600000 in
theorem placing_any (A : Option Addr) (n c : Nat) (zs : List Int) (R : Int) (w : World) (h : IntsAt w w.heap.size A n zs) (hn : n ≤ 8) (hz : ∀ z ∈ zs, -9 ≤ z ∧ z ≤ 9) :
    Calls Try.prog 107 #[.int .i64 R, .slice A n c] w fun e w' => ∃ v, e = .returned v ∧ BigR w' w.heap.size w'.heap.size v (placing R (zs.map fun z => -1 - z)) ∧ Below w.heap.size w w' := by
  have hmk := fun W => run_make_row' (P := Try.prog) 24 3 (.int .i64 0) 8 Try.underlying24 int_info rfl .i64 .i64 n (by omega) (by omega) W
  have HZ := Lib.hid hz
  have HL := Lib.hid h.len
  have hb0 := (Below.refl w.heap.size w).alloc (Nat.le_refl _) (.cells #[.int .i64 0, .slice none 0 0, .slice none 0 0, .int .i64 0, .slice none 0 0, .slice none 0 0] 39)
  have HBx0 : Hid (BoxAt (w.alloc (.cells #[.int .i64 0, .slice none 0 0, .slice none 0 0, .int .i64 0, .slice none 0 0, .slice none 0 0] 39)) w.heap.size 39 (.int .i64 0) (.slice none 0 0) (.slice none 0 0) (.int .i64 0) (.slice none 0 0) (.slice none 0 0)) := Lib.hid (six_new w _ _ _ _ _ _ _)
  obtain ⟨W, hW⟩ : ∃ W, w.alloc (.cells #[.int .i64 0, .slice none 0 0, .slice none 0 0, .int .i64 0, .slice none 0 0, .slice none 0 0] 39) = W := ⟨_, rfl⟩
  have hWz : W.heap.size = w.heap.size + 1 := by rw [← hW]; simp
  rw [hW] at hb0 HBx0
  have HWq := Lib.hid hW
  have HB0 := Lib.hid hb0
  have HWz := Lib.hid hWz
  have hmade := World.rowIs_made W (.int .i64 0) n 3
  rw [hWz] at hmade
  have HMade := Lib.hid hmade
  clear hz hW hb0 hWz hmade
  go_enter Try.func107, Try.ntmps107
  go_wp2_with fail
  rw [HWq.out]
  clear hmk
  go_loopw [13] (fun i wr => ∃ k : Nat, k ≤ n ∧ i = .int .i64 k ∧ wr.rowIs (w.heap.size + 1) 3 n (fun j => if j < k then iat (zs.map fun z => -1 - z) j else .int .i64 0) ∧ Below W.heap.size W wr) (fun i _ => n - (intOf i).toNat)
  case atStart => exact ⟨0, Nat.zero_le _, rfl, (HMade.out).congr (fun _ _ => by simp), (Below.refl _ _).alloc (Nat.le_refl _) _⟩
  case round =>
    obtain ⟨k, hk, rfl, hrow, hbel⟩ := hrel
    have hbw := HB0.out.trans (hbel.mono HB0.out.size)
    by_cases hlt : k < n
    · obtain ⟨b, off, z, rfl, hbb, hx, c0'⟩ := h.get hlt
      have d0 := (hbw.cell (p := ⟨b, off + k, none⟩) hbb).trans c0'
      have hz := HZ.out z (List.mem_of_getElem? hx)
      have HA : Hid (iat (zs.map fun z => -1 - z) k = .int .i64 (-1 - z)) := Lib.hid (iat_of (by rw [List.getElem?_map, hx]; rfl))
      have hcell := hrow.cell hlt
      have hfz := hrow.frozen k
      have HRow := Lib.hid (hrow.set k (.int .i64 (-1 - z)))
      have HB := Lib.hid (hbel.setCell (p := ⟨w.heap.size + 1, k, none⟩) (by rw [HWz.out]; exact Nat.le_refl _) (.int .i64 (-1 - z)))
      clear hx c0' hrow hbel hbw
      obtain ⟨y, hy⟩ : ∃ y, -1 - z = y := ⟨_, rfl⟩
      have CP := fun w2 => hy ▸ por_any z w2 hz
      rw [hy] at HA HRow HB
      clear hy hz
      go_wp2_with fail
      refine (CP _).mono ?_
      rintro e w2 ⟨rfl, rfl⟩
      clear CP
      go_wp2_with fail
      go_roundw
      case rel =>
        refine ⟨k + 1, by omega, by go_num, HRow.out.congr (fun j hj => ?_), HB.out⟩
        show (if j = k then _ else if j < k then _ else _) = if j < k + 1 then _ else _
        by_cases e : j = k
        · subst e; rw [if_pos rfl, if_pos (by omega), HA.out]
        · rw [if_neg e]
          by_cases e2 : j < k
          · rw [if_pos e2, if_pos (by omega)]
          · rw [if_neg e2, if_neg (by omega)]
      case measure => simp [intOf]; omega
    · obtain rfl : k = n := by omega
      have hbx := HBx0.out.on hbel
      obtain ⟨z0, z1, z2, z3, z4, z5⟩ := hbx.get
      have f0 := World.rowIs.frozen hbx 0
      have f1 := World.rowIs.frozen hbx 1
      have f2 := World.rowIs.frozen hbx 2
      have f3 := World.rowIs.frozen hbx 3
      have f4 := World.rowIs.frozen hbx 4
      have f5 := World.rowIs.frozen hbx 5
      have hlen : (zs.map fun z => -1 - z).length = k := by rw [List.length_map]; exact HL.out
      have HR := Lib.hid (show RowR wr w.heap.size wr.heap.size 3 1 (some ⟨w.heap.size + 1, 0, none⟩) k k (iat (zs.map fun z => -1 - z)) from RowR.mk (by omega) hrow.lt (Nat.le_refl _) (by rw [Nat.mul_one]; exact hrow) (fun x hx => if_pos (by omega)))
      have HBx := Lib.hid hbx
      have HB := Lib.hid hbw
      clear hbx hrow hbel hbw
      go_wp2_with fail
      have hp := placing_big (R := R) (zs := zs.map fun z => -1 - z) (by rw [hlen]; exact HR.out)
      rw [hlen] at hp
      refine bodyPost_ret (v := .agg #[.int .i64 R, .slice none 0 0, .slice (some ⟨w.heap.size + 1, 0, none⟩) k k, .int .i64 0, .slice none 0 0, .slice none 0 0]) (by simp [results, Try.results107, go_sem, z0, z1, z2, z3, z4, z5]) rfl ⟨_, rfl, ?_, ?_⟩
      · have := sets6_big HBx.out hp (.int .i64 R) (.slice none 0 0) (.slice (some ⟨w.heap.size + 1, 0, none⟩) k k) (.int .i64 0) (.slice none 0 0) (.slice none 0 0)
        exact this.here
      · exact sets6_below HB.out (Nat.le_refl _) _ _ _ _ _ _
end Go.Proofs.Ytifialdkjnmfoaa.pl
