/- spec.l10From with where its answer lies. -/
import Derived.Test.YtlpgldejmdiceaaFsp
namespace Go.Proofs.Ytlpgldejmdiceaa.fsl
open kit bg sg opn strs only hb sig isig un over gn nm inn ht gd im pt marks eqs hc hi hw hn rs br bm bw cf lf ib isa lawb lw cl bgs cz syx sya syh syi syc syg syl syt
open Go.RowKit
set_option linter.unusedVariables false
set_option linter.unusedSimpArgs false

set_option maxRecDepth 20000 in
set_option maxHeartbeats 3200000 in
theorem lfrom_own (A1 A2 : Option Addr) (n1 c1 n2 c2 : Nat) (ts : List Tri) (z : Int) (w : World) (h : TriAt w w.heap.size A2 n2 ts) (hn2 : n2 ≤ 1048576) :
    Calls Try.prog 68 #[.agg #[.slice A1 n1 c1, .slice A2 n2 c2], .int .i64 z] w fun e w' => ∃ g c, e = .returned (.slice (some ⟨g, 0, none⟩) (outOf ts z).length c) ∧ TriAt w' w'.heap.size (some ⟨g, 0, none⟩) (outOf ts z).length (outOf ts z) ∧ w.heap.size ≤ g ∧ Below w.heap.size w w' := by
  have HL := Lib.hid h.1
  have hb0 := (Below.refl w.heap.size w).alloc (Nat.le_refl _) (.cells #[.slice A1 n1 c1, .slice A2 n2 c2] 32)
  have hBx := BoxN.new w #[.slice A1 n1 c1, .slice A2 n2 c2] 32
  have hsz : (w.alloc (.cells #[.slice A1 n1 c1, .slice A2 n2 c2] 32)).heap.size = w.heap.size + 1 := by simp
  have hOn := OwnT.new (w.alloc (.cells #[.slice A1 n1 c1, .slice A2 n2 c2] 32))
  have hb1 := hb0.alloc hb0.size (.cells #[] 76)
  have hBx1 := hBx.on ((Below.refl _ _).alloc (Nat.le_refl _) (.cells #[] 76))
  rw [hsz] at hOn
  obtain ⟨W, hW⟩ : ∃ W, (w.alloc (.cells #[.slice A1 n1 c1, .slice A2 n2 c2] 32)).alloc (.cells #[] 76) = W := ⟨_, rfl⟩
  have hWz : W.heap.size = w.heap.size + 2 := by rw [← hW]; simp
  rw [hW] at hOn hb1 hBx1
  have HB1 := Lib.hid hb1
  have HBx := Lib.hid hBx1
  have HOn := Lib.hid hOn
  have HWq := Lib.hid hW
  have HWz := Lib.hid hWz
  have HT := Lib.hid h
  obtain ⟨i0, hi, hz0, hz1, hz2⟩ := info_parts tri_info
  have HI := Lib.hid (And.intro hi (And.intro hz0 (And.intro hz1 hz2)))
  clear hW hb0 hBx hb1 hBx1 hOn h hsz hWz hi hz0 hz1 hz2
  go_enter Try.func68, Try.ntmps68
  go_wp2_with fail
  rw [HWq.out]
  go_loopw [5, 6] (fun v i wr => ∃ k : Nat, k ≤ n2 ∧ i = .int .i64 k ∧ OwnT wr (w.heap.size + 1) v (outOf (ts.take k) z) ∧ Below (w.heap.size + 1) W wr) (fun _ i _ => n2 - (intOf i).toNat)
  case atStart => exact ⟨0, Nat.zero_le _, rfl, HOn.out, Below.refl _ _⟩
  case round =>
    obtain ⟨k, hk, rfl, ⟨hown, hnn⟩, hbel⟩ := hrel
    have hsz := hbel.size
    rw [HWz.out] at hsz
    have hbw : Below w.heap.size w wr := HB1.out.trans (hbel.mono (by omega))
    obtain ⟨x0, x1⟩ := box2 (HBx.out.below hbel (by omega))
    by_cases hlt : k < n2
    · obtain ⟨b, off, t, rfl, hbb, hx, e0, e1, e2⟩ := HT.out.get hlt
      have d0 := (hbw.cell (p := ⟨b, off + k * 3, none⟩) hbb).trans e0
      have d1 := (hbw.cell (p := ⟨b, off + k * 3 + 1, none⟩) hbb).trans e1
      have d2 := (hbw.cell (p := ⟨b, off + k * 3 + 2, none⟩) hbb).trans e2
      by_cases hz : t.1 = z
      · have hsel := out_snoc hx hz
        have hlen := out_len (ts.take k) z
        rw [List.length_take] at hlen
        have HN := Lib.hid hnn
        obtain ⟨P, hP⟩ : ∃ P, outOf (ts.take k) z = P := ⟨_, rfl⟩
        rw [hP] at hown hlen hsel
        have HS := Lib.hid hsel
        obtain ⟨q, hq⟩ : ∃ q, P.length = q := ⟨_, rfl⟩
        rw [hq] at hown hlen
        have HQ := Lib.hid hq
        obtain ⟨D, hD⟩ : ∃ D, tcs P = D := ⟨_, rfl⟩
        rw [hD] at hown
        have HD := Lib.hid hD
        subst hz
        clear hnn hsel hP hq hD hx e0 e1 e2
        go_wp2_with (at_builtin; refine wpList_append_own _ rfl _ _ 23 rfl (w.heap.size + 1) 76 i0 (.agg #[.int .i64 0, .int .i64 0, .int .i64 0]) 3 24 Try.underlying23 HI.out.1 HI.out.2.1 HI.out.2.2.1 HI.out.2.2.2 rfl (by decide) _ _ _ rfl (hown.alloc _) ⟨wr.heap.size, 0, none⟩ 1 1 [.int .i64 t.1, .int .i64 t.2.1, .int .i64 t.2.2] rfl rfl (cell_three_new _ _ _ _ _) (fun x hx => by simp at hx; rcases hx with rfl | rfl | rfl <;> rfl) (by unfold maxLen; omega) (by omega) (by simp; omega) ?_; intro v1 w1 hown1 hgrow1 hnil1)
        have hb1 := Lib.hid ((hbel.alloc (by omega) (.cells #[.int .i64 t.1, .int .i64 t.2.1, .int .i64 t.2.2] 76)).grown hgrow1 (by simp; omega) (fun j hj => (hown.lt j hj).1))
        have HOwn := Lib.hid hown1
        have HN1 : Hid (v1 ≠ .slice none 0 0) := fun h => HN.out (hnil1.1 h).1
        clear hown1 hgrow1 hnil1 hown
        go_wp2_with fail
        go_roundw
        case rel => exact ⟨k + 1, by omega, by go_num, ⟨by
          have := HOwn.out
          rw [HS.out, tcs_snoc, HD.out, List.length_append, List.length_singleton, HQ.out]
          exact this, HN1.out⟩, hb1.out⟩
        case measure => simp [intOf]; omega
      · have HO := Lib.hid (show OwnT wr (w.heap.size + 1) _ (outOf (ts.take (k + 1)) z) from by rw [out_same hx hz]; exact ⟨hown, hnn⟩)
        have HB := Lib.hid hbel
        clear hown hnn hx
        go_wp2_with fail
        go_roundw
        case rel => exact ⟨k + 1, by omega, by go_num, HO.out, HB.out⟩
        case measure => simp [intOf]; omega
    · obtain rfl : k = n2 := by omega
      have hall : ts.take k = ts := List.take_of_length_le (by have := HL.out; omega)
      rw [hall] at hown
      obtain ⟨g, c, rfl, hg, hat⟩ := OwnT.at ⟨hown, hnn⟩
      have HA := Lib.hid hat
      clear hown hnn hat hall
      go_wp2_with fail
      go_ret
      exact ⟨g, c, rfl, HA.out, by omega, hbw⟩

end Go.Proofs.Ytlpgldejmdiceaa.fsl
