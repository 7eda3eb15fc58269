/- spec.l10Reach: the states reached, in rounds. -/
import Derived.Test.YtlpgldejmdiceaaPti
import Derived.Test.YtlpgldejmdiceaaSyt
namespace Go.Proofs.Ytlpgldejmdiceaa.rcs
open kit bg sg opn strs only hb sig isig un over gn nm inn ht gd im pt marks eqs hc hi hw hn rs br bm bw cf lf ib isa lawb lw cl bgs cz has syx sya rea syh syi syc syg syl syt syr pti
open Go.RowKit
set_option linter.unusedVariables false
set_option linter.unusedSimpArgs false
theorem own_one (w : World) (z : Int) : Owns (w.alloc (.cells #[.int .i64 z] 3)) w.heap.size 3 (.slice (some ⟨w.heap.size, 0, none⟩) 1 1) ([z].map (Value.int .i64)) :=
  ⟨⟨rfl, .inr ⟨w.heap.size, 1, #[.int .i64 z], rfl, Nat.le_refl _, (MapKept.heap_alloc w _).1, Nat.le_refl _, by unfold maxLen; omega, rfl, rfl⟩⟩, by simp⟩
theorem own_low {w : World} {B B' : Nat} {v : Value} {ys : List Value} {t : TypeId} (h : Owns w B t v ys) (hB : B' ≤ B) : Owns w B' t v ys := h.mono hB
set_option maxRecDepth 20000 in
set_option maxHeartbeats 6400000 in
theorem lreach_any (A1 A2 : Option Addr) (n1 c1 n2 c2 : Nat) (ts : List Tri) (z : Int) (w : World) (h : TriAt w w.heap.size A2 n2 ts) (hn1 : n1 ≤ 1048575) (hn2 : n2 ≤ 1048576) (hz : 0 ≤ z ∧ z < (n1 : Int)) (ht : ∀ t ∈ ts, 0 ≤ t.2.2 ∧ t.2.2 < (n1 : Int)) :
    Calls Try.prog 75 #[.agg #[.slice A1 n1 c1, .slice A2 n2 c2], .int .i64 z] w fun e w' => ∃ v, e = .returned v ∧ Owns w' w.heap.size 3 v ((rcL n1 ts z).map (Value.int .i64)) ∧ Below w.heap.size w w' := by
  have HL := Lib.hid h.1
  have HB0 := Lib.hid ((Below.refl w.heap.size w).alloc (Nat.le_refl _) (.cells #[.slice A1 n1 c1, .slice A2 n2 c2] 32))
  have HBx := Lib.hid (BoxN.new w #[.slice A1 n1 c1, .slice A2 n2 c2] 32)
  obtain ⟨W, hW⟩ : ∃ W, w.alloc (.cells #[.slice A1 n1 c1, .slice A2 n2 c2] 32) = W := ⟨_, rfl⟩
  rw [hW] at HBx HB0
  have HWq := Lib.hid hW
  have hWs := HBx.out.lt
  have hsz1 : W.heap.size = w.heap.size + 1 := by rw [← HWq.out]; simp
  have hOn : Owns (W.alloc (.cells #[.int .i64 z] 3)) W.heap.size 3 (.slice (some ⟨w.heap.size + 1, 0, none⟩) 1 1) ([z].map (Value.int .i64)) := by rw [← hsz1]; exact own_one W z
  have hb2 := (Below.refl W.heap.size W).alloc (Nat.le_refl _) (.cells #[.int .i64 z] 3)
  obtain ⟨W2, hW2⟩ : ∃ W2, W.alloc (.cells #[.int .i64 z] 3) = W2 := ⟨_, rfl⟩
  rw [hW2] at hOn hb2
  have HOn := Lib.hid hOn
  have HB2 := Lib.hid hb2
  have HW2 := Lib.hid hW2
  have HT := Lib.hid ((h.below HB0.out).wide HB0.out.size)
  have HLr := Lib.hid (fun r => rnds_len hz ht r)
  have HLi := Lib.hid (fun r j => show (rnd (ts.take j) (rnds ts z r)).length ≤ n1 by
    have h1 := rnd_asc (ts.take j) (rnds_asc ts z r)
    have h2 := rnd_rch (z := z) (ts := ts) (ts.take j) (fun u hu => List.mem_of_mem_take hu) (rnds_rch ts z r)
    have := asc_len (a := 0) (b := n1) h1 (by omega) (fun a ha => rch_in hz ht (h2 a ha))
    omega)
  clear hW hW2 hOn hb2 h hz ht
  go_enter Try.func75, Try.ntmps75
  go_wp2_with fail
  rw [HWq.out]
  try go_wp2_with fail
  rw [HW2.out]
  try go_wp2_with fail
  go_loopw [5, 6, 7] (fun v i _ wr => ∃ r : Nat, r ≤ n1 ∧ i = .int .i64 r ∧ Owns wr W.heap.size 3 v ((rnds ts z r).map (Value.int .i64)) ∧ Below W.heap.size W wr) (fun _ i _ _ => n1 - (intOf i).toNat)
  case atStart => exact ⟨0, Nat.zero_le _, rfl, HOn.out, HB2.out⟩
  case round =>
    obtain ⟨r, hr, rfl, hown, hbel⟩ := hrel
    have HO := Lib.hid hown
    have HBl := Lib.hid hbel
    obtain ⟨x0, x1⟩ := box2 (HBx.out.below hbel hWs)
    have HX1 := Lib.hid x1
    clear hown hbel
    by_cases hlt : r < n1
    · obtain ⟨o, ho⟩ : ∃ o, rnds ts z r = o := ⟨_, rfl⟩
      have HLj := Lib.hid (HLi.out r)
      have HNx : Hid (rnds ts z (r + 1) = rnd ts o) := Lib.hid (by rw [← ho]; rfl)
      rw [ho] at HO HLj
      clear ho
      go_wp2_with fail
      rename World => wo
      clear x0 x1
      go_loopw [5, 7] (fun v i wr => ∃ j : Nat, j ≤ n2 ∧ i = .int .i64 j ∧ Owns wr W.heap.size 3 v ((rnd (ts.take j) o).map (Value.int .i64)) ∧ Below W.heap.size W wr) (fun _ i _ => n2 - (intOf i).toNat)
      case atStart => exact ⟨0, Nat.zero_le _, rfl, HO.out, HBl.out⟩
      case round =>
        obtain ⟨j, hj, rfl, hown, hbel⟩ := hrel
        have HOi := Lib.hid hown
        have HBi := Lib.hid hbel
        obtain ⟨x0, x1⟩ := box2 (HBx.out.below hbel hWs)
        have hwz : W.heap.size ≤ wr.heap.size := hbel.size
        by_cases hlt2 : j < n2
        · obtain ⟨b, off, t, rfl, hbb, hx, e0, e1, e2⟩ := HT.out.get hlt2
          have d0 := (hbel.cell (p := ⟨b, off + j * 3, none⟩) hbb).trans e0
          have d2 := (hbel.cell (p := ⟨b, off + j * 3 + 2, none⟩) hbb).trans e2
          have HS := Lib.hid (rnd_snoc (o := o) hx)
          have hll := HLj.out j
          have HLm : Hid ((rnd (ts.take j) o).length ≤ n1) := Lib.hid hll
          obtain ⟨P, hP⟩ : ∃ P, rnd (ts.take j) o = P := ⟨_, rfl⟩
          rw [hP] at HOi HS hll
          obtain ⟨g, cp, rfl, hg1, hg2, hmc, hsr⟩ := HOi.out.at
          rw [List.length_map] at hmc hsr HOi ⊢
          have CH := l1Has_any (some ⟨g, 0, none⟩) P.length cp P t.1 wr _ hsr (by omega)
          clear hown hbel hP hx e0 e1 e2 hsr
          cases hq : hasB P t.1 with
          | false =>
            rw [hq] at CH
            have HE := Lib.hid (HS.out.trans (stp_no hq))
            clear hq
            go_wp2_with fail
            refine CH.mono ?_
            rintro e w3 ⟨rfl, rfl⟩
            clear CH
            go_wp2_with fail
            go_roundw
            case rel => exact ⟨j + 1, by omega, by go_num, by rw [HE.out]; exact HOi.out, HBi.out⟩
            case measure => simp [intOf]; omega
          | true =>
            rw [hq] at CH
            have HE := Lib.hid (HS.out.trans (stp_yes hq))
            have CP := put_any _ P t.2.2 W.heap.size wr HOi.out hwz (by omega)
            clear hq
            go_wp2_with fail
            refine CH.mono ?_
            rintro e w3 ⟨rfl, rfl⟩
            clear CH
            go_wp2_with fail
            refine CP.mono ?_
            rintro e w3 ⟨v3, rfl, ho3, hb3⟩
            have HO3 := Lib.hid ho3
            have HB3 := Lib.hid (HBi.out.trans (hb3.mono hwz))
            clear CP ho3 hb3
            go_wp2_with fail
            go_roundw
            case rel => exact ⟨j + 1, by omega, by go_num, by rw [HE.out]; exact HO3.out, HB3.out⟩
            case measure => simp [intOf]; omega
        · obtain rfl : n2 = j := by omega
          have hall : ts.take n2 = ts := List.take_of_length_le (by have := HL.out; omega)
          rw [hall, ← HNx.out] at HOi
          clear hown hbel hall
          go_wp2_with fail
          go_roundw
          case rel => exact ⟨r + 1, by omega, by go_num, HOi.out, HBi.out⟩
          case measure => simp [intOf]; omega
    · obtain rfl : n1 = r := by omega
      have HBz := Lib.hid (HB0.out.trans (HBl.out.mono HB0.out.size))
      have HOz := Lib.hid (HO.out.mono HB0.out.size)
      go_wp2_with fail
      go_ret
      exact ⟨_, rfl, HOz.out, HBz.out⟩
end Go.Proofs.Ytlpgldejmdiceaa.rcs
