/- impl.lengthsTo. -/
import Derived.Test.YtlpgldejmdiceaaRkf
import Derived.Test.YtlpgldejmdiceaaFax
namespace Go.Proofs.Ytlpgldejmdiceaa.fai
open kit bg sg opn strs only hb sig isig un over gn nm inn ht gd im pt marks eqs hc hi hw hn rs br bm bw cf lf ib isa lawb lw cl bgs cz has syx sya rea rkx fax syh syi syc syg syb syk syl syt syr rcs rci rcf rks rki syz rep rkf
open Go.RowKit
set_option linter.unusedVariables false
set_option linter.unusedSimpArgs false
theorem from_cell {w : World} {B n : Nat} {A : Option Addr} {ρ : List Int} {s : Tri} (h : IntsAt w B A n ρ) (hs : 0 ≤ s.1 ∧ s.1 < (n : Int)) : ∃ (q b off : Nat), s.1 = (q : Int) ∧ q < n ∧ A = some ⟨b, off, none⟩ ∧ b < B ∧ w.cell? ⟨b, off + q, none⟩ = some (.int .i64 (fr' ρ s)) :=
  rank_cell (s := (s.1, s.2.1, s.1)) h hs
theorem lvl_snoc {ts : List Tri} {l : Int} {ρ : List Int} {k : Nat} {t : Tri} (h : ts[k]? = some t) : (ts.take (k + 1)).foldl (stepL l) ρ = stepL l ((ts.take k).foldl (stepL l) ρ) t := by
  rw [List.take_add_one, h, List.foldl_append]
  rfl
theorem stepL_yes {l : Int} {ρ : List Int} {s : Tri} (h : at' ρ s = l) (h2 : fr' ρ s < 0) : stepL l ρ s = ρ.set s.1.toNat (l + 1) := by unfold stepL; rw [if_pos ⟨h, h2⟩]
theorem stepL_no {l : Int} {ρ : List Int} {s : Tri} (h : ¬ (at' ρ s = l ∧ fr' ρ s < 0)) : stepL l ρ s = ρ := by unfold stepL; rw [if_neg h]
theorem lev_len {n : Nat} {ts : List Tri} {gs : List Int} (ht : ∀ t ∈ ts, (0 ≤ t.1 ∧ t.1 < (n : Int)) ∧ 0 ≤ t.2.2 ∧ t.2.2 < (n : Int)) {r : Nat} {ρ : List Int} (h : Lev n ts gs r ρ) (k : Nat) : ((ts.take k).foldl (stepL r) ρ).length = n := by
  have hm : Mid n ts gs (r : Int) [] ρ := ⟨h.wit, Fax_up h.bnd (by omega), h.old, fun s hs => by cases hs⟩
  exact (mid_fold ht (by omega) (ts.take k) [] ρ (fun _ hx => List.mem_of_mem_take hx) (fun _ hx => by cases hx) hm).1.wit.len
set_option maxRecDepth 20000 in
set_option maxHeartbeats 12800000 in
theorem ilen_any (A1 A2 : Option Addr) (n1 c1 n2 c2 : Nat) (ts : List Tri) (B : Option Addr) (m d : Nat) (gs : List Int) (w : World) (h : TriAt w w.heap.size A2 n2 ts) (hg : IntsAt w w.heap.size B m gs) (hn0 : 1 ≤ n1) (hn1 : n1 ≤ 40) (hn2 : n2 ≤ 1048576) (hm : m ≤ 1048576) (hgm : ∀ z ∈ gs, 0 ≤ z ∧ z < (n1 : Int)) (ht : ∀ t ∈ ts, (0 ≤ t.1 ∧ t.1 < (n1 : Int)) ∧ 0 ≤ t.2.2 ∧ t.2.2 < (n1 : Int)) :
    Calls Try.prog 70 #[.agg #[.slice A1 n1 c1, .slice A2 n2 c2], .slice B m d] w fun e w' => ∃ v, e = .returned v ∧ Owns w' w.heap.size 3 v ((faL n1 ts gs).map (Value.int .i64)) ∧ Below w.heap.size w w' := by
  have HL := Lib.hid h.1
  have HB0 := Lib.hid ((Below.refl w.heap.size w).alloc (Nat.le_refl _) (.cells #[.slice A1 n1 c1, .slice A2 n2 c2] 32))
  have HBx := Lib.hid (BoxN.new w #[.slice A1 n1 c1, .slice A2 n2 c2] 32)
  obtain ⟨W, hW⟩ : ∃ W, w.alloc (.cells #[.slice A1 n1 c1, .slice A2 n2 c2] 32) = W := ⟨_, rfl⟩
  rw [hW] at HBx HB0
  have HWq := Lib.hid hW
  have hWs := HBx.out.lt
  have HT := Lib.hid ((h.below HB0.out).wide HB0.out.size)
  have HGs := Lib.hid ((hg.below HB0.out).wide HB0.out.size)
  have HTo := Lib.hid ht
  have HGm := Lib.hid hgm
  have hsz1 : W.heap.size = w.heap.size + 1 := by rw [← HWq.out]; simp
  have hc3 : (W.alloc (.cells #[.int .i64 (-1)] 3)).cell? ⟨w.heap.size + 1, 0, none⟩ = some (.int .i64 (-1)) := by
    have := (row_new W #[.int .i64 (-1)] 3 1 rfl).cell (show 0 < 1 by omega)
    rw [hsz1] at this
    exact this
  have hl3 : w.heap.size + 1 < (W.alloc (.cells #[.int .i64 (-1)] 3)).heap.size := by simp [hsz1]
  have hb3 := (Below.refl W.heap.size W).alloc (Nat.le_refl _) (.cells #[.int .i64 (-1)] 3)
  obtain ⟨w3, hw3⟩ : ∃ w3, W.alloc (.cells #[.int .i64 (-1)] 3) = w3 := ⟨_, rfl⟩
  rw [hw3] at hc3 hl3 hb3
  have HW3 := Lib.hid hw3
  have HB3 := Lib.hid hb3
  have CR := rep_any (w.heap.size + 1) 1 n1 (-1) w3 hc3 hl3 (by omega) (by omega)
  obtain ⟨x0, x1⟩ := box2 (HBx.out.below HB3.out hWs)
  rw [← HW3.out] at x0 x1
  clear hW h hg ht hgm hw3 hb3 hc3
  go_enter Try.func70, Try.ntmps70
  go_wp2_with fail
  rw [HWq.out]
  try go_wp2_with fail
  rw [HW3.out] at x0 x1 ⊢
  try go_wp2_with fail
  refine CR.mono ?_
  rintro e w4 ⟨rfl, hrow, hb4⟩
  have HB4 := Lib.hid (HB3.out.trans (hb4.mono HB3.out.size))
  have ho4 := (own_rep hrow (by unfold maxLen; omega)).mono HB3.out.size
  rw [← rk0_nil] at ho4
  have HO4 := Lib.hid ho4
  obtain ⟨g, hgd⟩ : ∃ g, w3.heap.size = g := ⟨_, rfl⟩
  rw [hgd] at HO4 ⊢
  clear CR hrow hb4 ho4 hgd x0 x1
  obtain ⟨x0, x1⟩ := box2 (HBx.out.below HB4.out hWs)
  go_wp2_with fail
  clear x0 x1
  go_loopw [7, 18] (fun _ i wr => ∃ k : Nat, k ≤ m ∧ i = .int .i64 k ∧ Owns wr W.heap.size 3 (.slice (some ⟨g, 0, none⟩) n1 n1) ((rk0 n1 (gs.take k)).map (Value.int .i64)) ∧ Below W.heap.size W wr) (fun _ i _ => m - (intOf i).toNat)
  case atStart => exact ⟨0, Nat.zero_le _, rfl, HO4.out, HB4.out⟩
  case round =>
    obtain ⟨k, hk, rfl, hown, hbel⟩ := hrel
    have HO := Lib.hid hown
    have HBl := Lib.hid hbel
    obtain ⟨x0, x1⟩ := box2 (HBx.out.below hbel hWs)
    by_cases hlt : k < m
    · obtain ⟨b, off, z, rfl, hbb, hx, e0⟩ := IntsAt.get HGs.out hlt
      obtain ⟨hz0, hz1⟩ := HGm.out z (List.mem_of_getElem? hx)
      obtain ⟨q, rfl⟩ : ∃ q : Nat, z = (q : Int) := ⟨z.toNat, by omega⟩
      have hqn : q < n1 := by omega
      have f0 := (hbel.cell (p := ⟨b, off + k, none⟩) hbb).trans e0
      have HRs := Lib.hid (rk0_set hx hqn)
      obtain ⟨hset, ⟨y, hcy⟩, hfz, hgb⟩ := own_set (u := .int .i64 0) (k := q) hown (by rw [List.length_map, rk0_len]; exact hqn)
      rw [← List.map_set, ← HRs.out] at hset
      have HSet := Lib.hid hset
      have HB5 := Lib.hid (hbel.setCell (p := ⟨g, q, none⟩) hgb (.int .i64 0))
      clear hown hbel hx e0 hset
      go_wp2_with fail
      go_roundw
      case rel => exact ⟨k + 1, by omega, by go_num, HSet.out, HB5.out⟩
      case measure => simp [intOf]; omega
    · obtain rfl : k = m := by omega
      have hall : gs.take k = gs := List.take_of_length_le (by have := HGs.out.len; omega)
      rw [hall] at HO
      clear hown hbel hall
      go_wp2_with fail
      clear x0 x1
      rename World => w5
      go_loopw [8, 29] (fun _ i wr => ∃ (r : Nat) (ρ : List Int), r ≤ n1 ∧ i = .int .i64 r ∧ Owns wr W.heap.size 3 (.slice (some ⟨g, 0, none⟩) n1 n1) (ρ.map (Value.int .i64)) ∧ Below W.heap.size W wr ∧ Lev n1 ts gs r ρ ∧ ρ = lvls ts (rk0 n1 gs) r) (fun _ i _ => n1 - (intOf i).toNat)
      case atStart => exact ⟨0, rk0 n1 gs, Nat.zero_le _, rfl, HO.out, HBl.out, lev_zero, rfl⟩
      case round =>
        obtain ⟨r, ρ, hr, rfl, hown, hbel, hlv, hρ⟩ := hrel
        have HOr := Lib.hid hown
        have HBr := Lib.hid hbel
        have HLv := Lib.hid hlv
        have HRho := Lib.hid hρ
        have hwz : W.heap.size ≤ wr.heap.size := hbel.size
        obtain ⟨x0, x1⟩ := box2 (HBx.out.below hbel hWs)
        clear hown hbel hlv hρ
        by_cases hlt : r < n1
        · go_wp2_with fail
          clear x0 x1
          rename World => w6
          go_loopw [10, 35] (fun _ i wr => ∃ k : Nat, k ≤ n2 ∧ i = .int .i64 k ∧ Owns wr W.heap.size 3 (.slice (some ⟨g, 0, none⟩) n1 n1) (((ts.take k).foldl (stepL r) ρ).map (Value.int .i64)) ∧ Below W.heap.size W wr) (fun _ i _ => n2 - (intOf i).toNat)
          case atStart => exact ⟨0, Nat.zero_le _, rfl, HOr.out, HBr.out⟩
          case round =>
            obtain ⟨k, hk, rfl, hown, hbel⟩ := hrel
            have HOk := Lib.hid hown
            have HBk := Lib.hid hbel
            have hwk : W.heap.size ≤ wr.heap.size := hbel.size
            by_cases hlt2 : k < n2
            · obtain ⟨b, off, s, rfl, hbb, hx, e0, e1, e2⟩ := HT.out.get hlt2
              have f0 := (hbel.cell (p := ⟨b, off + k * 3, none⟩) hbb).trans e0
              have f1 := (hbel.cell (p := ⟨b, off + k * 3 + 1, none⟩) hbb).trans e1
              have f2 := (hbel.cell (p := ⟨b, off + k * 3 + 2, none⟩) hbb).trans e2
              have hln := lev_len HTo.out HLv.out k
              have HSn := Lib.hid (lvl_snoc (l := (r : Int)) (ρ := ρ) hx)
              obtain ⟨σ, hσ⟩ : ∃ σ, (ts.take k).foldl (stepL r) ρ = σ := ⟨_, rfl⟩
              rw [hσ] at hln HSn HOk
              obtain ⟨hgb, hgl, hI⟩ := own_len HOk.out hln
              obtain ⟨hts1, hts2⟩ := HTo.out s (List.mem_of_getElem? hx)
              obtain ⟨q2, b2, o2, hq2, hqn2, eA, hbr2, hc2⟩ := rank_cell hI hts2
              injection eA with eA
              injection eA with ea eo
              subst ea eo
              obtain ⟨q1, b1, o1, hq1, hqn1, eB, hbr1, hc1⟩ := from_cell hI hts1
              injection eB with eB
              injection eB with eb ef
              subst eb ef
              rw [Nat.zero_add] at hc1 hc2
              have hq1n : s.1.toNat = q1 := by omega
              rw [hq1] at f0
              rw [hq2] at f2
              have b3 := BoxN.new wr #[.int .i64 (q1 : Int), .int .i64 s.2.1, .int .i64 (q2 : Int)] 76
              have hb3 := (Below.refl wr.heap.size wr).alloc (Nat.le_refl _) (.cells #[.int .i64 (q1 : Int), .int .i64 s.2.1, .int .i64 (q2 : Int)] 76)
              obtain ⟨z0, z1, z2⟩ := box3 b3
              have d1 := (hb3.cell (p := ⟨g, q1, none⟩) hbr1).trans hc1
              have d2 := (hb3.cell (p := ⟨g, q2, none⟩) hbr2).trans hc2
              have ho7 := own_keep HOk.out hb3
              obtain ⟨-, ⟨y, hcy⟩, hfz, -⟩ := own_set (u := .int .i64 ((r : Int) + 1)) (k := q1) ho7 (by rw [List.length_map, hln]; exact hqn1)
              have hb7 := hbel.trans (hb3.mono hwk)
              obtain ⟨hset2, -⟩ := own_set (u := .int .i64 ((r : Int) + 1)) (k := q1) HOk.out (by rw [List.length_map, hln]; exact hqn1)
              have hb6 := hbel.setCell (p := ⟨g, q1, none⟩) hgb (.int .i64 ((r : Int) + 1))
              have hb8 := hb6.alloc hb6.size (.cells #[.int .i64 (q1 : Int), .int .i64 s.2.1, .int .i64 (q2 : Int)] 76)
              have hset := own_keep hset2 ((Below.refl _ _).alloc (Nat.le_refl _) (.cells #[.int .i64 (q1 : Int), .int .i64 s.2.1, .int .i64 (q2 : Int)] 76))
              rw [← List.map_set] at hset
              have HO7 := Lib.hid ho7
              have HB7 := Lib.hid hb7
              have HB8 := Lib.hid hb8
              have HSet := Lib.hid hset
              obtain ⟨a, ha⟩ : ∃ a, at' σ s = a := ⟨_, rfl⟩
              obtain ⟨c, hc⟩ : ∃ c, fr' σ s = c := ⟨_, rfl⟩
              have HAe := Lib.hid ha
              have HCe := Lib.hid hc
              have hln1 := Lib.hid hln
              rw [ha] at d2
              rw [hc] at d1
              clear hown hbel hx e0 e1 e2 hσ hI hc1 hc2 hb3 b3 ho7 hset hset2 hb6 hb7 hb8 ha hc hcy hln
              by_cases har : a = r
              · by_cases hneg : c < 0
                · have hst := HSn.out.trans (stepL_yes (HAe.out.trans har) (by rw [HCe.out]; exact hneg))
                  rw [hq1n] at hst
                  have HE := Lib.hid hst
                  subst har
                  clear hst
                  go_wp2_with fail
                  go_roundw
                  case rel => exact ⟨k + 1, by omega, by go_num, by rw [HE.out]; exact HSet.out, HB8.out⟩
                  case measure => simp [intOf]; omega
                · have hst := HSn.out.trans (stepL_no (fun hh => hneg (by rw [← HCe.out]; exact hh.2)))
                  have HE := Lib.hid hst
                  subst har
                  clear hst
                  go_wp2_with fail
                  go_roundw
                  case rel => exact ⟨k + 1, by omega, by go_num, by rw [HE.out]; exact HO7.out, HB7.out⟩
                  case measure => simp [intOf]; omega
              · have hst := HSn.out.trans (stepL_no (fun hh => har (by rw [← HAe.out]; exact hh.1)))
                have HE := Lib.hid hst
                have hne : (a == (r : Int)) = false := by rw [beq_eq_false_iff_ne]; exact har
                clear hst
                go_wp2_with fail
                go_roundw
                case rel => exact ⟨k + 1, by omega, by go_num, by rw [HE.out]; exact HO7.out, HB7.out⟩
                case measure => simp [intOf]; omega
            · obtain rfl : n2 = k := by omega
              have hall : ts.take n2 = ts := List.take_of_length_le (by have := HL.out; omega)
              rw [hall] at HOk
              have HLv2 := Lib.hid (lev_next HTo.out HLv.out)
              clear hown hbel hall
              go_wp2_with fail
              go_roundw
              case rel => exact ⟨r + 1, lvl ts r ρ, by omega, by go_num, HOk.out, HBk.out, HLv2.out, by rw [HRho.out]; rfl⟩
              case measure => simp [intOf]; omega
        · obtain rfl : n1 = r := by omega
          have he : ρ = faL n1 ts gs := HRho.out
          rw [he] at HOr
          have HBz := Lib.hid (HB0.out.trans (HBr.out.mono HB0.out.size))
          have HOz := Lib.hid (HOr.out.mono HB0.out.size)
          go_wp2_with fail
          go_ret
          exact ⟨_, rfl, HOz.out, HBz.out⟩
end Go.Proofs.Ytlpgldejmdiceaa.fai
