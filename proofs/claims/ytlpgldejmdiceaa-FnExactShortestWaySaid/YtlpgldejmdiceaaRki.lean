/- impl.rankNext. -/
import Derived.Test.YtlpgldejmdiceaaRks
import Derived.Scope
namespace Go.Proofs.Ytlpgldejmdiceaa.rki
open kit bg sg opn strs only hb sig isig un over gn nm inn ht gd im pt marks eqs hc hi hw hn rs br bm bw cf lf ib isa lawb lw cl bgs cz has syx sya rea rkx syh syi syc syg syb syk syl syt syr rcs rci rcf rks
open Go.RowKit
set_option linter.unusedVariables false
set_option linter.unusedSimpArgs false
theorem step_no {ts : List Tri} {ρ : List Int} {i : Nat} (h : ρ.getD i 0 ≠ -1 ∨ rkv ρ (outOf ts i) = -1) : stepI ts ρ i = ρ := by
  unfold stepI
  rw [if_neg (fun hh => h.elim (fun a => a hh.1) (fun a => hh.2 a))]
theorem step_yes {ts : List Tri} {ρ : List Int} {i : Nat} (h : ρ.getD i 0 = -1) (hn : outOf ts i ≠ []) (hk : okL ρ (outOf ts i) = true) : stepI ts ρ i = ρ.set i (mostL 0 ρ (outOf ts i) + 1) := by
  have e : rkv ρ (outOf ts i) = mostL 0 ρ (outOf ts i) + 1 := by unfold rkv; rw [if_neg hn, if_pos hk, mostL_zero hn hk]
  have h0 := mostL_ge ρ (outOf ts i) 0
  unfold stepI
  rw [if_pos ⟨h, by omega⟩, e]
theorem own_len {w : World} {B g n c : Nat} {ρ : List Int} (h : Owns w B 3 (.slice (some ⟨g, 0, none⟩) n c) (ρ.map (Value.int .i64))) (hl : ρ.length = n) : B ≤ g ∧ g < w.heap.size ∧ IntsAt w w.heap.size (some ⟨g, 0, none⟩) n ρ := by
  obtain ⟨g', c', e, h1, h2, h3⟩ := own_ints h hl
  injection e with e
  injection e with e
  injection e with e _
  subst e
  exact ⟨h1, h2, h3⟩
set_option maxRecDepth 20000 in
set_option maxHeartbeats 12800000 in
theorem rnext_any (A1 : Option Addr) (g2 n1 c1 n2 : Nat) (ts : List Tri) (gs : List Int) (g cp : Nat) (ρ : List Int) (M : Int) (B : Nat) (w : World) (h : TriAt w B (some ⟨g2, 0, none⟩) n2 ts) (ho : Owns w B 3 (.slice (some ⟨g, 0, none⟩) n1 cp) (ρ.map (Value.int .i64))) (hB : B ≤ w.heap.size) (hn1 : n1 ≤ 1048575) (hn2 : n2 ≤ 1048576) (hp : ts.Pairwise (fun a b => a.1 ≤ b.1)) (ht : ∀ t ∈ ts, 0 ≤ t.2.2 ∧ t.2.2 < (n1 : Int)) (hs : Sound n1 ts gs ρ) (hM : Bnd M ρ) (hM0 : 0 ≤ M) (hM1 : M ≤ 1048576) :
    Calls Try.prog 84 #[.agg #[.slice A1 n1 c1, .slice (some ⟨g2, 0, none⟩) n2 n2], .slice (some ⟨g, 0, none⟩) n1 cp] w fun e w' => e = .returned (.tuple #[]) ∧ Owns w' B 3 (.slice (some ⟨g, 0, none⟩) n1 cp) ((rndI ts ρ n1).map (Value.int .i64)) ∧ Below B w w' := by
  have HL := Lib.hid h.1
  have hbA := (Below.refl w.heap.size w).alloc (Nat.le_refl _) (.cells #[.slice A1 n1 c1, .slice (some ⟨g2, 0, none⟩) n2 n2] 32)
  have HB0 := Lib.hid (hbA.mono hB)
  have HO0 := Lib.hid (own_keep ho hbA)
  have HBx := Lib.hid (BoxN.new w #[.slice A1 n1 c1, .slice (some ⟨g2, 0, none⟩) n2 n2] 32)
  obtain ⟨W, hW⟩ : ∃ W, w.alloc (.cells #[.slice A1 n1 c1, .slice (some ⟨g2, 0, none⟩) n2 n2] 32) = W := ⟨_, rfl⟩
  rw [hW] at HBx HB0 HO0
  have HWq := Lib.hid hW
  have hWs := HBx.out.lt
  have hBW : B ≤ W.heap.size := Nat.le_trans hB (Nat.le_of_lt hWs)
  have hgw : g < w.heap.size := (own_len ho hs.len).2.1
  have HT := Lib.hid (h.below HB0.out)
  have HP := Lib.hid hp
  have HTo := Lib.hid ht
  have HGr := Lib.hid (fun k => (rndI_grows ht hs k).1)
  have HBd := Lib.hid (fun k => bnd_rnd (ts := ts) hM hM0 k)
  obtain ⟨x0, x1⟩ := box2 HBx.out
  clear hW h ho hp ht hs hM hbA
  go_enter Try.func84, Try.ntmps84
  go_wp2_with fail
  rw [HWq.out]
  try go_wp2_with fail
  refine wp_scope_straight ?_
  refine wp_seq (wp_label ?_)
  go_wp2_with fail
  clear x0 x1
  go_loopw [4, 5, 6, 8, 9, 12] (fun _ _ _ _ _ i wr => ∃ j : Nat, j ≤ n1 ∧ i = .int .i64 j ∧ Owns wr B 3 (.slice (some ⟨g, 0, none⟩) n1 cp) ((rndI ts ρ j).map (Value.int .i64)) ∧ Below B W wr ∧ W.heap.size ≤ wr.heap.size ∧ BoxN wr w.heap.size 32 [.slice A1 n1 c1, .slice (some ⟨g2, 0, none⟩) n2 n2]) (fun _ _ _ _ _ i _ => n1 - (intOf i).toNat)
  case atStart => exact ⟨0, Nat.zero_le _, rfl, HO0.out, Below.refl _ _, Nat.le_refl _, HBx.out⟩
  case round =>
    obtain ⟨j, hj, rfl, hown, hbel, hwz, hbx⟩ := hrel
    have HO := Lib.hid hown
    have HBl := Lib.hid hbel
    have HBb := Lib.hid hbx
    obtain ⟨x0, x1⟩ := box2 hbx
    by_cases hlt : j < n1
    · have hs := HGr.out j
      have hbd := HBd.out j
      have HRs := Lib.hid (rndI_succ (ts := ts) ρ j)
      obtain ⟨σ, hσ⟩ : ∃ σ, rndI ts ρ j = σ := ⟨_, rfl⟩
      rw [hσ] at hs hbd HO hown HRs
      have HS := Lib.hid hs
      have HBnd := Lib.hid hbd
      obtain ⟨hgb, hgl, hI⟩ := own_len hown hs.len
      obtain ⟨b, off, p, eA, hbb, hp, e0⟩ := IntsAt.get hI hlt
      injection eA with eA
      injection eA with e1 e2
      subst e1 e2
      rw [Nat.zero_add] at e0
      have HPp := Lib.hid hp
      have hplow := hs.low hp
      have CS := sfrom_any A1 g2 n1 c1 n2 ts (j : Int) wr ((HT.out.below HBl.out).wide (Nat.le_trans hBW hwz)) hn2 HP.out (by omega)
      have hol : (outOf ts j).length ≤ 1048576 := by have := out_len ts j; have := HL.out; omega
      have HSt := Lib.hid (fun s (hs : s ∈ outOf ts j) => HTo.out s (List.mem_filter.1 hs).1)
      obtain ⟨ss, hss⟩ : ∃ ss, outOf ts j = ss := ⟨_, rfl⟩
      have HSs := Lib.hid hss
      rw [hss] at CS hol HSt
      obtain ⟨R, hR⟩ : ∃ R, ss.length = R := ⟨_, rfl⟩
      have HRl := Lib.hid hR
      rw [hR] at CS hol
      clear hown hbel hbx hσ hs hbd hI hp hss hR
      go_wp2_with fail
      refine CS.mono ?_
      rintro e w3 ⟨off3, c3, rfl, ht3, hb3⟩
      have HT3 := Lib.hid ht3
      have HO3 := Lib.hid (own_keep HO.out hb3)
      have HB3 := Lib.hid (HBl.out.trans (hb3.mono (Nat.le_trans hBW hwz)))
      have HBb3 := Lib.hid (HBb.out.on hb3)
      have hwz3 : W.heap.size ≤ w3.heap.size := Nat.le_trans hwz hb3.size
      have e3 := (hb3.cell (p := ⟨g, j, none⟩) hgl).trans e0
      have hgl3 : g < w3.heap.size := Nat.lt_of_lt_of_le hgl hb3.size
      clear CS ht3 hb3 e0 x0 x1
      by_cases hpn : p = -1
      · by_cases hR0 : R = 0
        · have hst : stepI ts σ j = σ := step_no (.inr (by rw [HSs.out]; unfold rkv; rw [if_pos (List.eq_nil_of_length_eq_zero (by have := HRl.out; omega))]))
          have HE := Lib.hid (HRs.out.trans hst)
          subst hR0 hpn
          clear hst
          go_wp2_with fail
          go_roundw
          case rel => exact ⟨j + 1, by omega, by go_num, by rw [HE.out]; exact HO3.out, HB3.out, hwz3, HBb3.out⟩
          case measure => simp [intOf]; omega
        · have hRz : ((R : Int) == 0) = false := by rw [beq_eq_false_iff_ne]; omega
          subst hpn
          have hmj := mostL_le (fun s => (HBnd.out).at (by omega) s)
          have HMx := Lib.hid (fun k => hmj (ss.take k) 0 (by omega))
          have HMa := Lib.hid (hmj ss 0 (by omega))
          have HAt := Lib.hid (fun s => (HBnd.out).at (by omega) s)
          have hMj : M + (j : Int) ≤ 2097152 := by omega
          clear hmj
          go_wp2_with fail
          go_loopw [6, 8, 9, 30] (fun m _ _ q wr => ∃ k : Nat, k ≤ R ∧ q = .int .i64 k ∧ m = .int .i64 (mostL 0 σ (ss.take k)) ∧ (∀ (q : Nat) s, q < k → ss[q]? = some s → 0 ≤ at' σ s) ∧ Below w3.heap.size w3 wr) (fun _ _ _ q _ => R - (intOf q).toNat)
          case atStart => exact ⟨0, Nat.zero_le _, rfl, rfl, fun q s hq => absurd hq (Nat.not_lt_zero q), Below.refl _ _⟩
          case round =>
            obtain ⟨k, hk, rfl, rfl, hok, hbel⟩ := hrel
            have HOk := Lib.hid hok
            have HBi := Lib.hid hbel
            have HO5 := Lib.hid (own_keep HO3.out hbel)
            have HB5 := Lib.hid (HB3.out.trans (hbel.mono (Nat.le_trans hBW hwz3)))
            have HBb5 := Lib.hid (HBb3.out.on hbel)
            have hwz5 : W.heap.size ≤ wr.heap.size := Nat.le_trans hwz3 hbel.size
            by_cases hlt2 : k < R
            · obtain ⟨b, off, s, eB, hbb2, hx, d0, d1, d2⟩ := HT3.out.get hlt2
              injection eB with eB
              injection eB with eb eo
              subst eb eo
              have f0 := (hbel.cell (p := ⟨g2, off3 + k * 3, none⟩) hbb2).trans d0
              have f1 := (hbel.cell (p := ⟨g2, off3 + k * 3 + 1, none⟩) hbb2).trans d1
              have f2 := (hbel.cell (p := ⟨g2, off3 + k * 3 + 2, none⟩) hbb2).trans d2
              obtain ⟨-, -, hI5⟩ := own_len HO5.out HS.out.len
              obtain ⟨q, br, or', hq, hqn, eC, hbr, hcr⟩ := rank_cell hI5 (HSt.out s (List.mem_of_getElem? hx))
              injection eC with eC
              injection eC with ec ef
              subst ec ef
              rw [Nat.zero_add] at hcr
              rw [hq] at f2
              have HSn := Lib.hid (mostL_snoc (ρ := σ) (m := 0) hx)
              have hav := HAt.out s
              have hmv := HMx.out k
              have hml := mostL_ge σ (ss.take k) 0
              have hlo := HS.out.low (at_get (ρ := σ) (s := s) (by rw [HS.out.len]; exact HSt.out s (List.mem_of_getElem? hx)))
              have HX := Lib.hid hx
              obtain ⟨a, ha⟩ : ∃ a, at' σ s = a := ⟨_, rfl⟩
              have HAe := Lib.hid ha
              rw [ha] at hcr hav HSn hlo
              obtain ⟨P, hP⟩ : ∃ P, mostL 0 σ (ss.take k) = P := ⟨_, rfl⟩
              rw [hP] at hmv hml HSn ⊢
              have b3 := BoxN.new wr #[.int .i64 s.1, .int .i64 s.2.1, .int .i64 q] 76
              have hb3 := (Below.refl wr.heap.size wr).alloc (Nat.le_refl _) (.cells #[.int .i64 s.1, .int .i64 s.2.1, .int .i64 q] 76)
              obtain ⟨z0, z1, z2⟩ := box3 b3
              have hcr3 := (hb3.cell (p := ⟨g, q, none⟩) hbr).trans hcr
              obtain ⟨W3, hW3⟩ : ∃ W3, wr.alloc (.cells #[.int .i64 s.1, .int .i64 s.2.1, .int .i64 q] 76) = W3 := ⟨_, rfl⟩
              have HW3 := Lib.hid hW3
              have HB33 := Lib.hid (show Below wr.heap.size wr W3 by rw [← hW3]; exact hb3)
              clear d0 d1 d2 hx hI5 hP ha hok hbel hcr hbr hb3 hW3 b3
              by_cases han : a = -1
              · have hno : okL σ ss = false := List.all_eq_false.2 ⟨s, List.mem_of_getElem? HX.out, by rw [HAe.out]; simp; omega⟩
                have hst : stepI ts σ j = σ := step_no (.inr (by rw [HSs.out]; unfold rkv; rw [hno]; split <;> simp))
                have HE := Lib.hid (HRs.out.trans hst)
                have HO7 := Lib.hid (own_keep HO5.out HB33.out)
                have HB7 := Lib.hid (HB5.out.trans (HB33.out.mono (Nat.le_trans hBW hwz5)))
                have HBb7 := Lib.hid (HBb5.out.on HB33.out)
                have hwz7 : W.heap.size ≤ W3.heap.size := Nat.le_trans hwz5 HB33.out.size
                subst han
                clear hno hst
                go_wp2_with fail
                rw [HW3.out]
                go_roundw
                case rel => exact ⟨j + 1, by omega, by go_num, by rw [HE.out]; exact HO7.out, HB7.out, hwz7, HBb7.out⟩
                case measure => simp [intOf]; omega
              · have ha0 : 0 ≤ a := by omega
                have hne : (a == -1) = false := by rw [beq_eq_false_iff_ne]; exact han
                have HNx : Hid (∀ (q : Nat) u, q < k + 1 → ss[q]? = some u → 0 ≤ at' σ u) := Lib.hid (fun q u hq hu => by
                  by_cases e : q = k
                  · subst e; rw [HX.out] at hu; injection hu with hu; subst hu; rw [HAe.out]; exact ha0
                  · exact HOk.out q u (by omega) hu)
                have HBj := Lib.hid (HBi.out.trans (HB33.out.mono HBi.out.size))
                go_wp2_with fail
                rw [HW3.out]
                go_roundw
                case rel => exact ⟨k + 1, by omega, by go_num, by rw [HSn.out], HNx.out, HBj.out⟩
                case measure => simp [intOf]; omega
            · obtain rfl : k = R := by omega
              have hall : ss.take k = ss := List.take_of_length_le (by have := HRl.out; omega)
              have hmv := HMa.out
              have hml := mostL_ge σ ss 0
              have hok2 : okL σ ss = true := List.all_eq_true.2 (fun s hs => by
                obtain ⟨q, hq⟩ := List.getElem?_of_mem hs
                exact decide_eq_true (HOk.out q s (by have := (List.getElem?_eq_some_iff.1 hq).1; have := HRl.out; omega) hq))
              have hst : stepI ts σ j = σ.set j (mostL 0 σ ss + 1) := by
                rw [← HSs.out]
                exact step_yes (getD_of HPp.out) (by rw [HSs.out]; intro e; rw [e] at HRl; exact hR0 HRl.out.symm) (by rw [HSs.out]; exact hok2)
              have HE := Lib.hid (HRs.out.trans hst)
              rw [hall]
              obtain ⟨P, hP⟩ : ∃ P, mostL 0 σ ss = P := ⟨_, rfl⟩
              rw [hP] at HE hmv hml ⊢
              obtain ⟨hset, ⟨z, hcz⟩, hfz, -⟩ := own_set (u := .int .i64 (P + 1)) (k := j) HO5.out (by rw [List.length_map, HS.out.len]; exact hlt)
              rw [← List.map_set, ← HE.out] at hset
              have HSet := Lib.hid hset
              have HB7 := Lib.hid (HB5.out.setCell (p := ⟨g, j, none⟩) hgb (.int .i64 (P + 1)))
              have HBb7 : Hid (BoxN (wr.setCell ⟨g, j, none⟩ (.int .i64 (P + 1))) w.heap.size 32 _) := Lib.hid (HBb5.out.other (Nat.ne_of_gt hgw) j _)
              have hz7 : (wr.setCell ⟨g, j, none⟩ (.int .i64 (P + 1))).heap.size = wr.heap.size := by simp [World.setCell]
              have hwz7 : W.heap.size ≤ (wr.setCell ⟨g, j, none⟩ (.int .i64 (P + 1))).heap.size := by rw [hz7]; exact hwz5
              have HWz7 := Lib.hid hwz7
              clear hset hok2 hst hall hP hok hbel hz7 hwz7
              go_wp2_with fail
              go_roundw
              case rel => exact ⟨j + 1, by omega, by go_num, HSet.out, HB7.out, HWz7.out, HBb7.out⟩
              case measure => simp [intOf]; omega
      · have hst : stepI ts σ j = σ := step_no (.inl (by rw [getD_of HPp.out]; exact hpn))
        have HE := Lib.hid (HRs.out.trans hst)
        have hne : (p == -1) = false := by rw [beq_eq_false_iff_ne]; exact hpn
        clear hst
        go_wp2_with fail
        go_roundw
        case rel => exact ⟨j + 1, by omega, by go_num, by rw [HE.out]; exact HO3.out, HB3.out, hwz3, HBb3.out⟩
        case measure => simp [intOf]; omega
    · obtain rfl : n1 = j := by omega
      have HBz := Lib.hid (HB0.out.trans HBl.out)
      clear hown hbel hbx
      go_wp2_with fail
      exact ⟨rfl, .tuple #[], by simp [results, Try.f84], rfl, HO.out, HBz.out⟩
end Go.Proofs.Ytlpgldejmdiceaa.rki
