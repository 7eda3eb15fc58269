/- spec.l10Far. -/
import Derived.Test.YtlpgldejmdiceaaRks
import Derived.Test.YtlpgldejmdiceaaFai
import Derived.Test.YtlpgldejmdiceaaPti
namespace Go.Proofs.Ytlpgldejmdiceaa.fas
open kit bg sg opn strs only hb sig isig un over gn nm inn ht gd im pt marks eqs hc hi hw hn rs br bm bw cf lf ib isa lawb lw cl bgs cz has syx sya rea rkx fax syh syi syc syg syb syk syl syt syr rcs rci rcf rks rki rkf fai pti
open Go.RowKit
set_option linter.unusedVariables false
set_option linter.unusedSimpArgs false
theorem bf_wit {n : Nat} {ts : List Tri} {gs : List Int} (ht : ∀ t ∈ ts, (0 ≤ t.1 ∧ t.1 < (n : Int)) ∧ 0 ≤ t.2.2 ∧ t.2.2 < (n : Int)) : ∀ (vs : List Tri) (ρ : List Int), (∀ v ∈ vs, v ∈ ts) → Wit n ts gs ρ → Wit n ts gs (vs.foldl stepF ρ)
  | [], _, _, h => h
  | v :: vs, ρ, h1, h => bf_wit ht vs (stepF ρ v) (fun x hx => h1 x (List.mem_cons_of_mem _ hx)) (wit_step ht (h1 v List.mem_cons_self) h)
theorem bf_bnd1 {M : Int} {ρ : List Int} (h : Bnd M ρ) (h0 : 0 ≤ M) (s : Tri) : Bnd (M + 1) (stepF ρ s) := fun i r hr => by
  unfold stepF at hr
  split at hr
  · rcases set_get hr with ⟨_, e, _⟩ | ⟨_, e⟩
    · have := h.at h0 s; omega
    · have := h i r e; omega
  · have := h i r hr; omega
theorem bf_bnd : ∀ (vs : List Tri) (ρ : List Int) (M : Int), 0 ≤ M → Bnd M ρ → Bnd (M + vs.length) (vs.foldl stepF ρ)
  | [], ρ, M, _, h => by simpa using h
  | v :: vs, ρ, M, h0, h => by
    have := bf_bnd vs (stepF ρ v) (M + 1) (by omega) (bf_bnd1 h h0 v)
    rw [show M + ((v :: vs).length : Int) = M + 1 + vs.length by simp; omega]
    exact this
theorem bf_snoc {ts : List Tri} {ρ : List Int} {k : Nat} {t : Tri} (h : ts[k]? = some t) : (ts.take (k + 1)).foldl stepF ρ = stepF ((ts.take k).foldl stepF ρ) t := by
  rw [List.take_add_one, h, List.foldl_append]
  rfl
theorem stepF_yes {ρ : List Int} {s : Tri} (h : 0 ≤ at' ρ s) (h2 : fr' ρ s < 0 ∨ at' ρ s + 1 < fr' ρ s) : stepF ρ s = ρ.set s.1.toNat (at' ρ s + 1) := by unfold stepF; rw [if_pos ⟨h, h2⟩]
theorem stepF_no {ρ : List Int} {s : Tri} (h : ¬ (0 ≤ at' ρ s ∧ (fr' ρ s < 0 ∨ at' ρ s + 1 < fr' ρ s))) : stepF ρ s = ρ := by unfold stepF; rw [if_neg h]
set_option maxRecDepth 20000 in
set_option maxHeartbeats 12800000 in
theorem lfar_any (A1 A2 : Option Addr) (n1 c1 n2 c2 : Nat) (ts : List Tri) (Ag : Option Addr) (ng cg : Nat) (gs : List Int) (w : World) (h : TriAt w w.heap.size A2 n2 ts) (hg : IntsAt w w.heap.size Ag ng gs) (hn1 : n1 ≤ 40) (hn2 : n2 ≤ 1048576) (hng : ng ≤ 1048576) (ht : ∀ t ∈ ts, (0 ≤ t.1 ∧ t.1 < (n1 : Int)) ∧ 0 ≤ t.2.2 ∧ t.2.2 < (n1 : Int)) :
    Calls Try.prog 67 #[.agg #[.slice A1 n1 c1, .slice A2 n2 c2], .slice Ag ng cg] w fun e w' => ∃ v, e = .returned v ∧ Owns w' w.heap.size 3 v ((faL n1 ts gs).map (Value.int .i64)) ∧ Below w.heap.size w w' := by
  obtain ⟨i0, hi, hz0, hz1, hz2⟩ := info_parts int_info
  have HI := Lib.hid (And.intro hi (And.intro hz0 (And.intro hz1 hz2)))
  have HL := Lib.hid h.1
  have HB0 := Lib.hid ((Below.refl w.heap.size w).alloc (Nat.le_refl _) (.cells #[.slice A1 n1 c1, .slice A2 n2 c2] 32))
  have HBx := Lib.hid (BoxN.new w #[.slice A1 n1 c1, .slice A2 n2 c2] 32)
  obtain ⟨W, hW⟩ : ∃ W, w.alloc (.cells #[.slice A1 n1 c1, .slice A2 n2 c2] 32) = W := ⟨_, rfl⟩
  rw [hW] at HBx HB0
  have HWq := Lib.hid hW
  have hWs := HBx.out.lt
  have hsz1 : W.heap.size = w.heap.size + 1 := by rw [← HWq.out]; simp
  have hOn : Owns (W.alloc (.cells #[] 3)) W.heap.size 3 (.slice (some ⟨w.heap.size + 1, 0, none⟩) 0 0) [] := by rw [← hsz1]; exact own_new W
  have hb2 := (Below.refl W.heap.size W).alloc (Nat.le_refl _) (.cells #[] 3)
  obtain ⟨W2, hW2⟩ : ∃ W2, W.alloc (.cells #[] 3) = W2 := ⟨_, rfl⟩
  rw [hW2] at hOn hb2
  have HOn := Lib.hid hOn
  have HB2 := Lib.hid hb2
  have HW2 := Lib.hid hW2
  have HT := Lib.hid ((h.below HB0.out).wide HB0.out.size)
  have HGs := Lib.hid ((hg.below HB0.out).wide HB0.out.size)
  have HTo := Lib.hid ht
  clear hW hW2 hOn hb2 h hg ht hi hz0 hz1 hz2
  go_enter Try.func67, Try.ntmps67
  go_wp2_with fail
  rw [HWq.out]
  try go_wp2_with fail
  rw [HW2.out]
  try go_wp2_with fail
  go_loopw [5, 6] (fun v i wr => ∃ k : Nat, k ≤ n1 ∧ i = .int .i64 k ∧ Owns wr W.heap.size 3 v ((rk0 k gs).map (Value.int .i64)) ∧ Below W.heap.size W wr) (fun _ i _ => n1 - (intOf i).toNat)
  case atStart => exact ⟨0, Nat.zero_le _, rfl, HOn.out, HB2.out⟩
  case round =>
    obtain ⟨k, hk, rfl, hown, hbel⟩ := hrel
    have HBW := Lib.hid hbel
    have hwz : W.heap.size ≤ wr.heap.size := hbel.size
    obtain ⟨x0, x1⟩ := box2 (HBx.out.below hbel hWs)
    by_cases hlt : k < n1
    · have hrl : (rk0 k gs).length = k := rk0_len
      have HRs := Lib.hid (show rk0 (k + 1) gs = rk0 k gs ++ [if hasB gs (k : Int) = true then (0 : Int) else -1] by unfold rk0; rw [List.range_succ, List.map_append]; rfl)
      obtain ⟨zs, hzs⟩ : ∃ zs, rk0 k gs = zs := ⟨_, rfl⟩
      rw [hzs] at hrl hown HRs
      obtain ⟨hown, hnn⟩ := hown
      have HN := Lib.hid hnn
      obtain ⟨D, hD⟩ : ∃ D, zs.map (Value.int .i64) = D := ⟨_, rfl⟩
      have hDl : D.length = k := by rw [← hD, List.length_map, hrl]
      rw [hD, hDl] at hown
      have HOq := Lib.hid hown
      have HD := Lib.hid hD
      have HRl := Lib.hid hrl
      have hlt0 := hown.lt
      have CH := l1Has_any Ag ng cg gs (k : Int) wr _ (HGs.out.below HBW.out) hng
      clear hnn hzs hD hown hDl hbel
      cases hq : hasB gs (k : Int) with
      | false =>
        rw [hq] at CH HRs
        clear hq
        go_wp2_with fail
        refine CH.mono ?_
        rintro e w7 ⟨rfl, rfl⟩
        clear CH
        go_wp2_with (at_builtin; refine wpList_append_own _ rfl _ _ 38 rfl W.heap.size 3 i0 (.int .i64 0) 1 8 Try.underlying38 HI.out.1 HI.out.2.1 HI.out.2.2.1 HI.out.2.2.2 rfl (by decide) _ _ _ rfl (HOq.out.alloc _) ⟨wr.heap.size, 0, none⟩ 1 1 [.int .i64 (-1)] rfl rfl (cell_one_new _ _ _) (fun u hu => by rw [List.mem_singleton.1 hu]; rfl) (by unfold maxLen; omega) (by omega) (by simp; omega) ?_; intro v1 w6 hown1 hgrow1 hnil1)
        have HB6 := Lib.hid ((HBW.out.alloc hwz (.cells #[.int .i64 (-1)] 3)).grown hgrow1 (by simp; omega) (fun j hj => (hlt0 j hj).1))
        have HO6 := Lib.hid (own_push hown1 HD.out HRl.out (fun h => HN.out (hnil1.1 h).1))
        clear hown1 hgrow1 hnil1 hlt0
        go_wp2_with fail
        go_roundw
        case rel => exact ⟨k + 1, by omega, by go_num, by rw [HRs.out]; exact HO6.out, HB6.out⟩
        case measure => simp [intOf]; omega
      | true =>
        rw [hq] at CH HRs
        clear hq
        go_wp2_with fail
        refine CH.mono ?_
        rintro e w7 ⟨rfl, rfl⟩
        clear CH
        go_wp2_with (at_builtin; refine wpList_append_own _ rfl _ _ 38 rfl W.heap.size 3 i0 (.int .i64 0) 1 8 Try.underlying38 HI.out.1 HI.out.2.1 HI.out.2.2.1 HI.out.2.2.2 rfl (by decide) _ _ _ rfl (HOq.out.alloc _) ⟨wr.heap.size, 0, none⟩ 1 1 [.int .i64 0] rfl rfl (cell_one_new _ _ _) (fun u hu => by rw [List.mem_singleton.1 hu]; rfl) (by unfold maxLen; omega) (by omega) (by simp; omega) ?_; intro v1 w6 hown1 hgrow1 hnil1)
        have HB6 := Lib.hid ((HBW.out.alloc hwz (.cells #[.int .i64 0] 3)).grown hgrow1 (by simp; omega) (fun j hj => (hlt0 j hj).1))
        have HO6 := Lib.hid (own_push hown1 HD.out HRl.out (fun h => HN.out (hnil1.1 h).1))
        clear hown1 hgrow1 hnil1 hlt0
        go_wp2_with fail
        go_roundw
        case rel => exact ⟨k + 1, by omega, by go_num, by rw [HRs.out]; exact HO6.out, HB6.out⟩
        case measure => simp [intOf]; omega
    · obtain rfl : n1 = k := by omega
      obtain ⟨g, cp, rfl, hgb0, -, -⟩ := own_ints hown rk0_len
      have HO := Lib.hid hown
      clear hown hbel
      go_wp2_with fail
      clear x0 x1
      rename World => w5
      go_loopw [7, 8, 9] (fun i _ _ wr => ∃ r : Nat, r ≤ n1 ∧ i = .int .i64 r ∧ Owns wr W.heap.size 3 (.slice (some ⟨g, 0, none⟩) n1 cp) ((bfs ts (rk0 n1 gs) r).map (Value.int .i64)) ∧ Below W.heap.size W wr ∧ Bnd ((r : Int) * 1048576) (bfs ts (rk0 n1 gs) r)) (fun i _ _ _ => n1 - (intOf i).toNat)
      case atStart => exact ⟨0, Nat.zero_le _, rfl, HO.out, HBW.out, by simpa [bfs] using bnd_rk0⟩
      case round =>
        obtain ⟨r, hr, rfl, hown, hbel, hbd⟩ := hrel
        have HOr := Lib.hid hown
        have HBr := Lib.hid hbel
        have HBd := Lib.hid hbd
        obtain ⟨x0, x1⟩ := box2 (HBx.out.below hbel hWs)
        have hwit : Wit n1 ts gs (bfs ts (rk0 n1 gs) r) := by
          have hl := lvls_lev (gs := gs) HTo.out n1
          exact (bfs_has HTo.out hl.wit (lev_stab HTo.out hl) r).1
        by_cases hlt : r < n1
        · have HNx : Hid (bfs ts (rk0 n1 gs) (r + 1) = ts.foldl stepF (bfs ts (rk0 n1 gs) r)) := Lib.hid rfl
          obtain ⟨ρ, hρ⟩ : ∃ ρ, bfs ts (rk0 n1 gs) r = ρ := ⟨_, rfl⟩
          rw [hρ] at HOr HBd HNx hwit
          have HWit := Lib.hid hwit
          clear hown hbel hbd hρ hwit
          go_wp2_with fail
          clear x0 x1
          rename World => w6
          go_loopw [8, 9] (fun i _ wr => ∃ k : Nat, k ≤ n2 ∧ i = .int .i64 k ∧ Owns wr W.heap.size 3 (.slice (some ⟨g, 0, none⟩) n1 cp) (((ts.take k).foldl stepF ρ).map (Value.int .i64)) ∧ Below W.heap.size W wr) (fun i _ _ => n2 - (intOf i).toNat)
          case atStart => exact ⟨0, Nat.zero_le _, rfl, HOr.out, HBr.out⟩
          case round =>
            obtain ⟨k, hk, rfl, hown, hbel⟩ := hrel
            have HOk := Lib.hid hown
            have HBk := Lib.hid hbel
            have hwk : W.heap.size ≤ wr.heap.size := hbel.size
            obtain ⟨x0, x1⟩ := box2 (HBx.out.below hbel hWs)
            by_cases hlt2 : k < n2
            · obtain ⟨b, off, s, rfl, hbb, hx, e0, e1, e2⟩ := HT.out.get hlt2
              have f0 := (hbel.cell (p := ⟨b, off + k * 3, none⟩) hbb).trans e0
              have f1 := (hbel.cell (p := ⟨b, off + k * 3 + 1, none⟩) hbb).trans e1
              have f2 := (hbel.cell (p := ⟨b, off + k * 3 + 2, none⟩) hbb).trans e2
              have hwk2 := bf_wit HTo.out (ts.take k) ρ (fun _ hx => List.mem_of_mem_take hx) HWit.out
              have hbk2 := bf_bnd (ts.take k) ρ _ (by omega) HBd.out
              rw [List.length_take] at hbk2
              have hln := hwk2.len
              have HSn := Lib.hid (bf_snoc (ρ := ρ) hx)
              obtain ⟨σ, hσ⟩ : ∃ σ, (ts.take k).foldl stepF ρ = σ := ⟨_, rfl⟩
              rw [hσ] at hln HSn HOk hbk2
              have hab := hbk2.at (by omega) s
              obtain ⟨hgb, hgl, hI⟩ := own_len HOk.out hln
              obtain ⟨hts1, hts2⟩ := HTo.out s (List.mem_of_getElem? hx)
              obtain ⟨q2, b2, o2, hq2, hqn2, eA, hbr2, hc2⟩ := rank_cell hI hts2
              injection eA with eA
              injection eA with ea eo
              subst ea eo
              obtain ⟨q1, b1, o1, hq1, hqn1, eB, hbr1, hc1⟩ := from_cell hI hts1
              injection eB with eB
              injection eB with eb ef
              subst eb ef
              rw [Nat.zero_add] at hc1 hc2
              have hq1n : s.1.toNat = q1 := by omega
              rw [hq1] at f0
              rw [hq2] at f2
              have b3 := BoxN.new wr #[.int .i64 (q1 : Int), .int .i64 s.2.1, .int .i64 (q2 : Int)] 76
              have hb3 := (Below.refl wr.heap.size wr).alloc (Nat.le_refl _) (.cells #[.int .i64 (q1 : Int), .int .i64 s.2.1, .int .i64 (q2 : Int)] 76)
              obtain ⟨W3, hW3⟩ : ∃ W3, wr.alloc (.cells #[.int .i64 (q1 : Int), .int .i64 s.2.1, .int .i64 (q2 : Int)] 76) = W3 := ⟨_, rfl⟩
              rw [hW3] at b3 hb3
              have HW3 := Lib.hid hW3
              have HB3x := Lib.hid b3
              have d1 := (hb3.cell (p := ⟨g, q1, none⟩) hbr1).trans hc1
              have d2 := (hb3.cell (p := ⟨g, q2, none⟩) hbr2).trans hc2
              have hgl3 : g < W3.heap.size := Nat.lt_of_lt_of_le hgl hb3.size
              have hw37 : W.heap.size ≤ W3.heap.size := Nat.le_trans hwk hb3.size
              have HO7 := Lib.hid (own_keep HOk.out hb3)
              have HB7 := Lib.hid (hbel.trans (hb3.mono hwk))
              obtain ⟨z0, z1, z2⟩ := box3 b3
              obtain ⟨a, ha⟩ : ∃ a, at' σ s = a := ⟨_, rfl⟩
              obtain ⟨c, hc⟩ : ∃ c, fr' σ s = c := ⟨_, rfl⟩
              have HAe := Lib.hid ha
              have HCe := Lib.hid hc
              have hln1 := Lib.hid hln
              rw [ha] at d2 hab
              rw [hc] at d1
              have HD2 := Lib.hid d2
              have hβ : wr.heap.size < W3.heap.size := HB3x.out.lt
              rw [← HW3.out] at z0 z1 z2 d1 d2
              clear hown hbel hx e0 e1 e2 hσ hI hc1 hc2 hb3 b3 ha hc hln hwk2 hbk2 hW3
              by_cases ha0 : a < 0
              · have HE := Lib.hid (HSn.out.trans (stepF_no (fun hh => by have := hh.1; rw [HAe.out] at this; omega)))
                have hd : decide (0 ≤ a) = false := decide_eq_false (by omega)
                have hd0 : ¬ 0 ≤ a := by omega
                go_wp2_with fail
                rw [HW3.out] at z0 z1 z2 d1 d2 ⊢
                have s0 := Over.get z0 hβ
                have s2 := Over.get z2 hβ
                have t1 := Over.get d1 hgl3
                have t2 := Over.get d2 hgl3
                clear z0 z1 z2 d1 d2
                refine wp_region_over (by kernel_rfl) (by kernel_rfl) ?_
                repeat (go_big_quiet_step (fail))
                refine wpQuiet_nil ?_
                rintro _ ⟨y', rfl⟩
                have hBW := y'.below
                obtain ⟨W8, hW8⟩ : ∃ W8, y'.w = W8 := ⟨_, rfl⟩
                rw [hW8] at hBW ⊢
                clear hW8 s0 s2 t1 t2
                have HO8 := Lib.hid (own_keep HO7.out hBW)
                have HB8 := Lib.hid (HB7.out.trans (hBW.mono hw37))
                clear hBW
                go_wp2_with fail
                go_roundw
                case rel => exact ⟨k + 1, by omega, by go_num, by rw [HE.out]; exact HO8.out, HB8.out⟩
                case measure => simp [intOf]; omega
              · have ha1 : 0 ≤ a := by omega
                by_cases hc0 : c < 0
                · have hst := HSn.out.trans (stepF_yes (by rw [HAe.out]; exact ha1) (.inl (by rw [HCe.out]; exact hc0)))
                  rw [hq1n, HAe.out] at hst
                  have HE := Lib.hid hst
                  clear hst
                  go_wp2_with fail
                  rw [HW3.out] at z0 z1 z2 d1 d2 ⊢
                  have s0 := Over.get z0 hβ
                  have s2 := Over.get z2 hβ
                  have t1 := Over.get d1 hgl3
                  have t2 := Over.get d2 hgl3
                  clear z0 z1 z2 d1 d2
                  refine wp_region_over (by kernel_rfl) (by kernel_rfl) ?_
                  repeat (go_big_quiet_step (fail))
                  refine wpQuiet_nil ?_
                  rintro _ ⟨y', rfl⟩
                  have hBW := y'.below
                  obtain ⟨W8, hW8⟩ : ∃ W8, y'.w = W8 := ⟨_, rfl⟩
                  rw [hW8] at hBW ⊢
                  clear hW8 s0 s2 t1 t2
                  obtain ⟨z0, z1, z2⟩ := box3 (HB3x.out.on hBW)
                  have dd2 := (hBW.cell (p := ⟨g, q2, none⟩) hgl3).trans HD2.out
                  have ho8 := own_keep HO7.out hBW
                  have hb8 := HB7.out.trans (hBW.mono hw37)
                  obtain ⟨hset, ⟨y, hcy⟩, hfz, -⟩ := own_set (u := .int .i64 (a + 1)) (k := q1) (own_keep ho8 (Below.refl W8.heap.size W8).drew) (by rw [List.length_map, hln1.out]; exact hqn1)
                  rw [← List.map_set, ← HE.out] at hset
                  have HSet := Lib.hid hset
                  have HB9 := Lib.hid ((hb8.trans ((Below.refl W8.heap.size W8).drew.mono hb8.size)).setCell (p := ⟨g, q1, none⟩) hgb (.int .i64 (a + 1)))
                  have HSk : Hid ((W8.drew.cell? ⟨wr.heap.size, 0, none⟩ = some (.int .i64 (q1 : Int)) ∧ W8.drew.cell? ⟨wr.heap.size, 2, none⟩ = some (.int .i64 (q2 : Int))) ∧ W8.drew.cell? ⟨g, q2, none⟩ = some (.int .i64 a)) := Lib.hid ⟨⟨z0, z2⟩, dd2⟩
                  clear hset ho8 hb8 hBW
                  go_wp2_with fail
                  refine rh.go_begin 10 (fun w' => (w'.cell? ⟨wr.heap.size, 0, none⟩ = some (.int .i64 (q1 : Int)) ∧ w'.cell? ⟨wr.heap.size, 2, none⟩ = some (.int .i64 (q2 : Int))) ∧ w'.cell? ⟨g, q2, none⟩ = some (.int .i64 a)) (by kernel_rfl) ?_ (fun hHeld => ?_)
                  · ((try dsimp only); exact HSk.out)
                  refine rh.go_take (i := 0) (v := ?v1) rfl (by kernel_rfl) (fun _ _ _ h => h) (Or.inl ⟨by rfl, ?hy1⟩) (by assumption) ?rest1
                  case hy1 => (intro wS hSw; (try dsimp only at hSw); go_simp; try (with_reducible rfl))
                  try simp only [Act.put, List.setIfInBounds_toArray, List.set_cons_zero, List.set_cons_succ]
                  refine rh.go_take (i := 1) (v := ?v2) rfl (by kernel_rfl) (fun _ _ _ h => h) (Or.inl ⟨by rfl, ?hy2⟩) (by assumption) ?rest2
                  case hy2 => (intro wS hSw; (try dsimp only at hSw); go_simp; try (with_reducible rfl))
                  try simp only [Act.put, List.setIfInBounds_toArray, List.set_cons_zero, List.set_cons_succ]
                  refine rh.go_take (i := 2) (v := ?v3) rfl (by kernel_rfl) (fun _ _ _ h => h) (Or.inl ⟨by rfl, ?hy3⟩) (by assumption) ?rest3
                  case hy3 => (intro wS hSw; (try dsimp only at hSw); go_simp; try (with_reducible rfl))
                  try simp only [Act.put, List.setIfInBounds_toArray, List.set_cons_zero, List.set_cons_succ]
                  refine rh.go_take (i := 3) (v := ?v4) rfl (by kernel_rfl) (fun _ _ _ h => h) (Or.inl ⟨by rfl, ?hy4⟩) (by assumption) ?rest4
                  case hy4 => (intro wS hSw; (try dsimp only at hSw); go_simp; try (with_reducible rfl))
                  try simp only [Act.put, List.setIfInBounds_toArray, List.set_cons_zero, List.set_cons_succ]
                  refine rh.go_take (i := 4) (v := ?v5) rfl (by kernel_rfl) (fun _ _ _ h => h) (Or.inl ⟨by rfl, ?hy5⟩) (by assumption) ?rest5
                  case hy5 => (intro wS hSw; (try dsimp only at hSw); go_simp; try (with_reducible rfl))
                  try simp only [Act.put, List.setIfInBounds_toArray, List.set_cons_zero, List.set_cons_succ]
                  refine rh.go_take (i := 5) (v := ?v6) rfl (by kernel_rfl) (fun _ _ _ h => h) (Or.inl ⟨by rfl, ?hy6⟩) (by assumption) ?rest6
                  case hy6 => (intro wS hSw; (try dsimp only at hSw); go_simp; try (with_reducible rfl))
                  try simp only [Act.put, List.setIfInBounds_toArray, List.set_cons_zero, List.set_cons_succ]
                  refine rh.go_take (i := 6) (v := ?v7) rfl (by kernel_rfl) (fun _ _ _ h => h) (Or.inl ⟨by rfl, ?hy7⟩) (by assumption) ?rest7
                  case hy7 => (intro wS hSw; (try dsimp only at hSw); go_simp; try (with_reducible rfl))
                  try simp only [Act.put, List.setIfInBounds_toArray, List.set_cons_zero, List.set_cons_succ]
                  refine rh.go_take (i := 7) (v := ?v8) rfl (by kernel_rfl) (fun _ _ _ h => h) (Or.inl ⟨by rfl, ?hy8⟩) (by assumption) ?rest8
                  case hy8 => (intro wS hSw; (try dsimp only at hSw); go_simp; try (with_reducible rfl))
                  try simp only [Act.put, List.setIfInBounds_toArray, List.set_cons_zero, List.set_cons_succ]
                  refine rh.go_take (i := 8) (v := ?v9) rfl (by kernel_rfl) (fun _ _ _ h => h) (Or.inl ⟨by rfl, ?hy9⟩) (by assumption) ?rest9
                  case hy9 => (intro wS hSw; (try dsimp only at hSw); go_simp; try (with_reducible rfl))
                  try simp only [Act.put, List.setIfInBounds_toArray, List.set_cons_zero, List.set_cons_succ]
                  refine rh.go_take (i := 9) (v := ?v10) rfl (by kernel_rfl) (fun _ _ _ h => h) (Or.inl ⟨by rfl, ?hy10⟩) (by assumption) ?rest10
                  case hy10 => (intro wS hSw; (try dsimp only at hSw); go_simp; try (with_reducible rfl))
                  try simp only [Act.put, List.setIfInBounds_toArray, List.set_cons_zero, List.set_cons_succ]
                  refine rh.go_last rfl (by kernel_rfl) (fun K2 hK => ?_)
                  go_simp
                  refine hK.out _ _ ?_
                  refine NoPanic.normal ?_
                  clear hK K2
                  go_wp2_with fail
                  go_roundw
                  case rel => exact ⟨k + 1, by omega, by go_num, HSet.out, HB9.out⟩
                  case measure => simp [intOf]; omega
                · by_cases hac : a + 1 < c
                  · have hst := HSn.out.trans (stepF_yes (by rw [HAe.out]; exact ha1) (.inr (by rw [HAe.out, HCe.out]; exact hac)))
                    rw [hq1n, HAe.out] at hst
                    have HE := Lib.hid hst
                    have hd1 : decide (c < 0) = false := decide_eq_false hc0
                    have hwr : IntKind.i64.wrap (a + 1) = a + 1 := IntWalk.i64_in _ (by omega)
                    have hd2 : decide (a + 1 < c) = true := decide_eq_true hac
                    clear hst
                    go_wp2_with fail
                    rw [HW3.out] at z0 z1 z2 d1 d2 ⊢
                    have s0 := Over.get z0 hβ
                    have s2 := Over.get z2 hβ
                    have t1 := Over.get d1 hgl3
                    have t2 := Over.get d2 hgl3
                    clear z0 z1 z2 d1 d2
                    refine wp_region_over (by kernel_rfl) (by kernel_rfl) ?_
                    repeat (go_big_quiet_step (fail))
                    refine wpQuiet_nil ?_
                    rintro _ ⟨y', rfl⟩
                    have hBW := y'.below
                    obtain ⟨W8, hW8⟩ : ∃ W8, y'.w = W8 := ⟨_, rfl⟩
                    rw [hW8] at hBW ⊢
                    clear hW8 s0 s2 t1 t2
                    obtain ⟨z0, z1, z2⟩ := box3 (HB3x.out.on hBW)
                    have dd2 := (hBW.cell (p := ⟨g, q2, none⟩) hgl3).trans HD2.out
                    have ho8 := own_keep HO7.out hBW
                    have hb8 := HB7.out.trans (hBW.mono hw37)
                    obtain ⟨hset, ⟨y, hcy⟩, hfz, -⟩ := own_set (u := .int .i64 (a + 1)) (k := q1) (own_keep ho8 (Below.refl W8.heap.size W8).drew) (by rw [List.length_map, hln1.out]; exact hqn1)
                    rw [← List.map_set, ← HE.out] at hset
                    have HSet := Lib.hid hset
                    have HB9 := Lib.hid ((hb8.trans ((Below.refl W8.heap.size W8).drew.mono hb8.size)).setCell (p := ⟨g, q1, none⟩) hgb (.int .i64 (a + 1)))
                    have HSk : Hid ((W8.drew.cell? ⟨wr.heap.size, 0, none⟩ = some (.int .i64 (q1 : Int)) ∧ W8.drew.cell? ⟨wr.heap.size, 2, none⟩ = some (.int .i64 (q2 : Int))) ∧ W8.drew.cell? ⟨g, q2, none⟩ = some (.int .i64 a)) := Lib.hid ⟨⟨z0, z2⟩, dd2⟩
                    clear hset ho8 hb8 hBW
                    go_wp2_with fail
                    refine rh.go_begin 10 (fun w' => (w'.cell? ⟨wr.heap.size, 0, none⟩ = some (.int .i64 (q1 : Int)) ∧ w'.cell? ⟨wr.heap.size, 2, none⟩ = some (.int .i64 (q2 : Int))) ∧ w'.cell? ⟨g, q2, none⟩ = some (.int .i64 a)) (by kernel_rfl) ?_ (fun hHeld => ?_)
                    · ((try dsimp only); exact HSk.out)
                    refine rh.go_take (i := 0) (v := ?v11) rfl (by kernel_rfl) (fun _ _ _ h => h) (Or.inl ⟨by rfl, ?hy11⟩) (by assumption) ?rest11
                    case hy11 => (intro wS hSw; (try dsimp only at hSw); go_simp; try (with_reducible rfl))
                    try simp only [Act.put, List.setIfInBounds_toArray, List.set_cons_zero, List.set_cons_succ]
                    refine rh.go_take (i := 1) (v := ?v12) rfl (by kernel_rfl) (fun _ _ _ h => h) (Or.inl ⟨by rfl, ?hy12⟩) (by assumption) ?rest12
                    case hy12 => (intro wS hSw; (try dsimp only at hSw); go_simp; try (with_reducible rfl))
                    try simp only [Act.put, List.setIfInBounds_toArray, List.set_cons_zero, List.set_cons_succ]
                    refine rh.go_take (i := 2) (v := ?v13) rfl (by kernel_rfl) (fun _ _ _ h => h) (Or.inl ⟨by rfl, ?hy13⟩) (by assumption) ?rest13
                    case hy13 => (intro wS hSw; (try dsimp only at hSw); go_simp; try (with_reducible rfl))
                    try simp only [Act.put, List.setIfInBounds_toArray, List.set_cons_zero, List.set_cons_succ]
                    refine rh.go_take (i := 3) (v := ?v14) rfl (by kernel_rfl) (fun _ _ _ h => h) (Or.inl ⟨by rfl, ?hy14⟩) (by assumption) ?rest14
                    case hy14 => (intro wS hSw; (try dsimp only at hSw); go_simp; try (with_reducible rfl))
                    try simp only [Act.put, List.setIfInBounds_toArray, List.set_cons_zero, List.set_cons_succ]
                    refine rh.go_take (i := 4) (v := ?v15) rfl (by kernel_rfl) (fun _ _ _ h => h) (Or.inl ⟨by rfl, ?hy15⟩) (by assumption) ?rest15
                    case hy15 => (intro wS hSw; (try dsimp only at hSw); go_simp; try (with_reducible rfl))
                    try simp only [Act.put, List.setIfInBounds_toArray, List.set_cons_zero, List.set_cons_succ]
                    refine rh.go_take (i := 5) (v := ?v16) rfl (by kernel_rfl) (fun _ _ _ h => h) (Or.inl ⟨by rfl, ?hy16⟩) (by assumption) ?rest16
                    case hy16 => (intro wS hSw; (try dsimp only at hSw); go_simp; try (with_reducible rfl))
                    try simp only [Act.put, List.setIfInBounds_toArray, List.set_cons_zero, List.set_cons_succ]
                    refine rh.go_take (i := 6) (v := ?v17) rfl (by kernel_rfl) (fun _ _ _ h => h) (Or.inl ⟨by rfl, ?hy17⟩) (by assumption) ?rest17
                    case hy17 => (intro wS hSw; (try dsimp only at hSw); go_simp; try (with_reducible rfl))
                    try simp only [Act.put, List.setIfInBounds_toArray, List.set_cons_zero, List.set_cons_succ]
                    refine rh.go_take (i := 7) (v := ?v18) rfl (by kernel_rfl) (fun _ _ _ h => h) (Or.inl ⟨by rfl, ?hy18⟩) (by assumption) ?rest18
                    case hy18 => (intro wS hSw; (try dsimp only at hSw); go_simp; try (with_reducible rfl))
                    try simp only [Act.put, List.setIfInBounds_toArray, List.set_cons_zero, List.set_cons_succ]
                    refine rh.go_take (i := 8) (v := ?v19) rfl (by kernel_rfl) (fun _ _ _ h => h) (Or.inl ⟨by rfl, ?hy19⟩) (by assumption) ?rest19
                    case hy19 => (intro wS hSw; (try dsimp only at hSw); go_simp; try (with_reducible rfl))
                    try simp only [Act.put, List.setIfInBounds_toArray, List.set_cons_zero, List.set_cons_succ]
                    refine rh.go_take (i := 9) (v := ?v20) rfl (by kernel_rfl) (fun _ _ _ h => h) (Or.inl ⟨by rfl, ?hy20⟩) (by assumption) ?rest20
                    case hy20 => (intro wS hSw; (try dsimp only at hSw); go_simp; try (with_reducible rfl))
                    try simp only [Act.put, List.setIfInBounds_toArray, List.set_cons_zero, List.set_cons_succ]
                    refine rh.go_last rfl (by kernel_rfl) (fun K2 hK => ?_)
                    go_simp
                    refine hK.out _ _ ?_
                    refine NoPanic.normal ?_
                    clear hK K2
                    go_wp2_with fail
                    go_roundw
                    case rel => exact ⟨k + 1, by omega, by go_num, HSet.out, HB9.out⟩
                    case measure => simp [intOf]; omega
                  · have HE := Lib.hid (HSn.out.trans (stepF_no (fun hh => by have := hh.2; rw [HAe.out, HCe.out] at this; omega)))
                    have hd1 : decide (c < 0) = false := decide_eq_false hc0
                    have hwr : IntKind.i64.wrap (a + 1) = a + 1 := IntWalk.i64_in _ (by omega)
                    have hd2 : decide (a + 1 < c) = false := decide_eq_false hac
                    go_wp2_with fail
                    rw [HW3.out] at z0 z1 z2 d1 d2 ⊢
                    have s0 := Over.get z0 hβ
                    have s2 := Over.get z2 hβ
                    have t1 := Over.get d1 hgl3
                    have t2 := Over.get d2 hgl3
                    clear z0 z1 z2 d1 d2
                    refine wp_region_over (by kernel_rfl) (by kernel_rfl) ?_
                    repeat (go_big_quiet_step (fail))
                    refine wpQuiet_nil ?_
                    rintro _ ⟨y', rfl⟩
                    have hBW := y'.below
                    obtain ⟨W8, hW8⟩ : ∃ W8, y'.w = W8 := ⟨_, rfl⟩
                    rw [hW8] at hBW ⊢
                    clear hW8 s0 s2 t1 t2
                    have HO8 := Lib.hid (own_keep HO7.out hBW)
                    have HB8 := Lib.hid (HB7.out.trans (hBW.mono hw37))
                    clear hBW
                    go_wp2_with fail
                    go_roundw
                    case rel => exact ⟨k + 1, by omega, by go_num, by rw [HE.out]; exact HO8.out, HB8.out⟩
                    case measure => simp [intOf]; omega
            · obtain rfl : n2 = k := by omega
              have hall : ts.take n2 = ts := List.take_of_length_le (by have := HL.out; omega)
              rw [hall, ← HNx.out] at HOk
              have hb2 := bf_bnd ts ρ _ (by omega) HBd.out
              rw [← HNx.out] at hb2
              have HBd2 : Hid (Bnd (((r + 1 : Nat) : Int) * 1048576) (bfs ts (rk0 n1 gs) (r + 1))) := Lib.hid (Fax_up hb2 (by have := HL.out; omega))
              clear hown hbel hall hb2
              go_wp2_with fail
              go_roundw
              case rel => exact ⟨r + 1, by omega, by go_num, HOk.out, HBk.out, HBd2.out⟩
              case measure => simp [intOf]; omega
        · obtain rfl : n1 = r := by omega
          have he : bfs ts (rk0 n1 gs) n1 = faL n1 ts gs := bfs_eq HTo.out
          rw [he] at HOr
          have HBz := Lib.hid (HB0.out.trans (HBr.out.mono HB0.out.size))
          have HOz := Lib.hid (HOr.out.mono HB0.out.size)
          clear hown hbel hbd
          go_wp2_with fail
          go_ret
          exact ⟨_, rfl, HOz.out, HBz.out⟩
end Go.Proofs.Ytlpgldejmdiceaa.fas
