/- LoopsOf of impl. -/
import Derived.Test.YtlpgldejmdiceaaLos
import Derived.Test.YtlpgldejmdiceaaNwh
import Derived.Test.YtlpgldejmdiceaaSyz
import Derived.Test.YtlpgldejmdiceaaPti
import Derived.Deep.RegionHeld3
namespace Go.Proofs.Ytlpgldejmdiceaa.loi
open kit bg sg opn strs only hb sig isig un over gn nm inn ht gd im pt marks eqs hc hi hw hn rs br bm bw cf lf ib isa lawb lw cl bgs cz has syx sya rea lox syh syi syc syg syb syk syl syt syr rcs rci rcf los nwh syz
open Go.RowKit
set_option linter.unusedVariables false
set_option linter.unusedSimpArgs false
/-- own cells stay where a row of another kind grows -/
theorem own_apart {w w' : World} {B r m : Nat} {t t' : TypeId} {v : Value} {ys : List Value} {f : Nat → Value} (h : Owns w B t v ys) (hr : w.rowIs r t' m f) (hne : t ≠ t') (hg : w.grownBy w' (some r)) : Owns w' B t v ys := by
  refine ⟨?_, h.2⟩
  rcases h.1 with ⟨h1, ⟨e, h2⟩ | ⟨g, cap, cur, e, hg2, hh, h3, h4, h5, h6⟩⟩
  · exact ⟨h1, .inl ⟨e, h2⟩⟩
  · have hrow : w.rowIs g t (cap * 1) (fun i => (cur[i]?).getD undef) := ⟨cur, hh, by simpa using h5, fun i hi => by
      show cur[i]? = some ((cur[i]?).getD undef)
      rw [Array.getElem?_eq_getElem (show i < cur.size by omega)]; rfl⟩
    refine ⟨h1, .inr ⟨g, cap, cur, e, hg2, (hg.block g (Array.getElem?_eq_some_iff.1 hh).1 (fun e2 => ?_)).trans hh, h3, h4, h5, h6⟩⟩
    injection e2 with e2
    subst e2
    exact hne (rowIs_uniq hrow hr).1
/-- the lists reached from each of the states before k -/
def Parts (n : Nat) (ts : List Tri) (w : World) (ys : List Value) (k : Nat) : Prop := ys.length = k ∧ ∀ (i : Nat) y, ys[i]? = some y → Owns w 0 3 y ((rcL n ts i).map (Value.int .i64))
theorem parts_on {n : Nat} {ts : List Tri} {w w' : World} {ys : List Value} {k : Nat} (h : Parts n ts w ys k) (hb : Below w.heap.size w w') : Parts n ts w' ys k := ⟨h.1, fun i y hy => own_keep (h.2 i y hy) hb⟩
theorem parts_apart {n : Nat} {ts : List Tri} {w w' : World} {ys : List Value} {k r m : Nat} {t' : TypeId} {f : Nat → Value} (h : Parts n ts w ys k) (hr : w.rowIs r t' m f) (hne : 3 ≠ t') (hg : w.grownBy w' (some r)) : Parts n ts w' ys k := ⟨h.1, fun i y hy => own_apart (h.2 i y hy) hr hne hg⟩
theorem parts_snoc {n : Nat} {ts : List Tri} {w : World} {ys : List Value} {k : Nat} {y : Value} (h : Parts n ts w ys k) (hy : Owns w 0 3 y ((rcL n ts k).map (Value.int .i64))) : Parts n ts w (ys ++ [y]) (k + 1) := by
  refine ⟨by rw [List.length_append, h.1]; rfl, fun i u hu => ?_⟩
  by_cases hi : i < k
  · rw [List.getElem?_append_left (by rw [h.1]; exact hi)] at hu
    exact h.2 i u hu
  · have hl := (List.getElem?_eq_some_iff.1 hu).1
    rw [List.length_append, h.1] at hl
    obtain rfl : i = k := by simp at hl; omega
    rw [List.getElem?_append_right (by rw [h.1]; exact Nat.le_refl _), h.1, Nat.sub_self] at hu
    injection hu with hu
    subst hu
    exact hy
set_option maxRecDepth 20000 in
set_option maxHeartbeats 3200000 in
theorem lo1_any (β1 β2 r n cp : Nat) (g R cp' : Nat) (L : List Int) (i k : Nat) (w : World) (h1 : w.cell? ⟨β1, 0, none⟩ = some (.slice (some ⟨r, 0, none⟩) n cp)) (h2 : w.cell? ⟨β2, 0, none⟩ = some (.int .i64 k)) (h3 : w.cell? ⟨r, i, none⟩ = some (.slice (some ⟨g, 0, none⟩) R cp')) (hi : i < n) (hn : n ≤ 1048576) (hL : IntsAt w w.heap.size (some ⟨g, 0, none⟩) R L) (hR : R ≤ 1048576) :
    Calls Try.prog 91 #[.int .i64 (i : Int), .pointer (some ⟨β1, 0, none⟩), .pointer (some ⟨β2, 0, none⟩)] w (Post (hasB L k) w) := by
  have CC := contains_any (some ⟨g, 0, none⟩) R cp' L (k : Int) w.drew _ (show IntsAt w.drew w.heap.size _ R L from IntsAt.below hL ((Below.refl w.heap.size w).drew)) hR
  have hbd := (Below.refl w.heap.size w).drew
  obtain ⟨q, hq⟩ : ∃ q, hasB L k = q := ⟨_, rfl⟩
  rw [hq] at CC ⊢
  clear hq hL
  go_enter Try.func91, Try.ntmps91
  go_wp2_with fail
  go_region_held3 (fun w' => w'.cell? ⟨β1, 0, none⟩ = some (.slice (some ⟨r, 0, none⟩) n cp) ∧ w'.cell? ⟨β2, 0, none⟩ = some (.int .i64 k) ∧ w'.cell? ⟨r, i, none⟩ = some (.slice (some ⟨g, 0, none⟩) R cp')) (first | exact ⟨h1, h2, h3⟩)
    (first
     | (go_at_call 80; refine CC.mono ?_; rintro e w3 ⟨rfl, rfl⟩))
  go_wp2_with fail
  go_ret
  exact ⟨rfl, hbd⟩
theorem slc_info : (Try.prog.info? 38).map (fun i => (i.zero, i.size, i.bytes)) = some (some (.slice none 0 0), 1, 24) := by kernel_rfl
theorem slc_ne : 3 ≠ 38 := by decide
theorem slc_ne2 : 3 ≠ 62 := by decide
theorem slc_ne3 : 38 ≠ 62 := by decide
theorem own_rows {w : World} {B : Nat} {t : TypeId} {v : Value} {ys : List Value} (h : Owns w B t v ys) : ∃ r m f, v.ownBlock = some r ∧ w.rowIs r t m f ∧ B ≤ r := by
  obtain ⟨g, cap, f, rfl, hb, hc, hr, hf⟩ := h.row
  exact ⟨g, cap, f, rfl, hr, hb⟩
set_option maxRecDepth 20000 in
set_option maxHeartbeats 12800000 in
theorem iLo_any (v : Value) (x : Sysm) (w : World) (hv : SysAt w w.heap.size v x) (hs : sysWt x ≤ 1048576) (hcap : CapS v) :
    Calls Try.prog 45 #[v] w (ResPost 3 (loQ x.states.length x.steps) ((loA x.states.length x.steps).map (Value.int .i64)) w) := by
  obtain ⟨A1, n1, c1, A2, n2, c2, rfl, h1, h2⟩ := hv
  obtain ⟨A1', n1', c1', g2, n2', ecap⟩ := hcap
  simp only [Value.agg.injEq, Array.mk.injEq, List.cons.injEq, Value.slice.injEq, and_true] at ecap
  obtain ⟨⟨e1, e2, e3⟩, e4, e5, e6⟩ := ecap
  subst e1 e2 e3 e4 e6
  subst e5
  have hl1 := h1.1
  have hl2 := h2.1
  have hn1 : n1 ≤ 1048576 := by unfold sysWt bgsWt at hs; omega
  have hn2 : n2 ≤ 1048576 := by unfold sysWt bgsWt at hs; omega
  have HB0 := Lib.hid ((Below.refl w.heap.size w).alloc (Nat.le_refl _) (.cells #[.slice A1 n1 c1, .slice (some ⟨g2, 0, none⟩) n2 n2] 32))
  have HBx := Lib.hid (BoxN.new w #[.slice A1 n1 c1, .slice (some ⟨g2, 0, none⟩) n2 n2] 32)
  obtain ⟨W, hW⟩ : ∃ W, w.alloc (.cells #[.slice A1 n1 c1, .slice (some ⟨g2, 0, none⟩) n2 n2] 32) = W := ⟨_, rfl⟩
  rw [hW] at HBx HB0
  have HWq := Lib.hid hW
  have hWs := HBx.out.lt
  have HX : Hid (SysAt W W.heap.size (.agg #[.slice A1 n1 c1, .slice (some ⟨g2, 0, none⟩) n2 n2]) x) := Lib.hid (((show SysAt w w.heap.size _ x from ⟨A1, n1, c1, (some ⟨g2, 0, none⟩), n2, n2, rfl, h1, h2⟩).below HB0.out).wide HB0.out.size)
  have HT := Lib.hid ((h2.below HB0.out).wide HB0.out.size)
  have HL2 := Lib.hid hl2
  have HS := Lib.hid hs
  obtain ⟨x0, x1⟩ := box2 HBx.out
  have CG := isSys_any _ x W HX.out hs
  rw [hl1] at CG
  rw [hl1]
  have HL1 := Lib.hid hl1
  obtain ⟨ts, hts⟩ : ∃ ts, x.steps = ts := ⟨_, rfl⟩
  rw [hts] at HT CG HL2 ⊢
  have HTs := Lib.hid hts
  obtain ⟨V, hV⟩ : ∃ V, loA n1 ts = V := ⟨_, rfl⟩
  obtain ⟨Q, hQ⟩ : ∃ Q, loQ n1 ts = Q := ⟨_, rfl⟩
  rw [hV, hQ]
  have HQd := Lib.hid hQ
  have HVd := Lib.hid hV
  clear hW h1 h2 hV hQ hl1 hl2 hts hs
  go_enter Try.func45, Try.ntmps45
  go_wp2_with fail
  rw [HWq.out]
  try go_wp2_with fail
  refine CG.mono ?_
  rintro e w1 ⟨rfl, hb1⟩
  clear CG x0 x1
  obtain ⟨x0, x1⟩ := box2 (HBx.out.below hb1 hWs)
  have HB1 := Lib.hid hb1
  clear hb1
  cases hq1 : goodB n1 ts with
  | false =>
    have hqf : loQ n1 ts = false := hq1
    have HF := Lib.hid (And.intro (HQd.out.symm.trans hqf) (HVd.out.symm.trans (lo_no hqf)))
    clear hq1 hqf
    go_wp2_with fail
    refine bodyPost_ret (results_tmp2 rfl _ _ _) rfl ?_
    exact ⟨_, by rw [HF.out.1]; rfl, by rw [HF.out.2]; exact Res.nil, HB0.out.trans (HB1.out.mono HB0.out.size)⟩
  | true =>
    have hqt : loQ n1 ts = true := hq1
    have HTq := Lib.hid (And.intro (HQd.out.symm.trans hqt) (HVd.out.symm.trans (lo_yes hqt)))
    have HQ1 := Lib.hid hq1
    clear hq1 hqt
    have hn4 := goodB_n HQ1.out
    obtain ⟨i0, hi, hz0, hz1, hz2⟩ := info_parts int_info
    have HI := Lib.hid (And.intro hi (And.intro hz0 (And.intro hz1 hz2)))
    obtain ⟨j0, hj0, hy0, hy1, hy2⟩ := info_parts slc_info
    have HJ := Lib.hid (And.intro hj0 (And.intro hy0 (And.intro hy1 hy2)))
    clear hi hz0 hz1 hz2 hj0 hy0 hy1 hy2
    have HReach := Lib.hid (fun (i : Nat) (hi : i < n1) (Y : World) (hY : Below W.heap.size W Y) => ireach_any A1 g2 n1 c1 n2 ts (i : Int) Y ((HT.out.below hY).wide hY.size) (by omega) hn2 (goodB_fst HQ1.out) (by omega) (good_to HQ1.out))
    have HRln := Lib.hid (fun (i : Nat) (hi : i < n1) => show (rcL n1 ts i).length ≤ n1 from rnds_len (by omega) (good_to HQ1.out) n1)
    have hww : W.heap.size ≤ w1.heap.size := HB1.out.size
    have hr2 := World.ownsRow_made (base := W.heap.size) (e := 38) (size := 1) w1 #[] 0 hww (by unfold maxLen; omega) (by simp)
    have hO2 : Owns (w1.alloc (.cells #[] 38)) W.heap.size 38 (.slice (some ⟨w1.heap.size, 0, none⟩) 0 0) [] := ⟨by simpa using hr2, by simp⟩
    have hb2 := (Below.refl w1.heap.size w1).alloc (Nat.le_refl _) (.cells #[] 38)
    have hz2 : (w1.alloc (.cells #[] 38)).heap.size = w1.heap.size + 1 := by simp
    have hBx2 := BoxN.new (w1.alloc (.cells #[] 38)) #[.slice (some ⟨w1.heap.size, 0, none⟩) 0 0] 62
    have hb3 := (Below.refl (w1.alloc (.cells #[] 38)).heap.size (w1.alloc (.cells #[] 38))).alloc (Nat.le_refl _) (.cells #[.slice (some ⟨w1.heap.size, 0, none⟩) 0 0] 62)
    have hO3 := own_keep hO2 hb3
    rw [hz2] at hBx2
    obtain ⟨w2, hw2⟩ : ∃ w2, (w1.alloc (.cells #[] 38)).alloc (.cells #[.slice (some ⟨w1.heap.size, 0, none⟩) 0 0] 62) = w2 := ⟨_, rfl⟩
    rw [hw2] at hBx2 hb3 hO3
    have HW2 := Lib.hid hw2
    have HO3 := Lib.hid hO3
    have HBx2 := Lib.hid hBx2
    have HB2 := Lib.hid (HB1.out.trans ((hb2.trans (hb3.mono hb2.size)).mono hww))
    clear hr2 hO2 hb2 hz2 hBx2 hb3 hO3 hw2
    clear x0 x1
    obtain ⟨x0, x1⟩ := box2 (HBx.out.below HB2.out hWs)
    rw [← HW2.out] at x0 x1
    go_wp2_with fail
    rw [HW2.out]
    clear x0 x1
    go_loopw [5, 17] (fun _ i wr => ∃ (k : Nat) (v : Value) (ys : List Value), k ≤ n1 ∧ i = .int .i64 k ∧ BoxN wr (w1.heap.size + 1) 62 [v] ∧ Owns wr W.heap.size 38 v ys ∧ Parts n1 ts wr ys k ∧ Below W.heap.size W wr) (fun _ i _ => n1 - (intOf i).toNat)
    case atStart => exact ⟨0, _, [], Nat.zero_le _, rfl, HBx2.out, HO3.out, ⟨rfl, fun i y hy => by simp at hy⟩, HB2.out⟩
    case round =>
      obtain ⟨k, v, ys, hk, rfl, hbx, hown, hpa, hbel⟩ := hrel
      have HBb := Lib.hid hbx
      have HO := Lib.hid hown
      have HPa := Lib.hid hpa
      have HBW := Lib.hid hbel
      obtain ⟨x0, x1⟩ := box2 (HBx.out.below hbel hWs)
      have hwz : W.heap.size ≤ wr.heap.size := hbel.size
      by_cases hlt : k < n1
      · have hb0 : wr.cell? ⟨w1.heap.size + 1, 0, none⟩ = some v := hbx.cell (i := 0) rfl
        have hBD := (Below.refl wr.heap.size wr).drew
        have HBD := Lib.hid (hbel.trans (hBD.mono hwz))
        have CR := HReach.out k hlt wr.drew HBD.out
        have HSk : Hid (∀ w', Below W.heap.size W w' → BoxN w' (w1.heap.size + 1) 62 [v] → (w'.cell? ⟨w.heap.size, 0, none⟩ = some (.slice A1 n1 c1) ∧ w'.cell? ⟨w.heap.size, 1, none⟩ = some (.slice (some ⟨g2, 0, none⟩) n2 n2)) ∧ w'.cell? ⟨w1.heap.size + 1, 0, none⟩ = some v) := Lib.hid (fun w' h1 h2 => ⟨box2 (HBx.out.below h1 hWs), h2.cell (i := 0) rfl⟩)
        clear hbx hown hpa hbel
        go_wp2_with fail
        refine rh.go_begin 6 (fun w' => (w'.cell? ⟨w.heap.size, 0, none⟩ = some (.slice A1 n1 c1) ∧ w'.cell? ⟨w.heap.size, 1, none⟩ = some (.slice (some ⟨g2, 0, none⟩) n2 n2)) ∧ w'.cell? ⟨w1.heap.size + 1, 0, none⟩ = some v) (by kernel_rfl) ?_ (fun hHeld => ?_)
        · ((try dsimp only); exact HSk.out _ HBD.out (HBb.out.on hBD))
        refine rh.go_take (i := 0) (v := ?v1) rfl (by kernel_rfl) (fun _ _ _ h => h) (Or.inl ⟨by rfl, ?hy1⟩) (by assumption) ?rest1
        case hy1 => (intro wS hSw; (try dsimp only at hSw); go_simp; try (with_reducible rfl))
        try simp only [Act.put, List.setIfInBounds_toArray, List.set_cons_zero, List.set_cons_succ]
        refine rh.go_take (i := 1) (v := ?v2) rfl (by kernel_rfl) (fun _ _ _ h => h) (Or.inl ⟨by rfl, ?hy2⟩) (by assumption) ?rest2
        case hy2 => (intro wS hSw; (try dsimp only at hSw); go_simp; try (with_reducible rfl))
        try simp only [Act.put, List.setIfInBounds_toArray, List.set_cons_zero, List.set_cons_succ]
        refine rh.go_take (i := 2) (v := ?v3) rfl (by kernel_rfl) (fun _ _ _ h => h) (Or.inl ⟨by rfl, ?hy3⟩) (by assumption) ?rest3
        case hy3 => (intro wS hSw; (try dsimp only at hSw); go_simp; try (with_reducible rfl))
        try simp only [Act.put, List.setIfInBounds_toArray, List.set_cons_zero, List.set_cons_succ]
        refine rh.go_next (i := 3) rfl (by kernel_rfl) (fun K2 hK => ?_)
        go_simp
        go_at_call 76
        refine CR.mono ?_
        rintro e w3 ⟨v3, rfl, ho3, hb3⟩
        obtain ⟨g3, cp3, rfl, -⟩ := ho3.at
        rw [List.length_map] at ho3 ⊢
        obtain ⟨R3, hR3⟩ : ∃ R, (rcL n1 ts k).length = R := ⟨_, rfl⟩
        rw [hR3] at ho3 ⊢
        obtain ⟨v3, hv3⟩ : ∃ v3, Value.slice (some ⟨g3, 0, none⟩) R3 cp3 = v3 := ⟨_, rfl⟩
        have HV3 := Lib.hid hv3
        rw [hv3] at ho3
        clear hv3
        have hb03 := hBD.trans (hb3.mono hBD.size)
        have HB3 := Lib.hid (HBD.out.trans (hb3.mono HBD.out.size))
        have HB03 := Lib.hid hb03
        have ho3b := Lib.hid (ho3.mono (Nat.zero_le _))
        clear CR ho3 hb3 hR3
        go_wp2_with fail
        refine hK.out _ _ ?_ (fun hHeld => ?_)
        · ((try dsimp only); exact HSk.out _ HB3.out (HBb.out.on HB03.out))
        clear hK K2 hHeld
        try simp only [Act.put, List.setIfInBounds_toArray, List.set_cons_zero, List.set_cons_succ]
        refine rh.go_next (i := 4) rfl (by kernel_rfl) (fun K2 hK => ?_)
        go_simp
        rw [HV3.out]
        have hb4 := (Below.refl w3.heap.size w3).alloc (Nat.le_refl _) (.cells #[v3] 38)
        have hc4 := cell_one_new w3 v3 38
        have hb04 := HB03.out.trans (hb4.mono HB03.out.size)
        refine hK.out _ _ ?_ (fun hHeld => ?_)
        · ((try dsimp only); exact HSk.out _ (HB3.out.trans (hb4.mono HB3.out.size)) (HBb.out.on hb04))
        clear hK K2 hHeld
        try simp only [Act.put, List.setIfInBounds_toArray, List.set_cons_zero, List.set_cons_succ]
        have hb5 := HB3.out.alloc HB3.out.size (.cells #[v3] 38)
        have ho4 := own_keep HO.out hb04
        obtain ⟨w4, hw4⟩ : ∃ w4, w3.alloc (.cells #[v3] 38) = w4 := ⟨_, rfl⟩
        rw [hw4] at hb4 hb5 hb04 hc4 ho4 ⊢
        have HBx4 := Lib.hid (HBb.out.on hb04)
        have HPa4 := Lib.hid (parts_on HPa.out hb04)
        have Ho3 := Lib.hid (own_keep ho3b.out hb4)
        have HB4 := Lib.hid hb5
        have hyl := HPa.out.1
        clear hw4 hb04 hb4 hb5
        obtain ⟨r, m, f, hvr, hrow, hrb⟩ := own_rows ho4
        have HRw := Lib.hid hrow
        obtain ⟨ho4, hvn⟩ := ho4
        rw [hyl] at ho4
        have HVn := Lib.hid hvn
        refine rh.go_next (i := 5) rfl (by kernel_rfl) (fun K2 hK => ?_)
        refine sa.step_append_own rfl _ _ 62 rfl W.heap.size 38 j0 (.slice none 0 0) 1 24 Try.underlying62 HJ.out.1 HJ.out.2.1 HJ.out.2.2.1 HJ.out.2.2.2 rfl (by decide) _ _ _ (by first | rfl | simp [Act.eval, Act.put]) ho4 ⟨w3.heap.size, 0, none⟩ 1 1 [v3] (by first | rfl | simp [Act.eval, Act.put]) rfl hc4 (fun u hu => by rw [List.mem_singleton.1 hu, ← HV3.out]; rfl) (by unfold maxLen; omega) (by omega) HB4.out.size ?_
        intro v5 w5 own5 grow5 nil5
        rw [hvr] at grow5
        have hne : r ≠ w1.heap.size + 1 := fun e => slc_ne3 (by subst e; exact (rowIs_uniq HRw.out HBx4.out).1)
        have HBx5 : Hid (BoxN w5 (w1.heap.size + 1) 62 [v]) := Lib.hid (World.rowIs.of_block HBx4.out (grow5.block _ HBx4.out.lt (fun e => hne (by injection e with e; exact e.symm))))
        have HPa5 := Lib.hid (parts_apart HPa4.out HRw.out slc_ne grow5)
        have Ho5 := Lib.hid (own_apart Ho3.out HRw.out slc_ne grow5)
        have HB5 := Lib.hid (HB4.out.grown grow5 HB4.out.size (fun j hj => by injection hj with hj; omega))
        have HO5 : Hid (Owns w5 W.heap.size 38 v5 (ys ++ [v3])) := Lib.hid ⟨by rw [List.length_append, hyl]; exact own5, fun h => HVn.out (nil5.1 h).1⟩
        refine hK.out _ _ ?_ (fun hHeld => ?_)
        · ((try dsimp only); exact HSk.out _ HB5.out HBx5.out)
        clear hK K2 hHeld grow5 own5 nil5 hc4 ho4 hrow hvn hvr
        try simp only [Act.put, List.setIfInBounds_toArray, List.set_cons_zero, List.set_cons_succ]
        obtain ⟨g5, cp5, rfl, -⟩ := HO5.out.at
        obtain ⟨l5, hl5⟩ : ∃ l, (ys ++ [v3]).length = l := ⟨_, rfl⟩
        rw [hl5] at HO5 ⊢
        obtain ⟨v5, hv5⟩ : ∃ v5, Value.slice (some ⟨g5, 0, none⟩) l5 cp5 = v5 := ⟨_, rfl⟩
        have HV5 := Lib.hid hv5
        rw [hv5] at HO5
        clear hl5 hv5
        have hfz := World.rowIs.frozen HBx5.out 0
        have hb5c : w5.cell? ⟨w1.heap.size + 1, 0, none⟩ = some v := HBx5.out.cell (i := 0) rfl
        refine rh.go_last rfl (by kernel_rfl) (fun K2 hK => ?_)
        go_simp
        refine hK.out _ _ ?_
        refine NoPanic.normal ?_
        clear hK K2
        rw [HV5.out]
        have hgs : w5.grownBy (w5.setCell ⟨w1.heap.size + 1, 0, none⟩ v5) (some (w1.heap.size + 1)) := only_set (World.grownBy.refl w5 _) 0 v5
        have HBx6 := Lib.hid (HBx5.out.set 0 v5)
        have HPa6 := Lib.hid (parts_snoc (parts_apart HPa5.out HBx5.out slc_ne2 hgs) (own_apart Ho5.out HBx5.out slc_ne2 hgs))
        have HO6 := Lib.hid (own_apart HO5.out HBx5.out slc_ne3 hgs)
        have HB6 := Lib.hid (HB5.out.setCell (p := ⟨w1.heap.size + 1, 0, none⟩) (by dsimp only; omega) v5)
        clear hgs hfz hb5c
        go_wp2_with fail
        go_roundw
        case rel => exact ⟨k + 1, v5, ys ++ [v3], by omega, by go_num, HBx6.out, HO6.out, HPa6.out, HB6.out⟩
        case measure => simp [intOf]; omega
      · obtain rfl : n1 = k := by omega
        have HBWr := HBW
        obtain ⟨r, cp, rfl, hrb, hrl, hyc, hsy⟩ := hown.at
        rw [hpa.1] at hsy hyc HO hbx
        have HSy := Lib.hid hsy
        have hb0 : wr.cell? ⟨w1.heap.size + 1, 0, none⟩ = some (.slice (some ⟨r, 0, none⟩) n1 cp) := hbx.cell (i := 0) rfl
        have HBx9 := Lib.hid hbx
        have HOe := Lib.hid (own_new wr)
        have hbe := (Below.refl wr.heap.size wr).alloc (Nat.le_refl _) (.cells #[] 3)
        have hcy := hbe.cell (p := ⟨w1.heap.size + 1, 0, none⟩) hbx.lt
        rw [hb0] at hcy
        obtain ⟨we, hwe⟩ : ∃ we, wr.alloc (.cells #[] 3) = we := ⟨_, rfl⟩
        have HWe := Lib.hid hwe
        rw [hwe] at HOe hbe
        have HBe := Lib.hid hbe
        have HPL := Lib.hid (fun (i : Nat) (hi : i < n1) (Y : World) (hY : Below wr.heap.size wr Y) => show ∃ g c, (Y.cell? ⟨r, i, none⟩ = some (.slice (some ⟨g, 0, none⟩) (rcL n1 ts i).length c)) ∧ IntsAt Y Y.heap.size (some ⟨g, 0, none⟩) (rcL n1 ts i).length (rcL n1 ts i) by
          obtain ⟨y, hy⟩ : ∃ y, ys[i]? = some y := ⟨_, List.getElem?_eq_getElem (by have := HPa.out.1; omega)⟩
          have hoy := own_keep (HPa.out.2 i y hy) hY
          obtain ⟨g, c, rfl, -, -, -, hs⟩ := hoy.at
          rw [List.length_map] at hs hy
          obtain ⟨b, off, u, eb, hbl, hu, hcu⟩ := kit.SR.get HSy.out hi
          injection eb with eb
          injection eb with e1 e2
          subst e1 e2
          rw [hy] at hu
          injection hu with hu
          subst hu
          rw [Nat.zero_add] at hcu
          exact ⟨g, c, (hY.cell (p := ⟨r, i, none⟩) hbl).trans hcu, hs⟩)
        clear hbx hown hpa hbel hsy hwe
        go_wp2_with fail
        rw [HWe.out]
        try go_wp2_with fail
        clear hcy hb0
        go_loopw [6, 30] (fun u i wq => ∃ k : Nat, k ≤ n1 ∧ i = .int .i64 k ∧ Owns wq wr.heap.size 3 u ((loL n1 ts k).map (Value.int .i64)) ∧ Below wr.heap.size wr wq) (fun _ i _ => n1 - (intOf i).toNat)
        case atStart => exact ⟨0, Nat.zero_le _, rfl, HOe.out, HBe.out⟩
        case round =>
          obtain ⟨k, hk, rfl, hown, hbel⟩ := hrel
          rename World => wq
          have HO2 := Lib.hid hown
          have HBq := Lib.hid hbel
          have hwq : wr.heap.size ≤ wq.heap.size := hbel.size
          by_cases hlt : k < n1
          · obtain ⟨g, c, hcell, hI⟩ := HPL.out k hlt wq hbel
            have HLs := Lib.hid (loL_succ n1 ts k)
            have HLl := Lib.hid (loL_len n1 ts k)
            have hrl := HRln.out k hlt
            have hb7 := (Below.refl wq.heap.size wq).alloc (Nat.le_refl _) (.cells #[.int .i64 (k : Int)] 3)
            have hc7 : (wq.alloc (.cells #[.int .i64 (k : Int)] 3)).cell? ⟨wq.heap.size, 0, none⟩ = some (.int .i64 (k : Int)) := (row_new wq #[.int .i64 (k : Int)] 3 1 rfl).cell (show 0 < 1 by omega)
            have hl7 : wq.heap.size < (wq.alloc (.cells #[.int .i64 (k : Int)] 3)).heap.size := by simp
            obtain ⟨w7, hw7⟩ : ∃ w7, wq.alloc (.cells #[.int .i64 (k : Int)] 3) = w7 := ⟨_, rfl⟩
            rw [hw7] at hb7 hc7 hl7
            have HW7 := Lib.hid hw7
            have HB7 := Lib.hid (HBq.out.trans (hb7.mono hwq))
            have HIn := Lib.hid (fun a (ha : a ∈ rcL n1 ts k) => rnds_in (n := n1) (ts := ts) (z := (k : Int)) (by omega) (good_to HQ1.out) n1 a ha)
            have CI := idxI_any 91 #[.pointer (some ⟨w1.heap.size + 1, 0, none⟩), .pointer (some ⟨wq.heap.size, 0, none⟩)] (fun y => hasB (rcL n1 ts y) k) (fun _ _ => by rfl) (some ⟨g, 0, none⟩) (rcL n1 ts k).length c (rcL n1 ts k) wq w7 (fun y Y hy hY => by
              obtain ⟨h0, h1⟩ := HIn.out y hy
              obtain ⟨i, rfl⟩ : ∃ i : Nat, y = (i : Int) := ⟨y.toNat, by omega⟩
              have hYr := HB7.out.trans (hY.mono HB7.out.size)
              obtain ⟨gi, ci, hci, hIi⟩ := HPL.out i (by omega) Y hYr
              exact lo1_any (w1.heap.size + 1) wq.heap.size r n1 cp gi _ ci _ i k Y ((HBx9.out.below hYr HBx9.out.lt).cell (i := 0) rfl) ((hY.cell (p := ⟨wq.heap.size, 0, none⟩) hl7).trans hc7) hci (by omega) hn1 hIi (by have := HRln.out i (by omega); omega)) hI hb7 (by omega)
            have HI7 := Lib.hid (show IntsAt w7 wq.heap.size (some ⟨g, 0, none⟩) (rcL n1 ts k).length (rcL n1 ts k) from hI.below hb7)
            have HO7 := Lib.hid (own_keep HO2.out hb7)
            have HHere : Hid ((k : Int) ∈ rcL n1 ts k) := Lib.hid (rnds_here ts k n1)
            have HFst := Lib.hid (fun (q : Nat) (y : Int) hy hp hf => loOf_first (n := n1) (ts := ts) (i := k) (q := q) (x := y) (fun a ha => (HIn.out a ha).1) hy hp hf)
            have hwb7 : wq.heap.size ≤ w7.heap.size := hb7.size
            obtain ⟨zs, hzs⟩ : ∃ zs, loL n1 ts k = zs := ⟨_, rfl⟩
            rw [hzs] at HO7 HLs HLl
            have HKk : Hid (hasB (rcL n1 ts k) k = true) := Lib.hid (decide_eq_true (rnds_here ts k n1))
            obtain ⟨Lk, hLk⟩ : ∃ L, rcL n1 ts k = L := ⟨_, rfl⟩
            rw [hLk] at CI HI7 HHere HFst hcell hrl
            obtain ⟨R, hR⟩ : ∃ R, Lk.length = R := ⟨_, rfl⟩
            have HRl := Lib.hid hR
            rw [hR] at CI HI7 hcell hrl
            clear hown hbel hI hw7 hb7 hc7 hzs hLk hR
            go_wp2_with fail
            rw [HW7.out]
            try go_wp2_with fail
            refine CI.mono ?_
            rintro e w8 (⟨q, y, rfl, hy, hp, hf, hb8⟩ | ⟨rfl, hall, hb8⟩)
            · have hex := HFst.out q y hy hp hf
              have hqR : q < R := by have := (List.getElem?_eq_some_iff.1 hy).1; have := HRl.out; omega
              have hI8 := HI7.out.below (hb8.mono hwb7)
              obtain ⟨b, off, y2, eb, hbl, hy2, hcy⟩ := IntsAt.get hI8 hqR
              injection eb with eb
              injection eb with e1 e2
              subst e1 e2
              rw [hy] at hy2
              injection hy2 with hy2
              subst hy2
              rw [Nat.zero_add] at hcy
              have HB8 := Lib.hid (HB7.out.trans (hb8.mono HB7.out.size))
              have hg8 : wr.heap.size ≤ w8.heap.size := HB8.out.size
              rw [← hex] at HLs
              have ho8 := own_keep HO7.out hb8
              obtain ⟨hown, hnn⟩ := ho8
              have HN := Lib.hid hnn
              obtain ⟨D, hD⟩ : ∃ D, zs.map (Value.int .i64) = D := ⟨_, rfl⟩
              have hDl : D.length = zs.length := by rw [← hD, List.length_map]
              rw [hD] at hown
              obtain ⟨m, hm⟩ : ∃ m, D.length = m := ⟨_, rfl⟩
              have hm2 : m ≤ 1048576 := by have := HLl.out; omega
              have HOq : Hid (w8.ownsRow wr.heap.size 3 1 _ m D) := Lib.hid (by rw [← hm]; exact hown)
              have HD := Lib.hid hD
              have HQq : Hid (zs.length = m) := Lib.hid (hDl.symm.trans hm)
              have hlt0 := hown.lt
              clear CI hy hp hf hb8 hex hI8 hnn hD hm hown hDl hcell
              go_wp2_with (at_builtin; refine wpList_append_own _ rfl _ _ 38 rfl wr.heap.size 3 i0 (.int .i64 0) 1 8 Try.underlying38 HI.out.1 HI.out.2.1 HI.out.2.2.1 HI.out.2.2.2 rfl (by decide) _ _ _ rfl (HOq.out.alloc _) ⟨w8.heap.size, 0, none⟩ 1 1 [.int .i64 y] rfl rfl (cell_one_new _ _ _) (fun u hu => by rw [List.mem_singleton.1 hu]; rfl) (by unfold maxLen; omega) (by omega) (by simp; omega) ?_; intro v1 w9 hown1 hgrow1 hnil1)
              have HB9 := Lib.hid ((HB8.out.alloc hg8 (.cells #[.int .i64 y] 3)).grown hgrow1 (by simp; omega) (fun j hj => (hlt0 j hj).1))
              have HOn1 := Lib.hid (own_push hown1 HD.out HQq.out (fun h => HN.out (hnil1.1 h).1))
              clear hown1 hgrow1 hnil1 hlt0
              go_wp2_with fail
              go_roundw
              case rel => exact ⟨k + 1, by omega, by go_num, by rw [HLs.out]; exact HOn1.out, HB9.out⟩
              case measure => simp [intOf]; omega
            · obtain ⟨j, hj⟩ := List.getElem?_of_mem HHere.out
              have h1 := hall j k (List.getElem?_eq_some_iff.1 hj).1 hj
              replace h1 : hasB (rcL n1 ts k) k = false := h1
              rw [HKk.out] at h1
              cases h1
          · obtain rfl : n1 = k := by omega
            have HBz := Lib.hid (HB0.out.trans (HBWr.out.trans (HBq.out.mono HBWr.out.size) |>.mono HB0.out.size))
            have HRz := Lib.hid ((Res.of_owns HO2.out).wide (lo' := w.heap.size) (hi' := wq.heap.size) (Nat.le_trans HB0.out.size HBWr.out.size) (Nat.le_refl _))
            clear hown HO2 hbel
            go_wp2_with fail
            refine bodyPost_ret (results_tmp2 rfl _ _ _) rfl ?_
            exact ⟨_, by rw [HTq.out.1]; rfl, by rw [HTq.out.2]; exact HRz.out, HBz.out⟩
end Go.Proofs.Ytlpgldejmdiceaa.loi
