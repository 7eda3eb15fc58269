/- impl.RenameOuter. -/
import Derived.Test.YtlhickjlcmiknaaGreatRoc
import Derived.Test.YtlhickjlcmiknaaGreatAsc
import Derived.Test.YtlhickjlcmiknaaGreatGv
namespace Go.Proofs.YtlhickjlcmiknaaGreat.roi
open kit bg sg opn strs only hb sig isig un over gn nm inn ht gd im pt marks eqs hc hi hw hn rs br bm bw cf lf ib isa lawb lw cl rt ix tg rl ed tp rtg lo nl lep rnp pm pl mb sb wb jo ek wk rk gv tm idl psp co uw rox roc
open asc (val_any srtS_any srtL)
open su (lists back_enc)
open Go.RowKit
set_option linter.unusedVariables false
set_option linter.unusedSimpArgs false
theorem row_setS {w : World} {lo hi n c g k : Nat} {xs : List ByteArray} {t : ByteArray} (h : RowR w lo hi 9 1 (some ⟨g, 0, none⟩) n c (at_ xs)) (hn : xs.length = n) (hk : k < n) : RowR (w.setCell ⟨g, k, none⟩ (.string t)) lo hi 9 1 (some ⟨g, 0, none⟩) n c (at_ (xs.set k t)) := by
  rcases h with ⟨h, -⟩ | ⟨g', f, e, h1, h2, h3, h4, h5⟩
  · cases h
  · injection e with e
    injection e with e
    subst e
    refine .inr ⟨g, _, rfl, h1, h2, h3, World.rowIs.set h4 k (.string t), fun x hx => ?_⟩
    have hx' : x < xs.length := by omega
    by_cases e : x = k
    · subst e
      simp [at_, List.getElem?_set_self hx']
    · have := h5 x hx
      simp only [at_] at this ⊢
      rw [if_neg e, this, List.getD_eq_getElem?_getD, List.getD_eq_getElem?_getD, List.getElem?_set_ne (Ne.symm e)]
theorem srt_enc (ns : List ByteArray) : (srtL ns).map encStr = (srtB ns).map Value.string := by
  rw [back_enc]
  rfl
set_option maxRecDepth 20000 in
set_option maxHeartbeats 12800000 in
theorem iRx_any (A : Option Addr) (n c : Nat) (cs : List Ctl) (v : Value) (b : Big) (f t : ByteArray) (w : World) (hC : CtlsAt w w.heap.size A n cs) (hn : n ≤ 1048576) (hs : ∀ c ∈ cs, c.name.size ≤ 1048576) (hv : BigAt w w.heap.size v b) (hS : BigS b) (hw : BigW b) (hN : NilV v) (hff : f.size ≤ 1048576) (hft : t.size ≤ 1048576) :
    Calls Tryz.prog 30 #[.slice A n c, v, .string f, .string t] w (BigPost (rxP cs b f t) (rxR cs b f t) w) := by
  have hNb := hN
  obtain ⟨A1, n1, c1, A2, n2, c2, A4, n4, c4, A5, n5, c5, rfl, h1, h2, h4, h5⟩ := hv
  have hnil := hN.get
  have hbx := (Below.refl w.heap.size w).alloc (Nat.le_refl _) (.cells #[.int .i64 b.roots, .slice A1 n1 c1, .slice A2 n2 c2, .int .i64 b.edges, .slice A4 n4 c4, .slice A5 n5 c5] 34)
  have HBoxI : Hid (BoxAt (w.alloc (.cells #[.int .i64 b.roots, .slice A1 n1 c1, .slice A2 n2 c2, .int .i64 b.edges, .slice A4 n4 c4, .slice A5 n5 c5] 34)) w.heap.size 34 (.int .i64 b.roots) (.slice A1 n1 c1) (.slice A2 n2 c2) (.int .i64 b.edges) (.slice A4 n4 c4) (.slice A5 n5 c5)) := Lib.hid (six_new w _ _ _ _ _ _ _)
  obtain ⟨W0, hW0⟩ : ∃ W, w.alloc (.cells #[.int .i64 b.roots, .slice A1 n1 c1, .slice A2 n2 c2, .int .i64 b.edges, .slice A4 n4 c4, .slice A5 n5 c5] 34) = W := ⟨_, rfl⟩
  have hWz0 : W0.heap.size = w.heap.size + 1 := by rw [← hW0]; simp
  rw [hW0] at hbx HBoxI
  have hb0 := (Below.refl W0.heap.size W0).alloc (Nat.le_refl _) (.cells #[.int .i64 0, .slice none 0 0, .slice none 0 0, .int .i64 0, .slice none 0 0, .slice none 0 0] 34)
  have HBx0 : Hid (BoxAt (W0.alloc (.cells #[.int .i64 0, .slice none 0 0, .slice none 0 0, .int .i64 0, .slice none 0 0, .slice none 0 0] 34)) W0.heap.size 34 (.int .i64 0) (.slice none 0 0) (.slice none 0 0) (.int .i64 0) (.slice none 0 0) (.slice none 0 0)) := Lib.hid (six_new W0 _ _ _ _ _ _ _)
  have HBox := Lib.hid (HBoxI.out.on hb0)
  obtain ⟨W, hW⟩ : ∃ W, W0.alloc (.cells #[.int .i64 0, .slice none 0 0, .slice none 0 0, .int .i64 0, .slice none 0 0, .slice none 0 0] 34) = W := ⟨_, rfl⟩
  have hWz : W.heap.size = w.heap.size + 1 + 1 := by rw [← hW]; simp; exact hWz0
  rw [hW] at hb0 HBx0 HBox
  rw [hWz0] at HBx0
  have HWq0 := Lib.hid hW0
  have HWq := Lib.hid hW
  have HB0 := Lib.hid (hbx.trans (hb0.mono hbx.size))
  have HWz := Lib.hid hWz
  have hVW : BigAt W W.heap.size (.agg #[.int .i64 b.roots, .slice A1 n1 c1, .slice A2 n2 c2, .int .i64 b.edges, .slice A4 n4 c4, .slice A5 n5 c5]) b := BigAt.wide (BigAt.below ⟨_, _, _, _, _, _, _, _, _, _, _, _, rfl, h1, h2, h4, h5⟩ HB0.out) HB0.out.size
  clear hW0 hW hb0 hWz hWz0 hbx HBoxI hN
  have C := isBig_any A n c cs _ b W ((hC.below HB0.out).wide HB0.out.size) hVW hn hs hS hw
  have hsW : w.heap.size + 1 + 1 ≤ W.heap.size := by rw [HWz.out]; exact Nat.le_refl _
  have h4n : n4 ≤ 1048576 := by have := hS.2.2.2.1; rw [h4.strlen] at this; exact this
  have CC := Lib.hid (fun (Y : World) (hY : Below w.heap.size w Y) => contains_any A4 n4 c4 b.outer f Y _ (h4.below hY) h4n)
  obtain ⟨x0, x1, x2, x3, x4, x5⟩ := HBox.out.get
  clear hVW
  cases hq : bigB cs b with
  | false =>
    rw [hq] at C
    have hP : rxP cs b f t = false := by unfold rxP; rw [hq]; rfl
    have HR := Lib.hid (rx_no hP)
    rw [hP, HR.out]
    clear hq hs hP
    go_enter Tryz.func30, Tryz.ntmps30
    go_wp2_with fail
    rw [HWq0.out, HWq.out]
    go_wp2_with fail
    refine C.mono ?_
    rintro e1 w1 ⟨rfl, hb⟩
    have hb1 := HB0.out.trans (hb.mono HB0.out.size)
    have HBx1 := Lib.hid (HBx0.out.on hb)
    have HBox1 := Lib.hid (HBox.out.on hb)
    have hsz1 : w.heap.size + 1 + 1 ≤ w1.heap.size := Nat.le_trans hsW hb.size
    clear hb C x0 x1 x2 x3 x4 x5
    obtain ⟨z0, z1, z2, z3, z4, z5⟩ := HBx1.out.get
    have f0 := World.rowIs.frozen HBx1.out 0
    have f1 := World.rowIs.frozen HBx1.out 1
    have f2 := World.rowIs.frozen HBx1.out 2
    have f3 := World.rowIs.frozen HBx1.out 3
    have f4 := World.rowIs.frozen HBx1.out 4
    have f5 := World.rowIs.frozen HBx1.out 5
    go_wp2_with fail
    refine bodyPost_ret (v := .tuple #[.agg #[.int .i64 0, .slice none 0 0, .slice none 0 0, .int .i64 0, .slice none 0 0, .slice none 0 0], .bool false]) (by simp [results, Tryz.results30, go_sem, z0, z1, z2, z3, z4, z5]) rfl ⟨_, rfl, BigR.zero, sets6_below hb1 (by omega) _ _ _ _ _ _⟩
  | true =>
    rw [hq] at C
    cases hin : inB b.outer f with
    | false =>
      rw [hin] at CC
      have hP : rxP cs b f t = false := by unfold rxP; rw [hq, hin]; rfl
      have HR := Lib.hid (rx_no hP)
      rw [hP, HR.out]
      clear hq hs hP hin
      go_enter Tryz.func30, Tryz.ntmps30
      go_wp2_with fail
      rw [HWq0.out, HWq.out]
      go_wp2_with fail
      refine C.mono ?_
      rintro e1 w1 ⟨rfl, hb⟩
      have hb1 := HB0.out.trans (hb.mono HB0.out.size)
      have HBx1 := Lib.hid (HBx0.out.on hb)
      have HBox1 := Lib.hid (HBox.out.on hb)
      have hsz1 : w.heap.size + 1 + 1 ≤ w1.heap.size := Nat.le_trans hsW hb.size
      clear hb C x0 x1 x2 x3 x4 x5
      obtain ⟨x0, x1, x2, x3, x4, x5⟩ := HBox1.out.get
      go_wp2_with fail
      refine (CC.out w1 hb1).mono ?_
      rintro e2 w2 ⟨rfl, rfl⟩
      clear x0 x1 x2 x3 x4 x5
      obtain ⟨z0, z1, z2, z3, z4, z5⟩ := HBx1.out.get
      have f0 := World.rowIs.frozen HBx1.out 0
      have f1 := World.rowIs.frozen HBx1.out 1
      have f2 := World.rowIs.frozen HBx1.out 2
      have f3 := World.rowIs.frozen HBx1.out 3
      have f4 := World.rowIs.frozen HBx1.out 4
      have f5 := World.rowIs.frozen HBx1.out 5
      go_wp2_with fail
      refine bodyPost_ret (v := .tuple #[.agg #[.int .i64 0, .slice none 0 0, .slice none 0 0, .int .i64 0, .slice none 0 0, .slice none 0 0], .bool false]) (by simp [results, Tryz.results30, go_sem, z0, z1, z2, z3, z4, z5]) rfl ⟨_, rfl, BigR.zero, sets6_below hb1 (by omega) _ _ _ _ _ _⟩
    | true =>
      rw [hin] at CC
      have hf := yes_in hin
      obtain ⟨k, hk, hkf⟩ := rx_ix hf
      have hz := sizes_of (big_of hq).2.1
      have l4 : b.outer.length = n4 := h4.strlen
      have hkl : k < n4 := by have := (List.getElem?_eq_some_iff.1 hkf).1; omega
      have hn16 : n4 ≤ 16 := by omega
      have hIm := rx_impl (t := t) hq hf
      have hN4 : b.outer.set k t = rxN b f t := by unfold rxN; rw [hk]; rfl
      have hnl : (rxN b f t).length = n4 := by rw [rxN_len]; exact l4
      have hsl : (srtB (rxN b f t)).length = n4 := by rw [srtB_len]; exact hnl
      have hTa : Tame (rxI b f t) := ou_tame hq hS (rxN_len b f t) (by omega) (fun u hu => by
        have hu := (srtB_perm _).mem_iff.1 hu
        rw [← hN4] at hu
        rcases List.mem_or_eq_of_mem_set hu with h | rfl
        · exact hS.2.2.2.2.1 u h
        · exact hft)
      have CL := Lib.hid (fun (Y : World) (hY : Below w.heap.size w Y) => cloneS_any A4 n4 c4 b.outer Y ((h4.below hY).wide hY.size) h4n hnil.2.2.1)
      have HGv := Lib.hid (fun (v2 : Value) (Y : World) (hY : Below w.heap.size w Y) (hr : BigR Y w.heap.size Y.heap.size v2 (rxI b f t)) => ifb_any A n c cs v2 (rxI b f t) w Y hC hY hn hs hr hTa.S hTa.W)
      rw [hIm.1, hIm.2] at HGv
      have HLk := Lib.hid (big_lks hq)
      have HVb := Lib.hid (fun (Y : World) (hY : Below w.heap.size w Y) => (BigAt.wide (BigAt.below ⟨_, _, _, _, _, _, _, _, _, _, _, _, rfl, h1, h2, h4, h5⟩ hY) hY.size : BigAt Y Y.heap.size (.agg #[.int .i64 b.roots, .slice A1 n1 c1, .slice A2 n2 c2, .int .i64 b.edges, .slice A4 n4 c4, .slice A5 n5 c5]) b))
      have HNn := Lib.hid hnl
      have HSn := Lib.hid hsl
      have HN4 := Lib.hid hN4
      have HKx := Lib.hid hk
      have HL4 := Lib.hid l4
      have HE : Hid (0 ≤ b.edges ∧ b.edges ≤ 8) := Lib.hid (by omega)
      have HrI : Hid (∀ ns, rxN b f t = ns → (⟨(relB (rxF b.edges ns (srtB ns)) b).roots, (relB (rxF b.edges ns (srtB ns)) b).nodes, (relB (rxF b.edges ns (srtB ns)) b).sites, (relB (rxF b.edges ns (srtB ns)) b).edges, srtB ns, (relB (rxF b.edges ns (srtB ns)) b).inner⟩ : Big) = rxI b f t) := Lib.hid (fun ns e => by subst e; rfl)
      obtain ⟨NS, hNS⟩ : ∃ NS, rxN b f t = NS := ⟨_, rfl⟩
      have HrI := Lib.hid (HrI.out NS hNS)
      rw [hNS] at HNn HSn HN4
      obtain ⟨Mb, hMb⟩ : ∃ Mb, rxI b f t = Mb := ⟨_, rfl⟩
      rw [hMb] at HGv HrI
      obtain ⟨Lb, hLb⟩ : ∃ Lb, rxR cs b f t = Lb := ⟨_, rfl⟩
      obtain ⟨q4, hq4⟩ : ∃ q4, rxP cs b f t = q4 := ⟨_, rfl⟩
      rw [hLb, hq4] at HGv ⊢
      clear hLb hq4 hMb hNS hIm hTa hq hin hf hk hkf hz l4 hN4 hnl hsl hnil h1 h2 h4 h5 hC hs hn hw hff hft
      go_enter Tryz.func30, Tryz.ntmps30
      go_wp2_with fail
      rw [HWq0.out, HWq.out]
      go_wp2_with fail
      refine C.mono ?_
      rintro e1 w1 ⟨rfl, hb⟩
      have hb1 := HB0.out.trans (hb.mono HB0.out.size)
      have HBx1 := Lib.hid (HBx0.out.on hb)
      have HBox1 := Lib.hid (HBox.out.on hb)
      have hsz1 : w.heap.size + 1 + 1 ≤ w1.heap.size := Nat.le_trans hsW hb.size
      clear hb C x0 x1 x2 x3 x4 x5
      obtain ⟨x0, x1, x2, x3, x4, x5⟩ := HBox1.out.get
      go_wp2_with fail
      refine (CC.out w1 hb1).mono ?_
      rintro e2 w2 ⟨rfl, rfl⟩
      go_wp2_with fail
      refine (CL.out w1 hb1).mono ?_
      rintro e2 w2 ⟨An, cn, rfl, hr2, hn0, hb⟩
      clear hn0 x0 x1 x2 x3 x4 x5
      obtain ⟨g, rfl, hg1, hg2⟩ : ∃ g, An = some ⟨g, 0, none⟩ ∧ w1.heap.size ≤ g ∧ g < w2.heap.size := by
        rcases hr2 with ⟨-, -, h⟩ | ⟨g, fr, e, h1, h2, -⟩
        · omega
        · exact ⟨g, e, h1, h2⟩
      have hb3 := (Below.refl w2.heap.size w2).alloc (Nat.le_refl _) (.cells #[.slice (some ⟨g, 0, none⟩) n4 cn] 25)
      have hbx : (w2.alloc (.cells #[.slice (some ⟨g, 0, none⟩) n4 cn] 25)).cell? ⟨w2.heap.size, 0, none⟩ = some (.slice (some ⟨g, 0, none⟩) n4 cn) := (Boxed.new w2 25 (.slice (some ⟨g, 0, none⟩) n4 cn)).cell
      obtain ⟨w3, hw3⟩ : ∃ w3, w2.alloc (.cells #[.slice (some ⟨g, 0, none⟩) n4 cn] 25) = w3 := ⟨_, rfl⟩
      have hz3 : w2.heap.size < w3.heap.size := by rw [← hw3]; simp
      rw [hw3] at hb3 hbx
      have hb13 := hb.trans (hb3.mono hb.size)
      have HB3 := Lib.hid (hb1.trans (hb13.mono hb1.size))
      have HBx3 := Lib.hid (HBx1.out.on hb13)
      have HBox3 := Lib.hid (HBox1.out.on hb13)
      have HRn3 := Lib.hid ((hr2.on hb3).wide (Nat.le_refl _) hb3.size)
      have HW3 := Lib.hid hw3
      have hs12 := hb.size
      have HBn3 : Hid (Boxed w3 w2.heap.size 25 (.slice (some ⟨g, 0, none⟩) n4 cn)) := Lib.hid (by rw [← hw3]; exact Boxed.new w2 25 (.slice (some ⟨g, 0, none⟩) n4 cn))
      clear hr2 hb hb3 hb13 hw3
      have hkD := (Below.refl w3.heap.size w3).drew
      have CI := index_any (some ⟨g, 0, none⟩) n4 cn b.outer f w3.drew w3.heap.size ((show SR w3 w3.heap.size (some ⟨g, 0, none⟩) n4 (b.outer.map Value.string) from by
        have := strsR_at (rowR_here (by rw [← HL4.out] at HRn3; exact HRn3.out))
        rw [HL4.out] at this
        exact this).below hkD) (by omega)
      rw [HKx.out] at CI
      have HSn3 : Hid (∀ w', Below w3.heap.size w3 w' → w'.cell? ⟨w2.heap.size, 0, none⟩ = some (.slice (some ⟨g, 0, none⟩) n4 cn)) := Lib.hid (fun w' hq => (hq.cell (p := ⟨w2.heap.size, 0, none⟩) (by dsimp only; omega)).trans hbx)
      obtain ⟨fr, hrow, hMr⟩ : ∃ fr, w3.rowIs g 9 (cn * 1) fr ∧ k < cn := by
        rcases HRn3.out with ⟨h, -⟩ | ⟨g', fr, e, -, -, h3, h4, -⟩
        · cases h
        · injection e with e
          injection e with e
          subst e
          exact ⟨fr, h4, by omega⟩
      have hrd : w3.drew.rowIs g 9 (cn * 1) fr := World.rowIs.of_block hrow (hkD.block g (by omega))
      have HRd := Lib.hid hrd
      clear hbx hrow hrd
      go_wp2_with fail
      rw [HW3.out]
      refine rh.go_begin 6 (fun w' => w'.cell? ⟨w2.heap.size, 0, none⟩ = some (.slice (some ⟨g, 0, none⟩) n4 cn)) (by kernel_rfl) ?_ (fun hHeld => ?_)
      · ((try dsimp only); exact HSn3.out _ (by go_grown))
      refine rh.go_take (i := 0) (v := ?v1) rfl (by kernel_rfl) (fun _ _ _ h => h) (Or.inl ⟨by rfl, ?hy1⟩) (by assumption) ?rest1
      case hy1 => (intro wS hSw; (try dsimp only at hSw); go_simp; try (with_reducible rfl))
      try simp only [Act.put, List.setIfInBounds_toArray, List.set_cons_zero, List.set_cons_succ]
      refine rh.go_take (i := 1) (v := ?v2) rfl (by kernel_rfl) (fun _ _ _ h => h) (Or.inl ⟨by rfl, ?hy2⟩) (by assumption) ?rest2
      case hy2 => (intro wS hSw; (try dsimp only at hSw); go_simp; try (with_reducible rfl))
      try simp only [Act.put, List.setIfInBounds_toArray, List.set_cons_zero, List.set_cons_succ]
      refine rh.go_take (i := 2) (v := ?v3) rfl (by kernel_rfl) (fun _ _ _ h => h) (Or.inl ⟨by rfl, ?hy3⟩) (by assumption) ?rest3
      case hy3 => (intro wS hSw; (try dsimp only at hSw); go_simp; try (with_reducible rfl))
      try simp only [Act.put, List.setIfInBounds_toArray, List.set_cons_zero, List.set_cons_succ]
      refine rh.go_take (i := 4) (v := ?v4) rfl (by kernel_rfl) (fun _ _ _ h => h) (Or.inl ⟨by rfl, ?hy4⟩) (by assumption) ?rest4
      case hy4 => (intro wS hSw; (try dsimp only at hSw); go_simp; try (with_reducible rfl))
      try simp only [Act.put, List.setIfInBounds_toArray, List.set_cons_zero, List.set_cons_succ]
      refine rh.go_next (i := 3) rfl (by kernel_rfl) (fun K2 hK => ?_)
      (go_simp; go_at_call 85; refine CI.mono ?_; rintro e2 w4 ⟨rfl, rfl⟩; go_wp2_with fail)
      refine hK.out _ _ ?_ (fun hHeld => ?_)
      · ((try dsimp only); exact HSn3.out _ (by go_grown))
      clear hK K2
      try simp only [Act.put, List.setIfInBounds_toArray, List.set_cons_zero, List.set_cons_succ]
      refine rh.go_take (i := 5) (v := ?v5) rfl (by kernel_rfl) (fun _ _ _ h => h) (Or.inl ⟨by rfl, ?hy5⟩) (by assumption) ?rest5
      case hy5 => (intro wS hSw; (try dsimp only at hSw); go_simp; try (with_reducible rfl))
      try simp only [Act.put, List.setIfInBounds_toArray, List.set_cons_zero, List.set_cons_succ]
      have q5 := HRd.out.cell (show k < cn * 1 by omega)
      have f5 := World.rowIs.frozen HRd.out k
      refine rh.go_last rfl (by kernel_rfl) (fun K2 hK => ?_)
      go_simp
      refine hK.out _ _ ?_
      refine NoPanic.normal ?_
      clear hK K2
      have hB4 := (HB3.out.setCell (p := ⟨g, k, none⟩) (show w.heap.size ≤ g by omega) (.string t)).drew
      have HBox4 := Lib.hid ((HBox3.out.else_ (γ := g) (k := k) (by omega) (.string t)).on (Below.refl _ _).drew)
      have HBx4 := Lib.hid ((HBx3.out.else_ (γ := g) (k := k) (by omega) (.string t)).on (Below.refl _ _).drew)
      have HBn4 : Hid (Boxed (w3.setCell ⟨g, k, none⟩ (.string t)).drew w2.heap.size 25 (.slice (some ⟨g, 0, none⟩) n4 cn)) := Lib.hid ((Below.heap_setCell _ _ _ _ (show w2.heap.size ≠ g by omega)).trans HBn3.out)
      have hRn4 := (row_setS (t := t) HRn3.out (by exact HL4.out) hkl).on (Below.refl _ _).drew
      rw [HN4.out] at hRn4
      obtain ⟨w4, hw4⟩ : ∃ w4, (w3.setCell ⟨g, k, none⟩ (.string t)).drew = w4 := ⟨_, rfl⟩
      have hz4 : w3.heap.size ≤ w4.heap.size := by rw [← hw4]; simp [World.setCell]
      rw [hw4] at hB4 HBox4 HBx4 HBn4 hRn4 ⊢
      have HB4 := Lib.hid hB4
      have HRn4 := Lib.hid (hRn4.wide (Nat.le_refl _) (show w3.heap.size ≤ w4.heap.size by omega))
      have hcn4 := HBn4.out.cell
      clear hw4 hB4 hRn4 hHeld q5 f5 CI HSn3 HRd HRn3 HBox3 HBx3 HBn3 HB3 hkD
      have hnS : SR w4 w4.heap.size (some ⟨g, 0, none⟩) n4 (NS.map Value.string) := by
        have h := HRn4.out
        rw [← HNn.out] at h ⊢
        exact strsR_at (rowR_here h)
      have hb45 := (Below.refl w4.heap.size w4).alloc (Nat.le_refl _) (.cells #[.slice (some ⟨g, 0, none⟩) n4 cn] 25)
      have CS := srtS_any (some ⟨g, 0, none⟩) n4 cn NS w4.heap.size (w4.alloc (.cells #[.slice (some ⟨g, 0, none⟩) n4 cn] 25)) (by simp) (Boxed.new w4 25 (.slice (some ⟨g, 0, none⟩) n4 cn)).cell ((hnS.below hb45).wide hb45.size) (by omega)
      go_wp2_with fail
      refine (val_any (some ⟨g, 0, none⟩) n4 cn w4).mono ?_
      rintro e5 w5 ⟨rfl, hw5⟩
      rw [← hw5] at CS hb45
      have hz5 : w4.heap.size < w5.heap.size := by rw [hw5]; simp
      have HB5 := Lib.hid hb45
      clear hw5 hb45 hcn4 hnS
      go_wp2_with fail
      refine CS.mono ?_
      rintro e6 w6 ⟨v6, rfl, ho6, hb6⟩
      rw [srt_enc] at ho6
      obtain ⟨A6, c6, rfl, hr6⟩ := strs_owned ho6
      rw [HSn.out] at hr6 ⊢
      have hb46 := HB5.out.trans (hb6.mono HB5.out.size)
      have hb67 := (Below.refl w6.heap.size w6).alloc (Nat.le_refl _) (.cells #[.slice A6 n4 c6] 25)
      have hBs7 : Boxed (w6.alloc (.cells #[.slice A6 n4 c6] 25)) w6.heap.size 25 (.slice A6 n4 c6) := Boxed.new w6 _ _
      have hb47 := hb46.trans (hb67.mono hb46.size)
      have hz46 := hb46.size
      have HB7 := Lib.hid (HB4.out.trans (hb47.mono HB4.out.size))
      have HBox7 := Lib.hid (HBox4.out.on hb47)
      have HBx7 := Lib.hid (HBx4.out.on hb47)
      have HBn7 := Lib.hid ((hb47.cell (p := ⟨w2.heap.size, 0, none⟩) (by dsimp only; omega)).trans HBn4.out.cell)
      have HRn7 := Lib.hid ((HRn4.out.on hb47).wide (Nat.le_refl _) hb47.size)
      have HRs7 := Lib.hid ((hr6.on hb67).wide (lo' := w.heap.size) (by have := HB4.out.size; omega) hb67.size)
      obtain ⟨w7, hw7⟩ : ∃ w7, w6.alloc (.cells #[.slice A6 n4 c6] 25) = w7 := ⟨_, rfl⟩
      have hz7 : w6.heap.size < w7.heap.size := by rw [← hw7]; simp
      have HW7 := Lib.hid hw7
      rw [hw7] at HB7 HBox7 HBx7 HBn7 HRn7 HRs7 hBs7
      have HBs7 := Lib.hid hBs7.cell
      clear hw7 hb67 hb47 hb46 hb6 ho6 hr6 hBs7 CS HB4 HBox4 HBx4 HBn4 HRn4 HB5
      have hnS7 : SR w7 w7.heap.size (some ⟨g, 0, none⟩) n4 (NS.map Value.string) := by
        have h := HRn7.out
        rw [← HNn.out] at h ⊢
        exact strsR_at (rowR_here h)
      have hsS7 : SR w7 w7.heap.size A6 n4 ((srtB NS).map Value.string) := by
        have h := HRs7.out
        rw [← HSn.out] at h ⊢
        exact strsR_at (rowR_here h)
      have CR := relinked_any 89 #[.pointer (some ⟨w.heap.size, 0, none⟩), .pointer (some ⟨w6.heap.size, 0, none⟩), .pointer (some ⟨w2.heap.size, 0, none⟩)] (rxF b.edges NS (srtB NS)) (fun l => 0 ≤ l ∧ l < b.edges + b.outer.length) (.agg #[.int .i64 b.roots, .slice A1 n1 c1, .slice A2 n2 c2, .int .i64 b.edges, .slice A4 n4 c4, .slice A5 n5 c5]) b w7 (enters_of Tryz.func89 (by kernel_rfl) rfl)
        (fun l Y hl hY => by
          rw [show (#[.int .i64 l] ++ #[.pointer (some ⟨w.heap.size, 0, none⟩), .pointer (some ⟨w6.heap.size, 0, none⟩), .pointer (some ⟨w2.heap.size, 0, none⟩)] : Array Value) = #[.int .i64 l, .pointer (some ⟨w.heap.size, 0, none⟩), .pointer (some ⟨w6.heap.size, 0, none⟩), .pointer (some ⟨w2.heap.size, 0, none⟩)] from rfl]
          have hYs := hY.size
          refine rn1_any b.edges NS (srtB NS) (some ⟨g, 0, none⟩) A6 n4 cn n4 c6 l w.heap.size w6.heap.size w2.heap.size Y ((hY.cell (p := ⟨w.heap.size, 3, none⟩) (by dsimp only; omega)).trans HBox7.out.get.2.2.2.1) (by omega) ((hY.cell (p := ⟨w6.heap.size, 0, none⟩) (by dsimp only; omega)).trans HBs7.out) (by omega) ((hY.cell (p := ⟨w2.heap.size, 0, none⟩) (by dsimp only; omega)).trans HBn7.out) (by omega) ((hsS7.below hY).wide hYs) ((hnS7.below hY).wide hYs) HE.out hn16 hn16 (by have := HL4.out; omega))
        (HVb.out w7 HB7.out) hS hNb (fun x hx l hl => HLk.out.1 x hx l hl) (fun x hx => HLk.out.2 x hx)
      obtain ⟨Rb, hRb⟩ : ∃ Rb, relB (rxF b.edges NS (srtB NS)) b = Rb := ⟨_, rfl⟩
      rw [hRb] at CR HrI
      obtain ⟨x0, x1, x2, x3, x4, x5⟩ := HBox7.out.get
      rw [← HW7.out] at x0 x1 x2 x3 x4 x5
      go_wp2_with fail
      rw [HW7.out]
      refine CR.mono ?_
      rintro e8 w8 ⟨v8, rfl, hr8, hb8⟩
      clear x0 x1 x2 x3 x4 x5 CR hnS7 hsS7
      obtain ⟨D1, g1, D2, g2, D4, g4, D5, g5, rfl⟩ := hr8.shape
      have hb89 := (Below.refl w8.heap.size w8).alloc (Nat.le_refl _) (.cells #[.int .i64 Rb.roots, .slice D1 Rb.nodes.length g1, .slice D2 Rb.sites.length g2, .int .i64 Rb.edges, .slice D4 Rb.outer.length g4, .slice D5 Rb.inner.length g5] 34)
      have hbr9 : BoxAt (w8.alloc (.cells #[.int .i64 Rb.roots, .slice D1 Rb.nodes.length g1, .slice D2 Rb.sites.length g2, .int .i64 Rb.edges, .slice D4 Rb.outer.length g4, .slice D5 Rb.inner.length g5] 34)) w8.heap.size 34 (.int .i64 Rb.roots) (.slice D1 Rb.nodes.length g1) (.slice D2 Rb.sites.length g2) (.int .i64 Rb.edges) (.slice D4 Rb.outer.length g4) (.slice D5 Rb.inner.length g5) := six_new w8 _ _ _ _ _ _ _
      have hb79 := hb8.trans (hb89.mono hb8.size)
      have hS9 := hb79.cell (p := ⟨w6.heap.size, 0, none⟩) (by dsimp only; omega)
      rw [HBs7.out] at hS9
      obtain ⟨t0, t1, t2, t3, t4, t5⟩ := hbr9.get
      have u0 := World.rowIs.frozen hbr9 0
      have u1 := World.rowIs.frozen hbr9 1
      have u2 := World.rowIs.frozen hbr9 2
      have u3 := World.rowIs.frozen hbr9 3
      have u4 := World.rowIs.frozen hbr9 4
      have u5 := World.rowIs.frozen hbr9 5
      go_wp2_with fail
      clear t0 t1 t2 t3 t4 t5 u0 u1 u2 u3 u4 u5 hS9 hbr9 hb79 hb89
      have hb8W := (Below.refl w8.heap.size w8).alloc (Nat.le_refl _) (.cells #[.int .i64 Rb.roots, .slice D1 Rb.nodes.length g1, .slice D2 Rb.sites.length g2, .int .i64 Rb.edges, .slice A6 n4 c6, .slice D5 Rb.inner.length g5] 34)
      have hb7W := hb8.trans (hb8W.mono hb8.size)
      have hr9 := (hr8.on hb8W).wide (lo' := w.heap.size) HB7.out.size hb8W.size
      have HRs9 := (HRs7.out.on hb7W).wide (Nat.le_refl _) hb7W.size
      have HB9 := Lib.hid (HB7.out.trans (hb7W.mono HB7.out.size))
      have HBx9 := Lib.hid (HBx7.out.on hb7W)
      obtain ⟨w9, hw9⟩ : ∃ w9, w8.alloc (.cells #[.int .i64 Rb.roots, .slice D1 Rb.nodes.length g1, .slice D2 Rb.sites.length g2, .int .i64 Rb.edges, .slice A6 n4 c6, .slice D5 Rb.inner.length g5] 34) = w9 := ⟨_, rfl⟩
      rw [hw9] at hr9 HRs9 HB9 HBx9 ⊢
      have hR9 : BigR w9 w.heap.size w9.heap.size (.agg #[.int .i64 Rb.roots, .slice D1 Rb.nodes.length g1, .slice D2 Rb.sites.length g2, .int .i64 Rb.edges, .slice A6 n4 c6, .slice D5 Rb.inner.length g5]) Mb := by
        obtain ⟨P, e9, hL⟩ := laid_of hr9
        injection e9 with e9
        simp at e9
        obtain ⟨⟨rfl, rfl⟩, ⟨rfl, rfl⟩, ⟨rfl, rfl⟩, rfl, rfl⟩ := e9
        rw [← HrI.out]
        refine ⟨_, ?_, laid_outer hL (ss := srtB NS) (by rw [HSn.out]; exact HRs9) Rb.edges⟩
        rw [← HSn.out]
      have C10 := HGv.out _ w9 HB9.out hR9
      clear hr8 hb8 hb8W hb7W hr9 HRs9 hw9 hR9
      refine C10.mono ?_
      rintro e10 w10 ⟨v10, rfl, hr10, hb10⟩
      obtain ⟨K1, k1, K2, k2, K4, k4, K5, k5, rfl⟩ := hr10.shape
      have HB10 := Lib.hid (HB9.out.trans (hb10.mono HB9.out.size))
      have HBx10 := Lib.hid (HBx9.out.on hb10)
      have HR10 := Lib.hid hr10
      clear hr10 hb10 C10
      obtain ⟨z0, z1, z2, z3, z4, z5⟩ := HBx10.out.get
      have p0 := World.rowIs.frozen HBx10.out 0
      have p1 := World.rowIs.frozen HBx10.out 1
      have p2 := World.rowIs.frozen HBx10.out 2
      have p3 := World.rowIs.frozen HBx10.out 3
      have p4 := World.rowIs.frozen HBx10.out 4
      have p5 := World.rowIs.frozen HBx10.out 5
      go_wp2_with fail
      have hbig := (sets6_big HBx10.out HR10.out (.int .i64 Lb.roots) (.slice K1 Lb.nodes.length k1) (.slice K2 Lb.sites.length k2) (.int .i64 Lb.edges) (.slice K4 Lb.outer.length k4) (.slice K5 Lb.inner.length k5)).here
      have hbel := sets6_below HB10.out (Nat.le_succ _) (.int .i64 Lb.roots) (.slice K1 Lb.nodes.length k1) (.slice K2 Lb.sites.length k2) (.int .i64 Lb.edges) (.slice K4 Lb.outer.length k4) (.slice K5 Lb.inner.length k5)
      unfold sets6 at hbig hbel
      refine bodyPost_ret (v := .tuple #[.agg #[.int .i64 Lb.roots, .slice K1 Lb.nodes.length k1, .slice K2 Lb.sites.length k2, .int .i64 Lb.edges, .slice K4 Lb.outer.length k4, .slice K5 Lb.inner.length k5], .bool q4]) (by simp [results, Tryz.results30, go_sem, z0, z1, z2, z3, z4, z5]) rfl ⟨_, rfl, hbig, hbel⟩
end Go.Proofs.YtlhickjlcmiknaaGreat.roi
