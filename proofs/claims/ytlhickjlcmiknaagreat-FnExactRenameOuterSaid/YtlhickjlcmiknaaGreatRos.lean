/- spec.RenameOuter. -/
import Derived.Test.YtlhickjlcmiknaaGreatRox
import Derived.Test.YtlhickjlcmiknaaGreatSo
namespace Go.Proofs.YtlhickjlcmiknaaGreat.ros
open kit bg sg opn strs only hb sig isig un over gn nm inn ht gd im pt marks eqs hc hi hw hn rs br bm bw cf lf ib isa lawb lw cl rt ix tg rl ed tp rtg nl lo jo sb wb mb lep co uw rox
open su (sortU)
open Go.RowKit
set_option linter.unusedVariables false
set_option linter.unusedSimpArgs false
theorem rowR_nil0 {w : World} {lo hi n c sz : Nat} {t : TypeId} {A : Option Addr} {M : Nat → Value} (h : RowR w lo hi t sz A n c M) : A = none → c = 0 := fun e => by
  rcases h with ⟨-, h, -⟩ | ⟨g, f, h, -⟩
  · exact h
  · rw [e] at h
    cases h
theorem rxC_same {b : Big} {fr tt : ByteArray} (h : fr = tt) (hn : nameB tt = true) : rxC b fr tt = true := by unfold rxC; rw [hn, decide_eq_true h]; rfl
theorem rxC_new {b : Big} {fr tt : ByteArray} (hn : nameB tt = true) (ht : tt ∉ b.outer) : rxC b fr tt = true := by unfold rxC; rw [hn, in_no' ht, Bool.not_false, Bool.or_true]; rfl
theorem rxC_old {b : Big} {fr tt : ByteArray} (hne : fr ≠ tt) (ht : tt ∈ b.outer) : rxC b fr tt = false := by unfold rxC; rw [in_yes' ht, decide_eq_false hne, Bool.not_true, Bool.or_false, Bool.and_false]
theorem rxC_name {b : Big} {fr tt : ByteArray} (hn : nameB tt = false) : rxC b fr tt = false := by unfold rxC; rw [hn]; rfl
set_option maxRecDepth 20000 in
set_option maxHeartbeats 12800000 in
theorem sRx_any (A : Option Addr) (n c : Nat) (cs : List Ctl) (v : Value) (b : Big) (fr tt : ByteArray) (w : World) (hC : CtlsAt w w.heap.size A n cs) (hn : n ≤ 1048576) (hs : ∀ c ∈ cs, c.name.size ≤ 1048576) (hv : BigAt w w.heap.size v b) (hS : BigS b) (hw : BigW b) (hN : NilV v) (hfs : fr.size ≤ 1048576) (hts : tt.size ≤ 1048576) :
    Calls Tryz.prog 29 #[.slice A n c, v, .string fr, .string tt] w (BigPost (rxP cs b fr tt) (rxR cs b fr tt) w) := by
  have hNb := hN
  have hVb := hv
  obtain ⟨A1, n1, c1, A2, n2, c2, A4, n4, c4, A5, n5, c5, rfl, h1, h2, h4, h5⟩ := hv
  have hnil := hN.get
  have hbx := (Below.refl w.heap.size w).alloc (Nat.le_refl _) (.cells #[.int .i64 b.roots, .slice A1 n1 c1, .slice A2 n2 c2, .int .i64 b.edges, .slice A4 n4 c4, .slice A5 n5 c5] 34)
  have HBoxI : Hid (BoxAt (w.alloc (.cells #[.int .i64 b.roots, .slice A1 n1 c1, .slice A2 n2 c2, .int .i64 b.edges, .slice A4 n4 c4, .slice A5 n5 c5] 34)) w.heap.size 34 (.int .i64 b.roots) (.slice A1 n1 c1) (.slice A2 n2 c2) (.int .i64 b.edges) (.slice A4 n4 c4) (.slice A5 n5 c5)) := Lib.hid (six_new w _ _ _ _ _ _ _)
  obtain ⟨W0, hW0⟩ : ∃ W, w.alloc (.cells #[.int .i64 b.roots, .slice A1 n1 c1, .slice A2 n2 c2, .int .i64 b.edges, .slice A4 n4 c4, .slice A5 n5 c5] 34) = W := ⟨_, rfl⟩
  have hWz0 : W0.heap.size = w.heap.size + 1 := by rw [← hW0]; simp
  rw [hW0] at hbx HBoxI
  have hb0 := (Below.refl W0.heap.size W0).alloc (Nat.le_refl _) (.cells #[.int .i64 0, .slice none 0 0, .slice none 0 0, .int .i64 0, .slice none 0 0, .slice none 0 0] 34)
  have HBx0 : Hid (BoxAt (W0.alloc (.cells #[.int .i64 0, .slice none 0 0, .slice none 0 0, .int .i64 0, .slice none 0 0, .slice none 0 0] 34)) W0.heap.size 34 (.int .i64 0) (.slice none 0 0) (.slice none 0 0) (.int .i64 0) (.slice none 0 0) (.slice none 0 0)) := Lib.hid (six_new W0 _ _ _ _ _ _ _)
  have HBox := Lib.hid (HBoxI.out.on hb0)
  obtain ⟨W, hW⟩ : ∃ W, W0.alloc (.cells #[.int .i64 0, .slice none 0 0, .slice none 0 0, .int .i64 0, .slice none 0 0, .slice none 0 0] 34) = W := ⟨_, rfl⟩
  have hWz : W.heap.size = w.heap.size + 1 + 1 := by rw [← hW]; simp; exact hWz0
  rw [hW] at hb0 HBx0 HBox
  rw [hWz0] at HBx0
  have HWq0 := Lib.hid hW0
  have HWq := Lib.hid hW
  have HB0 := Lib.hid (hbx.trans (hb0.mono hbx.size))
  have HWz := Lib.hid hWz
  have hVW : BigAt W W.heap.size (.agg #[.int .i64 b.roots, .slice A1 n1 c1, .slice A2 n2 c2, .int .i64 b.edges, .slice A4 n4 c4, .slice A5 n5 c5]) b := BigAt.wide (BigAt.below ⟨_, _, _, _, _, _, _, _, _, _, _, _, rfl, h1, h2, h4, h5⟩ HB0.out) HB0.out.size
  clear hW0 hW hb0 hWz hWz0 hbx HBoxI hN
  have C := l2Good_any A n c cs _ b W ((hC.below HB0.out).wide HB0.out.size) hVW hn hs hS hw
  have hsW : w.heap.size + 1 + 1 ≤ W.heap.size := by rw [HWz.out]; exact Nat.le_refl _
  have h4n : n4 ≤ 1048576 := by have := hS.2.2.2.1; rw [h4.strlen] at this; exact this
  have HCf := Lib.hid (fun (Y : World) (hY : Below w.heap.size w Y) => l2At_any A4 n4 c4 b.outer fr Y _ (h4.below hY) h4n)
  have HCt := Lib.hid (fun (Y : World) (hY : Below w.heap.size w Y) => l2At_any A4 n4 c4 b.outer tt Y _ (h4.below hY) h4n)
  have hsm : tt.size ≤ maxLen := by unfold maxLen; omega
  have CNm := fun Y => nm_any tt Y hsm
  obtain ⟨x0, x1, x2, x3, x4, x5⟩ := HBox.out.get
  clear hVW hs
  cases hq : bigB cs b with
  | false =>
    rw [hq] at C
    have HR := Lib.hid (show rxP cs b fr tt = false by unfold rxP; rw [hq]; rfl)
    rw [HR.out, rx_no HR.out]
    clear hq CNm
    go_enter Tryz.func29, Tryz.ntmps29
    go_wp2_with fail
    rw [HWq0.out, HWq.out]
    go_wp2_with fail
    refine C.mono ?_
    rintro e w1 ⟨rfl, hb⟩
    have hb1 := HB0.out.trans (hb.mono HB0.out.size)
    have HBx1 := Lib.hid (HBx0.out.on hb)
    have HBox1 := Lib.hid (HBox.out.on hb)
    have hsz1 : w.heap.size + 1 + 1 ≤ w1.heap.size := Nat.le_trans hsW hb.size
    clear hb C x0 x1 x2 x3 x4 x5
    obtain ⟨z0, z1, z2, z3, z4, z5⟩ := HBx1.out.get
    have f0 := World.rowIs.frozen HBx1.out 0
    have f1 := World.rowIs.frozen HBx1.out 1
    have f2 := World.rowIs.frozen HBx1.out 2
    have f3 := World.rowIs.frozen HBx1.out 3
    have f4 := World.rowIs.frozen HBx1.out 4
    have f5 := World.rowIs.frozen HBx1.out 5
    go_wp2_with fail
    refine bodyPost_ret (v := .tuple #[.agg #[.int .i64 0, .slice none 0 0, .slice none 0 0, .int .i64 0, .slice none 0 0, .slice none 0 0], .bool false]) (by simp [results, Tryz.results29, go_sem, z0, z1, z2, z3, z4, z5]) rfl ⟨_, rfl, BigR.zero, sets6_below hb1 (by omega) _ _ _ _ _ _⟩
  | true =>
    rw [hq] at C
    cases hnm : nameB tt with
    | false =>
      rw [hnm] at CNm
      have HR := Lib.hid (show rxP cs b fr tt = false by unfold rxP; rw [rxC_name hnm, Bool.and_false])
      rw [HR.out, rx_no HR.out]
      clear hq hnm
      go_enter Tryz.func29, Tryz.ntmps29
      go_wp2_with fail
      rw [HWq0.out, HWq.out]
      go_wp2_with fail
      refine C.mono ?_
      rintro e w1 ⟨rfl, hb⟩
      have hb1 := HB0.out.trans (hb.mono HB0.out.size)
      have HBx1 := Lib.hid (HBx0.out.on hb)
      have HBox1 := Lib.hid (HBox.out.on hb)
      have hsz1 : w.heap.size + 1 + 1 ≤ w1.heap.size := Nat.le_trans hsW hb.size
      clear hb C x0 x1 x2 x3 x4 x5
      have C1 := CNm w1
      obtain ⟨x0, x1, x2, x3, x4, x5⟩ := HBox1.out.get
      go_wp2_with fail
      refine C1.mono ?_
      rintro e w2 ⟨rfl, rfl⟩
      clear x0 x1 x2 x3 x4 x5 C1
      obtain ⟨z0, z1, z2, z3, z4, z5⟩ := HBx1.out.get
      have f0 := World.rowIs.frozen HBx1.out 0
      have f1 := World.rowIs.frozen HBx1.out 1
      have f2 := World.rowIs.frozen HBx1.out 2
      have f3 := World.rowIs.frozen HBx1.out 3
      have f4 := World.rowIs.frozen HBx1.out 4
      have f5 := World.rowIs.frozen HBx1.out 5
      go_wp2_with fail
      refine bodyPost_ret (v := .tuple #[.agg #[.int .i64 0, .slice none 0 0, .slice none 0 0, .int .i64 0, .slice none 0 0, .slice none 0 0], .bool false]) (by simp [results, Tryz.results29, go_sem, z0, z1, z2, z3, z4, z5]) rfl ⟨_, rfl, BigR.zero, sets6_below hb1 (by omega) _ _ _ _ _ _⟩
    | true =>
      rw [hnm] at CNm
      rcases ixF_cases b.outer fr with ⟨hix, hno⟩ | ⟨j, hix, hjs, -⟩
      · rw [hix] at HCf
        have hf : inB b.outer fr = false := in_no' hno
        have HR := Lib.hid (show rxP cs b fr tt = false by unfold rxP; rw [hf, Bool.and_false]; rfl)
        rw [HR.out, rx_no HR.out]
        clear hq hf hno hix hnm
        go_enter Tryz.func29, Tryz.ntmps29
        go_wp2_with fail
        rw [HWq0.out, HWq.out]
        go_wp2_with fail
        refine C.mono ?_
        rintro e w1 ⟨rfl, hb⟩
        have hb1 := HB0.out.trans (hb.mono HB0.out.size)
        have HBx1 := Lib.hid (HBx0.out.on hb)
        have HBox1 := Lib.hid (HBox.out.on hb)
        have hsz1 : w.heap.size + 1 + 1 ≤ w1.heap.size := Nat.le_trans hsW hb.size
        clear hb C x0 x1 x2 x3 x4 x5
        have C2 := HCf.out w1 hb1
        have C1 := CNm w1
        obtain ⟨x0, x1, x2, x3, x4, x5⟩ := HBox1.out.get
        go_wp2_with fail
        refine C1.mono ?_
        rintro e w2 ⟨rfl, rfl⟩
        go_wp2_with fail
        refine C2.mono ?_
        rintro e w2 ⟨rfl, rfl⟩
        clear x0 x1 x2 x3 x4 x5 C1 C2
        obtain ⟨z0, z1, z2, z3, z4, z5⟩ := HBx1.out.get
        have f0 := World.rowIs.frozen HBx1.out 0
        have f1 := World.rowIs.frozen HBx1.out 1
        have f2 := World.rowIs.frozen HBx1.out 2
        have f3 := World.rowIs.frozen HBx1.out 3
        have f4 := World.rowIs.frozen HBx1.out 4
        have f5 := World.rowIs.frozen HBx1.out 5
        go_wp2_with fail
        refine bodyPost_ret (v := .tuple #[.agg #[.int .i64 0, .slice none 0 0, .slice none 0 0, .int .i64 0, .slice none 0 0, .slice none 0 0], .bool false]) (by simp [results, Tryz.results29, go_sem, z0, z1, z2, z3, z4, z5]) rfl ⟨_, rfl, BigR.zero, sets6_below hb1 (by omega) _ _ _ _ _ _⟩
      · rw [hix] at HCf
        have hf : inB b.outer fr = true := in_yes' (List.mem_of_getElem? hjs)
        cases he : (fr.toList == tt.toList) with
        | true =>
          have HR := Lib.hid (show rxP cs b fr tt = true by unfold rxP; rw [hq, hf, rxC_same (str_eq he) hnm]; rfl)
          have HQ : Hid (rxR cs b fr tt = ouB b (rxN b fr tt) (sortU (rxN b fr tt))) := Lib.hid (by rw [rx_yes HR.out]; rfl)
          obtain ⟨Lb, hLb⟩ : ∃ Lb, ouB b (rxN b fr tt) (sortU (rxN b fr tt)) = Lb := ⟨_, rfl⟩
          rw [HR.out, HQ.out, hLb]
          have hz := sizes_of (big_of hq).2.1
          have hjl := (List.getElem?_eq_some_iff.1 hjs).1
          have hl4 : b.outer.length = n4 := h4.strlen
          have hjn : j < n4 := by omega
          have hn16 : n4 ≤ 16 := by omega
          have HNm : Hid (rxN b fr tt = b.outer.set j tt) := Lib.hid (by unfold rxN; rw [hix, Int.toNat_natCast])
          have HNl : Hid ((rxN b fr tt).length = n4) := Lib.hid (by rw [HNm.out, List.length_set]; exact hl4)
          have HNw := Lib.hid (fun (g : Nat) (c' : Nat) (Y : World) (h : SR Y Y.heap.size (some ⟨g, 0, none⟩) n4 ((rxN b fr tt).map Value.string)) => so.l2Sorted_any (some ⟨g, 0, none⟩) n4 c' (rxN b fr tt) Y h (by omega))
          have HLl : Hid ((sortU (rxN b fr tt)).length ≤ 16) := Lib.hid (by have := su.sortU_len (rxN b fr tt); have := HNl.out; omega)
          have HOu := Lib.hid (fun (Am : Option Addr) (cm : Nat) (A' : Option Addr) (c' : Nat) (Y : World) (hY : Below w.heap.size w Y) (hm : SR Y Y.heap.size Am n4 ((rxN b fr tt).map Value.string)) (hs : SR Y Y.heap.size A' (sortU (rxN b fr tt)).length ((sortU (rxN b fr tt)).map Value.string)) (h0 : A' = none → c' = 0) =>
            ou_any (.agg #[.int .i64 b.roots, .slice A1 n1 c1, .slice A2 n2 c2, .int .i64 b.edges, .slice A4 n4 c4, .slice A5 n5 c5]) cs b Am n4 cm (rxN b fr tt) A' (sortU (rxN b fr tt)).length c' (sortU (rxN b fr tt)) Y (BigAt.wide (BigAt.below ⟨_, _, _, _, _, _, _, _, _, _, _, _, rfl, h1, h2, h4, h5⟩ hY) hY.size) hNb hq hm (by rw [HNl.out]; exact hl4.symm) hs (by have := HLl.out; omega) h0)
          rw [hLb] at HOu
          have HSr := Lib.hid h4
          have HO1 : Hid (∀ u ∈ b.outer.map Value.string, u.oneCell' = true) := Lib.hid (fun u hu => by obtain ⟨s, -, rfl⟩ := List.mem_map.1 hu; rfl)
          have HOl : Hid ((b.outer.map Value.string).length = n4 * 1) := Lib.hid (by rw [List.length_map, Nat.mul_one]; exact hl4)
          have HZ := Lib.hid (fun e : A4 = none => And.intro (sr_zero h4 e) (hnil.2.2.1 e))
          have e1' : 0 + n4 ≤ maxLen := by unfold maxLen; omega
          have e2' : (0 + n4) * 16 ≤ 140737488355328 := by omega
          have HJs := Lib.hid hjs
          have HL4 := Lib.hid hl4
          obtain ⟨i0, hi, hz0, hz1, hz2⟩ := info_parts str_info
          have HI := Lib.hid (And.intro hi (And.intro hz0 (And.intro hz1 hz2)))
          clear hLb HQ HR hq hz hS hw hNb hVb hnil h1 h2 h4 h5 hC hn hix hjs hjl hl4 hi hz0 hz1 hz2 hf hnm
          go_enter Tryz.func29, Tryz.ntmps29
          go_wp2_with fail
          rw [HWq0.out, HWq.out]
          go_wp2_with fail
          refine C.mono ?_
          rintro e w1 ⟨rfl, hb⟩
          have hb1 := HB0.out.trans (hb.mono HB0.out.size)
          have HBx1 := Lib.hid (HBx0.out.on hb)
          have HBox1 := Lib.hid (HBox.out.on hb)
          have hsz1 : w.heap.size + 1 + 1 ≤ w1.heap.size := Nat.le_trans hsW hb.size
          clear hb C x0 x1 x2 x3 x4 x5
          have C1 := CNm w1
          have C2 := HCf.out w1 hb1
          have hbA := (Below.refl w1.heap.size w1).alloc (Nat.le_refl _) (.cells #[] 9)
          have hwA := hb1.trans (hbA.mono hb1.size)
          have HOA := Lib.hid (ownsRow_nil_new w1 9 1 w1.heap.size (Nat.le_refl _))
          have HSrc := Lib.hid (sr_src (HSr.out.below hwA))
          have hxs : w1.heap.size ≤ (w1.alloc (.cells #[] 9)).heap.size := hbA.size
          have HbA := Lib.hid hbA
          have HB1 := Lib.hid hb1
          obtain ⟨x0, x1, x2, x3, x4, x5⟩ := HBox1.out.get
          obtain ⟨y0, y1, y2, y3, y4, y5⟩ := (HBox1.out.on hbA).get
          clear hbA hwA hb1
          go_wp2_with fail
          refine C1.mono ?_
          rintro e w2 ⟨rfl, rfl⟩
          go_wp2_with fail
          refine C2.mono ?_
          rintro e w2 ⟨rfl, rfl⟩
          clear C1 C2
          go_wp2_with (at_builtin; refine wpList_append_src _ rfl _ _ 25 rfl w1.heap.size 9 i0 (.string ⟨#[]⟩) 1 16 Tryz.underlying25 HI.out.1 HI.out.2.1 HI.out.2.2.1 HI.out.2.2.2 rfl (by decide) _ _ _ rfl HOA.out A4 n4 c4 (b.outer.map Value.string) rfl HZ.out HOl.out HSrc.out HO1.out e1' e2' hxs ?_; intro v1 w3 hown1 hgrow1; have hbg := HbA.out.grown hgrow1 hxs (fun j hj => (HOA.out.lt j hj).1); obtain ⟨A', c', hv1, hr4⟩ := strs_owned (by have := hown1; rw [Nat.zero_add, List.nil_append] at this; exact this); rw [HL4.out] at hv1 hr4; subst hv1; have HR3 := Lib.hid hr4; have HBg := Lib.hid hbg; clear hgrow1 hown1 hr4 hbg; clear x0 x1 x2 x3 x4 x5 y0 y1 y2 y3 y4 y5; obtain ⟨x0, x1, x2, x3, x4, x5⟩ := (HBox1.out.on HBg.out).get)
          have hb3 := HB1.out.trans (HBg.out.mono HB1.out.size)
          rcases HR3.out with ⟨-, -, h0⟩ | ⟨g, f, rfl, hg1, hg2, hnc, hrow, hfx⟩
          · omega
          have hcj := hrow.cell (show j < c' * 1 by omega)
          have hfj := hrow.frozen j
          obtain ⟨uj, huj⟩ : ∃ uj, f j = uj := ⟨_, rfl⟩
          rw [huj] at hcj
          have HRow := Lib.hid hrow
          have HFx := Lib.hid hfx
          have HB3 := Lib.hid hb3
          clear hrow hfx huj HOA HSrc HbA hxs
          refine (HCf.out w3 hb3).mono ?_
          rintro e w4 ⟨rfl, rfl⟩
          go_wp2_with fail
          obtain ⟨X, hX⟩ : ∃ X, w3.setCell ⟨g, j, none⟩ (.string tt) = X := ⟨_, rfl⟩
          have hXr := HRow.out.set j (.string tt)
          have hXb := hb3.setCell (p := ⟨g, j, none⟩) (show w.heap.size ≤ g by have := HB1.out.size; omega) (.string tt)
          have hBX := HBg.out.setCell (p := ⟨g, j, none⟩) hg1 (.string tt)
          rw [hX] at hXr hXb hBX ⊢
          have hRX : RowR X w1.heap.size X.heap.size 9 1 (some ⟨g, 0, none⟩) n4 c' (at_ (rxN b fr tt)) := RowR.mk hg1 hXr.lt hnc hXr (fun x hx => by
            have hx2 : x < n4 := by omega
            show (if x = j then _ else f x) = _
            rw [HNm.out]
            by_cases e : x = j
            · subst e
              rw [if_pos rfl, at_of (by rw [List.getElem?_set_self (by rw [HL4.out]; exact hx2)])]
            · rw [if_neg e, HFx.out x hx]
              have e2 : b.outer[x]? = some (b.outer[x]'(by rw [HL4.out]; exact hx2)) := List.getElem?_eq_getElem _
              rw [at_of e2, at_of (by rw [List.getElem?_set_ne (Ne.symm e)]; exact e2)])
          have HRX := Lib.hid hRX
          have HBox2 := Lib.hid (HBox1.out.on hBX)
          have HBx2 := Lib.hid (HBx1.out.on hBX)
          have HB2 := Lib.hid hXb
          have hsz2 := hXb.size
          have hkD := (Below.refl X.heap.size X).drew
          have hwD := hXb.drew
          have hsX := hBX.size
          have HS2 : Hid (∀ w', Below X.heap.size X w' → (w'.cell? ⟨w.heap.size, 0, none⟩ = some (.int .i64 b.roots) ∧ w'.cell? ⟨w.heap.size, 1, none⟩ = some (.slice A1 n1 c1) ∧ w'.cell? ⟨w.heap.size, 2, none⟩ = some (.slice A2 n2 c2) ∧ w'.cell? ⟨w.heap.size, 3, none⟩ = some (.int .i64 b.edges) ∧ w'.cell? ⟨w.heap.size, 4, none⟩ = some (.slice A4 n4 c4) ∧ w'.cell? ⟨w.heap.size, 5, none⟩ = some (.slice A5 n5 c5))) := Lib.hid (fun w' hq => (HBox2.out.on hq).get)
          clear x0 x1 x2 x3 x4 x5 hcj hfj hX hXr hXb hBX hRX
          refine rh.go_begin 6 (fun w' => (w'.cell? ⟨w.heap.size, 0, none⟩ = some (.int .i64 b.roots) ∧ w'.cell? ⟨w.heap.size, 1, none⟩ = some (.slice A1 n1 c1) ∧ w'.cell? ⟨w.heap.size, 2, none⟩ = some (.slice A2 n2 c2) ∧ w'.cell? ⟨w.heap.size, 3, none⟩ = some (.int .i64 b.edges) ∧ w'.cell? ⟨w.heap.size, 4, none⟩ = some (.slice A4 n4 c4) ∧ w'.cell? ⟨w.heap.size, 5, none⟩ = some (.slice A5 n5 c5))) (by kernel_rfl) ?_ (fun hHeld => ?_)
          · ((try dsimp only); exact HS2.out _ (by go_grown))
          refine rh.go_take (i := 0) (v := ?v1) rfl (by kernel_rfl) (fun _ _ _ h => h) (Or.inl ⟨by rfl, ?hy1⟩) (by assumption) ?rest1
          case hy1 => (intro wS hSw; (try dsimp only at hSw); go_simp; try (with_reducible rfl))
          try simp only [Act.put, List.setIfInBounds_toArray, List.set_cons_zero, List.set_cons_succ]
          refine rh.go_take (i := 1) (v := ?v2) rfl (by kernel_rfl) (fun _ _ _ h => h) (Or.inl ⟨by rfl, ?hy2⟩) (by assumption) ?rest2
          case hy2 => (intro wS hSw; (try dsimp only at hSw); go_simp; try (with_reducible rfl))
          try simp only [Act.put, List.setIfInBounds_toArray, List.set_cons_zero, List.set_cons_succ]
          refine rh.go_take (i := 2) (v := ?v3) rfl (by kernel_rfl) (fun _ _ _ h => h) (Or.inl ⟨by rfl, ?hy3⟩) (by assumption) ?rest3
          case hy3 => (intro wS hSw; (try dsimp only at hSw); go_simp; try (with_reducible rfl))
          try simp only [Act.put, List.setIfInBounds_toArray, List.set_cons_zero, List.set_cons_succ]
          have hsD : SR X.drew X.drew.heap.size (some ⟨g, 0, none⟩) n4 ((rxN b fr tt).map Value.string) := by
            have h := rowR_here (HRX.out.on hkD)
            rw [← HNl.out] at h
            have h2 := strsR_at h
            rw [HNl.out] at h2
            exact h2
          refine rh.go_next (i := 3) rfl (by kernel_rfl) (fun K2 hK => ?_)
          (go_simp; go_at_call 75; refine (HNw.out g c' _ hsD).mono ?_; rintro e w5 ⟨A', c3, rfl, hr3, hb⟩; have hk3 := hkD.trans (hb.mono hkD.size); have hs3 := hk3.size; have HR5 := Lib.hid (rowR_here hr3); clear hb hr3; go_wp2_with fail)
          refine hK.out _ _ ?_ (fun hHeld => ?_)
          · ((try dsimp only); exact HS2.out _ (by go_grown))
          clear hK K2
          try simp only [Act.put, List.setIfInBounds_toArray, List.set_cons_zero, List.set_cons_succ]
          have hw3 := HB2.out.trans (hk3.mono HB2.out.size)
          have hsr : SR w5 w5.heap.size (some ⟨g, 0, none⟩) n4 ((rxN b fr tt).map Value.string) := by
            have h := rowR_here (HRX.out.on hk3)
            rw [← HNl.out] at h
            have h2 := strsR_at h
            rw [HNl.out] at h2
            exact h2
          refine rh.go_next (i := 4) rfl (by kernel_rfl) (fun K2 hK => ?_)
          (go_simp; go_at_call 76; refine (HOu.out (some ⟨g, 0, none⟩) c' A' c3 w5 hw3 hsr (strsR_at HR5.out) (rowR_nil0 HR5.out)).mono ?_; rintro e w6 ⟨v4, rfl, hr4, hb⟩; obtain ⟨D1, g1, D2, g2, D4, g4, D5, g5, rfl⟩ := hr4.shape; have hk4 := hk3.trans (hb.mono hk3.size); have hs4 := hk4.size; have HR4 := Lib.hid hr4; have HK4 := Lib.hid hk4; have hw34 := hb.size; clear hb hr4; go_wp2_with fail)
          refine hK.out _ _ ?_ (fun hHeld => ?_)
          · ((try dsimp only); exact HS2.out _ (by go_grown))
          clear hK K2
          try simp only [Act.put, List.setIfInBounds_toArray, List.set_cons_zero, List.set_cons_succ]
          have HBx4 := Lib.hid (HBx2.out.on HK4.out)
          have HBox4 := Lib.hid (HBox2.out.on HK4.out)
          obtain ⟨z0, z1, z2, z3, z4, z5⟩ := HBx4.out.get
          have f0 := World.rowIs.frozen HBx4.out 0
          have f1 := World.rowIs.frozen HBx4.out 1
          have f2 := World.rowIs.frozen HBx4.out 2
          have f3 := World.rowIs.frozen HBx4.out 3
          have f4 := World.rowIs.frozen HBx4.out 4
          have f5 := World.rowIs.frozen HBx4.out 5
          refine rh.go_next (i := 5) rfl (by kernel_rfl) (fun K2 hK => ?_)
          go_simp
          refine hK.out _ _ ?_ (fun hHeld => ?_)
          · ((try dsimp only); exact (show BoxAt (sets6 w6 (w.heap.size + 1) (.int .i64 Lb.roots) (.slice D1 Lb.nodes.length g1) (.slice D2 Lb.sites.length g2) (.int .i64 Lb.edges) (.slice D4 Lb.outer.length g4) (.slice D5 Lb.inner.length g5)) w.heap.size 34 (.int .i64 b.roots) (.slice A1 n1 c1) (.slice A2 n2 c2) (.int .i64 b.edges) (.slice A4 n4 c4) (.slice A5 n5 c5) from World.rowIs.of_block HBox4.out (sets6_block _ _ _ _ _ _ (by omega))).get)
          clear hK K2
          try simp only [Act.put, List.setIfInBounds_toArray, List.set_cons_zero, List.set_cons_succ]
          refine rh.go_last rfl (by kernel_rfl) (fun K2 hK => ?_)
          go_simp
          refine hK.out _ _ ?_
          refine NoPanic.normal ?_
          clear hK K2
          have HRZ := Lib.hid (HR4.out.wide (lo' := w.heap.size) (by have := hw3.size; omega) (Nat.le_refl _))
          have HB4 := Lib.hid (HB2.out.trans (HK4.out.mono HB2.out.size))
          go_wp2_with fail
          have hbig := (sets6_big HBx4.out HRZ.out (.int .i64 Lb.roots) (.slice D1 Lb.nodes.length g1) (.slice D2 Lb.sites.length g2) (.int .i64 Lb.edges) (.slice D4 Lb.outer.length g4) (.slice D5 Lb.inner.length g5)).here
          have hbel := sets6_below HB4.out (Nat.le_succ _) (.int .i64 Lb.roots) (.slice D1 Lb.nodes.length g1) (.slice D2 Lb.sites.length g2) (.int .i64 Lb.edges) (.slice D4 Lb.outer.length g4) (.slice D5 Lb.inner.length g5)
          unfold sets6 at hbig hbel
          refine bodyPost_ret (v := .tuple #[.agg #[.int .i64 Lb.roots, .slice D1 Lb.nodes.length g1, .slice D2 Lb.sites.length g2, .int .i64 Lb.edges, .slice D4 Lb.outer.length g4, .slice D5 Lb.inner.length g5], .bool true]) (by simp [results, Tryz.results29, go_sem, z0, z1, z2, z3, z4, z5]) rfl ⟨_, rfl, hbig, hbel⟩
        | false =>
          rcases ixF_cases b.outer tt with ⟨hit, hno⟩ | ⟨j2, hit, hts, -⟩
          · rw [hit] at HCt
            have HR := Lib.hid (show rxP cs b fr tt = true by unfold rxP; rw [hq, hf, rxC_new hnm hno]; rfl)
            have HQ : Hid (rxR cs b fr tt = ouB b (rxN b fr tt) (sortU (rxN b fr tt))) := Lib.hid (by rw [rx_yes HR.out]; rfl)
            obtain ⟨Lb, hLb⟩ : ∃ Lb, ouB b (rxN b fr tt) (sortU (rxN b fr tt)) = Lb := ⟨_, rfl⟩
            rw [HR.out, HQ.out, hLb]
            have hz := sizes_of (big_of hq).2.1
            have hjl := (List.getElem?_eq_some_iff.1 hjs).1
            have hl4 : b.outer.length = n4 := h4.strlen
            have hjn : j < n4 := by omega
            have hn16 : n4 ≤ 16 := by omega
            have HNm : Hid (rxN b fr tt = b.outer.set j tt) := Lib.hid (by unfold rxN; rw [hix, Int.toNat_natCast])
            have HNl : Hid ((rxN b fr tt).length = n4) := Lib.hid (by rw [HNm.out, List.length_set]; exact hl4)
            have HNw := Lib.hid (fun (g : Nat) (c' : Nat) (Y : World) (h : SR Y Y.heap.size (some ⟨g, 0, none⟩) n4 ((rxN b fr tt).map Value.string)) => so.l2Sorted_any (some ⟨g, 0, none⟩) n4 c' (rxN b fr tt) Y h (by omega))
            have HLl : Hid ((sortU (rxN b fr tt)).length ≤ 16) := Lib.hid (by have := su.sortU_len (rxN b fr tt); have := HNl.out; omega)
            have HOu := Lib.hid (fun (Am : Option Addr) (cm : Nat) (A' : Option Addr) (c' : Nat) (Y : World) (hY : Below w.heap.size w Y) (hm : SR Y Y.heap.size Am n4 ((rxN b fr tt).map Value.string)) (hs : SR Y Y.heap.size A' (sortU (rxN b fr tt)).length ((sortU (rxN b fr tt)).map Value.string)) (h0 : A' = none → c' = 0) =>
              ou_any (.agg #[.int .i64 b.roots, .slice A1 n1 c1, .slice A2 n2 c2, .int .i64 b.edges, .slice A4 n4 c4, .slice A5 n5 c5]) cs b Am n4 cm (rxN b fr tt) A' (sortU (rxN b fr tt)).length c' (sortU (rxN b fr tt)) Y (BigAt.wide (BigAt.below ⟨_, _, _, _, _, _, _, _, _, _, _, _, rfl, h1, h2, h4, h5⟩ hY) hY.size) hNb hq hm (by rw [HNl.out]; exact hl4.symm) hs (by have := HLl.out; omega) h0)
            rw [hLb] at HOu
            have HSr := Lib.hid h4
            have HO1 : Hid (∀ u ∈ b.outer.map Value.string, u.oneCell' = true) := Lib.hid (fun u hu => by obtain ⟨s, -, rfl⟩ := List.mem_map.1 hu; rfl)
            have HOl : Hid ((b.outer.map Value.string).length = n4 * 1) := Lib.hid (by rw [List.length_map, Nat.mul_one]; exact hl4)
            have HZ := Lib.hid (fun e : A4 = none => And.intro (sr_zero h4 e) (hnil.2.2.1 e))
            have e1' : 0 + n4 ≤ maxLen := by unfold maxLen; omega
            have e2' : (0 + n4) * 16 ≤ 140737488355328 := by omega
            have HJs := Lib.hid hjs
            have HL4 := Lib.hid hl4
            obtain ⟨i0, hi, hz0, hz1, hz2⟩ := info_parts str_info
            have HI := Lib.hid (And.intro hi (And.intro hz0 (And.intro hz1 hz2)))
            clear hLb HQ HR hq hz hS hw hNb hVb hnil h1 h2 h4 h5 hC hn hix hjs hjl hl4 hi hz0 hz1 hz2 hf hnm hno hit
            go_enter Tryz.func29, Tryz.ntmps29
            go_wp2_with fail
            rw [HWq0.out, HWq.out]
            go_wp2_with fail
            refine C.mono ?_
            rintro e w1 ⟨rfl, hb⟩
            have hb1 := HB0.out.trans (hb.mono HB0.out.size)
            have HBx1 := Lib.hid (HBx0.out.on hb)
            have HBox1 := Lib.hid (HBox.out.on hb)
            have hsz1 : w.heap.size + 1 + 1 ≤ w1.heap.size := Nat.le_trans hsW hb.size
            clear hb C x0 x1 x2 x3 x4 x5
            have C1 := CNm w1
            have C2 := HCf.out w1 hb1
            have C3 := HCt.out w1 hb1
            have hbA := (Below.refl w1.heap.size w1).alloc (Nat.le_refl _) (.cells #[] 9)
            have hwA := hb1.trans (hbA.mono hb1.size)
            have HOA := Lib.hid (ownsRow_nil_new w1 9 1 w1.heap.size (Nat.le_refl _))
            have HSrc := Lib.hid (sr_src (HSr.out.below hwA))
            have hxs : w1.heap.size ≤ (w1.alloc (.cells #[] 9)).heap.size := hbA.size
            have HbA := Lib.hid hbA
            have HB1 := Lib.hid hb1
            obtain ⟨x0, x1, x2, x3, x4, x5⟩ := HBox1.out.get
            obtain ⟨y0, y1, y2, y3, y4, y5⟩ := (HBox1.out.on hbA).get
            clear hbA hwA hb1
            go_wp2_with fail
            refine C1.mono ?_
            rintro e w2 ⟨rfl, rfl⟩
            go_wp2_with fail
            refine C2.mono ?_
            rintro e w2 ⟨rfl, rfl⟩
            go_wp2_with fail
            refine C3.mono ?_
            rintro e w2 ⟨rfl, rfl⟩
            clear C3
            clear C1 C2
            go_wp2_with (at_builtin; refine wpList_append_src _ rfl _ _ 25 rfl w1.heap.size 9 i0 (.string ⟨#[]⟩) 1 16 Tryz.underlying25 HI.out.1 HI.out.2.1 HI.out.2.2.1 HI.out.2.2.2 rfl (by decide) _ _ _ rfl HOA.out A4 n4 c4 (b.outer.map Value.string) rfl HZ.out HOl.out HSrc.out HO1.out e1' e2' hxs ?_; intro v1 w3 hown1 hgrow1; have hbg := HbA.out.grown hgrow1 hxs (fun j hj => (HOA.out.lt j hj).1); obtain ⟨A', c', hv1, hr4⟩ := strs_owned (by have := hown1; rw [Nat.zero_add, List.nil_append] at this; exact this); rw [HL4.out] at hv1 hr4; subst hv1; have HR3 := Lib.hid hr4; have HBg := Lib.hid hbg; clear hgrow1 hown1 hr4 hbg; clear x0 x1 x2 x3 x4 x5 y0 y1 y2 y3 y4 y5; obtain ⟨x0, x1, x2, x3, x4, x5⟩ := (HBox1.out.on HBg.out).get)
            have hb3 := HB1.out.trans (HBg.out.mono HB1.out.size)
            rcases HR3.out with ⟨-, -, h0⟩ | ⟨g, f, rfl, hg1, hg2, hnc, hrow, hfx⟩
            · omega
            have hcj := hrow.cell (show j < c' * 1 by omega)
            have hfj := hrow.frozen j
            obtain ⟨uj, huj⟩ : ∃ uj, f j = uj := ⟨_, rfl⟩
            rw [huj] at hcj
            have HRow := Lib.hid hrow
            have HFx := Lib.hid hfx
            have HB3 := Lib.hid hb3
            clear hrow hfx huj HOA HSrc HbA hxs
            refine (HCf.out w3 hb3).mono ?_
            rintro e w4 ⟨rfl, rfl⟩
            go_wp2_with fail
            obtain ⟨X, hX⟩ : ∃ X, w3.setCell ⟨g, j, none⟩ (.string tt) = X := ⟨_, rfl⟩
            have hXr := HRow.out.set j (.string tt)
            have hXb := hb3.setCell (p := ⟨g, j, none⟩) (show w.heap.size ≤ g by have := HB1.out.size; omega) (.string tt)
            have hBX := HBg.out.setCell (p := ⟨g, j, none⟩) hg1 (.string tt)
            rw [hX] at hXr hXb hBX ⊢
            have hRX : RowR X w1.heap.size X.heap.size 9 1 (some ⟨g, 0, none⟩) n4 c' (at_ (rxN b fr tt)) := RowR.mk hg1 hXr.lt hnc hXr (fun x hx => by
              have hx2 : x < n4 := by omega
              show (if x = j then _ else f x) = _
              rw [HNm.out]
              by_cases e : x = j
              · subst e
                rw [if_pos rfl, at_of (by rw [List.getElem?_set_self (by rw [HL4.out]; exact hx2)])]
              · rw [if_neg e, HFx.out x hx]
                have e2 : b.outer[x]? = some (b.outer[x]'(by rw [HL4.out]; exact hx2)) := List.getElem?_eq_getElem _
                rw [at_of e2, at_of (by rw [List.getElem?_set_ne (Ne.symm e)]; exact e2)])
            have HRX := Lib.hid hRX
            have HBox2 := Lib.hid (HBox1.out.on hBX)
            have HBx2 := Lib.hid (HBx1.out.on hBX)
            have HB2 := Lib.hid hXb
            have hsz2 := hXb.size
            have hkD := (Below.refl X.heap.size X).drew
            have hwD := hXb.drew
            have hsX := hBX.size
            have HS2 : Hid (∀ w', Below X.heap.size X w' → (w'.cell? ⟨w.heap.size, 0, none⟩ = some (.int .i64 b.roots) ∧ w'.cell? ⟨w.heap.size, 1, none⟩ = some (.slice A1 n1 c1) ∧ w'.cell? ⟨w.heap.size, 2, none⟩ = some (.slice A2 n2 c2) ∧ w'.cell? ⟨w.heap.size, 3, none⟩ = some (.int .i64 b.edges) ∧ w'.cell? ⟨w.heap.size, 4, none⟩ = some (.slice A4 n4 c4) ∧ w'.cell? ⟨w.heap.size, 5, none⟩ = some (.slice A5 n5 c5))) := Lib.hid (fun w' hq => (HBox2.out.on hq).get)
            clear x0 x1 x2 x3 x4 x5 hcj hfj hX hXr hXb hBX hRX
            refine rh.go_begin 6 (fun w' => (w'.cell? ⟨w.heap.size, 0, none⟩ = some (.int .i64 b.roots) ∧ w'.cell? ⟨w.heap.size, 1, none⟩ = some (.slice A1 n1 c1) ∧ w'.cell? ⟨w.heap.size, 2, none⟩ = some (.slice A2 n2 c2) ∧ w'.cell? ⟨w.heap.size, 3, none⟩ = some (.int .i64 b.edges) ∧ w'.cell? ⟨w.heap.size, 4, none⟩ = some (.slice A4 n4 c4) ∧ w'.cell? ⟨w.heap.size, 5, none⟩ = some (.slice A5 n5 c5))) (by kernel_rfl) ?_ (fun hHeld => ?_)
            · ((try dsimp only); exact HS2.out _ (by go_grown))
            refine rh.go_take (i := 0) (v := ?v4) rfl (by kernel_rfl) (fun _ _ _ h => h) (Or.inl ⟨by rfl, ?hy4⟩) (by assumption) ?rest4
            case hy4 => (intro wS hSw; (try dsimp only at hSw); go_simp; try (with_reducible rfl))
            try simp only [Act.put, List.setIfInBounds_toArray, List.set_cons_zero, List.set_cons_succ]
            refine rh.go_take (i := 1) (v := ?v5) rfl (by kernel_rfl) (fun _ _ _ h => h) (Or.inl ⟨by rfl, ?hy5⟩) (by assumption) ?rest5
            case hy5 => (intro wS hSw; (try dsimp only at hSw); go_simp; try (with_reducible rfl))
            try simp only [Act.put, List.setIfInBounds_toArray, List.set_cons_zero, List.set_cons_succ]
            refine rh.go_take (i := 2) (v := ?v6) rfl (by kernel_rfl) (fun _ _ _ h => h) (Or.inl ⟨by rfl, ?hy6⟩) (by assumption) ?rest6
            case hy6 => (intro wS hSw; (try dsimp only at hSw); go_simp; try (with_reducible rfl))
            try simp only [Act.put, List.setIfInBounds_toArray, List.set_cons_zero, List.set_cons_succ]
            have hsD : SR X.drew X.drew.heap.size (some ⟨g, 0, none⟩) n4 ((rxN b fr tt).map Value.string) := by
              have h := rowR_here (HRX.out.on hkD)
              rw [← HNl.out] at h
              have h2 := strsR_at h
              rw [HNl.out] at h2
              exact h2
            refine rh.go_next (i := 3) rfl (by kernel_rfl) (fun K2 hK => ?_)
            (go_simp; go_at_call 75; refine (HNw.out g c' _ hsD).mono ?_; rintro e w5 ⟨A', c3, rfl, hr3, hb⟩; have hk3 := hkD.trans (hb.mono hkD.size); have hs3 := hk3.size; have HR5 := Lib.hid (rowR_here hr3); clear hb hr3; go_wp2_with fail)
            refine hK.out _ _ ?_ (fun hHeld => ?_)
            · ((try dsimp only); exact HS2.out _ (by go_grown))
            clear hK K2
            try simp only [Act.put, List.setIfInBounds_toArray, List.set_cons_zero, List.set_cons_succ]
            have hw3 := HB2.out.trans (hk3.mono HB2.out.size)
            have hsr : SR w5 w5.heap.size (some ⟨g, 0, none⟩) n4 ((rxN b fr tt).map Value.string) := by
              have h := rowR_here (HRX.out.on hk3)
              rw [← HNl.out] at h
              have h2 := strsR_at h
              rw [HNl.out] at h2
              exact h2
            refine rh.go_next (i := 4) rfl (by kernel_rfl) (fun K2 hK => ?_)
            (go_simp; go_at_call 76; refine (HOu.out (some ⟨g, 0, none⟩) c' A' c3 w5 hw3 hsr (strsR_at HR5.out) (rowR_nil0 HR5.out)).mono ?_; rintro e w6 ⟨v4, rfl, hr4, hb⟩; obtain ⟨D1, g1, D2, g2, D4, g4, D5, g5, rfl⟩ := hr4.shape; have hk4 := hk3.trans (hb.mono hk3.size); have hs4 := hk4.size; have HR4 := Lib.hid hr4; have HK4 := Lib.hid hk4; have hw34 := hb.size; clear hb hr4; go_wp2_with fail)
            refine hK.out _ _ ?_ (fun hHeld => ?_)
            · ((try dsimp only); exact HS2.out _ (by go_grown))
            clear hK K2
            try simp only [Act.put, List.setIfInBounds_toArray, List.set_cons_zero, List.set_cons_succ]
            have HBx4 := Lib.hid (HBx2.out.on HK4.out)
            have HBox4 := Lib.hid (HBox2.out.on HK4.out)
            obtain ⟨z0, z1, z2, z3, z4, z5⟩ := HBx4.out.get
            have f0 := World.rowIs.frozen HBx4.out 0
            have f1 := World.rowIs.frozen HBx4.out 1
            have f2 := World.rowIs.frozen HBx4.out 2
            have f3 := World.rowIs.frozen HBx4.out 3
            have f4 := World.rowIs.frozen HBx4.out 4
            have f5 := World.rowIs.frozen HBx4.out 5
            refine rh.go_next (i := 5) rfl (by kernel_rfl) (fun K2 hK => ?_)
            go_simp
            refine hK.out _ _ ?_ (fun hHeld => ?_)
            · ((try dsimp only); exact (show BoxAt (sets6 w6 (w.heap.size + 1) (.int .i64 Lb.roots) (.slice D1 Lb.nodes.length g1) (.slice D2 Lb.sites.length g2) (.int .i64 Lb.edges) (.slice D4 Lb.outer.length g4) (.slice D5 Lb.inner.length g5)) w.heap.size 34 (.int .i64 b.roots) (.slice A1 n1 c1) (.slice A2 n2 c2) (.int .i64 b.edges) (.slice A4 n4 c4) (.slice A5 n5 c5) from World.rowIs.of_block HBox4.out (sets6_block _ _ _ _ _ _ (by omega))).get)
            clear hK K2
            try simp only [Act.put, List.setIfInBounds_toArray, List.set_cons_zero, List.set_cons_succ]
            refine rh.go_last rfl (by kernel_rfl) (fun K2 hK => ?_)
            go_simp
            refine hK.out _ _ ?_
            refine NoPanic.normal ?_
            clear hK K2
            have HRZ := Lib.hid (HR4.out.wide (lo' := w.heap.size) (by have := hw3.size; omega) (Nat.le_refl _))
            have HB4 := Lib.hid (HB2.out.trans (HK4.out.mono HB2.out.size))
            go_wp2_with fail
            have hbig := (sets6_big HBx4.out HRZ.out (.int .i64 Lb.roots) (.slice D1 Lb.nodes.length g1) (.slice D2 Lb.sites.length g2) (.int .i64 Lb.edges) (.slice D4 Lb.outer.length g4) (.slice D5 Lb.inner.length g5)).here
            have hbel := sets6_below HB4.out (Nat.le_succ _) (.int .i64 Lb.roots) (.slice D1 Lb.nodes.length g1) (.slice D2 Lb.sites.length g2) (.int .i64 Lb.edges) (.slice D4 Lb.outer.length g4) (.slice D5 Lb.inner.length g5)
            unfold sets6 at hbig hbel
            refine bodyPost_ret (v := .tuple #[.agg #[.int .i64 Lb.roots, .slice D1 Lb.nodes.length g1, .slice D2 Lb.sites.length g2, .int .i64 Lb.edges, .slice D4 Lb.outer.length g4, .slice D5 Lb.inner.length g5], .bool true]) (by simp [results, Tryz.results29, go_sem, z0, z1, z2, z3, z4, z5]) rfl ⟨_, rfl, hbig, hbel⟩
          · rw [hit] at HCt
            have HR := Lib.hid (show rxP cs b fr tt = false by unfold rxP; rw [rxC_old (str_ne he) (List.mem_of_getElem? hts), Bool.and_false])
            rw [HR.out, rx_no HR.out]
            clear hq hf hnm hit hts hix hjs
            go_enter Tryz.func29, Tryz.ntmps29
            go_wp2_with fail
            rw [HWq0.out, HWq.out]
            go_wp2_with fail
            refine C.mono ?_
            rintro e w1 ⟨rfl, hb⟩
            have hb1 := HB0.out.trans (hb.mono HB0.out.size)
            have HBx1 := Lib.hid (HBx0.out.on hb)
            have HBox1 := Lib.hid (HBox.out.on hb)
            have hsz1 : w.heap.size + 1 + 1 ≤ w1.heap.size := Nat.le_trans hsW hb.size
            clear hb C x0 x1 x2 x3 x4 x5
            have C2 := HCf.out w1 hb1
            have C3 := HCt.out w1 hb1
            have C1 := CNm w1
            obtain ⟨x0, x1, x2, x3, x4, x5⟩ := HBox1.out.get
            go_wp2_with fail
            refine C1.mono ?_
            rintro e w2 ⟨rfl, rfl⟩
            go_wp2_with fail
            refine C2.mono ?_
            rintro e w2 ⟨rfl, rfl⟩
            go_wp2_with fail
            refine C3.mono ?_
            rintro e w2 ⟨rfl, rfl⟩
            clear x0 x1 x2 x3 x4 x5 C1 C2 C3
            obtain ⟨z0, z1, z2, z3, z4, z5⟩ := HBx1.out.get
            have f0 := World.rowIs.frozen HBx1.out 0
            have f1 := World.rowIs.frozen HBx1.out 1
            have f2 := World.rowIs.frozen HBx1.out 2
            have f3 := World.rowIs.frozen HBx1.out 3
            have f4 := World.rowIs.frozen HBx1.out 4
            have f5 := World.rowIs.frozen HBx1.out 5
            go_wp2_with fail
            refine bodyPost_ret (v := .tuple #[.agg #[.int .i64 0, .slice none 0 0, .slice none 0 0, .int .i64 0, .slice none 0 0, .slice none 0 0], .bool false]) (by simp [results, Tryz.results29, go_sem, z0, z1, z2, z3, z4, z5]) rfl ⟨_, rfl, BigR.zero, sets6_below hb1 (by omega) _ _ _ _ _ _⟩
end Go.Proofs.YtlhickjlcmiknaaGreat.ros
