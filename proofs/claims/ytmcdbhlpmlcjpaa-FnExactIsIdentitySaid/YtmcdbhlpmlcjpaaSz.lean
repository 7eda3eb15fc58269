/- SubstitutionOf of spec and impl. -/
import Derived.Test.YtmcdbhlpmlcjpaaSy
namespace Go.Proofs.Ytmcdbhlpmlcjpaa.sz
open kit bg sg opn strs only hb sig isig un over gn nm inn ht gd im pt marks eqs hc hi hw hn rs br bm bw cf lf ib lawb lw cl pl mb wb nw cz ix su asc so sx sy
open Go.RowKit
set_option linter.unusedVariables false
set_option linter.unusedSimpArgs false
noncomputable def subQ (fr tt : List ByteArray) : Bool := faceB fr 16 && decide (tt.length = fr.length) && allB tt
noncomputable def subR (fr tt : List ByteArray) : Big := if subQ fr tt = true then subB fr tt else zeroBig
theorem subR_no {fr tt : List ByteArray} (h : subQ fr tt = false) : subR fr tt = zeroBig := by unfold subR; rw [h]; rfl
theorem subR_yes {fr tt : List ByteArray} (h : subQ fr tt = true) : subR fr tt = subB fr tt := by unfold subR; rw [if_pos h]
theorem sub_no1 {fr tt : List ByteArray} (h : faceB fr 16 = false) : subQ fr tt = false := by unfold subQ; rw [h]; rfl
theorem sub_no2 {fr tt : List ByteArray} (h : ¬ tt.length = fr.length) : subQ fr tt = false := by unfold subQ; rw [decide_eq_false h, Bool.and_false]; rfl
theorem sub_no3 {fr tt : List ByteArray} (h : allB tt = false) : subQ fr tt = false := by unfold subQ; rw [h, Bool.and_false]
theorem sub_yes {fr tt : List ByteArray} (h1 : faceB fr 16 = true) (h2 : tt.length = fr.length) (h3 : allB tt = true) : subQ fr tt = true := by unfold subQ; rw [h1, decide_eq_true h2, h3]; rfl
theorem sub_len (fr tt : List ByteArray) : bigMk (subR fr tt) ≤ 1048576 := by
  cases h : subQ fr tt with
  | false => rw [subR_no h]; exact zero_len
  | true =>
    rw [subR_yes h]
    unfold subQ at h
    simp only [Bool.and_eq_true, decide_eq_true_eq] at h
    have h1 := face_le h.1.1
    have h2 := sortU_len tt
    exact wiring_len (by have := h.1.2; omega) (by rw [sub_tied fr tt h.1.2]; omega)
set_option maxRecDepth 20000 in
set_option maxHeartbeats 3200000 in
theorem iSub_any (A0 : Option Addr) (n0 c0 : Nat) (fr : List ByteArray) (A1 : Option Addr) (n1 c1 : Nat) (tt : List ByteArray) (w : World) (h0 : SR w w.heap.size A0 n0 (fr.map Value.string)) (hn0 : n0 ≤ 1048576) (hs0 : ∀ s ∈ fr, s.size ≤ 1048576) (hz0 : A0 = none → c0 = 0) (h1 : SR w w.heap.size A1 n1 (tt.map Value.string)) (hn1 : n1 ≤ 1048576) (hs1 : ∀ s ∈ tt, s.size ≤ 1048576) (hz1 : A1 = none → c1 = 0) :
    Calls Try.prog 20 #[.slice A0 n0 c0, .slice A1 n1 c1] w (BigPost (subQ fr tt) (subR fr tt) w) := by
  have hb0 := (Below.refl w.heap.size w).alloc (Nat.le_refl _) (.cells #[.int .i64 0, .slice none 0 0, .slice none 0 0, .int .i64 0, .slice none 0 0, .slice none 0 0] 28)
  have HBx0 : Hid (BoxAt (w.alloc (.cells #[.int .i64 0, .slice none 0 0, .slice none 0 0, .int .i64 0, .slice none 0 0, .slice none 0 0] 28)) w.heap.size 28 (.int .i64 0) (.slice none 0 0) (.slice none 0 0) (.int .i64 0) (.slice none 0 0) (.slice none 0 0)) := Lib.hid (six_new w _ _ _ _ _ _ _)
  obtain ⟨W, hW⟩ : ∃ W, w.alloc (.cells #[.int .i64 0, .slice none 0 0, .slice none 0 0, .int .i64 0, .slice none 0 0, .slice none 0 0] 28) = W := ⟨_, rfl⟩
  have hWz : W.heap.size = w.heap.size + 1 := by rw [← hW]; simp
  rw [hW] at hb0 HBx0
  have HWq := Lib.hid hW
  have HB0 := Lib.hid hb0
  have HWz := Lib.hid hWz
  clear hW hb0 hWz
  have HL0 := Lib.hid h0.strlen
  have HL1 := Lib.hid h1.strlen
  have HH0 := Lib.hid h0
  have HH1 := Lib.hid h1
  have HS1 := Lib.hid hs1
  have C0 := isFace_any A0 n0 c0 fr 16 W ((h0.below HB0.out).wide HB0.out.size) hn0 hs0
  clear hs0 hz0 hz1 h0 h1 hs1
  cases hq : faceB fr 16 with
  | false =>
    rw [hq] at C0
    have HQ := Lib.hid (sub_no1 (tt := tt) hq)
    have HR := Lib.hid (subR_no HQ.out)
    clear hq
    rw [HQ.out]
    go_enter Try.func20, Try.ntmps20
    go_wp2_with fail
    rw [HWq.out]
    refine C0.mono ?_
    rintro e w1 ⟨rfl, rfl⟩
    clear C0
    obtain ⟨z0, z1, z2, z3, z4, z5⟩ := HBx0.out.get
    have f0 := World.rowIs.frozen HBx0.out 0
    have f1 := World.rowIs.frozen HBx0.out 1
    have f2 := World.rowIs.frozen HBx0.out 2
    have f3 := World.rowIs.frozen HBx0.out 3
    have f4 := World.rowIs.frozen HBx0.out 4
    have f5 := World.rowIs.frozen HBx0.out 5
    go_wp2_with fail
    refine bodyPost_ret (v := .tuple #[.agg #[.int .i64 0, .slice none 0 0, .slice none 0 0, .int .i64 0, .slice none 0 0, .slice none 0 0], .bool false]) (by simp [results, Try.results20, go_sem, z0, z1, z2, z3, z4, z5]) rfl ⟨_, rfl, by rw [HR.out]; exact BigR.zero, sets6_below HB0.out (Nat.le_refl _) _ _ _ _ _ _⟩
  | true =>
    rw [hq] at C0
    have hle := face_le hq
    have HF := Lib.hid hq
    rw [HL0.out] at hle
    clear hq
    by_cases hmn : n1 = n0
    · subst hmn
      have hbne : ((n1 : Int) != (n1 : Int)) = false := by simp
      have CA := asc_any A1 n1 c1 tt W ((HH1.out.below HB0.out).wide HB0.out.size) hn1
      have HLq : Hid (tt.length = fr.length) := Lib.hid (by rw [HL0.out, HL1.out])
      cases hq3 : allB tt with
      | false =>
        have HQ := Lib.hid (sub_no3 (fr := fr) hq3)
        have HR := Lib.hid (subR_no HQ.out)
        have HN := Lib.hid ((all_sort tt).trans hq3)
        clear hq3
        rw [HQ.out]
        go_enter Try.func20, Try.ntmps20
        go_wp2_with fail
        rw [HWq.out]
        refine C0.mono ?_
        rintro e w1 ⟨rfl, rfl⟩
        clear C0
        go_wp2_with fail
        refine CA.mono ?_
        rintro e w2 ⟨A4, c4, rfl, hr4, hb⟩
        clear CA
        have HBx2 := Lib.hid (HBx0.out.on hb)
        have HB2 := Lib.hid (HB0.out.trans (hb.mono HB0.out.size))
        have CN := areNames_any A4 (sortU tt).length c4 (sortU tt) w2 _ (strsR_at hr4) (by have := sortU_len tt; have := HL1.out; omega) (fun s hs => HS1.out s (sortU_mem.1 hs))
        rw [HN.out] at CN
        clear hr4 hb
        go_wp2_with fail
        refine CN.mono ?_
        rintro e w3 ⟨rfl, rfl⟩
        clear CN
        obtain ⟨z0, z1, z2, z3, z4, z5⟩ := HBx2.out.get
        have f0 := World.rowIs.frozen HBx2.out 0
        have f1 := World.rowIs.frozen HBx2.out 1
        have f2 := World.rowIs.frozen HBx2.out 2
        have f3 := World.rowIs.frozen HBx2.out 3
        have f4 := World.rowIs.frozen HBx2.out 4
        have f5 := World.rowIs.frozen HBx2.out 5
        go_wp2_with fail
        refine bodyPost_ret (v := .tuple #[.agg #[.int .i64 0, .slice none 0 0, .slice none 0 0, .int .i64 0, .slice none 0 0, .slice none 0 0], .bool false]) (by simp [results, Try.results20, go_sem, z0, z1, z2, z3, z4, z5]) rfl ⟨_, rfl, by rw [HR.out]; exact BigR.zero, sets6_below HB2.out (Nat.le_refl _) _ _ _ _ _ _⟩
      | true =>
        have HQ := Lib.hid (sub_yes HF.out HLq.out hq3)
        have HR := Lib.hid (subR_yes HQ.out)
        have HN := Lib.hid ((all_sort tt).trans hq3)
        clear hq3
        rw [HQ.out]
        go_enter Try.func20, Try.ntmps20
        go_wp2_with fail
        rw [HWq.out]
        refine C0.mono ?_
        rintro e w1 ⟨rfl, rfl⟩
        clear C0
        go_wp2_with fail
        refine CA.mono ?_
        rintro e w2 ⟨A4, c4, rfl, hr4, hb⟩
        clear CA
        have HBx2 := Lib.hid (HBx0.out.on hb)
        have HB2 := Lib.hid (HB0.out.trans (hb.mono HB0.out.size))
        have CN := areNames_any A4 (sortU tt).length c4 (sortU tt) w2 _ (strsR_at hr4) (by have := sortU_len tt; have := HL1.out; omega) (fun s hs => HS1.out s (sortU_mem.1 hs))
        rw [HN.out] at CN
        clear hr4 hb
        go_wp2_with fail
        refine CN.mono ?_
        rintro e w3 ⟨rfl, rfl⟩
        clear CN
        go_wp2_with fail
        refine (isub_any A0 A1 n1 c0 c1 fr tt w2 ((HH0.out.below HB2.out).wide HB2.out.size) ((HH1.out.below HB2.out).wide HB2.out.size) hn1).mono ?_
        rintro e w4 ⟨v4, rfl, hr, hb⟩
        obtain ⟨Lb, hLb⟩ : ∃ B, subB fr tt = B := ⟨_, rfl⟩
        rw [hLb] at hr HR
        clear hLb
        obtain ⟨D1, g1, D2, g2, D4, g4, D5, g5, rfl⟩ := hr.shape
        have HBx4 := Lib.hid (HBx2.out.on hb)
        have HB4 := Lib.hid (HB2.out.trans (hb.mono HB2.out.size))
        have HR4 := Lib.hid (hr.wide (lo' := w.heap.size) HB2.out.size (Nat.le_refl _))
        clear hr hb
        obtain ⟨z0, z1, z2, z3, z4, z5⟩ := HBx4.out.get
        have f0 := World.rowIs.frozen HBx4.out 0
        have f1 := World.rowIs.frozen HBx4.out 1
        have f2 := World.rowIs.frozen HBx4.out 2
        have f3 := World.rowIs.frozen HBx4.out 3
        have f4 := World.rowIs.frozen HBx4.out 4
        have f5 := World.rowIs.frozen HBx4.out 5
        go_wp2_with fail
        have hbig := (sets6_big HBx4.out HR4.out (.int .i64 Lb.roots) (.slice D1 Lb.nodes.length g1) (.slice D2 Lb.sites.length g2) (.int .i64 Lb.edges) (.slice D4 Lb.outer.length g4) (.slice D5 Lb.inner.length g5)).here
        have hbel := sets6_below HB4.out (Nat.le_refl _) (.int .i64 Lb.roots) (.slice D1 Lb.nodes.length g1) (.slice D2 Lb.sites.length g2) (.int .i64 Lb.edges) (.slice D4 Lb.outer.length g4) (.slice D5 Lb.inner.length g5)
        unfold sets6 at hbig hbel
        refine bodyPost_ret (v := .tuple #[.agg #[.int .i64 Lb.roots, .slice D1 Lb.nodes.length g1, .slice D2 Lb.sites.length g2, .int .i64 Lb.edges, .slice D4 Lb.outer.length g4, .slice D5 Lb.inner.length g5], .bool true]) (by simp [results, Try.results20, go_sem, z0, z1, z2, z3, z4, z5]) rfl ⟨_, rfl, by rw [HR.out]; exact hbig, hbel⟩
    · have hbne : ((n1 : Int) != (n0 : Int)) = true := by simp; omega
      have HQ := Lib.hid (sub_no2 (fr := fr) (tt := tt) (by rw [HL0.out, HL1.out]; exact hmn))
      have HR := Lib.hid (subR_no HQ.out)
      rw [HQ.out]
      go_enter Try.func20, Try.ntmps20
      go_wp2_with fail
      rw [HWq.out]
      refine C0.mono ?_
      rintro e w1 ⟨rfl, rfl⟩
      clear C0
      obtain ⟨z0, z1, z2, z3, z4, z5⟩ := HBx0.out.get
      have f0 := World.rowIs.frozen HBx0.out 0
      have f1 := World.rowIs.frozen HBx0.out 1
      have f2 := World.rowIs.frozen HBx0.out 2
      have f3 := World.rowIs.frozen HBx0.out 3
      have f4 := World.rowIs.frozen HBx0.out 4
      have f5 := World.rowIs.frozen HBx0.out 5
      go_wp2_with fail
      refine bodyPost_ret (v := .tuple #[.agg #[.int .i64 0, .slice none 0 0, .slice none 0 0, .int .i64 0, .slice none 0 0, .slice none 0 0], .bool false]) (by simp [results, Try.results20, go_sem, z0, z1, z2, z3, z4, z5]) rfl ⟨_, rfl, by rw [HR.out]; exact BigR.zero, sets6_below HB0.out (Nat.le_refl _) _ _ _ _ _ _⟩
set_option maxRecDepth 20000 in
set_option maxHeartbeats 3200000 in
theorem sSub_any (A0 : Option Addr) (n0 c0 : Nat) (fr : List ByteArray) (A1 : Option Addr) (n1 c1 : Nat) (tt : List ByteArray) (w : World) (h0 : SR w w.heap.size A0 n0 (fr.map Value.string)) (hn0 : n0 ≤ 1048576) (hs0 : ∀ s ∈ fr, s.size ≤ 1048576) (hz0 : A0 = none → c0 = 0) (h1 : SR w w.heap.size A1 n1 (tt.map Value.string)) (hn1 : n1 ≤ 1048576) (hs1 : ∀ s ∈ tt, s.size ≤ 1048576) (hz1 : A1 = none → c1 = 0) :
    Calls Try.prog 19 #[.slice A0 n0 c0, .slice A1 n1 c1] w (BigPost (subQ fr tt) (subR fr tt) w) := by
  have hb0 := (Below.refl w.heap.size w).alloc (Nat.le_refl _) (.cells #[.int .i64 0, .slice none 0 0, .slice none 0 0, .int .i64 0, .slice none 0 0, .slice none 0 0] 28)
  have HBx0 : Hid (BoxAt (w.alloc (.cells #[.int .i64 0, .slice none 0 0, .slice none 0 0, .int .i64 0, .slice none 0 0, .slice none 0 0] 28)) w.heap.size 28 (.int .i64 0) (.slice none 0 0) (.slice none 0 0) (.int .i64 0) (.slice none 0 0) (.slice none 0 0)) := Lib.hid (six_new w _ _ _ _ _ _ _)
  obtain ⟨W, hW⟩ : ∃ W, w.alloc (.cells #[.int .i64 0, .slice none 0 0, .slice none 0 0, .int .i64 0, .slice none 0 0, .slice none 0 0] 28) = W := ⟨_, rfl⟩
  have hWz : W.heap.size = w.heap.size + 1 := by rw [← hW]; simp
  rw [hW] at hb0 HBx0
  have HWq := Lib.hid hW
  have HB0 := Lib.hid hb0
  have HWz := Lib.hid hWz
  clear hW hb0 hWz
  have HL0 := Lib.hid h0.strlen
  have HL1 := Lib.hid h1.strlen
  have HH0 := Lib.hid h0
  have HH1 := Lib.hid h1
  have HS1 : Hid (∀ s ∈ tt, s.size ≤ maxLen) := Lib.hid (fun s hs => Nat.le_trans (hs1 s hs) (by unfold maxLen; omega))
  have C0 := l3Names_any A0 n0 c0 fr W ((h0.below HB0.out).wide HB0.out.size) hn0 hs0
  clear hs0 hz0 hz1 h0 h1 hs1
  cases hq : faceB fr 16 with
  | false =>
    rw [hq] at C0
    have HQ := Lib.hid (sub_no1 (tt := tt) hq)
    have HR := Lib.hid (subR_no HQ.out)
    clear hq
    rw [HQ.out]
    go_enter Try.func19, Try.ntmps19
    go_wp2_with fail
    rw [HWq.out]
    refine C0.mono ?_
    rintro e w1 ⟨rfl, hb⟩
    have HBx1 := Lib.hid (HBx0.out.on hb)
    have HB1 := Lib.hid (HB0.out.trans (hb.mono HB0.out.size))
    clear C0 hb
    obtain ⟨z0, z1, z2, z3, z4, z5⟩ := HBx1.out.get
    have f0 := World.rowIs.frozen HBx1.out 0
    have f1 := World.rowIs.frozen HBx1.out 1
    have f2 := World.rowIs.frozen HBx1.out 2
    have f3 := World.rowIs.frozen HBx1.out 3
    have f4 := World.rowIs.frozen HBx1.out 4
    have f5 := World.rowIs.frozen HBx1.out 5
    go_wp2_with fail
    refine bodyPost_ret (v := .tuple #[.agg #[.int .i64 0, .slice none 0 0, .slice none 0 0, .int .i64 0, .slice none 0 0, .slice none 0 0], .bool false]) (by simp [results, Try.results19, go_sem, z0, z1, z2, z3, z4, z5]) rfl ⟨_, rfl, by rw [HR.out]; exact BigR.zero, sets6_below HB1.out (Nat.le_refl _) _ _ _ _ _ _⟩
  | true =>
    rw [hq] at C0
    have hle := face_le hq
    have HF := Lib.hid hq
    rw [HL0.out] at hle
    clear hq
    by_cases hmn : n1 = n0
    · subst hmn
      have hbne : ((n1 : Int) != (n1 : Int)) = false := by simp
      have HLq : Hid (tt.length = fr.length) := Lib.hid (by rw [HL0.out, HL1.out])
      cases hq3 : allB tt with
      | false =>
        have HQ := Lib.hid (sub_no3 (fr := fr) hq3)
        have HR := Lib.hid (subR_no HQ.out)
        have HN := Lib.hid hq3
        clear hq3
        rw [HQ.out]
        go_enter Try.func19, Try.ntmps19
        go_wp2_with fail
        rw [HWq.out]
        refine C0.mono ?_
        rintro e w1 ⟨rfl, hb⟩
        have HBx1 := Lib.hid (HBx0.out.on hb)
        have HB1 := Lib.hid (HB0.out.trans (hb.mono HB0.out.size))
        have CN := l3All_any A1 n1 c1 tt w1 _ (HH1.out.below HB1.out) hn1 HS1.out
        rw [HN.out] at CN
        clear C0 hb
        go_wp2_with fail
        refine CN.mono ?_
        rintro e w3 ⟨rfl, rfl⟩
        clear CN
        obtain ⟨z0, z1, z2, z3, z4, z5⟩ := HBx1.out.get
        have f0 := World.rowIs.frozen HBx1.out 0
        have f1 := World.rowIs.frozen HBx1.out 1
        have f2 := World.rowIs.frozen HBx1.out 2
        have f3 := World.rowIs.frozen HBx1.out 3
        have f4 := World.rowIs.frozen HBx1.out 4
        have f5 := World.rowIs.frozen HBx1.out 5
        go_wp2_with fail
        refine bodyPost_ret (v := .tuple #[.agg #[.int .i64 0, .slice none 0 0, .slice none 0 0, .int .i64 0, .slice none 0 0, .slice none 0 0], .bool false]) (by simp [results, Try.results19, go_sem, z0, z1, z2, z3, z4, z5]) rfl ⟨_, rfl, by rw [HR.out]; exact BigR.zero, sets6_below HB1.out (Nat.le_refl _) _ _ _ _ _ _⟩
      | true =>
        have HQ := Lib.hid (sub_yes HF.out HLq.out hq3)
        have HR := Lib.hid (subR_yes HQ.out)
        have HN := Lib.hid hq3
        clear hq3
        rw [HQ.out]
        go_enter Try.func19, Try.ntmps19
        go_wp2_with fail
        rw [HWq.out]
        refine C0.mono ?_
        rintro e w1 ⟨rfl, hb⟩
        have HBx1 := Lib.hid (HBx0.out.on hb)
        have HB1 := Lib.hid (HB0.out.trans (hb.mono HB0.out.size))
        have CN := l3All_any A1 n1 c1 tt w1 _ (HH1.out.below HB1.out) hn1 HS1.out
        rw [HN.out] at CN
        clear C0 hb
        go_wp2_with fail
        refine CN.mono ?_
        rintro e w3 ⟨rfl, rfl⟩
        clear CN
        go_wp2_with fail
        refine (ssub_any A0 A1 n1 c0 c1 fr tt w1 ((HH0.out.below HB1.out).wide HB1.out.size) ((HH1.out.below HB1.out).wide HB1.out.size) (by omega)).mono ?_
        rintro e w4 ⟨v4, rfl, hr, hb⟩
        obtain ⟨Lb, hLb⟩ : ∃ B, subB fr tt = B := ⟨_, rfl⟩
        rw [hLb] at hr HR
        clear hLb
        obtain ⟨D1, g1, D2, g2, D4, g4, D5, g5, rfl⟩ := hr.shape
        have HBx4 := Lib.hid (HBx1.out.on hb)
        have HB4 := Lib.hid (HB1.out.trans (hb.mono HB1.out.size))
        have HR4 := Lib.hid (hr.wide (lo' := w.heap.size) HB1.out.size (Nat.le_refl _))
        clear hr hb
        obtain ⟨z0, z1, z2, z3, z4, z5⟩ := HBx4.out.get
        have f0 := World.rowIs.frozen HBx4.out 0
        have f1 := World.rowIs.frozen HBx4.out 1
        have f2 := World.rowIs.frozen HBx4.out 2
        have f3 := World.rowIs.frozen HBx4.out 3
        have f4 := World.rowIs.frozen HBx4.out 4
        have f5 := World.rowIs.frozen HBx4.out 5
        go_wp2_with fail
        have hbig := (sets6_big HBx4.out HR4.out (.int .i64 Lb.roots) (.slice D1 Lb.nodes.length g1) (.slice D2 Lb.sites.length g2) (.int .i64 Lb.edges) (.slice D4 Lb.outer.length g4) (.slice D5 Lb.inner.length g5)).here
        have hbel := sets6_below HB4.out (Nat.le_refl _) (.int .i64 Lb.roots) (.slice D1 Lb.nodes.length g1) (.slice D2 Lb.sites.length g2) (.int .i64 Lb.edges) (.slice D4 Lb.outer.length g4) (.slice D5 Lb.inner.length g5)
        unfold sets6 at hbig hbel
        refine bodyPost_ret (v := .tuple #[.agg #[.int .i64 Lb.roots, .slice D1 Lb.nodes.length g1, .slice D2 Lb.sites.length g2, .int .i64 Lb.edges, .slice D4 Lb.outer.length g4, .slice D5 Lb.inner.length g5], .bool true]) (by simp [results, Try.results19, go_sem, z0, z1, z2, z3, z4, z5]) rfl ⟨_, rfl, by rw [HR.out]; exact hbig, hbel⟩
    · have hbne : ((n1 : Int) != (n0 : Int)) = true := by simp; omega
      have HQ := Lib.hid (sub_no2 (fr := fr) (tt := tt) (by rw [HL0.out, HL1.out]; exact hmn))
      have HR := Lib.hid (subR_no HQ.out)
      rw [HQ.out]
      go_enter Try.func19, Try.ntmps19
      go_wp2_with fail
      rw [HWq.out]
      refine C0.mono ?_
      rintro e w1 ⟨rfl, hb⟩
      have HBx1 := Lib.hid (HBx0.out.on hb)
      have HB1 := Lib.hid (HB0.out.trans (hb.mono HB0.out.size))
      clear C0 hb
      obtain ⟨z0, z1, z2, z3, z4, z5⟩ := HBx1.out.get
      have f0 := World.rowIs.frozen HBx1.out 0
      have f1 := World.rowIs.frozen HBx1.out 1
      have f2 := World.rowIs.frozen HBx1.out 2
      have f3 := World.rowIs.frozen HBx1.out 3
      have f4 := World.rowIs.frozen HBx1.out 4
      have f5 := World.rowIs.frozen HBx1.out 5
      go_wp2_with fail
      refine bodyPost_ret (v := .tuple #[.agg #[.int .i64 0, .slice none 0 0, .slice none 0 0, .int .i64 0, .slice none 0 0, .slice none 0 0], .bool false]) (by simp [results, Try.results19, go_sem, z0, z1, z2, z3, z4, z5]) rfl ⟨_, rfl, by rw [HR.out]; exact BigR.zero, sets6_below HB1.out (Nat.le_refl _) _ _ _ _ _ _⟩
end Go.Proofs.Ytmcdbhlpmlcjpaa.sz
