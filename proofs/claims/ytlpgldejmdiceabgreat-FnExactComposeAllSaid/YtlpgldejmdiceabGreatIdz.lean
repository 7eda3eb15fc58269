/- IdentityOf of spec and impl. -/
import Derived.Test.YtlpgldejmdiceabGreatIdn
import Derived.Test.YtlpgldejmdiceabGreatSz
namespace Go.Proofs.YtlpgldejmdiceabGreat.idz
open kit bg sg opn strs only hb sig isig un over gn nm inn ht gd im pt marks eqs hc hi hw hn rs br bm bw cf lf ib lawb lw cl pl mb wb nw cz ix su asc so sx sy idn sz
open Go.RowKit
set_option linter.unusedVariables false
set_option linter.unusedSimpArgs false
theorem idx_self {ss : List ByteArray} (h : NamesP ss) : idxL ss ss = nums ss.length := by
  apply List.ext_getElem?
  intro k
  by_cases hk : k < ss.length
  · have hs : ss[k]? = some ss[k] := List.getElem?_eq_getElem hk
    rw [idx_at hs, nums_at hk]
    congr 1
    refine ixF_at hs (fun j u hj hu e => ?_)
    obtain ⟨hj2, e2⟩ := List.getElem?_eq_some_iff.1 hu
    have := List.pairwise_iff_getElem.1 (names_ltS h) j k hj2 hk hj
    rw [e2, e] at this
    exact ltS_irr _ this
  · rw [List.getElem?_eq_none (by rw [idx_len]; omega), List.getElem?_eq_none (by rw [nums_len]; omega)]
noncomputable def idQ (z : Int) (ss : List ByteArray) : Bool := inb z 0 4 && faceB ss 16
noncomputable def idR (z : Int) (ss : List ByteArray) : Big := if idQ z ss = true then idB z.toNat ss else zeroBig
theorem idR_no {z : Int} {ss : List ByteArray} (h : idQ z ss = false) : idR z ss = zeroBig := by unfold idR; rw [h]; rfl
theorem idR_yes {z : Int} {ss : List ByteArray} (h : idQ z ss = true) : idR z ss = idB z.toNat ss := by unfold idR; rw [if_pos h]
theorem id_no1 {z : Int} {ss : List ByteArray} (h : inb z 0 4 = false) : idQ z ss = false := by unfold idQ; rw [h]; rfl
theorem id_no2 {z : Int} {ss : List ByteArray} (h : faceB ss 16 = false) : idQ z ss = false := by unfold idQ; rw [h, Bool.and_false]
theorem id_yes {z : Int} {ss : List ByteArray} (h : inb z 0 4 = true) (h2 : faceB ss 16 = true) : idQ z ss = true := by unfold idQ; rw [h, h2]; rfl
theorem face_names {ss : List ByteArray} {M : Int} (h : faceB ss M = true) : NamesP ss := by
  unfold faceB at h
  simp only [Bool.and_eq_true] at h
  exact names_of h.1
theorem id_len (z : Int) (ss : List ByteArray) : bigMk (idR z ss) ≤ 1048576 := by
  cases h : idQ z ss with
  | false => rw [idR_no h]; exact zero_len
  | true =>
    rw [idR_yes h]
    unfold idQ at h
    simp only [Bool.and_eq_true] at h
    have h1 := face_le h.2
    have h2 := inb_true h.1
    unfold idB bigMk ndMk
    have e1 := downs_len z.toNat
    have e2 := tied_len (ss := ss) (zs := nums ss.length) (nums_len _)
    simp [sumBy, e1, e2]
    omega
theorem placing_of {w : World} {lo hi n : Nat} {v : Value} {R : Int} {zs : List Int} (h : BigR w lo hi v (placing R zs)) (hn : zs.length = n) : ∃ A1 c1 A2 c2 A4 c4 A5 c5, v = .agg #[.int .i64 R, .slice A1 0 c1, .slice A2 n c2, .int .i64 0, .slice A4 0 c4, .slice A5 0 c5] ∧ RowR w lo hi 3 1 A2 n c2 (iat zs) := by
  obtain ⟨P, e, -, -, h2, -, -⟩ := h
  subst hn
  exact ⟨P.A1, P.c1, P.A2, P.c2, P.A4, P.c4, P.A5, P.c5, e, h2⟩
theorem wiring_of {w : World} {lo hi n m : Nat} {v : Value} {E : Int} {ou : List ByteArray} {ws : List Wr} (h : BigR w lo hi v (wiring E ou ws)) (hn : ou.length = n) (hm : ws.length = m) : ∃ A1 c1 A2 c2 A4 c4 A5 c5, v = .agg #[.int .i64 0, .slice A1 0 c1, .slice A2 0 c2, .int .i64 E, .slice A4 n c4, .slice A5 m c5] ∧ RowR w lo hi 9 1 A4 n c4 (at_ ou) ∧ RowR w lo hi 80 2 A5 m c5 (wic ws) := by
  obtain ⟨P, e, -, -, -, h4, h5⟩ := h
  subst hn hm
  exact ⟨P.A1, P.c1, P.A2, P.c2, P.A4, P.c4, P.A5, P.c5, e, h4, h5⟩
set_option maxRecDepth 20000 in
set_option maxHeartbeats 3200000 in
theorem iId_any (z : Int) (A : Option Addr) (n c : Nat) (ss : List ByteArray) (w : World) (hwz : (Lit.int .i64 z).wf = true) (h : SR w w.heap.size A n (ss.map Value.string)) (hn : n ≤ 1048576) (hs : ∀ s ∈ ss, s.size ≤ 1048576) (hz : A = none → c = 0) :
    Calls Tryz.prog 26 #[.int .i64 z, .slice A n c] w (BigPost (idQ z ss) (idR z ss) w) := by
  have hb0 := (Below.refl w.heap.size w).alloc (Nat.le_refl _) (.cells #[.int .i64 0, .slice none 0 0, .slice none 0 0, .int .i64 0, .slice none 0 0, .slice none 0 0] 31)
  have HBx0 : Hid (BoxAt (w.alloc (.cells #[.int .i64 0, .slice none 0 0, .slice none 0 0, .int .i64 0, .slice none 0 0, .slice none 0 0] 31)) w.heap.size 31 (.int .i64 0) (.slice none 0 0) (.slice none 0 0) (.int .i64 0) (.slice none 0 0) (.slice none 0 0)) := Lib.hid (six_new w _ _ _ _ _ _ _)
  obtain ⟨W, hW⟩ : ∃ W, w.alloc (.cells #[.int .i64 0, .slice none 0 0, .slice none 0 0, .int .i64 0, .slice none 0 0, .slice none 0 0] 31) = W := ⟨_, rfl⟩
  have hWz : W.heap.size = w.heap.size + 1 := by rw [← hW]; simp
  rw [hW] at hb0 HBx0
  have HWq := Lib.hid hW
  have HB0 := Lib.hid hb0
  have HWz := Lib.hid hWz
  clear hW hb0 hWz
  have HL0 := Lib.hid h.strlen
  have HH0 := Lib.hid h
  have CI := win_any z 0 4 W
  have C0 := isFace_any A n c ss 16 W ((h.below HB0.out).wide HB0.out.size) hn hs
  clear hs hz h hwz
  cases hi : inb z 0 4 with
  | false =>
    rw [hi] at CI
    have HQ := Lib.hid (id_no1 (ss := ss) hi)
    have HR := Lib.hid (idR_no HQ.out)
    clear hi
    rw [HQ.out]
    go_enter Tryz.func26, Tryz.ntmps26
    go_wp2_with fail
    rw [HWq.out]
    refine CI.mono ?_
    rintro e w1 ⟨rfl, rfl⟩
    clear CI C0
    obtain ⟨z0, z1, z2, z3, z4, z5⟩ := HBx0.out.get
    have f0 := World.rowIs.frozen HBx0.out 0
    have f1 := World.rowIs.frozen HBx0.out 1
    have f2 := World.rowIs.frozen HBx0.out 2
    have f3 := World.rowIs.frozen HBx0.out 3
    have f4 := World.rowIs.frozen HBx0.out 4
    have f5 := World.rowIs.frozen HBx0.out 5
    go_wp2_with fail
    refine bodyPost_ret (v := .tuple #[.agg #[.int .i64 0, .slice none 0 0, .slice none 0 0, .int .i64 0, .slice none 0 0, .slice none 0 0], .bool false]) (by simp [results, Tryz.results26, go_sem, z0, z1, z2, z3, z4, z5]) rfl ⟨_, rfl, by rw [HR.out]; exact BigR.zero, sets6_below HB0.out (Nat.le_refl _) _ _ _ _ _ _⟩
  | true =>
    rw [hi] at CI
    have hin := inb_true hi
    have Hi := Lib.hid hi
    obtain ⟨m, rfl⟩ : ∃ m : Nat, z = (m : Int) := ⟨z.toNat, by omega⟩
    have hm4 : m ≤ 4 := by omega
    clear hi hin
    cases hq : faceB ss 16 with
    | false =>
      rw [hq] at C0
      have HQ := Lib.hid (id_no2 (z := (m : Int)) hq)
      have HR := Lib.hid (idR_no HQ.out)
      clear hq
      rw [HQ.out]
      go_enter Tryz.func26, Tryz.ntmps26
      go_wp2_with fail
      rw [HWq.out]
      refine CI.mono ?_
      rintro e w1 ⟨rfl, rfl⟩
      clear CI
      go_wp2_with fail
      refine C0.mono ?_
      rintro e w1 ⟨rfl, rfl⟩
      clear C0
      obtain ⟨z0, z1, z2, z3, z4, z5⟩ := HBx0.out.get
      have f0 := World.rowIs.frozen HBx0.out 0
      have f1 := World.rowIs.frozen HBx0.out 1
      have f2 := World.rowIs.frozen HBx0.out 2
      have f3 := World.rowIs.frozen HBx0.out 3
      have f4 := World.rowIs.frozen HBx0.out 4
      have f5 := World.rowIs.frozen HBx0.out 5
      go_wp2_with fail
      refine bodyPost_ret (v := .tuple #[.agg #[.int .i64 0, .slice none 0 0, .slice none 0 0, .int .i64 0, .slice none 0 0, .slice none 0 0], .bool false]) (by simp [results, Tryz.results26, go_sem, z0, z1, z2, z3, z4, z5]) rfl ⟨_, rfl, by rw [HR.out]; exact BigR.zero, sets6_below HB0.out (Nat.le_refl _) _ _ _ _ _ _⟩
    | true =>
      rw [hq] at C0
      have hle := face_le hq
      rw [HL0.out] at hle
      have HQ := Lib.hid (id_yes Hi.out hq)
      have HR := Lib.hid (idR_yes HQ.out)
      rw [Int.toNat_natCast] at HR
      have HNp := Lib.hid (face_names hq)
      clear hq
      rw [HQ.out]
      go_enter Tryz.func26, Tryz.ntmps26
      go_wp2_with fail
      rw [HWq.out]
      refine CI.mono ?_
      rintro e w1 ⟨rfl, rfl⟩
      clear CI
      go_wp2_with fail
      refine C0.mono ?_
      rintro e w1 ⟨rfl, rfl⟩
      clear C0
      go_wp2_with fail
      refine (below_any m W (by omega)).mono ?_
      rintro e w2 ⟨g, rfl, hg1, hg2, hrow, hb⟩
      have HBx2 := Lib.hid (HBx0.out.on hb)
      have HB2 := Lib.hid (HB0.out.trans (hb.mono HB0.out.size))
      have CP := placing_any (some ⟨g, 0, none⟩) m m (nums m) m w2 (ints_row hrow (Nat.le_refl _) hg2 (nums_len m) (fun _ _ => rfl)) (by omega) (fun y hy => by
        obtain ⟨k, hk⟩ := List.getElem?_of_mem hy
        have hkl := (List.getElem?_eq_some_iff.1 hk).1
        rw [nums_len] at hkl
        rw [nums_at hkl] at hk
        injection hk with hk
        omega)
      clear hrow hb
      go_wp2_with fail
      refine CP.mono ?_
      rintro e w3 ⟨v3, rfl, hr3, hb⟩
      clear CP
      have HBx3 := Lib.hid (HBx2.out.on hb)
      have HB3 := Lib.hid (HB2.out.trans (hb.mono HB2.out.size))
      have HR3 := Lib.hid (hr3.wide (lo' := w.heap.size) HB2.out.size (Nat.le_refl _))
      clear hb hr3
      go_wp2_with fail
      refine (isub_any A A n c c ss ss w3 ((HH0.out.below HB3.out).wide HB3.out.size) ((HH0.out.below HB3.out).wide HB3.out.size) hn).mono ?_
      rintro e w4 ⟨v4, rfl, hr, hb⟩
      have HBx4 := Lib.hid (HBx3.out.on hb)
      have HB4 := Lib.hid (HB3.out.trans (hb.mono HB3.out.size))
      have HR34 := Lib.hid (HR3.out.on hb)
      have HR4 := Lib.hid (hr.wide (lo' := w.heap.size) HB3.out.size (Nat.le_refl _))
      clear hr hb
      obtain ⟨p1, q1, B2, b2, p4, q4, p5, q5, rfl, hr2⟩ := placing_of HR34.out (show (List.map (fun z => -1 - z) (nums m)).length = m from downs_len m)
      obtain ⟨r1, s1, r2, s2, B4, b4, B5, b5, rfl, hr4, hr5⟩ := wiring_of HR4.out (show (sortU ss).length = n by rw [sortU_id HNp.out, HL0.out]) (show (tied ss (idxL (sortU ss) ss)).length = n by rw [sub_tied ss ss rfl, HL0.out])
      rw [sortU_id HNp.out] at hr4 hr5
      rw [idx_self HNp.out] at hr5
      have HR2 := Lib.hid hr2
      have HRo := Lib.hid hr4
      have HRw := Lib.hid hr5
      have hbA := ((Below.refl w4.heap.size w4).alloc (Nat.le_refl _) (.cells #[.int .i64 m, .slice p1 0 q1, .slice B2 m b2, .int .i64 0, .slice p4 0 q4, .slice p5 0 q5] 31)).alloc (by simp) (.cells #[.int .i64 0, .slice r1 0 s1, .slice r2 0 s2, .int .i64 0, .slice B4 n b4, .slice B5 n b5] 31)
      have HBx5 := Lib.hid (HBx4.out.on hbA)
      have HB5 := Lib.hid (HB4.out.trans (hbA.mono HB4.out.size))
      have HBid : Hid (idB m ss = ⟨m, [], downs m, 0, ss, tied ss (nums ss.length)⟩) := Lib.hid rfl
      have hbg := flat_big (R := m) (E := 0) (zs := downs m) (outer := ss) (inner := tied ss (nums ss.length)) (by rw [downs_len]; exact rowR_here (HR2.out.on hbA)) (strs_row HL0.out (rowR_here (HRo.out.on hbA))) (wrs_row (by rw [tied_len (nums_len _)]; exact HL0.out) (rowR_here (HRw.out.on hbA)))
      rw [downs_len, HL0.out, tied_len (by rw [nums_len, HL0.out]), HL0.out] at hbg
      have HBR := Lib.hid hbg
      clear hr2 hr4 hr5 hbA hbg
      obtain ⟨z0, z1, z2, z3, z4, z5⟩ := HBx5.out.get
      have f0 := World.rowIs.frozen HBx5.out 0
      have f1 := World.rowIs.frozen HBx5.out 1
      have f2 := World.rowIs.frozen HBx5.out 2
      have f3 := World.rowIs.frozen HBx5.out 3
      have f4 := World.rowIs.frozen HBx5.out 4
      have f5 := World.rowIs.frozen HBx5.out 5
      go_wp2_with fail
      have hbig := (sets6_big HBx5.out HBR.out (.int .i64 m) (.slice none 0 0) (.slice B2 m b2) (.int .i64 0) (.slice B4 n b4) (.slice B5 n b5)).here
      have hbel := sets6_below HB5.out (Nat.le_refl w.heap.size) (.int .i64 m) (.slice none 0 0) (.slice B2 m b2) (.int .i64 0) (.slice B4 n b4) (.slice B5 n b5)
      unfold sets6 at hbig hbel
      refine bodyPost_ret (v := .tuple #[.agg #[.int .i64 m, .slice none 0 0, .slice B2 m b2, .int .i64 0, .slice B4 n b4, .slice B5 n b5], .bool true]) (by simp [results, Tryz.results26, go_sem, z0, z1, z2, z3, z4, z5]) rfl ⟨_, rfl, by rw [HR.out, HBid.out, HL0.out]; exact hbig, hbel⟩
end Go.Proofs.YtlpgldejmdiceabGreat.idz
