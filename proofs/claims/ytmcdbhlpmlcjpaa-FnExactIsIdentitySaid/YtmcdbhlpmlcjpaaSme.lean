/- spec.l2Same: a Bigraph against an identity of its own faces. -/
import Derived.Test.YtmcdbhlpmlcjpaaEqx
import Derived.Test.YtmcdbhlpmlcjpaaIdz
namespace Go.Proofs.Ytmcdbhlpmlcjpaa.sme
open kit bg sg opn strs only hb sig isig un over gn nm inn ht gd im pt marks eqs hc hi hw hn rs br bm bw cf lf ib isa lawb lw cl pl mb wb nw cz ix su sx idn idz eqx
open Go.RowKit
set_option linter.unusedVariables false
set_option linter.unusedSimpArgs false
def iidQ (n1 : Nat) (E : Int) (zs : List Int) (R : Nat) (ou : List ByteArray) (ws : List Wr) : Bool := decide (E = 0) && decide (n1 = 0) && decide (zs = downs R) && decide (ws = tied ou (nums ou.length))
theorem iid_no1 {n1 : Nat} {E : Int} {zs : List Int} {R : Nat} {ou : List ByteArray} {ws : List Wr} (h : ¬ E = 0) : iidQ n1 E zs R ou ws = false := by unfold iidQ; rw [decide_eq_false h]; rfl
theorem iid_no2 {n1 : Nat} {E : Int} {zs : List Int} {R : Nat} {ou : List ByteArray} {ws : List Wr} (h : ¬ n1 = 0) : iidQ n1 E zs R ou ws = false := by unfold iidQ; rw [decide_eq_false h, Bool.and_false]; rfl
theorem iid_no3 {n1 : Nat} {E : Int} {zs : List Int} {R : Nat} {ou : List ByteArray} {ws : List Wr} (h : decide (zs = downs R) = false) : iidQ n1 E zs R ou ws = false := by unfold iidQ; rw [h, Bool.and_false]; rfl
theorem iid_no4 {n1 : Nat} {E : Int} {zs : List Int} {R : Nat} {ou : List ByteArray} {ws : List Wr} (h : decide (ws = tied ou (nums ou.length)) = false) : iidQ n1 E zs R ou ws = false := by unfold iidQ; rw [h, Bool.and_false]
theorem iid_yes {n1 : Nat} {E : Int} {zs : List Int} {R : Nat} {ou : List ByteArray} {ws : List Wr} (h1 : E = 0) (h2 : n1 = 0) (h3 : decide (zs = downs R) = true) (h4 : decide (ws = tied ou (nums ou.length)) = true) : iidQ n1 E zs R ou ws = true := by unfold iidQ; rw [decide_eq_true h1, decide_eq_true h2, h3, h4]; rfl
theorem wrsR_at {w : World} {lo hi : Nat} {A : Option Addr} {n c : Nat} {ws : List Wr} (h : RowR w lo hi 93 2 A n c (wic ws)) (hl : ws.length = n) : WrsAt w hi A n ws := by
  refine ⟨hl, fun hn => ?_⟩
  rcases h with ⟨_, _, e⟩ | ⟨g, f, rfl, h1, h2, h3, h4, h5⟩
  · omega
  · refine ⟨g, 0, rfl, h2, fun k x hx => ?_⟩
    have hk := (List.getElem?_eq_some_iff.1 hx).1
    obtain ⟨e0, e1⟩ := wic_at hx
    rw [Nat.zero_add, h4.cell (by omega), h5 _ (by omega), e0, h4.cell (by omega), h5 _ (by omega), e1]
    exact ⟨rfl, rfl⟩
theorem intsR_at' {w : World} {lo hi : Nat} {A : Option Addr} {n c : Nat} {zs : List Int} (h : RowR w lo hi 3 1 A n c (iat zs)) (hl : zs.length = n) : IntsAt w hi A n zs := by
  subst hl
  rcases h with ⟨rfl, _, e⟩ | ⟨g, f, rfl, h1, h2, h3, h4, h5⟩
  · have : zs = [] := List.eq_nil_of_length_eq_zero e
    subst this
    exact ⟨rfl, fun h => absurd h (by simp)⟩
  · exact ints_row h4 (by omega) h2 rfl (fun k hk => h5 k (by omega))
set_option maxRecDepth 20000 in
set_option maxHeartbeats 12800000 in
theorem same_any (A1 A2 A4 A5 p1 B2 B4 B5 : Option Addr) (R n1 c1 n2 c2 n4 c4 n5 c5 q1 d2 d4 d5 : Nat) (E : Int) (zs : List Int) (ou : List ByteArray) (ws : List Wr) (w0 w : World) (h2 : IntsAt w0 w0.heap.size A2 n2 zs) (h4 : SR w0 w0.heap.size A4 n4 (ou.map Value.string)) (h5 : WrsAt w0 w0.heap.size A5 n5 ws) (hb0 : Below w0.heap.size w0 w)
    (k2 : IntsAt w w.heap.size B2 R (downs R)) (k4 : SR w w.heap.size B4 n4 (ou.map Value.string)) (k5 : WrsAt w w.heap.size B5 n4 (tied ou (nums ou.length))) (m1 : n1 ≤ 1048576) (m2 : n2 ≤ 1048576) (m3 : R ≤ 1048576) (m4 : n4 ≤ 1048576) (m5 : n5 ≤ 1048576) :
    Calls Try.prog 75 #[.agg #[.int .i64 R, .slice A1 n1 c1, .slice A2 n2 c2, .int .i64 E, .slice A4 n4 c4, .slice A5 n5 c5], .agg #[.int .i64 R, .slice p1 0 q1, .slice B2 R d2, .int .i64 0, .slice B4 n4 d4, .slice B5 n4 d5]] w (Post (iidQ n1 E zs R ou ws) w) := by
  have HBa0 : Hid (BoxAt (w.alloc (.cells #[.int .i64 R, .slice A1 n1 c1, .slice A2 n2 c2, .int .i64 E, .slice A4 n4 c4, .slice A5 n5 c5] 28)) w.heap.size 28 (.int .i64 R) (.slice A1 n1 c1) (.slice A2 n2 c2) (.int .i64 E) (.slice A4 n4 c4) (.slice A5 n5 c5)) := Lib.hid (six_new w _ _ _ _ _ _ _)
  have hb1 := (Below.refl w.heap.size w).alloc (Nat.le_refl _) (.cells #[.int .i64 R, .slice A1 n1 c1, .slice A2 n2 c2, .int .i64 E, .slice A4 n4 c4, .slice A5 n5 c5] 28)
  obtain ⟨U, hU⟩ : ∃ U, w.alloc (.cells #[.int .i64 R, .slice A1 n1 c1, .slice A2 n2 c2, .int .i64 E, .slice A4 n4 c4, .slice A5 n5 c5] 28) = U := ⟨_, rfl⟩
  have hUz : U.heap.size = w.heap.size + 1 := by rw [← hU]; simp
  rw [hU] at HBa0 hb1
  have HBb : Hid (BoxAt (U.alloc (.cells #[.int .i64 R, .slice p1 0 q1, .slice B2 R d2, .int .i64 0, .slice B4 n4 d4, .slice B5 n4 d5] 28)) U.heap.size 28 (.int .i64 R) (.slice p1 0 q1) (.slice B2 R d2) (.int .i64 0) (.slice B4 n4 d4) (.slice B5 n4 d5)) := Lib.hid (six_new U _ _ _ _ _ _ _)
  have hb2 := (Below.refl U.heap.size U).alloc (Nat.le_refl _) (.cells #[.int .i64 R, .slice p1 0 q1, .slice B2 R d2, .int .i64 0, .slice B4 n4 d4, .slice B5 n4 d5] 28)
  have HBa := Lib.hid (HBa0.out.on hb2)
  obtain ⟨W, hW⟩ : ∃ W, U.alloc (.cells #[.int .i64 R, .slice p1 0 q1, .slice B2 R d2, .int .i64 0, .slice B4 n4 d4, .slice B5 n4 d5] 28) = W := ⟨_, rfl⟩
  have hWz : W.heap.size = w.heap.size + 2 := by rw [← hW]; simp; omega
  rw [hW] at HBa HBb hb2
  rw [hUz] at HBb
  have HUq := Lib.hid hU
  have HWq := Lib.hid hW
  have HB0 := Lib.hid (hb1.trans (hb2.mono hb1.size))
  have HWz := Lib.hid hWz
  have HL4 := Lib.hid h4.strlen
  have HL5 := Lib.hid h5.1
  have HW0 := Lib.hid (hb0.trans (HB0.out.mono hb0.size))
  have CS := l1Same_any A2 n2 c2 zs B2 R d2 (downs R) W _ _ (h2.below HW0.out) (k2.below HB0.out) HW0.out.size HB0.out.size m2 m3
  have H4 := Lib.hid h4
  have H5 := Lib.hid h5
  have K4 := Lib.hid k4
  have K5 := Lib.hid k5
  clear hU hW hb1 hb2 hUz hWz h4 h5 k4 k5 h2 k2
  obtain ⟨x0, x1, x2, x3, x4, x5⟩ := HBa.out.get
  obtain ⟨y0, y1, y2, y3, y4, y5⟩ := HBb.out.get
  have hr0 : ((R : Int) != (R : Int)) = false := by simp
  have hn44 : ((n4 : Int) != (n4 : Int)) = false := by simp
  by_cases hE : E = 0
  · subst hE
    by_cases hN : n1 = 0
    · subst hN
      by_cases hI : n5 = n4
      · subst hI
        cases hz : decide (zs = downs R) with
        | false =>
          rw [iid_no3 hz]
          rw [hz] at CS
          go_enter Try.func75, Try.ntmps75
          go_wp2_with fail
          rw [HUq.out, HWq.out]
          go_wp2_with fail
          refine CS.mono ?_
          rintro e w3 ⟨rfl, hb3⟩
          clear CS x0 x1 x2 x3 x4 x5 y0 y1 y2 y3 y4 y5
          go_wp2_with fail
          go_ret
          exact ⟨rfl, HB0.out.trans (hb3.mono HB0.out.size)⟩
        | true =>
          rw [hz] at CS
          have HZ := Lib.hid hz
          clear hz
          go_enter Try.func75, Try.ntmps75
          go_wp2_with fail
          rw [HUq.out, HWq.out]
          go_wp2_with fail
          refine CS.mono ?_
          rintro e w3 ⟨rfl, hb3⟩
          have HB3 := Lib.hid (HB0.out.trans (hb3.mono HB0.out.size))
          have HBa3 := Lib.hid (HBa.out.on hb3)
          have HBb3 := Lib.hid (HBb.out.on hb3)
          have HW3 := Lib.hid (HW0.out.trans (hb3.mono HW0.out.size))
          clear CS x0 x1 x2 x3 x4 x5 y0 y1 y2 y3 y4 y5 hb3
          go_wp2_with fail
          go_loopw [5] (fun i wr => i = .int .i64 0 ∧ Dr w3 wr) (fun _ _ => 0)
          case atStart => exact ⟨rfl, Dr.refl _⟩
          case round =>
            obtain ⟨rfl, hdr⟩ := hrel
            have HD := Lib.hid hdr
            obtain ⟨x0, x1, x2, x3, x4, x5⟩ := (HBa3.out.on (hdr.below _)).get
            clear hdr
            go_wp2_with fail
            clear x0 x1 x2 x3 x4 x5
            rename World => wA
            go_loopw [6] (fun i wr => ∃ k : Nat, k ≤ n5 ∧ i = .int .i64 k ∧ Dr w3 wr) (fun i _ => n5 - (intOf i).toNat)
            case atStart => exact ⟨0, Nat.zero_le _, rfl, HD.out⟩
            case round =>
              obtain ⟨k, hk, rfl, hdr⟩ := hrel
              have HD2 := Lib.hid hdr
              have hdb := hdr.below w3.heap.size
              obtain ⟨x0, x1, x2, x3, x4, x5⟩ := (HBa3.out.on hdb).get
              obtain ⟨y0, y1, y2, y3, y4, y5⟩ := (HBb3.out.on hdb).get
              by_cases hlt : k < n5
              · obtain ⟨b1, o1, x, rfl, hbb1, hx, cx⟩ := H4.out.str hlt
                obtain ⟨b2, o2, y, rfl, hbb2, hy, cy⟩ := K4.out.str hlt
                have he : y = x := by rw [hx] at hy; injection hy with hy; exact hy.symm
                subst he
                have ex := ((HW3.out.trans (hdb.mono HW3.out.size)).cell (p := ⟨b1, o1 + k, none⟩) hbb1).trans cx
                have ey := ((HB3.out.trans (hdb.mono HB3.out.size)).cell (p := ⟨b2, o2 + k, none⟩) hbb2).trans cy
                have he1 : (y.toList == y.toList) = true := by simp
                have he2 : (y.toList != y.toList) = false := by simp
                have hbz1 : b1 < wr.heap.size := by have := (HW3.out.trans (hdb.mono HW3.out.size)).size; omega
                have hbz2 : b2 < wr.heap.size := by have := (HB3.out.trans (hdb.mono HB3.out.size)).size; omega
                clear hx hy cx cy hdr hdb
                go_wp2_with fail
                go_quiet (fail)
                go_wp2_with fail
                go_roundw
                case rel => exact ⟨k + 1, by omega, by go_num, HD2.out.more _⟩
                case measure => simp [intOf]; omega
              · obtain rfl : k = n5 := by omega
                clear hdr hdb
                go_wp2_with fail
                clear x0 x1 x2 x3 x4 x5 y0 y1 y2 y3 y4 y5
                rename World => wB
                go_loopw [7] (fun i wr => ∃ j : Nat, j ≤ k ∧ i = .int .i64 j ∧ (∀ (t : Nat) x y, t < j → ws[t]? = some x → (tied ou (nums ou.length))[t]? = some y → x = y) ∧ Dr w3 wr) (fun i _ => k - (intOf i).toNat)
                case atStart => exact ⟨0, Nat.zero_le _, rfl, fun t x y ht => absurd ht (by omega), HD2.out⟩
                case round =>
                  obtain ⟨j, hj, rfl, hall, hdr⟩ := hrel
                  have HA := Lib.hid hall
                  have HD3 := Lib.hid hdr
                  have hdb := hdr.below w3.heap.size
                  obtain ⟨x0, x1, x2, x3, x4, x5⟩ := (HBa3.out.on hdb).get
                  obtain ⟨y0, y1, y2, y3, y4, y5⟩ := (HBb3.out.on hdb).get
                  clear hall
                  by_cases hlt2 : j < k
                  · obtain ⟨b1, o1, x, rfl, hbb1, hx, cx0, cx1⟩ := H5.out.get hlt2
                    obtain ⟨b2, o2, y, rfl, hbb2, hy, cy0, cy1⟩ := K5.out.get hlt2
                    have hA := HW3.out.trans (hdb.mono HW3.out.size)
                    have hBq := HB3.out.trans (hdb.mono HB3.out.size)
                    have ex0 := (hA.cell (p := ⟨b1, o1 + j * 2, none⟩) hbb1).trans cx0
                    have ex1 := (hA.cell (p := ⟨b1, o1 + j * 2 + 1, none⟩) hbb1).trans cx1
                    have ey0 := (hBq.cell (p := ⟨b2, o2 + j * 2, none⟩) hbb2).trans cy0
                    have ey1 := (hBq.cell (p := ⟨b2, o2 + j * 2 + 1, none⟩) hbb2).trans cy1
                    have hbz1 : b1 < wr.heap.size := by have := hA.size; omega
                    have hbz2 : b2 < wr.heap.size := by have := hBq.size; omega
                    have HXx := Lib.hid hx
                    have HYy := Lib.hid hy
                    obtain ⟨xn, xl⟩ := x
                    obtain ⟨yn, yl⟩ := y
                    dsimp only at ex0 ex1 ey0 ey1
                    clear hx hy cx0 cx1 cy0 cy1 hdr hdb hA hBq
                    cases he : (xn.toList == yn.toList) with
                    | true =>
                      by_cases hl : xl = yl
                      · subst hl
                        have HE := Lib.hid (show (⟨xn, xl⟩ : Wr) = ⟨yn, xl⟩ by rw [str_eq he])
                        have he2 : (xn.toList != yn.toList) = false := by rw [bne, he]; rfl
                        go_wp2_with fail
                        go_quiet (fail)
                        go_wp2_with fail
                        go_roundw
                        case rel => exact ⟨j + 1, by omega, by go_num, fun t x' y' ht hx' hy' => by
                          by_cases e : t = j
                          · subst e; rw [HXx.out] at hx'; rw [HYy.out] at hy'; injection hx' with e1; injection hy' with e2; rw [← e1, ← e2]; exact HE.out
                          · exact HA.out t x' y' (by omega) hx' hy', HD3.out.more _⟩
                        case measure => simp [intOf]; omega
                      · have hl2 : (xl == yl) = false := beq_eq_false_iff_ne.2 hl
                        have HE := Lib.hid (show (⟨xn, xl⟩ : Wr) ≠ ⟨yn, yl⟩ from fun e => hl (by injection e))
                        have HN : Hid (decide (ws = tied ou (nums ou.length)) = false) := Lib.hid (decide_eq_false fun e => HE.out (by
                          have h1 := HXx.out; rw [e, HYy.out] at h1; injection h1 with h1; exact h1.symm))
                        go_wp2_with fail
                        go_quiet (fail)
                        go_wp2_with fail
                        go_ret
                        exact ⟨by rw [iid_no4 HN.out]; rfl, HB3.out.trans (((HD3.out.more _).below _).mono HB3.out.size)⟩
                    | false =>
                      have HE := Lib.hid (show (⟨xn, xl⟩ : Wr) ≠ ⟨yn, yl⟩ from fun e => str_ne he (by injection e))
                      have he2 : (xn.toList != yn.toList) = true := by rw [bne, he]; rfl
                      have HN : Hid (decide (ws = tied ou (nums ou.length)) = false) := Lib.hid (decide_eq_false fun e => HE.out (by
                        have h1 := HXx.out; rw [e, HYy.out] at h1; injection h1 with h1; exact h1.symm))
                      go_wp2_with fail
                      go_quiet (fail)
                      go_wp2_with fail
                      go_ret
                      exact ⟨by rw [iid_no4 HN.out]; rfl, HB3.out.trans (((HD3.out.more _).below _).mono HB3.out.size)⟩
                  · obtain rfl : j = k := by omega
                    have HYs : Hid (decide (ws = tied ou (nums ou.length)) = true) := Lib.hid (decide_eq_true (by
                      refine List.ext_getElem? (fun t => ?_)
                      have hlx := HL5.out
                      have hly := K5.out.1
                      by_cases ht : t < j
                      · have ex : ws[t]? = some (ws[t]'(by rw [hlx]; exact ht)) := List.getElem?_eq_getElem _
                        have ey : (tied ou (nums ou.length))[t]? = some ((tied ou (nums ou.length))[t]'(by rw [hly]; exact ht)) := List.getElem?_eq_getElem _
                        rw [ex, ey, HA.out t _ _ ht ex ey]
                      · rw [List.getElem?_eq_none (by rw [hlx]; omega), List.getElem?_eq_none (by rw [hly]; omega)]))
                    clear hdr hdb
                    go_wp2_with fail
                    go_ret
                    exact ⟨by rw [iid_yes rfl rfl HZ.out HYs.out]; rfl, HB3.out.trans ((HD3.out.below _).mono HB3.out.size)⟩
      · have hIb : ((n5 : Int) != (n4 : Int)) = true := by simp; omega
        have HN : Hid (decide (ws = tied ou (nums ou.length)) = false) := Lib.hid (decide_eq_false fun e => hI (by rw [← HL5.out, e]; exact K5.out.1))
        rw [iid_no4 HN.out]
        go_enter Try.func75, Try.ntmps75
        go_wp2_with fail
        rw [HUq.out, HWq.out]
        go_wp2_with fail
        go_ret
        exact ⟨rfl, HB0.out⟩
    · have hNb : ((n1 : Int) != 0) = true := by simp; omega
      rw [iid_no2 hN]
      go_enter Try.func75, Try.ntmps75
      go_wp2_with fail
      rw [HUq.out, HWq.out]
      go_wp2_with fail
      go_ret
      exact ⟨rfl, HB0.out⟩
  · have hEb : (E != 0) = true := by simp [hE]
    rw [iid_no1 hE]
    go_enter Try.func75, Try.ntmps75
    go_wp2_with fail
    rw [HUq.out, HWq.out]
    go_wp2_with fail
    go_ret
    exact ⟨rfl, HB0.out⟩
end Go.Proofs.Ytmcdbhlpmlcjpaa.sme
