/- FitsAfter of spec and impl. -/
import Derived.Test.YtlpgldejmdiceabGreatQd
namespace Go.Proofs.YtlpgldejmdiceabGreat.ft
open kit bg sg opn strs only hb sig isig un over gn nm inn ht gd im pt marks eqs hc hi hw hn rs br bm bw cf lf ib isa lawb lw
open Go.RowKit
set_option linter.unusedVariables false

set_option maxHeartbeats 1600000 in
theorem l4Equal_any (A : Option Addr) (n c : Nat) (xs : List ByteArray) (B : Option Addr) (m d : Nat) (ys : List ByteArray) (w : World) (L M : Nat) (h : SR w L A n (xs.map Value.string)) (h' : SR w M B m (ys.map Value.string)) (hL : L ≤ w.heap.size) (hM : M ≤ w.heap.size) (hn : n ≤ 1048576) (hm : m ≤ 1048576) :
    Calls Tryz.prog 74 #[.slice A n c, .slice B m d] w (Post (decide (xs = ys)) w) := by
  have HX := Lib.hid h.strlen
  have HY := Lib.hid h'.strlen
  by_cases hq : n = m
  · subst hq
    go_enter Tryz.func74, Tryz.ntmps74
    go_wp2_with fail
    go_loopw [5] (fun i wr => ∃ k : Nat, k ≤ n ∧ i = .int .i64 k ∧ (∀ (j : Nat) x y, j < k → xs[j]? = some x → ys[j]? = some y → x = y) ∧ Dr w wr) (fun i _ => n - (intOf i).toNat)
    case atStart => exact ⟨0, Nat.zero_le _, rfl, fun j x y hj => absurd hj (Nat.not_lt_zero j), Dr.refl _⟩
    case round =>
      obtain ⟨k, hk, rfl, hall, hdr⟩ := hrel
      have HA := Lib.hid hall
      clear hall
      by_cases hlt : k < n
      · obtain ⟨b1, o1, x, rfl, hb1, hx, cx⟩ := h.str hlt
        obtain ⟨b2, o2, y, rfl, hb2, hy, cy⟩ := h'.str hlt
        have ex := (hdr.cell ⟨b1, o1 + k, none⟩).trans cx
        have ey := (hdr.cell ⟨b2, o2 + k, none⟩).trans cy
        have hbb1 : b1 < wr.heap.size := by rw [hdr.size]; omega
        have hbb2 : b2 < wr.heap.size := by rw [hdr.size]; omega
        have HXx := Lib.hid hx
        have HYy := Lib.hid hy
        clear hx hy cx cy
        cases he : (x.toList == y.toList) with
        | true =>
          have HE := Lib.hid (str_eq he)
          have he2 : (x.toList != y.toList) = false := by rw [bne, he]; rfl
          go_wp2_with fail
          go_quiet (fail)
          go_wp2_with fail
          go_roundw
          case rel => exact ⟨k + 1, by omega, by go_num, fun j x' y' hj hx' hy' => by
            by_cases e : j = k
            · subst e; rw [HXx.out] at hx'; rw [HYy.out] at hy'; injection hx' with e1; injection hy' with e2; rw [← e1, ← e2]; exact HE.out
            · exact HA.out j x' y' (by omega) hx' hy', hdr.more _⟩
          case measure => simp [intOf]; omega
        | false =>
          have HE := Lib.hid (str_ne he)
          have he2 : (x.toList != y.toList) = true := by rw [bne, he]; rfl
          have HN : Hid (decide (xs = ys) = false) := Lib.hid (decide_eq_false fun e => HE.out (by
            have h1 := HXx.out; rw [e, HYy.out] at h1; injection h1 with h1; exact h1.symm))
          go_wp2_with fail
          go_quiet (fail)
          go_wp2_with fail
          go_ret
          exact ⟨by rw [HN.out]; rfl, (hdr.more _).below _⟩
      · obtain rfl : k = n := by omega
        have HYs : Hid (decide (xs = ys) = true) := Lib.hid (decide_eq_true (by
          refine List.ext_getElem? (fun j => ?_)
          by_cases hj : j < k
          · have ex : xs[j]? = some (xs[j]'(by rw [HX.out]; exact hj)) := List.getElem?_eq_getElem _
            have ey : ys[j]? = some (ys[j]'(by rw [HY.out]; exact hj)) := List.getElem?_eq_getElem _
            rw [ex, ey, HA.out j _ _ hj ex ey]
          · rw [List.getElem?_eq_none (by rw [HX.out]; omega), List.getElem?_eq_none (by rw [HY.out]; omega)]))
        go_wp2_with fail
        go_ret
        exact ⟨by rw [HYs.out]; rfl, hdr.below _⟩
  · have HN : Hid (decide (xs = ys) = false) := Lib.hid (decide_eq_false fun e => hq (by rw [← HX.out, ← HY.out, e]))
    have hq' : ¬ (n : Int) = m := by omega
    go_enter Tryz.func74, Tryz.ntmps74
    go_wp2_with fail
    go_ret
    exact ⟨by rw [HN.out]; rfl, Below.refl _ _⟩

set_option maxHeartbeats 1600000 in
theorem eqStr_any (A : Option Addr) (n c : Nat) (xs : List ByteArray) (B : Option Addr) (m d : Nat) (ys : List ByteArray) (w : World) (L M : Nat) (h : SR w L A n (xs.map Value.string)) (h' : SR w M B m (ys.map Value.string)) (hL : L ≤ w.heap.size) (hM : M ≤ w.heap.size) (hn : n ≤ 1048576) (hm : m ≤ 1048576) :
    Calls Tryz.prog 86 #[.slice A n c, .slice B m d] w (Post (decide (xs = ys)) w) := by
  have HX := Lib.hid h.strlen
  have HY := Lib.hid h'.strlen
  by_cases hq : n = m
  · subst hq
    go_enter Tryz.func86, Tryz.ntmps86
    go_wp2_with fail
    go_loopw [5, 13] (fun _ i wr => ∃ k : Nat, k ≤ n ∧ i = .int .i64 k ∧ (∀ (j : Nat) x y, j < k → xs[j]? = some x → ys[j]? = some y → x = y) ∧ Dr w wr) (fun _ i _ => n - (intOf i).toNat)
    case atStart => exact ⟨0, Nat.zero_le _, rfl, fun j x y hj => absurd hj (Nat.not_lt_zero j), Dr.refl _⟩
    case round =>
      obtain ⟨k, hk, rfl, hall, hdr⟩ := hrel
      have HA := Lib.hid hall
      clear hall
      by_cases hlt : k < n
      · obtain ⟨b1, o1, x, rfl, hb1, hx, cx⟩ := h.str hlt
        obtain ⟨b2, o2, y, rfl, hb2, hy, cy⟩ := h'.str hlt
        have ex := (hdr.cell ⟨b1, o1 + k, none⟩).trans cx
        have ey := (hdr.cell ⟨b2, o2 + k, none⟩).trans cy
        have hbb1 : b1 < wr.heap.size := by rw [hdr.size]; omega
        have hbb2 : b2 < wr.heap.size := by rw [hdr.size]; omega
        have HXx := Lib.hid hx
        have HYy := Lib.hid hy
        clear hx hy cx cy
        cases he : (x.toList == y.toList) with
        | true =>
          have HE := Lib.hid (str_eq he)
          have he2 : (x.toList != y.toList) = false := by rw [bne, he]; rfl
          go_wp2_with fail
          go_quiet (fail)
          go_wp2_with fail
          go_roundw
          case rel => exact ⟨k + 1, by omega, by go_num, fun j x' y' hj hx' hy' => by
            by_cases e : j = k
            · subst e; rw [HXx.out] at hx'; rw [HYy.out] at hy'; injection hx' with e1; injection hy' with e2; rw [← e1, ← e2]; exact HE.out
            · exact HA.out j x' y' (by omega) hx' hy', hdr.more _⟩
          case measure => simp [intOf]; omega
        | false =>
          have HE := Lib.hid (str_ne he)
          have he2 : (x.toList != y.toList) = true := by rw [bne, he]; rfl
          have HN : Hid (decide (xs = ys) = false) := Lib.hid (decide_eq_false fun e => HE.out (by
            have h1 := HXx.out; rw [e, HYy.out] at h1; injection h1 with h1; exact h1.symm))
          go_wp2_with fail
          go_quiet (fail)
          go_wp2_with fail
          go_ret
          exact ⟨by rw [HN.out]; rfl, (hdr.more _).below _⟩
      · obtain rfl : k = n := by omega
        have HYs : Hid (decide (xs = ys) = true) := Lib.hid (decide_eq_true (by
          refine List.ext_getElem? (fun j => ?_)
          by_cases hj : j < k
          · have ex : xs[j]? = some (xs[j]'(by rw [HX.out]; exact hj)) := List.getElem?_eq_getElem _
            have ey : ys[j]? = some (ys[j]'(by rw [HY.out]; exact hj)) := List.getElem?_eq_getElem _
            rw [ex, ey, HA.out j _ _ hj ex ey]
          · rw [List.getElem?_eq_none (by rw [HX.out]; omega), List.getElem?_eq_none (by rw [HY.out]; omega)]))
        go_wp2_with fail
        go_ret
        exact ⟨by rw [HYs.out]; rfl, hdr.below _⟩
  · have HN : Hid (decide (xs = ys) = false) := Lib.hid (decide_eq_false fun e => hq (by rw [← HX.out, ← HY.out, e]))
    have hq' : ¬ (n : Int) = m := by omega
    go_enter Tryz.func86, Tryz.ntmps86
    go_wp2_with fail
    go_ret
    exact ⟨by rw [HN.out]; rfl, Below.refl _ _⟩

/-- what a composition asks of the faces -/
def fitB (a b : Big) : Bool := decide ((a.sites.length : Int) = b.roots) && decide (nms a.inner = b.outer)

set_option maxRecDepth 20000 in
set_option maxHeartbeats 3200000 in
theorem l4Fits_any (A1 A2 A4 A5 B1 B2 B4 B5 : Option Addr) (n1 n2 n4 n5 c1 c2 c4 c5 m1 m2 m4 m5 d1 d2 d4 d5 : Nat) (a b : Big) (w0 w : World) (h2 : a.sites.length = n2) (h5 : WrsAt w0 w0.heap.size A5 n5 a.inner) (k4 : SR w0 w0.heap.size B4 m4 (b.outer.map Value.string)) (hb0 : Below w0.heap.size w0 w) (q2 : n2 ≤ 1048576) (q5 : n5 ≤ 1048576) (q4 : m4 ≤ 1048576) :
    Calls Tryz.prog 53 #[.agg #[.int .i64 a.roots, .slice A1 n1 c1, .slice A2 n2 c2, .int .i64 a.edges, .slice A4 n4 c4, .slice A5 n5 c5], .agg #[.int .i64 b.roots, .slice B1 m1 d1, .slice B2 m2 d2, .int .i64 b.edges, .slice B4 m4 d4, .slice B5 m5 d5]] w (Post (fitB a b) w) := by
  have HBa : Hid (BoxAt (w.alloc (.cells #[.int .i64 a.roots, .slice A1 n1 c1, .slice A2 n2 c2, .int .i64 a.edges, .slice A4 n4 c4, .slice A5 n5 c5] 31)) w.heap.size 31 (.int .i64 a.roots) (.slice A1 n1 c1) (.slice A2 n2 c2) (.int .i64 a.edges) (.slice A4 n4 c4) (.slice A5 n5 c5)) := Lib.hid (six_new w _ _ _ _ _ _ _)
  have hb0 := (Below.refl w.heap.size w).alloc (Nat.le_refl _) (.cells #[.int .i64 a.roots, .slice A1 n1 c1, .slice A2 n2 c2, .int .i64 a.edges, .slice A4 n4 c4, .slice A5 n5 c5] 31)
  obtain ⟨U, hU⟩ : ∃ U, w.alloc (.cells #[.int .i64 a.roots, .slice A1 n1 c1, .slice A2 n2 c2, .int .i64 a.edges, .slice A4 n4 c4, .slice A5 n5 c5] 31) = U := ⟨_, rfl⟩
  have hUz : U.heap.size = w.heap.size + 1 := by rw [← hU]; simp
  rw [hU] at HBa hb0
  have HBb : Hid (BoxAt (U.alloc (.cells #[.int .i64 b.roots, .slice B1 m1 d1, .slice B2 m2 d2, .int .i64 b.edges, .slice B4 m4 d4, .slice B5 m5 d5] 31)) U.heap.size 31 (.int .i64 b.roots) (.slice B1 m1 d1) (.slice B2 m2 d2) (.int .i64 b.edges) (.slice B4 m4 d4) (.slice B5 m5 d5)) := Lib.hid (six_new U _ _ _ _ _ _ _)
  have hb1 := (Below.refl U.heap.size U).alloc (Nat.le_refl _) (.cells #[.int .i64 b.roots, .slice B1 m1 d1, .slice B2 m2 d2, .int .i64 b.edges, .slice B4 m4 d4, .slice B5 m5 d5] 31)
  have HBa := Lib.hid (HBa.out.on hb1)
  obtain ⟨W, hW⟩ : ∃ W, U.alloc (.cells #[.int .i64 b.roots, .slice B1 m1 d1, .slice B2 m2 d2, .int .i64 b.edges, .slice B4 m4 d4, .slice B5 m5 d5] 31) = W := ⟨_, rfl⟩
  have hWz : W.heap.size = w.heap.size + 2 := by rw [← hW]; simp; omega
  rw [hW] at HBa HBb hb1
  rw [hUz] at HBb
  have HUq := Lib.hid hU
  have HWq := Lib.hid hW
  have HB0 := Lib.hid (hb0.trans (hb1.mono hb0.size))
  have HWz := Lib.hid hWz
  have ha1 : w.heap.size < W.heap.size := by omega
  have ha2 : w.heap.size + 1 < W.heap.size := by omega
  clear hU hW hb0 hb1 hUz hWz
  have HW0 := Lib.hid (hb0.trans (HB0.out.mono hb0.size))
  obtain ⟨R, hR⟩ : ∃ R, b.roots = R := ⟨_, rfl⟩
  have HF : Hid (fitB a b = (decide ((n2 : Int) = R) && decide (nms a.inner = b.outer))) := Lib.hid (by unfold fitB; rw [h2, hR])
  have HNl : Hid (((nms a.inner).map Value.string).length = n5) := Lib.hid (by rw [List.length_map]; unfold nms; rw [List.length_map]; exact h5.1)
  obtain ⟨q, hq⟩ : ∃ q, decide (nms a.inner = b.outer) = q := ⟨_, rfl⟩
  have HI := Lib.hid (fun (w2 : World) (hb2 : Below w0.heap.size w0 w2) => l2Inner_any (.int .i64 a.roots) (.slice A1 n1 c1) (.slice A2 n2 c2) (.int .i64 a.edges) (.slice A4 n4 c4) A5 n5 c5 a.inner w0 w2 h5 hb2 q5)
  have HEq := Lib.hid (fun (A : Option Addr) (c : Nat) (w2 : World) (hs : SR w2 w2.heap.size A n5 ((nms a.inner).map Value.string)) (hb2 : Below w0.heap.size w0 w2) => hq ▸ l4Equal_any A n5 c (nms a.inner) B4 m4 d4 b.outer w2 _ _ hs (k4.below hb2) (Nat.le_refl _) hb2.size q5 q4)
  rw [hq] at HF
  rw [hR] at HBb HWq
  rw [hR, HF.out]
  clear hq hR hb0 k4 h5
  obtain ⟨x0, x1, x2, x3, x4, x5⟩ := HBa.out.get
  obtain ⟨y0, y1, y2, y3, y4, y5⟩ := HBb.out.get
  by_cases hE : (n2 : Int) = R
  · subst hE
    go_enter Tryz.func53, Tryz.ntmps53
    go_wp2_with fail
    rw [HUq.out, HWq.out]
    go_wp2_with fail
    have hkD := (Below.refl W.heap.size W).drew
    go_region_held3 (fun w' => (w'.cell? ⟨w.heap.size, 0, none⟩ = some (.int .i64 a.roots) ∧ w'.cell? ⟨w.heap.size, 1, none⟩ = some (.slice A1 n1 c1) ∧ w'.cell? ⟨w.heap.size, 2, none⟩ = some (.slice A2 n2 c2) ∧ w'.cell? ⟨w.heap.size, 3, none⟩ = some (.int .i64 a.edges) ∧ w'.cell? ⟨w.heap.size, 4, none⟩ = some (.slice A4 n4 c4) ∧ w'.cell? ⟨w.heap.size, 5, none⟩ = some (.slice A5 n5 c5)) ∧ (w'.cell? ⟨w.heap.size + 1, 0, none⟩ = some (.int .i64 (n2 : Int)) ∧ w'.cell? ⟨w.heap.size + 1, 1, none⟩ = some (.slice B1 m1 d1) ∧ w'.cell? ⟨w.heap.size + 1, 2, none⟩ = some (.slice B2 m2 d2) ∧ w'.cell? ⟨w.heap.size + 1, 3, none⟩ = some (.int .i64 b.edges) ∧ w'.cell? ⟨w.heap.size + 1, 4, none⟩ = some (.slice B4 m4 d4) ∧ w'.cell? ⟨w.heap.size + 1, 5, none⟩ = some (.slice B5 m5 d5))) (first | exact ⟨(HBa.out.on hk3).get, (HBb.out.on hk3).get⟩ | exact ⟨(HBa.out.on hk2).get, (HBb.out.on hk2).get⟩ | exact ⟨(HBa.out.on hkD).get, (HBb.out.on hkD).get⟩)
      (first
       | (go_at_call 48; refine (HI.out _ (HW0.out.trans (hkD.mono HW0.out.size))).mono ?_; rintro e w2 ⟨v2, rfl, ho, hb2⟩; obtain ⟨g2, cap2, rfl, -, -, -, hs2⟩ := ho.at; rw [HNl.out] at hs2; rw [HNl.out]; have hk2 := hkD.trans (hb2.mono hkD.size))
       | (go_at_call 74; refine (HEq.out _ _ w2 hs2 (HW0.out.trans (hk2.mono HW0.out.size))).mono ?_; rintro e w3 ⟨rfl, hb3⟩; have hk3 := hk2.trans (hb3.mono hk2.size)))
    have hb9 := HB0.out.trans (hk3.mono HB0.out.size)
    clear hk3 hk2 hkD hb2 hb3 ho hs2
    go_wp2_with fail
    go_ret
    exact ⟨by simp, hb9⟩
  · have hd : decide ((n2 : Int) = R) = false := decide_eq_false hE
    have hd2 : ((n2 : Int) == R) = false := hd
    go_enter Tryz.func53, Tryz.ntmps53
    go_wp2_with fail
    rw [HUq.out, HWq.out]
    go_wp2_with fail
    go_quiet (fail)
    have hb9 := below_drewN HB0.out nq
    clear x0 x1 x2 x3 x4 x5 y0 y1 y2 y3 y4 y5
    go_wp2_with fail
    go_ret
    exact ⟨by rw [hd]; rfl, hb9⟩

set_option maxRecDepth 20000 in
set_option maxHeartbeats 3200000 in
theorem are_any (A : Option Addr) (n c : Nat) (cs : List Ctl) (va : Value) (a : Big) (vb : Value) (b : Big) (w : World) (hC : CtlsAt w w.heap.size A n cs) (hn : n ≤ 1048576) (hs : ∀ c ∈ cs, c.name.size ≤ 1048576) (hva : BigAt w w.heap.size va a) (hSa : BigS a) (hwa : BigW a) (hNa : NilV va) (hvb : BigAt w w.heap.size vb b) (hSb : BigS b) (hwb : BigW b) (hNb : NilV vb) :
    Calls Tryz.prog 85 #[.slice A n c, va, vb] w (Post (bigB cs a && bigB cs b) w) := by
  obtain ⟨A1, n1, c1, A2, n2, c2, A4, n4, c4, A5, n5, c5, rfl, h1, h2, h4, h5⟩ := hva
  obtain ⟨B1, m1, d1, B2, m2, d2, B4, m4, d4, B5, m5, d5, rfl, k1, k2, k4, k5⟩ := hvb
  have HGa := Lib.hid (fun (w2 : World) (hb2 : Below w.heap.size w w2) => isBig_any A n c cs (.agg #[.int .i64 a.roots, .slice A1 n1 c1, .slice A2 n2 c2, .int .i64 a.edges, .slice A4 n4 c4, .slice A5 n5 c5]) a w2 ((hC.below hb2).wide hb2.size) (BigAt.wide (BigAt.below ⟨_, _, _, _, _, _, _, _, _, _, _, _, rfl, h1, h2, h4, h5⟩ hb2) hb2.size) hn hs hSa hwa)
  have HGb := Lib.hid (fun (w2 : World) (hb2 : Below w.heap.size w w2) => isBig_any A n c cs (.agg #[.int .i64 b.roots, .slice B1 m1 d1, .slice B2 m2 d2, .int .i64 b.edges, .slice B4 m4 d4, .slice B5 m5 d5]) b w2 ((hC.below hb2).wide hb2.size) (BigAt.wide (BigAt.below ⟨_, _, _, _, _, _, _, _, _, _, _, _, rfl, k1, k2, k4, k5⟩ hb2) hb2.size) hn hs hSb hwb)
  have HBa : Hid (BoxAt (w.alloc (.cells #[.int .i64 a.roots, .slice A1 n1 c1, .slice A2 n2 c2, .int .i64 a.edges, .slice A4 n4 c4, .slice A5 n5 c5] 31)) w.heap.size 31 (.int .i64 a.roots) (.slice A1 n1 c1) (.slice A2 n2 c2) (.int .i64 a.edges) (.slice A4 n4 c4) (.slice A5 n5 c5)) := Lib.hid (six_new w _ _ _ _ _ _ _)
  have hb0 := (Below.refl w.heap.size w).alloc (Nat.le_refl _) (.cells #[.int .i64 a.roots, .slice A1 n1 c1, .slice A2 n2 c2, .int .i64 a.edges, .slice A4 n4 c4, .slice A5 n5 c5] 31)
  obtain ⟨U, hU⟩ : ∃ U, w.alloc (.cells #[.int .i64 a.roots, .slice A1 n1 c1, .slice A2 n2 c2, .int .i64 a.edges, .slice A4 n4 c4, .slice A5 n5 c5] 31) = U := ⟨_, rfl⟩
  have hUz : U.heap.size = w.heap.size + 1 := by rw [← hU]; simp
  rw [hU] at HBa hb0
  have HBb : Hid (BoxAt (U.alloc (.cells #[.int .i64 b.roots, .slice B1 m1 d1, .slice B2 m2 d2, .int .i64 b.edges, .slice B4 m4 d4, .slice B5 m5 d5] 31)) U.heap.size 31 (.int .i64 b.roots) (.slice B1 m1 d1) (.slice B2 m2 d2) (.int .i64 b.edges) (.slice B4 m4 d4) (.slice B5 m5 d5)) := Lib.hid (six_new U _ _ _ _ _ _ _)
  have hb1 := (Below.refl U.heap.size U).alloc (Nat.le_refl _) (.cells #[.int .i64 b.roots, .slice B1 m1 d1, .slice B2 m2 d2, .int .i64 b.edges, .slice B4 m4 d4, .slice B5 m5 d5] 31)
  have HBa := Lib.hid (HBa.out.on hb1)
  obtain ⟨W, hW⟩ : ∃ W, U.alloc (.cells #[.int .i64 b.roots, .slice B1 m1 d1, .slice B2 m2 d2, .int .i64 b.edges, .slice B4 m4 d4, .slice B5 m5 d5] 31) = W := ⟨_, rfl⟩
  have hWz : W.heap.size = w.heap.size + 2 := by rw [← hW]; simp; omega
  rw [hW] at HBa HBb hb1
  rw [hUz] at HBb
  have HUq := Lib.hid hU
  have HWq := Lib.hid hW
  have HB0 := Lib.hid (hb0.trans (hb1.mono hb0.size))
  have HWz := Lib.hid hWz
  have ha1 : w.heap.size < W.heap.size := by omega
  have ha2 : w.heap.size + 1 < W.heap.size := by omega
  clear hU hW hb0 hb1 hUz hWz
  have hB0 := HB0.out
  obtain ⟨p, hp⟩ : ∃ p, bigB cs a = p := ⟨_, rfl⟩
  obtain ⟨q, hq⟩ : ∃ q, bigB cs b = q := ⟨_, rfl⟩
  rw [hp] at HGa
  rw [hq] at HGb
  rw [hp, hq]
  clear hp hq hC hn hs hSa hwa hNa hSb hwb hNb
  obtain ⟨x0, x1, x2, x3, x4, x5⟩ := HBa.out.get
  obtain ⟨y0, y1, y2, y3, y4, y5⟩ := HBb.out.get
  go_enter Tryz.func85, Tryz.ntmps85
  go_wp2_with fail
  rw [HUq.out, HWq.out]
  go_wp2_with fail
  refine (HGa.out _ hB0).mono ?_
  rintro e w1 ⟨rfl, hb⟩
  have hB1 := hB0.trans (hb.mono hB0.size)
  have HTa := Lib.hid (HBa.out.on hb)
  have HTb := Lib.hid (HBb.out.on hb)
  clear x0 x1 x2 x3 x4 x5 y0 y1 y2 y3 y4 y5
  clear hb HBa HBb
  have HBa := Lib.hid HTa.out
  have HBb := Lib.hid HTb.out
  clear HTa HTb
  obtain ⟨x0, x1, x2, x3, x4, x5⟩ := HBa.out.get
  obtain ⟨y0, y1, y2, y3, y4, y5⟩ := HBb.out.get
  cases p with
  | false =>
    go_wp2_with fail
    go_ret
    exact ⟨rfl, hB1⟩
  | true =>
    go_wp2_with fail
    refine (HGb.out _ hB1).mono ?_
    rintro e w2 ⟨rfl, hb⟩
    have hB2 := hB1.trans (hb.mono hB1.size)
    have HTa := Lib.hid (HBa.out.on hb)
    have HTb := Lib.hid (HBb.out.on hb)
    clear x0 x1 x2 x3 x4 x5 y0 y1 y2 y3 y4 y5
    clear hb HBa HBb
    have HBa := Lib.hid HTa.out
    have HBb := Lib.hid HTb.out
    clear HTa HTb
    obtain ⟨x0, x1, x2, x3, x4, x5⟩ := HBa.out.get
    obtain ⟨y0, y1, y2, y3, y4, y5⟩ := HBb.out.get
    go_wp2_with fail
    go_ret
    exact ⟨by cases q <;> rfl, hB2⟩

set_option maxRecDepth 20000 in
set_option maxHeartbeats 3200000 in
theorem iFt_any (A : Option Addr) (n c : Nat) (cs : List Ctl) (va : Value) (a : Big) (vb : Value) (b : Big) (w : World) (hC : CtlsAt w w.heap.size A n cs) (hn : n ≤ 1048576) (hs : ∀ c ∈ cs, c.name.size ≤ 1048576) (hva : BigAt w w.heap.size va a) (hSa : BigS a) (hwa : BigW a) (hNa : NilV va) (hvb : BigAt w w.heap.size vb b) (hSb : BigS b) (hwb : BigW b) (hNb : NilV vb) :
    Calls Tryz.prog 64 #[.slice A n c, va, vb] w fun e w' => e = .returned (.tuple #[.bool (bigB cs a && bigB cs b && fitB a b), .bool (bigB cs a && bigB cs b)]) ∧ Below w.heap.size w w' := by
  obtain ⟨A1, n1, c1, A2, n2, c2, A4, n4, c4, A5, n5, c5, rfl, h1, h2, h4, h5⟩ := hva
  obtain ⟨B1, m1, d1, B2, m2, d2, B4, m4, d4, B5, m5, d5, rfl, k1, k2, k4, k5⟩ := hvb
  have HGo := Lib.hid (fun (w2 : World) (hb2 : Below w.heap.size w w2) => are_any A n c cs (.agg #[.int .i64 a.roots, .slice A1 n1 c1, .slice A2 n2 c2, .int .i64 a.edges, .slice A4 n4 c4, .slice A5 n5 c5]) a (.agg #[.int .i64 b.roots, .slice B1 m1 d1, .slice B2 m2 d2, .int .i64 b.edges, .slice B4 m4 d4, .slice B5 m5 d5]) b w2 ((hC.below hb2).wide hb2.size) hn hs (BigAt.wide (BigAt.below ⟨_, _, _, _, _, _, _, _, _, _, _, _, rfl, h1, h2, h4, h5⟩ hb2) hb2.size) hSa hwa hNa (BigAt.wide (BigAt.below ⟨_, _, _, _, _, _, _, _, _, _, _, _, rfl, k1, k2, k4, k5⟩ hb2) hb2.size) hSb hwb hNb)
  have HBa : Hid (BoxAt (w.alloc (.cells #[.int .i64 a.roots, .slice A1 n1 c1, .slice A2 n2 c2, .int .i64 a.edges, .slice A4 n4 c4, .slice A5 n5 c5] 31)) w.heap.size 31 (.int .i64 a.roots) (.slice A1 n1 c1) (.slice A2 n2 c2) (.int .i64 a.edges) (.slice A4 n4 c4) (.slice A5 n5 c5)) := Lib.hid (six_new w _ _ _ _ _ _ _)
  have hb0 := (Below.refl w.heap.size w).alloc (Nat.le_refl _) (.cells #[.int .i64 a.roots, .slice A1 n1 c1, .slice A2 n2 c2, .int .i64 a.edges, .slice A4 n4 c4, .slice A5 n5 c5] 31)
  obtain ⟨U, hU⟩ : ∃ U, w.alloc (.cells #[.int .i64 a.roots, .slice A1 n1 c1, .slice A2 n2 c2, .int .i64 a.edges, .slice A4 n4 c4, .slice A5 n5 c5] 31) = U := ⟨_, rfl⟩
  have hUz : U.heap.size = w.heap.size + 1 := by rw [← hU]; simp
  rw [hU] at HBa hb0
  have HBb : Hid (BoxAt (U.alloc (.cells #[.int .i64 b.roots, .slice B1 m1 d1, .slice B2 m2 d2, .int .i64 b.edges, .slice B4 m4 d4, .slice B5 m5 d5] 31)) U.heap.size 31 (.int .i64 b.roots) (.slice B1 m1 d1) (.slice B2 m2 d2) (.int .i64 b.edges) (.slice B4 m4 d4) (.slice B5 m5 d5)) := Lib.hid (six_new U _ _ _ _ _ _ _)
  have hb1 := (Below.refl U.heap.size U).alloc (Nat.le_refl _) (.cells #[.int .i64 b.roots, .slice B1 m1 d1, .slice B2 m2 d2, .int .i64 b.edges, .slice B4 m4 d4, .slice B5 m5 d5] 31)
  have HBa := Lib.hid (HBa.out.on hb1)
  obtain ⟨W, hW⟩ : ∃ W, U.alloc (.cells #[.int .i64 b.roots, .slice B1 m1 d1, .slice B2 m2 d2, .int .i64 b.edges, .slice B4 m4 d4, .slice B5 m5 d5] 31) = W := ⟨_, rfl⟩
  have hWz : W.heap.size = w.heap.size + 2 := by rw [← hW]; simp; omega
  rw [hW] at HBa HBb hb1
  rw [hUz] at HBb
  have HUq := Lib.hid hU
  have HWq := Lib.hid hW
  have HB0 := Lib.hid (hb0.trans (hb1.mono hb0.size))
  have HWz := Lib.hid hWz
  have ha1 : w.heap.size < W.heap.size := by omega
  have ha2 : w.heap.size + 1 < W.heap.size := by omega
  clear hU hW hb0 hb1 hUz hWz
  have hB0 := HB0.out
  have q5 : n5 ≤ 1048576 := by have := hSa.2.2.2.2.2.1; rw [h5.1] at this; exact this
  have q4 : m4 ≤ 1048576 := by have := hSb.2.2.2.1; rw [k4.strlen] at this; exact this
  have q2 : n2 ≤ 1048576 := by have := hSa.2.2.1; rw [h2.len] at this; exact this
  obtain ⟨R, hR⟩ : ∃ R, b.roots = R := ⟨_, rfl⟩
  have HF : Hid (fitB a b = (decide ((n2 : Int) = R) && decide (nms a.inner = b.outer))) := Lib.hid (by unfold fitB; rw [h2.len, hR])
  have HNl : Hid (((nms a.inner).map Value.string).length = n5) := Lib.hid (by rw [List.length_map]; unfold nms; rw [List.length_map]; exact h5.1)
  obtain ⟨r, hr⟩ : ∃ q, decide (nms a.inner = b.outer) = q := ⟨_, rfl⟩
  have HI := Lib.hid (fun (w2 : World) (hb2 : Below w.heap.size w w2) => innerN_any (.int .i64 a.roots) (.slice A1 n1 c1) (.slice A2 n2 c2) (.int .i64 a.edges) (.slice A4 n4 c4) A5 n5 c5 a.inner w w2 h5 hb2 q5)
  have HEq := Lib.hid (fun (A : Option Addr) (c : Nat) (w2 : World) (hs : SR w2 w2.heap.size A n5 ((nms a.inner).map Value.string)) (hb2 : Below w.heap.size w w2) => hr ▸ eqStr_any A n5 c (nms a.inner) B4 m4 d4 b.outer w2 _ _ hs (k4.below hb2) (Nat.le_refl _) hb2.size q5 q4)
  rw [hr] at HF
  rw [hR] at HBb HWq HGo
  obtain ⟨p, hp⟩ : ∃ p, (bigB cs a && bigB cs b) = p := ⟨_, rfl⟩
  rw [hp] at HGo
  rw [hR, HF.out, hp]
  clear hr hR hp hC hn hs hSa hwa hNa hSb hwb hNb
  obtain ⟨x0, x1, x2, x3, x4, x5⟩ := HBa.out.get
  obtain ⟨y0, y1, y2, y3, y4, y5⟩ := HBb.out.get
  cases p with
  | false =>
    go_enter Tryz.func64, Tryz.ntmps64
    go_wp2_with fail
    rw [HUq.out, HWq.out]
    go_wp2_with fail
    refine (HGo.out _ hB0).mono ?_
    rintro e w1 ⟨rfl, hb⟩
    have hB1 := hB0.trans (hb.mono hB0.size)
    have HTa := Lib.hid (HBa.out.on hb)
    have HTb := Lib.hid (HBb.out.on hb)
    clear x0 x1 x2 x3 x4 x5 y0 y1 y2 y3 y4 y5
    clear hb HBa HBb
    have HBa := Lib.hid HTa.out
    have HBb := Lib.hid HTb.out
    clear HTa HTb
    obtain ⟨x0, x1, x2, x3, x4, x5⟩ := HBa.out.get
    obtain ⟨y0, y1, y2, y3, y4, y5⟩ := HBb.out.get
    go_wp2_with fail
    go_ret2
    exact ⟨rfl, hB1⟩
  | true =>
    by_cases hE : (n2 : Int) = R
    · subst hE
      go_enter Tryz.func64, Tryz.ntmps64
      go_wp2_with fail
      rw [HUq.out, HWq.out]
      go_wp2_with fail
      refine (HGo.out _ hB0).mono ?_
      rintro e w1 ⟨rfl, hb⟩
      have hB1 := hB0.trans (hb.mono hB0.size)
      have HTa := Lib.hid (HBa.out.on hb)
      have HTb := Lib.hid (HBb.out.on hb)
      clear x0 x1 x2 x3 x4 x5 y0 y1 y2 y3 y4 y5
      clear hb HBa HBb
      have HBa := Lib.hid HTa.out
      have HBb := Lib.hid HTb.out
      clear HTa HTb
      obtain ⟨x0, x1, x2, x3, x4, x5⟩ := HBa.out.get
      obtain ⟨y0, y1, y2, y3, y4, y5⟩ := HBb.out.get
      go_wp2_with fail
      have hkD := (Below.refl w1.heap.size w1).drew
      go_region_held3 (fun w' => (w'.cell? ⟨w.heap.size, 0, none⟩ = some (.int .i64 a.roots) ∧ w'.cell? ⟨w.heap.size, 1, none⟩ = some (.slice A1 n1 c1) ∧ w'.cell? ⟨w.heap.size, 2, none⟩ = some (.slice A2 n2 c2) ∧ w'.cell? ⟨w.heap.size, 3, none⟩ = some (.int .i64 a.edges) ∧ w'.cell? ⟨w.heap.size, 4, none⟩ = some (.slice A4 n4 c4) ∧ w'.cell? ⟨w.heap.size, 5, none⟩ = some (.slice A5 n5 c5)) ∧ (w'.cell? ⟨w.heap.size + 1, 0, none⟩ = some (.int .i64 (n2 : Int)) ∧ w'.cell? ⟨w.heap.size + 1, 1, none⟩ = some (.slice B1 m1 d1) ∧ w'.cell? ⟨w.heap.size + 1, 2, none⟩ = some (.slice B2 m2 d2) ∧ w'.cell? ⟨w.heap.size + 1, 3, none⟩ = some (.int .i64 b.edges) ∧ w'.cell? ⟨w.heap.size + 1, 4, none⟩ = some (.slice B4 m4 d4) ∧ w'.cell? ⟨w.heap.size + 1, 5, none⟩ = some (.slice B5 m5 d5))) (first | exact ⟨(HBa.out.on hk3).get, (HBb.out.on hk3).get⟩ | exact ⟨(HBa.out.on hk2).get, (HBb.out.on hk2).get⟩ | exact ⟨(HBa.out.on hkD).get, (HBb.out.on hkD).get⟩)
        (first
         | (go_at_call 87; refine (HI.out _ (hB1.trans (hkD.mono hB1.size))).mono ?_; rintro e w2 ⟨v2, rfl, ho, hb2⟩; obtain ⟨g2, cap2, rfl, -, -, -, hs2⟩ := ho.at; rw [HNl.out] at hs2; rw [HNl.out]; have hk2 := hkD.trans (hb2.mono hkD.size))
         | (go_at_call 86; refine (HEq.out _ _ w2 hs2 (hB1.trans (hk2.mono hB1.size))).mono ?_; rintro e w3 ⟨rfl, hb3⟩; have hk3 := hk2.trans (hb3.mono hk2.size)))
      have hb9 := hB1.trans (hk3.mono hB1.size)
      clear hk3 hk2 hkD hb2 hb3 ho hs2
      go_wp2_with fail
      go_ret2
      exact ⟨by simp, hb9⟩
    · have hd : decide ((n2 : Int) = R) = false := decide_eq_false hE
      have hd2 : ((n2 : Int) == R) = false := hd
      go_enter Tryz.func64, Tryz.ntmps64
      go_wp2_with fail
      rw [HUq.out, HWq.out]
      go_wp2_with fail
      refine (HGo.out _ hB0).mono ?_
      rintro e w1 ⟨rfl, hb⟩
      have hB1 := hB0.trans (hb.mono hB0.size)
      have HTa := Lib.hid (HBa.out.on hb)
      have HTb := Lib.hid (HBb.out.on hb)
      clear x0 x1 x2 x3 x4 x5 y0 y1 y2 y3 y4 y5
      clear hb HBa HBb
      have HBa := Lib.hid HTa.out
      have HBb := Lib.hid HTb.out
      clear HTa HTb
      obtain ⟨x0, x1, x2, x3, x4, x5⟩ := HBa.out.get
      obtain ⟨y0, y1, y2, y3, y4, y5⟩ := HBb.out.get
      go_wp2_with fail
      go_quiet (fail)
      have hb9 := below_drewN hB1 nq
      clear x0 x1 x2 x3 x4 x5 y0 y1 y2 y3 y4 y5
      go_wp2_with fail
      go_ret2
      exact ⟨by rw [hd]; rfl, hb9⟩
end Go.Proofs.YtlpgldejmdiceabGreat.ft
