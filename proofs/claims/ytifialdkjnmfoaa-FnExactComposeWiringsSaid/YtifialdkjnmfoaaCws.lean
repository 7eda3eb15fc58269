/- ComposeWirings of spec. -/
import Derived.Test.YtifialdkjnmfoaaCw
import Derived.Handy
import Derived.Test.YtifialdkjnmfoaaRh
namespace Go.Proofs.Ytifialdkjnmfoaa.cws
open kit bg sg opn strs only hb sig isig un over gn nm inn ht gd im pt marks eqs hc hi hw hn rs br bm bw cf lf ib isa lawb lw cl pl mb sb wb rl ft gv kd abv tp cw
open Go.RowKit
set_option linter.unusedVariables false
set_option maxHeartbeats 1600000 in
theorem sameN_any (A : Option Addr) (n c : Nat) (xs : List ByteArray) (B : Option Addr) (m d : Nat) (ys : List ByteArray) (w : World) (L M : Nat) (h : SR w L A n (xs.map Value.string)) (h' : SR w M B m (ys.map Value.string)) (hL : L ≤ w.heap.size) (hM : M ≤ w.heap.size) (hn : n ≤ 1048576) (hm : m ≤ 1048576) :
    Calls Try.prog 138 #[.slice A n c, .slice B m d] w (Post (decide (xs = ys)) w) := by
  have HX := Lib.hid h.strlen
  have HY := Lib.hid h'.strlen
  go_enter Try.func138, Try.ntmps138
  go_wp2_with fail
  go_loopw [5] (fun i wr => ∃ k : Nat, k ≤ n ∧ k ≤ m ∧ i = .int .i64 k ∧ (∀ (j : Nat) x y, j < k → xs[j]? = some x → ys[j]? = some y → x = y) ∧ Dr w wr) (fun i _ => n - (intOf i).toNat)
  case atStart => exact ⟨0, Nat.zero_le _, Nat.zero_le _, rfl, fun j x y hj => absurd hj (Nat.not_lt_zero j), Dr.refl _⟩
  case round =>
    obtain ⟨k, hk, hkm, rfl, hall, hdr⟩ := hrel
    have HA := Lib.hid hall
    clear hall
    by_cases hlt : k < n
    · by_cases hltm : k < m
      · obtain ⟨b1, o1, x, rfl, hb1, hx, cx⟩ := h.str hlt
        obtain ⟨b2, o2, y, rfl, hb2, hy, cy⟩ := h'.str hltm
        have ex := (hdr.cell ⟨b1, o1 + k, none⟩).trans cx
        have ey := (hdr.cell ⟨b2, o2 + k, none⟩).trans cy
        have hbb1 : b1 < wr.heap.size := by rw [hdr.size]; omega
        have hbb2 : b2 < wr.heap.size := by rw [hdr.size]; omega
        have HXx := Lib.hid hx
        have HYy := Lib.hid hy
        clear hx hy cx cy
        cases he : (x.toList == y.toList) with
        | true =>
          have HE := Lib.hid (str_eq he)
          have he2 : (x.toList != y.toList) = false := by rw [bne, he]; rfl
          go_wp2_with fail
          go_quiet (fail)
          go_wp2_with fail
          go_roundw
          case rel => exact ⟨k + 1, by omega, by omega, by go_num, fun j x' y' hj hx' hy' => by
            by_cases e : j = k
            · subst e; rw [HXx.out] at hx'; rw [HYy.out] at hy'; injection hx' with e1; injection hy' with e2; rw [← e1, ← e2]; exact HE.out
            · exact HA.out j x' y' (by omega) hx' hy', hdr.more _⟩
          case measure => simp [intOf]; omega
        | false =>
          have HE := Lib.hid (str_ne he)
          have he2 : (x.toList != y.toList) = true := by rw [bne, he]; rfl
          have HN : Hid (decide (xs = ys) = false) := Lib.hid (decide_eq_false fun e => HE.out (by
            have h1 := HXx.out; rw [e, HYy.out] at h1; injection h1 with h1; exact h1.symm))
          go_wp2_with fail
          go_quiet (fail)
          go_wp2_with fail
          go_ret
          exact ⟨by rw [HN.out]; rfl, (hdr.more _).below _⟩
      · have HN : Hid (decide (xs = ys) = false) := Lib.hid (decide_eq_false fun e => by have := HX.out; have := HY.out; rw [e] at *; omega)
        have hne : ¬ (n : Int) = m := by omega
        go_wp2_with fail
        go_ret
        exact ⟨by rw [HN.out]; simp [hne], hdr.below _⟩
    · obtain rfl : k = n := by omega
      by_cases hkm2 : k = m
      · subst hkm2
        have HYs : Hid (decide (xs = ys) = true) := Lib.hid (decide_eq_true (by
          refine List.ext_getElem? (fun j => ?_)
          by_cases hj : j < k
          · have ex : xs[j]? = some (xs[j]'(by rw [HX.out]; exact hj)) := List.getElem?_eq_getElem _
            have ey : ys[j]? = some (ys[j]'(by rw [HY.out]; exact hj)) := List.getElem?_eq_getElem _
            rw [ex, ey, HA.out j _ _ hj ex ey]
          · rw [List.getElem?_eq_none (by rw [HX.out]; omega), List.getElem?_eq_none (by rw [HY.out]; omega)]))
        go_wp2_with fail
        go_ret
        exact ⟨by rw [HYs.out]; simp, hdr.below _⟩
      · have HN : Hid (decide (xs = ys) = false) := Lib.hid (decide_eq_false fun e => hkm2 (by rw [← HX.out, ← HY.out, e]))
        have hne : ¬ (k : Int) = m := by omega
        go_wp2_with fail
        go_ret
        exact ⟨by rw [HN.out]; simp [hne], hdr.below _⟩

/-- the result's box behind its outer names -/
def MadeO (U : World) (E : Int) (outer : List ByteArray) (n4 : Nat) (s8 : Value) (wx : World) : Prop :=
  ∃ β A4 c4, s8 = .pointer (some ⟨β, 0, none⟩) ∧ U.heap.size ≤ β ∧ BoxAt wx β 39 (.int .i64 0) (.slice none 0 0) (.slice none 0 0) (.int .i64 E) (.slice A4 n4 c4) (.slice none 0 0) ∧ RowR wx U.heap.size wx.heap.size 9 1 A4 n4 c4 (at_ outer) ∧ Below U.heap.size U wx
theorem madeO_early {U X : World} {E : Int} {outer : List ByteArray} {n4 β c4 : Nat} {g : Nat → Value} {A4 : Option Addr} (h : X.rowIs β 39 6 g) (hβ : U.heap.size ≤ β) (r4 : RowR X U.heap.size X.heap.size 9 1 A4 n4 c4 (at_ outer)) (hk : Below U.heap.size U X) :
    MadeO U E outer n4 (.pointer (some ⟨β, 0, none⟩)) ((((((X.setCell ⟨β, 0, none⟩ (.int .i64 0)).setCell ⟨β, 1, none⟩ (.slice none 0 0)).setCell ⟨β, 2, none⟩ (.slice none 0 0)).setCell ⟨β, 3, none⟩ (.int .i64 E)).setCell ⟨β, 4, none⟩ (.slice A4 n4 c4)).setCell ⟨β, 5, none⟩ (.slice none 0 0)) :=
  show MadeO U E outer n4 _ (sets6 X β (.int .i64 0) (.slice none 0 0) (.slice none 0 0) (.int .i64 E) (.slice A4 n4 c4) (.slice none 0 0)) from
  ⟨β, A4, c4, rfl, hβ, sets6_box h _ _ _ _ _ _, by rw [sets6_size]; exact row_sets6 h r4 (by decide) _ _ _ _ _ _, sets6_below hk hβ _ _ _ _ _ _⟩
theorem madeO_late {U X : World} {E : Int} {outer : List ByteArray} {n4 c4 : Nat} {A4 : Option Addr} (r4 : RowR X U.heap.size X.heap.size 9 1 A4 n4 c4 (at_ outer)) (hk : Below U.heap.size U X) :
    MadeO U E outer n4 (.pointer (some ⟨X.heap.size, 0, none⟩)) (X.alloc (.cells #[.int .i64 0, .slice none 0 0, .slice none 0 0, .int .i64 E, .slice A4 n4 c4, .slice none 0 0] 39)) := by
  have hX := (Below.refl X.heap.size X).alloc (Nat.le_refl _) (.cells #[.int .i64 0, .slice none 0 0, .slice none 0 0, .int .i64 E, .slice A4 n4 c4, .slice none 0 0] 39)
  exact ⟨X.heap.size, A4, c4, rfl, hk.size, six_new X _ _ _ _ _ _ _, rowR_here (r4.on hX), hk.alloc hk.size _⟩
theorem row_grown {w w' : World} {lo hi n c sz : Nat} {t : TypeId} {A : Option Addr} {M : Nat → Value} {r : Option Nat} (h : RowR w lo hi t sz A n c M) (hg : w.grownBy w' r) (hr : ∀ j, r = some j → hi ≤ j) : RowR w' lo hi t sz A n c M :=
  h.stay fun g f m _ hb _ h2 => hg.block g hb.lt (fun e => by have := hr g e.symm; omega)

theorem owned_strs2 {w : World} {lo n c : Nat} {A : Option Addr} {ss : List ByteArray} (h : w.ownsRow lo 9 1 (.slice A n c) n (ss.map Value.string)) (hl : ss.length = n) : RowR w lo w.heap.size 9 1 A n c (at_ ss) := by
  obtain ⟨A', c', hv, hr⟩ := strs_owned h
  injection hv with h1 h2 h3
  subst h1 h3
  rw [hl] at hr
  exact hr
theorem owns_on {w w' : World} {base sz n : Nat} {e : TypeId} {v : Value} {xs : List Value} (h : w.ownsRow base e sz v n xs) (hb : Below w.heap.size w w') : w'.ownsRow base e sz v n xs := by
  obtain ⟨h1, h2⟩ := h
  refine ⟨h1, h2.imp id ?_⟩
  rintro ⟨g, cap, cur, e1, hbb, hh, r⟩
  exact ⟨g, cap, cur, e1, hbb, (hb.block g (Array.getElem?_eq_some_iff.1 hh).1).trans hh, r⟩
theorem _root_.Go.Proofs.Ytifialdkjnmfoaa.cf.BoxAt.put5' {w : World} {β : Nat} {t : TypeId} {v0 v1 v2 v3 v4 v5 : Value} (h : BoxAt w β t v0 v1 v2 v3 v4 v5) (u : Value) : BoxAt (w.setCell ⟨β, 5, none⟩ u) β t v0 v1 v2 v3 v4 u := by
  have h6 : (w.setCell ⟨β, 5, none⟩ u).rowIs β t 6 _ := World.rowIs.set h 5 u
  unfold BoxAt
  refine h6.congr ?_
  intro i hi
  match i, hi with
  | 0, _ => rfl
  | 1, _ => rfl
  | 2, _ => rfl
  | 3, _ => rfl
  | 4, _ => rfl
  | 5, _ => rfl
theorem cells_two_new (w : World) (a b : Value) (t : TypeId) : ∀ (j : Nat) u, [a, b][j]? = some u → (w.alloc (.cells #[a, b] t)).cell? ((⟨w.heap.size, 0, none⟩ : Addr).add j) = some u := by
  have hr := row_new w #[a, b] t 2 rfl
  intro j u hu
  rw [cl.add_none]
  match j, hu with
  | 0, hu =>
    simp at hu
    subst hu
    exact (hr.cell (show 0 < 2 by omega) : _)
  | 1, hu =>
    simp at hu
    subst hu
    exact (hr.cell (show 1 < 2 by omega) : _)
  | j + 2, hu => simp at hu
theorem guard_world {P : Program} {ops : Array Oper} {o : Oper} {a : Act} {w : World} {K : Act → World → Prop} {Q : Exit → Act → World → Prop} {E : Prop} {base sz n : Nat} {e : TypeId} {v : Value} {xs : List Value} (_ : w.ownsRow base e sz v n xs)
    (k : if Region.wanted o (yielded ops a.tmps) = true then Oper.wp P o a w K Q else E) : if Region.wanted o (yielded ops a.tmps) = true then Oper.wp P o a w K Q else E := k
theorem drew_owns {w : World} {base sz n : Nat} {e : TypeId} {v : Value} {xs : List Value} (h : w.ownsRow base e sz v n xs) : w.drew.ownsRow base e sz v n xs := h
theorem nil_second (w : World) (e : TypeId) (sz : Nat) (o : Obj) : ((w.alloc o).alloc (.cells #[] e)).ownsRow w.heap.size e sz (.slice (some ⟨w.heap.size + 1, 0, none⟩) 0 0) 0 [] := by
  have := ownsRow_nil_new (w.alloc o) e sz w.heap.size (by rw [World.size_alloc]; omega)
  rw [World.size_alloc] at this
  exact this
set_option maxRecDepth 20000 in
set_option maxHeartbeats 25600000 in
theorem sCw_any (A : Option Addr) (n c : Nat) (cs : List Ctl) (va : Value) (a : Big) (vb : Value) (b : Big) (w : World) (hC : CtlsAt w w.heap.size A n cs) (hn : n ≤ 1048576) (hs : ∀ c ∈ cs, c.name.size ≤ 1048576) (hva : BigAt w w.heap.size va a) (hSa : BigS a) (hwa : BigW a) (hNa : NilV va) (hvb : BigAt w w.heap.size vb b) (hSb : BigS b) (hwb : BigW b) (hNb : NilV vb) :
    Calls Try.prog 67 #[.slice A n c, va, vb] w (BigPost (cwQ cs a b) (cwR cs a b) w) := by
  obtain ⟨A1, n1, c1, A2, n2, c2, A4, n4, c4, A5, n5, c5, rfl, h1, h2, h4, h5⟩ := hva
  obtain ⟨B1, m1, d1, B2, m2, d2, B4, m4, d4, B5, m5, d5, rfl, k1, k2, k4, k5⟩ := hvb
  have hnilA := hNa.get
  have HGa0 := Lib.hid (fun (w2 : World) (hb2 : Below w.heap.size w w2) => l2Good_any A n c cs (.agg #[.int .i64 a.roots, .slice A1 n1 c1, .slice A2 n2 c2, .int .i64 a.edges, .slice A4 n4 c4, .slice A5 n5 c5]) a w2 ((hC.below hb2).wide hb2.size) (BigAt.wide (BigAt.below ⟨_, _, _, _, _, _, _, _, _, _, _, _, rfl, h1, h2, h4, h5⟩ hb2) hb2.size) hn hs hSa hwa)
  have HGb0 := Lib.hid (fun (w2 : World) (hb2 : Below w.heap.size w w2) => l2Good_any A n c cs (.agg #[.int .i64 b.roots, .slice B1 m1 d1, .slice B2 m2 d2, .int .i64 b.edges, .slice B4 m4 d4, .slice B5 m5 d5]) b w2 ((hC.below hb2).wide hb2.size) (BigAt.wide (BigAt.below ⟨_, _, _, _, _, _, _, _, _, _, _, _, rfl, k1, k2, k4, k5⟩ hb2) hb2.size) hn hs hSb hwb)
  have HBa : Hid (BoxAt (w.alloc (.cells #[.int .i64 a.roots, .slice A1 n1 c1, .slice A2 n2 c2, .int .i64 a.edges, .slice A4 n4 c4, .slice A5 n5 c5] 39)) w.heap.size 39 (.int .i64 a.roots) (.slice A1 n1 c1) (.slice A2 n2 c2) (.int .i64 a.edges) (.slice A4 n4 c4) (.slice A5 n5 c5)) := Lib.hid (six_new w _ _ _ _ _ _ _)
  have hb0 := (Below.refl w.heap.size w).alloc (Nat.le_refl _) (.cells #[.int .i64 a.roots, .slice A1 n1 c1, .slice A2 n2 c2, .int .i64 a.edges, .slice A4 n4 c4, .slice A5 n5 c5] 39)
  obtain ⟨U, hU⟩ : ∃ U, w.alloc (.cells #[.int .i64 a.roots, .slice A1 n1 c1, .slice A2 n2 c2, .int .i64 a.edges, .slice A4 n4 c4, .slice A5 n5 c5] 39) = U := ⟨_, rfl⟩
  have hUz : U.heap.size = w.heap.size + 1 := by rw [← hU]; simp
  rw [hU] at HBa hb0
  have HBb : Hid (BoxAt (U.alloc (.cells #[.int .i64 b.roots, .slice B1 m1 d1, .slice B2 m2 d2, .int .i64 b.edges, .slice B4 m4 d4, .slice B5 m5 d5] 39)) U.heap.size 39 (.int .i64 b.roots) (.slice B1 m1 d1) (.slice B2 m2 d2) (.int .i64 b.edges) (.slice B4 m4 d4) (.slice B5 m5 d5)) := Lib.hid (six_new U _ _ _ _ _ _ _)
  have hb1 := (Below.refl U.heap.size U).alloc (Nat.le_refl _) (.cells #[.int .i64 b.roots, .slice B1 m1 d1, .slice B2 m2 d2, .int .i64 b.edges, .slice B4 m4 d4, .slice B5 m5 d5] 39)
  have HBa := Lib.hid (HBa.out.on hb1)
  obtain ⟨W, hW⟩ : ∃ W, U.alloc (.cells #[.int .i64 b.roots, .slice B1 m1 d1, .slice B2 m2 d2, .int .i64 b.edges, .slice B4 m4 d4, .slice B5 m5 d5] 39) = W := ⟨_, rfl⟩
  have hWz : W.heap.size = w.heap.size + 2 := by rw [← hW]; simp; omega
  rw [hW] at HBa HBb hb1
  rw [hUz] at HBb
  have HUq := Lib.hid hU
  have HWq := Lib.hid hW
  have HB0 := Lib.hid (hb0.trans (hb1.mono hb0.size))
  have HWz := Lib.hid hWz
  have ha1 : w.heap.size < W.heap.size := by omega
  have ha2 : w.heap.size + 1 < W.heap.size := by omega
  clear hU hW hb0 hb1 hUz hWz
  have hb3 := (Below.refl W.heap.size W).alloc (Nat.le_refl _) (.cells #[.int .i64 0, .slice none 0 0, .slice none 0 0, .int .i64 0, .slice none 0 0, .slice none 0 0] 39)
  have HBr : Hid (BoxAt (W.alloc (.cells #[.int .i64 0, .slice none 0 0, .slice none 0 0, .int .i64 0, .slice none 0 0, .slice none 0 0] 39)) W.heap.size 39 (.int .i64 0) (.slice none 0 0) (.slice none 0 0) (.int .i64 0) (.slice none 0 0) (.slice none 0 0)) := Lib.hid (six_new W _ _ _ _ _ _ _)
  have HTa := Lib.hid (HBa.out.on hb3)
  have HTb := Lib.hid (HBb.out.on hb3)
  obtain ⟨X, hX⟩ : ∃ X, W.alloc (.cells #[.int .i64 0, .slice none 0 0, .slice none 0 0, .int .i64 0, .slice none 0 0, .slice none 0 0] 39) = X := ⟨_, rfl⟩
  have hXz : X.heap.size = w.heap.size + 3 := by rw [← hX]; simp; exact HWz.out
  rw [hX] at HBr HTa HTb hb3
  rw [show W.heap.size = w.heap.size + 1 + 1 from HWz.out] at HBr
  have HXq := Lib.hid hX
  have hB0 := HB0.out.trans (hb3.mono HB0.out.size)
  have HXz := Lib.hid hXz
  have hx1 : w.heap.size < X.heap.size := by omega
  have hx2 : w.heap.size + 1 < X.heap.size := by omega
  have hx3 : w.heap.size + 2 < X.heap.size := by omega
  have hwβ : w.heap.size ≤ w.heap.size + 1 + 1 := by omega
  clear hX hXz hb3 HBa HBb ha1 ha2
  have HBa := Lib.hid HTa.out
  have HBb := Lib.hid HTb.out
  clear HTa HTb
  have q1 : n1 ≤ 1048576 := by have := hSa.1; rw [h1.1] at this; exact this
  have q2 : n2 ≤ 1048576 := by have := hSa.2.2.1; rw [h2.len] at this; exact this
  have q5 : n5 ≤ 1048576 := by have := hSa.2.2.2.2.2.1; rw [h5.1] at this; exact this
  have q4 : m4 ≤ 1048576 := by have := hSb.2.2.2.1; rw [k4.strlen] at this; exact this
  have r1 : m1 ≤ 1048576 := by have := hSb.1; rw [k1.1] at this; exact this
  have r2 : m2 ≤ 1048576 := by have := hSb.2.2.1; rw [k2.len] at this; exact this
  have r5 : m5 ≤ 1048576 := by have := hSb.2.2.2.2.2.1; rw [k5.1] at this; exact this
  have r4 : n4 ≤ 1048576 := by have := hSa.2.2.2.1; rw [h4.strlen] at this; exact this
  have HNl : Hid (((nms a.inner).map Value.string).length = n5) := Lib.hid (by rw [List.length_map]; unfold nms; rw [List.length_map]; exact h5.1)
  have HI := Lib.hid (fun (w2 : World) (hb2 : Below w.heap.size w w2) => l2Inner_any (.int .i64 a.roots) (.slice A1 n1 c1) (.slice A2 n2 c2) (.int .i64 a.edges) (.slice A4 n4 c4) A5 n5 c5 a.inner w w2 h5 hb2 q5)
  have HEq := Lib.hid (fun (A : Option Addr) (c : Nat) (w2 : World) (hs : SR w2 w2.heap.size A n5 ((nms a.inner).map Value.string)) (hb2 : Below w.heap.size w w2) => sameN_any A n5 c (nms a.inner) B4 m4 d4 b.outer w2 _ _ hs (k4.below hb2) (Nat.le_refl _) hb2.size q5 q4)
  have HLa := Lib.hid (fun (w2 : World) => sWir_leaf A1 A2 A4 A5 n1 n2 n4 n5 c1 c2 c4 c5 a.roots a.edges w2 q1 q2 r4 q5)
  have HLb := Lib.hid (fun (w2 : World) => sWir_leaf B1 B2 B4 B5 m1 m2 m4 m5 d1 d2 d4 d5 b.roots b.edges w2 r1 r2 q4 r5)
  rw [← ofB_at (Q := wirQ) h1.1 h2.len h4.strlen h5.1] at HLa
  rw [← ofB_at (Q := wirQ) k1.1 k2.len k4.strlen k5.1] at HLb
  obtain ⟨x0, x1, x2, x3, x4, x5⟩ := HBa.out.get
  obtain ⟨y0, y1, y2, y3, y4, y5⟩ := HBb.out.get
  cases hp1 : bigB cs a with
  | false =>
    rw [hp1] at HGa0
    have HE : Hid (cwB cs a b = false) := Lib.hid (by unfold cwB; rw [hp1]; simp)
    have HKa := Lib.hid (fun y : Over X => over_call (HGa0.out y.w (hB0.trans (y.below.mono hB0.size))))
    rw [(cwR_no HE.out).1, (cwR_no HE.out).2]
    clear hp1 hC hn hs hSa hwa hNa hSb hwb hNb
    go_enter Try.func67, Try.ntmps67
    go_wp2_with fail
    rw [HUq.out, HWq.out, HXq.out]
    go_wp2_with fail
    have z0 := Over.get x0 hx1
    have z1 := Over.get x1 hx1
    have z2 := Over.get x2 hx1
    have z3 := Over.get x3 hx1
    have z4 := Over.get x4 hx1
    have z5 := Over.get x5 hx1
    have t0 := Over.get y0 hx2
    have t1 := Over.get y1 hx2
    have t2 := Over.get y2 hx2
    have t3 := Over.get y3 hx2
    have t4 := Over.get y4 hx2
    have t5 := Over.get y5 hx2
    clear x0 x1 x2 x3 x4 x5 y0 y1 y2 y3 y4 y5
    refine wp_region_over (by kernel_rfl) (by kernel_rfl) ?_
    repeat (go_big_quiet_step (first | (go_at_call 73; with_reducible exact HKa.out _)))
    refine wpQuiet_nil ?_
    rintro _ ⟨y, rfl⟩
    have hy := y.below
    obtain ⟨w9, hw9⟩ : ∃ w9, y.w = w9 := ⟨_, rfl⟩
    rw [hw9] at hy ⊢
    clear hw9 z0 z1 z2 z3 z4 z5 t0 t1 t2 t3 t4 t5
    have hB9 := hB0.trans (hy.mono hB0.size)
    have HBr9 := Lib.hid (HBr.out.on hy)
    clear hy
    obtain ⟨z0, z1, z2, z3, z4, z5⟩ := HBr9.out.get
    have f0 := World.rowIs.frozen HBr9.out 0
    have f1 := World.rowIs.frozen HBr9.out 1
    have f2 := World.rowIs.frozen HBr9.out 2
    have f3 := World.rowIs.frozen HBr9.out 3
    have f4 := World.rowIs.frozen HBr9.out 4
    have f5 := World.rowIs.frozen HBr9.out 5
    go_wp2_with fail
    exact bodyPost_ret (v := .tuple #[.agg #[.int .i64 0, .slice none 0 0, .slice none 0 0, .int .i64 0, .slice none 0 0, .slice none 0 0], .bool false]) (by simp [results, Try.results67, go_sem, z0, z1, z2, z3, z4, z5]) rfl ⟨_, rfl, BigR.zero, sets6_below hB9 hwβ _ _ _ _ _ _⟩
  | true =>
    rw [hp1] at HGa0
    cases hp2 : bigB cs b with
    | false =>
      rw [hp2] at HGb0
      have HE : Hid (cwB cs a b = false) := Lib.hid (by unfold cwB; rw [hp1, hp2]; simp)
      have HKa := Lib.hid (fun y : Over X => over_call (HGa0.out y.w (hB0.trans (y.below.mono hB0.size))))
      have HKb := Lib.hid (fun y : Over X => over_call (HGb0.out y.w (hB0.trans (y.below.mono hB0.size))))
      rw [(cwR_no HE.out).1, (cwR_no HE.out).2]
      clear hp1 hp2 hC hn hs hSa hwa hNa hSb hwb hNb
      go_enter Try.func67, Try.ntmps67
      go_wp2_with fail
      rw [HUq.out, HWq.out, HXq.out]
      go_wp2_with fail
      have z0 := Over.get x0 hx1
      have z1 := Over.get x1 hx1
      have z2 := Over.get x2 hx1
      have z3 := Over.get x3 hx1
      have z4 := Over.get x4 hx1
      have z5 := Over.get x5 hx1
      have t0 := Over.get y0 hx2
      have t1 := Over.get y1 hx2
      have t2 := Over.get y2 hx2
      have t3 := Over.get y3 hx2
      have t4 := Over.get y4 hx2
      have t5 := Over.get y5 hx2
      clear x0 x1 x2 x3 x4 x5 y0 y1 y2 y3 y4 y5
      refine wp_region_over (by kernel_rfl) (by kernel_rfl) ?_
      repeat (go_big_quiet_step (first | (go_at_call 73; with_reducible exact HKa.out _) | (go_at_call 73; with_reducible exact HKb.out _)))
      refine wpQuiet_nil ?_
      rintro _ ⟨y, rfl⟩
      have hy := y.below
      obtain ⟨w9, hw9⟩ : ∃ w9, y.w = w9 := ⟨_, rfl⟩
      rw [hw9] at hy ⊢
      clear hw9 z0 z1 z2 z3 z4 z5 t0 t1 t2 t3 t4 t5
      have hB9 := hB0.trans (hy.mono hB0.size)
      have HBr9 := Lib.hid (HBr.out.on hy)
      clear hy
      obtain ⟨z0, z1, z2, z3, z4, z5⟩ := HBr9.out.get
      have f0 := World.rowIs.frozen HBr9.out 0
      have f1 := World.rowIs.frozen HBr9.out 1
      have f2 := World.rowIs.frozen HBr9.out 2
      have f3 := World.rowIs.frozen HBr9.out 3
      have f4 := World.rowIs.frozen HBr9.out 4
      have f5 := World.rowIs.frozen HBr9.out 5
      go_wp2_with fail
      exact bodyPost_ret (v := .tuple #[.agg #[.int .i64 0, .slice none 0 0, .slice none 0 0, .int .i64 0, .slice none 0 0, .slice none 0 0], .bool false]) (by simp [results, Try.results67, go_sem, z0, z1, z2, z3, z4, z5]) rfl ⟨_, rfl, BigR.zero, sets6_below hB9 hwβ _ _ _ _ _ _⟩
    | true =>
      rw [hp2] at HGb0
      cases hp3 : ofB wirQ a with
      | false =>
        rw [hp3] at HLa
        have HE : Hid (cwB cs a b = false) := Lib.hid (by unfold cwB; rw [hp1, hp2, hp3]; simp)
        have HKa := Lib.hid (fun y : Over X => over_call (HGa0.out y.w (hB0.trans (y.below.mono hB0.size))))
        have HKb := Lib.hid (fun y : Over X => over_call (HGb0.out y.w (hB0.trans (y.below.mono hB0.size))))
        have HKc := Lib.hid (fun y : Over X => over_call (HLa.out y.w))
        rw [(cwR_no HE.out).1, (cwR_no HE.out).2]
        clear hp1 hp2 hp3 hC hn hs hSa hwa hNa hSb hwb hNb
        go_enter Try.func67, Try.ntmps67
        go_wp2_with fail
        rw [HUq.out, HWq.out, HXq.out]
        go_wp2_with fail
        have z0 := Over.get x0 hx1
        have z1 := Over.get x1 hx1
        have z2 := Over.get x2 hx1
        have z3 := Over.get x3 hx1
        have z4 := Over.get x4 hx1
        have z5 := Over.get x5 hx1
        have t0 := Over.get y0 hx2
        have t1 := Over.get y1 hx2
        have t2 := Over.get y2 hx2
        have t3 := Over.get y3 hx2
        have t4 := Over.get y4 hx2
        have t5 := Over.get y5 hx2
        clear x0 x1 x2 x3 x4 x5 y0 y1 y2 y3 y4 y5
        refine wp_region_over (by kernel_rfl) (by kernel_rfl) ?_
        repeat (go_big_quiet_step (first | (go_at_call 73; with_reducible exact HKa.out _) | (go_at_call 73; with_reducible exact HKb.out _) | (go_at_call 137; with_reducible exact HKc.out _)))
        refine wpQuiet_nil ?_
        rintro _ ⟨y, rfl⟩
        have hy := y.below
        obtain ⟨w9, hw9⟩ : ∃ w9, y.w = w9 := ⟨_, rfl⟩
        rw [hw9] at hy ⊢
        clear hw9 z0 z1 z2 z3 z4 z5 t0 t1 t2 t3 t4 t5
        have hB9 := hB0.trans (hy.mono hB0.size)
        have HBr9 := Lib.hid (HBr.out.on hy)
        clear hy
        obtain ⟨z0, z1, z2, z3, z4, z5⟩ := HBr9.out.get
        have f0 := World.rowIs.frozen HBr9.out 0
        have f1 := World.rowIs.frozen HBr9.out 1
        have f2 := World.rowIs.frozen HBr9.out 2
        have f3 := World.rowIs.frozen HBr9.out 3
        have f4 := World.rowIs.frozen HBr9.out 4
        have f5 := World.rowIs.frozen HBr9.out 5
        go_wp2_with fail
        exact bodyPost_ret (v := .tuple #[.agg #[.int .i64 0, .slice none 0 0, .slice none 0 0, .int .i64 0, .slice none 0 0, .slice none 0 0], .bool false]) (by simp [results, Try.results67, go_sem, z0, z1, z2, z3, z4, z5]) rfl ⟨_, rfl, BigR.zero, sets6_below hB9 hwβ _ _ _ _ _ _⟩
      | true =>
        rw [hp3] at HLa
        cases hp4 : ofB wirQ b with
        | false =>
          rw [hp4] at HLb
          have HE : Hid (cwB cs a b = false) := Lib.hid (by unfold cwB; rw [hp1, hp2, hp3, hp4]; simp)
          have HKa := Lib.hid (fun y : Over X => over_call (HGa0.out y.w (hB0.trans (y.below.mono hB0.size))))
          have HKb := Lib.hid (fun y : Over X => over_call (HGb0.out y.w (hB0.trans (y.below.mono hB0.size))))
          have HKc := Lib.hid (fun y : Over X => over_call (HLa.out y.w))
          have HKd := Lib.hid (fun y : Over X => over_call (HLb.out y.w))
          rw [(cwR_no HE.out).1, (cwR_no HE.out).2]
          clear hp1 hp2 hp3 hp4 hC hn hs hSa hwa hNa hSb hwb hNb
          go_enter Try.func67, Try.ntmps67
          go_wp2_with fail
          rw [HUq.out, HWq.out, HXq.out]
          go_wp2_with fail
          have z0 := Over.get x0 hx1
          have z1 := Over.get x1 hx1
          have z2 := Over.get x2 hx1
          have z3 := Over.get x3 hx1
          have z4 := Over.get x4 hx1
          have z5 := Over.get x5 hx1
          have t0 := Over.get y0 hx2
          have t1 := Over.get y1 hx2
          have t2 := Over.get y2 hx2
          have t3 := Over.get y3 hx2
          have t4 := Over.get y4 hx2
          have t5 := Over.get y5 hx2
          clear x0 x1 x2 x3 x4 x5 y0 y1 y2 y3 y4 y5
          refine wp_region_over (by kernel_rfl) (by kernel_rfl) ?_
          repeat (go_big_quiet_step (first | (go_at_call 73; with_reducible exact HKa.out _) | (go_at_call 73; with_reducible exact HKb.out _) | (go_at_call 137; with_reducible exact HKc.out _) | (go_at_call 137; with_reducible exact HKd.out _)))
          refine wpQuiet_nil ?_
          rintro _ ⟨y, rfl⟩
          have hy := y.below
          obtain ⟨w9, hw9⟩ : ∃ w9, y.w = w9 := ⟨_, rfl⟩
          rw [hw9] at hy ⊢
          clear hw9 z0 z1 z2 z3 z4 z5 t0 t1 t2 t3 t4 t5
          have hB9 := hB0.trans (hy.mono hB0.size)
          have HBr9 := Lib.hid (HBr.out.on hy)
          clear hy
          obtain ⟨z0, z1, z2, z3, z4, z5⟩ := HBr9.out.get
          have f0 := World.rowIs.frozen HBr9.out 0
          have f1 := World.rowIs.frozen HBr9.out 1
          have f2 := World.rowIs.frozen HBr9.out 2
          have f3 := World.rowIs.frozen HBr9.out 3
          have f4 := World.rowIs.frozen HBr9.out 4
          have f5 := World.rowIs.frozen HBr9.out 5
          go_wp2_with fail
          exact bodyPost_ret (v := .tuple #[.agg #[.int .i64 0, .slice none 0 0, .slice none 0 0, .int .i64 0, .slice none 0 0, .slice none 0 0], .bool false]) (by simp [results, Try.results67, go_sem, z0, z1, z2, z3, z4, z5]) rfl ⟨_, rfl, BigR.zero, sets6_below hB9 hwβ _ _ _ _ _ _⟩
        | true =>
          rw [hp4] at HLb
          have HD : Hid (cwB cs a b = decide (nms a.inner = b.outer)) := Lib.hid (by unfold cwB; rw [hp1, hp2, hp3, hp4]; rfl)
          cases hq : decide (nms a.inner = b.outer) with
          | false =>
            rw [hq] at HEq HD
            have HE := Lib.hid HD.out
            rw [(cwR_no HE.out).1, (cwR_no HE.out).2]
            clear hq hp1 hp2 hp3 hp4 hC hn hs hSa hwa hNa hSb hwb hNb HD
            go_enter Try.func67, Try.ntmps67
            go_wp2_with fail
            rw [HUq.out, HWq.out, HXq.out]
            go_wp2_with fail
            have hkD := (Below.refl X.heap.size X).drew
            go_region_held3 (fun w' => (w'.cell? ⟨w.heap.size, 0, none⟩ = some (.int .i64 a.roots) ∧ w'.cell? ⟨w.heap.size, 1, none⟩ = some (.slice A1 n1 c1) ∧ w'.cell? ⟨w.heap.size, 2, none⟩ = some (.slice A2 n2 c2) ∧ w'.cell? ⟨w.heap.size, 3, none⟩ = some (.int .i64 a.edges) ∧ w'.cell? ⟨w.heap.size, 4, none⟩ = some (.slice A4 n4 c4) ∧ w'.cell? ⟨w.heap.size, 5, none⟩ = some (.slice A5 n5 c5)) ∧ (w'.cell? ⟨w.heap.size + 1, 0, none⟩ = some (.int .i64 b.roots) ∧ w'.cell? ⟨w.heap.size + 1, 1, none⟩ = some (.slice B1 m1 d1) ∧ w'.cell? ⟨w.heap.size + 1, 2, none⟩ = some (.slice B2 m2 d2) ∧ w'.cell? ⟨w.heap.size + 1, 3, none⟩ = some (.int .i64 b.edges) ∧ w'.cell? ⟨w.heap.size + 1, 4, none⟩ = some (.slice B4 m4 d4) ∧ w'.cell? ⟨w.heap.size + 1, 5, none⟩ = some (.slice B5 m5 d5))) (first | exact ⟨(HBa.out.on hk6).get, (HBb.out.on hk6).get⟩ | exact ⟨(HBa.out.on hk5).get, (HBb.out.on hk5).get⟩ | exact ⟨(HBa.out.on hk4).get, (HBb.out.on hk4).get⟩ | exact ⟨(HBa.out.on hk3).get, (HBb.out.on hk3).get⟩ | exact ⟨(HBa.out.on hk2).get, (HBb.out.on hk2).get⟩ | exact ⟨(HBa.out.on hk1).get, (HBb.out.on hk1).get⟩ | exact ⟨(HBa.out.on hkD).get, (HBb.out.on hkD).get⟩)
              (first
               | (go_at_call 138; refine (HEq.out _ _ w5 hs5 (hB0.trans (hk5.mono hB0.size))).mono ?_; rintro e w6 ⟨rfl, hb6⟩; have hk6 := hk5.trans (hb6.mono hk5.size))
               | (go_at_call 139; refine (HI.out _ (hB0.trans (hk4.mono hB0.size))).mono ?_; rintro e w5 ⟨v5, rfl, ho, hb5⟩; obtain ⟨g5, cap5, rfl, -, -, -, hs5⟩ := ho.at; rw [HNl.out] at hs5; rw [HNl.out]; have hk5 := hk4.trans (hb5.mono hk4.size))
               | (go_at_call 137; refine (HLb.out w3).mono ?_; rintro e w4 ⟨rfl, hb4⟩; have hk4 := hk3.trans (hb4.mono hk3.size))
               | (go_at_call 137; refine (HLa.out w2).mono ?_; rintro e w3 ⟨rfl, hb3⟩; have hk3 := hk2.trans (hb3.mono hk2.size))
               | (go_at_call 73; refine (HGb0.out _ (hB0.trans (hk1.mono hB0.size))).mono ?_; rintro e w2 ⟨rfl, hb2⟩; have hk2 := hk1.trans (hb2.mono hk1.size))
               | (go_at_call 73; refine (HGa0.out _ (hB0.trans (hkD.mono hB0.size))).mono ?_; rintro e w1 ⟨rfl, hb1⟩; have hk1 := hkD.trans (hb1.mono hkD.size)))
            have hB9 := hB0.trans (hk6.mono hB0.size)
            have hX9 := hk6.size
            have HBr9 := Lib.hid (HBr.out.on hk6)
            have HBa9 := Lib.hid (HBa.out.on hk6)
            have HBb9 := Lib.hid (HBb.out.on hk6)
            obtain ⟨w9, hw9⟩ : ∃ x, w6 = x := ⟨_, rfl⟩
            rw [hw9] at hB9 HBr9 HBa9 HBb9 hX9 ⊢
            clear hk1 hk2 hk3 hk4 hk5 hk6 hkD hb1 hb2 hb3 hb4 hb5 hb6 ho hs5 hw9 x0 x1 x2 x3 x4 x5 y0 y1 y2 y3 y4 y5
            obtain ⟨z0, z1, z2, z3, z4, z5⟩ := HBr9.out.get
            have f0 := World.rowIs.frozen HBr9.out 0
            have f1 := World.rowIs.frozen HBr9.out 1
            have f2 := World.rowIs.frozen HBr9.out 2
            have f3 := World.rowIs.frozen HBr9.out 3
            have f4 := World.rowIs.frozen HBr9.out 4
            have f5 := World.rowIs.frozen HBr9.out 5
            go_wp2_with fail
            exact bodyPost_ret (v := .tuple #[.agg #[.int .i64 0, .slice none 0 0, .slice none 0 0, .int .i64 0, .slice none 0 0, .slice none 0 0], .bool false]) (by simp [results, Try.results67, go_sem, z0, z1, z2, z3, z4, z5]) rfl ⟨_, rfl, BigR.zero, sets6_below hB9 hwβ _ _ _ _ _ _⟩
          | true =>
            rw [hq] at HEq HD
            rw [(cwR_yes HD.out).1, (cwR_yes HD.out).2]
            have HNm := Lib.hid (of_decide_eq_true hq)
            have HGa := Lib.hid hp1
            have HGb := Lib.hid hp2
            have HWb2 := Lib.hid hp4
            clear hq hp1 hp2 hp3 hp4
            go_enter Try.func67, Try.ntmps67
            go_wp2_with fail
            rw [HUq.out, HWq.out, HXq.out]
            go_wp2_with fail
            have hkD := (Below.refl X.heap.size X).drew
            go_region_held3 (fun w' => (w'.cell? ⟨w.heap.size, 0, none⟩ = some (.int .i64 a.roots) ∧ w'.cell? ⟨w.heap.size, 1, none⟩ = some (.slice A1 n1 c1) ∧ w'.cell? ⟨w.heap.size, 2, none⟩ = some (.slice A2 n2 c2) ∧ w'.cell? ⟨w.heap.size, 3, none⟩ = some (.int .i64 a.edges) ∧ w'.cell? ⟨w.heap.size, 4, none⟩ = some (.slice A4 n4 c4) ∧ w'.cell? ⟨w.heap.size, 5, none⟩ = some (.slice A5 n5 c5)) ∧ (w'.cell? ⟨w.heap.size + 1, 0, none⟩ = some (.int .i64 b.roots) ∧ w'.cell? ⟨w.heap.size + 1, 1, none⟩ = some (.slice B1 m1 d1) ∧ w'.cell? ⟨w.heap.size + 1, 2, none⟩ = some (.slice B2 m2 d2) ∧ w'.cell? ⟨w.heap.size + 1, 3, none⟩ = some (.int .i64 b.edges) ∧ w'.cell? ⟨w.heap.size + 1, 4, none⟩ = some (.slice B4 m4 d4) ∧ w'.cell? ⟨w.heap.size + 1, 5, none⟩ = some (.slice B5 m5 d5))) (first | exact ⟨(HBa.out.on hk6).get, (HBb.out.on hk6).get⟩ | exact ⟨(HBa.out.on hk5).get, (HBb.out.on hk5).get⟩ | exact ⟨(HBa.out.on hk4).get, (HBb.out.on hk4).get⟩ | exact ⟨(HBa.out.on hk3).get, (HBb.out.on hk3).get⟩ | exact ⟨(HBa.out.on hk2).get, (HBb.out.on hk2).get⟩ | exact ⟨(HBa.out.on hk1).get, (HBb.out.on hk1).get⟩ | exact ⟨(HBa.out.on hkD).get, (HBb.out.on hkD).get⟩)
              (first
               | (go_at_call 138; refine (HEq.out _ _ w5 hs5 (hB0.trans (hk5.mono hB0.size))).mono ?_; rintro e w6 ⟨rfl, hb6⟩; have hk6 := hk5.trans (hb6.mono hk5.size))
               | (go_at_call 139; refine (HI.out _ (hB0.trans (hk4.mono hB0.size))).mono ?_; rintro e w5 ⟨v5, rfl, ho, hb5⟩; obtain ⟨g5, cap5, rfl, -, -, -, hs5⟩ := ho.at; rw [HNl.out] at hs5; rw [HNl.out]; have hk5 := hk4.trans (hb5.mono hk4.size))
               | (go_at_call 137; refine (HLb.out w3).mono ?_; rintro e w4 ⟨rfl, hb4⟩; have hk4 := hk3.trans (hb4.mono hk3.size))
               | (go_at_call 137; refine (HLa.out w2).mono ?_; rintro e w3 ⟨rfl, hb3⟩; have hk3 := hk2.trans (hb3.mono hk2.size))
               | (go_at_call 73; refine (HGb0.out _ (hB0.trans (hk1.mono hB0.size))).mono ?_; rintro e w2 ⟨rfl, hb2⟩; have hk2 := hk1.trans (hb2.mono hk1.size))
               | (go_at_call 73; refine (HGa0.out _ (hB0.trans (hkD.mono hB0.size))).mono ?_; rintro e w1 ⟨rfl, hb1⟩; have hk1 := hkD.trans (hb1.mono hkD.size)))
            have hB9 := hB0.trans (hk6.mono hB0.size)
            have hX9 := hk6.size
            have HBr9 := Lib.hid (HBr.out.on hk6)
            have HBa9 := Lib.hid (HBa.out.on hk6)
            have HBb9 := Lib.hid (HBb.out.on hk6)
            obtain ⟨w9, hw9⟩ : ∃ x, w6 = x := ⟨_, rfl⟩
            rw [hw9] at hB9 HBr9 HBa9 HBb9 hX9 ⊢
            clear hk1 hk2 hk3 hk4 hk5 hk6 hkD hb1 hb2 hb3 hb4 hb5 hb6 ho hs5 hw9 x0 x1 x2 x3 x4 x5 y0 y1 y2 y3 y4 y5
            obtain ⟨i0, hi, hz0, hz1, hz2⟩ := info_parts str_info
            have HI0 := Lib.hid (And.intro hi (And.intro hz0 (And.intro hz1 hz2)))
            obtain ⟨j0, hj, hy0, hy1, hy2⟩ := info_parts wire_info
            have HJ0 := Lib.hid (And.intro hj (And.intro hy0 (And.intro hy1 hy2)))
            have HL4 := Lib.hid h4.strlen
            have za := (sizes_of (big_of HGa.out).2.1).2.1
            have zb := (sizes_of (big_of HGb.out).2.1).2.1
            have zz := (sizes_of (big_of HGa.out).2.1).2.2.2.2
            have hn4 : n4 ≤ 16 := by have := HL4.out; omega
            have hsum : IntKind.i64.wrap (a.edges + b.edges) = a.edges + b.edges := IntWalk.i64_in _ (by omega)
            have HZ4 := Lib.hid (fun e : A4 = none => And.intro (sr_zero h4 e) (hnilA.2.2.1 e))
            have e1 : 0 + n4 ≤ maxLen := by unfold maxLen; omega
            have e2 : (0 + n4) * 16 ≤ 140737488355328 := by omega
            have e5 : ∀ u ∈ a.outer.map Value.string, u.oneCell' = true := fun u hu => by obtain ⟨s, _, rfl⟩ := List.mem_map.1 hu; rfl
            have e6 : (a.outer.map Value.string).length = n4 * 1 := by rw [List.length_map, HL4.out, Nat.mul_one]
            have hleZ : w9.heap.size ≤ (w9.alloc (.cells #[.int .i64 0, .slice none 0 0, .slice none 0 0, .int .i64 0, .slice none 0 0, .slice none 0 0] 39)).heap.size := by rw [World.size_alloc]; omega
            have hleB : w9.heap.size ≤ (w9.alloc (.cells #[] 9)).heap.size := by rw [World.size_alloc]; omega
            have HO1 := Lib.hid (drew_owns (ownsRow_nil_new w9 9 1 w9.heap.size (Nat.le_refl _)))
            have HO2 := Lib.hid (drew_owns (nil_second w9 9 1 (.cells #[.int .i64 0, .slice none 0 0, .slice none 0 0, .int .i64 0, .slice none 0 0, .slice none 0 0] 39)))
            have HO3 := Lib.hid (drew_owns ((ownsRow_nil_new w9 9 1 w9.heap.size (Nat.le_refl _)).alloc (.cells #[.int .i64 0, .slice none 0 0, .slice none 0 0, .int .i64 0, .slice none 0 0, .slice none 0 0] 39)))
            have HZ2 : Hid (BoxAt ((w9.alloc (.cells #[.int .i64 0, .slice none 0 0, .slice none 0 0, .int .i64 0, .slice none 0 0, .slice none 0 0] 39)).alloc (.cells #[] 9)).drew w9.heap.size 39 (.int .i64 0) (.slice none 0 0) (.slice none 0 0) (.int .i64 0) (.slice none 0 0) (.slice none 0 0)) := Lib.hid (by
              have h : BoxAt (w9.alloc (.cells #[.int .i64 0, .slice none 0 0, .slice none 0 0, .int .i64 0, .slice none 0 0, .slice none 0 0] 39)) w9.heap.size 39 (.int .i64 0) (.slice none 0 0) (.slice none 0 0) (.int .i64 0) (.slice none 0 0) (.slice none 0 0) := six_new w9 _ _ _ _ _ _ _
              exact (h.on ((Below.refl _ _).alloc (Nat.le_refl _) (.cells #[] 9))).on (Below.refl _ _).drew)
            have HZ3 : Hid (BoxAt ((w9.alloc (.cells #[] 9)).alloc (.cells #[.int .i64 0, .slice none 0 0, .slice none 0 0, .int .i64 0, .slice none 0 0, .slice none 0 0] 39)).drew (w9.heap.size + 1) 39 (.int .i64 0) (.slice none 0 0) (.slice none 0 0) (.int .i64 0) (.slice none 0 0) (.slice none 0 0)) := Lib.hid (by
              have h : BoxAt _ _ _ _ _ _ _ _ _ := six_new (w9.alloc (.cells #[] 9)) (.int .i64 0) (.slice none 0 0) (.slice none 0 0) (.int .i64 0) (.slice none 0 0) (.slice none 0 0) 39
              rw [World.size_alloc] at h
              exact h.on (Below.refl _ _).drew)
            have hne2 : some w9.heap.size ≠ (Value.slice (some ⟨w9.heap.size + 1, 0, none⟩) 0 0).ownBlock := by simp [Value.ownBlock]
            have hne3 : some (w9.heap.size + 1) ≠ (Value.slice (some ⟨w9.heap.size, 0, none⟩) 0 0).ownBlock := by simp [Value.ownBlock]
            have hβ2 : w9.heap.size ≤ w9.heap.size := Nat.le_refl _
            have hβ3 : w9.heap.size ≤ w9.heap.size + 1 := Nat.le_succ _
            obtain ⟨x0, x1, x2, x3, x4, x5⟩ := HBa9.out.get
            obtain ⟨y0, y1, y2, y3, y4, y5⟩ := HBb9.out.get
            clear hi hz0 hz1 hz2 hj hy0 hy1 hy2
            go_wp2_with fail
            go_cut [8] from 39 to 48 (fun s8 wx => MadeO w9 (a.edges + b.edges) a.outer n4 s8 wx)
            case first =>
              have hkD := (Below.refl w9.heap.size w9).drew
              go_region_held3 (fun w' => (w'.cell? ⟨w.heap.size, 0, none⟩ = some (.int .i64 a.roots) ∧ w'.cell? ⟨w.heap.size, 1, none⟩ = some (.slice A1 n1 c1) ∧ w'.cell? ⟨w.heap.size, 2, none⟩ = some (.slice A2 n2 c2) ∧ w'.cell? ⟨w.heap.size, 3, none⟩ = some (.int .i64 a.edges) ∧ w'.cell? ⟨w.heap.size, 4, none⟩ = some (.slice A4 n4 c4) ∧ w'.cell? ⟨w.heap.size, 5, none⟩ = some (.slice A5 n5 c5)) ∧ (w'.cell? ⟨w.heap.size + 1, 0, none⟩ = some (.int .i64 b.roots) ∧ w'.cell? ⟨w.heap.size + 1, 1, none⟩ = some (.slice B1 m1 d1) ∧ w'.cell? ⟨w.heap.size + 1, 2, none⟩ = some (.slice B2 m2 d2) ∧ w'.cell? ⟨w.heap.size + 1, 3, none⟩ = some (.int .i64 b.edges) ∧ w'.cell? ⟨w.heap.size + 1, 4, none⟩ = some (.slice B4 m4 d4) ∧ w'.cell? ⟨w.heap.size + 1, 5, none⟩ = some (.slice B5 m5 d5))) (first | with_reducible exact ⟨(HBa9.out.on (((((((hkZ).setCell hβ _).setCell hβ _).setCell hβ _).setCell hβ _).setCell hβ _).setCell hβ _)).get, (HBb9.out.on (((((((hkZ).setCell hβ _).setCell hβ _).setCell hβ _).setCell hβ _).setCell hβ _).setCell hβ _)).get⟩ | with_reducible exact ⟨(HBa9.out.on (((((((hkZ.alloc hkZ.size _).setCell hkZ.size _).setCell hkZ.size _).setCell hkZ.size _).setCell hkZ.size _).setCell hkZ.size _).setCell hkZ.size _)).get, (HBb9.out.on (((((((hkZ.alloc hkZ.size _).setCell hkZ.size _).setCell hkZ.size _).setCell hkZ.size _).setCell hkZ.size _).setCell hkZ.size _).setCell hkZ.size _)).get⟩ | with_reducible exact ⟨(HBa9.out.on hkZ).get, (HBb9.out.on hkZ).get⟩ | with_reducible exact ⟨(HBa9.out.on (hkZ.alloc hkZ.size _)).get, (HBb9.out.on (hkZ.alloc hkZ.size _)).get⟩ | with_reducible exact ⟨(HBa9.out.on ((Below.refl w9.heap.size w9).alloc (Nat.le_refl _) _).drew).get, (HBb9.out.on ((Below.refl w9.heap.size w9).alloc (Nat.le_refl _) _).drew).get⟩ | with_reducible exact ⟨(HBa9.out.on (((Below.refl w9.heap.size w9).alloc (Nat.le_refl _) _).alloc hleZ _).drew).get, (HBb9.out.on (((Below.refl w9.heap.size w9).alloc (Nat.le_refl _) _).alloc hleZ _).drew).get⟩ | with_reducible exact ⟨(HBa9.out.on (((Below.refl w9.heap.size w9).alloc (Nat.le_refl _) _).alloc hleB _).drew).get, (HBb9.out.on (((Below.refl w9.heap.size w9).alloc (Nat.le_refl _) _).alloc hleB _).drew).get⟩ | with_reducible exact ⟨(HBa9.out.on hkD).get, (HBb9.out.on hkD).get⟩)
                (first
                 | ((with_reducible refine guard_world HO2.out ?_); refine step_append_src rfl _ _ 25 rfl w9.heap.size 9 i0 (.string ⟨#[]⟩) 1 16 Try.underlying25 HI0.out.1 HI0.out.2.1 HI0.out.2.2.1 HI0.out.2.2.2 rfl (by decide) _ _ _ (by first | rfl | simp [Act.eval, Act.put]) HO2.out A4 n4 c4 (a.outer.map Value.string) (by first | rfl | simp [Act.eval, Act.put]) HZ4.out e6 (sr_src (h4.below (hB9.trans (((((Below.refl w9.heap.size w9).alloc (Nat.le_refl _) (.cells #[.int .i64 0, .slice none 0 0, .slice none 0 0, .int .i64 0, .slice none 0 0, .slice none 0 0] 39)).alloc hleZ (.cells #[] 9)).drew).mono hB9.size)))) e5 e1 e2 (((((Below.refl w9.heap.size w9).alloc (Nat.le_refl _) (.cells #[.int .i64 0, .slice none 0 0, .slice none 0 0, .int .i64 0, .slice none 0 0, .slice none 0 0] 39)).alloc hleZ (.cells #[] 9)).drew)).size ?_; intro v1 w10 hown1 hgrow1; have hkZ := (((((Below.refl w9.heap.size w9).alloc (Nat.le_refl _) (.cells #[.int .i64 0, .slice none 0 0, .slice none 0 0, .int .i64 0, .slice none 0 0, .slice none 0 0] 39)).alloc hleZ (.cells #[] 9)).drew)).grown hgrow1 (((((Below.refl w9.heap.size w9).alloc (Nat.le_refl _) (.cells #[.int .i64 0, .slice none 0 0, .slice none 0 0, .int .i64 0, .slice none 0 0, .slice none 0 0] 39)).alloc hleZ (.cells #[] 9)).drew)).size (fun j hj => ((HO2.out).lt j hj).1); rw [Nat.zero_add, List.nil_append] at hown1; obtain ⟨A4o, c4o, rfl, -⟩ := rowR_owns hown1; have hr4 := owned_strs2 hown1 HL4.out; have hβ := hβ2; have hrow : World.rowIs w10 _ _ 6 _ := BoxAt.kept HZ2.out hgrow1 hne2; obtain ⟨z0, z1, z2, z3, z4, z5⟩ := row6 hrow; have f0 := World.rowIs.frozen hrow 0; have f1 := World.rowIs.frozen hrow 1; have f2 := World.rowIs.frozen hrow 2; have f3 := World.rowIs.frozen hrow 3; have f4 := World.rowIs.frozen hrow 4; have f5 := World.rowIs.frozen hrow 5; clear hown1 hgrow1)
                 | ((with_reducible refine guard_world HO3.out ?_); refine step_append_src rfl _ _ 25 rfl w9.heap.size 9 i0 (.string ⟨#[]⟩) 1 16 Try.underlying25 HI0.out.1 HI0.out.2.1 HI0.out.2.2.1 HI0.out.2.2.2 rfl (by decide) _ _ _ (by first | rfl | simp [Act.eval, Act.put]) HO3.out A4 n4 c4 (a.outer.map Value.string) (by first | rfl | simp [Act.eval, Act.put]) HZ4.out e6 (sr_src (h4.below (hB9.trans (((((Below.refl w9.heap.size w9).alloc (Nat.le_refl _) (.cells #[] 9)).alloc hleB (.cells #[.int .i64 0, .slice none 0 0, .slice none 0 0, .int .i64 0, .slice none 0 0, .slice none 0 0] 39)).drew).mono hB9.size)))) e5 e1 e2 (((((Below.refl w9.heap.size w9).alloc (Nat.le_refl _) (.cells #[] 9)).alloc hleB (.cells #[.int .i64 0, .slice none 0 0, .slice none 0 0, .int .i64 0, .slice none 0 0, .slice none 0 0] 39)).drew)).size ?_; intro v1 w10 hown1 hgrow1; have hkZ := (((((Below.refl w9.heap.size w9).alloc (Nat.le_refl _) (.cells #[] 9)).alloc hleB (.cells #[.int .i64 0, .slice none 0 0, .slice none 0 0, .int .i64 0, .slice none 0 0, .slice none 0 0] 39)).drew)).grown hgrow1 (((((Below.refl w9.heap.size w9).alloc (Nat.le_refl _) (.cells #[] 9)).alloc hleB (.cells #[.int .i64 0, .slice none 0 0, .slice none 0 0, .int .i64 0, .slice none 0 0, .slice none 0 0] 39)).drew)).size (fun j hj => ((HO3.out).lt j hj).1); rw [Nat.zero_add, List.nil_append] at hown1; obtain ⟨A4o, c4o, rfl, -⟩ := rowR_owns hown1; have hr4 := owned_strs2 hown1 HL4.out; have hβ := hβ3; have hrow : World.rowIs w10 _ _ 6 _ := BoxAt.kept HZ3.out hgrow1 hne3; obtain ⟨z0, z1, z2, z3, z4, z5⟩ := row6 hrow; have f0 := World.rowIs.frozen hrow 0; have f1 := World.rowIs.frozen hrow 1; have f2 := World.rowIs.frozen hrow 2; have f3 := World.rowIs.frozen hrow 3; have f4 := World.rowIs.frozen hrow 4; have f5 := World.rowIs.frozen hrow 5; clear hown1 hgrow1)
                 | ((with_reducible refine guard_world HO1.out ?_); refine step_append_src rfl _ _ 25 rfl w9.heap.size 9 i0 (.string ⟨#[]⟩) 1 16 Try.underlying25 HI0.out.1 HI0.out.2.1 HI0.out.2.2.1 HI0.out.2.2.2 rfl (by decide) _ _ _ (by first | rfl | simp [Act.eval, Act.put]) HO1.out A4 n4 c4 (a.outer.map Value.string) (by first | rfl | simp [Act.eval, Act.put]) HZ4.out e6 (sr_src (h4.below (hB9.trans ((((Below.refl w9.heap.size w9).alloc (Nat.le_refl _) (.cells #[] 9)).drew).mono hB9.size)))) e5 e1 e2 ((((Below.refl w9.heap.size w9).alloc (Nat.le_refl _) (.cells #[] 9)).drew)).size ?_; intro v1 w10 hown1 hgrow1; have hkZ := ((((Below.refl w9.heap.size w9).alloc (Nat.le_refl _) (.cells #[] 9)).drew)).grown hgrow1 ((((Below.refl w9.heap.size w9).alloc (Nat.le_refl _) (.cells #[] 9)).drew)).size (fun j hj => ((HO1.out).lt j hj).1); rw [Nat.zero_add, List.nil_append] at hown1; obtain ⟨A4o, c4o, rfl, -⟩ := rowR_owns hown1; have hr4 := owned_strs2 hown1 HL4.out; clear hown1 hgrow1))
              all_goals (go_wp2_with fail; go_meet)
              all_goals (first | with_reducible exact madeO_late hr4 hkZ | with_reducible exact madeO_early hrow hβ hr4 hkZ)
            case rest =>
              clear x0 x1 x2 x3 x4 x5 y0 y1 y2 y3 y4 y5
              obtain ⟨W1, hwc⟩ : ∃ x, wc = x := ⟨_, rfl⟩
              rw [hwc] at hcut ⊢
              clear hwc
              obtain ⟨β, A4o, c4o, rfl, hβ, hbox, hr4, hb⟩ := hcut
              have HBo1 := Lib.hid hbox
              have HR41 := Lib.hid hr4
              have HBa1 := Lib.hid (HBa9.out.on hb)
              have HBb1 := Lib.hid (HBb9.out.on hb)
              have HBr1 := Lib.hid (HBr9.out.on hb)
              have HB1 := Lib.hid (hB9.trans (hb.mono hB9.size))
              have hX1 : w.heap.size + 3 ≤ w9.heap.size := by rw [← HXz.out]; exact hX9
              have hβ1 : β < W1.heap.size := World.rowIs.lt hbox
              have HS9 := Lib.hid hb.size
              obtain ⟨IN, hIN⟩ : ∃ IN : List Wr, b.inner.map (fun x => (⟨x.name, thr a b x.link⟩ : Wr)) = IN := ⟨_, rfl⟩
              have HIN := Lib.hid hIN
              have hINl : IN.length = m5 := by rw [← hIN, List.length_map]; exact k5.1
              have HINl := Lib.hid hINl
              have zbn := (sizes_of (big_of HGb.out).2.1).2.2.2.2.2
              have hm5 : m5 ≤ 16 := by have := k5.1; omega
              have hlen := nms_length HNm.out
              have l5 := h5.1
              have HCT := Lib.hid (fun (l : Int) (w2 : World) (hb2 : Below w.heap.size w w2) (hl : linkB b l = true) => thrS_any A5 n5 c5 (.int .i64 a.roots) (.slice A1 n1 c1) (.slice A2 n2 c2) (.slice A4 n4 c4) (.int .i64 b.roots) (.slice B1 m1 d1) (.slice B2 m2 d2) (.slice B4 m4 d4) (.slice B5 m5 d5) a b l w w2 h5 hb2 za zb ⟨(link_in hl).1, by have := link_in hl; omega⟩ (by have := (sizes_of (big_of HGa.out).2.1).2.2.2.2.2; omega) (fun x hx => by have := link_in (inner_link HGa.out hx); have := (sizes_of (big_of HGa.out).2.1).2.2.2.2.1; omega))
              clear hbox hr4 hb hINl hIN l5 hlen
              go_wp2_with fail
              go_loopw [9] (fun i wr => ∃ (k : Nat) (v : Value), k ≤ m5 ∧ i = .int .i64 k ∧ wr.ownsRow W1.heap.size 87 2 v k (wcs (IN.take k)) ∧ BoxAt wr β 39 (.int .i64 0) (.slice none 0 0) (.slice none 0 0) (.int .i64 (a.edges + b.edges)) (.slice A4o n4 c4o) v ∧ RowR wr w9.heap.size W1.heap.size 9 1 A4o n4 c4o (at_ a.outer) ∧ BoxAt wr (w.heap.size + 1 + 1) 39 (.int .i64 0) (.slice none 0 0) (.slice none 0 0) (.int .i64 0) (.slice none 0 0) (.slice none 0 0) ∧ BoxAt wr w.heap.size 39 (.int .i64 a.roots) (.slice A1 n1 c1) (.slice A2 n2 c2) (.int .i64 a.edges) (.slice A4 n4 c4) (.slice A5 n5 c5) ∧ BoxAt wr (w.heap.size + 1) 39 (.int .i64 b.roots) (.slice B1 m1 d1) (.slice B2 m2 d2) (.int .i64 b.edges) (.slice B4 m4 d4) (.slice B5 m5 d5) ∧ Below w.heap.size w wr ∧ W1.heap.size ≤ wr.heap.size) (fun i _ => m5 - (intOf i).toNat)
              case atStart => exact ⟨0, .slice none 0 0, Nat.zero_le _, rfl, World.ownsRow_nil _ _ _ _, HBo1.out, HR41.out, HBr1.out, HBa1.out, HBb1.out, HB1.out, Nat.le_refl _⟩
              case round =>
                obtain ⟨k, v, hk, rfl, hown, hbo, hrs, hbr, hba, hbb, hB, hsz⟩ := hrel
                obtain ⟨y0, y1, y2, y3, y4, y5⟩ := hbo.get
                obtain ⟨x0, x1, x2, x3, x4, x5⟩ := hba.get
                obtain ⟨t0, t1, t2, t3, t4, t5⟩ := hbb.get
                by_cases hlt : k < m5
                · obtain ⟨bs, off, z, rfl, hbs, hx, c0', c1'⟩ := k5.get hlt
                  have hbsw : bs < wr.heap.size := Nat.lt_of_lt_of_le hbs hB.size
                  have p0 := (hB.cell (p := ⟨bs, off + k * 2, none⟩) hbs).trans c0'
                  have p1 := (hB.cell (p := ⟨bs, off + k * 2 + 1, none⟩) hbs).trans c1'
                  have hTk : IN.take (k + 1) = IN.take k ++ [⟨z.name, thr a b z.link⟩] := take_snoc (by rw [← HIN.out, List.getElem?_map, hx]; rfl)
                  obtain ⟨T, hT⟩ : ∃ T, thr a b z.link = T := ⟨_, rfl⟩
                  have hlz := inner_link HGb.out (List.mem_of_getElem? hx)
                  have CT := fun w2 hb2 => hT ▸ HCT.out z.link w2 hb2 hlz
                  rw [hT] at hTk
                  obtain ⟨D, hD⟩ : ∃ D, wcs (IN.take k) = D := ⟨_, rfl⟩
                  rw [hD] at hown
                  have HD : Hid (wcs (IN.take (k + 1)) = D ++ [.string z.name, .int .i64 T]) := Lib.hid (by rw [hTk, wcs_snoc, hD])
                  have HO := Lib.hid hown
                  have HBo' := Lib.hid hbo
                  have HRs' := Lib.hid hrs
                  have HBr' := Lib.hid hbr
                  have HBa' := Lib.hid hba
                  have HBb' := Lib.hid hbb
                  have HB' := Lib.hid hB
                  have g1 : k + 1 ≤ maxLen := by unfold maxLen; omega
                  have g2 : (k + 1) * 24 ≤ 140737488355328 := by omega
                  have g4 : ∀ u ∈ [Value.string z.name, Value.int .i64 T], u.oneCell' = true := fun u hu => by
                    simp at hu
                    rcases hu with rfl | rfl <;> rfl
                  have n1' : some β ≠ v.ownBlock := fun e => by have := (hown.lt _ e.symm).1; omega
                  have n2' : some (w.heap.size + 1 + 1) ≠ v.ownBlock := fun e => by have := (hown.lt _ e.symm).1; have := HS9.out; omega
                  have n3' : some w.heap.size ≠ v.ownBlock := fun e => by have := (hown.lt _ e.symm).1; have := HS9.out; omega
                  have n4' : some (w.heap.size + 1) ≠ v.ownBlock := fun e => by have := (hown.lt _ e.symm).1; have := HS9.out; omega
                  have n5' : ∀ j, v.ownBlock = some j → W1.heap.size ≤ j := fun j e => (hown.lt j e).1
                  have n6' : ∀ j, v.ownBlock = some j → w.heap.size ≤ j := fun j e => by have := (hown.lt j e).1; have := HS9.out; omega
                  have b1 : w.heap.size + 1 + 1 ≠ β := by omega
                  have b2 : w.heap.size ≠ β := by omega
                  have b3 : w.heap.size + 1 ≠ β := by omega
                  have b4 : w.heap.size ≤ β := by omega
                  clear hTk hT hD hx c0' c1' hown hbo hbr hba hbb hB hrs
                  go_wp2_with fail
                  have hkD := (Below.refl wr.heap.size wr).drew
                  have hbs1 : bs ≠ β := by omega
                  have HP0 := Lib.hid p0
                  have HP1 := Lib.hid p1
                  have hq0 : W1.heap.size ≤ wr.heap.size := hsz
                  have hqD := hkD.mono hq0
                  have hqw : w.heap.size + 3 ≤ W1.heap.size := by have := HS9.out; omega
                  have HS : Hid (∀ w', Below W1.heap.size wr w' → (((w'.cell? ⟨w.heap.size, 0, none⟩ = some (.int .i64 a.roots) ∧ w'.cell? ⟨w.heap.size, 1, none⟩ = some (.slice A1 n1 c1) ∧ w'.cell? ⟨w.heap.size, 2, none⟩ = some (.slice A2 n2 c2) ∧ w'.cell? ⟨w.heap.size, 3, none⟩ = some (.int .i64 a.edges) ∧ w'.cell? ⟨w.heap.size, 4, none⟩ = some (.slice A4 n4 c4) ∧ w'.cell? ⟨w.heap.size, 5, none⟩ = some (.slice A5 n5 c5)) ∧ (w'.cell? ⟨w.heap.size + 1, 0, none⟩ = some (.int .i64 b.roots) ∧ w'.cell? ⟨w.heap.size + 1, 1, none⟩ = some (.slice B1 m1 d1) ∧ w'.cell? ⟨w.heap.size + 1, 2, none⟩ = some (.slice B2 m2 d2) ∧ w'.cell? ⟨w.heap.size + 1, 3, none⟩ = some (.int .i64 b.edges) ∧ w'.cell? ⟨w.heap.size + 1, 4, none⟩ = some (.slice B4 m4 d4) ∧ w'.cell? ⟨w.heap.size + 1, 5, none⟩ = some (.slice (some ⟨bs, off, none⟩) m5 d5))) ∧ (w'.cell? ⟨bs, off + k * 2, none⟩ = some (.string z.name) ∧ w'.cell? ⟨bs, off + k * 2 + 1, none⟩ = some (.int .i64 z.link)) ∧ w'.cell? ⟨β, 5, none⟩ = some v)) := Lib.hid (fun w' hq => ⟨⟨(HBa'.out.below hq (by omega)).get, (HBb'.out.below hq (by omega)).get⟩, ⟨(hq.cell (p := ⟨bs, off + k * 2, none⟩) (by dsimp only; omega)).trans HP0.out, (hq.cell (p := ⟨bs, off + k * 2 + 1, none⟩) (by dsimp only; omega)).trans HP1.out⟩, (HBo'.out.below hq hβ1).get.2.2.2.2.2⟩)
                  refine rh.go_begin 21 (fun w' => (((w'.cell? ⟨w.heap.size, 0, none⟩ = some (.int .i64 a.roots) ∧ w'.cell? ⟨w.heap.size, 1, none⟩ = some (.slice A1 n1 c1) ∧ w'.cell? ⟨w.heap.size, 2, none⟩ = some (.slice A2 n2 c2) ∧ w'.cell? ⟨w.heap.size, 3, none⟩ = some (.int .i64 a.edges) ∧ w'.cell? ⟨w.heap.size, 4, none⟩ = some (.slice A4 n4 c4) ∧ w'.cell? ⟨w.heap.size, 5, none⟩ = some (.slice A5 n5 c5)) ∧ (w'.cell? ⟨w.heap.size + 1, 0, none⟩ = some (.int .i64 b.roots) ∧ w'.cell? ⟨w.heap.size + 1, 1, none⟩ = some (.slice B1 m1 d1) ∧ w'.cell? ⟨w.heap.size + 1, 2, none⟩ = some (.slice B2 m2 d2) ∧ w'.cell? ⟨w.heap.size + 1, 3, none⟩ = some (.int .i64 b.edges) ∧ w'.cell? ⟨w.heap.size + 1, 4, none⟩ = some (.slice B4 m4 d4) ∧ w'.cell? ⟨w.heap.size + 1, 5, none⟩ = some (.slice (some ⟨bs, off, none⟩) m5 d5))) ∧ (w'.cell? ⟨bs, off + k * 2, none⟩ = some (.string z.name) ∧ w'.cell? ⟨bs, off + k * 2 + 1, none⟩ = some (.int .i64 z.link)) ∧ w'.cell? ⟨β, 5, none⟩ = some v)) (by kernel_rfl) ?_ (fun hHeld => ?_)
                  · ((try dsimp only); exact HS.out _ (by go_grown))
                  refine rh.go_take (i := 0) (v := ?v1) rfl (by kernel_rfl) (fun _ _ _ h => h) (Or.inl ⟨by rfl, ?hy1⟩) (by assumption) ?rest1
                  case hy1 => (intro wS hSw; (try dsimp only at hSw); go_simp; try (with_reducible rfl))
                  try simp only [Act.put, List.setIfInBounds_toArray, List.set_cons_zero, List.set_cons_succ]
                  refine rh.go_take (i := 1) (v := ?v2) rfl (by kernel_rfl) (fun _ _ _ h => h) (Or.inl ⟨by rfl, ?hy2⟩) (by assumption) ?rest2
                  case hy2 => (intro wS hSw; (try dsimp only at hSw); go_simp; try (with_reducible rfl))
                  try simp only [Act.put, List.setIfInBounds_toArray, List.set_cons_zero, List.set_cons_succ]
                  refine rh.go_take (i := 2) (v := ?v3) rfl (by kernel_rfl) (fun _ _ _ h => h) (Or.inl ⟨by rfl, ?hy3⟩) (by assumption) ?rest3
                  case hy3 => (intro wS hSw; (try dsimp only at hSw); go_simp; try (with_reducible rfl))
                  try simp only [Act.put, List.setIfInBounds_toArray, List.set_cons_zero, List.set_cons_succ]
                  refine rh.go_take (i := 3) (v := ?v4) rfl (by kernel_rfl) (fun _ _ _ h => h) (Or.inl ⟨by rfl, ?hy4⟩) (by assumption) ?rest4
                  case hy4 => (intro wS hSw; (try dsimp only at hSw); go_simp; try (with_reducible rfl))
                  try simp only [Act.put, List.setIfInBounds_toArray, List.set_cons_zero, List.set_cons_succ]
                  refine rh.go_take (i := 4) (v := ?v5) rfl (by kernel_rfl) (fun _ _ _ h => h) (Or.inl ⟨by rfl, ?hy5⟩) (by assumption) ?rest5
                  case hy5 => (intro wS hSw; (try dsimp only at hSw); go_simp; try (with_reducible rfl))
                  try simp only [Act.put, List.setIfInBounds_toArray, List.set_cons_zero, List.set_cons_succ]
                  refine rh.go_take (i := 5) (v := ?v6) rfl (by kernel_rfl) (fun _ _ _ h => h) (Or.inl ⟨by rfl, ?hy6⟩) (by assumption) ?rest6
                  case hy6 => (intro wS hSw; (try dsimp only at hSw); go_simp; try (with_reducible rfl))
                  try simp only [Act.put, List.setIfInBounds_toArray, List.set_cons_zero, List.set_cons_succ]
                  refine rh.go_take (i := 6) (v := ?v7) rfl (by kernel_rfl) (fun _ _ _ h => h) (Or.inl ⟨by rfl, ?hy7⟩) (by assumption) ?rest7
                  case hy7 => (intro wS hSw; (try dsimp only at hSw); go_simp; try (with_reducible rfl))
                  try simp only [Act.put, List.setIfInBounds_toArray, List.set_cons_zero, List.set_cons_succ]
                  refine rh.go_take (i := 7) (v := ?v8) rfl (by kernel_rfl) (fun _ _ _ h => h) (Or.inl ⟨by rfl, ?hy8⟩) (by assumption) ?rest8
                  case hy8 => (intro wS hSw; (try dsimp only at hSw); go_simp; try (with_reducible rfl))
                  try simp only [Act.put, List.setIfInBounds_toArray, List.set_cons_zero, List.set_cons_succ]
                  refine rh.go_take (i := 8) (v := ?v9) rfl (by kernel_rfl) (fun _ _ _ h => h) (Or.inl ⟨by rfl, ?hy9⟩) (by assumption) ?rest9
                  case hy9 => (intro wS hSw; (try dsimp only at hSw); go_simp; try (with_reducible rfl))
                  try simp only [Act.put, List.setIfInBounds_toArray, List.set_cons_zero, List.set_cons_succ]
                  refine rh.go_take (i := 9) (v := ?v10) rfl (by kernel_rfl) (fun _ _ _ h => h) (Or.inl ⟨by rfl, ?hy10⟩) (by assumption) ?rest10
                  case hy10 => (intro wS hSw; (try dsimp only at hSw); go_simp; try (with_reducible rfl))
                  try simp only [Act.put, List.setIfInBounds_toArray, List.set_cons_zero, List.set_cons_succ]
                  refine rh.go_take (i := 10) (v := ?v11) rfl (by kernel_rfl) (fun _ _ _ h => h) (Or.inl ⟨by rfl, ?hy11⟩) (by assumption) ?rest11
                  case hy11 => (intro wS hSw; (try dsimp only at hSw); go_simp; try (with_reducible rfl))
                  try simp only [Act.put, List.setIfInBounds_toArray, List.set_cons_zero, List.set_cons_succ]
                  refine rh.go_take (i := 11) (v := ?v12) rfl (by kernel_rfl) (fun _ _ _ h => h) (Or.inl ⟨by rfl, ?hy12⟩) (by assumption) ?rest12
                  case hy12 => (intro wS hSw; (try dsimp only at hSw); go_simp; try (with_reducible rfl))
                  try simp only [Act.put, List.setIfInBounds_toArray, List.set_cons_zero, List.set_cons_succ]
                  refine rh.go_take (i := 12) (v := ?v13) rfl (by kernel_rfl) (fun _ _ _ h => h) (Or.inl ⟨by rfl, ?hy13⟩) (by assumption) ?rest13
                  case hy13 => (intro wS hSw; (try dsimp only at hSw); go_simp; try (with_reducible rfl))
                  try simp only [Act.put, List.setIfInBounds_toArray, List.set_cons_zero, List.set_cons_succ]
                  refine rh.go_take (i := 13) (v := ?v14) rfl (by kernel_rfl) (fun _ _ _ h => h) (Or.inl ⟨by rfl, ?hy14⟩) (by assumption) ?rest14
                  case hy14 => (intro wS hSw; (try dsimp only at hSw); go_simp; try (with_reducible rfl))
                  try simp only [Act.put, List.setIfInBounds_toArray, List.set_cons_zero, List.set_cons_succ]
                  refine rh.go_take (i := 14) (v := ?v15) rfl (by kernel_rfl) (fun _ _ _ h => h) (Or.inl ⟨by rfl, ?hy15⟩) (by assumption) ?rest15
                  case hy15 => (intro wS hSw; (try dsimp only at hSw); go_simp; try (with_reducible rfl))
                  try simp only [Act.put, List.setIfInBounds_toArray, List.set_cons_zero, List.set_cons_succ]
                  refine rh.go_take (i := 15) (v := ?v16) rfl (by kernel_rfl) (fun _ _ _ h => h) (Or.inl ⟨by rfl, ?hy16⟩) (by assumption) ?rest16
                  case hy16 => (intro wS hSw; (try dsimp only at hSw); go_simp; try (with_reducible rfl))
                  try simp only [Act.put, List.setIfInBounds_toArray, List.set_cons_zero, List.set_cons_succ]
                  refine rh.go_next (i := 16) rfl (by kernel_rfl) (fun K2 hK => ?_)
                  (go_simp; go_at_call 140; refine (CT _ HB'.out.drew).mono ?_; rintro e w2 ⟨rfl, hb2⟩; have hk2 := hkD.trans (hb2.mono hkD.size); have hq2 := hk2.mono hq0; have hqs := Nat.le_trans hq0 hk2.size; have hkA := hk2.alloc hk2.size (.cells #[.string z.name, .int .i64 T] 87); have HOA := Lib.hid (owns_on HO.out hkA); have HBoA := Lib.hid (HBo'.out.on hkA); have HBrA := Lib.hid (HBr'.out.on hkA); have HBaA := Lib.hid (HBa'.out.on hkA); have HBbA := Lib.hid (HBb'.out.on hkA); have HRsA := Lib.hid (HRs'.out.on hkA); have HBA := Lib.hid (HB'.out.trans (hkA.mono HB'.out.size)); have e3 := Nat.le_trans hsz hkA.size; have HbA := Lib.hid (Nat.le_trans hsz hkA.size); clear y0 y1 y2 y3 y4 y5; obtain ⟨y0, y1, y2, y3, y4, y5⟩ := (HBo'.out.on hk2).get; have p0' := (hk2.cell (p := ⟨bs, off + k * 2, none⟩) hbsw).trans HP0.out; obtain ⟨s0, s1, s2, s3, s4, s5⟩ := HBoA.out.get; clear hb2 hkA)
                  refine hK.out _ _ ?_ (fun hHeld => ?_)
                  · ((try dsimp only); exact HS.out _ (by go_grown))
                  clear hK K2
                  try simp only [Act.put, List.setIfInBounds_toArray, List.set_cons_zero, List.set_cons_succ]
                  refine rh.go_take (i := 17) (v := ?v17) rfl (by kernel_rfl) (fun _ _ _ h => h) (Or.inl ⟨by rfl, ?hy17⟩) (by assumption) ?rest17
                  case hy17 => (intro wS hSw; (try dsimp only at hSw); go_simp; try (with_reducible rfl))
                  try simp only [Act.put, List.setIfInBounds_toArray, List.set_cons_zero, List.set_cons_succ]
                  refine rh.go_next (i := 18) rfl (by kernel_rfl) (fun K2 hK => ?_)
                  go_simp
                  refine hK.out _ _ ?_ (fun hHeld => ?_)
                  · ((try dsimp only); exact HS.out _ (by go_grown))
                  clear hK K2
                  try simp only [Act.put, List.setIfInBounds_toArray, List.set_cons_zero, List.set_cons_succ]
                  refine rh.go_next (i := 19) rfl (by kernel_rfl) (fun K2 hK => ?_)
                  (refine step_append_own rfl _ _ 37 rfl W1.heap.size 87 j0 (.agg #[.string ⟨#[]⟩, .int .i64 0]) 2 24 Try.underlying37 HJ0.out.1 HJ0.out.2.1 HJ0.out.2.2.1 HJ0.out.2.2.2 rfl (by decide) _ _ _ (by first | rfl | simp [Act.eval, Act.put]) HOA.out ⟨w2.heap.size, 0, none⟩ 1 1 [.string z.name, .int .i64 T] (by first | rfl | simp [Act.eval, Act.put]) rfl (cells_two_new w2 (.string z.name) (.int .i64 T) 87) g4 g1 g2 e3 ?_; intro v1 w3 hown1 hgrow1 hnil1; obtain ⟨A1', c1', rfl, -⟩ := rowR_owns hown1; have HGr := Lib.hid hgrow1; have hq3 := (hq2.alloc hqs (.cells #[.string z.name, .int .i64 T] 87)).grown hgrow1 (by simp; omega) (fun j hj => by have := n5' j hj; omega); have hqs3 := hq3.size; have HOw3 := Lib.hid hown1; have HBo3 := Lib.hid (HBoA.out.kept hgrow1 n1'); have HBa3 := Lib.hid (HBaA.out.kept hgrow1 n3'); have HBb3 := Lib.hid (HBbA.out.kept hgrow1 n4'); clear hgrow1 hnil1 hown1 y0 y1 y2 y3 y4 y5; obtain ⟨y0, y1, y2, y3, y4, y5⟩ := HBo3.out.get; have g5 := World.rowIs.frozen HBo3.out 5; (try go_simp))
                  refine hK.out _ _ ?_ (fun hHeld => ?_)
                  · ((try dsimp only); exact HS.out _ (by go_grown))
                  clear hK K2
                  try simp only [Act.put, List.setIfInBounds_toArray, List.set_cons_zero, List.set_cons_succ]
                  refine rh.go_take (i := 20) (v := ?v18) rfl (by kernel_rfl) (fun _ _ _ h => h) (Or.inl ⟨by rfl, ?hy18⟩) (by assumption) ?rest18
                  case hy18 => (intro wS hSw; (try dsimp only at hSw); go_simp; try (with_reducible rfl))
                  try simp only [Act.put, List.setIfInBounds_toArray, List.set_cons_zero, List.set_cons_succ]
                  refine rh.go_last rfl (by kernel_rfl) (fun K2 hK => ?_)
                  go_simp
                  refine hK.out _ _ ?_
                  refine NoPanic.normal ?_
                  clear hK K2
                  all_goals (go_wp2_with fail)
                  all_goals (go_roundw)
                  all_goals (first | (exact ⟨k + 1, _, by omega, by go_num, by rw [HD.out]; exact owns_set HOw3.out hβ1, HBo3.out.put5' _, row_set_box (row_grown HRsA.out HGr.out n5') HBo3.out (by decide), (HBrA.out.kept HGr.out n2').else_ b1 _, (HBaA.out.kept HGr.out n3').else_ b2 _, (HBbA.out.kept HGr.out n4').else_ b3 _, (HBA.out.grown HGr.out HBA.out.size n6').setCell (p := ⟨β, 5, none⟩) b4 _, by have := HbA.out; have := HGr.out.size; simp [World.setCell] at *; omega⟩) | (simp [intOf]; omega))
                · obtain rfl : k = m5 := by omega
                  rw [List.take_of_length_le (by rw [HINl.out]; exact Nat.le_refl _)] at hown
                  obtain ⟨A5o, c5o, rfl, hrow⟩ := wrs_owned hown
                  have HBig := Lib.hid (wiring_big (E := a.edges + b.edges) (strs_row HL4.out ((rowR_here hrs).wide (lo' := w.heap.size) hB9.size (Nat.le_refl _))) (hrow.wide (lo' := w.heap.size) (by have := HS9.out; omega) (Nat.le_refl _)))
                  rw [HINl.out, HL4.out] at HBig
                  rw [HINl.out] at y5
                  have HBr2 := Lib.hid hbr
                  have HB2 := Lib.hid hB
                  have HGv := Lib.hid (give_any A n c cs _ (cwC a b) w wr hC hB hn hs (by show BigR _ _ _ _ ⟨0, [], [], a.edges + b.edges, a.outer, b.inner.map (fun x => (⟨x.name, thr a b x.link⟩ : Wr))⟩; rw [HIN.out]; exact HBig.out) (cwC_S HGa.out HGb.out hSa hSb) (cwC_W HGa.out HGb.out hwa hwb))
                  clear hown hrow hbo hB hbr hba hbb hrs x0 x1 x2 x3 x4 x5 hC hn hs hSa hwa hNa hSb hwb hNb
                  go_wp2_with fail
                  clear t0 t1 t2 t3 t4 t5
                  refine HGv.out.mono ?_
                  rintro e w12 ⟨v12, rfl, hr, hb⟩
                  obtain ⟨G, hG⟩ : ∃ G, giveR cs (cwC a b) = G := ⟨_, rfl⟩
                  rw [hG] at hr
                  have HGe := Lib.hid hG
                  clear hG
                  obtain ⟨E1, h1', E2, h2', E4, h4', E5, h5', rfl⟩ := hr.shape
                  have HAr5 := Lib.hid (HBr2.out.on hb)
                  have HB13 := Lib.hid (HB2.out.trans (hb.mono HB2.out.size))
                  have HR5 := Lib.hid hr
                  clear hr hb y0 y1 y2 y3 y4 y5
                  obtain ⟨z0, z1, z2, z3, z4, z5⟩ := HAr5.out.get
                  have f0 := World.rowIs.frozen HAr5.out 0
                  have f1 := World.rowIs.frozen HAr5.out 1
                  have f2 := World.rowIs.frozen HAr5.out 2
                  have f3 := World.rowIs.frozen HAr5.out 3
                  have f4 := World.rowIs.frozen HAr5.out 4
                  have f5 := World.rowIs.frozen HAr5.out 5
                  go_wp2_with fail
                  have hbig := (sets6_big HAr5.out HR5.out (.int .i64 G.roots) (.slice E1 G.nodes.length h1') (.slice E2 G.sites.length h2') (.int .i64 G.edges) (.slice E4 G.outer.length h4') (.slice E5 G.inner.length h5')).here
                  have hbel := sets6_below HB13.out hwβ (.int .i64 G.roots) (.slice E1 G.nodes.length h1') (.slice E2 G.sites.length h2') (.int .i64 G.edges) (.slice E4 G.outer.length h4') (.slice E5 G.inner.length h5')
                  unfold sets6 at hbig hbel
                  exact bodyPost_ret (v := .tuple #[.agg #[.int .i64 G.roots, .slice E1 G.nodes.length h1', .slice E2 G.sites.length h2', .int .i64 G.edges, .slice E4 G.outer.length h4', .slice E5 G.inner.length h5'], .bool (bigB cs (cwC a b))]) (by simp [results, Try.results67, go_sem, z0, z1, z2, z3, z4, z5]) rfl ⟨_, rfl, by rw [HGe.out]; exact hbig, hbel⟩
end Go.Proofs.Ytifialdkjnmfoaa.cws
