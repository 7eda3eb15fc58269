/- Discrete Bigraphs and renamings: the functions of spec and impl. -/
import Derived.Test.YtlhickjlcmiknaaDsi
import Derived.Test.YtlhickjlcmiknaaDss
import Derived.Test.YtlhickjlcmiknaaKd
namespace Go.Proofs.Ytlhickjlcmiknaa.dsq
open kit bg opn strs only hb sg sig isig un gd inn ht hi cf pt ptm lf ib rs rt pts psp rfo lop dsc dsi dss kd
open Go.RowKit
set_option linter.unusedVariables false

theorem sites4 {cs : List Ctl} {b : Big} (h : bigB cs b = true) : b.sites.length ≤ 4 := (sizes_of (big_of h).2.1).2.2.2.1
theorem subB_at {b : Big} {n1 n2 n4 n5 : Nat} (h1 : b.nodes.length = n1) (h2 : b.sites.length = n2) (h4 : b.outer.length = n4) (h5 : b.inner.length = n5) : subQ b.roots n1 n2 b.edges n4 n5 = ofB subQ b := (ofB_at h1 h2 h4 h5).symm

set_option maxHeartbeats 1600000 in
theorem sDs_any (A : Option Addr) (n c : Nat) (cs : List Ctl) (v : Value) (b : Big) (w : World) (hC : CtlsAt w w.heap.size A n cs) (hv : BigAt w w.heap.size v b) (hn : n ≤ 1048576) (hs : ∀ c ∈ cs, c.name.size ≤ 1048576) (hS : BigS b) (hw : BigW b) :
    Calls Try.prog 31 #[.slice A n c, v] w (Post (bigB cs b && sglB b) w) := by
  obtain ⟨A1, n1, c1, A2, n2, c2, A4, n4, c4, A5, n5, c5, rfl, h1, h2, h4, h5⟩ := hv
  have HBox : Hid (BoxAt (w.alloc (.cells #[.int .i64 b.roots, .slice A1 n1 c1, .slice A2 n2 c2, .int .i64 b.edges, .slice A4 n4 c4, .slice A5 n5 c5] 38)) w.heap.size 38 (.int .i64 b.roots) (.slice A1 n1 c1) (.slice A2 n2 c2) (.int .i64 b.edges) (.slice A4 n4 c4) (.slice A5 n5 c5)) := Lib.hid (six_new w _ _ _ _ _ _ _)
  have HB0 := Lib.hid ((Below.refl w.heap.size w).alloc (Nat.le_refl _) (.cells #[.int .i64 b.roots, .slice A1 n1 c1, .slice A2 n2 c2, .int .i64 b.edges, .slice A4 n4 c4, .slice A5 n5 c5] 38))
  obtain ⟨W, hW⟩ : ∃ W, w.alloc (.cells #[.int .i64 b.roots, .slice A1 n1 c1, .slice A2 n2 c2, .int .i64 b.edges, .slice A4 n4 c4, .slice A5 n5 c5] 38) = W := ⟨_, rfl⟩
  have hWz : W.heap.size = w.heap.size + 1 := by rw [← hW]; simp
  rw [hW] at HBox HB0
  have HWq := Lib.hid hW
  have hWs : w.heap.size < W.heap.size := by omega
  have HVA := Lib.hid (fun (Y : World) (hY : Below w.heap.size w Y) => (BigAt.wide (BigAt.below ⟨_, _, _, _, _, _, _, _, _, _, _, _, rfl, h1, h2, h4, h5⟩ hY) hY.size : BigAt Y Y.heap.size (.agg #[.int .i64 b.roots, .slice A1 n1 c1, .slice A2 n2 c2, .int .i64 b.edges, .slice A4 n4 c4, .slice A5 n5 c5]) b))
  have C := l2Good_any A n c cs (.agg #[.int .i64 b.roots, .slice A1 n1 c1, .slice A2 n2 c2, .int .i64 b.edges, .slice A4 n4 c4, .slice A5 n5 c5]) b W ((hC.below HB0.out).wide HB0.out.size) (HVA.out W HB0.out) hn hs hS hw
  clear hW hWz
  obtain ⟨x0, x1, x2, x3, x4, x5⟩ := HBox.out.get
  cases hq : bigB cs b with
  | false =>
    rw [hq] at C
    clear hq
    go_enter Try.func31, Try.ntmps31
    go_wp2_with fail
    rw [HWq.out]
    go_wp2_with fail
    refine C.mono ?_
    rintro e w1 ⟨rfl, hb⟩
    have hb1 := HB0.out.trans (hb.mono HB0.out.size)
    clear x0 x1 x2 x3 x4 x5 C hb
    go_wp2_with fail
    go_ret
    exact ⟨rfl, hb1⟩
  | true =>
    have CP := Lib.hid (fun (Y : World) (hY : Below w.heap.size w Y) => ssg_any cs (.agg #[.int .i64 b.roots, .slice A1 n1 c1, .slice A2 n2 c2, .int .i64 b.edges, .slice A4 n4 c4, .slice A5 n5 c5]) b Y (HVA.out Y hY) hq)
    rw [hq] at C
    clear hq
    obtain ⟨r, hr⟩ : ∃ r, sglB b = r := ⟨_, rfl⟩
    rw [hr] at CP ⊢
    clear hr
    go_enter Try.func31, Try.ntmps31
    go_wp2_with fail
    rw [HWq.out]
    go_wp2_with fail
    refine C.mono ?_
    rintro e w1 ⟨rfl, hb⟩
    have hb1 := HB0.out.trans (hb.mono HB0.out.size)
    have HBx1 := HBox.out.below hb hWs
    clear x0 x1 x2 x3 x4 x5 C hb
    obtain ⟨x0, x1, x2, x3, x4, x5⟩ := HBx1.get
    have CQ := CP.out w1 hb1
    clear HBx1
    go_wp2_with fail
    refine CQ.mono ?_
    rintro e w2 ⟨rfl, hb2⟩
    have hb3 := hb1.trans (hb2.mono hb1.size)
    clear hb2 CQ x0 x1 x2 x3 x4 x5
    cases r with
    | false =>
      go_wp2_with fail
      go_ret
      exact ⟨rfl, hb3⟩
    | true =>
      go_wp2_with fail
      go_ret
      exact ⟨rfl, hb3⟩

set_option maxHeartbeats 1600000 in
theorem iDs_any (A : Option Addr) (n c : Nat) (cs : List Ctl) (v : Value) (b : Big) (w : World) (hC : CtlsAt w w.heap.size A n cs) (hv : BigAt w w.heap.size v b) (hn : n ≤ 1048576) (hs : ∀ c ∈ cs, c.name.size ≤ 1048576) (hS : BigS b) (hw : BigW b) :
    Calls Try.prog 32 #[.slice A n c, v] w (Post (bigB cs b && sglB b) w) := by
  obtain ⟨A1, n1, c1, A2, n2, c2, A4, n4, c4, A5, n5, c5, rfl, h1, h2, h4, h5⟩ := hv
  have HBox : Hid (BoxAt (w.alloc (.cells #[.int .i64 b.roots, .slice A1 n1 c1, .slice A2 n2 c2, .int .i64 b.edges, .slice A4 n4 c4, .slice A5 n5 c5] 38)) w.heap.size 38 (.int .i64 b.roots) (.slice A1 n1 c1) (.slice A2 n2 c2) (.int .i64 b.edges) (.slice A4 n4 c4) (.slice A5 n5 c5)) := Lib.hid (six_new w _ _ _ _ _ _ _)
  have HB0 := Lib.hid ((Below.refl w.heap.size w).alloc (Nat.le_refl _) (.cells #[.int .i64 b.roots, .slice A1 n1 c1, .slice A2 n2 c2, .int .i64 b.edges, .slice A4 n4 c4, .slice A5 n5 c5] 38))
  obtain ⟨W, hW⟩ : ∃ W, w.alloc (.cells #[.int .i64 b.roots, .slice A1 n1 c1, .slice A2 n2 c2, .int .i64 b.edges, .slice A4 n4 c4, .slice A5 n5 c5] 38) = W := ⟨_, rfl⟩
  have hWz : W.heap.size = w.heap.size + 1 := by rw [← hW]; simp
  rw [hW] at HBox HB0
  have HWq := Lib.hid hW
  have hWs : w.heap.size < W.heap.size := by omega
  have HVA := Lib.hid (fun (Y : World) (hY : Below w.heap.size w Y) => (BigAt.wide (BigAt.below ⟨_, _, _, _, _, _, _, _, _, _, _, _, rfl, h1, h2, h4, h5⟩ hY) hY.size : BigAt Y Y.heap.size (.agg #[.int .i64 b.roots, .slice A1 n1 c1, .slice A2 n2 c2, .int .i64 b.edges, .slice A4 n4 c4, .slice A5 n5 c5]) b))
  have C := isBig_any A n c cs (.agg #[.int .i64 b.roots, .slice A1 n1 c1, .slice A2 n2 c2, .int .i64 b.edges, .slice A4 n4 c4, .slice A5 n5 c5]) b W ((hC.below HB0.out).wide HB0.out.size) (HVA.out W HB0.out) hn hs hS hw
  clear hW hWz
  obtain ⟨x0, x1, x2, x3, x4, x5⟩ := HBox.out.get
  cases hq : bigB cs b with
  | false =>
    rw [hq] at C
    clear hq
    go_enter Try.func32, Try.ntmps32
    go_wp2_with fail
    rw [HWq.out]
    go_wp2_with fail
    refine C.mono ?_
    rintro e w1 ⟨rfl, hb⟩
    have hb1 := HB0.out.trans (hb.mono HB0.out.size)
    clear x0 x1 x2 x3 x4 x5 C hb
    go_wp2_with fail
    go_ret
    exact ⟨rfl, hb1⟩
  | true =>
    have CP := Lib.hid (fun (Y : World) (hY : Below w.heap.size w Y) => ids_any cs (.agg #[.int .i64 b.roots, .slice A1 n1 c1, .slice A2 n2 c2, .int .i64 b.edges, .slice A4 n4 c4, .slice A5 n5 c5]) b Y (HVA.out Y hY) hq)
    rw [hq] at C
    clear hq
    obtain ⟨r, hr⟩ : ∃ r, sglB b = r := ⟨_, rfl⟩
    rw [hr] at CP ⊢
    clear hr
    go_enter Try.func32, Try.ntmps32
    go_wp2_with fail
    rw [HWq.out]
    go_wp2_with fail
    refine C.mono ?_
    rintro e w1 ⟨rfl, hb⟩
    have hb1 := HB0.out.trans (hb.mono HB0.out.size)
    have HBx1 := HBox.out.below hb hWs
    clear x0 x1 x2 x3 x4 x5 C hb
    obtain ⟨x0, x1, x2, x3, x4, x5⟩ := HBx1.get
    have CQ := CP.out w1 hb1
    clear HBx1
    go_wp2_with fail
    refine CQ.mono ?_
    rintro e w2 ⟨rfl, hb2⟩
    have hb3 := hb1.trans (hb2.mono hb1.size)
    clear hb2 CQ x0 x1 x2 x3 x4 x5
    cases r with
    | false =>
      go_wp2_with fail
      go_ret
      exact ⟨rfl, hb3⟩
    | true =>
      go_wp2_with fail
      go_ret
      exact ⟨rfl, hb3⟩

set_option maxHeartbeats 1600000 in
theorem srn_any (cs : List Ctl) (v : Value) (b : Big) (w : World) (hv : BigAt w w.heap.size v b) (hq0 : bigB cs b = true) :
    Calls Try.prog 70 #[v] w (Post (ofB subQ b && sglB b) w) := by
  obtain ⟨A1, n1, c1, A2, n2, c2, A4, n4, c4, A5, n5, c5, rfl, h1, h2, h4, h5⟩ := hv
  have HBox : Hid (BoxAt (w.alloc (.cells #[.int .i64 b.roots, .slice A1 n1 c1, .slice A2 n2 c2, .int .i64 b.edges, .slice A4 n4 c4, .slice A5 n5 c5] 38)) w.heap.size 38 (.int .i64 b.roots) (.slice A1 n1 c1) (.slice A2 n2 c2) (.int .i64 b.edges) (.slice A4 n4 c4) (.slice A5 n5 c5)) := Lib.hid (six_new w _ _ _ _ _ _ _)
  have HB0 := Lib.hid ((Below.refl w.heap.size w).alloc (Nat.le_refl _) (.cells #[.int .i64 b.roots, .slice A1 n1 c1, .slice A2 n2 c2, .int .i64 b.edges, .slice A4 n4 c4, .slice A5 n5 c5] 38))
  obtain ⟨W, hW⟩ : ∃ W, w.alloc (.cells #[.int .i64 b.roots, .slice A1 n1 c1, .slice A2 n2 c2, .int .i64 b.edges, .slice A4 n4 c4, .slice A5 n5 c5] 38) = W := ⟨_, rfl⟩
  have hWz : W.heap.size = w.heap.size + 1 := by rw [← hW]; simp
  rw [hW] at HBox HB0
  have HWq := Lib.hid hW
  have hWs : w.heap.size < W.heap.size := by omega
  have HVA := Lib.hid (fun (Y : World) (hY : Below w.heap.size w Y) => (BigAt.wide (BigAt.below ⟨_, _, _, _, _, _, _, _, _, _, _, _, rfl, h1, h2, h4, h5⟩ hY) hY.size : BigAt Y Y.heap.size (.agg #[.int .i64 b.roots, .slice A1 n1 c1, .slice A2 n2 c2, .int .i64 b.edges, .slice A4 n4 c4, .slice A5 n5 c5]) b))
  have C := subB_at h1.1 h2.len h4.strlen h5.1 ▸ sSub_leaf A1 A2 A4 A5 n1 n2 n4 n5 c1 c2 c4 c5 b.roots b.edges W (by have := (big8 hq0).1; rw [h1.1] at this; omega) (by have := sites4 hq0; rw [h2.len] at this; omega) (by have := (big8 hq0).2.2.1; rw [h4.strlen] at this; omega) (by have := (big8 hq0).2.2.2; rw [h5.1] at this; omega)
  clear hW hWz
  obtain ⟨x0, x1, x2, x3, x4, x5⟩ := HBox.out.get
  cases hq : ofB subQ b with
  | false =>
    rw [hq] at C
    clear hq
    go_enter Try.func70, Try.ntmps70
    go_wp2_with fail
    rw [HWq.out]
    go_wp2_with fail
    refine C.mono ?_
    rintro e w1 ⟨rfl, hb⟩
    have hb1 := HB0.out.trans (hb.mono HB0.out.size)
    clear x0 x1 x2 x3 x4 x5 C hb
    go_wp2_with fail
    go_ret
    exact ⟨rfl, hb1⟩
  | true =>
    have CP := Lib.hid (fun (Y : World) (hY : Below w.heap.size w Y) => ssg_any cs (.agg #[.int .i64 b.roots, .slice A1 n1 c1, .slice A2 n2 c2, .int .i64 b.edges, .slice A4 n4 c4, .slice A5 n5 c5]) b Y (HVA.out Y hY) hq0)
    rw [hq] at C
    clear hq
    obtain ⟨r, hr⟩ : ∃ r, sglB b = r := ⟨_, rfl⟩
    rw [hr] at CP ⊢
    clear hr
    go_enter Try.func70, Try.ntmps70
    go_wp2_with fail
    rw [HWq.out]
    go_wp2_with fail
    refine C.mono ?_
    rintro e w1 ⟨rfl, hb⟩
    have hb1 := HB0.out.trans (hb.mono HB0.out.size)
    have HBx1 := HBox.out.below hb hWs
    clear x0 x1 x2 x3 x4 x5 C hb
    obtain ⟨x0, x1, x2, x3, x4, x5⟩ := HBx1.get
    have CQ := CP.out w1 hb1
    clear HBx1
    go_wp2_with fail
    refine CQ.mono ?_
    rintro e w2 ⟨rfl, hb2⟩
    have hb3 := hb1.trans (hb2.mono hb1.size)
    clear hb2 CQ x0 x1 x2 x3 x4 x5
    cases r with
    | false =>
      go_wp2_with fail
      go_ret
      exact ⟨rfl, hb3⟩
    | true =>
      go_wp2_with fail
      go_ret
      exact ⟨rfl, hb3⟩

set_option maxHeartbeats 1600000 in
theorem irn_any (cs : List Ctl) (v : Value) (b : Big) (w : World) (hv : BigAt w w.heap.size v b) (hq0 : bigB cs b = true) :
    Calls Try.prog 71 #[v] w (Post (ofB subQ b && sglB b) w) := by
  obtain ⟨A1, n1, c1, A2, n2, c2, A4, n4, c4, A5, n5, c5, rfl, h1, h2, h4, h5⟩ := hv
  have HBox : Hid (BoxAt (w.alloc (.cells #[.int .i64 b.roots, .slice A1 n1 c1, .slice A2 n2 c2, .int .i64 b.edges, .slice A4 n4 c4, .slice A5 n5 c5] 38)) w.heap.size 38 (.int .i64 b.roots) (.slice A1 n1 c1) (.slice A2 n2 c2) (.int .i64 b.edges) (.slice A4 n4 c4) (.slice A5 n5 c5)) := Lib.hid (six_new w _ _ _ _ _ _ _)
  have HB0 := Lib.hid ((Below.refl w.heap.size w).alloc (Nat.le_refl _) (.cells #[.int .i64 b.roots, .slice A1 n1 c1, .slice A2 n2 c2, .int .i64 b.edges, .slice A4 n4 c4, .slice A5 n5 c5] 38))
  obtain ⟨W, hW⟩ : ∃ W, w.alloc (.cells #[.int .i64 b.roots, .slice A1 n1 c1, .slice A2 n2 c2, .int .i64 b.edges, .slice A4 n4 c4, .slice A5 n5 c5] 38) = W := ⟨_, rfl⟩
  have hWz : W.heap.size = w.heap.size + 1 := by rw [← hW]; simp
  rw [hW] at HBox HB0
  have HWq := Lib.hid hW
  have hWs : w.heap.size < W.heap.size := by omega
  have HVA := Lib.hid (fun (Y : World) (hY : Below w.heap.size w Y) => (BigAt.wide (BigAt.below ⟨_, _, _, _, _, _, _, _, _, _, _, _, rfl, h1, h2, h4, h5⟩ hY) hY.size : BigAt Y Y.heap.size (.agg #[.int .i64 b.roots, .slice A1 n1 c1, .slice A2 n2 c2, .int .i64 b.edges, .slice A4 n4 c4, .slice A5 n5 c5]) b))
  have C := subB_at h1.1 h2.len h4.strlen h5.1 ▸ iSub_leaf A1 A2 A4 A5 n1 n2 n4 n5 c1 c2 c4 c5 b.roots b.edges W (by have := (big8 hq0).1; rw [h1.1] at this; omega) (by have := sites4 hq0; rw [h2.len] at this; omega) (by have := (big8 hq0).2.2.1; rw [h4.strlen] at this; omega) (by have := (big8 hq0).2.2.2; rw [h5.1] at this; omega)
  clear hW hWz
  obtain ⟨x0, x1, x2, x3, x4, x5⟩ := HBox.out.get
  cases hq : ofB subQ b with
  | false =>
    rw [hq] at C
    clear hq
    go_enter Try.func71, Try.ntmps71
    go_wp2_with fail
    rw [HWq.out]
    go_wp2_with fail
    refine C.mono ?_
    rintro e w1 ⟨rfl, hb⟩
    have hb1 := HB0.out.trans (hb.mono HB0.out.size)
    clear x0 x1 x2 x3 x4 x5 C hb
    go_wp2_with fail
    go_ret
    exact ⟨rfl, hb1⟩
  | true =>
    have CP := Lib.hid (fun (Y : World) (hY : Below w.heap.size w Y) => ids_any cs (.agg #[.int .i64 b.roots, .slice A1 n1 c1, .slice A2 n2 c2, .int .i64 b.edges, .slice A4 n4 c4, .slice A5 n5 c5]) b Y (HVA.out Y hY) hq0)
    rw [hq] at C
    clear hq
    obtain ⟨r, hr⟩ : ∃ r, sglB b = r := ⟨_, rfl⟩
    rw [hr] at CP ⊢
    clear hr
    go_enter Try.func71, Try.ntmps71
    go_wp2_with fail
    rw [HWq.out]
    go_wp2_with fail
    refine C.mono ?_
    rintro e w1 ⟨rfl, hb⟩
    have hb1 := HB0.out.trans (hb.mono HB0.out.size)
    have HBx1 := HBox.out.below hb hWs
    clear x0 x1 x2 x3 x4 x5 C hb
    obtain ⟨x0, x1, x2, x3, x4, x5⟩ := HBx1.get
    have CQ := CP.out w1 hb1
    clear HBx1
    go_wp2_with fail
    refine CQ.mono ?_
    rintro e w2 ⟨rfl, hb2⟩
    have hb3 := hb1.trans (hb2.mono hb1.size)
    clear hb2 CQ x0 x1 x2 x3 x4 x5
    cases r with
    | false =>
      go_wp2_with fail
      go_ret
      exact ⟨rfl, hb3⟩
    | true =>
      go_wp2_with fail
      go_ret
      exact ⟨rfl, hb3⟩

set_option maxHeartbeats 1600000 in
theorem sRn_any (A : Option Addr) (n c : Nat) (cs : List Ctl) (v : Value) (b : Big) (w : World) (hC : CtlsAt w w.heap.size A n cs) (hv : BigAt w w.heap.size v b) (hn : n ≤ 1048576) (hs : ∀ c ∈ cs, c.name.size ≤ 1048576) (hS : BigS b) (hw : BigW b) :
    Calls Try.prog 33 #[.slice A n c, v] w (Post (bigB cs b && (ofB subQ b && sglB b)) w) := by
  obtain ⟨A1, n1, c1, A2, n2, c2, A4, n4, c4, A5, n5, c5, rfl, h1, h2, h4, h5⟩ := hv
  have HBox : Hid (BoxAt (w.alloc (.cells #[.int .i64 b.roots, .slice A1 n1 c1, .slice A2 n2 c2, .int .i64 b.edges, .slice A4 n4 c4, .slice A5 n5 c5] 38)) w.heap.size 38 (.int .i64 b.roots) (.slice A1 n1 c1) (.slice A2 n2 c2) (.int .i64 b.edges) (.slice A4 n4 c4) (.slice A5 n5 c5)) := Lib.hid (six_new w _ _ _ _ _ _ _)
  have HB0 := Lib.hid ((Below.refl w.heap.size w).alloc (Nat.le_refl _) (.cells #[.int .i64 b.roots, .slice A1 n1 c1, .slice A2 n2 c2, .int .i64 b.edges, .slice A4 n4 c4, .slice A5 n5 c5] 38))
  obtain ⟨W, hW⟩ : ∃ W, w.alloc (.cells #[.int .i64 b.roots, .slice A1 n1 c1, .slice A2 n2 c2, .int .i64 b.edges, .slice A4 n4 c4, .slice A5 n5 c5] 38) = W := ⟨_, rfl⟩
  have hWz : W.heap.size = w.heap.size + 1 := by rw [← hW]; simp
  rw [hW] at HBox HB0
  have HWq := Lib.hid hW
  have hWs : w.heap.size < W.heap.size := by omega
  have HVA := Lib.hid (fun (Y : World) (hY : Below w.heap.size w Y) => (BigAt.wide (BigAt.below ⟨_, _, _, _, _, _, _, _, _, _, _, _, rfl, h1, h2, h4, h5⟩ hY) hY.size : BigAt Y Y.heap.size (.agg #[.int .i64 b.roots, .slice A1 n1 c1, .slice A2 n2 c2, .int .i64 b.edges, .slice A4 n4 c4, .slice A5 n5 c5]) b))
  have C := l2Good_any A n c cs (.agg #[.int .i64 b.roots, .slice A1 n1 c1, .slice A2 n2 c2, .int .i64 b.edges, .slice A4 n4 c4, .slice A5 n5 c5]) b W ((hC.below HB0.out).wide HB0.out.size) (HVA.out W HB0.out) hn hs hS hw
  clear hW hWz
  obtain ⟨x0, x1, x2, x3, x4, x5⟩ := HBox.out.get
  cases hq : bigB cs b with
  | false =>
    rw [hq] at C
    clear hq
    go_enter Try.func33, Try.ntmps33
    go_wp2_with fail
    rw [HWq.out]
    go_wp2_with fail
    refine C.mono ?_
    rintro e w1 ⟨rfl, hb⟩
    have hb1 := HB0.out.trans (hb.mono HB0.out.size)
    clear x0 x1 x2 x3 x4 x5 C hb
    go_wp2_with fail
    go_ret
    exact ⟨rfl, hb1⟩
  | true =>
    have CP := Lib.hid (fun (Y : World) (hY : Below w.heap.size w Y) => srn_any cs (.agg #[.int .i64 b.roots, .slice A1 n1 c1, .slice A2 n2 c2, .int .i64 b.edges, .slice A4 n4 c4, .slice A5 n5 c5]) b Y (HVA.out Y hY) hq)
    rw [hq] at C
    clear hq
    obtain ⟨r, hr⟩ : ∃ r, (ofB subQ b && sglB b) = r := ⟨_, rfl⟩
    rw [hr] at CP ⊢
    clear hr
    go_enter Try.func33, Try.ntmps33
    go_wp2_with fail
    rw [HWq.out]
    go_wp2_with fail
    refine C.mono ?_
    rintro e w1 ⟨rfl, hb⟩
    have hb1 := HB0.out.trans (hb.mono HB0.out.size)
    have HBx1 := HBox.out.below hb hWs
    clear x0 x1 x2 x3 x4 x5 C hb
    obtain ⟨x0, x1, x2, x3, x4, x5⟩ := HBx1.get
    have CQ := CP.out w1 hb1
    clear HBx1
    go_wp2_with fail
    refine CQ.mono ?_
    rintro e w2 ⟨rfl, hb2⟩
    have hb3 := hb1.trans (hb2.mono hb1.size)
    clear hb2 CQ x0 x1 x2 x3 x4 x5
    cases r with
    | false =>
      go_wp2_with fail
      go_ret
      exact ⟨rfl, hb3⟩
    | true =>
      go_wp2_with fail
      go_ret
      exact ⟨rfl, hb3⟩

set_option maxHeartbeats 1600000 in
theorem iRn_any (A : Option Addr) (n c : Nat) (cs : List Ctl) (v : Value) (b : Big) (w : World) (hC : CtlsAt w w.heap.size A n cs) (hv : BigAt w w.heap.size v b) (hn : n ≤ 1048576) (hs : ∀ c ∈ cs, c.name.size ≤ 1048576) (hS : BigS b) (hw : BigW b) :
    Calls Try.prog 34 #[.slice A n c, v] w (Post (bigB cs b && (ofB subQ b && sglB b)) w) := by
  obtain ⟨A1, n1, c1, A2, n2, c2, A4, n4, c4, A5, n5, c5, rfl, h1, h2, h4, h5⟩ := hv
  have HBox : Hid (BoxAt (w.alloc (.cells #[.int .i64 b.roots, .slice A1 n1 c1, .slice A2 n2 c2, .int .i64 b.edges, .slice A4 n4 c4, .slice A5 n5 c5] 38)) w.heap.size 38 (.int .i64 b.roots) (.slice A1 n1 c1) (.slice A2 n2 c2) (.int .i64 b.edges) (.slice A4 n4 c4) (.slice A5 n5 c5)) := Lib.hid (six_new w _ _ _ _ _ _ _)
  have HB0 := Lib.hid ((Below.refl w.heap.size w).alloc (Nat.le_refl _) (.cells #[.int .i64 b.roots, .slice A1 n1 c1, .slice A2 n2 c2, .int .i64 b.edges, .slice A4 n4 c4, .slice A5 n5 c5] 38))
  obtain ⟨W, hW⟩ : ∃ W, w.alloc (.cells #[.int .i64 b.roots, .slice A1 n1 c1, .slice A2 n2 c2, .int .i64 b.edges, .slice A4 n4 c4, .slice A5 n5 c5] 38) = W := ⟨_, rfl⟩
  have hWz : W.heap.size = w.heap.size + 1 := by rw [← hW]; simp
  rw [hW] at HBox HB0
  have HWq := Lib.hid hW
  have hWs : w.heap.size < W.heap.size := by omega
  have HVA := Lib.hid (fun (Y : World) (hY : Below w.heap.size w Y) => (BigAt.wide (BigAt.below ⟨_, _, _, _, _, _, _, _, _, _, _, _, rfl, h1, h2, h4, h5⟩ hY) hY.size : BigAt Y Y.heap.size (.agg #[.int .i64 b.roots, .slice A1 n1 c1, .slice A2 n2 c2, .int .i64 b.edges, .slice A4 n4 c4, .slice A5 n5 c5]) b))
  have C := isBig_any A n c cs (.agg #[.int .i64 b.roots, .slice A1 n1 c1, .slice A2 n2 c2, .int .i64 b.edges, .slice A4 n4 c4, .slice A5 n5 c5]) b W ((hC.below HB0.out).wide HB0.out.size) (HVA.out W HB0.out) hn hs hS hw
  clear hW hWz
  obtain ⟨x0, x1, x2, x3, x4, x5⟩ := HBox.out.get
  cases hq : bigB cs b with
  | false =>
    rw [hq] at C
    clear hq
    go_enter Try.func34, Try.ntmps34
    go_wp2_with fail
    rw [HWq.out]
    go_wp2_with fail
    refine C.mono ?_
    rintro e w1 ⟨rfl, hb⟩
    have hb1 := HB0.out.trans (hb.mono HB0.out.size)
    clear x0 x1 x2 x3 x4 x5 C hb
    go_wp2_with fail
    go_ret
    exact ⟨rfl, hb1⟩
  | true =>
    have CP := Lib.hid (fun (Y : World) (hY : Below w.heap.size w Y) => irn_any cs (.agg #[.int .i64 b.roots, .slice A1 n1 c1, .slice A2 n2 c2, .int .i64 b.edges, .slice A4 n4 c4, .slice A5 n5 c5]) b Y (HVA.out Y hY) hq)
    rw [hq] at C
    clear hq
    obtain ⟨r, hr⟩ : ∃ r, (ofB subQ b && sglB b) = r := ⟨_, rfl⟩
    rw [hr] at CP ⊢
    clear hr
    go_enter Try.func34, Try.ntmps34
    go_wp2_with fail
    rw [HWq.out]
    go_wp2_with fail
    refine C.mono ?_
    rintro e w1 ⟨rfl, hb⟩
    have hb1 := HB0.out.trans (hb.mono HB0.out.size)
    have HBx1 := HBox.out.below hb hWs
    clear x0 x1 x2 x3 x4 x5 C hb
    obtain ⟨x0, x1, x2, x3, x4, x5⟩ := HBx1.get
    have CQ := CP.out w1 hb1
    clear HBx1
    go_wp2_with fail
    refine CQ.mono ?_
    rintro e w2 ⟨rfl, hb2⟩
    have hb3 := hb1.trans (hb2.mono hb1.size)
    clear hb2 CQ x0 x1 x2 x3 x4 x5
    cases r with
    | false =>
      go_wp2_with fail
      go_ret
      exact ⟨rfl, hb3⟩
    | true =>
      go_wp2_with fail
      go_ret
      exact ⟨rfl, hb3⟩
end Go.Proofs.Ytlhickjlcmiknaa.dsq
