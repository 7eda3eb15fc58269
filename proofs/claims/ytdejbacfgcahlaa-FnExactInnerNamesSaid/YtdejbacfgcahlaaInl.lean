/- The inner names: spec.InnerNames, impl.InnerNames. -/
import Derived.Test.YtdejbacfgcahlaaRs
namespace Go.Proofs.Ytdejbacfgcahlaa.innl
open kit bg opn strs only hb sig isig gd inn ht cf ib rs
open Go.RowKit
set_option linter.unusedVariables false

/-- what InnerNames gives -/
noncomputable def innR (cs : List Ctl) (b : Big) : List ByteArray := if bigB cs b = true then nms b.inner else []

theorem innR_len {cs : List Ctl} {b : Big} (h : BigS b) : (innR cs b).length ≤ 1048576 := by
  unfold innR
  split
  · unfold nms; rw [List.length_map]; exact h.2.2.2.2.2.1
  · simp

set_option maxRecDepth 20000 in
set_option maxHeartbeats 1600000 in
theorem sInner_any (A : Option Addr) (n c : Nat) (cs : List Ctl) (v : Value) (b : Big) (w : World) (hC : CtlsAt w w.heap.size A n cs) (hv : BigAt w w.heap.size v b) (hn : n ≤ 1048576) (hs : ∀ c ∈ cs, c.name.size ≤ 1048576) (hS : BigS b) (hw : BigW b) :
    Calls Try.prog 28 #[.slice A n c, v] w (ResPost 9 (bigB cs b) ((innR cs b).map Value.string) w) := by
  obtain ⟨A1, n1, c1, A2, n2, c2, A4, n4, c4, A5, n5, c5, rfl, h1, h2, h4, h5⟩ := hv
  have HBox : Hid (BoxAt (w.alloc (.cells #[.int .i64 b.roots, .slice A1 n1 c1, .slice A2 n2 c2, .int .i64 b.edges, .slice A4 n4 c4, .slice A5 n5 c5] 40)) w.heap.size 40 (.int .i64 b.roots) (.slice A1 n1 c1) (.slice A2 n2 c2) (.int .i64 b.edges) (.slice A4 n4 c4) (.slice A5 n5 c5)) := Lib.hid (six_new w _ _ _ _ _ _ _)
  have HB0 := Lib.hid ((Below.refl w.heap.size w).alloc (Nat.le_refl _) (.cells #[.int .i64 b.roots, .slice A1 n1 c1, .slice A2 n2 c2, .int .i64 b.edges, .slice A4 n4 c4, .slice A5 n5 c5] 40))
  obtain ⟨W, hW⟩ : ∃ W, w.alloc (.cells #[.int .i64 b.roots, .slice A1 n1 c1, .slice A2 n2 c2, .int .i64 b.edges, .slice A4 n4 c4, .slice A5 n5 c5] 40) = W := ⟨_, rfl⟩
  have hWz : W.heap.size = w.heap.size + 1 := by rw [← hW]; simp
  rw [hW] at HBox HB0
  have HWq := Lib.hid hW
  have hWs : w.heap.size < W.heap.size := by omega
  have hVW : BigAt W W.heap.size (.agg #[.int .i64 b.roots, .slice A1 n1 c1, .slice A2 n2 c2, .int .i64 b.edges, .slice A4 n4 c4, .slice A5 n5 c5]) b := BigAt.wide (BigAt.below ⟨_, _, _, _, _, _, _, _, _, _, _, _, rfl, h1, h2, h4, h5⟩ HB0.out) HB0.out.size
  clear hW hWz
  have C := l2Good_any A n c cs _ b W ((hC.below HB0.out).wide HB0.out.size) hVW hn hs hS hw
  obtain ⟨q, hq⟩ : ∃ q, bigB cs b = q := ⟨_, rfl⟩
  have hs1 : q = true → innR cs b = nms b.inner := fun h => by unfold innR; rw [hq, if_pos h]
  have hs2 : q = false → innR cs b = [] := fun h => by unfold innR; rw [hq, if_neg (by simp [h])]
  obtain ⟨ss, hss⟩ : ∃ ss, innR cs b = ss := ⟨_, rfl⟩
  rw [hss] at hs1 hs2 ⊢
  have H1 := Lib.hid hs1
  have H2 := Lib.hid hs2
  clear hs1 hs2 hss
  rw [hq] at C ⊢
  obtain ⟨x0, x1, x2, x3, x4, x5⟩ := HBox.out.get
  have hM5 : n5 ≤ 1048576 := by have := hS.2.2.2.2.2.1; rw [h5.1] at this; exact this
  clear hq hS hw hVW
  go_enter Try.func28, Try.ntmps28
  go_wp2_with fail
  rw [HWq.out]
  go_wp2_with fail
  refine C.mono ?_
  rintro e w1 ⟨rfl, hb⟩
  have hb1 := HB0.out.trans (hb.mono HB0.out.size)
  have HBx1 := HBox.out.below hb hWs
  clear x0 x1 x2 x3 x4 x5 C
  obtain ⟨x0, x1, x2, x3, x4, x5⟩ := HBx1.get
  clear hb HBx1
  cases q with
  | false =>
    go_wp2_with fail
    refine bodyPost_ret (results_tmp2 rfl _ _ _) rfl ?_
    exact ⟨.slice (some ⟨w1.heap.size, 0, none⟩) 0 0, rfl, by rw [H2.out (by simp)]; exact Res.empty hb1.size, hb1.alloc hb1.size _⟩
  | true =>
    go_wp2_with fail
    refine (l2Inner_any _ _ _ _ _ A5 n5 c5 b.inner w w1 h5 hb1 hM5).mono ?_
    rintro e w2 ⟨v2, rfl, ho, hb2⟩
    have hb02 := hb1.trans (hb2.mono hb1.size)
    have HO := Lib.hid ((Res.of_owns ho).wide hb1.size (Nat.le_refl _))
    clear ho hb2 x0 x1 x2 x3 x4 x5
    go_wp2_with fail
    refine bodyPost_ret (results_tmp2 rfl _ _ _) rfl ?_
    exact ⟨v2, rfl, by rw [H1.out (by simp)]; exact HO.out, hb02⟩

set_option maxRecDepth 20000 in
set_option maxHeartbeats 1600000 in
theorem iInner_any (A : Option Addr) (n c : Nat) (cs : List Ctl) (v : Value) (b : Big) (w : World) (hC : CtlsAt w w.heap.size A n cs) (hv : BigAt w w.heap.size v b) (hn : n ≤ 1048576) (hs : ∀ c ∈ cs, c.name.size ≤ 1048576) (hS : BigS b) (hw : BigW b) :
    Calls Try.prog 29 #[.slice A n c, v] w (ResPost 9 (bigB cs b) ((innR cs b).map Value.string) w) := by
  obtain ⟨A1, n1, c1, A2, n2, c2, A4, n4, c4, A5, n5, c5, rfl, h1, h2, h4, h5⟩ := hv
  have HBox : Hid (BoxAt (w.alloc (.cells #[.int .i64 b.roots, .slice A1 n1 c1, .slice A2 n2 c2, .int .i64 b.edges, .slice A4 n4 c4, .slice A5 n5 c5] 40)) w.heap.size 40 (.int .i64 b.roots) (.slice A1 n1 c1) (.slice A2 n2 c2) (.int .i64 b.edges) (.slice A4 n4 c4) (.slice A5 n5 c5)) := Lib.hid (six_new w _ _ _ _ _ _ _)
  have HB0 := Lib.hid ((Below.refl w.heap.size w).alloc (Nat.le_refl _) (.cells #[.int .i64 b.roots, .slice A1 n1 c1, .slice A2 n2 c2, .int .i64 b.edges, .slice A4 n4 c4, .slice A5 n5 c5] 40))
  obtain ⟨W, hW⟩ : ∃ W, w.alloc (.cells #[.int .i64 b.roots, .slice A1 n1 c1, .slice A2 n2 c2, .int .i64 b.edges, .slice A4 n4 c4, .slice A5 n5 c5] 40) = W := ⟨_, rfl⟩
  have hWz : W.heap.size = w.heap.size + 1 := by rw [← hW]; simp
  rw [hW] at HBox HB0
  have HWq := Lib.hid hW
  have hWs : w.heap.size < W.heap.size := by omega
  have hVW : BigAt W W.heap.size (.agg #[.int .i64 b.roots, .slice A1 n1 c1, .slice A2 n2 c2, .int .i64 b.edges, .slice A4 n4 c4, .slice A5 n5 c5]) b := BigAt.wide (BigAt.below ⟨_, _, _, _, _, _, _, _, _, _, _, _, rfl, h1, h2, h4, h5⟩ HB0.out) HB0.out.size
  clear hW hWz
  have C := isBig_any A n c cs _ b W ((hC.below HB0.out).wide HB0.out.size) hVW hn hs hS hw
  obtain ⟨q, hq⟩ : ∃ q, bigB cs b = q := ⟨_, rfl⟩
  have hs1 : q = true → innR cs b = nms b.inner := fun h => by unfold innR; rw [hq, if_pos h]
  have hs2 : q = false → innR cs b = [] := fun h => by unfold innR; rw [hq, if_neg (by simp [h])]
  obtain ⟨ss, hss⟩ : ∃ ss, innR cs b = ss := ⟨_, rfl⟩
  rw [hss] at hs1 hs2 ⊢
  have H1 := Lib.hid hs1
  have H2 := Lib.hid hs2
  clear hs1 hs2 hss
  rw [hq] at C ⊢
  obtain ⟨x0, x1, x2, x3, x4, x5⟩ := HBox.out.get
  have hM5 : n5 ≤ 1048576 := by have := hS.2.2.2.2.2.1; rw [h5.1] at this; exact this
  clear hq hS hw hVW
  go_enter Try.func29, Try.ntmps29
  go_wp2_with fail
  rw [HWq.out]
  go_wp2_with fail
  refine C.mono ?_
  rintro e w1 ⟨rfl, hb⟩
  have hb1 := HB0.out.trans (hb.mono HB0.out.size)
  have HBx1 := HBox.out.below hb hWs
  clear x0 x1 x2 x3 x4 x5 C
  obtain ⟨x0, x1, x2, x3, x4, x5⟩ := HBx1.get
  clear hb HBx1
  cases q with
  | false =>
    go_wp2_with fail
    refine bodyPost_ret (results_tmp2 rfl _ _ _) rfl ?_
    exact ⟨.slice none 0 0, rfl, by rw [H2.out (by simp)]; exact Res.nil, hb1⟩
  | true =>
    go_wp2_with fail
    refine (innerN_any _ _ _ _ _ A5 n5 c5 b.inner w w1 h5 hb1 hM5).mono ?_
    rintro e w2 ⟨v2, rfl, ho, hb2⟩
    have hb02 := hb1.trans (hb2.mono hb1.size)
    have HO := Lib.hid ((Res.of_owns ho).wide hb1.size (Nat.le_refl _))
    clear ho hb2 x0 x1 x2 x3 x4 x5
    go_wp2_with fail
    refine bodyPost_ret (results_tmp2 rfl _ _ _) rfl ?_
    exact ⟨v2, rfl, by rw [H1.out (by simp)]; exact HO.out, hb02⟩

end Go.Proofs.Ytdejbacfgcahlaa.innl
