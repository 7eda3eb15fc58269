/- The places above a node: spec.AncestorsOf, impl.AncestorsOf. -/
import Derived.Test.YtdejbacfgcahlaaAbv
namespace Go.Proofs.Ytdejbacfgcahlaa.anc
open kit bg opn strs only hb sg sig isig un gd inn ht hi cf ib rs abv
open Go.RowKit
set_option linter.unusedVariables false

/-- whether there is an answer, and which -/
noncomputable def ancQ (cs : List Ctl) (b : Big) (z : Int) : Bool := bigB cs b && inb z 0 (b.nodes.length - 1)
noncomputable def ancR (cs : List Ctl) (b : Big) (z : Int) : List Int := if ancQ cs b z = true then abv b.nodes b.nodes.length z else []
theorem ancR_no {cs : List Ctl} {b : Big} {z : Int} (h : ancQ cs b z = false) : ancR cs b z = [] := by unfold ancR; rw [h]; rfl
theorem ancR_yes {cs : List Ctl} {b : Big} {z : Int} (h : ancQ cs b z = true) : ancR cs b z = abv b.nodes b.nodes.length z := by unfold ancR; rw [if_pos h]
theorem ancR_len {cs : List Ctl} {b : Big} {z : Int} (h : BigS b) : (ancR cs b z).length ≤ 1048576 := by
  cases hq : ancQ cs b z with
  | false => rw [ancR_no hq]; simp
  | true => rw [ancR_yes hq]; exact Nat.le_trans (abv_len _ _ _) h.1

theorem is_any (v0 v2 v3 v4 v5 : Value) (A1 : Option Addr) (n1 c1 : Nat) (p : Int) (w : World) (hn : n1 ≤ 1048576) :
    Calls Try.prog 98 #[.agg #[v0, .slice A1 n1 c1, v2, v3, v4, v5], .int .i64 p] w (Post (inb p 0 (n1 - 1)) w) := by
  go_enter Try.func98, Try.ntmps98
  go_wp2_with (go_at_call 119; refine (in_any _ _ _ _).mono ?_; rintro e w' ⟨rfl, rfl⟩)
  go_ret
  exact ⟨rfl, (Below.refl _ _).alloc (Nat.le_refl _) _⟩

set_option maxRecDepth 20000 in
set_option maxHeartbeats 1600000 in
theorem sAnc_any (A : Option Addr) (n c : Nat) (cs : List Ctl) (v : Value) (b : Big) (z : Int) (w : World) (hC : CtlsAt w w.heap.size A n cs) (hv : BigAt w w.heap.size v b) (hn : n ≤ 1048576) (hs : ∀ c ∈ cs, c.name.size ≤ 1048576) (hS : BigS b) (hw : BigW b) :
    Calls Try.prog 45 #[.slice A n c, v, .int .i64 z] w (ResPost 3 (ancQ cs b z) ((ancR cs b z).map (Value.int .i64)) w) := by
  obtain ⟨A1, n1, c1, A2, n2, c2, A4, n4, c4, A5, n5, c5, rfl, h1, h2, h4, h5⟩ := hv
  have HBox : Hid (BoxAt (w.alloc (.cells #[.int .i64 b.roots, .slice A1 n1 c1, .slice A2 n2 c2, .int .i64 b.edges, .slice A4 n4 c4, .slice A5 n5 c5] 40)) w.heap.size 40 (.int .i64 b.roots) (.slice A1 n1 c1) (.slice A2 n2 c2) (.int .i64 b.edges) (.slice A4 n4 c4) (.slice A5 n5 c5)) := Lib.hid (six_new w _ _ _ _ _ _ _)
  have HB0 := Lib.hid ((Below.refl w.heap.size w).alloc (Nat.le_refl _) (.cells #[.int .i64 b.roots, .slice A1 n1 c1, .slice A2 n2 c2, .int .i64 b.edges, .slice A4 n4 c4, .slice A5 n5 c5] 40))
  obtain ⟨W, hW⟩ : ∃ W, w.alloc (.cells #[.int .i64 b.roots, .slice A1 n1 c1, .slice A2 n2 c2, .int .i64 b.edges, .slice A4 n4 c4, .slice A5 n5 c5] 40) = W := ⟨_, rfl⟩
  have hWz : W.heap.size = w.heap.size + 1 := by rw [← hW]; simp
  rw [hW] at HBox HB0
  have HWq := Lib.hid hW
  have hWs : w.heap.size < W.heap.size := by omega
  have hVW : BigAt W W.heap.size (.agg #[.int .i64 b.roots, .slice A1 n1 c1, .slice A2 n2 c2, .int .i64 b.edges, .slice A4 n4 c4, .slice A5 n5 c5]) b := BigAt.wide (BigAt.below ⟨_, _, _, _, _, _, _, _, _, _, _, _, rfl, h1, h2, h4, h5⟩ HB0.out) HB0.out.size
  clear hW hWz
  have C := l2Good_any A n c cs _ b W ((hC.below HB0.out).wide HB0.out.size) hVW hn hs hS hw
  obtain ⟨x0, x1, x2, x3, x4, x5⟩ := HBox.out.get
  have l1 := h1.1
  have hM1 : n1 ≤ 1048576 := by have := hS.1; omega
  clear hS hw hVW hs
  cases hq : bigB cs b with
  | false =>
    rw [hq] at C
    have hQ : ancQ cs b z = false := by unfold ancQ; rw [hq]; rfl
    have HR := Lib.hid (ancR_no hQ)
    rw [hQ]
    clear hq hQ
    go_enter Try.func45, Try.ntmps45
    go_wp2_with fail
    rw [HWq.out]
    go_wp2_with fail
    refine C.mono ?_
    rintro e w1 ⟨rfl, hb⟩
    have hb1 := HB0.out.trans (hb.mono HB0.out.size)
    clear hb C x0 x1 x2 x3 x4 x5
    go_wp2_with fail
    refine bodyPost_ret (results_tmp2 rfl _ _ _) rfl ?_
    exact ⟨.slice (some ⟨w1.heap.size, 0, none⟩) 0 0, rfl, by rw [HR.out]; exact Res.empty hb1.size, hb1.alloc hb1.size _⟩
  | true =>
    rw [hq] at C
    have hup := up_of hq
    have hsz := size_nodes hq
    cases hi : inb z 0 (n1 - 1) with
    | false =>
      have hQ : ancQ cs b z = false := by unfold ancQ; rw [hq, l1, hi]; rfl
      have HR := Lib.hid (ancR_no hQ)
      rw [hQ]
      have HIs := Lib.hid (fun w => hi ▸ is_any (.int .i64 b.roots) (.slice A2 n2 c2) (.int .i64 b.edges) (.slice A4 n4 c4) (.slice A5 n5 c5) A1 n1 c1 z w hM1)
      clear hq hQ hi
      go_enter Try.func45, Try.ntmps45
      go_wp2_with fail
      rw [HWq.out]
      go_wp2_with fail
      refine C.mono ?_
      rintro e w1 ⟨rfl, hb⟩
      have hb1 := HB0.out.trans (hb.mono HB0.out.size)
      have HBx1 := HBox.out.below hb hWs
      clear hb C x0 x1 x2 x3 x4 x5
      obtain ⟨x0, x1, x2, x3, x4, x5⟩ := HBx1.get
      go_wp2_with fail
      refine (HIs.out _).mono ?_
      rintro e w2 ⟨rfl, hb⟩
      have hb2 := hb1.trans (hb.mono hb1.size)
      clear hb hb1 x0 x1 x2 x3 x4 x5
      go_wp2_with fail
      refine bodyPost_ret (results_tmp2 rfl _ _ _) rfl ?_
      exact ⟨.slice (some ⟨w2.heap.size, 0, none⟩) 0 0, rfl, by rw [HR.out]; exact Res.empty hb2.size, hb2.alloc hb2.size _⟩
    | true =>
      have hQ : ancQ cs b z = true := by unfold ancQ; rw [hq, l1, hi]; rfl
      have hin := inb_true hi
      have hR2 := ancR_yes hQ
      rw [l1] at hR2 hsz
      have HR := Lib.hid hR2
      rw [hQ]
      have HIs := Lib.hid (fun w => hi ▸ is_any (.int .i64 b.roots) (.slice A2 n2 c2) (.int .i64 b.edges) (.slice A4 n4 c4) (.slice A5 n5 c5) A1 n1 c1 z w hM1)
      clear hq hQ hi hR2
      go_enter Try.func45, Try.ntmps45
      go_wp2_with fail
      rw [HWq.out]
      go_wp2_with fail
      refine C.mono ?_
      rintro e w1 ⟨rfl, hb⟩
      have hb1 := HB0.out.trans (hb.mono HB0.out.size)
      have hs1 : w.heap.size < w1.heap.size := Nat.lt_of_lt_of_le hWs hb.size
      have HBx1 := HBox.out.below hb hWs
      clear hb C x0 x1 x2 x3 x4 x5
      obtain ⟨x0, x1, x2, x3, x4, x5⟩ := HBx1.get
      go_wp2_with fail
      refine (HIs.out _).mono ?_
      rintro e w2 ⟨rfl, hb⟩
      have hb2 := hb1.trans (hb.mono hb1.size)
      have HBx2 := HBx1.below hb hs1
      clear hb hb1 x0 x1 x2 x3 x4 x5 HBx1
      obtain ⟨x0, x1, x2, x3, x4, x5⟩ := HBx2.get
      clear HBx2
      go_wp2_with fail
      refine (l2Above_any _ _ _ _ _ A1 n1 c1 b.nodes z w w2 h1 hb2 hsz hup (by omega)).mono ?_
      rintro e w3 ⟨v3, rfl, ho, hb3⟩
      have hb03 := hb2.trans (hb3.mono hb2.size)
      have HO := Lib.hid ((Res.of_owns ho).wide hb2.size (Nat.le_refl _))
      clear ho hb3 x0 x1 x2 x3 x4 x5
      go_wp2_with fail
      refine bodyPost_ret (results_tmp2 rfl _ _ _) rfl ?_
      exact ⟨v3, rfl, by rw [HR.out]; exact HO.out, hb03⟩

set_option maxRecDepth 20000 in
set_option maxHeartbeats 1600000 in
theorem iAnc_any (A : Option Addr) (n c : Nat) (cs : List Ctl) (v : Value) (b : Big) (z : Int) (w : World) (hC : CtlsAt w w.heap.size A n cs) (hv : BigAt w w.heap.size v b) (hn : n ≤ 1048576) (hs : ∀ c ∈ cs, c.name.size ≤ 1048576) (hS : BigS b) (hw : BigW b) :
    Calls Try.prog 46 #[.slice A n c, v, .int .i64 z] w (ResPost 3 (ancQ cs b z) ((ancR cs b z).map (Value.int .i64)) w) := by
  obtain ⟨A1, n1, c1, A2, n2, c2, A4, n4, c4, A5, n5, c5, rfl, h1, h2, h4, h5⟩ := hv
  have HBox : Hid (BoxAt (w.alloc (.cells #[.int .i64 b.roots, .slice A1 n1 c1, .slice A2 n2 c2, .int .i64 b.edges, .slice A4 n4 c4, .slice A5 n5 c5] 40)) w.heap.size 40 (.int .i64 b.roots) (.slice A1 n1 c1) (.slice A2 n2 c2) (.int .i64 b.edges) (.slice A4 n4 c4) (.slice A5 n5 c5)) := Lib.hid (six_new w _ _ _ _ _ _ _)
  have HB0 := Lib.hid ((Below.refl w.heap.size w).alloc (Nat.le_refl _) (.cells #[.int .i64 b.roots, .slice A1 n1 c1, .slice A2 n2 c2, .int .i64 b.edges, .slice A4 n4 c4, .slice A5 n5 c5] 40))
  obtain ⟨W, hW⟩ : ∃ W, w.alloc (.cells #[.int .i64 b.roots, .slice A1 n1 c1, .slice A2 n2 c2, .int .i64 b.edges, .slice A4 n4 c4, .slice A5 n5 c5] 40) = W := ⟨_, rfl⟩
  have hWz : W.heap.size = w.heap.size + 1 := by rw [← hW]; simp
  rw [hW] at HBox HB0
  have HWq := Lib.hid hW
  have hWs : w.heap.size < W.heap.size := by omega
  have hVW : BigAt W W.heap.size (.agg #[.int .i64 b.roots, .slice A1 n1 c1, .slice A2 n2 c2, .int .i64 b.edges, .slice A4 n4 c4, .slice A5 n5 c5]) b := BigAt.wide (BigAt.below ⟨_, _, _, _, _, _, _, _, _, _, _, _, rfl, h1, h2, h4, h5⟩ HB0.out) HB0.out.size
  clear hW hWz
  have C := isBig_any A n c cs _ b W ((hC.below HB0.out).wide HB0.out.size) hVW hn hs hS hw
  obtain ⟨x0, x1, x2, x3, x4, x5⟩ := HBox.out.get
  have l1 := h1.1
  have hM1 : n1 ≤ 1048576 := by have := hS.1; omega
  clear hS hw hVW hs
  cases hq : bigB cs b with
  | false =>
    rw [hq] at C
    have hQ : ancQ cs b z = false := by unfold ancQ; rw [hq]; rfl
    have HR := Lib.hid (ancR_no hQ)
    rw [hQ]
    clear hq hQ
    go_enter Try.func46, Try.ntmps46
    go_wp2_with fail
    rw [HWq.out]
    go_wp2_with fail
    refine C.mono ?_
    rintro e w1 ⟨rfl, hb⟩
    have hb1 := HB0.out.trans (hb.mono HB0.out.size)
    clear hb C x0 x1 x2 x3 x4 x5
    go_wp2_with fail
    refine bodyPost_ret (results_tmp2 rfl _ _ _) rfl ?_
    exact ⟨.slice none 0 0, rfl, by rw [HR.out]; exact Res.nil, hb1⟩
  | true =>
    rw [hq] at C
    have hup := up_of hq
    have hsz := size_nodes hq
    cases hi : inb z 0 (n1 - 1) with
    | false =>
      have hQ : ancQ cs b z = false := by unfold ancQ; rw [hq, l1, hi]; rfl
      have HR := Lib.hid (ancR_no hQ)
      rw [hQ]
      have HIs := Lib.hid (fun w => hi ▸ ind_any (.int .i64 b.roots) (.slice A2 n2 c2) (.int .i64 b.edges) (.slice A4 n4 c4) (.slice A5 n5 c5) A1 n1 c1 z w hM1)
      clear hq hQ hi
      go_enter Try.func46, Try.ntmps46
      go_wp2_with fail
      rw [HWq.out]
      go_wp2_with fail
      refine C.mono ?_
      rintro e w1 ⟨rfl, hb⟩
      have hb1 := HB0.out.trans (hb.mono HB0.out.size)
      have HBx1 := HBox.out.below hb hWs
      clear hb C x0 x1 x2 x3 x4 x5
      obtain ⟨x0, x1, x2, x3, x4, x5⟩ := HBx1.get
      go_wp2_with fail
      refine (HIs.out _).mono ?_
      rintro e w2 ⟨rfl, hb⟩
      have hb2 := hb1.trans (hb.mono hb1.size)
      clear hb hb1 x0 x1 x2 x3 x4 x5
      go_wp2_with fail
      refine bodyPost_ret (results_tmp2 rfl _ _ _) rfl ?_
      exact ⟨.slice none 0 0, rfl, by rw [HR.out]; exact Res.nil, hb2⟩
    | true =>
      have hQ : ancQ cs b z = true := by unfold ancQ; rw [hq, l1, hi]; rfl
      have hin := inb_true hi
      have hR2 := ancR_yes hQ
      rw [l1] at hR2 hsz
      have HR := Lib.hid hR2
      rw [hQ]
      have HIs := Lib.hid (fun w => hi ▸ ind_any (.int .i64 b.roots) (.slice A2 n2 c2) (.int .i64 b.edges) (.slice A4 n4 c4) (.slice A5 n5 c5) A1 n1 c1 z w hM1)
      clear hq hQ hi hR2
      go_enter Try.func46, Try.ntmps46
      go_wp2_with fail
      rw [HWq.out]
      go_wp2_with fail
      refine C.mono ?_
      rintro e w1 ⟨rfl, hb⟩
      have hb1 := HB0.out.trans (hb.mono HB0.out.size)
      have hs1 : w.heap.size < w1.heap.size := Nat.lt_of_lt_of_le hWs hb.size
      have HBx1 := HBox.out.below hb hWs
      clear hb C x0 x1 x2 x3 x4 x5
      obtain ⟨x0, x1, x2, x3, x4, x5⟩ := HBx1.get
      go_wp2_with fail
      refine (HIs.out _).mono ?_
      rintro e w2 ⟨rfl, hb⟩
      have hb2 := hb1.trans (hb.mono hb1.size)
      have HBx2 := HBx1.below hb hs1
      clear hb hb1 x0 x1 x2 x3 x4 x5 HBx1
      obtain ⟨x0, x1, x2, x3, x4, x5⟩ := HBx2.get
      clear HBx2
      go_wp2_with fail
      refine (anc_any _ _ _ _ _ A1 n1 c1 b.nodes z w w2 h1 hb2 hsz hup (by omega)).mono ?_
      rintro e w3 ⟨v3, rfl, ho, hb3⟩
      have hb03 := hb2.trans (hb3.mono hb2.size)
      have HO := Lib.hid ((Res.of_owns ho).wide hb2.size (Nat.le_refl _))
      clear ho hb3 x0 x1 x2 x3 x4 x5
      go_wp2_with fail
      refine bodyPost_ret (results_tmp2 rfl _ _ _) rfl ?_
      exact ⟨v3, rfl, by rw [HR.out]; exact HO.out, hb03⟩
end Go.Proofs.Ytdejbacfgcahlaa.anc
