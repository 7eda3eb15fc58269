/- The points of a link: spec.PointsOf. -/
import Derived.Test.YtifialdkjnmfoaaRp
import Derived.Test.YtifialdkjnmfoaaAnc
import Derived.Deep.RegionHeld3
namespace Go.Proofs.Ytifialdkjnmfoaa.psp
open kit bg opn strs only hb sg sig isig un gd inn ht hi cf pt ib rs rt pts ha rp
open Go.RowKit
set_option linter.unusedVariables false

noncomputable def ptQ (cs : List Ctl) (b : Big) (z : Int) : Bool := bigB cs b && linkB b z
noncomputable def ptA (cs : List Ctl) (b : Big) (z : Int) : List Port := if ptQ cs b z = true then onL z (ports b.nodes) else []
noncomputable def ptB (cs : List Ctl) (b : Big) (z : Int) : List ByteArray := if ptQ cs b z = true then ends b.inner z b.inner.length else []
theorem ptA_no {cs : List Ctl} {b : Big} {z : Int} (h : ptQ cs b z = false) : ptA cs b z = [] := by unfold ptA; rw [h]; rfl
theorem ptA_yes {cs : List Ctl} {b : Big} {z : Int} (h : ptQ cs b z = true) : ptA cs b z = onL z (ports b.nodes) := by unfold ptA; rw [if_pos h]
theorem ptB_no {cs : List Ctl} {b : Big} {z : Int} (h : ptQ cs b z = false) : ptB cs b z = [] := by unfold ptB; rw [h]; rfl
theorem ptB_yes {cs : List Ctl} {b : Big} {z : Int} (h : ptQ cs b z = true) : ptB cs b z = ends b.inner z b.inner.length := by unfold ptB; rw [if_pos h]
theorem big8 {cs : List Ctl} {b : Big} (h : bigB cs b = true) : b.nodes.length ≤ 8 ∧ (0 ≤ b.edges ∧ b.edges ≤ 8) ∧ b.outer.length ≤ 16 ∧ b.inner.length ≤ 16 := by
  have := sizes_of (big_of h).2.1
  exact ⟨this.2.2.1, this.2.1, this.2.2.2.2.1, this.2.2.2.2.2⟩
theorem links3 {cs : List Ctl} {b : Big} (h : bigB cs b = true) : ∀ x ∈ b.nodes, x.links.length ≤ 3 := fun x hx => by
  obtain ⟨k, hk⟩ := List.getElem?_of_mem hx
  have h1 := ((big_of h).2.2.2.2.1 k x hk).2.1
  unfold portsB at h1
  cases hc : cs[x.control.toNat]? with
  | none => rw [hc] at h1; cases h1
  | some c =>
    rw [hc] at h1
    have h2 : (x.links.length : Int) = c.ports := by simpa using h1
    have h3 := (big_of h).1.1 _ c hc
    unfold ctlB at h3
    simp only [Bool.and_eq_true] at h3
    have h4 := inb_true h3.1.2
    omega
theorem ptQ_big {cs : List Ctl} {b : Big} {z : Int} (h : ptQ cs b z = true) : bigB cs b = true := by
  unfold ptQ at h
  simp only [Bool.and_eq_true] at h
  exact h.1
theorem ptA_len {cs : List Ctl} {b : Big} {z : Int} : (ptA cs b z).length ≤ 24 := by
  cases hq : ptQ cs b z with
  | false => rw [ptA_no hq]; simp
  | true =>
    rw [ptA_yes hq]
    have h8 := big8 (ptQ_big hq)
    have h1 := onL_len z (ports b.nodes)
    have h2 := prtsTo_len (links3 (ptQ_big hq)) b.nodes.length
    have h3 : b.nodes.length * 3 ≤ 8 * 3 := Nat.mul_le_mul_right _ h8.1
    unfold ports at h1 ⊢
    omega
theorem ptB_len {cs : List Ctl} {b : Big} {z : Int} (h : BigS b) : (ptB cs b z).length ≤ 1048576 := by
  cases hq : ptQ cs b z with
  | false => rw [ptB_no hq]; simp
  | true => rw [ptB_yes hq]; exact Nat.le_trans (ends_len _ _ _) h.2.2.2.2.2.1

set_option maxRecDepth 20000 in
set_option maxHeartbeats 6400000 in
theorem sPt_any (A : Option Addr) (n c : Nat) (cs : List Ctl) (v : Value) (b : Big) (z : Int) (w : World) (hC : CtlsAt w w.heap.size A n cs) (hv : BigAt w w.heap.size v b) (hn : n ≤ 1048576) (hs : ∀ c ∈ cs, c.name.size ≤ 1048576) (hS : BigS b) (hw : BigW b) :
    Calls Try.prog 20 #[.slice A n c, v, .int .i64 z] w (PtPost (ptQ cs b z) (ptA cs b z) ((ptB cs b z).map Value.string) w) := by
  obtain ⟨A1, n1, c1, A2, n2, c2, A4, n4, c4, A5, n5, c5, rfl, h1, h2, h4, h5⟩ := hv
  have HBox : Hid (BoxAt (w.alloc (.cells #[.int .i64 b.roots, .slice A1 n1 c1, .slice A2 n2 c2, .int .i64 b.edges, .slice A4 n4 c4, .slice A5 n5 c5] 39)) w.heap.size 39 (.int .i64 b.roots) (.slice A1 n1 c1) (.slice A2 n2 c2) (.int .i64 b.edges) (.slice A4 n4 c4) (.slice A5 n5 c5)) := Lib.hid (six_new w _ _ _ _ _ _ _)
  have HB0 := Lib.hid ((Below.refl w.heap.size w).alloc (Nat.le_refl _) (.cells #[.int .i64 b.roots, .slice A1 n1 c1, .slice A2 n2 c2, .int .i64 b.edges, .slice A4 n4 c4, .slice A5 n5 c5] 39))
  obtain ⟨W, hW⟩ : ∃ W, w.alloc (.cells #[.int .i64 b.roots, .slice A1 n1 c1, .slice A2 n2 c2, .int .i64 b.edges, .slice A4 n4 c4, .slice A5 n5 c5] 39) = W := ⟨_, rfl⟩
  have hWz : W.heap.size = w.heap.size + 1 := by rw [← hW]; simp
  rw [hW] at HBox HB0
  have HWq := Lib.hid hW
  have hWs : w.heap.size < W.heap.size := by omega
  have hVW : BigAt W W.heap.size (.agg #[.int .i64 b.roots, .slice A1 n1 c1, .slice A2 n2 c2, .int .i64 b.edges, .slice A4 n4 c4, .slice A5 n5 c5]) b := BigAt.wide (BigAt.below ⟨_, _, _, _, _, _, _, _, _, _, _, _, rfl, h1, h2, h4, h5⟩ HB0.out) HB0.out.size
  clear hW hWz
  have C := l2Good_any A n c cs _ b W ((hC.below HB0.out).wide HB0.out.size) hVW hn hs hS hw
  obtain ⟨x0, x1, x2, x3, x4, x5⟩ := HBox.out.get
  have l1 := h1.1
  have l4 := h4.strlen
  have l5 := h5.1
  have hLk := hS.2.1
  have hM1 : n1 ≤ 1048576 := by have := hS.1; omega
  clear hS hw hVW hs
  cases hq : bigB cs b with
  | false =>
    rw [hq] at C
    have hQ : ptQ cs b z = false := by unfold ptQ; rw [hq]; rfl
    have HR := Lib.hid (ptA_no hQ)
    have HR' := Lib.hid (ptB_no hQ)
    rw [hQ]
    clear hq hQ
    go_enter Try.func20, Try.ntmps20
    go_wp2_with fail
    rw [HWq.out]
    go_wp2_with fail
    refine C.mono ?_
    rintro e w1 ⟨rfl, hb⟩
    have hb1 := HB0.out.trans (hb.mono HB0.out.size)
    have hs1 : w.heap.size < w1.heap.size := Nat.lt_of_lt_of_le hWs hb.size
    have HBx1 := HBox.out.below hb hWs
    clear hb C x0 x1 x2 x3 x4 x5
    obtain ⟨x0, x1, x2, x3, x4, x5⟩ := HBx1.get
    go_wp2_with fail
    refine bodyPost_ret (results_tmp3 rfl _ _ _) rfl ?_
    have hbz := hb1.alloc hb1.size (.cells #[] 85)
    exact ⟨.slice (some ⟨w1.heap.size, 0, none⟩) 0 0, .slice (some ⟨w1.heap.size + 1, 0, none⟩) 0 0, rfl, by
      rw [HR.out, HR'.out]
      have e2 := Res.one_empty (w1.alloc (.cells #[] 85)) 9
      rw [World.size_alloc] at e2
      exact ⟨w1.heap.size, w1.heap.size + 1, by omega, hb1.size, by have := hb1.size; omega, (ResP.one_empty w1).on ((Below.refl _ _).alloc (Nat.le_refl _) _), e2⟩, hbz.alloc hbz.size _⟩
  | true =>
    rw [hq] at C
    have h8 := big8 hq
    rw [l1, l4, l5] at h8
    have hlb : linkB b z = inb z 0 (b.edges + n4 - 1) := by unfold linkB; rw [l4]
    cases hi : inb z 0 (b.edges + n4 - 1) with
    | false =>
      have hQ : ptQ cs b z = false := by unfold ptQ; rw [hq, hlb, hi]; rfl
      have HR := Lib.hid (ptA_no hQ)
      have HR' := Lib.hid (ptB_no hQ)
      rw [hQ]
      have HIs := Lib.hid (fun w => hi ▸ (lk_any (.int .i64 b.roots) (.slice A1 n1 c1) (.slice A2 n2 c2) (.slice A5 n5 c5) b.edges z A4 n4 c4 w h8.2.1 h8.2.2.1))
      clear hq hQ hi hlb
      go_enter Try.func20, Try.ntmps20
      go_wp2_with fail
      rw [HWq.out]
      go_wp2_with fail
      refine C.mono ?_
      rintro e w1 ⟨rfl, hb⟩
      have hb1 := HB0.out.trans (hb.mono HB0.out.size)
      have hs1 : w.heap.size < w1.heap.size := Nat.lt_of_lt_of_le hWs hb.size
      have HBx1 := HBox.out.below hb hWs
      clear hb C x0 x1 x2 x3 x4 x5
      obtain ⟨x0, x1, x2, x3, x4, x5⟩ := HBx1.get
      go_wp2_with fail
      refine (HIs.out _).mono ?_
      rintro e w2 ⟨rfl, hb⟩
      have hb2 := hb1.trans (hb.mono hb1.size)
      have hs2 : w.heap.size < w2.heap.size := Nat.lt_of_lt_of_le hs1 hb.size
      have HBx2 := HBx1.below hb hs1
      clear hb hb1 x0 x1 x2 x3 x4 x5 HBx1 hs1
      obtain ⟨x0, x1, x2, x3, x4, x5⟩ := HBx2.get
      go_wp2_with fail
      refine bodyPost_ret (results_tmp3 rfl _ _ _) rfl ?_
      have hbz := hb2.alloc hb2.size (.cells #[] 85)
      exact ⟨.slice (some ⟨w2.heap.size, 0, none⟩) 0 0, .slice (some ⟨w2.heap.size + 1, 0, none⟩) 0 0, rfl, by
        rw [HR.out, HR'.out]
        have e2 := Res.one_empty (w2.alloc (.cells #[] 85)) 9
        rw [World.size_alloc] at e2
        exact ⟨w2.heap.size, w2.heap.size + 1, by omega, hb2.size, by have := hb2.size; omega, (ResP.one_empty w2).on ((Below.refl _ _).alloc (Nat.le_refl _) _), e2⟩, hbz.alloc hbz.size _⟩
    | true =>
      have hQ : ptQ cs b z = true := by unfold ptQ; rw [hq, hlb, hi]; rfl
      have hA2 := ptA_yes hQ
      have hB2 := ptB_yes hQ
      rw [l5] at hB2
      have HA := Lib.hid hA2
      have HB := Lib.hid hB2
      have HLk := Lib.hid hLk
      rw [hQ]
      have HIs := Lib.hid (fun w => hi ▸ (lk_any (.int .i64 b.roots) (.slice A1 n1 c1) (.slice A2 n2 c2) (.slice A5 n5 c5) b.edges z A4 n4 c4 w h8.2.1 h8.2.2.1))
      clear hq hQ hi hlb hA2 hB2 hLk
      go_enter Try.func20, Try.ntmps20
      go_wp2_with fail
      rw [HWq.out]
      go_wp2_with fail
      refine C.mono ?_
      rintro e w1 ⟨rfl, hb⟩
      have hb1 := HB0.out.trans (hb.mono HB0.out.size)
      have hs1 : w.heap.size < w1.heap.size := Nat.lt_of_lt_of_le hWs hb.size
      have HBx1 := HBox.out.below hb hWs
      clear hb C x0 x1 x2 x3 x4 x5
      obtain ⟨x0, x1, x2, x3, x4, x5⟩ := HBx1.get
      go_wp2_with fail
      refine (HIs.out _).mono ?_
      rintro e w2 ⟨rfl, hb⟩
      have hb2 := hb1.trans (hb.mono hb1.size)
      have hs2 : w.heap.size < w2.heap.size := Nat.lt_of_lt_of_le hs1 hb.size
      have HBx2 := HBx1.below hb hs1
      clear hb hb1 x0 x1 x2 x3 x4 x5 HBx1 hs1
      obtain ⟨x0, x1, x2, x3, x4, x5⟩ := HBx2.get
      go_wp2_with fail
      have HBx2h := Lib.hid HBx2
      have hD2 : Below w2.heap.size w2 w2.drew := (Below.refl _ _).drew
      clear HBx2
      go_region_held3 (fun w' => w'.cell? ⟨w.heap.size, 0, none⟩ = some (.int .i64 b.roots) ∧ w'.cell? ⟨w.heap.size, 1, none⟩ = some (.slice A1 n1 c1) ∧ w'.cell? ⟨w.heap.size, 2, none⟩ = some (.slice A2 n2 c2) ∧ w'.cell? ⟨w.heap.size, 3, none⟩ = some (.int .i64 b.edges) ∧ w'.cell? ⟨w.heap.size, 4, none⟩ = some (.slice A4 n4 c4) ∧ w'.cell? ⟨w.heap.size, 5, none⟩ = some (.slice A5 n5 c5)) (first | exact (HBx3.out.below hb4 hs3).get | exact HBx3.out.get | exact (HBx2h.out.below hD2 hs2).get)
        (first
         | (go_at_call 75; refine (ports_any _ _ _ _ _ A1 n1 c1 b.nodes z w _ h1 hb2.drew h8.1 HLk.out).mono ?_; rintro e w3 ⟨v3, rfl, ho3, hb3⟩; have hb23 := hD2.trans (hb3.mono hD2.size); have HBx3 := Lib.hid (HBx2h.out.below hb23 hs2); have hs3 : w.heap.size < w3.heap.size := Nat.lt_of_lt_of_le hs2 hb23.size; have hb03 := hb2.trans (hb23.mono hb2.size))
         | (go_at_call 76; refine (ends_any _ _ _ _ _ A5 n5 c5 b.inner z w _ h5 hb03 (by omega)).mono ?_; rintro e w4 ⟨v4, rfl, ho4, hb4⟩))
      have hb04 := hb03.trans (hb4.mono hb03.size)
      obtain ⟨g3, l3, -, q3, r3⟩ := ResP.one ho3
      obtain ⟨g4, l4', -, q4, r4⟩ := Res.one ho4
      have HT := Lib.hid (show TwoP w4 w.heap.size v3 v4 _ _ from ⟨g3, g4, by omega, by have := hb2.size; simp at l3; omega, by have := hb03.size; omega, r3.on hb4, r4⟩)
      clear r3 r4 ho3 ho4 q3 q4 l3 l4' hb3 hb4 hb23 hb03 x0 x1 x2 x3 x4 x5
      go_wp2_with fail
      refine bodyPost_ret (results_tmp3 rfl _ _ _) rfl ?_
      exact ⟨v3, v4, rfl, by rw [HA.out, HB.out]; exact HT.out, hb04⟩
end Go.Proofs.Ytifialdkjnmfoaa.psp

