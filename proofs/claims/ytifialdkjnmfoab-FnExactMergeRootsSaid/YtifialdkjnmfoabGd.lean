/- Whether a Bigraph is valid: spec.l2Good. -/
import Derived.Test.YtifialdkjnmfoabGn
import Derived.Test.YtifialdkjnmfoabNm
import Derived.Test.YtifialdkjnmfoabInN
import Derived.Test.YtifialdkjnmfoabHt
namespace Go.Proofs.Ytifialdkjnmfoab.gd
open kit bg sg sig only un hb opn over gn nm inn ht
open Go.RowKit
set_option linter.unusedVariables false

theorem sizes_of {b : Big} (h : sizesB b = true) : (0 ≤ b.roots ∧ b.roots ≤ 4) ∧ (0 ≤ b.edges ∧ b.edges ≤ 8) ∧ b.nodes.length ≤ 8 ∧ b.sites.length ≤ 4 ∧ b.outer.length ≤ 16 ∧ b.inner.length ≤ 16 := by
  unfold sizesB at h
  simp only [Bool.and_eq_true, decide_eq_true_eq] at h
  obtain ⟨⟨⟨⟨⟨h1, h2⟩, h3⟩, h4⟩, h5⟩, h6⟩ := h
  exact ⟨inb_true h1, inb_true h2, h3, h4, h5, h6⟩
theorem sizes_mk {b : Big} (h1 : 0 ≤ b.roots ∧ b.roots ≤ 4) (h2 : 0 ≤ b.edges ∧ b.edges ≤ 8) (h3 : b.nodes.length ≤ 8) (h4 : b.sites.length ≤ 4) (h5 : b.outer.length ≤ 16) (h6 : b.inner.length ≤ 16) : sizesB b = true := by
  unfold sizesB
  simp only [Bool.and_eq_true, decide_eq_true_eq]
  exact ⟨⟨⟨⟨⟨inb_mk h1, inb_mk h2⟩, h3⟩, h4⟩, h5⟩, h6⟩
theorem bad_sig {cs : List Ctl} {b : Big} (h : sigB cs = false) : bigB cs b = false := big_false (fun hp => by rw [sig_true hp.1] at h; cases h)
theorem bad_size {cs : List Ctl} {b : Big} (h : ¬ ((0 ≤ b.roots ∧ b.roots ≤ 4) ∧ (0 ≤ b.edges ∧ b.edges ≤ 8) ∧ b.nodes.length ≤ 8 ∧ b.sites.length ≤ 4 ∧ b.outer.length ≤ 16 ∧ b.inner.length ≤ 16)) : bigB cs b = false :=
  big_false (fun hp => h (sizes_of hp.2.1))
theorem bad_outer {cs : List Ctl} {b : Big} (h : namesB b.outer = false) : bigB cs b = false := big_false (fun hp => by rw [names_true hp.2.2.1] at h; cases h)
theorem bad_inner {cs : List Ctl} {b : Big} (h : namesB (nms b.inner) = false) : bigB cs b = false := big_false (fun hp => by have := names_true hp.2.2.2.1; unfold nms at h; rw [this] at h; cases h)
theorem bad_node {cs : List Ctl} {b : Big} {k : Nat} {x : Nd} (hx : b.nodes[k]? = some x) (h : nodeB cs b k x = false) : bigB cs b = false :=
  big_false (fun hp => by
    obtain ⟨h1, h2, h3⟩ := hp.2.2.2.2.1 k x hx
    unfold nodeB at h
    rw [h1, h2, links_all (fun i l _ hl => h3 i l hl) (Nat.le_refl _)] at h
    cases h)
theorem bad_site {cs : List Ctl} {b : Big} {i : Nat} {p : Int} (hp : b.sites[i]? = some p) (h : underB cs b p b.nodes.length = false) : bigB cs b = false :=
  big_false (fun hp' => by rw [hp'.2.2.2.2.2.1 i p hp] at h; cases h)
theorem bad_wire {cs : List Ctl} {b : Big} {i : Nat} {x : Wr} (hx : b.inner[i]? = some x) (h : linkB b x.link = false) : bigB cs b = false :=
  big_false (fun hp' => by rw [hp'.2.2.2.2.2.2 i x hx] at h; cases h)
theorem good_all {cs : List Ctl} {b : Big} (h1 : sigB cs = true) (h2 : (0 ≤ b.roots ∧ b.roots ≤ 4) ∧ (0 ≤ b.edges ∧ b.edges ≤ 8) ∧ b.nodes.length ≤ 8 ∧ b.sites.length ≤ 4 ∧ b.outer.length ≤ 16 ∧ b.inner.length ≤ 16) (h3 : namesB b.outer = true) (h4 : namesB (nms b.inner) = true)
    (h5 : ∀ (k : Nat) x, b.nodes[k]? = some x → nodeB cs b k x = true) (h6 : ∀ (i : Nat) p, b.sites[i]? = some p → underB cs b p b.nodes.length = true) (h7 : ∀ (i : Nat) x, b.inner[i]? = some x → linkB b x.link = true) : bigB cs b = true := by
  obtain ⟨a1, a2, a3, a4, a5, a6⟩ := h2
  refine big_true ⟨sig_of h1, sizes_mk a1 a2 a3 a4 a5 a6, names_of h3, names_of h4, fun k x hx => ?_, h6, h7⟩
  have := h5 k x hx
  unfold nodeB at this
  simp only [Bool.and_eq_true] at this
  obtain ⟨⟨q1, q2⟩, q3⟩ := this
  exact ⟨q1, q2, fun i l hl => List.all_eq_true.1 q3 l (List.mem_of_getElem? hl)⟩
theorem ctrl_of {cs : List Ctl} {b : Big} {m : Nat} (h : ∀ (j : Nat) x, j < m → b.nodes[j]? = some x → nodeB cs b j x = true) : Ctrl cs b.nodes m := fun j x hj hx => by
  have := h j x hj hx
  unfold nodeB seatB at this
  simp only [Bool.and_eq_true] at this
  exact this.1.1.1

set_option maxRecDepth 100000 in
set_option maxHeartbeats 6400000 in
theorem l2Good_any (A : Option Addr) (n c : Nat) (cs : List Ctl) (v : Value) (b : Big) (w : World) (hC : CtlsAt w w.heap.size A n cs) (hv : BigAt w w.heap.size v b) (hn : n ≤ 1048576) (hs : ∀ c ∈ cs, c.name.size ≤ 1048576) (hS : BigS b) (hw : BigW b) :
    Calls Try.prog 29 #[.slice A n c, v] w (Post (bigB cs b) w) := by
  obtain ⟨A1, n1, c1, A2, n2, c2, A4, n4, c4, A5, n5, c5, rfl, h1, h2, h4, h5⟩ := hv
  obtain ⟨s1, -, s2, s4, ss4, s5, ss5⟩ := hS
  obtain ⟨hwr, hwe, -, hwn, -, hws, -, -, -, hwi⟩ := hw
  have l1 := h1.1
  have l2 := h2.len
  have l4 := h4.strlen
  have l5 := h5.1
  have HL := Lib.hid (And.intro l1 (And.intro l2 (And.intro l4 l5)))
  have m1 : n1 ≤ 1048576 := by omega
  have m2 : n2 ≤ 1048576 := by omega
  have m4 : n4 ≤ 1048576 := by omega
  have m5 : n5 ≤ 1048576 := by omega
  have HSs := Lib.hid ss4
  have HSi := Lib.hid (show ∀ s ∈ nms b.inner, s.size ≤ 1048576 from fun s hs => by
    unfold nms at hs
    obtain ⟨x, hx, rfl⟩ := List.mem_map.1 hs
    exact ss5 x hx)
  have HWn := Lib.hid hwn
  have HWs := Lib.hid hws
  have HWi := Lib.hid hwi
  have HBox := Lib.hid (six_new w (.int .i64 b.roots) (.slice A1 n1 c1) (.slice A2 n2 c2) (.int .i64 b.edges) (.slice A4 n4 c4) (.slice A5 n5 c5) 34)
  have HB0 := Lib.hid ((Below.refl w.heap.size w).alloc (Nat.le_refl _) (.cells #[.int .i64 b.roots, .slice A1 n1 c1, .slice A2 n2 c2, .int .i64 b.edges, .slice A4 n4 c4, .slice A5 n5 c5] 34))
  have HNl := Lib.hid (show (nms b.inner).length = n5 by unfold nms; rw [List.length_map]; exact l5)
  clear l1 l2 l4 l5 s1 s2 s4 ss4 s5 ss5 hwr hwe hwn hws hwi
  obtain ⟨g, hg⟩ : ∃ g, bigB cs b = g := ⟨_, rfl⟩
  rw [hg]
  have HG := Lib.hid hg
  have HCS := Lib.hid (fun W h => l2Sig_any A n c cs W w.heap.size h hn hs)
  clear hg hs
  cases qs : sigB cs with
  | false =>
    rw [qs] at HCS
    have HNo := Lib.hid (HG.out.symm.trans (bad_sig qs))
    go_enter Try.func29, Try.ntmps29
    go_wp2_with fail
    refine (HCS.out _ (hC.below HB0.out)).mono ?_
    rintro e w1 ⟨rfl, hb⟩
    have hb1 := HB0.out.trans (hb.mono HB0.out.size)
    clear hb
    go_wp2_with fail
    go_ret
    exact ⟨by rw [HNo.out]; rfl, hb1⟩
  | true =>
    rw [qs] at HCS
    have HQs := Lib.hid qs
    clear qs
    cases q1 : inb b.roots 0 4 with
    | false =>
      have HNo := Lib.hid (HG.out.symm.trans (bad_size (fun h => inb_false q1 h.1)))
      go_enter Try.func29, Try.ntmps29
      go_wp2_with fail
      refine (HCS.out _ (hC.below HB0.out)).mono ?_
      rintro e w1 ⟨rfl, hb⟩
      have hb1 := HB0.out.trans (hb.mono HB0.out.size)
      obtain ⟨x0, x1, x2, x3, x4, x5⟩ := row6 (HBox.out.of_block (hb.block w.heap.size (by simp)))
      simp only [six] at x0 x1 x2 x3 x4 x5
      simp at x0 x1 x2 x3 x4 x5
      clear hb
      go_wp2_with (go_at_call 74; refine (in_any _ _ _ _).mono ?_; rintro e w' ⟨rfl, rfl⟩)
      go_ret
      exact ⟨by rw [HNo.out]; rfl, hb1⟩
    | true =>
      by_cases q2 : n1 ≤ 8
      · by_cases q3 : n2 ≤ 4
        · cases q4 : inb b.edges 0 8 with
          | false =>
            have HNo := Lib.hid (HG.out.symm.trans (bad_size (fun h => inb_false q4 h.2.1)))
            go_enter Try.func29, Try.ntmps29
            go_wp2_with fail
            refine (HCS.out _ (hC.below HB0.out)).mono ?_
            rintro e w1 ⟨rfl, hb⟩
            have hb1 := HB0.out.trans (hb.mono HB0.out.size)
            obtain ⟨x0, x1, x2, x3, x4, x5⟩ := row6 (HBox.out.of_block (hb.block w.heap.size (by simp)))
            simp only [six] at x0 x1 x2 x3 x4 x5
            simp at x0 x1 x2 x3 x4 x5
            clear hb
            go_wp2_with (go_at_call 74; refine (in_any _ _ _ _).mono ?_; rintro e w' ⟨rfl, rfl⟩)
            go_ret
            exact ⟨by rw [HNo.out]; rfl, hb1⟩
          | true =>
            have HQ1 := Lib.hid (inb_true q1)
            have HQ4 := Lib.hid (inb_true q4)
            go_enter Try.func29, Try.ntmps29
            go_wp2_with fail
            refine (HCS.out _ (hC.below HB0.out)).mono ?_
            rintro e w1 ⟨rfl, hb⟩
            have hb1 := HB0.out.trans (hb.mono HB0.out.size)
            have HBox1 := Lib.hid (HBox.out.of_block (hb.block w.heap.size (by simp)))
            obtain ⟨x0, x1, x2, x3, x4, x5⟩ := row6 HBox1.out
            simp only [six] at x0 x1 x2 x3 x4 x5
            simp at x0 x1 x2 x3 x4 x5
            clear hb
            go_wp2_with (go_at_call 74; refine (in_any _ _ _ _).mono ?_; rintro e w' ⟨rfl, rfl⟩)
            clear x0 x1 x2 x3 x4 x5 q1 q4
            have CN := l2Names_any A4 n4 c4 b.outer w1 w.heap.size (h4.below hb1) m4 HSs.out
            cases qo : (namesB b.outer && decide ((n4 : Int) ≤ 16)) with
            | false =>
              rw [qo] at CN
              have HNo : Hid (g = false) := by
                cases qn : namesB b.outer with
                | false => exact Lib.hid (HG.out.symm.trans (bad_outer qn))
                | true =>
                  rw [qn] at qo
                  have : ¬ (n4 : Int) ≤ 16 := by simpa using qo
                  exact Lib.hid (HG.out.symm.trans (bad_size (fun h => by have := h.2.2.2.2.1; have := HL.out.2.2.1; omega)))
              clear qo
              refine CN.mono ?_
              rintro e w2 ⟨rfl, hb⟩
              have hb2 := hb1.trans (hb.mono hb1.size)
              clear hb
              go_wp2_with fail
              go_ret
              exact ⟨by rw [HNo.out]; rfl, hb2⟩
            | true =>
              rw [qo] at CN
              simp only [Bool.and_eq_true, decide_eq_true_eq] at qo
              obtain ⟨qo1, qo2⟩ := qo
              have HO1 := Lib.hid qo1
              have p4 : n4 ≤ 16 := by omega
              clear qo1 qo2
              refine CN.mono ?_
              rintro e w2 ⟨rfl, hb⟩
              have hb2 := hb1.trans (hb.mono hb1.size)
              have HBox2 := Lib.hid (HBox1.out.of_block (hb.block w.heap.size HBox1.out.lt))
              clear hb CN
              obtain ⟨x0, x1, x2, x3, x4, x5⟩ := row6 HBox2.out
              simp only [six] at x0 x1 x2 x3 x4 x5
              simp at x0 x1 x2 x3 x4 x5
              by_cases q5 : n5 ≤ 16
              · go_wp2_with fail
                refine (l2Inner_any _ _ _ _ _ A5 n5 c5 b.inner w w2 h5 hb2 m5).mono ?_
                rintro e w3 ⟨v3, rfl, ho3, hb⟩
                have hb3 := hb2.trans (hb.mono hb2.size)
                have HBox3 := Lib.hid (HBox2.out.of_block (hb.block w.heap.size HBox2.out.lt))
                obtain ⟨g3, cap3, rfl, hg3, hg3', hc3, hs3⟩ := ho3.at
                have hlen3 : ((nms b.inner).map Value.string).length = n5 := by rw [List.length_map]; exact HNl.out
                rw [hlen3] at hs3 ⊢
                clear hb ho3 x0 x1 x2 x3 x4 x5
                go_wp2_with fail
                have CM := l2Names_any (some ⟨g3, 0, none⟩) n5 cap3 (nms b.inner) w3 w3.heap.size hs3 m5 HSi.out
                cases qn : (namesB (nms b.inner) && decide ((n5 : Int) ≤ 16)) with
                | false =>
                  rw [qn] at CM
                  have HNo : Hid (g = false) := by
                    cases qn2 : namesB (nms b.inner) with
                    | false => exact Lib.hid (HG.out.symm.trans (bad_inner qn2))
                    | true =>
                      rw [qn2] at qn
                      have : ¬ (n5 : Int) ≤ 16 := by simpa using qn
                      exact absurd (show (n5 : Int) ≤ 16 by omega) this
                  clear qn
                  refine CM.mono ?_
                  rintro e w4 ⟨rfl, hb⟩
                  have hb4 := hb3.trans (hb.mono hb3.size)
                  clear hb
                  go_wp2_with fail
                  go_ret
                  exact ⟨by rw [HNo.out]; rfl, hb4⟩
                | true =>
                  rw [qn] at CM
                  simp only [Bool.and_eq_true, decide_eq_true_eq] at qn
                  obtain ⟨qn1, -⟩ := qn
                  have HN1 := Lib.hid qn1
                  clear qn1
                  refine CM.mono ?_
                  rintro e w4 ⟨rfl, hb⟩
                  have hb4 := hb3.trans (hb.mono hb3.size)
                  have HBox4 := Lib.hid (HBox3.out.of_block (hb.block w.heap.size HBox3.out.lt))
                  have hW4 := HBox4.out.lt
                  clear hb CM hs3 hg3 hg3'
                  go_wp2_with fail
                  go_loopw [5] (fun i wr => ∃ j : Nat, j ≤ n1 ∧ i = .int .i64 j ∧ (∀ (j' : Nat) x, j' < j → b.nodes[j']? = some x → nodeB cs b j' x = true) ∧ Below w4.heap.size w4 wr) (fun i _ => n1 - (intOf i).toNat)
                  case atStart => exact ⟨0, Nat.zero_le _, rfl, fun j x hj => absurd hj (Nat.not_lt_zero j), Below.refl _ _⟩
                  case round =>
                    obtain ⟨j, hj, rfl, hnd, hbel⟩ := hrel
                    have HNd := Lib.hid hnd
                    have hbw := hb4.trans (hbel.mono hb4.size)
                    have HBel := Lib.hid hbel
                    clear hnd hbel
                    obtain ⟨x0, x1, x2, x3, x4, x5⟩ := row6 (HBox4.out.of_block (HBel.out.block w.heap.size hW4))
                    simp only [six] at x0 x1 x2 x3 x4 x5
                    simp at x0 x1 x2 x3 x4 x5
                    by_cases hlt : j < n1
                    · have hx : b.nodes[j]? = some (b.nodes[j]'(by have := HL.out.1; omega)) := List.getElem?_eq_getElem _
                      obtain ⟨x, hxe⟩ : ∃ x, b.nodes[j]'(by have := HL.out.1; omega) = x := ⟨_, rfl⟩
                      rw [hxe] at hx
                      have CX := l2Node_any A n c cs A1 n1 c1 (.slice A2 n2 c2) (.slice A5 n5 c5) A4 n4 c4 b j x w wr hC h1 hbw HQ1.out HQ4.out p4 HL.out.2.2.1 q2 hn hlt (ctrl_of HNd.out) hx (HWn.out x (List.mem_of_getElem? hx))
                      have HX := Lib.hid hx
                      clear hx hxe
                      cases qx : nodeB cs b j x with
                      | false =>
                        rw [qx] at CX
                        have HNo := Lib.hid (HG.out.symm.trans (bad_node HX.out qx))
                        clear qx
                        go_wp2_with fail
                        refine CX.mono ?_
                        rintro e w6 ⟨rfl, hb⟩
                        have hb6 := hbw.trans (hb.mono hbw.size)
                        clear hb CX x0 x1 x2 x3 x4 x5
                        go_wp2_with fail
                        go_ret
                        exact ⟨by rw [HNo.out]; rfl, hb6⟩
                      | true =>
                        rw [qx] at CX
                        have HYes := Lib.hid qx
                        clear qx
                        go_wp2_with fail
                        refine CX.mono ?_
                        rintro e w6 ⟨rfl, hb⟩
                        have HB6 := Lib.hid (HBel.out.trans (hb.mono HBel.out.size))
                        clear hb CX x0 x1 x2 x3 x4 x5
                        go_wp2_with fail
                        go_roundw
                        case rel => exact ⟨j + 1, by omega, by go_num, fun j' x' hj' hx' => by
                          by_cases e : j' = j
                          · subst e; rw [HX.out] at hx'; injection hx' with e; subst e; exact HYes.out
                          · exact HNd.out j' x' (by omega) hx', HB6.out⟩
                        case measure => simp [intOf]; omega
                    · obtain rfl : n1 = j := by omega
                      have HCt := Lib.hid (ctrl_of HNd.out)
                      have hW6 := (HBox4.out.of_block (HBel.out.block w.heap.size hW4)).lt
                      obtain ⟨w7, hw7⟩ : ∃ w7, wr = w7 := ⟨_, rfl⟩
                      rw [hw7] at hbw hW6 HBel ⊢
                      clear hw7 x0 x1 x2 x3 x4 x5
                      have HBox7 := Lib.hid (HBox4.out.of_block (HBel.out.block w.heap.size hW4))
                      obtain ⟨x0, x1, x2, x3, x4, x5⟩ := row6 HBox7.out
                      simp only [six] at x0 x1 x2 x3 x4 x5
                      simp at x0 x1 x2 x3 x4 x5
                      go_wp2_with fail
                      clear x0 x1 x2 x3 x4 x5
                      go_loopw [6] (fun i wr => ∃ j : Nat, j ≤ n2 ∧ i = .int .i64 j ∧ (∀ (j' : Nat) p, j' < j → b.sites[j']? = some p → underB cs b p n1 = true) ∧ Below w7.heap.size w7 wr) (fun i _ => n2 - (intOf i).toNat)
                      case atStart => exact ⟨0, Nat.zero_le _, rfl, fun j x hj => absurd hj (Nat.not_lt_zero j), Below.refl _ _⟩
                      case round =>
                        obtain ⟨j, hj, rfl, hnd2, hbel⟩ := hrel
                        have HS2 := Lib.hid hnd2
                        have hbw2 := hbw.trans (hbel.mono hbw.size)
                        have HBel2 := Lib.hid hbel
                        obtain ⟨x0, x1, x2, x3, x4, x5⟩ := row6 (HBox7.out.of_block (hbel.block w.heap.size hW6))
                        simp only [six] at x0 x1 x2 x3 x4 x5
                        simp at x0 x1 x2 x3 x4 x5
                        have hWr := (HBox7.out.of_block (hbel.block w.heap.size hW6)).lt
                        clear hnd2 hbel
                        by_cases hlt : j < n2
                        · obtain ⟨bs, offs, p, rfl, hbs, hp, cp⟩ := h2.get hlt
                          have cp2 := (hbw2.cell (p := ⟨bs, offs + j, none⟩) hbs).trans cp
                          have CU := fun y : Over wr => under_any A n c cs A1 n1 c1 (.slice (some ⟨bs, offs, none⟩) n2 c2) (.int .i64 b.edges) (.slice A4 n4 c4) (.slice A5 n5 c5) b p n1 w y.w hC h1 (hbw2.trans (y.below.mono hbw2.size)) HQ1.out q2 hn (Nat.le_refl _) HCt.out (HWs.out p (List.mem_of_getElem? hp))
                          have HP := Lib.hid hp
                          have hbsr : bs < wr.heap.size := Nat.lt_of_lt_of_le hbs hbw2.size
                          have s0 := Over.get x0 hWr
                          have s1 := Over.get x1 hWr
                          have s2 := Over.get x2 hWr
                          have s3 := Over.get x3 hWr
                          have s4 := Over.get x4 hWr
                          have s5 := Over.get x5 hWr
                          have sp := Over.get cp2 hbsr
                          clear hp cp cp2
                          cases qu : underB cs b p n1 with
                          | false =>
                            rw [qu] at CU
                            have HK := Lib.hid (fun y => over_call (CU y))
                            have HNo := Lib.hid (HG.out.symm.trans (bad_site HP.out (by rw [HL.out.1]; exact qu)))
                            clear qu CU
                            go_wp2_with fail
                            clear x0 x1 x2 x3 x4 x5
                            refine wp_region_over (by kernel_rfl) (by kernel_rfl) ?_
                            repeat (go_big_quiet_step ((go_at_call 78; exact HK.out _)))
                            refine wpQuiet_nil ?_
                            rintro _ ⟨y, rfl⟩
                            have hy := y.below
                            obtain ⟨w9, hw9⟩ : ∃ w9, y.w = w9 := ⟨_, rfl⟩
                            rw [hw9] at hy ⊢
                            clear hw9 s0 s1 s2 s3 s4 s5 sp
                            have hb9 := hbw2.trans (hy.mono hbw2.size)
                            clear hy
                            go_wp2_with fail
                            go_ret
                            exact ⟨by rw [HNo.out]; rfl, hb9⟩
                          | true =>
                            rw [qu] at CU
                            have HK := Lib.hid (fun y => over_call (CU y))
                            have HYes := Lib.hid qu
                            clear qu CU
                            go_wp2_with fail
                            clear x0 x1 x2 x3 x4 x5
                            refine wp_region_over (by kernel_rfl) (by kernel_rfl) ?_
                            repeat (go_big_quiet_step ((go_at_call 78; exact HK.out _)))
                            refine wpQuiet_nil ?_
                            rintro _ ⟨y, rfl⟩
                            have hy := y.below
                            obtain ⟨w9, hw9⟩ : ∃ w9, y.w = w9 := ⟨_, rfl⟩
                            rw [hw9] at hy ⊢
                            clear hw9 s0 s1 s2 s3 s4 s5 sp
                            have HB9 := Lib.hid (HBel2.out.trans (hy.mono HBel2.out.size))
                            clear hy
                            go_wp2_with fail
                            go_roundw
                            case rel => exact ⟨j + 1, by omega, by go_num, fun j' x' hj' hx' => by
                              by_cases e : j' = j
                              · subst e; rw [HP.out] at hx'; injection hx' with e; subst e; exact HYes.out
                              · exact HS2.out j' x' (by omega) hx', HB9.out⟩
                            case measure => simp [intOf]; omega
                        · obtain rfl : n2 = j := by omega
                          obtain ⟨w8, hw8⟩ : ∃ w8, wr = w8 := ⟨_, rfl⟩
                          rw [hw8] at hbw2 hWr HBel2 x0 x1 x2 x3 x4 x5 ⊢
                          clear hw8
                          have HBox8 := Lib.hid (HBox7.out.of_block (HBel2.out.block w.heap.size hW6))
                          go_wp2_with fail
                          clear x0 x1 x2 x3 x4 x5
                          go_loopw [7] (fun i wr => ∃ j : Nat, j ≤ n5 ∧ i = .int .i64 j ∧ (∀ (j' : Nat) x, j' < j → b.inner[j']? = some x → linkB b x.link = true) ∧ Below w8.heap.size w8 wr) (fun i _ => n5 - (intOf i).toNat)
                          case atStart => exact ⟨0, Nat.zero_le _, rfl, fun j x hj => absurd hj (Nat.not_lt_zero j), Below.refl _ _⟩
                          case round =>
                            obtain ⟨j, hj, rfl, hnd3, hbel⟩ := hrel
                            have HS3 := Lib.hid hnd3
                            have hbw3 := hbw2.trans (hbel.mono hbw2.size)
                            have HBel3 := Lib.hid hbel
                            obtain ⟨x0, x1, x2, x3, x4, x5⟩ := row6 (HBox8.out.of_block (hbel.block w.heap.size hWr))
                            simp only [six] at x0 x1 x2 x3 x4 x5
                            simp at x0 x1 x2 x3 x4 x5
                            have hWr3 := (HBox8.out.of_block (hbel.block w.heap.size hWr)).lt
                            clear hnd3 hbel
                            by_cases hlt : j < n5
                            · obtain ⟨bi, offi, x, rfl, hbi, hx, cn, cl⟩ := h5.get hlt
                              have cl2 := (hbw3.cell (p := ⟨bi, offi + j * 2 + 1, none⟩) hbi).trans cl
                              have CU := fun y : Over wr => lk_any (.int .i64 b.roots) (.slice A1 n1 c1) (.slice A2 n2 c2) (.slice (some ⟨bi, offi, none⟩) n5 c5) b.edges x.link A4 n4 c4 y.w HQ4.out p4
                              have HX := Lib.hid hx
                              have hbir : bi < wr.heap.size := Nat.lt_of_lt_of_le hbi hbw3.size
                              have HLB := Lib.hid (show linkB b x.link = inb x.link 0 (b.edges + n4 - 1) by unfold linkB; rw [HL.out.2.2.1])
                              have s0 := Over.get x0 hWr3
                              have s1 := Over.get x1 hWr3
                              have s2 := Over.get x2 hWr3
                              have s3 := Over.get x3 hWr3
                              have s4 := Over.get x4 hWr3
                              have s5 := Over.get x5 hWr3
                              have sp := Over.get cl2 hbir
                              clear hx cn cl cl2
                              cases qu : inb x.link 0 (b.edges + n4 - 1) with
                              | false =>
                                rw [qu] at CU
                                have HK := Lib.hid (fun y => over_call (CU y))
                                have HNo := Lib.hid (HG.out.symm.trans (bad_wire HX.out (HLB.out.trans qu)))
                                clear qu CU
                                go_wp2_with fail
                                clear x0 x1 x2 x3 x4 x5
                                refine wp_region_over (by kernel_rfl) (by kernel_rfl) ?_
                                repeat (go_big_quiet_step ((go_at_call 79; exact HK.out _)))
                                refine wpQuiet_nil ?_
                                rintro _ ⟨y, rfl⟩
                                have hy := y.below
                                obtain ⟨w9, hw9⟩ : ∃ w9, y.w = w9 := ⟨_, rfl⟩
                                rw [hw9] at hy ⊢
                                clear hw9 s0 s1 s2 s3 s4 s5 sp
                                have hb9 := hbw3.trans (hy.mono hbw3.size)
                                clear hy
                                go_wp2_with fail
                                go_ret
                                exact ⟨by rw [HNo.out]; rfl, hb9⟩
                              | true =>
                                rw [qu] at CU
                                have HK := Lib.hid (fun y => over_call (CU y))
                                have HYes := Lib.hid (HLB.out.trans qu)
                                clear qu CU
                                go_wp2_with fail
                                clear x0 x1 x2 x3 x4 x5
                                refine wp_region_over (by kernel_rfl) (by kernel_rfl) ?_
                                repeat (go_big_quiet_step ((go_at_call 79; exact HK.out _)))
                                refine wpQuiet_nil ?_
                                rintro _ ⟨y, rfl⟩
                                have hy := y.below
                                obtain ⟨w9, hw9⟩ : ∃ w9, y.w = w9 := ⟨_, rfl⟩
                                rw [hw9] at hy ⊢
                                clear hw9 s0 s1 s2 s3 s4 s5 sp
                                have HB9 := Lib.hid (HBel3.out.trans (hy.mono HBel3.out.size))
                                clear hy
                                go_wp2_with fail
                                go_roundw
                                case rel => exact ⟨j + 1, by omega, by go_num, fun j' x' hj' hx' => by
                                  by_cases e : j' = j
                                  · subst e; rw [HX.out] at hx'; injection hx' with e; subst e; exact HYes.out
                                  · exact HS3.out j' x' (by omega) hx', HB9.out⟩
                                case measure => simp [intOf]; omega
                            · obtain rfl : n5 = j := by omega
                              have HYes := Lib.hid (HG.out.symm.trans (good_all HQs.out ⟨HQ1.out, HQ4.out, by rw [HL.out.1]; exact q2, by rw [HL.out.2.1]; exact q3, by rw [HL.out.2.2.1]; exact p4, by rw [HL.out.2.2.2]; exact q5⟩ HO1.out HN1.out
                                (fun k x hx => HNd.out k x (by have := (List.getElem?_eq_some_iff.1 hx).1; have := HL.out.1; omega) hx)
                                (fun i p hp => by rw [HL.out.1]; exact HS2.out i p (by have := (List.getElem?_eq_some_iff.1 hp).1; have := HL.out.2.1; omega) hp)
                                (fun i x hx => HS3.out i x (by have := (List.getElem?_eq_some_iff.1 hx).1; have := HL.out.2.2.2; omega) hx)))
                              go_wp2_with fail
                              go_ret
                              exact ⟨by rw [HYes.out]; rfl, hbw3⟩
              · have q5' : 16 < n5 := by omega
                have HNo := Lib.hid (HG.out.symm.trans (bad_size (fun h => by have := h.2.2.2.2.2; have := HL.out.2.2.2; omega)))
                go_wp2_with fail
                go_ret
                exact ⟨by rw [HNo.out]; rfl, hb2⟩
        · have q3' : 4 < n2 := by omega
          have HNo := Lib.hid (HG.out.symm.trans (bad_size (fun h => by have := h.2.2.2.1; have := HL.out.2.1; omega)))
          go_enter Try.func29, Try.ntmps29
          go_wp2_with fail
          refine (HCS.out _ (hC.below HB0.out)).mono ?_
          rintro e w1 ⟨rfl, hb⟩
          have hb1 := HB0.out.trans (hb.mono HB0.out.size)
          obtain ⟨x0, x1, x2, x3, x4, x5⟩ := row6 (HBox.out.of_block (hb.block w.heap.size (by simp)))
          simp only [six] at x0 x1 x2 x3 x4 x5
          simp at x0 x1 x2 x3 x4 x5
          clear hb
          go_wp2_with (go_at_call 74; refine (in_any _ _ _ _).mono ?_; rintro e w' ⟨rfl, rfl⟩)
          go_ret
          exact ⟨by rw [HNo.out]; rfl, hb1⟩
      · have q2' : 8 < n1 := by omega
        have HNo := Lib.hid (HG.out.symm.trans (bad_size (fun h => by have := h.2.2.1; have := HL.out.1; omega)))
        go_enter Try.func29, Try.ntmps29
        go_wp2_with fail
        refine (HCS.out _ (hC.below HB0.out)).mono ?_
        rintro e w1 ⟨rfl, hb⟩
        have hb1 := HB0.out.trans (hb.mono HB0.out.size)
        obtain ⟨x0, x1, x2, x3, x4, x5⟩ := row6 (HBox.out.of_block (hb.block w.heap.size (by simp)))
        simp only [six] at x0 x1 x2 x3 x4 x5
        simp at x0 x1 x2 x3 x4 x5
        clear hb
        go_wp2_with (go_at_call 74; refine (in_any _ _ _ _).mono ?_; rintro e w' ⟨rfl, rfl⟩)
        go_ret
        exact ⟨by rw [HNo.out]; rfl, hb1⟩
end Go.Proofs.Ytifialdkjnmfoab.gd
