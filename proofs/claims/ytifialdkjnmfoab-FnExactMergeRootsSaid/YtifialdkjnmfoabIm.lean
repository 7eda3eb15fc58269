/- impl.sizesFit, impl.mayHold, impl.placesFit. -/
import Derived.Test.YtifialdkjnmfoabGd
namespace Go.Proofs.Ytifialdkjnmfoab.im
open kit bg sg sig only un hb opn over gn nm inn ht gd
open Go.RowKit
set_option linter.unusedVariables false

theorem sizes_no {b : Big} (h : ¬ ((0 ≤ b.roots ∧ b.roots ≤ 4) ∧ (0 ≤ b.edges ∧ b.edges ≤ 8) ∧ b.nodes.length ≤ 8 ∧ b.sites.length ≤ 4 ∧ b.outer.length ≤ 16 ∧ b.inner.length ≤ 16)) : sizesB b = false := by
  cases hq : sizesB b with
  | false => rfl
  | true => exact absurd (sizes_of hq) h

set_option maxHeartbeats 1600000 in
theorem sizes_any (A1 A2 A4 A5 : Option Addr) (n1 n2 n4 n5 c1 c2 c4 c5 : Nat) (b : Big) (w : World) (l1 : b.nodes.length = n1) (l2 : b.sites.length = n2) (l4 : b.outer.length = n4) (l5 : b.inner.length = n5) (m1 : n1 ≤ 1048576) (m2 : n2 ≤ 1048576) (m4 : n4 ≤ 1048576) (m5 : n5 ≤ 1048576) :
    Calls Try.prog 84 #[.agg #[.int .i64 b.roots, .slice A1 n1 c1, .slice A2 n2 c2, .int .i64 b.edges, .slice A4 n4 c4, .slice A5 n5 c5]] w (Post (sizesB b) w) := by
  have HL := Lib.hid (And.intro l1 (And.intro l2 (And.intro l4 l5)))
  clear l1 l2 l4 l5
  obtain ⟨g, hg⟩ : ∃ g, sizesB b = g := ⟨_, rfl⟩
  rw [hg]
  have HG := Lib.hid hg
  clear hg
  have hbx := Lib.hid ((Below.refl w.heap.size w).alloc (Nat.le_refl _) (.cells #[.int .i64 b.roots, .slice A1 n1 c1, .slice A2 n2 c2, .int .i64 b.edges, .slice A4 n4 c4, .slice A5 n5 c5] 34))
  cases q1 : inb b.roots 0 4 with
  | false =>
    have HNo := Lib.hid (HG.out.symm.trans (sizes_no (fun h => inb_false q1 h.1)))
    go_enter Try.func84, Try.ntmps84
    go_wp2_with (go_at_call 109; refine (win_any _ _ _ _).mono ?_; rintro e w' ⟨rfl, rfl⟩)
    go_ret
    exact ⟨by rw [HNo.out]; rfl, hbx.out⟩
  | true =>
    cases q2 : inb b.edges 0 8 with
    | false =>
      have HNo := Lib.hid (HG.out.symm.trans (sizes_no (fun h => inb_false q2 h.2.1)))
      go_enter Try.func84, Try.ntmps84
      go_wp2_with (go_at_call 109; refine (win_any _ _ _ _).mono ?_; rintro e w' ⟨rfl, rfl⟩)
      go_ret
      exact ⟨by rw [HNo.out]; rfl, hbx.out⟩
    | true =>
      by_cases q3 : n1 ≤ 8
      · by_cases q4 : n2 ≤ 4
        · by_cases q5 : n4 ≤ 16
          · have HE : Hid (g = decide ((n5 : Int) ≤ 16)) := by
              refine Lib.hid (HG.out.symm.trans ?_)
              by_cases q6 : n5 ≤ 16
              · rw [decide_eq_true (show (n5 : Int) ≤ 16 by omega)]
                have := HL.out
                exact sizes_mk (inb_true q1) (inb_true q2) (by omega) (by omega) (by omega) (by omega)
              · rw [decide_eq_false (show ¬ (n5 : Int) ≤ 16 by omega)]
                have := HL.out
                exact sizes_no (fun h => q6 (by omega))
            go_enter Try.func84, Try.ntmps84
            go_wp2_with (go_at_call 109; refine (win_any _ _ _ _).mono ?_; rintro e w' ⟨rfl, rfl⟩)
            go_ret
            exact ⟨by rw [HE.out]; rfl, hbx.out⟩
          · have q5' : 16 < n4 := by omega
            have hd : decide ((n4 : Int) ≤ 16) = false := by simp; omega
            have HNo := Lib.hid (HG.out.symm.trans (sizes_no (fun h => by have := HL.out; omega)))
            go_enter Try.func84, Try.ntmps84
            go_wp2_with (go_at_call 109; refine (win_any _ _ _ _).mono ?_; rintro e w' ⟨rfl, rfl⟩)
            go_ret
            exact ⟨by rw [HNo.out]; rfl, hbx.out⟩
        · have q4' : 4 < n2 := by omega
          have HNo := Lib.hid (HG.out.symm.trans (sizes_no (fun h => by have := HL.out; omega)))
          go_enter Try.func84, Try.ntmps84
          go_wp2_with (go_at_call 109; refine (win_any _ _ _ _).mono ?_; rintro e w' ⟨rfl, rfl⟩)
          go_ret
          exact ⟨by rw [HNo.out]; rfl, hbx.out⟩
      · have q3' : 8 < n1 := by omega
        have HNo := Lib.hid (HG.out.symm.trans (sizes_no (fun h => by have := HL.out; omega)))
        go_enter Try.func84, Try.ntmps84
        go_wp2_with (go_at_call 109; refine (win_any _ _ _ _).mono ?_; rintro e w' ⟨rfl, rfl⟩)
        go_ret
        exact ⟨by rw [HNo.out]; rfl, hbx.out⟩

set_option maxHeartbeats 800000 in
theorem hold_any (A : Option Addr) (n c : Nat) (cs : List Ctl) (A1 : Option Addr) (n1 c1 : Nat) (v2 v3 v4 v5 : Value) (b : Big) (p : Int) (m : Nat) (w0 w : World) (hC : CtlsAt w0 w0.heap.size A n cs) (hN : NdsAt w0 w0.heap.size A1 n1 b.nodes) (hb : Below w0.heap.size w0 w)
    (hR : 0 ≤ b.roots ∧ b.roots ≤ 4) (hn1 : n1 ≤ 8) (hn : n ≤ 1048576) (hm : m ≤ n1) (hk : Ctrl cs b.nodes m) (hp : (Lit.int .i64 p).wf = true) :
    Calls Try.prog 111 #[.slice A n c, .agg #[.int .i64 b.roots, .slice A1 n1 c1, v2, v3, v4, v5], .int .i64 p, .int .i64 m] w (Post (underB cs b p m) w) := by
  obtain ⟨hp0, hp1⟩ := bounds_i64 hp
  by_cases hneg : p < 0
  · have HU := Lib.hid (under_root (cs := cs) (b := b) (m := m) hneg)
    have HRt := Lib.hid (fun W => root_eq p b.roots ▸ irt_any (.slice A1 n1 c1) v2 v3 v4 v5 b.roots p W hR)
    have HBx := Lib.hid ((Below.refl w.heap.size w).alloc (Nat.le_refl _) (.cells #[.int .i64 b.roots, .slice A1 n1 c1, v2, v3, v4, v5] 34))
    clear hp
    go_enter Try.func111, Try.ntmps111
    go_wp2_with fail
    refine (HRt.out _).mono ?_
    rintro e w1 ⟨rfl, hb1⟩
    have hb2 := HBx.out.trans (hb1.mono HBx.out.size)
    clear hb1
    go_wp2_with fail
    go_ret
    exact ⟨by rw [HU.out]; rfl, hb2⟩
  · obtain ⟨h0, h1⟩ := hR
    by_cases hlt : p < (m : Int)
    · obtain ⟨q, rfl⟩ : ∃ q : Nat, p = q := ⟨p.toNat, by omega⟩
      obtain ⟨b1, off1, x, rfl, hb1, hx, d0, d1, L, mL, cL, d2, -⟩ := hN.get (show q < n1 by omega)
      obtain ⟨k0, k1⟩ := inb_true (hk q x (by omega) hx)
      have hqn : q < n1 := by omega
      obtain ⟨t, ht⟩ : ∃ t : Nat, x.control = t := ⟨x.control.toNat, by omega⟩
      have htn : t < n := by have := hC.1; omega
      obtain ⟨b2, off2, y, rfl, hb2, hy, e0, e1, e2⟩ := hC.get htn
      have HU := Lib.hid (under_node (b := b) hlt hx (show cs[x.control.toNat]? = some y by rw [ht]; exact hy))
      rw [ht] at d0
      have g0 := (hb.cell (p := ⟨b1, off1 + q * 3, none⟩) hb1).trans d0
      have g2 := (hb.cell (p := ⟨b2, off2 + t * 3 + 2, none⟩) hb2).trans e2
      have hb1w : b1 < w.heap.size := Nat.lt_of_lt_of_le hb1 hb.size
      have hb2w : b2 < w.heap.size := Nat.lt_of_lt_of_le hb2 hb.size
      clear hp hx hy d0 d1 d2 e0 e1 e2 ht
      cases hq : (y.kind != 2) with
      | true =>
        have HQ := Lib.hid hq
        go_enter Try.func111, Try.ntmps111
        go_wp2_with fail
        go_ret
        exact ⟨by rw [HU.out, HQ.out]; rfl, (Below.refl _ _).alloc (Nat.le_refl _) _⟩
      | false =>
        have HQ := Lib.hid hq
        go_enter Try.func111, Try.ntmps111
        go_wp2_with fail
        go_ret
        exact ⟨by rw [HU.out, HQ.out]; rfl, (Below.refl _ _).alloc (Nat.le_refl _) _⟩
    · have hge : (m : Int) ≤ p := by omega
      have hd : decide (p < (m : Int)) = false := decide_eq_false hlt
      have HU := Lib.hid (under_far (cs := cs) (b := b) hneg hlt)
      clear hp
      go_enter Try.func111, Try.ntmps111
      go_wp2_with fail
      go_ret
      exact ⟨by rw [HU.out]; rfl, (Below.refl _ _).alloc (Nat.le_refl _) _⟩

/-- whether all nodes and sites may be where they are -/
def PlacesP (cs : List Ctl) (b : Big) : Prop := (∀ (k : Nat) x, b.nodes[k]? = some x → seatB cs b k x = true) ∧ ∀ (i : Nat) p, b.sites[i]? = some p → underB cs b p b.nodes.length = true
open Classical in
noncomputable def placesB (cs : List Ctl) (b : Big) : Bool := decide (PlacesP cs b)
open Classical in
theorem places_true {cs : List Ctl} {b : Big} (h : PlacesP cs b) : placesB cs b = true := by unfold placesB; exact decide_eq_true h
open Classical in
theorem places_false {cs : List Ctl} {b : Big} (h : ¬ PlacesP cs b) : placesB cs b = false := by unfold placesB; exact decide_eq_false h
open Classical in
theorem places_of {cs : List Ctl} {b : Big} (h : placesB cs b = true) : PlacesP cs b := by unfold placesB at h; exact of_decide_eq_true h
theorem ctrl_seat {cs : List Ctl} {b : Big} {m : Nat} (h : ∀ (j : Nat) x, j < m → b.nodes[j]? = some x → seatB cs b j x = true) : Ctrl cs b.nodes m := fun j x hj hx => by
  have := h j x hj hx
  unfold seatB at this
  simp only [Bool.and_eq_true] at this
  exact this.1

set_option maxRecDepth 100000 in
set_option maxHeartbeats 6400000 in
theorem places_any (A : Option Addr) (n c : Nat) (cs : List Ctl) (A1 A2 A4 A5 : Option Addr) (n1 n2 n4 n5 c1 c2 c4 c5 : Nat) (b : Big) (w0 w : World) (hC : CtlsAt w0 w0.heap.size A n cs) (h1 : NdsAt w0 w0.heap.size A1 n1 b.nodes) (h2 : IntsAt w0 w0.heap.size A2 n2 b.sites)
    (hb0 : Below w0.heap.size w0 w) (hn : n ≤ 1048576) (hR : 0 ≤ b.roots ∧ b.roots ≤ 4) (q2 : n1 ≤ 8) (q3 : n2 ≤ 4) (hw : BigW b) :
    Calls Try.prog 85 #[.slice A n c, .agg #[.int .i64 b.roots, .slice A1 n1 c1, .slice A2 n2 c2, .int .i64 b.edges, .slice A4 n4 c4, .slice A5 n5 c5]] w (Post (placesB cs b) w) := by
  obtain ⟨hwr, hwe, -, hwn, -, hws, -, -, -, hwi⟩ := hw
  have HL := Lib.hid (And.intro h1.1 h2.len)
  have HWn := Lib.hid hwn
  have HWs := Lib.hid hws
  have HCl := Lib.hid hC.1
  have HBox := Lib.hid (six_new w (.int .i64 b.roots) (.slice A1 n1 c1) (.slice A2 n2 c2) (.int .i64 b.edges) (.slice A4 n4 c4) (.slice A5 n5 c5) 34)
  obtain ⟨W, hW⟩ : ∃ W, w.alloc (.cells #[.int .i64 b.roots, .slice A1 n1 c1, .slice A2 n2 c2, .int .i64 b.edges, .slice A4 n4 c4, .slice A5 n5 c5] 34) = W := ⟨_, rfl⟩
  have HB0 := Lib.hid ((Below.refl w.heap.size w).alloc (Nat.le_refl _) (.cells #[.int .i64 b.roots, .slice A1 n1 c1, .slice A2 n2 c2, .int .i64 b.edges, .slice A4 n4 c4, .slice A5 n5 c5] 34))
  rw [hW] at HBox HB0
  have HWq := Lib.hid hW
  have hnI : IntKind.i64.wrap ((n : Int) - 1) = (n : Int) - 1 := IntWalk.i64_in _ (by omega)
  have HG0 : Hid (Below w0.heap.size w0 W) := Lib.hid (hb0.trans (HB0.out.mono hb0.size))
  have hWs : w.heap.size < W.heap.size := HBox.out.lt
  obtain ⟨g, hg⟩ : ∃ g, placesB cs b = g := ⟨_, rfl⟩
  rw [hg]
  have HG := Lib.hid hg
  clear hg hW hwn hws hwr hwe hwi hb0
  go_enter Try.func85, Try.ntmps85
  go_wp2_with fail
  rw [HWq.out]
  go_loopw [12] (fun i wr => ∃ j : Nat, j ≤ n1 ∧ i = .int .i64 j ∧ (∀ (j' : Nat) x, j' < j → b.nodes[j']? = some x → seatB cs b j' x = true) ∧ Below W.heap.size W wr) (fun i _ => n1 - (intOf i).toNat)
  case atStart => exact ⟨0, Nat.zero_le _, rfl, fun j x hj => absurd hj (Nat.not_lt_zero j), Below.refl _ _⟩
  case round =>
    obtain ⟨j, hj, rfl, hnd, hbel⟩ := hrel
    have HNd := Lib.hid hnd
    have hbw := HG0.out.trans (hbel.mono HG0.out.size)
    have HBel := Lib.hid hbel
    have hsr := hbel.size
    clear hnd hbel
    by_cases hlt : j < n1
    · obtain ⟨b1, off1, x, rfl, hb1, hx, d0, d1, L, mL, cL, d2, -⟩ := h1.get hlt
      have g0 := (hbw.cell (p := ⟨b1, off1 + j * 3, none⟩) hb1).trans d0
      have g1 := (hbw.cell (p := ⟨b1, off1 + j * 3 + 1, none⟩) hb1).trans d1
      have g2 := (hbw.cell (p := ⟨b1, off1 + j * 3 + 2, none⟩) hb1).trans d2
      obtain ⟨x0, x1, x2, x3, x4, x5⟩ := row6 (HBox.out.of_block (HBel.out.block w.heap.size hWs))
      simp only [six] at x0 x1 x2 x3 x4 x5
      simp at x0 x1 x2 x3 x4 x5
      have CU := fun W' hb => hold_any A n c cs (some ⟨b1, off1, none⟩) n1 c1 (.slice A2 n2 c2) (.int .i64 b.edges) (.slice A4 n4 c4) (.slice A5 n5 c5) b x.parent j w0 W' hC h1 hb hR q2 hn (by omega) (ctrl_seat HNd.out) (HWn.out x (List.mem_of_getElem? hx)).2.1
      have HX := Lib.hid hx
      have HB2 := Lib.hid (hbw.alloc hbw.size (.cells #[.int .i64 x.control, .int .i64 x.parent, .slice L mL cL] 103))
      have HB3 := Lib.hid (HBel.out.alloc HBel.out.size (.cells #[.int .i64 x.control, .int .i64 x.parent, .slice L mL cL] 103))
      have hwwr : w.heap.size < wr.heap.size := by omega
      clear hx d0 d1 d2
      cases qc : inb x.control 0 ((n : Int) - 1) with
      | false =>
        have HNo := Lib.hid (HG.out.symm.trans (places_false (fun h => by have := h.1 j x HX.out; unfold seatB at this; rw [HCl.out, qc] at this; cases this)))
        have HFin := Lib.hid (HB0.out.trans (HB3.out.mono HB0.out.size))
        go_wp2_with (go_at_call 109; refine (win_any _ _ _ _).mono ?_; rintro e w' ⟨rfl, rfl⟩)
        go_ret
        exact ⟨by rw [HNo.out]; rfl, HFin.out⟩
      | true =>
        cases qu : underB cs b x.parent j with
        | false =>
          rw [qu] at CU
          have HK := Lib.hid CU
          have HNo := Lib.hid (HG.out.symm.trans (places_false (fun h => by have := h.1 j x HX.out; unfold seatB at this; rw [qu] at this; simp at this)))
          clear qu CU
          go_wp2_with (first | (go_at_call 109; refine (win_any _ _ _ _).mono ?_; rintro e w' ⟨rfl, rfl⟩) | (go_at_call 111; refine (HK.out _ HB2.out).mono ?_; rintro e w3 ⟨rfl, hb3⟩))
          have hfin := HB0.out.trans ((HB3.out.trans (hb3.mono HB3.out.size)).mono HB0.out.size)
          go_ret
          exact ⟨by rw [HNo.out]; rfl, hfin⟩
        | true =>
          rw [qu] at CU
          have HK := Lib.hid CU
          have HYes := Lib.hid (show seatB cs b j x = true by unfold seatB; rw [HCl.out, qc, qu]; rfl)
          clear qu CU
          go_wp2_with (first | (go_at_call 109; refine (win_any _ _ _ _).mono ?_; rintro e w' ⟨rfl, rfl⟩) | (go_at_call 111; refine (HK.out _ HB2.out).mono ?_; rintro e w3 ⟨rfl, hb3⟩))
          have HB9 := Lib.hid (HB3.out.trans (hb3.mono HB3.out.size))
          clear hb3
          go_roundw
          case rel => exact ⟨j + 1, by omega, by go_num, fun j' x' hj' hx' => by
            by_cases e : j' = j
            · subst e; rw [HX.out] at hx'; injection hx' with e; subst e; exact HYes.out
            · exact HNd.out j' x' (by omega) hx', HB9.out⟩
          case measure => simp [intOf]; omega
    · obtain rfl : n1 = j := by omega
      have HCt := Lib.hid (ctrl_seat HNd.out)
      obtain ⟨w7, hw7⟩ : ∃ w7, wr = w7 := ⟨_, rfl⟩
      rw [hw7] at hbw HBel hsr ⊢
      clear hw7
      have HBox7 := Lib.hid (HBox.out.of_block (HBel.out.block w.heap.size hWs))
      obtain ⟨x0, x1, x2, x3, x4, x5⟩ := row6 HBox7.out
      simp only [six] at x0 x1 x2 x3 x4 x5
      simp at x0 x1 x2 x3 x4 x5
      have hW7 := HBox7.out.lt
      go_wp2_with fail
      clear x0 x1 x2 x3 x4 x5
      go_loopw [37] (fun i wr => ∃ j : Nat, j ≤ n2 ∧ i = .int .i64 j ∧ (∀ (j' : Nat) p, j' < j → b.sites[j']? = some p → underB cs b p n1 = true) ∧ Below w7.heap.size w7 wr) (fun i _ => n2 - (intOf i).toNat)
      case atStart => exact ⟨0, Nat.zero_le _, rfl, fun j x hj => absurd hj (Nat.not_lt_zero j), Below.refl _ _⟩
      case round =>
        obtain ⟨j, hj, rfl, hnd2, hbel⟩ := hrel
        have HS2 := Lib.hid hnd2
        have hbw2 := hbw.trans (hbel.mono hbw.size)
        have HBel2 := Lib.hid hbel
        obtain ⟨x0, x1, x2, x3, x4, x5⟩ := row6 (HBox7.out.of_block (hbel.block w.heap.size hW7))
        simp only [six] at x0 x1 x2 x3 x4 x5
        simp at x0 x1 x2 x3 x4 x5
        clear hnd2 hbel
        by_cases hlt : j < n2
        · obtain ⟨bs, offs, p, rfl, hbs, hp, cp⟩ := h2.get hlt
          have cp2 := (hbw2.cell (p := ⟨bs, offs + j, none⟩) hbs).trans cp
          have CU := hold_any A n c cs A1 n1 c1 (.slice (some ⟨bs, offs, none⟩) n2 c2) (.int .i64 b.edges) (.slice A4 n4 c4) (.slice A5 n5 c5) b p n1 w0 wr hC h1 hbw2 hR q2 hn (Nat.le_refl _) HCt.out (HWs.out p (List.mem_of_getElem? hp))
          have HP := Lib.hid hp
          clear hp cp
          cases qu : underB cs b p n1 with
          | false =>
            rw [qu] at CU
            have HNo := Lib.hid (HG.out.symm.trans (places_false (fun h => by have := h.2 j p HP.out; rw [HL.out.1, qu] at this; cases this)))
            clear qu
            go_wp2_with fail
            refine CU.mono ?_
            rintro e w3 ⟨rfl, hb3⟩
            have hfin := HB0.out.trans ((HBel.out.trans ((HBel2.out.trans (hb3.mono HBel2.out.size)).mono HBel.out.size)).mono HB0.out.size)
            clear hb3 CU x0 x1 x2 x3 x4 x5
            go_wp2_with fail
            go_ret
            exact ⟨by rw [HNo.out]; rfl, hfin⟩
          | true =>
            rw [qu] at CU
            have HYes := Lib.hid qu
            clear qu
            go_wp2_with fail
            refine CU.mono ?_
            rintro e w3 ⟨rfl, hb3⟩
            have HB9 := Lib.hid (HBel2.out.trans (hb3.mono HBel2.out.size))
            clear hb3 CU x0 x1 x2 x3 x4 x5
            go_wp2_with fail
            go_roundw
            case rel => exact ⟨j + 1, by omega, by go_num, fun j' x' hj' hx' => by
              by_cases e : j' = j
              · subst e; rw [HP.out] at hx'; injection hx' with e; subst e; exact HYes.out
              · exact HS2.out j' x' (by omega) hx', HB9.out⟩
            case measure => simp [intOf]; omega
        · obtain rfl : n2 = j := by omega
          have HYes := Lib.hid (HG.out.symm.trans (places_true ⟨fun k x hx => HNd.out k x (by have := (List.getElem?_eq_some_iff.1 hx).1; have := HL.out.1; omega) hx, fun i p hp => by rw [HL.out.1]; exact HS2.out i p (by have := (List.getElem?_eq_some_iff.1 hp).1; have := HL.out.2; omega) hp⟩))
          have hfin := HB0.out.trans ((HBel.out.trans (HBel2.out.mono HBel.out.size)).mono HB0.out.size)
          go_wp2_with fail
          go_ret
          exact ⟨by rw [HYes.out]; rfl, hfin⟩
end Go.Proofs.Ytifialdkjnmfoab.im
