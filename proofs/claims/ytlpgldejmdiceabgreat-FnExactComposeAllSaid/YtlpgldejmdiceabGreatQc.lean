/- Im Pt Cf Lf Ib IsA LawB Rs Rt Br in one. -/
import Derived.Test.YtlpgldejmdiceabGreatQb
import Derived.Test.YtlpgldejmdiceabGreatQa
import Derived.RangeFuncBox
import Derived.RangeFuncLeaves
import Derived.Shelf.Abstract
import Derived.OwnWalkIn
import Derived.TacticsInMore
import Derived.LoopNIn
import Derived.LoopIn
import Derived.Maps.AppendAt
import Derived.RangeFuncWrites
import Derived.RangeFuncNested
import Derived.Deep.RegionHeld3
set_option linter.unusedSimpArgs false
section
namespace Go.Proofs.YtlpgldejmdiceabGreat.im
open kit bg sg sig only un hb opn over gn nm inn ht gd
open Go.RowKit
set_option linter.unusedVariables false

theorem sizes_no {b : Big} (h : ¬ ((0 ≤ b.roots ∧ b.roots ≤ 4) ∧ (0 ≤ b.edges ∧ b.edges ≤ 8) ∧ b.nodes.length ≤ 8 ∧ b.sites.length ≤ 4 ∧ b.outer.length ≤ 16 ∧ b.inner.length ≤ 16)) : sizesB b = false := by
  cases hq : sizesB b with
  | false => rfl
  | true => exact absurd (sizes_of hq) h

set_option maxHeartbeats 1600000 in
theorem sizes_any (A1 A2 A4 A5 : Option Addr) (n1 n2 n4 n5 c1 c2 c4 c5 : Nat) (b : Big) (w : World) (l1 : b.nodes.length = n1) (l2 : b.sites.length = n2) (l4 : b.outer.length = n4) (l5 : b.inner.length = n5) (m1 : n1 ≤ 1048576) (m2 : n2 ≤ 1048576) (m4 : n4 ≤ 1048576) (m5 : n5 ≤ 1048576) :
    Calls Tryz.prog 109 #[.agg #[.int .i64 b.roots, .slice A1 n1 c1, .slice A2 n2 c2, .int .i64 b.edges, .slice A4 n4 c4, .slice A5 n5 c5]] w (Post (sizesB b) w) := by
  have HL := Lib.hid (And.intro l1 (And.intro l2 (And.intro l4 l5)))
  clear l1 l2 l4 l5
  obtain ⟨g, hg⟩ : ∃ g, sizesB b = g := ⟨_, rfl⟩
  rw [hg]
  have HG := Lib.hid hg
  clear hg
  have hbx := Lib.hid ((Below.refl w.heap.size w).alloc (Nat.le_refl _) (.cells #[.int .i64 b.roots, .slice A1 n1 c1, .slice A2 n2 c2, .int .i64 b.edges, .slice A4 n4 c4, .slice A5 n5 c5] 31))
  cases q1 : inb b.roots 0 4 with
  | false =>
    have HNo := Lib.hid (HG.out.symm.trans (sizes_no (fun h => inb_false q1 h.1)))
    go_enter Tryz.func109, Tryz.ntmps109
    go_wp2_with (go_at_call 25; refine (win_any _ _ _ _).mono ?_; rintro e w' ⟨rfl, rfl⟩)
    go_ret
    exact ⟨by rw [HNo.out]; rfl, hbx.out⟩
  | true =>
    cases q2 : inb b.edges 0 8 with
    | false =>
      have HNo := Lib.hid (HG.out.symm.trans (sizes_no (fun h => inb_false q2 h.2.1)))
      go_enter Tryz.func109, Tryz.ntmps109
      go_wp2_with (go_at_call 25; refine (win_any _ _ _ _).mono ?_; rintro e w' ⟨rfl, rfl⟩)
      go_ret
      exact ⟨by rw [HNo.out]; rfl, hbx.out⟩
    | true =>
      by_cases q3 : n1 ≤ 8
      · by_cases q4 : n2 ≤ 4
        · by_cases q5 : n4 ≤ 16
          · have HE : Hid (g = decide ((n5 : Int) ≤ 16)) := by
              refine Lib.hid (HG.out.symm.trans ?_)
              by_cases q6 : n5 ≤ 16
              · rw [decide_eq_true (show (n5 : Int) ≤ 16 by omega)]
                have := HL.out
                exact sizes_mk (inb_true q1) (inb_true q2) (by omega) (by omega) (by omega) (by omega)
              · rw [decide_eq_false (show ¬ (n5 : Int) ≤ 16 by omega)]
                have := HL.out
                exact sizes_no (fun h => q6 (by omega))
            go_enter Tryz.func109, Tryz.ntmps109
            go_wp2_with (go_at_call 25; refine (win_any _ _ _ _).mono ?_; rintro e w' ⟨rfl, rfl⟩)
            go_ret
            exact ⟨by rw [HE.out]; rfl, hbx.out⟩
          · have q5' : 16 < n4 := by omega
            have hd : decide ((n4 : Int) ≤ 16) = false := by simp; omega
            have HNo := Lib.hid (HG.out.symm.trans (sizes_no (fun h => by have := HL.out; omega)))
            go_enter Tryz.func109, Tryz.ntmps109
            go_wp2_with (go_at_call 25; refine (win_any _ _ _ _).mono ?_; rintro e w' ⟨rfl, rfl⟩)
            go_ret
            exact ⟨by rw [HNo.out]; rfl, hbx.out⟩
        · have q4' : 4 < n2 := by omega
          have HNo := Lib.hid (HG.out.symm.trans (sizes_no (fun h => by have := HL.out; omega)))
          go_enter Tryz.func109, Tryz.ntmps109
          go_wp2_with (go_at_call 25; refine (win_any _ _ _ _).mono ?_; rintro e w' ⟨rfl, rfl⟩)
          go_ret
          exact ⟨by rw [HNo.out]; rfl, hbx.out⟩
      · have q3' : 8 < n1 := by omega
        have HNo := Lib.hid (HG.out.symm.trans (sizes_no (fun h => by have := HL.out; omega)))
        go_enter Tryz.func109, Tryz.ntmps109
        go_wp2_with (go_at_call 25; refine (win_any _ _ _ _).mono ?_; rintro e w' ⟨rfl, rfl⟩)
        go_ret
        exact ⟨by rw [HNo.out]; rfl, hbx.out⟩

set_option maxHeartbeats 800000 in
theorem hold_any (A : Option Addr) (n c : Nat) (cs : List Ctl) (A1 : Option Addr) (n1 c1 : Nat) (v2 v3 v4 v5 : Value) (b : Big) (p : Int) (m : Nat) (w0 w : World) (hC : CtlsAt w0 w0.heap.size A n cs) (hN : NdsAt w0 w0.heap.size A1 n1 b.nodes) (hb : Below w0.heap.size w0 w)
    (hR : 0 ≤ b.roots ∧ b.roots ≤ 4) (hn1 : n1 ≤ 8) (hn : n ≤ 1048576) (hm : m ≤ n1) (hk : Ctrl cs b.nodes m) (hp : (Lit.int .i64 p).wf = true) :
    Calls Tryz.prog 124 #[.slice A n c, .agg #[.int .i64 b.roots, .slice A1 n1 c1, v2, v3, v4, v5], .int .i64 p, .int .i64 m] w (Post (underB cs b p m) w) := by
  obtain ⟨hp0, hp1⟩ := bounds_i64 hp
  by_cases hneg : p < 0
  · have HU := Lib.hid (under_root (cs := cs) (b := b) (m := m) hneg)
    have HRt := Lib.hid (fun W => root_eq p b.roots ▸ irt_any (.slice A1 n1 c1) v2 v3 v4 v5 b.roots p W hR)
    have HBx := Lib.hid ((Below.refl w.heap.size w).alloc (Nat.le_refl _) (.cells #[.int .i64 b.roots, .slice A1 n1 c1, v2, v3, v4, v5] 31))
    clear hp
    go_enter Tryz.func124, Tryz.ntmps124
    go_wp2_with fail
    refine (HRt.out _).mono ?_
    rintro e w1 ⟨rfl, hb1⟩
    have hb2 := HBx.out.trans (hb1.mono HBx.out.size)
    clear hb1
    go_wp2_with fail
    go_ret
    exact ⟨by rw [HU.out]; rfl, hb2⟩
  · obtain ⟨h0, h1⟩ := hR
    by_cases hlt : p < (m : Int)
    · obtain ⟨q, rfl⟩ : ∃ q : Nat, p = q := ⟨p.toNat, by omega⟩
      obtain ⟨b1, off1, x, rfl, hb1, hx, d0, d1, L, mL, cL, d2, -⟩ := hN.get (show q < n1 by omega)
      obtain ⟨k0, k1⟩ := inb_true (hk q x (by omega) hx)
      have hqn : q < n1 := by omega
      obtain ⟨t, ht⟩ : ∃ t : Nat, x.control = t := ⟨x.control.toNat, by omega⟩
      have htn : t < n := by have := hC.1; omega
      obtain ⟨b2, off2, y, rfl, hb2, hy, e0, e1, e2⟩ := hC.get htn
      have HU := Lib.hid (under_node (b := b) hlt hx (show cs[x.control.toNat]? = some y by rw [ht]; exact hy))
      rw [ht] at d0
      have g0 := (hb.cell (p := ⟨b1, off1 + q * 3, none⟩) hb1).trans d0
      have g2 := (hb.cell (p := ⟨b2, off2 + t * 3 + 2, none⟩) hb2).trans e2
      have hb1w : b1 < w.heap.size := Nat.lt_of_lt_of_le hb1 hb.size
      have hb2w : b2 < w.heap.size := Nat.lt_of_lt_of_le hb2 hb.size
      clear hp hx hy d0 d1 d2 e0 e1 e2 ht
      cases hq : (y.kind != 2) with
      | true =>
        have HQ := Lib.hid hq
        go_enter Tryz.func124, Tryz.ntmps124
        go_wp2_with fail
        go_ret
        exact ⟨by rw [HU.out, HQ.out]; rfl, (Below.refl _ _).alloc (Nat.le_refl _) _⟩
      | false =>
        have HQ := Lib.hid hq
        go_enter Tryz.func124, Tryz.ntmps124
        go_wp2_with fail
        go_ret
        exact ⟨by rw [HU.out, HQ.out]; rfl, (Below.refl _ _).alloc (Nat.le_refl _) _⟩
    · have hge : (m : Int) ≤ p := by omega
      have hd : decide (p < (m : Int)) = false := decide_eq_false hlt
      have HU := Lib.hid (under_far (cs := cs) (b := b) hneg hlt)
      clear hp
      go_enter Tryz.func124, Tryz.ntmps124
      go_wp2_with fail
      go_ret
      exact ⟨by rw [HU.out]; rfl, (Below.refl _ _).alloc (Nat.le_refl _) _⟩

/-- whether all nodes and sites may be where they are -/
def PlacesP (cs : List Ctl) (b : Big) : Prop := (∀ (k : Nat) x, b.nodes[k]? = some x → seatB cs b k x = true) ∧ ∀ (i : Nat) p, b.sites[i]? = some p → underB cs b p b.nodes.length = true
open Classical in
noncomputable def placesB (cs : List Ctl) (b : Big) : Bool := decide (PlacesP cs b)
open Classical in
theorem places_true {cs : List Ctl} {b : Big} (h : PlacesP cs b) : placesB cs b = true := by unfold placesB; exact decide_eq_true h
open Classical in
theorem places_false {cs : List Ctl} {b : Big} (h : ¬ PlacesP cs b) : placesB cs b = false := by unfold placesB; exact decide_eq_false h
open Classical in
theorem places_of {cs : List Ctl} {b : Big} (h : placesB cs b = true) : PlacesP cs b := by unfold placesB at h; exact of_decide_eq_true h
theorem ctrl_seat {cs : List Ctl} {b : Big} {m : Nat} (h : ∀ (j : Nat) x, j < m → b.nodes[j]? = some x → seatB cs b j x = true) : Ctrl cs b.nodes m := fun j x hj hx => by
  have := h j x hj hx
  unfold seatB at this
  simp only [Bool.and_eq_true] at this
  exact this.1

set_option maxRecDepth 100000 in
set_option maxHeartbeats 6400000 in
theorem places_any (A : Option Addr) (n c : Nat) (cs : List Ctl) (A1 A2 A4 A5 : Option Addr) (n1 n2 n4 n5 c1 c2 c4 c5 : Nat) (b : Big) (w0 w : World) (hC : CtlsAt w0 w0.heap.size A n cs) (h1 : NdsAt w0 w0.heap.size A1 n1 b.nodes) (h2 : IntsAt w0 w0.heap.size A2 n2 b.sites)
    (hb0 : Below w0.heap.size w0 w) (hn : n ≤ 1048576) (hR : 0 ≤ b.roots ∧ b.roots ≤ 4) (q2 : n1 ≤ 8) (q3 : n2 ≤ 4) (hw : BigW b) :
    Calls Tryz.prog 110 #[.slice A n c, .agg #[.int .i64 b.roots, .slice A1 n1 c1, .slice A2 n2 c2, .int .i64 b.edges, .slice A4 n4 c4, .slice A5 n5 c5]] w (Post (placesB cs b) w) := by
  obtain ⟨hwr, hwe, -, hwn, -, hws, -, -, -, hwi⟩ := hw
  have HL := Lib.hid (And.intro h1.1 h2.len)
  have HWn := Lib.hid hwn
  have HWs := Lib.hid hws
  have HCl := Lib.hid hC.1
  have HBox := Lib.hid (six_new w (.int .i64 b.roots) (.slice A1 n1 c1) (.slice A2 n2 c2) (.int .i64 b.edges) (.slice A4 n4 c4) (.slice A5 n5 c5) 31)
  obtain ⟨W, hW⟩ : ∃ W, w.alloc (.cells #[.int .i64 b.roots, .slice A1 n1 c1, .slice A2 n2 c2, .int .i64 b.edges, .slice A4 n4 c4, .slice A5 n5 c5] 31) = W := ⟨_, rfl⟩
  have HB0 := Lib.hid ((Below.refl w.heap.size w).alloc (Nat.le_refl _) (.cells #[.int .i64 b.roots, .slice A1 n1 c1, .slice A2 n2 c2, .int .i64 b.edges, .slice A4 n4 c4, .slice A5 n5 c5] 31))
  rw [hW] at HBox HB0
  have HWq := Lib.hid hW
  have hnI : IntKind.i64.wrap ((n : Int) - 1) = (n : Int) - 1 := IntWalk.i64_in _ (by omega)
  have HG0 : Hid (Below w0.heap.size w0 W) := Lib.hid (hb0.trans (HB0.out.mono hb0.size))
  have hWs : w.heap.size < W.heap.size := HBox.out.lt
  obtain ⟨g, hg⟩ : ∃ g, placesB cs b = g := ⟨_, rfl⟩
  rw [hg]
  have HG := Lib.hid hg
  clear hg hW hwn hws hwr hwe hwi hb0
  go_enter Tryz.func110, Tryz.ntmps110
  go_wp2_with fail
  rw [HWq.out]
  go_loopw [12] (fun i wr => ∃ j : Nat, j ≤ n1 ∧ i = .int .i64 j ∧ (∀ (j' : Nat) x, j' < j → b.nodes[j']? = some x → seatB cs b j' x = true) ∧ Below W.heap.size W wr) (fun i _ => n1 - (intOf i).toNat)
  case atStart => exact ⟨0, Nat.zero_le _, rfl, fun j x hj => absurd hj (Nat.not_lt_zero j), Below.refl _ _⟩
  case round =>
    obtain ⟨j, hj, rfl, hnd, hbel⟩ := hrel
    have HNd := Lib.hid hnd
    have hbw := HG0.out.trans (hbel.mono HG0.out.size)
    have HBel := Lib.hid hbel
    have hsr := hbel.size
    clear hnd hbel
    by_cases hlt : j < n1
    · obtain ⟨b1, off1, x, rfl, hb1, hx, d0, d1, L, mL, cL, d2, -⟩ := h1.get hlt
      have g0 := (hbw.cell (p := ⟨b1, off1 + j * 3, none⟩) hb1).trans d0
      have g1 := (hbw.cell (p := ⟨b1, off1 + j * 3 + 1, none⟩) hb1).trans d1
      have g2 := (hbw.cell (p := ⟨b1, off1 + j * 3 + 2, none⟩) hb1).trans d2
      obtain ⟨x0, x1, x2, x3, x4, x5⟩ := row6 (HBox.out.of_block (HBel.out.block w.heap.size hWs))
      simp only [six] at x0 x1 x2 x3 x4 x5
      simp at x0 x1 x2 x3 x4 x5
      have CU := fun W' hb => hold_any A n c cs (some ⟨b1, off1, none⟩) n1 c1 (.slice A2 n2 c2) (.int .i64 b.edges) (.slice A4 n4 c4) (.slice A5 n5 c5) b x.parent j w0 W' hC h1 hb hR q2 hn (by omega) (ctrl_seat HNd.out) (HWn.out x (List.mem_of_getElem? hx)).2.1
      have HX := Lib.hid hx
      have HB2 := Lib.hid (hbw.alloc hbw.size (.cells #[.int .i64 x.control, .int .i64 x.parent, .slice L mL cL] 96))
      have HB3 := Lib.hid (HBel.out.alloc HBel.out.size (.cells #[.int .i64 x.control, .int .i64 x.parent, .slice L mL cL] 96))
      have hwwr : w.heap.size < wr.heap.size := by omega
      clear hx d0 d1 d2
      cases qc : inb x.control 0 ((n : Int) - 1) with
      | false =>
        have HNo := Lib.hid (HG.out.symm.trans (places_false (fun h => by have := h.1 j x HX.out; unfold seatB at this; rw [HCl.out, qc] at this; cases this)))
        have HFin := Lib.hid (HB0.out.trans (HB3.out.mono HB0.out.size))
        go_wp2_with (go_at_call 25; refine (win_any _ _ _ _).mono ?_; rintro e w' ⟨rfl, rfl⟩)
        go_ret
        exact ⟨by rw [HNo.out]; rfl, HFin.out⟩
      | true =>
        cases qu : underB cs b x.parent j with
        | false =>
          rw [qu] at CU
          have HK := Lib.hid CU
          have HNo := Lib.hid (HG.out.symm.trans (places_false (fun h => by have := h.1 j x HX.out; unfold seatB at this; rw [qu] at this; simp at this)))
          clear qu CU
          go_wp2_with (first | (go_at_call 25; refine (win_any _ _ _ _).mono ?_; rintro e w' ⟨rfl, rfl⟩) | (go_at_call 124; refine (HK.out _ HB2.out).mono ?_; rintro e w3 ⟨rfl, hb3⟩))
          have hfin := HB0.out.trans ((HB3.out.trans (hb3.mono HB3.out.size)).mono HB0.out.size)
          go_ret
          exact ⟨by rw [HNo.out]; rfl, hfin⟩
        | true =>
          rw [qu] at CU
          have HK := Lib.hid CU
          have HYes := Lib.hid (show seatB cs b j x = true by unfold seatB; rw [HCl.out, qc, qu]; rfl)
          clear qu CU
          go_wp2_with (first | (go_at_call 25; refine (win_any _ _ _ _).mono ?_; rintro e w' ⟨rfl, rfl⟩) | (go_at_call 124; refine (HK.out _ HB2.out).mono ?_; rintro e w3 ⟨rfl, hb3⟩))
          have HB9 := Lib.hid (HB3.out.trans (hb3.mono HB3.out.size))
          clear hb3
          go_roundw
          case rel => exact ⟨j + 1, by omega, by go_num, fun j' x' hj' hx' => by
            by_cases e : j' = j
            · subst e; rw [HX.out] at hx'; injection hx' with e; subst e; exact HYes.out
            · exact HNd.out j' x' (by omega) hx', HB9.out⟩
          case measure => simp [intOf]; omega
    · obtain rfl : n1 = j := by omega
      have HCt := Lib.hid (ctrl_seat HNd.out)
      obtain ⟨w7, hw7⟩ : ∃ w7, wr = w7 := ⟨_, rfl⟩
      rw [hw7] at hbw HBel hsr ⊢
      clear hw7
      have HBox7 := Lib.hid (HBox.out.of_block (HBel.out.block w.heap.size hWs))
      obtain ⟨x0, x1, x2, x3, x4, x5⟩ := row6 HBox7.out
      simp only [six] at x0 x1 x2 x3 x4 x5
      simp at x0 x1 x2 x3 x4 x5
      have hW7 := HBox7.out.lt
      go_wp2_with fail
      clear x0 x1 x2 x3 x4 x5
      go_loopw [37] (fun i wr => ∃ j : Nat, j ≤ n2 ∧ i = .int .i64 j ∧ (∀ (j' : Nat) p, j' < j → b.sites[j']? = some p → underB cs b p n1 = true) ∧ Below w7.heap.size w7 wr) (fun i _ => n2 - (intOf i).toNat)
      case atStart => exact ⟨0, Nat.zero_le _, rfl, fun j x hj => absurd hj (Nat.not_lt_zero j), Below.refl _ _⟩
      case round =>
        obtain ⟨j, hj, rfl, hnd2, hbel⟩ := hrel
        have HS2 := Lib.hid hnd2
        have hbw2 := hbw.trans (hbel.mono hbw.size)
        have HBel2 := Lib.hid hbel
        obtain ⟨x0, x1, x2, x3, x4, x5⟩ := row6 (HBox7.out.of_block (hbel.block w.heap.size hW7))
        simp only [six] at x0 x1 x2 x3 x4 x5
        simp at x0 x1 x2 x3 x4 x5
        clear hnd2 hbel
        by_cases hlt : j < n2
        · obtain ⟨bs, offs, p, rfl, hbs, hp, cp⟩ := h2.get hlt
          have cp2 := (hbw2.cell (p := ⟨bs, offs + j, none⟩) hbs).trans cp
          have CU := hold_any A n c cs A1 n1 c1 (.slice (some ⟨bs, offs, none⟩) n2 c2) (.int .i64 b.edges) (.slice A4 n4 c4) (.slice A5 n5 c5) b p n1 w0 wr hC h1 hbw2 hR q2 hn (Nat.le_refl _) HCt.out (HWs.out p (List.mem_of_getElem? hp))
          have HP := Lib.hid hp
          clear hp cp
          cases qu : underB cs b p n1 with
          | false =>
            rw [qu] at CU
            have HNo := Lib.hid (HG.out.symm.trans (places_false (fun h => by have := h.2 j p HP.out; rw [HL.out.1, qu] at this; cases this)))
            clear qu
            go_wp2_with fail
            refine CU.mono ?_
            rintro e w3 ⟨rfl, hb3⟩
            have hfin := HB0.out.trans ((HBel.out.trans ((HBel2.out.trans (hb3.mono HBel2.out.size)).mono HBel.out.size)).mono HB0.out.size)
            clear hb3 CU x0 x1 x2 x3 x4 x5
            go_wp2_with fail
            go_ret
            exact ⟨by rw [HNo.out]; rfl, hfin⟩
          | true =>
            rw [qu] at CU
            have HYes := Lib.hid qu
            clear qu
            go_wp2_with fail
            refine CU.mono ?_
            rintro e w3 ⟨rfl, hb3⟩
            have HB9 := Lib.hid (HBel2.out.trans (hb3.mono HBel2.out.size))
            clear hb3 CU x0 x1 x2 x3 x4 x5
            go_wp2_with fail
            go_roundw
            case rel => exact ⟨j + 1, by omega, by go_num, fun j' x' hj' hx' => by
              by_cases e : j' = j
              · subst e; rw [HP.out] at hx'; injection hx' with e; subst e; exact HYes.out
              · exact HS2.out j' x' (by omega) hx', HB9.out⟩
            case measure => simp [intOf]; omega
        · obtain rfl : n2 = j := by omega
          have HYes := Lib.hid (HG.out.symm.trans (places_true ⟨fun k x hx => HNd.out k x (by have := (List.getElem?_eq_some_iff.1 hx).1; have := HL.out.1; omega) hx, fun i p hp => by rw [HL.out.1]; exact HS2.out i p (by have := (List.getElem?_eq_some_iff.1 hp).1; have := HL.out.2; omega) hp⟩))
          have hfin := HB0.out.trans ((HBel.out.trans (HBel2.out.mono HBel.out.size)).mono HB0.out.size)
          go_wp2_with fail
          go_ret
          exact ⟨by rw [HYes.out]; rfl, hfin⟩
end Go.Proofs.YtlpgldejmdiceabGreat.im
end

section
namespace Go.Proofs.YtlpgldejmdiceabGreat.pt
open kit bg only hb
open Go.RowKit
set_option linter.unusedVariables false

attribute [local go_sem] Oper.semAt_some

/-- a port: node, index, link -/
abbrev Port := Nat × Nat × Int
def prts (k : Nat) (ls : List Int) (m : Nat) : List Port := (List.range m).map fun i => (k, i, ls.getD i 0)
theorem prts_succ {k m : Nat} {ls : List Int} {l : Int} (h : ls[m]? = some l) : prts k ls (m + 1) = prts k ls m ++ [(k, m, l)] := by
  unfold prts
  rw [List.range_succ, List.map_append]
  simp [List.getD, h]
def prtsTo (ns : List Nd) : Nat → List Port
  | 0 => []
  | k + 1 => prtsTo ns k ++ (match ns[k]? with | some x => prts k x.links x.links.length | none => [])
def ports (ns : List Nd) : List Port := prtsTo ns ns.length
theorem prtsTo_succ {ns : List Nd} {k : Nat} {x : Nd} (h : ns[k]? = some x) : prtsTo ns (k + 1) = prtsTo ns k ++ prts k x.links x.links.length := by
  show prtsTo ns k ++ _ = _
  rw [h]
theorem prtsTo_prefix (ns : List Nd) {k m : Nat} (h : k ≤ m) : prtsTo ns k <+: prtsTo ns m := by
  induction m with
  | zero => obtain rfl : k = 0 := by omega
            exact List.prefix_rfl
  | succ m ih =>
    by_cases e : k = m + 1
    · subst e; exact List.prefix_rfl
    · exact (ih (by omega)).trans (List.prefix_append _ _)
theorem prts_prefix (k : Nat) (ls : List Int) {a b : Nat} (h : a ≤ b) : prts k ls a <+: prts k ls b := by
  unfold prts
  induction b with
  | zero => obtain rfl : a = 0 := by omega
            exact List.prefix_rfl
  | succ b ih =>
    by_cases e : a = b + 1
    · subst e; exact List.prefix_rfl
    · refine (ih (by omega)).trans ?_
      rw [List.range_succ, List.map_append]
      exact List.prefix_append _ _
/-- what has come so far is the beginning of all -/
theorem part_prefix {ns : List Nd} {k m : Nat} {x : Nd} (h : ns[k]? = some x) (hm : m ≤ x.links.length) : prtsTo ns k ++ prts k x.links m <+: ports ns := by
  have hk : k < ns.length := (List.getElem?_eq_some_iff.1 h).1
  refine List.IsPrefix.trans ?_ (prtsTo_prefix ns (show k + 1 ≤ ns.length by omega))
  rw [prtsTo_succ h]
  exact (List.prefix_append_right_inj _).2 (prts_prefix k x.links hm)
theorem part_lt {ns : List Nd} {k m : Nat} {x : Nd} {l : Int} (h : ns[k]? = some x) (hl : x.links[m]? = some l) : (prtsTo ns k ++ prts k x.links m).length < (ports ns).length := by
  have hm : m < x.links.length := (List.getElem?_eq_some_iff.1 hl).1
  have h1 := (part_prefix (m := m + 1) h (by omega)).length_le
  rw [prts_succ hl, ← List.append_assoc, List.length_append] at h1
  simp only [List.length_singleton] at h1
  omega

/-- a port as the loop gets it -/
def encP (p : Port) : Array Value := #[.agg #[.int .i64 p.1, .int .i64 p.2.1], .int .i64 p.2.2]

set_option maxRecDepth 100000 in
set_option maxHeartbeats 4000000 in
theorem ports_in (F : Fence) (n : Nat) (h35 : F.fn 137) (hro : F.round = none) (hn : 1 ≤ n) (l β n₀ : Nat) (A1 : Option Addr) (n1 c1 : Nat) (ns : List Nd) (J Jx : List Port → World → Prop) (W : World)
    (hJ : AbidesFrom W.heap.size J)
    (hY : ∀ pre x W1, J pre W1 → pre.length < (ports ns).length → YieldAt F (n - 1) Tryz.prog l (encP x) W1 fun e W' =>
      (e = .returned (.bool true) ∧ J (pre ++ [x]) W' ∧ Below n₀ W1 W') ∨ (e = .returned (.bool false) ∧ Jx (pre ++ [x]) W'))
    (hc1 : W.cell? ⟨β, 1, none⟩ = some (.slice A1 n1 c1)) (hN : NdsAt W n₀ A1 n1 ns) (hn0 : n₀ ≤ W.heap.size) (hn1 : n1 ≤ 1048576) (hlk : ∀ x ∈ ns, x.links.length ≤ 1048576) (h0 : J [] W) :
    CallsIn F n Tryz.prog 137 #[.func (.yield l) #[] #[], .pointer (some ⟨β, 0, none⟩)] W fun e W' => (∃ v, e = .returned v) ∧
      ((∃ ys, ys = ports ns ∧ J ys W') ∨ (∃ pre, pre <+: ports ns ∧ Jx pre W')) := by
  have HL := Lib.hid hN.1
  have HLk := Lib.hid hlk
  clear hlk
  refine callsIn_of_wp Tryz.func137 rfl h35 ?_ hro
  simp only [Tryz.ntmps137, List.size_toArray, List.length_cons, List.length_nil, Nat.reduceAdd, Nat.reduceSub, Array.replicate_succ, Array.replicate_zero, List.push_toArray, List.append_toArray, List.nil_append, List.cons_append]
  gi_wp2
  gi_loopw [10] (fun i wr => ∃ k : Nat, k ≤ n1 ∧ i = .int .i64 k ∧ J (prtsTo ns k) wr ∧ Below n₀ W wr)
    (fun i _ => n1 - (intOf i).toNat)
  case atStart => exact ⟨0, Nat.zero_le _, rfl, h0, Below.refl _ _⟩
  case round =>
    obtain ⟨k, hk, rfl, hJs, hb⟩ := hrel
    obtain ⟨wo, rfl⟩ : ∃ wo : World, wo = wr := ⟨_, rfl⟩
    have hsz := hb.size
    by_cases hlt : k < n1
    · obtain ⟨b, off, x, rfl, hbb, hx, d0, d1, L, m, cap, d2, hi⟩ := hN.get hlt
      have g0 := (hb.cell (p := ⟨b, off + k * 3, none⟩) hbb).trans d0
      have g1 := (hb.cell (p := ⟨b, off + k * 3 + 1, none⟩) hbb).trans d1
      have g2 := (hb.cell (p := ⟨b, off + k * 3 + 2, none⟩) hbb).trans d2
      have hml : m ≤ 1048576 := by have := HLk.out x (List.mem_of_getElem? hx); have := hi.len; omega
      have hlen := hi.len
      have HX := Lib.hid hx
      have HI := Lib.hid hi
      have HLen := Lib.hid hlen
      have HJ1 := Lib.hid (hJ _ _ _ none hJs (World.grownBy_alloc wo (.cells #[.int .i64 x.control, .int .i64 x.parent, .slice L m cap] 96) none) (fun r e => by cases e))
      have HB1 := Lib.hid (hb.alloc (by omega) (.cells #[.int .i64 x.control, .int .i64 x.parent, .slice L m cap] 96))
      clear hx d0 d1 d2 hi hlen hJs hb
      gi_wp2
      gi_loopw [5, 6, 18] (fun _ _ i wi => ∃ j : Nat, j ≤ m ∧ i = .int .i64 j ∧ J (prtsTo ns k ++ prts k x.links j) wi ∧ Below n₀ W wi)
        (fun _ _ i _ => m - (intOf i).toNat)
      case atStart => exact ⟨0, Nat.zero_le _, rfl, by simpa [prts] using HJ1.out, HB1.out⟩
      case round =>
        obtain ⟨j, hj, rfl, hJi, hbi⟩ := hrel
        by_cases hjm : j < m
        · obtain ⟨bl, offl, z, rfl, hbl, hz, cz⟩ := HI.out.get hjm
          have cz2 := (hbi.cell (p := ⟨bl, offl + j, none⟩) hbl).trans cz
          obtain ⟨fn, tmps, assign, body, hy, hR⟩ := hY (prtsTo ns k ++ prts k x.links j) (k, j, z) wr hJi (part_lt HX.out hz)
          have HR := Lib.hid hR
          have HZ := Lib.hid hz
          have HBi := Lib.hid hbi
          dsimp only [encP] at hy
          clear hR hz cz hJi hbi
          gi_wp2
          refine HR.out.mono ?_
          rintro e W3 (⟨rfl, hJ3, hk3⟩ | ⟨rfl, hJx3⟩)
          · have HJ3 := Lib.hid (And.intro hJ3 (HBi.out.trans hk3))
            clear hJ3 hk3
            gi_wp2
            go_roundw
            case rel => exact ⟨j + 1, by omega, by go_num, by rw [prts_succ HZ.out, ← List.append_assoc]; exact HJ3.out.1, HJ3.out.2⟩
            case measure => simp [intOf]; omega
          · have HJx := Lib.hid hJx3
            clear hJx3
            gi_wp2
            refine bodyPost_ret (results_none rfl _ _ _) rfl ?_
            refine ⟨⟨_, rfl⟩, .inr ⟨_, ?_, HJx.out⟩⟩
            rw [List.append_assoc, ← prts_succ HZ.out]
            exact part_prefix HX.out (by have := (List.getElem?_eq_some_iff.1 HZ.out).1; omega)
        · obtain rfl : m = j := by omega
          have HJi := Lib.hid (And.intro hJi hbi)
          clear hJi hbi
          gi_wp2
          go_roundw
          case rel => exact ⟨k + 1, by omega, by go_num, by rw [prtsTo_succ HX.out, HLen.out]; exact HJi.out.1, HJi.out.2⟩
          case measure => simp [intOf]; omega
    · obtain rfl : n1 = k := by omega
      have HJs := Lib.hid hJs
      clear hJs
      gi_wp2
      go_end0
      exact ⟨⟨_, rfl⟩, .inl ⟨_, rfl, by unfold ports; rw [HL.out]; exact HJs.out⟩⟩

theorem ports_stops (F : Fence) (n : Nat) (h35 : F.fn 137) (hro : F.round = none) (hn : 1 ≤ n) (β n₀ : Nat) (A1 : Option Addr) (n1 c1 : Nat) (ns : List Nd) (w : World) (hβ : β < w.heap.size) (hn0 : n₀ ≤ w.heap.size)
    (hc1 : w.cell? ⟨β, 1, none⟩ = some (.slice A1 n1 c1)) (hN : NdsAt w n₀ A1 n1 ns) (hn1 : n1 ≤ 1048576) (hlk : ∀ x ∈ ns, x.links.length ≤ 1048576) :
    SeqStopsK F n Tryz.prog 137 #[.pointer (some ⟨β, 0, none⟩)] encP (Below n₀) (fun ys => ys = ports ns) (fun pre => pre <+: ports ns) (ports ns).length w := fun l J Jx W hW hJ _ hY h0 =>
  ports_in F n h35 hro hn l β n₀ A1 n1 c1 ns J Jx W hJ hY ((hW.cell (p := ⟨β, 1, none⟩) hβ).trans hc1) (hN.below (hW.mono hn0)) (by have := hW.size; omega) hn1 hlk h0

set_option maxHeartbeats 2000000 in
theorem portsOf_in (F : Fence) (n : Nat) (h27 : F.fn 125) (hro : F.round = none) (cs : Array Value) (hcs : cs.size = 6) (w : World) :
    CallsIn F n Tryz.prog 125 #[.agg cs] w fun e w' => e = .returned (.func (.func 137) #[] #[.pointer (some ⟨w.heap.size, 0, none⟩)]) ∧ w' = w.alloc (.cells cs 31) := by
  obtain ⟨l⟩ := cs
  match l, hcs with
  | [a, b, c, d, e, f], _ =>
    refine callsIn_of_wp Tryz.func125 rfl h27 ?_ hro
    simp only [Tryz.ntmps125, List.size_toArray, List.length_cons, List.length_nil, Nat.reduceAdd, Nat.reduceSub, Array.replicate_succ, Array.replicate_zero, List.push_toArray, List.append_toArray, List.nil_append, List.cons_append]
    gi_wp2
    go_ret
    exact ⟨rfl, rfl⟩
end Go.Proofs.YtlpgldejmdiceabGreat.pt
end

section
namespace Go.Proofs.YtlpgldejmdiceabGreat.cf
open kit bg sg sig only un hb over
open Go.RowKit
set_option linter.unusedVariables false

/-- a box of six cells -/
def BoxAt (w : World) (β : Nat) (t : TypeId) (v0 v1 v2 v3 v4 v5 : Value) : Prop := w.rowIs β t 6 (six v0 v1 v2 v3 v4 v5)
theorem BoxAt.get {w : World} {β : Nat} {t : TypeId} {v0 v1 v2 v3 v4 v5 : Value} (h : BoxAt w β t v0 v1 v2 v3 v4 v5) :
    w.cell? ⟨β, 0, none⟩ = some v0 ∧ w.cell? ⟨β, 1, none⟩ = some v1 ∧ w.cell? ⟨β, 2, none⟩ = some v2 ∧ w.cell? ⟨β, 3, none⟩ = some v3 ∧ w.cell? ⟨β, 4, none⟩ = some v4 ∧ w.cell? ⟨β, 5, none⟩ = some v5 := row6 h
theorem BoxAt.below {w w' : World} {β B : Nat} {t : TypeId} {v0 v1 v2 v3 v4 v5 : Value} (h : BoxAt w β t v0 v1 v2 v3 v4 v5) (hb : Below B w w') (hB : β < B) : BoxAt w' β t v0 v1 v2 v3 v4 v5 := World.rowIs.of_block h (hb.block β hB)

set_option maxHeartbeats 800000 in
/-- the closure -/
theorem clos_any (β : Nat) (v0 v1 v2 v5 : Value) (E : Int) (A4 : Option Addr) (n4 c4 : Nat) (s : ByteArray) (l : Int) (w : World) (hbx : BoxAt w β 31 v0 v1 v2 (.int .i64 E) (.slice A4 n4 c4) v5) (hE : 0 ≤ E ∧ E ≤ 8) (h4 : n4 ≤ 16) :
    Calls Tryz.prog 128 #[.agg #[.string s, .int .i64 l], .pointer (some ⟨β, 0, none⟩)] w (Post (!inb l 0 (E + n4 - 1)) w) := by
  have hβ : β < w.heap.size := World.rowIs.lt hbx
  obtain ⟨x0, x1, x2, x3, x4, x5⟩ := hbx.get
  have HB := Lib.hid ((Below.refl w.heap.size w).alloc (Nat.le_refl _) (.cells #[.string s, .int .i64 l] 80))
  cases hq : inb l 0 (E + n4 - 1) with
  | false =>
    have HK := Lib.hid (fun W => hq ▸ ilk_any v0 v1 v2 v5 E l A4 n4 c4 W hE h4)
    clear hq
    go_enter Tryz.func128, Tryz.ntmps128
    go_wp2_with fail
    refine (HK.out _).mono ?_
    rintro e w1 ⟨rfl, hb⟩
    have hb2 := HB.out.trans (hb.mono HB.out.size)
    clear hb
    go_wp2_with fail
    go_ret
    exact ⟨rfl, hb2⟩
  | true =>
    have HK := Lib.hid (fun W => hq ▸ ilk_any v0 v1 v2 v5 E l A4 n4 c4 W hE h4)
    clear hq
    go_enter Tryz.func128, Tryz.ntmps128
    go_wp2_with fail
    refine (HK.out _).mono ?_
    rintro e w1 ⟨rfl, hb⟩
    have hb2 := HB.out.trans (hb.mono HB.out.size)
    clear hb
    go_wp2_with fail
    go_ret
    exact ⟨rfl, hb2⟩

/-- what the closure finds: the first wrong link -/
def WirOk (b : Big) (ws : List Wr) (k : Nat) : Prop := ∀ (j : Nat) x, j < k → ws[j]? = some x → linkB b x.link = true
def IdxPost (b : Big) (ws : List Wr) (w : World) (e : Ending) (w' : World) : Prop :=
  (∃ k : Nat, e = .returned (.int .i64 k) ∧ (∃ x, ws[k]? = some x ∧ linkB b x.link = false) ∧ Below w.heap.size w w') ∨ (e = .returned (.int .i64 (-1)) ∧ WirOk b ws ws.length ∧ Below w.heap.size w w')

set_option maxHeartbeats 1600000 in
theorem index_any (β : Nat) (v0 v1 v2 v5 : Value) (A4 : Option Addr) (n4 c4 : Nat) (A5 : Option Addr) (n5 c5 : Nat) (b : Big) (ws : List Wr) (w0 w : World) (hbx : BoxAt w β 31 v0 v1 v2 (.int .i64 b.edges) (.slice A4 n4 c4) v5) (hE : 0 ≤ b.edges ∧ b.edges ≤ 8) (h4 : n4 ≤ 16) (h4' : b.outer.length = n4)
    (h5 : WrsAt w0 w0.heap.size A5 n5 ws) (hb0 : Below w0.heap.size w0 w) (hn : n5 ≤ 1048576) :
    Calls Tryz.prog 138 #[.slice A5 n5 c5, .func (.func 128) #[] #[.pointer (some ⟨β, 0, none⟩)]] w (IdxPost b ws w) := by
  have HL := Lib.hid h5.1
  have HBx := Lib.hid hbx
  have hβ : β < w.heap.size := World.rowIs.lt hbx
  clear hbx
  go_enter Tryz.func138, Tryz.ntmps138
  go_wp2_with fail
  go_loopw [5, 8] (fun _ i wr => ∃ k : Nat, k ≤ n5 ∧ i = .int .i64 k ∧ WirOk b ws k ∧ Below w.heap.size w wr) (fun _ i _ => n5 - (intOf i).toNat)
  case atStart => exact ⟨0, Nat.zero_le _, rfl, fun j x hj => absurd hj (Nat.not_lt_zero j), Below.refl _ _⟩
  case round =>
    obtain ⟨k, hk, rfl, hok, hbel⟩ := hrel
    have HOk := Lib.hid hok
    have HBel := Lib.hid hbel
    have hbw := hb0.trans (hbel.mono hb0.size)
    clear hok hbel
    by_cases hlt : k < n5
    · obtain ⟨bi, offi, x, rfl, hbi, hx, cn, cl⟩ := h5.get hlt
      have g0 := (hbw.cell (p := ⟨bi, offi + k * 2, none⟩) hbi).trans cn
      have g1 := (hbw.cell (p := ⟨bi, offi + k * 2 + 1, none⟩) hbi).trans cl
      have CK := clos_any β v0 v1 v2 v5 b.edges A4 n4 c4 x.name x.link wr (HBx.out.below HBel.out hβ) hE h4
      have HX := Lib.hid hx
      have HLB := Lib.hid (show linkB b x.link = inb x.link 0 (b.edges + n4 - 1) by unfold linkB; rw [h4'])
      clear hx cn cl
      cases qu : inb x.link 0 (b.edges + n4 - 1) with
      | false =>
        rw [qu] at CK
        have HNo := Lib.hid (HLB.out.trans qu)
        clear qu
        go_wp2_with fail
        refine CK.mono ?_
        rintro e w3 ⟨rfl, hb3⟩
        have HB3 := Lib.hid (HBel.out.trans (hb3.mono HBel.out.size))
        clear CK hb3
        go_wp2_with fail
        go_ret
        exact .inl ⟨k, rfl, ⟨x, HX.out, HNo.out⟩, HB3.out⟩
      | true =>
        rw [qu] at CK
        have HYes := Lib.hid (HLB.out.trans qu)
        clear qu
        go_wp2_with fail
        refine CK.mono ?_
        rintro e w3 ⟨rfl, hb3⟩
        have HB3 := Lib.hid (HBel.out.trans (hb3.mono HBel.out.size))
        clear CK hb3
        go_wp2_with fail
        go_roundw
        case rel => exact ⟨k + 1, by omega, by go_num, fun j' x' hj' hx' => by
          by_cases e : j' = k
          · subst e; rw [HX.out] at hx'; injection hx' with e; subst e; exact HYes.out
          · exact HOk.out j' x' (by omega) hx', HB3.out⟩
        case measure => simp [intOf]; omega
    · obtain rfl : n5 = k := by omega
      go_wp2_with fail
      go_ret
      exact .inr ⟨rfl, by rw [HL.out]; exact HOk.out, HBel.out⟩

open Classical in
/-- whether some inner name has a wrong link -/
noncomputable def wirB (b : Big) (ws : List Wr) : Bool := decide (WirOk b ws ws.length)
open Classical in
theorem wir_true {b : Big} {ws : List Wr} (h : WirOk b ws ws.length) : wirB b ws = true := by unfold wirB; exact decide_eq_true h
open Classical in
theorem wir_false {b : Big} {ws : List Wr} (h : ¬ WirOk b ws ws.length) : wirB b ws = false := by unfold wirB; exact decide_eq_false h
open Classical in
theorem wir_of {b : Big} {ws : List Wr} (h : wirB b ws = true) : WirOk b ws ws.length := by unfold wirB at h; exact of_decide_eq_true h

set_option maxHeartbeats 800000 in
theorem contains_any (β : Nat) (v0 v1 v2 v5 : Value) (A4 : Option Addr) (n4 c4 : Nat) (A5 : Option Addr) (n5 c5 : Nat) (b : Big) (ws : List Wr) (w0 w : World) (hbx : BoxAt w β 31 v0 v1 v2 (.int .i64 b.edges) (.slice A4 n4 c4) v5) (hE : 0 ≤ b.edges ∧ b.edges ≤ 8) (h4 : n4 ≤ 16) (h4' : b.outer.length = n4)
    (h5 : WrsAt w0 w0.heap.size A5 n5 ws) (hb0 : Below w0.heap.size w0 w) (hn : n5 ≤ 1048576) :
    Calls Tryz.prog 127 #[.slice A5 n5 c5, .func (.func 128) #[] #[.pointer (some ⟨β, 0, none⟩)]] w (Post (!wirB b ws) w) := by
  have C := Lib.hid (index_any β v0 v1 v2 v5 A4 n4 c4 A5 n5 c5 b ws w0 w hbx hE h4 h4' h5 hb0 hn)
  obtain ⟨q, hq⟩ : ∃ q, wirB b ws = q := ⟨_, rfl⟩
  rw [hq]
  have HQ := Lib.hid hq
  clear hq hbx
  go_enter Tryz.func127, Tryz.ntmps127
  go_wp2_with fail
  refine C.out.mono ?_
  rintro e w1 (⟨k, rfl, ⟨x, hx, hl⟩, hb⟩ | ⟨rfl, hok, hb⟩)
  · have HNo := Lib.hid (HQ.out.symm.trans (wir_false (fun h => by rw [h k x (List.getElem?_eq_some_iff.1 hx).1 hx] at hl; cases hl)))
    clear hx hl
    go_wp2_with fail
    go_ret
    exact ⟨by rw [HNo.out]; rfl, hb⟩
  · have HYes := Lib.hid (HQ.out.symm.trans (wir_true hok))
    clear hok
    go_wp2_with fail
    go_ret
    exact ⟨by rw [HYes.out]; rfl, hb⟩
end Go.Proofs.YtlpgldejmdiceabGreat.cf
end

section
namespace Go.Proofs.YtlpgldejmdiceabGreat.lf
open kit bg sg sig only un hb opn over gn nm inn ht gd im pt cf
open Go.RowKit
set_option linter.unusedVariables false
attribute [local go_sem] Oper.semAt_some

theorem keepsFrom_below {B : Nat} {W W' : World} (h : Below W.heap.size W W') : KeepsFrom B W W' := ⟨h.size, fun k o _ hk _ => (h.block k (lt_of_block hk)).trans hk⟩
theorem set_get {w : World} {a : Addr} {u v : Value} (h : w.cell? a = some u) : (w.setCell a v).cell? a = some v := World.cell?_setCell_same' _ _ _ (by rw [h]; rfl)

/-- whether all nodes have as many links as ports, and all points have links -/
def LinksP (cs : List Ctl) (b : Big) : Prop := (∀ (k : Nat) x, b.nodes[k]? = some x → portsB cs x = true) ∧ (∀ p ∈ ports b.nodes, linkB b p.2.2 = true) ∧ WirOk b b.inner b.inner.length
open Classical in
noncomputable def linksB (cs : List Ctl) (b : Big) : Bool := decide (LinksP cs b)
open Classical in
theorem links_true {cs : List Ctl} {b : Big} (h : LinksP cs b) : linksB cs b = true := by unfold linksB; exact decide_eq_true h
open Classical in
theorem links_false {cs : List Ctl} {b : Big} (h : ¬ LinksP cs b) : linksB cs b = false := by unfold linksB; exact decide_eq_false h
open Classical in
theorem links_of {cs : List Ctl} {b : Big} (h : linksB cs b = true) : LinksP cs b := by unfold linksB at h; exact of_decide_eq_true h

set_option maxRecDepth 100000 in
set_option maxHeartbeats 6400000 in
theorem links_any (A : Option Addr) (n c : Nat) (cs : List Ctl) (A1 A2 A4 A5 : Option Addr) (n1 n2 n4 n5 c1 c2 c4 c5 : Nat) (b : Big) (w0 w : World) (hC : CtlsAt w0 w0.heap.size A n cs) (h1 : NdsAt w0 w0.heap.size A1 n1 b.nodes) (h5 : WrsAt w0 w0.heap.size A5 n5 b.inner)
    (hb0 : Below w0.heap.size w0 w) (hn : n ≤ 1048576) (hE : 0 ≤ b.edges ∧ b.edges ≤ 8) (p4 : n4 ≤ 16) (h4' : b.outer.length = n4) (q2 : n1 ≤ 8) (m5 : n5 ≤ 1048576) (hk : Ctrl cs b.nodes n1) (hlk : ∀ x ∈ b.nodes, x.links.length ≤ 1048576) :
    Calls Tryz.prog 111 #[.slice A n c, .agg #[.int .i64 b.roots, .slice A1 n1 c1, .slice A2 n2 c2, .int .i64 b.edges, .slice A4 n4 c4, .slice A5 n5 c5]] w (Post (linksB cs b) w) := by
  have HLk := Lib.hid hlk
  have HCl := Lib.hid hC.1
  have HL1 := Lib.hid h1.1
  clear hlk
  refine callsIn_wide (n := 8) |>.1 ?_
  refine callsIn_of_wp_marks Tryz.func111 rfl trivial ?_ rfl
  simp only [Tryz.ntmps111, List.size_toArray, List.length_cons, List.length_nil, Nat.reduceAdd, Nat.reduceSub, Array.replicate_succ, Array.replicate_zero, List.push_toArray, List.append_toArray, List.nil_append, List.cons_append]
  refine wpIn_wide.2 ?_
  have hnI : IntKind.i64.wrap ((n : Int) - 1) = (n : Int) - 1 := IntWalk.i64_in _ (by omega)
  have HBox : Hid (BoxAt ((w.alloc (.cells #[.int .i64 b.roots, .slice A1 n1 c1, .slice A2 n2 c2, .int .i64 b.edges, .slice A4 n4 c4, .slice A5 n5 c5] 31)).alloc (.cells #[.bool false] 4)) w.heap.size 31 (.int .i64 b.roots) (.slice A1 n1 c1) (.slice A2 n2 c2) (.int .i64 b.edges) (.slice A4 n4 c4) (.slice A5 n5 c5)) := Lib.hid ((six_new w _ _ _ _ _ _ _).alloc _)
  have HRes := Lib.hid (row_new (w.alloc (.cells #[.int .i64 b.roots, .slice A1 n1 c1, .slice A2 n2 c2, .int .i64 b.edges, .slice A4 n4 c4, .slice A5 n5 c5] 31)) #[.bool false] 4 1 rfl)
  have HB0 := Lib.hid (((Below.refl w.heap.size w).alloc (Nat.le_refl _) (.cells #[.int .i64 b.roots, .slice A1 n1 c1, .slice A2 n2 c2, .int .i64 b.edges, .slice A4 n4 c4, .slice A5 n5 c5] 31)).alloc (by simp) (.cells #[.bool false] 4))
  obtain ⟨W, hW⟩ : ∃ W, (w.alloc (.cells #[.int .i64 b.roots, .slice A1 n1 c1, .slice A2 n2 c2, .int .i64 b.edges, .slice A4 n4 c4, .slice A5 n5 c5] 31)).alloc (.cells #[.bool false] 4) = W := ⟨_, rfl⟩
  have hWz : W.heap.size = w.heap.size + 2 := by rw [← hW]; simp
  rw [hW] at HBox HRes HB0
  rw [World.size_alloc] at HRes
  have HWq := Lib.hid hW
  have HG0 : Hid (Below w0.heap.size w0 W) := Lib.hid (hb0.trans (HB0.out.mono hb0.size))
  have hWs : w.heap.size < W.heap.size := by omega
  have hWs1 : w.heap.size + 1 < W.heap.size := by omega
  have HZ := Lib.hid hWz
  obtain ⟨g, hg⟩ : ∃ g, linksB cs b = g := ⟨_, rfl⟩
  rw [hg]
  have HG := Lib.hid hg
  clear hg hW hb0 hWz
  go_wp2_with fail
  rw [HWq.out]
  go_loopw [12] (fun i wr => ∃ j : Nat, j ≤ n1 ∧ i = .int .i64 j ∧ (∀ (j' : Nat) x, j' < j → b.nodes[j']? = some x → portsB cs x = true) ∧ Below W.heap.size W wr) (fun i _ => n1 - (intOf i).toNat)
  case atStart => exact ⟨0, Nat.zero_le _, rfl, fun j x hj => absurd hj (Nat.not_lt_zero j), Below.refl _ _⟩
  case round =>
    obtain ⟨j, hj, rfl, hnd, hbel⟩ := hrel
    have HNd := Lib.hid hnd
    have hbw := HG0.out.trans (hbel.mono HG0.out.size)
    have HBel := Lib.hid hbel
    have hsr := hbel.size
    clear hnd hbel
    by_cases hlt : j < n1
    · obtain ⟨b1, off1, x, rfl, hb1, hx, d0, d1, L, m, cap, d2, hi⟩ := h1.get hlt
      obtain ⟨k0, k1⟩ := inb_true (hk j x (by omega) hx)
      obtain ⟨t, ht⟩ : ∃ t : Nat, x.control = t := ⟨x.control.toNat, by omega⟩
      have htn : t < n := by have := HCl.out; omega
      obtain ⟨b2, off2, cy, rfl, hb2, hcy, e0, e1, e2⟩ := hC.get htn
      have HP := Lib.hid (show portsB cs x = ((m : Int) == cy.ports) by
        unfold portsB
        rw [ht, Int.toNat_natCast, hcy, hi.len])
      rw [ht] at d0
      have g0 := (hbw.cell (p := ⟨b1, off1 + j * 3, none⟩) hb1).trans d0
      have g1 := (hbw.cell (p := ⟨b1, off1 + j * 3 + 1, none⟩) hb1).trans d1
      have g2 := (hbw.cell (p := ⟨b1, off1 + j * 3 + 2, none⟩) hb1).trans d2
      have f1 := (hbw.cell (p := ⟨b2, off2 + t * 3 + 1, none⟩) hb2).trans e1
      have hb2w : b2 < wr.heap.size := Nat.lt_of_lt_of_le hb2 hbw.size
      have hml : m ≤ 9223372036854775807 := by have := HLk.out x (List.mem_of_getElem? hx); have := hi.len; omega
      have HX := Lib.hid hx
      have HB3 := Lib.hid (HBel.out.alloc HBel.out.size (.cells #[.int .i64 (t : Int), .int .i64 x.parent, .slice L m cap] 96))
      have hr1 : wr.cell? ⟨w.heap.size + 1, 0, none⟩ = some (.bool false) := (HRes.out.of_block (HBel.out.block _ hWs1)).cell (by omega)
      have hr2 := (HRes.out.of_block (HBel.out.block _ hWs1)).frozen 0
      have hrw : w.heap.size + 1 < wr.heap.size := by omega
      clear hx d0 d1 d2 hcy e0 e1 e2 hi ht
      cases qp : ((m : Int) == cy.ports) with
      | false =>
        have qp2 : ((m : Int) != cy.ports) = true := by rw [bne, qp]; rfl
        have HNo := Lib.hid (HG.out.symm.trans (links_false (fun h => by have := h.1 j x HX.out; rw [HP.out, qp] at this; cases this)))
        go_wp2_with fail
        go_quiet (fail)
        go_wp2_with fail
        have hs := set_get (v := .bool false) (((below_drewN ((Below.refl wr.heap.size wr).alloc (Nat.le_refl _) (.cells #[.int .i64 (t : Int), .int .i64 x.parent, .slice L m cap] 96)) nq).cell (p := ⟨w.heap.size + 1, 0, none⟩) hrw).trans hr1)
        refine ⟨.bool false, by simp [results, Tryz.results111, go_sem, hs], ?_⟩
        refine ⟨by rw [HNo.out], ?_⟩
        exact (HB0.out.trans ((below_drewN HB3.out _).mono HB0.out.size)).setCell (p := ⟨w.heap.size + 1, 0, none⟩) (by dsimp only; omega) _
      | true =>
        have qp2 : ((m : Int) != cy.ports) = false := by rw [bne, qp]; rfl
        have HYes := Lib.hid (HP.out.trans qp)
        go_wp2_with fail
        go_quiet (fail)
        go_wp2_with fail
        go_roundw
        case rel => exact ⟨j + 1, by omega, by go_num, fun j' x' hj' hx' => by
          by_cases e : j' = j
          · subst e; rw [HX.out] at hx'; injection hx' with e; subst e; exact HYes.out
          · exact HNd.out j' x' (by omega) hx', below_drewN HB3.out _⟩
        case measure => simp [intOf]; omega
    · obtain rfl : n1 = j := by omega
      obtain ⟨w7, hw7⟩ : ∃ w7, wr = w7 := ⟨_, rfl⟩
      rw [hw7] at hbw HBel hsr ⊢
      clear hw7
      have HBox7 := Lib.hid (HBox.out.below HBel.out hWs)
      obtain ⟨x0, x1, x2, x3, x4, x5⟩ := HBox7.out.get
      have hR7 := HRes.out.of_block (HBel.out.block _ hWs1)
      go_wp2_with fail
      refine ((callsIn_wide (n := 8)).1 (portsOf_in Fence.wide 8 trivial rfl #[.int .i64 b.roots, .slice A1 n1 c1, .slice A2 n2 c2, .int .i64 b.edges, .slice A4 n4 c4, .slice A5 n5 c5] rfl w7)).mono ?_
      rintro e w8 ⟨rfl, hw8⟩
      have hbx : Hid (BoxAt w8 w7.heap.size 31 (.int .i64 b.roots) (.slice A1 n1 c1) (.slice A2 n2 c2) (.int .i64 b.edges) (.slice A4 n4 c4) (.slice A5 n5 c5)) := Lib.hid (by rw [hw8]; exact six_new w7 _ _ _ _ _ _ _)
      have hb78 : Below w7.heap.size w7 w8 := by rw [hw8]; exact (Below.refl _ _).alloc (Nat.le_refl _) _
      have hz8 : w8.heap.size = w7.heap.size + 1 := by rw [hw8]; simp
      have hβ : w7.heap.size < w8.heap.size := by omega
      have HB8 := Lib.hid (HBel.out.trans (hb78.mono hsr))
      have hbw8 := hbw.trans (hb78.mono hbw.size)
      have HBox8 := Lib.hid (HBox7.out.below hb78 (by omega))
      have HR8 := Lib.hid (hR7.of_block (hb78.block _ (by omega)))
      have hN8 := (h1.below hbw8).wide hbw8.size
      have hN18 : w.heap.size + 1 < w8.heap.size := by omega
      have HZ8 := Lib.hid hz8
      clear hw8 hb78 hz8 x0 x1 x2 x3 x4 x5 hR7 hbw
      go_wp2_with fail
      refine wpIn_wide (n := 8) |>.1 ?_
      refine' wpIn_rangeFunc_ownG rfl (by omega) (gf := 137) (lb := #[.pointer (some ⟨w7.heap.size, 0, none⟩)]) rfl trivial (enters_of Tryz.func137 (by kernel_rfl) rfl)
        (ports_stops Fence.wide 7 trivial rfl (by omega) w7.heap.size w8.heap.size A1 n1 c1 b.nodes w8 hβ (Nat.le_refl _) (hbx.out.get).2.1 hN8 (by omega) HLk.out) belowK_t (belowK_b (Nat.le_refl _)) (Below.refl _ _) (fun _ => rfl)
        (fun pre W' => (∀ p ∈ pre, linkB b p.2.2 = true) ∧ Below w8.heap.size w8 W')
        (fun c pre W' => (c = .ret ∧ ∃ p ∈ pre, linkB b p.2.2 = false) ∧ W'.cell? ⟨w.heap.size + 1, 0, none⟩ = some (.bool false) ∧ Below w.heap.size w W')
        (OwnFrom.and (ownFrom_pure _ _) (ownFrom_below (Nat.le_refl _) (Nat.le_refl _)))
        (fun c => OwnFrom.and (ownFrom_pure _ _) (OwnFrom.and (fun s A B row hs hg hr => cell_kept hs hg (fun r e => (hr r e).2)) (ownFrom_below (Nat.le_refl _) (by omega))))
        ⟨by simp, Below.refl _ _⟩ _ ?assign ?body ?done ?stop
      case assign =>
        intro l x W' K hK
        dsimp only [encP]
        gi_wp2
        exact hK
      case body =>
        rintro l pre x W' ⟨hpre, hB8⟩ hlt
        have hsz := hB8.size
        obtain ⟨x0, x1, x2, x3, x4, x5⟩ := (HBox8.out.below hB8 (by omega)).get
        have hr := HR8.out.of_block (hB8.block _ hN18)
        have hr1 : W'.cell? ⟨w.heap.size + 1, 0, none⟩ = some (.bool false) := hr.cell (by omega)
        have hr2 := hr.frozen 0
        have CK := fun W2 => ilk_any (.int .i64 b.roots) (.slice A1 n1 c1) (.slice A2 n2 c2) (.slice A5 n5 c5) b.edges x.2.2 A4 n4 c4 W2 hE p4
        have HLB := Lib.hid (show linkB b x.2.2 = inb x.2.2 0 (b.edges + n4 - 1) by unfold linkB; rw [h4'])
        have HB8' := Lib.hid hB8
        have HPre := Lib.hid hpre
        clear hr hpre hB8
        cases qu : inb x.2.2 0 (b.edges + n4 - 1) with
        | false =>
          rw [qu] at CK
          have HNo := Lib.hid (HLB.out.trans qu)
          clear qu
          gi_wp2
          refine ⟨trivial, (CallsIn.inRound l (callsIn_wide.2 (CK _))).mono ?_⟩
          rintro e W3 ⟨rfl, hb3⟩
          have hc3 := (hb3.cell (p := ⟨w.heap.size + 1, 0, none⟩) (by dsimp only; omega)).trans hr1
          have hf3 := (hb3.frozen (p := ⟨w.heap.size + 1, 0, none⟩) (by dsimp only; omega)).trans hr2
          have HB3 := Lib.hid (HB0.out.trans ((HB8.out.trans ((HB8'.out.trans (hb3.mono hsz)).mono HB8.out.size)).mono HB0.out.size))
          have HK3 : Hid (KeepsFrom w8.heap.size W' W3) := Lib.hid (keepsFrom_below hb3)
          clear hb3 CK x0 x1 x2 x3 x4 x5 hr1 hr2
          gi_wp2
          exact ⟨HK3.out.trans ((KeepsOthers.setCell _ _ _).from _), ⟨rfl, x, by simp, HNo.out⟩, set_get hc3, HB3.out.setCell (p := ⟨w.heap.size + 1, 0, none⟩) (by dsimp only; omega) _⟩
        | true =>
          rw [qu] at CK
          have HYes := Lib.hid (HLB.out.trans qu)
          clear qu
          gi_wp2
          refine ⟨trivial, (CallsIn.inRound l (callsIn_wide.2 (CK _))).mono ?_⟩
          rintro e W3 ⟨rfl, hb3⟩
          have HB3 := Lib.hid hb3
          clear hb3 CK x0 x1 x2 x3 x4 x5 hr1 hr2
          gi_wp2
          exact ⟨keepsFrom_below HB3.out, HB3.out.mono hsz, ⟨fun p hp => by
            rcases List.mem_append.1 hp with h | h
            · exact HPre.out p h
            · obtain rfl := List.mem_singleton.1 h
              exact HYes.out, HB8'.out.trans (HB3.out.mono hsz)⟩⟩
      case done =>
        rintro D ys W' hD rfl ⟨hall, hB8⟩ hK
        have hsz := hB8.size
        have hDl := lt_of_block hK
        have hBoxW := HBox8.out.below hB8 (by omega)
        obtain ⟨x0, x1, x2, x3, x4, x5⟩ := hBoxW.get
        have hr := HR8.out.of_block (hB8.block _ hN18)
        have hr1 : W'.cell? ⟨w.heap.size + 1, 0, none⟩ = some (.bool false) := hr.cell (by omega)
        have hr2 := hr.frozen 0
        have CK := contains_any w.heap.size (.int .i64 b.roots) (.slice A1 n1 c1) (.slice A2 n2 c2) (.slice A5 n5 c5) A4 n4 c4 A5 n5 c5 b b.inner w0 W' hBoxW hE p4 h4' h5 (hbw8.trans (hB8.mono hbw8.size)) m5
        have HAll := Lib.hid hall
        have HKD := Lib.hid hK
        have HBw := Lib.hid (HB0.out.trans ((HB8.out.trans (hB8.mono HB8.out.size)).mono HB0.out.size))
        obtain ⟨qw, hqw⟩ : ∃ qw, wirB b b.inner = qw := ⟨_, rfl⟩
        rw [hqw] at CK
        have HQw := Lib.hid hqw
        clear hr hall hK hBoxW hqw hB8
        go_wp2_with fail
        refine CK.mono ?_
        rintro e W3 ⟨rfl, hb3⟩
        have hc3 := (hb3.cell (p := ⟨w.heap.size + 1, 0, none⟩) (by dsimp only; omega)).trans hr1
        have hf3 := (hb3.frozen (p := ⟨w.heap.size + 1, 0, none⟩) (by dsimp only; omega)).trans hr2
        have HK3 := Lib.hid ((hb3.block D hDl).trans HKD.out)
        have HB3 := Lib.hid (HBw.out.trans (hb3.mono HBw.out.size))
        have HRs : Hid (g = qw) := by
          refine Lib.hid (HG.out.symm.trans ?_)
          cases qw with
          | true => exact links_true ⟨fun k x hx => HNd.out k x (by have := (List.getElem?_eq_some_iff.1 hx).1; have := HL1.out; omega) hx, HAll.out, wir_of HQw.out⟩
          | false => exact links_false (fun h => by have := wir_true h.2.2; rw [HQw.out] at this; cases this)
        have hDw : w.heap.size ≤ D := by omega
        have hne : D ≠ w.heap.size + 1 := by omega
        clear hb3 CK x0 x1 x2 x3 x4 x5 hr1 hr2
        go_wp2_with fail
        have hcell := set_get (v := .bool qw) hc3
        have hKD : (W3.setCell ⟨w.heap.size + 1, 0, none⟩ (.bool qw)).heap[D]? = some (.deferred (some [])) := (Below.heap_setCell _ _ _ _ hne).trans HK3.out
        have hcell2 := cell_kept hcell (grownBy_putObj' _ D (.deferred none)) (fun r e => by cases e; exact ⟨_, hKD, rfl⟩)
        refine ⟨by simp, .inl ⟨_, _, rfl, run_takeDeferred hKD, ?_⟩⟩
        refine ⟨.bool qw, by simp [results, Tryz.results111, go_sem, hcell2], ?_⟩
        refine ⟨by rw [HRs.out], ?_⟩
        exact (HB3.out.setCell (p := ⟨w.heap.size + 1, 0, none⟩) (by dsimp only; omega) _).trans (belowK_b (w := w) (Nat.le_refl _) _ D _ _ hDw hKD rfl rfl)
      case stop =>
        rintro D c pre W' hD hpre ⟨⟨rfl, p, hp, hl⟩, hc, hB⟩ hK
        have HNo := Lib.hid (HG.out.symm.trans (links_false (fun h => by rw [h.2.1 p (hpre.subset hp)] at hl; cases hl)))
        have hcell2 := cell_kept hc (grownBy_putObj' _ D (.deferred none)) (fun r e => by cases e; exact ⟨_, hK, rfl⟩)
        clear hpre hp hl
        gi_wp2
        refine ⟨by simp, .inl ⟨_, _, rfl, run_takeDeferred hK, ?_⟩⟩
        refine ⟨.bool false, by simp [results, Tryz.results111, go_sem, hcell2], ?_⟩
        refine ⟨by rw [HNo.out], ?_⟩
        exact hB.trans (belowK_b (w := w) (Nat.le_refl _) _ D _ _ (by omega) hK rfl rfl)
end Go.Proofs.YtlpgldejmdiceabGreat.lf
end

section
namespace Go.Proofs.YtlpgldejmdiceabGreat.ib
open kit bg sg sig isig only un hb opn over gn nm inn ht gd im pt cf lf
open Go.RowKit
set_option linter.unusedVariables false

theorem mem_prts {k m : Nat} {ls : List Int} {p : Port} (h : p ∈ prts k ls m) : ∃ i, i < m ∧ p = (k, i, ls.getD i 0) := by
  unfold prts at h
  obtain ⟨i, hi, rfl⟩ := List.mem_map.1 h
  exact ⟨i, List.mem_range.1 hi, rfl⟩
theorem mem_prtsTo {ns : List Nd} {m : Nat} {p : Port} (h : p ∈ prtsTo ns m) : ∃ (k : Nat) (x : Nd) (i : Nat), ns[k]? = some x ∧ x.links[i]? = some p.2.2 := by
  induction m with
  | zero => cases h
  | succ m ih =>
    rcases List.mem_append.1 h with h | h
    · exact ih h
    · cases hx : ns[m]? with
      | none => rw [hx] at h; cases h
      | some x =>
        rw [hx] at h
        obtain ⟨i, hi, rfl⟩ := mem_prts h
        have : x.links[i]? = some (x.links[i]) := List.getElem?_eq_getElem hi
        exact ⟨m, x, i, hx, by simp [List.getD, this]⟩
theorem prtsTo_mem {ns : List Nd} {k i m : Nat} {x : Nd} {l : Int} (hx : ns[k]? = some x) (hl : x.links[i]? = some l) (hk : k < m) : (k, i, l) ∈ prtsTo ns m := by
  have hi : i < x.links.length := (List.getElem?_eq_some_iff.1 hl).1
  have h1 : (k, i, l) ∈ prtsTo ns (k + 1) := by
    rw [prtsTo_succ hx]
    refine List.mem_append.2 (.inr ?_)
    unfold prts
    exact List.mem_map.2 ⟨i, List.mem_range.2 hi, by simp [List.getD, hl]⟩
  exact (prtsTo_prefix ns (show k + 1 ≤ m by omega)).subset h1

theorem big_parts (cs : List Ctl) (b : Big) : bigB cs b = (sigB cs && sizesB b && placesB cs b && linksB cs b && namesB b.outer && namesB (nms b.inner)) := by
  cases hq : (sigB cs && sizesB b && placesB cs b && linksB cs b && namesB b.outer && namesB (nms b.inner)) with
  | true =>
    simp only [Bool.and_eq_true] at hq
    obtain ⟨⟨⟨⟨⟨h1, h2⟩, h3⟩, h4⟩, h5⟩, h6⟩ := hq
    have p3 := places_of h3
    have p4 := links_of h4
    refine big_true ⟨sig_of h1, h2, names_of h5, names_of h6, fun k x hx => ⟨p3.1 k x hx, p4.1 k x hx, fun i l hl => ?_⟩, p3.2, fun i x hx => p4.2.2 i x (List.getElem?_eq_some_iff.1 hx).1 hx⟩
    exact p4.2.1 (k, i, l) (prtsTo_mem hx hl (List.getElem?_eq_some_iff.1 hx).1)
  | false =>
    refine big_false (fun hp => ?_)
    obtain ⟨h1, h2, h3, h4, h5, h6, h7⟩ := hp
    have g3 := places_true (cs := cs) (b := b) ⟨fun k x hx => (h5 k x hx).1, h6⟩
    have g4 := links_true (cs := cs) (b := b) ⟨fun k x hx => (h5 k x hx).2.1, fun p hp => by
      obtain ⟨k, x, i, hx, hl⟩ := mem_prtsTo hp
      exact (h5 k x hx).2.2 i _ hl, fun j x _ hx => h7 j x hx⟩
    have g5 := names_true h3
    have g6 : namesB (nms b.inner) = true := names_true h4
    rw [sig_true h1, h2, g3, g4, g5, g6] at hq
    cases hq

set_option maxRecDepth 100000 in
set_option maxHeartbeats 6400000 in
theorem isBig_any (A : Option Addr) (n c : Nat) (cs : List Ctl) (v : Value) (b : Big) (w : World) (hC : CtlsAt w w.heap.size A n cs) (hv : BigAt w w.heap.size v b) (hn : n ≤ 1048576) (hs : ∀ c ∈ cs, c.name.size ≤ 1048576) (hS : BigS b) (hw : BigW b) :
    Calls Tryz.prog 88 #[.slice A n c, v] w (Post (bigB cs b) w) := by
  obtain ⟨A1, n1, c1, A2, n2, c2, A4, n4, c4, A5, n5, c5, rfl, h1, h2, h4, h5⟩ := hv
  obtain ⟨s1, sl, s2, s4, ss4, s5, ss5⟩ := hS
  have HW := Lib.hid hw
  have l1 := h1.1
  have l2 := h2.len
  have l4 := h4.strlen
  have l5 := h5.1
  have HL := Lib.hid (And.intro l1 (And.intro l2 (And.intro l4 l5)))
  have m1 : n1 ≤ 1048576 := by omega
  have m2 : n2 ≤ 1048576 := by omega
  have m4 : n4 ≤ 1048576 := by omega
  have m5 : n5 ≤ 1048576 := by omega
  have HSs := Lib.hid ss4
  have HSl := Lib.hid sl
  have HSc := Lib.hid hs
  have HSi := Lib.hid (show ∀ s ∈ nms b.inner, s.size ≤ 1048576 from fun s hs => by
    unfold nms at hs
    obtain ⟨x, hx, rfl⟩ := List.mem_map.1 hs
    exact ss5 x hx)
  have HBox : Hid (BoxAt (w.alloc (.cells #[.int .i64 b.roots, .slice A1 n1 c1, .slice A2 n2 c2, .int .i64 b.edges, .slice A4 n4 c4, .slice A5 n5 c5] 31)) w.heap.size 31 (.int .i64 b.roots) (.slice A1 n1 c1) (.slice A2 n2 c2) (.int .i64 b.edges) (.slice A4 n4 c4) (.slice A5 n5 c5)) := Lib.hid (six_new w _ _ _ _ _ _ _)
  have HB0 := Lib.hid ((Below.refl w.heap.size w).alloc (Nat.le_refl _) (.cells #[.int .i64 b.roots, .slice A1 n1 c1, .slice A2 n2 c2, .int .i64 b.edges, .slice A4 n4 c4, .slice A5 n5 c5] 31))
  have HNl := Lib.hid (show (nms b.inner).length = n5 by unfold nms; rw [List.length_map]; exact l5)
  obtain ⟨W, hW⟩ : ∃ W, w.alloc (.cells #[.int .i64 b.roots, .slice A1 n1 c1, .slice A2 n2 c2, .int .i64 b.edges, .slice A4 n4 c4, .slice A5 n5 c5] 31) = W := ⟨_, rfl⟩
  have hWz : W.heap.size = w.heap.size + 1 := by rw [← hW]; simp
  rw [hW] at HBox HB0
  have HWq := Lib.hid hW
  have hWs : w.heap.size < W.heap.size := by omega
  obtain ⟨g, hg⟩ : ∃ g, bigB cs b = g := ⟨_, rfl⟩
  rw [hg]
  rw [big_parts] at hg
  have HG := Lib.hid hg
  have CS := isSig_any A n c cs W w.heap.size (hC.below HB0.out) HB0.out.size hn HSc.out
  clear hg hW hWz l1 l2 l4 l5 s1 s2 s4 ss4 s5 ss5 sl hs hw
  go_enter Tryz.func88, Tryz.ntmps88
  go_wp2_with fail
  rw [HWq.out]
  cases qs : sigB cs with
  | false =>
    rw [qs] at CS
    have HNo := Lib.hid (HG.out.symm.trans (show _ = false by rw [qs]; rfl))
    refine CS.mono ?_
    rintro e w1 ⟨rfl, hb⟩
    have hb1 := HB0.out.trans (hb.mono HB0.out.size)
    clear hb CS
    go_wp2_with fail
    go_ret
    exact ⟨by rw [HNo.out]; rfl, hb1⟩
  | true =>
    rw [qs] at CS
    have HQs := Lib.hid qs
    refine CS.mono ?_
    rintro e w1 ⟨rfl, hb⟩
    have hb1 := HB0.out.trans (hb.mono HB0.out.size)
    have HBx1 := Lib.hid (HBox.out.below hb hWs)
    have hW1 : w.heap.size < w1.heap.size := Nat.lt_of_lt_of_le hWs hb.size
    obtain ⟨x0, x1, x2, x3, x4, x5⟩ := HBx1.out.get
    clear hb CS qs
    go_wp2_with fail
    have CZ := sizes_any A1 A2 A4 A5 n1 n2 n4 n5 c1 c2 c4 c5 b w1 HL.out.1 HL.out.2.1 HL.out.2.2.1 HL.out.2.2.2 m1 m2 m4 m5
    cases qz : sizesB b with
    | false =>
      rw [qz] at CZ
      have HNo := Lib.hid (HG.out.symm.trans (show _ = false by rw [qz]; simp))
      refine CZ.mono ?_
      rintro e w2 ⟨rfl, hb⟩
      have hb2 := hb1.trans (hb.mono hb1.size)
      clear hb CZ x0 x1 x2 x3 x4 x5
      go_wp2_with fail
      go_ret
      exact ⟨by rw [HNo.out]; rfl, hb2⟩
    | true =>
      rw [qz] at CZ
      have HQz := Lib.hid qz
      obtain ⟨z1, z2, z3, z4, z5, z6⟩ := sizes_of qz
      have HZ1 := Lib.hid z1
      have HZ2 := Lib.hid z2
      have p1 : n1 ≤ 8 := by have := HL.out.1; omega
      have p2 : n2 ≤ 4 := by have := HL.out.2.1; omega
      have p4 : n4 ≤ 16 := by have := HL.out.2.2.1; omega
      refine CZ.mono ?_
      rintro e w2 ⟨rfl, hb⟩
      have hb2 := hb1.trans (hb.mono hb1.size)
      have HBx2 := Lib.hid (HBx1.out.below hb hW1)
      have hW2 : w.heap.size < w2.heap.size := Nat.lt_of_lt_of_le hW1 hb.size
      clear hb CZ x0 x1 x2 x3 x4 x5 qz z1 z2 z3 z4 z5 z6
      obtain ⟨x0, x1, x2, x3, x4, x5⟩ := HBx2.out.get
      go_wp2_with fail
      have CP := places_any A n c cs A1 A2 A4 A5 n1 n2 n4 n5 c1 c2 c4 c5 b w w2 hC h1 h2 hb2 hn HZ1.out p1 p2 HW.out
      cases qp : placesB cs b with
      | false =>
        rw [qp] at CP
        have HNo := Lib.hid (HG.out.symm.trans (show _ = false by rw [qp]; simp))
        refine CP.mono ?_
        rintro e w3 ⟨rfl, hb⟩
        have hb3 := hb2.trans (hb.mono hb2.size)
        clear hb CP x0 x1 x2 x3 x4 x5
        go_wp2_with fail
        go_ret
        exact ⟨by rw [HNo.out]; rfl, hb3⟩
      | true =>
        rw [qp] at CP
        have HQp := Lib.hid qp
        have HCt := Lib.hid (ctrl_seat (cs := cs) (b := b) (m := n1) (fun j x _ hx => (places_of qp).1 j x hx))
        refine CP.mono ?_
        rintro e w3 ⟨rfl, hb⟩
        have hb3 := hb2.trans (hb.mono hb2.size)
        have HBx3 := Lib.hid (HBx2.out.below hb hW2)
        have hW3 : w.heap.size < w3.heap.size := Nat.lt_of_lt_of_le hW2 hb.size
        clear hb CP x0 x1 x2 x3 x4 x5 qp
        obtain ⟨x0, x1, x2, x3, x4, x5⟩ := HBx3.out.get
        go_wp2_with fail
        have CL := links_any A n c cs A1 A2 A4 A5 n1 n2 n4 n5 c1 c2 c4 c5 b w w3 hC h1 h5 hb3 hn HZ2.out p4 HL.out.2.2.1 p1 m5 HCt.out HSl.out
        cases ql : linksB cs b with
        | false =>
          rw [ql] at CL
          have HNo := Lib.hid (HG.out.symm.trans (show _ = false by rw [ql]; simp))
          refine CL.mono ?_
          rintro e w4 ⟨rfl, hb⟩
          have hb4 := hb3.trans (hb.mono hb3.size)
          clear hb CL x0 x1 x2 x3 x4 x5
          go_wp2_with fail
          go_ret
          exact ⟨by rw [HNo.out]; rfl, hb4⟩
        | true =>
          rw [ql] at CL
          have HQl := Lib.hid ql
          refine CL.mono ?_
          rintro e w4 ⟨rfl, hb⟩
          have hb4 := hb3.trans (hb.mono hb3.size)
          have HBx4 := Lib.hid (HBx3.out.below hb hW3)
          have hW4 : w.heap.size < w4.heap.size := Nat.lt_of_lt_of_le hW3 hb.size
          clear hb CL x0 x1 x2 x3 x4 x5 ql
          obtain ⟨x0, x1, x2, x3, x4, x5⟩ := HBx4.out.get
          go_wp2_with fail
          have CN := areNames_any A4 n4 c4 b.outer w4 w.heap.size (h4.below hb4) m4 HSs.out
          cases qo : namesB b.outer with
          | false =>
            rw [qo] at CN
            have HNo := Lib.hid (HG.out.symm.trans (show _ = false by rw [qo]; simp))
            refine CN.mono ?_
            rintro e w5 ⟨rfl, rfl⟩
            clear CN x0 x1 x2 x3 x4 x5
            go_wp2_with fail
            go_ret
            exact ⟨by rw [HNo.out]; rfl, hb4⟩
          | true =>
            rw [qo] at CN
            have HQo := Lib.hid qo
            refine CN.mono ?_
            rintro e w5 ⟨rfl, rfl⟩
            clear CN qo
            go_wp2_with fail
            refine (innerN_any _ _ _ _ _ A5 n5 c5 b.inner w w4 h5 hb4 m5).mono ?_
            rintro e w6 ⟨v6, rfl, ho6, hb⟩
            have hb6 := hb4.trans (hb.mono hb4.size)
            obtain ⟨g6, cap6, rfl, hg6, hg6', hc6, hs6⟩ := ho6.at
            have hlen6 : ((nms b.inner).map Value.string).length = n5 := by rw [List.length_map]; exact HNl.out
            rw [hlen6] at hs6 ⊢
            clear hb ho6 x0 x1 x2 x3 x4 x5 hlen6
            go_wp2_with fail
            have CM := areNames_any (some ⟨g6, 0, none⟩) n5 cap6 (nms b.inner) w6 w6.heap.size hs6 m5 HSi.out
            obtain ⟨q, hq⟩ : ∃ q, namesB (nms b.inner) = q := ⟨_, rfl⟩
            rw [hq] at CM
            have HYes := Lib.hid (HG.out.symm.trans (show _ = q by rw [HQs.out, HQz.out, HQp.out, HQl.out, HQo.out, hq]; rfl))
            clear hq
            refine CM.mono ?_
            rintro e w7 ⟨rfl, rfl⟩
            clear CM hs6 hg6 hg6' hc6
            go_wp2_with fail
            go_ret
            exact ⟨by rw [HYes.out]; rfl, hb6⟩
end Go.Proofs.YtlpgldejmdiceabGreat.ib
end

section
namespace Go.Proofs.YtlpgldejmdiceabGreat.isa
open kit bg sg sig isig only un hb opn over gn nm inn ht gd im pt cf lf ib
open Go.RowKit
set_option linter.unusedVariables false

/-- whether a Bigraph is an agent -/
noncomputable def agentB (cs : List Ctl) (b : Big) : Bool := bigB cs b && decide (b.sites.length = 0) && decide (b.inner.length = 0)

theorem agent_of {cs : List Ctl} {b : Big} {q : Bool} (h : bigB cs b = q) {n2 n5 : Nat} (h2 : b.sites.length = n2) (h5 : b.inner.length = n5) : agentB cs b = (q && decide (n2 = 0) && decide (n5 = 0)) := by
  unfold agentB
  rw [h, h2, h5]

end Go.Proofs.YtlpgldejmdiceabGreat.isa
end

section
namespace Go.Proofs.YtlpgldejmdiceabGreat.lawb
open kit bg opn sig isig hc only hb gd cf ht
open Go.RowKit
set_option linter.unusedVariables false

/-- a variable of a Bigraph's own, and its six parts stored -/
def put6 (t : TypeId) (w : World) (a b c d e f : Value) : World :=
  ((((((w.alloc (.cells #[.int .i64 0, .slice none 0 0, .slice none 0 0, .int .i64 0, .slice none 0 0, .slice none 0 0] t)).setCell ⟨w.heap.size, 0, none⟩ a).setCell ⟨w.heap.size, 1, none⟩ b).setCell ⟨w.heap.size, 2, none⟩ c).setCell ⟨w.heap.size, 3, none⟩ d).setCell ⟨w.heap.size, 4, none⟩ e).setCell ⟨w.heap.size, 5, none⟩ f
theorem put6_at (t : TypeId) (w : World) (a b c d e f : Value) : BoxAt (put6 t w a b c d e f) w.heap.size t a b c d e f ∧ Below w.heap.size w (put6 t w a b c d e f) ∧ (put6 t w a b c d e f).heap.size = w.heap.size + 1 := by
  refine ⟨?_, ?_, by simp [put6, World.setCell]⟩
  · have h := six_new w (.int .i64 0) (.slice none 0 0) (.slice none 0 0) (.int .i64 0) (.slice none 0 0) (.slice none 0 0) t
    have h6 : (put6 t w a b c d e f).rowIs w.heap.size t 6 _ := World.rowIs.set (World.rowIs.set (World.rowIs.set (World.rowIs.set (World.rowIs.set (World.rowIs.set h 0 a) 1 b) 2 c) 3 d) 4 e) 5 f
    unfold BoxAt
    refine h6.congr ?_
    intro i hi
    match i, hi with
    | 0, _ => rfl
    | 1, _ => rfl
    | 2, _ => rfl
    | 3, _ => rfl
    | 4, _ => rfl
    | 5, _ => rfl
  · unfold put6
    exact (((((((Below.refl w.heap.size w).alloc (Nat.le_refl _) _).setCell (p := ⟨w.heap.size, 0, none⟩) (Nat.le_refl _) a).setCell (p := ⟨w.heap.size, 1, none⟩) (Nat.le_refl _) b).setCell (p := ⟨w.heap.size, 2, none⟩) (Nat.le_refl _) c).setCell (p := ⟨w.heap.size, 3, none⟩) (Nat.le_refl _) d).setCell (p := ⟨w.heap.size, 4, none⟩) (Nat.le_refl _) e).setCell (p := ⟨w.heap.size, 5, none⟩) (Nat.le_refl _) f
end Go.Proofs.YtlpgldejmdiceabGreat.lawb
end

section
namespace Go.Proofs.YtlpgldejmdiceabGreat.rs
open kit bg strs only hb sig inn ht marks eqs hi
open Go.RowKit
set_option linter.unusedVariables false

/-- a slice with these values, nil or in the blocks from lo to hi -/
def Res (w : World) (lo hi : Nat) (t : TypeId) (v : Value) (ys : List Value) : Prop :=
  ∃ A c, v = .slice A ys.length c ∧ SR w hi A ys.length ys ∧ ((A = none ∧ c = 0 ∧ ys = []) ∨ ∃ g f, A = some ⟨g, 0, none⟩ ∧ lo ≤ g ∧ g < hi ∧ ys.length ≤ c ∧ w.rowIs g t c f)
/-- the same, all of it marked -/
def Mkd (w : World) (lo hi : Nat) (t : TypeId) (v : Value) (n : Nat) (M : Nat → Value) : Prop :=
  ∃ A c, v = .slice A n c ∧ ((A = none ∧ c = 0 ∧ n = 0) ∨ ∃ g f, A = some ⟨g, 0, none⟩ ∧ lo ≤ g ∧ g < hi ∧ n ≤ c ∧ w.rowIs g t c f ∧ ∀ x, x < n → f x = M x)
section
variable {w w' : World} {lo hi lo' hi' n : Nat} {t : TypeId} {v : Value} {ys : List Value} {M : Nat → Value}
theorem Res.of_owns (h : Owns w lo t v ys) : Res w lo w.heap.size t v ys := by
  obtain ⟨g, cap, f, rfl, hb, hc, hr, hf⟩ := h.row
  exact ⟨_, _, rfl, SR.of_row2 hr hc hr.lt (fun k u hu => ⟨(List.getElem?_eq_some_iff.1 hu).1, hf k u hu⟩) rfl, .inr ⟨g, f, rfl, hb, hr.lt, hc, hr⟩⟩
theorem Res.nil : Res w lo hi t (.slice none 0 0) [] := ⟨none, 0, rfl, SR.nil_, .inl ⟨rfl, rfl, rfl⟩⟩
theorem Res.empty {B : Nat} (hB : B ≤ w.heap.size) : Res (w.alloc (.cells #[] t)) B (w.alloc (.cells #[] t)).heap.size t (.slice (some ⟨w.heap.size, 0, none⟩) 0 0) [] :=
  ⟨_, 0, rfl, SR.nil_, .inr ⟨_, _, rfl, hB, by simp, Nat.le_refl _, row_new w #[] t 0 rfl⟩⟩
theorem Res.wide (h : Res w lo hi t v ys) (a1 : lo' ≤ lo) (a2 : hi ≤ hi') : Res w lo' hi' t v ys := by
  obtain ⟨A, c, rfl, hs, hr⟩ := h
  refine ⟨A, c, rfl, hs.wide a2, hr.imp id ?_⟩
  rintro ⟨g, f, e, h1, h2, h3, h4⟩
  exact ⟨g, f, e, by omega, by omega, h3, h4⟩
theorem Res.below {B : Nat} (h : Res w lo hi t v ys) (hb : Below B w w') (hB : hi ≤ B) : Res w' lo hi t v ys := by
  obtain ⟨A, c, rfl, hs, hr⟩ := h
  refine ⟨A, c, rfl, hs.below (hb.mono hB), hr.imp id ?_⟩
  rintro ⟨g, f, e, h1, h2, h3, h4⟩
  exact ⟨g, f, e, h1, h2, h3, h4.of_block (hb.block g (by omega))⟩
/-- a change of other blocks leaves it -/
theorem Res.apart {l r : Nat} (h : Res w lo hi t v ys) (ho : Only l r w w') (hr : r ≤ lo) : Res w' lo hi t v ys := by
  obtain ⟨A, c, rfl, hs, hq⟩ := h
  refine ⟨A, c, rfl, ⟨hs.1, fun hp => ?_⟩, hq.imp id ?_⟩
  · obtain ⟨b, off, e, hb, hc⟩ := hs.2 hp
    rcases hq with ⟨e2, -, e3⟩ | ⟨g, f, e2, h1, h2, h3, h4⟩
    · rw [e3] at hp; exact absurd hp (by simp)
    · rw [e2] at e
      injection e with e
      injection e with e5 e6 _
      subst e5
      refine ⟨g, off, by rw [e2, e6], hb, fun k u hu => ?_⟩
      exact (World.cell?_of_block (w := w) (ho.block g h4.lt (.inr (by omega)))).trans (hc k u hu)
  · rintro ⟨g, f, e, h1, h2, h3, h4⟩
    exact ⟨g, f, e, h1, h2, h3, h4.of_block (ho.block g h4.lt (.inr (by omega)))⟩
theorem Mkd.below {B : Nat} (h : Mkd w lo hi t v n M) (hb : Below B w w') (hB : hi ≤ B) : Mkd w' lo hi t v n M := by
  obtain ⟨A, c, rfl, hr⟩ := h
  refine ⟨A, c, rfl, hr.imp id ?_⟩
  rintro ⟨g, f, e, h1, h2, h3, h4, h5⟩
  exact ⟨g, f, e, h1, h2, h3, h4.of_block (hb.block g (by omega)), h5⟩
theorem Mkd.apart {l r : Nat} (h : Mkd w lo hi t v n M) (ho : Only l r w w') (hr : r ≤ lo ∨ hi ≤ l) : Mkd w' lo hi t v n M := by
  obtain ⟨A, c, rfl, hq⟩ := h
  refine ⟨A, c, rfl, hq.imp id ?_⟩
  rintro ⟨g, f, e, h1, h2, h3, h4, h5⟩
  exact ⟨g, f, e, h1, h2, h3, h4.of_block (ho.block g h4.lt (by omega)), h5⟩
end

theorem markS_nil (k : Int) (w : World) (h0 : 0 < k) (h1 : k ≤ 8000000) : Calls Tryz.prog 36 #[.slice none 0 0, .int .i64 k] w fun e w' => e = .returned (.int .i64 k) ∧ w = w' := by
  go_enter Tryz.func36, Tryz.ntmps36
  go_wp2_with fail
  go_loopw [1, 5] (fun q i wr => i = .int .i64 0 ∧ q = .int .i64 k ∧ w = wr) (fun _ i _ => 0)
  case atStart => exact ⟨rfl, rfl, rfl⟩
  case round =>
    obtain ⟨rfl, rfl, rfl⟩ := hrel
    go_wp2_with fail
    go_ret
    exact ⟨rfl, rfl⟩
theorem heldS_nil (k : Int) (w : World) (h0 : 0 < k) (h1 : k ≤ 8000000) : Calls Tryz.prog 40 #[.slice none 0 0, .int .i64 k] w fun e w' => e = .returned (.int .i64 k) ∧ w = w' := by
  go_enter Tryz.func40, Tryz.ntmps40
  go_wp2_with fail
  go_loopw [1, 5] (fun q i wr => i = .int .i64 0 ∧ q = .int .i64 k ∧ w = wr) (fun _ i _ => 0)
  case atStart => exact ⟨rfl, rfl, rfl⟩
  case round =>
    obtain ⟨rfl, rfl, rfl⟩ := hrel
    go_wp2_with fail
    go_ret
    exact ⟨rfl, rfl⟩
theorem markI_nil (k : Int) (w : World) (h0 : 0 < k) (h1 : k ≤ 8000000) : Calls Tryz.prog 35 #[.slice none 0 0, .int .i64 k] w fun e w' => e = .returned (.int .i64 k) ∧ w = w' := by
  go_enter Tryz.func35, Tryz.ntmps35
  go_wp2_with fail
  go_loopw [1, 5] (fun q i wr => i = .int .i64 0 ∧ q = .int .i64 k ∧ w = wr) (fun _ i _ => 0)
  case atStart => exact ⟨rfl, rfl, rfl⟩
  case round =>
    obtain ⟨rfl, rfl, rfl⟩ := hrel
    go_wp2_with fail
    go_ret
    exact ⟨rfl, rfl⟩
theorem heldI_nil (k : Int) (w : World) (h0 : 0 < k) (h1 : k ≤ 8000000) : Calls Tryz.prog 39 #[.slice none 0 0, .int .i64 k] w fun e w' => e = .returned (.int .i64 k) ∧ w = w' := by
  go_enter Tryz.func39, Tryz.ntmps39
  go_wp2_with fail
  go_loopw [1, 5] (fun q i wr => i = .int .i64 0 ∧ q = .int .i64 k ∧ w = wr) (fun _ i _ => 0)
  case atStart => exact ⟨rfl, rfl, rfl⟩
  case round =>
    obtain ⟨rfl, rfl, rfl⟩ := hrel
    go_wp2_with fail
    go_ret
    exact ⟨rfl, rfl⟩

theorem eqRS_any (v v' : Value) (ss : List ByteArray) (w : World) (lo hi lo' hi' : Nat) (h : Res w lo hi 9 v (ss.map Value.string)) (h' : Res w lo' hi' 9 v' (ss.map Value.string)) (hn : ss.length ≤ 1048576) :
    Calls Tryz.prog 30 #[v, v'] w fun e w' => e = .returned (.bool true) ∧ Below w.heap.size w w' := by
  obtain ⟨A, c, rfl, h1, -⟩ := h
  obtain ⟨A', c', rfl, h2, -⟩ := h'
  exact (eq_any A A' _ c c' ss w _ _ h1 h2 (by simpa using hn)).mono fun _ _ ⟨a, d⟩ => ⟨a, d.below _⟩
theorem eqRI_any (v v' : Value) (zs : List Int) (w : World) (lo hi lo' hi' : Nat) (h : Res w lo hi 3 v (zs.map (Value.int .i64))) (h' : Res w lo' hi' 3 v' (zs.map (Value.int .i64))) (hn : zs.length ≤ 1048576) :
    Calls Tryz.prog 29 #[v, v'] w fun e w' => e = .returned (.bool true) ∧ Below w.heap.size w w' := by
  obtain ⟨A, c, rfl, h1, -⟩ := h
  obtain ⟨A', c', rfl, h2, -⟩ := h'
  exact (eqIS_any A A' _ c c' zs w _ _ h1 h2 (by unfold maxLen; simp; omega)).mono fun _ _ ⟨a, d⟩ => ⟨a, d.below _⟩

theorem markRS_any (v : Value) (ys : List Value) (k : Int) (w : World) (lo hi : Nat) (h : Res w lo hi 9 v ys) (h0 : 0 < k) (h1 : k ≤ 2000000) (hn : ys.length ≤ 1048576) :
    Calls Tryz.prog 36 #[v, .int .i64 k] w fun e w' => e = .returned (.int .i64 (k + ys.length)) ∧ Mkd w' lo hi 9 v ys.length (mks k) ∧ Only lo hi w w' := by
  obtain ⟨A, c, rfl, -, ⟨rfl, rfl, rfl⟩ | ⟨g, f, rfl, a1, a2, hc, hr⟩⟩ := h
  · refine (markS_nil k w h0 (by omega)).mono ?_
    rintro e w1 ⟨rfl, rfl⟩
    exact ⟨by simp, ⟨none, 0, rfl, .inl ⟨rfl, rfl, rfl⟩⟩, Only.refl _ _ _⟩
  · refine (markS_any g ys.length c f k w hr hc h0 (by omega) (by omega)).mono ?_
    rintro e w1 ⟨rfl, hr1, hg⟩
    exact ⟨rfl, ⟨_, c, rfl, .inr ⟨g, _, rfl, a1, a2, hc, hr1, fun x hx => if_pos hx⟩⟩, Only.of_grown hg hr hr1 a1 a2⟩
theorem heldRS_any (v : Value) (n : Nat) (k : Int) (w : World) (lo hi : Nat) (h : Mkd w lo hi 9 v n (mks k)) (h0 : 0 < k) (h1 : k ≤ 2000000) (hn : n ≤ 1048576) :
    Calls Tryz.prog 40 #[v, .int .i64 k] w fun e w' => e = .returned (.int .i64 (k + n)) ∧ Below w.heap.size w w' := by
  obtain ⟨A, c, rfl, ⟨rfl, rfl, rfl⟩ | ⟨g, f, rfl, a1, a2, hc, hr, hf⟩⟩ := h
  · refine (heldS_nil k w h0 (by omega)).mono ?_
    rintro e w1 ⟨rfl, rfl⟩
    exact ⟨by simp, Below.refl _ _⟩
  · exact heldS_any g n c k w f hr hf hc h0 (by omega) (by omega)
theorem markRI_any (v : Value) (ys : List Value) (k : Int) (w : World) (lo hi : Nat) (h : Res w lo hi 3 v ys) (h0 : 0 < k) (h1 : k ≤ 2000000) (hn : ys.length ≤ 1048576) :
    Calls Tryz.prog 35 #[v, .int .i64 k] w fun e w' => e = .returned (.int .i64 (k + ys.length)) ∧ Mkd w' lo hi 3 v ys.length (mki k) ∧ Only lo hi w w' := by
  obtain ⟨A, c, rfl, -, ⟨rfl, rfl, rfl⟩ | ⟨g, f, rfl, a1, a2, hc, hr⟩⟩ := h
  · refine (markI_nil k w h0 (by omega)).mono ?_
    rintro e w1 ⟨rfl, rfl⟩
    exact ⟨by simp, ⟨none, 0, rfl, .inl ⟨rfl, rfl, rfl⟩⟩, Only.refl _ _ _⟩
  · refine (markI_any g ys.length c f k w hr hc h0 (by omega) (by omega)).mono ?_
    rintro e w1 ⟨rfl, hr1, hg⟩
    exact ⟨rfl, ⟨_, c, rfl, .inr ⟨g, _, rfl, a1, a2, hc, hr1, fun x hx => if_pos hx⟩⟩, Only.of_grown hg hr hr1 a1 a2⟩
theorem heldRI_any (v : Value) (n : Nat) (k : Int) (w : World) (lo hi : Nat) (h : Mkd w lo hi 3 v n (mki k)) (h0 : 0 < k) (h1 : k ≤ 2000000) (hn : n ≤ 1048576) :
    Calls Tryz.prog 39 #[v, .int .i64 k] w fun e w' => e = .returned (.int .i64 (k + n)) ∧ Below w.heap.size w w' := by
  obtain ⟨A, c, rfl, ⟨rfl, rfl, rfl⟩ | ⟨g, f, rfl, a1, a2, hc, hr, hf⟩⟩ := h
  · refine (heldI_nil k w h0 (by omega)).mono ?_
    rintro e w1 ⟨rfl, rfl⟩
    exact ⟨by simp, Below.refl _ _⟩
  · exact heldI_any g n c k w f hr hf hc h0 (by omega) (by omega)

/-- what a function tells that gives back a slice and whether there is an answer -/
def ResPost (t : TypeId) (q : Bool) (ys : List Value) (w : World) (e : Ending) (w' : World) : Prop :=
  ∃ v, e = .returned (.tuple #[v, .bool q]) ∧ Res w' w.heap.size w'.heap.size t v ys ∧ Below w.heap.size w w'
end Go.Proofs.YtlpgldejmdiceabGreat.rs
end

section
namespace Go.Proofs.YtlpgldejmdiceabGreat.rs
open kit bg strs only hb sig inn ht marks eqs hi
open Go.RowKit
set_option linter.unusedVariables false

section
variable {w w' : World} {lo hi n g : Nat} {t : TypeId} {v : Value} {ys : List Value} {M : Nat → Value}
theorem Res.stay (h : Res w lo hi t v ys) (hb : ∀ b f c, w.rowIs b t c f → lo ≤ b → b < hi → w'.heap[b]? = w.heap[b]?) : Res w' lo hi t v ys := by
  obtain ⟨A, c, rfl, hs, hq⟩ := h
  refine ⟨A, c, rfl, ⟨hs.1, fun hp => ?_⟩, hq.imp id ?_⟩
  · obtain ⟨b, off, e, hbb, hc⟩ := hs.2 hp
    rcases hq with ⟨e2, -, e3⟩ | ⟨g, f, e2, h1, h2, h3, h4⟩
    · rw [e3] at hp; exact absurd hp (by simp)
    · rw [e2] at e
      injection e with e
      injection e with e5 e6 _
      subst e5
      refine ⟨g, off, by rw [e2, e6], hbb, fun k u hu => ?_⟩
      exact (World.cell?_of_block (w := w) (hb g f c h4 h1 h2)).trans (hc k u hu)
  · rintro ⟨g, f, e, h1, h2, h3, h4⟩
    exact ⟨g, f, e, h1, h2, h3, h4.of_block (hb g f c h4 h1 h2)⟩
theorem Res.on (h : Res w lo hi t v ys) (hb : Below w.heap.size w w') : Res w' lo hi t v ys := h.stay fun b f c hr _ _ => hb.block b hr.lt
theorem Res.far {l r : Nat} (h : Res w lo hi t v ys) (ho : Only l r w w') (hr : r ≤ lo ∨ hi ≤ l) : Res w' lo hi t v ys := h.stay fun b f c hb h1 h2 => ho.block b hb.lt (by omega)
theorem Mkd.on (h : Mkd w lo hi t v n M) (hb : Below w.heap.size w w') : Mkd w' lo hi t v n M := by
  obtain ⟨A, c, rfl, hr⟩ := h
  refine ⟨A, c, rfl, hr.imp id ?_⟩
  rintro ⟨g, f, e, h1, h2, h3, h4, h5⟩
  exact ⟨g, f, e, h1, h2, h3, h4.of_block (hb.block g h4.lt), h5⟩
theorem Res.one (h : Owns w lo t v ys) : ∃ g, lo ≤ g ∧ v.ownBlock = some g ∧ g < w.heap.size ∧ Res w g (g + 1) t v ys := by
  obtain ⟨g, cap, f, rfl, hb, hc, hr, hf⟩ := h.row
  exact ⟨g, hb, rfl, hr.lt, _, _, rfl, SR.of_row2 hr hc (Nat.lt_succ_self _) (fun k u hu => ⟨(List.getElem?_eq_some_iff.1 hu).1, hf k u hu⟩) rfl, .inr ⟨g, f, rfl, Nat.le_refl _, Nat.lt_succ_self _, hc, hr⟩⟩
theorem Res.one_empty (w : World) (t : TypeId) : Res (w.alloc (.cells #[] t)) w.heap.size (w.heap.size + 1) t (.slice (some ⟨w.heap.size, 0, none⟩) 0 0) [] :=
  ⟨_, 0, rfl, SR.nil_, .inr ⟨_, _, rfl, Nat.le_refl _, Nat.lt_succ_self _, Nat.le_refl _, row_new w #[] t 0 rfl⟩⟩
end
end Go.Proofs.YtlpgldejmdiceabGreat.rs
namespace Go.Proofs.YtlpgldejmdiceabGreat.rt
open Go.RowKit
open kit bg strs only hb sig inn ht marks eqs hi rs
/-- two slices in two rows from block lo on -/
def Two (w : World) (lo : Nat) (t t' : TypeId) (v v' : Value) (ys ys' : List Value) : Prop :=
  ∃ g g', g ≠ g' ∧ lo ≤ g ∧ lo ≤ g' ∧ Res w g (g + 1) t v ys ∧ Res w g' (g' + 1) t' v' ys'
theorem Two.nil {w : World} {lo : Nat} {t t' : TypeId} : Two w lo t t' (.slice none 0 0) (.slice none 0 0) [] [] := ⟨lo, lo + 1, by omega, Nat.le_refl _, Nat.le_succ _, Res.nil, Res.nil⟩
theorem Two.low {w : World} {lo lo' : Nat} {t t' : TypeId} {v v' : Value} {ys ys' : List Value} (h : Two w lo t t' v v' ys ys') (hl : lo' ≤ lo) : Two w lo' t t' v v' ys ys' := by
  obtain ⟨g, g', a, b, c, d⟩ := h
  exact ⟨g, g', a, by omega, by omega, d⟩
def Res2Post (t t' : TypeId) (q : Bool) (ys ys' : List Value) (w : World) (e : Ending) (w' : World) : Prop :=
  ∃ v v', e = .returned (.tuple #[v, v', .bool q]) ∧ Two w' w.heap.size t t' v v' ys ys' ∧ Below w.heap.size w w'
end Go.Proofs.YtlpgldejmdiceabGreat.rt
end

section
namespace Go.Proofs.YtlpgldejmdiceabGreat.br
open kit bg opn strs only hb sig inn ht marks eqs hc hi hw hn rs
open Go.RowKit
set_option linter.unusedVariables false

/-- a change of some blocks alone -/
structure Chg (S : Nat → Prop) (w w' : World) : Prop where
  os : w'.os = w.os
  tape : w'.tape = w.tape
  output : w'.output = w.output
  size : w.heap.size ≤ w'.heap.size
  block : ∀ k, k < w.heap.size → ¬ S k → w'.heap[k]? = w.heap[k]?
  rows : ∀ b t n, (∃ f, w.rowIs b t n f) → ∃ f, w'.rowIs b t n f
section
variable {S S' : Nat → Prop} {w w' : World} {lo hi : Nat}
theorem Chg.refl (S : Nat → Prop) (w : World) : Chg S w w := ⟨rfl, rfl, rfl, Nat.le_refl _, fun _ _ _ => rfl, fun _ _ _ h => h⟩
theorem Chg.trans {a b c : World} (h : Chg S a b) (k : Chg S b c) : Chg S a c :=
  ⟨k.os.trans h.os, k.tape.trans h.tape, k.output.trans h.output, Nat.le_trans h.size k.size, fun i hi h' => (k.block i (Nat.lt_of_lt_of_le hi h.size) h').trans (h.block i hi h'), fun b t n hr => k.rows b t n (h.rows b t n hr)⟩
theorem Chg.more (h : Chg S w w') (hs : ∀ k, S k → S' k) : Chg S' w w' := ⟨h.os, h.tape, h.output, h.size, fun k hk hn => h.block k hk (fun hS => hn (hs k hS)), h.rows⟩
theorem Chg.of_below (h : Below w.heap.size w w') : Chg S w w' := ⟨h.os, h.tape, h.output, h.size, fun k hk _ => h.block k hk, fun b t n ⟨f, hf⟩ => ⟨f, hf.of_block (h.block b hf.lt)⟩⟩
theorem Chg.set (w : World) {g : Nat} (hS : S g) (o : Nat) (u : Value) : Chg S w (w.setCell ⟨g, o, none⟩ u) :=
  ⟨rfl, rfl, rfl, by simp [World.setCell], fun k _ hk => Below.heap_setCell _ _ _ _ (by show k ≠ g; intro e; subst e; exact hk hS), fun b t n ⟨f, hf⟩ => by
    by_cases e : b = g
    · subst e; exact ⟨_, hf.set o u⟩
    · exact ⟨f, hf.setOther (a := ⟨g, o, none⟩) e u⟩⟩
theorem Chg.of_grown {g : Nat} {t : TypeId} {n : Nat} {f f' : Nat → Value} (hg : w.grownBy w' (some g)) (hr : w.rowIs g t n f) (hr' : w'.rowIs g t n f') (hS : S g) : Chg S w w' :=
  ⟨hg.os, hg.tape, hg.output, hg.size, fun k hk h' => hg.block k hk (fun e => by injection e with e; subst e; exact h' hS), fun b t2 n2 ⟨f2, hf2⟩ => by
    by_cases e : b = g
    · subst e
      obtain ⟨rfl, rfl⟩ := rowIs_uniq hr hf2
      exact ⟨f', hr'⟩
    · exact ⟨f2, hf2.of_block (hg.block b hf2.lt (fun e2 => e (by injection e2)))⟩⟩
theorem Chg.only (h : Chg S w w') (hS : ∀ k, k < w.heap.size → S k → lo ≤ k ∧ k < hi) : Only lo hi w w' :=
  ⟨h.os, h.tape, h.output, h.size, fun k hk h' => h.block k hk (fun hs => by have := hS k hk hs; omega), h.rows⟩
end

/-- a slice of elements of sz cells, nil or in a row of the blocks from lo to hi, with this content -/
def RowR (w : World) (lo hi : Nat) (t : TypeId) (sz : Nat) (A : Option Addr) (n c : Nat) (M : Nat → Value) : Prop :=
  (A = none ∧ c = 0 ∧ n = 0) ∨ ∃ g f, A = some ⟨g, 0, none⟩ ∧ lo ≤ g ∧ g < hi ∧ n ≤ c ∧ w.rowIs g t (c * sz) f ∧ ∀ x, x < n * sz → f x = M x
/-- the block of a slice -/
def blk (A : Option Addr) (g : Nat) : Prop := A = some ⟨g, 0, none⟩
section
variable {w w' : World} {lo hi lo' hi' n c sz : Nat} {t : TypeId} {A : Option Addr} {M M' : Nat → Value}
theorem RowR.nil : RowR w lo hi t sz none 0 0 M := .inl ⟨rfl, rfl, rfl⟩
theorem RowR.mk {g : Nat} {f : Nat → Value} (h1 : lo ≤ g) (h2 : g < hi) (h3 : n ≤ c) (h4 : w.rowIs g t (c * sz) f) (h5 : ∀ x, x < n * sz → f x = M x) : RowR w lo hi t sz (some ⟨g, 0, none⟩) n c M := .inr ⟨g, f, rfl, h1, h2, h3, h4, h5⟩
theorem RowR.stay (h : RowR w lo hi t sz A n c M) (hb : ∀ g f m, blk A g → w.rowIs g t m f → lo ≤ g → g < hi → w'.heap[g]? = w.heap[g]?) : RowR w' lo hi t sz A n c M :=
  h.imp id fun ⟨g, f, e, h1, h2, h3, h4, h5⟩ => ⟨g, f, e, h1, h2, h3, h4.of_block (hb g f _ e h4 h1 h2), h5⟩
theorem RowR.on (h : RowR w lo hi t sz A n c M) (hb : Below w.heap.size w w') : RowR w' lo hi t sz A n c M := h.stay fun g f m _ hr _ _ => hb.block g hr.lt
theorem RowR.far {l r : Nat} (h : RowR w lo hi t sz A n c M) (ho : Only l r w w') (hr : r ≤ lo ∨ hi ≤ l) : RowR w' lo hi t sz A n c M := h.stay fun g f m _ hb h1 h2 => ho.block g hb.lt (by omega)
theorem RowR.chg {S : Nat → Prop} (h : RowR w lo hi t sz A n c M) (ho : Chg S w w') (hS : ∀ g, blk A g → (∃ f m, w.rowIs g t m f) → ¬ S g) : RowR w' lo hi t sz A n c M := h.stay fun g f m e hb _ _ => ho.block g hb.lt (hS g e ⟨f, m, hb⟩)
theorem RowR.wide (h : RowR w lo hi t sz A n c M) (h1 : lo' ≤ lo) (h2 : hi ≤ hi') : RowR w lo' hi' t sz A n c M :=
  h.imp id fun ⟨g, f, e, a1, a2, h3, h4, h5⟩ => ⟨g, f, e, by omega, by omega, h3, h4, h5⟩
theorem RowR.congr (h : RowR w lo hi t sz A n c M) (e : ∀ x, x < n * sz → M x = M' x) : RowR w lo hi t sz A n c M' :=
  h.imp id fun ⟨g, f, e1, a1, a2, h3, h4, h5⟩ => ⟨g, f, e1, a1, a2, h3, h4, fun x hx => (h5 x hx).trans (e x hx)⟩
theorem RowR.in_ (h : RowR w lo hi t sz A n c M) {g : Nat} (e : blk A g) : lo ≤ g ∧ g < hi := by
  rcases h with ⟨e2, _⟩ | ⟨g2, f, e2, h1, h2, _⟩
  · rw [blk, e2] at e; cases e
  · rw [blk, e2] at e
    injection e with e
    injection e with e
    omega
end

theorem intsR_at {w : World} {lo hi : Nat} {A : Option Addr} {c : Nat} {zs : List Int} (h : RowR w lo hi 3 1 A zs.length c (iat zs)) : IntsAt w hi A zs.length zs := by
  rcases h with ⟨rfl, rfl, h0⟩ | ⟨g, f, rfl, h1, h2, h3, h4, h5⟩
  · exact ⟨by simp, fun h => by omega⟩
  · exact ints_row h4 (by omega) h2 rfl (fun k hk => h5 k (by omega))
theorem strsR_at {w : World} {lo hi : Nat} {A : Option Addr} {c : Nat} {ss : List ByteArray} (h : RowR w lo hi 9 1 A ss.length c (at_ ss)) : SR w hi A ss.length (ss.map Value.string) := by
  rcases h with ⟨rfl, rfl, h0⟩ | ⟨g, f, rfl, h1, h2, h3, h4, h5⟩
  · exact ⟨by simp, fun h => by omega⟩
  · refine SR.of_row2 h4 (by omega) h2 (fun k u hu => ?_) (by simp)
    rw [List.getElem?_map] at hu
    obtain ⟨s, hs, rfl⟩ := Option.map_eq_some_iff.1 hu
    have hk := (List.getElem?_eq_some_iff.1 hs).1
    exact ⟨hk, (h5 k (by omega)).trans (at_of hs)⟩
/-- the cells of Wires -/
def wic (ws : List Wr) (x : Nat) : Value := match ws[x / 2]? with
  | some y => if x % 2 = 0 then .string y.name else .int .i64 y.link
  | none => undef
theorem wic_at {ws : List Wr} {k : Nat} {y : Wr} (h : ws[k]? = some y) : wic ws (k * 2) = .string y.name ∧ wic ws (k * 2 + 1) = .int .i64 y.link := by
  unfold wic
  rw [show k * 2 / 2 = k by omega, show (k * 2 + 1) / 2 = k by omega, h]
  exact ⟨if_pos (by omega), if_neg (by omega)⟩
theorem wrsR_at {w : World} {lo hi : Nat} {A : Option Addr} {c : Nat} {ws : List Wr} (h : RowR w lo hi 80 2 A ws.length c (wic ws)) : WrsAt w hi A ws.length ws := by
  rcases h with ⟨rfl, rfl, h0⟩ | ⟨g, f, rfl, h1, h2, h3, h4, h5⟩
  · exact ⟨rfl, fun h => by omega⟩
  · refine ⟨rfl, fun _ => ⟨g, 0, rfl, h2, fun k y hk => ?_⟩⟩
    have hkl := (List.getElem?_eq_some_iff.1 hk).1
    obtain ⟨e0, e1⟩ := wic_at hk
    rw [Nat.zero_add]
    exact ⟨by rw [h4.cell (by omega), h5 _ (by omega), e0], by rw [h4.cell (by omega), h5 _ (by omega), e1]⟩

/-- where a Bigraph lies -/
structure Plan where
  A1 : Option Addr
  c1 : Nat
  A2 : Option Addr
  c2 : Nat
  A4 : Option Addr
  c4 : Nat
  A5 : Option Addr
  c5 : Nat
  LA : Nat → Option Addr
  LC : Nat → Nat
/-- the links of each node lie apart from the sites and from the other nodes' links -/
def Plan.Apart (P : Plan) (n : Nat) : Prop := ∀ k, k < n → P.LA k ≠ none → P.LA k ≠ P.A2 ∧ ∀ j, j < n → j ≠ k → P.LA j ≠ P.LA k
/-- the cells of nodes -/
def ndc (P : Plan) (ln : Nat → Nat) (mc mp : Nat → Value) (x : Nat) : Value := if x % 3 = 0 then mc (x / 3) else if x % 3 = 1 then mp (x / 3) else .slice (P.LA (x / 3)) (ln (x / 3)) (P.LC (x / 3))
theorem ndc_at (P : Plan) (ln : Nat → Nat) (mc mp : Nat → Value) (k : Nat) : ndc P ln mc mp (k * 3) = mc k ∧ ndc P ln mc mp (k * 3 + 1) = mp k ∧ ndc P ln mc mp (k * 3 + 2) = .slice (P.LA k) (ln k) (P.LC k) := by
  unfold ndc
  rw [show k * 3 / 3 = k by omega, show (k * 3 + 1) / 3 = k by omega, show (k * 3 + 2) / 3 = k by omega]
  exact ⟨if_pos (by omega), by rw [if_neg (by omega), if_pos (by omega)], by rw [if_neg (by omega), if_neg (by omega)]⟩
theorem ndc_of {f : Nat → Value} {P : Plan} {ln : Nat → Nat} {mc mp : Nat → Value} {n : Nat} (h : ∀ k, k < n → f (k * 3) = mc k ∧ f (k * 3 + 1) = mp k ∧ f (k * 3 + 2) = .slice (P.LA k) (ln k) (P.LC k)) : ∀ x, x < n * 3 → f x = ndc P ln mc mp x := by
  intro x hx
  obtain ⟨h0, h1, h2⟩ := h (x / 3) (by omega)
  obtain ⟨g0, g1, g2⟩ := ndc_at P ln mc mp (x / 3)
  have hm : x % 3 = 0 ∨ x % 3 = 1 ∨ x % 3 = 2 := by omega
  rcases hm with e | e | e
  · rw [show x / 3 * 3 = x by omega] at h0 g0; exact h0.trans g0.symm
  · rw [show x / 3 * 3 + 1 = x by omega] at h1 g1; exact h1.trans g1.symm
  · rw [show x / 3 * 3 + 2 = x by omega] at h2 g2; exact h2.trans g2.symm
def Nodes (w : World) (lo hi : Nat) (P : Plan) (n : Nat) (ln : Nat → Nat) (mc mp : Nat → Value) (ml : Nat → Nat → Value) : Prop :=
  RowR w lo hi 96 3 P.A1 n P.c1 (ndc P ln mc mp) ∧ ∀ k, k < n → RowR w lo hi 3 1 (P.LA k) (ln k) (P.LC k) (ml k)
/-- the blocks of the nodes -/
def Plan.S1 (P : Plan) (n : Nat) (g : Nat) : Prop := blk P.A1 g ∨ ∃ j, j < n ∧ blk (P.LA j) g
def linksOf (ns : List Nd) (k : Nat) : List Int := match ns[k]? with
  | some x => x.links
  | none => []
theorem linksOf_at {ns : List Nd} {k : Nat} {x : Nd} (h : ns[k]? = some x) : linksOf ns k = x.links := by unfold linksOf; rw [h]
def ctOf (ns : List Nd) (k : Nat) : Value := match ns[k]? with
  | some x => .int .i64 x.control
  | none => undef
def paOf (ns : List Nd) (k : Nat) : Value := match ns[k]? with
  | some x => .int .i64 x.parent
  | none => undef
theorem ctOf_at {ns : List Nd} {k : Nat} {x : Nd} (h : ns[k]? = some x) : ctOf ns k = .int .i64 x.control ∧ paOf ns k = .int .i64 x.parent := by unfold ctOf paOf; rw [h]; exact ⟨rfl, rfl⟩
def lnOf (ns : List Nd) (k : Nat) : Nat := (linksOf ns k).length
theorem nodes_at {w : World} {lo hi : Nat} {P : Plan} {ns : List Nd} (h : Nodes w lo hi P ns.length (lnOf ns) (ctOf ns) (paOf ns) (fun k => iat (linksOf ns k))) : NdsAt w hi P.A1 ns.length ns := by
  obtain ⟨h0, hl⟩ := h
  rcases h0 with ⟨e, e2, h0⟩ | ⟨g, f, e, h1, h2, h3, h4, h5⟩
  · exact ⟨rfl, fun h => by omega⟩
  · refine ⟨rfl, fun _ => ⟨g, 0, e, h2, fun k x hk => ?_⟩⟩
    have hkl := (List.getElem?_eq_some_iff.1 hk).1
    obtain ⟨e0, e1, e2⟩ := ndc_at P (lnOf ns) (ctOf ns) (paOf ns) k
    obtain ⟨q0, q1⟩ := ctOf_at hk
    have hln : lnOf ns k = x.links.length := by unfold lnOf; rw [linksOf_at hk]
    have hlk : RowR w lo hi 3 1 (P.LA k) x.links.length (P.LC k) (iat x.links) := by
      have := hl k hkl
      simp only [hln, linksOf_at hk] at this
      exact this
    rw [hln] at e2
    rw [Nat.zero_add]
    exact ⟨by rw [h4.cell (by omega), h5 _ (by omega), e0, q0], by rw [h4.cell (by omega), h5 _ (by omega), e1, q1], _, _, _, by rw [h4.cell (by omega), h5 _ (by omega), e2], intsR_at hlk⟩

/-- how many marks a Bigraph takes -/
def ndMk (ns : List Nd) : Nat := 2 * ns.length + sumBy (fun c : Nd => c.links.length) ns
def bigMk (b : Big) : Nat := ndMk b.nodes + b.sites.length + b.outer.length + 2 * b.inner.length
/-- a Bigraph in memory of the call's own, or nil in parts -/
def BigR (w : World) (lo hi : Nat) (v : Value) (b : Big) : Prop :=
  ∃ P : Plan, v = .agg #[.int .i64 b.roots, .slice P.A1 b.nodes.length P.c1, .slice P.A2 b.sites.length P.c2, .int .i64 b.edges, .slice P.A4 b.outer.length P.c4, .slice P.A5 b.inner.length P.c5] ∧ P.Apart b.nodes.length ∧
    Nodes w lo hi P b.nodes.length (lnOf b.nodes) (ctOf b.nodes) (paOf b.nodes) (fun k => iat (linksOf b.nodes k)) ∧ RowR w lo hi 3 1 P.A2 b.sites.length P.c2 (iat b.sites) ∧ RowR w lo hi 9 1 P.A4 b.outer.length P.c4 (at_ b.outer) ∧ RowR w lo hi 80 2 P.A5 b.inner.length P.c5 (wic b.inner)
/-- the marks of nodes and Wires, from k on -/
def ndT (ns : List Nd) (j : Nat) : Nat := 2 * j + sumBy (fun c : Nd => c.links.length) (ns.take j)
def mkc (k : Int) (ns : List Nd) (j : Nat) : Value := .int .i64 (k + ndT ns j)
def mkp (k : Int) (ns : List Nd) (j : Nat) : Value := .int .i64 (k + ndT ns j + 1)
def mkl (k : Int) (ns : List Nd) (j : Nat) : Nat → Value := mki (k + ndT ns j + 2)
def mkw (k : Int) (x : Nat) : Value := if x % 2 = 0 then .string (mt (k + x)) else .int .i64 (k + x)
theorem mkw_at (k : Int) (j : Nat) : mkw k (j * 2) = .string (mt (k + 2 * j)) ∧ mkw k (j * 2 + 1) = .int .i64 (k + 2 * j + 1) := by
  unfold mkw
  refine ⟨?_, ?_⟩
  · rw [if_pos (by omega)]; congr 2; omega
  · rw [if_neg (by omega)]; congr 1; omega
def BigM (w : World) (lo hi : Nat) (v : Value) (b : Big) (k : Int) : Prop :=
  ∃ P : Plan, v = .agg #[.int .i64 b.roots, .slice P.A1 b.nodes.length P.c1, .slice P.A2 b.sites.length P.c2, .int .i64 b.edges, .slice P.A4 b.outer.length P.c4, .slice P.A5 b.inner.length P.c5] ∧
    Nodes w lo hi P b.nodes.length (lnOf b.nodes) (mkc k b.nodes) (mkp k b.nodes) (mkl k b.nodes) ∧ RowR w lo hi 3 1 P.A2 b.sites.length P.c2 (mki (k + ndMk b.nodes)) ∧ RowR w lo hi 9 1 P.A4 b.outer.length P.c4 (mks (k + ndMk b.nodes + b.sites.length)) ∧ RowR w lo hi 80 2 P.A5 b.inner.length P.c5 (mkw (k + ndMk b.nodes + b.sites.length + b.outer.length))
section
variable {w w' : World} {lo hi lo' hi' n : Nat} {v : Value} {b : Big} {k : Int} {P : Plan} {ln : Nat → Nat} {mc mp : Nat → Value} {ml : Nat → Nat → Value}
theorem Nodes.stay (h : Nodes w lo hi P n ln mc mp ml) (hb : ∀ g f m t, w.rowIs g t m f → lo ≤ g → g < hi → w'.heap[g]? = w.heap[g]?) : Nodes w' lo hi P n ln mc mp ml :=
  ⟨h.1.stay fun g f m _ hr => hb g f m _ hr, fun k hk => (h.2 k hk).stay fun g f m _ hr => hb g f m _ hr⟩
theorem Nodes.wide (h : Nodes w lo hi P n ln mc mp ml) (h1 : lo' ≤ lo) (h2 : hi ≤ hi') : Nodes w lo' hi' P n ln mc mp ml := ⟨h.1.wide h1 h2, fun k hk => (h.2 k hk).wide h1 h2⟩
theorem BigR.at (h : BigR w lo hi v b) : BigAt w hi v b := by
  obtain ⟨P, rfl, -, h1, h2, h4, h5⟩ := h
  exact ⟨_, _, _, _, _, _, _, _, _, _, _, _, rfl, nodes_at h1, intsR_at h2, strsR_at h4, wrsR_at h5⟩
theorem BigR.stay (h : BigR w lo hi v b) (hb : ∀ g f m t, w.rowIs g t m f → lo ≤ g → g < hi → w'.heap[g]? = w.heap[g]?) : BigR w' lo hi v b := by
  obtain ⟨P, rfl, ha, h1, h2, h4, h5⟩ := h
  exact ⟨P, rfl, ha, h1.stay hb, h2.stay fun g f m _ hr => hb g f m _ hr, h4.stay fun g f m _ hr => hb g f m _ hr, h5.stay fun g f m _ hr => hb g f m _ hr⟩
theorem BigR.on (h : BigR w lo hi v b) (hb : Below w.heap.size w w') : BigR w' lo hi v b := h.stay fun g f m _ hr _ _ => hb.block g hr.lt
theorem BigR.far {l r : Nat} (h : BigR w lo hi v b) (ho : Only l r w w') (hr : r ≤ lo ∨ hi ≤ l) : BigR w' lo hi v b := h.stay fun g f m _ hb h1 h2 => ho.block g hb.lt (by omega)
theorem BigR.wide (h : BigR w lo hi v b) (a1 : lo' ≤ lo) (a2 : hi ≤ hi') : BigR w lo' hi' v b := by
  obtain ⟨P, rfl, ha, h1, h2, h4, h5⟩ := h
  exact ⟨P, rfl, ha, h1.wide a1 a2, h2.wide a1 a2, h4.wide a1 a2, h5.wide a1 a2⟩
theorem BigM.stay (h : BigM w lo hi v b k) (hb : ∀ g f m t, w.rowIs g t m f → lo ≤ g → g < hi → w'.heap[g]? = w.heap[g]?) : BigM w' lo hi v b k := by
  obtain ⟨P, rfl, h1, h2, h4, h5⟩ := h
  exact ⟨P, rfl, h1.stay hb, h2.stay fun g f m _ hr => hb g f m _ hr, h4.stay fun g f m _ hr => hb g f m _ hr, h5.stay fun g f m _ hr => hb g f m _ hr⟩
theorem BigM.on (h : BigM w lo hi v b k) (hb : Below w.heap.size w w') : BigM w' lo hi v b k := h.stay fun g f m _ hr _ _ => hb.block g hr.lt
theorem BigM.far {l r : Nat} (h : BigM w lo hi v b k) (ho : Only l r w w') (hr : r ≤ lo ∨ hi ≤ l) : BigM w' lo hi v b k := h.stay fun g f m _ hb h1 h2 => ho.block g hb.lt (by omega)
end
/-- what a function tells that gives back a Bigraph and whether there is an answer -/
def BigPost (q : Bool) (b : Big) (w : World) (e : Ending) (w' : World) : Prop :=
  ∃ v, e = .returned (.tuple #[v, .bool q]) ∧ BigR w' w.heap.size w'.heap.size v b ∧ Below w.heap.size w w'
/-- no Bigraph -/
def zeroBig : Big := ⟨0, [], [], 0, [], []⟩
def zeroPlan : Plan := ⟨none, 0, none, 0, none, 0, none, 0, fun _ => none, fun _ => 0⟩
theorem BigR.zero {w : World} {lo hi : Nat} : BigR w lo hi (.agg #[.int .i64 0, .slice none 0 0, .slice none 0 0, .int .i64 0, .slice none 0 0, .slice none 0 0]) zeroBig :=
  ⟨zeroPlan, rfl, fun k hk => absurd hk (Nat.not_lt_zero k), ⟨RowR.nil, fun k hk => absurd hk (Nat.not_lt_zero k)⟩, RowR.nil, RowR.nil, RowR.nil⟩
end Go.Proofs.YtlpgldejmdiceabGreat.br
end
