/- spec.l8Solid, spec.IsRedex. -/
import Derived.Test.YtfjgapkjpmkplaaRdx
namespace Go.Proofs.Ytfjgapkjpmkplaa.rds
open kit bg sg opn strs only hb sig isig un over gn nm inn ht gd im pt marks eqs hc hi hw hn rs br bm bw cf lf ib isa lawb lw cl rt chd pts psp idl pl chk rdx
open Go.RowKit
set_option linter.unusedVariables false
set_option linter.unusedSimpArgs false
theorem rd_no {b : Big} (h : ¬ 0 < b.roots) : rdB b = false := by unfold rdB; rw [decide_eq_false h]; rfl
theorem rd_no2 {b : Big} (h : ¬ b.inner.length = 0) : rdB b = false := by unfold rdB; rw [decide_eq_false h, Bool.and_false]; rfl
theorem rd_no3 {b : Big} (h : busyB b = false) : rdB b = false := by unfold rdB; rw [h, Bool.and_false]; rfl
theorem rd_no4 {b : Big} (h : fitRB b = false) : rdB b = false := by unfold rdB; rw [h, Bool.and_false]
theorem rd_yes {b : Big} (h1 : 0 < b.roots) (h2 : b.inner.length = 0) (h3 : busyB b = true) (h4 : fitRB b = true) : rdB b = true := by unfold rdB; rw [decide_eq_true h1, decide_eq_true h2, h3, h4]; rfl
theorem col_len {e : Ending} {w w' : World} {xs : List Int} {L : Nat} (h : ColPost 3 (xs.map (Value.int .i64)) w e w') (hl : xs.length = L) : ∃ (A : Option Addr) (c : Nat), e = .returned (.slice A L c) ∧ Below w.heap.size w w' := by
  obtain ⟨v, rfl, ho, hb⟩ := h
  obtain ⟨g, cap, f, rfl, -⟩ := ho.row
  exact ⟨_, _, by rw [List.length_map, hl], hb⟩
set_option maxRecDepth 20000 in
set_option maxHeartbeats 6400000 in
theorem sol_any (cs : List Ctl) (v : Value) (b : Big) (w : World) (hv : BigAt w w.heap.size v b) (hg : bigB cs b = true) :
    Calls Try.prog 131 #[v] w fun e w' => e = .returned (.bool (rdB b)) ∧ Below w.heap.size w w' := by
  obtain ⟨A1, n1, c1, A2, n2, c2, A4, n4, c4, A5, n5, c5, rfl, h1, h2, h4, h5⟩ := hv
  have hb0 := (Below.refl w.heap.size w).alloc (Nat.le_refl _) (.cells #[.int .i64 b.roots, .slice A1 n1 c1, .slice A2 n2 c2, .int .i64 b.edges, .slice A4 n4 c4, .slice A5 n5 c5] 39)
  have hbx : BoxAt (w.alloc (.cells #[.int .i64 b.roots, .slice A1 n1 c1, .slice A2 n2 c2, .int .i64 b.edges, .slice A4 n4 c4, .slice A5 n5 c5] 39)) w.heap.size 39 (.int .i64 b.roots) (.slice A1 n1 c1) (.slice A2 n2 c2) (.int .i64 b.edges) (.slice A4 n4 c4) (.slice A5 n5 c5) := six_new w _ _ _ _ _ _ _
  obtain ⟨W, hW⟩ : ∃ W, w.alloc (.cells #[.int .i64 b.roots, .slice A1 n1 c1, .slice A2 n2 c2, .int .i64 b.edges, .slice A4 n4 c4, .slice A5 n5 c5] 39) = W := ⟨_, rfl⟩
  have hWs : w.heap.size < W.heap.size := by rw [← hW]; simp
  rw [hW] at hb0 hbx
  have HWq := Lib.hid hW
  have HB0 := Lib.hid hb0
  have HBox := Lib.hid hbx
  have hz := sizes_of (big_of hg).2.1
  have l1 : b.nodes.length = n1 := h1.1
  have l2 : b.sites.length = n2 := h2.len
  have l4 : b.outer.length = n4 := h4.strlen
  have l5 : b.inner.length = n5 := h5.1
  obtain ⟨R, hRR⟩ : ∃ R : Nat, b.roots = R := ⟨b.roots.toNat, by omega⟩
  obtain ⟨M, hM⟩ : ∃ M : Nat, b.edges + b.outer.length = M := ⟨(b.edges + b.outer.length).toNat, by omega⟩
  have hR4 : R ≤ 4 := by omega
  have hn8 : n1 ≤ 8 := by omega
  have hM24 : M ≤ 24 := by omega
  have hwM : wrap64 (b.edges + (n4 : Int)) = (M : Int) := by unfold wrap64; omega
  have HRR := Lib.hid hRR
  have HKd := Lib.hid (fun (z : Int) (L : Nat) (hl : (sel (kidP b.nodes z) b.nodes.length).length = L) (Y : World) (hY : Below w.heap.size w Y) => (kids_any (.int .i64 b.roots) (.slice A2 n2 c2) (.int .i64 b.edges) (.slice A4 n4 c4) (.slice A5 n5 c5) A1 n1 c1 b.nodes z w Y h1 hY (by omega)).mono (R' := fun e w' => ∃ (A : Option Addr) (c : Nat), e = .returned (.slice A L c) ∧ Below Y.heap.size Y w') (fun e w' h => col_len h (by rw [← l1]; exact hl)))
  have HHo := Lib.hid (fun (z : Int) (L : Nat) (hl : (sel (siteP b.sites z) b.sites.length).length = L) (Y : World) (hY : Below w.heap.size w Y) => (holes_any (.int .i64 b.roots) (.slice A1 n1 c1) (.int .i64 b.edges) (.slice A4 n4 c4) (.slice A5 n5 c5) A2 n2 c2 b.sites z w Y h2 hY (by omega)).mono (R' := fun e w' => ∃ (A : Option Addr) (c : Nat), e = .returned (.slice A L c) ∧ Below Y.heap.size Y w') (fun e w' h => col_len h (by rw [← l2]; exact hl)))
  have HId := Lib.hid (fun (l : Int) (Y : World) (hY : Below w.heap.size w Y) => idle_any A1 A4 A5 n1 n4 n5 c1 c4 c5 (.int .i64 b.roots) (.slice A2 n2 c2) (.int .i64 b.edges) b l w Y h1 h5 hY (by omega) (by omega) (links3 hg))
  have HBs : Hid (busyB b = upto (fun i => !idleP b i) M) := Lib.hid (by unfold busyB; rw [hM, Int.toNat_natCast])
  have HFt : Hid (fitRB b = (upto (rootB b) R && upto (hole1B b) n1)) := Lib.hid (by unfold fitRB; rw [hRR, Int.toNat_natCast, l1])
  have HL1 := Lib.hid l1
  have HM := Lib.hid hM
  clear hW hb0 hbx h1 h2 h4 h5 hg l1 l2 l4 hM
  obtain ⟨x0, x1, x2, x3, x4, x5⟩ := HBox.out.get
  by_cases a2 : n5 = 0
  · by_cases a1 : R = 0
    · have HF := Lib.hid (rd_no (b := b) (by omega))
      have hr0 : b.roots = 0 := by omega
      subst a2
      go_enter Try.func131, Try.ntmps131
      go_wp2_with fail
      go_ret
      exact ⟨by rw [HF.out]; rfl, (Below.refl w.heap.size w).alloc (Nat.le_refl _) _⟩
    · have hr0 : ¬ b.roots = 0 := by omega
      have HP := Lib.hid (show 0 < b.roots by omega)
      have HI := Lib.hid (show b.inner.length = 0 by omega)
      have hr0' : (b.roots == 0) = false := beq_eq_false_iff_ne.2 hr0
      subst a2
      clear hz hRR l5 hr0
      go_enter Try.func131, Try.ntmps131
      go_wp2_with fail
      rw [HWq.out]
      clear x0 x1 x2 x3 x4 x5
      go_loopw [3] (fun i wr => ∃ k : Nat, k ≤ R ∧ i = .int .i64 k ∧ upto (rootB b) k = true ∧ Below W.heap.size W wr) (fun i _ => R - (intOf i).toNat)
      case atStart => exact ⟨0, Nat.zero_le _, rfl, rfl, Below.refl _ _⟩
      case round =>
        obtain ⟨k, hk, rfl, hup, hbel⟩ := hrel
        have hbw := HB0.out.trans (hbel.mono HB0.out.size)
        obtain ⟨x0, x1, x2, x3, x4, x5⟩ := (HBox.out.below hbel hWs).get
        have hwk : wrap64 (-1 - (k : Int)) = -1 - (k : Int) := by unfold wrap64; omega
        by_cases hlt : k < R
        · have hr1 : (k : Int) < b.roots := by rw [HRR.out]; omega
          obtain ⟨L1, hL1⟩ : ∃ L, (sel (kidP b.nodes (-1 - (k : Int))) b.nodes.length).length = L := ⟨_, rfl⟩
          obtain ⟨L2, hL2⟩ : ∃ L, (sel (siteP b.sites (-1 - (k : Int))) b.sites.length).length = L := ⟨_, rfl⟩
          have CK := HKd.out _ L1 hL1 wr hbw
          have CH := Lib.hid (HHo.out _ L2 hL2)
          have HkR : Hid (k < b.roots.toNat) := Lib.hid (by have := HRR.out; omega)
          by_cases a3 : L1 = 0
          · have HF := Lib.hid (rd_no4 (fit_root HkR.out (root_no1 hL1 a3)))
            subst a3
            clear hup hL1 hL2
            go_wp2_with fail
            refine CK.mono ?_
            rintro e w2 ⟨A7, c7, rfl, hb⟩
            have hb2 := hbw.trans (hb.mono hbw.size)
            clear hb CK
            go_wp2_with fail
            go_ret
            exact ⟨by rw [HF.out]; rfl, hb2⟩
          · have a3' : ¬ ((L1 : Int) = 0) := by omega
            have HC : ∀ w2, Below w.heap.size w w2 → Below wr.heap.size wr w2 → True := fun _ _ _ => trivial
            by_cases a4 : L2 = 0
            · have HU := Lib.hid (upto_step hup (root_yes hL1 hL2 a3 a4))
              subst a4
              clear hup hL1 hL2
              go_wp2_with fail
              refine CK.mono ?_
              rintro e w2 ⟨A7, c7, rfl, hb⟩
              have hb2 := hbw.trans (hb.mono hbw.size)
              have hbl2 := hbel.trans (hb.mono hbel.size)
              clear hb CK x0 x1 x2 x3 x4 x5
              obtain ⟨x0, x1, x2, x3, x4, x5⟩ := (HBox.out.below hbl2 hWs).get
              go_wp2_with fail
              refine (CH.out w2 hb2).mono ?_
              rintro e w3 ⟨A8, c8, rfl, hb⟩
              have hbl3 := hbl2.trans (hb.mono hbl2.size)
              clear hb
              go_wp2_with fail
              go_roundw
              case rel => exact ⟨k + 1, by omega, by go_num, HU.out, hbl3⟩
              case measure => simp [intOf]; omega
            · have a4' : (0 : Int) < (L2 : Int) := by omega
              have HF := Lib.hid (rd_no4 (fit_root HkR.out (root_no2 hL2 a4)))
              clear hup hL1 hL2
              go_wp2_with fail
              refine CK.mono ?_
              rintro e w2 ⟨A7, c7, rfl, hb⟩
              have hb2 := hbw.trans (hb.mono hbw.size)
              have hbl2 := hbel.trans (hb.mono hbel.size)
              clear hb CK x0 x1 x2 x3 x4 x5
              obtain ⟨x0, x1, x2, x3, x4, x5⟩ := (HBox.out.below hbl2 hWs).get
              go_wp2_with fail
              refine (CH.out w2 hb2).mono ?_
              rintro e w3 ⟨A8, c8, rfl, hb⟩
              have hb3 := hb2.trans (hb.mono hb2.size)
              clear hb
              go_wp2_with fail
              go_ret
              exact ⟨by rw [HF.out]; rfl, hb3⟩
        · have hr1 : ¬ (k : Int) < b.roots := by rw [HRR.out]; omega
          obtain rfl : R = k := by omega
          have HUp := Lib.hid hup
          have HB1 := Lib.hid hbel
          clear hup
          go_wp2_with fail
          clear x0 x1 x2 x3 x4 x5 hr1
          go_loopw [4] (fun i wq => ∃ k : Nat, k ≤ n1 ∧ i = .int .i64 k ∧ upto (hole1B b) k = true ∧ Below W.heap.size W wq) (fun i _ => n1 - (intOf i).toNat)
          case atStart => exact ⟨0, Nat.zero_le _, rfl, rfl, HB1.out⟩
          case round =>
            obtain ⟨k, hk, rfl, hup, hbel⟩ := hrel
            rename World => wq
            have hbw := HB0.out.trans (hbel.mono HB0.out.size)
            obtain ⟨x0, x1, x2, x3, x4, x5⟩ := (HBox.out.below hbel hWs).get
            by_cases hlt : k < n1
            · obtain ⟨L2, hL2⟩ : ∃ L, (sel (siteP b.sites (k : Int)) b.sites.length).length = L := ⟨_, rfl⟩
              have CH := HHo.out _ L2 hL2 wq hbw
              have hN : hole1B b k = decide (L2 ≤ 1) := by unfold hole1B; rw [hL2]
              by_cases a4 : L2 ≤ 1
              · have a4' : ¬ (1 : Int) < (L2 : Int) := by omega
                have HU := Lib.hid (upto_step hup (by rw [hN, decide_eq_true a4]))
                clear hup hN hL2
                go_wp2_with fail
                refine CH.mono ?_
                rintro e w3 ⟨A8, c8, rfl, hb⟩
                have hbl3 := hbel.trans (hb.mono hbel.size)
                clear hb CH
                go_wp2_with fail
                go_roundw
                case rel => exact ⟨k + 1, by omega, by go_num, HU.out, hbl3⟩
                case measure => simp [intOf]; omega
              · have a4' : (1 : Int) < (L2 : Int) := by omega
                have HF := Lib.hid (rd_no4 (fit_node (by rw [HL1.out]; exact hlt) (by rw [hN, decide_eq_false a4])))
                clear hup hN hL2
                go_wp2_with fail
                refine CH.mono ?_
                rintro e w3 ⟨A8, c8, rfl, hb⟩
                have hb3 := hbw.trans (hb.mono hbw.size)
                clear hb CH
                go_wp2_with fail
                go_ret
                exact ⟨by rw [HF.out]; rfl, hb3⟩
            · obtain rfl : n1 = k := by omega
              have HUn := Lib.hid hup
              have HB2 := Lib.hid hbel
              clear hup
              go_wp2_with fail
              clear x0 x1 x2 x3 x4 x5
              go_loopw [5] (fun i wp => ∃ k : Nat, k ≤ M ∧ i = .int .i64 k ∧ upto (fun i => !idleP b i) k = true ∧ Below W.heap.size W wp) (fun i _ => M - (intOf i).toNat)
              case atStart => exact ⟨0, Nat.zero_le _, rfl, rfl, HB2.out⟩
              case round =>
                obtain ⟨k, hk, rfl, hup, hbel⟩ := hrel
                rename World => wp
                have hbw := HB0.out.trans (hbel.mono HB0.out.size)
                obtain ⟨x0, x1, x2, x3, x4, x5⟩ := (HBox.out.below hbel hWs).get
                by_cases hlt : k < M
                · have hlM : (k : Int) < (M : Int) := by omega
                  have CI := HId.out (k : Int) wp hbw
                  cases hi : idleB b (k : Int) with
                  | true =>
                    rw [hi] at CI
                    have HF := Lib.hid (rd_no3 (by rw [HBs.out]; exact upto_no (k := k) (by show (!idleB b (k : Int)) = false; rw [hi]; rfl) M hlt))
                    clear hup hi
                    go_wp2_with fail
                    refine CI.mono ?_
                    rintro e w3 ⟨rfl, hb⟩
                    have hb3 := hbw.trans (hb.mono hbw.size)
                    clear hb CI
                    go_wp2_with fail
                    go_ret
                    exact ⟨by rw [HF.out]; rfl, hb3⟩
                  | false =>
                    rw [hi] at CI
                    have HU := Lib.hid (upto_step hup (show (!idleB b (k : Int)) = true by rw [hi]; rfl))
                    clear hup hi
                    go_wp2_with fail
                    refine CI.mono ?_
                    rintro e w3 ⟨rfl, hb⟩
                    have hbl3 := hbel.trans (hb.mono hbel.size)
                    clear hb CI
                    go_wp2_with fail
                    go_roundw
                    case rel => exact ⟨k + 1, by omega, by go_num, HU.out, hbl3⟩
                    case measure => simp [intOf]; omega
                · have hlM : ¬ (k : Int) < (M : Int) := by omega
                  obtain rfl : M = k := by omega
                  have HF := Lib.hid (rd_yes HP.out HI.out (by rw [HBs.out]; exact hup) (by rw [HFt.out, HUp.out, HUn.out]; rfl))
                  clear hup
                  go_wp2_with fail
                  go_ret
                  exact ⟨by rw [HF.out]; rfl, hbw⟩
  · have HF := Lib.hid (rd_no2 (b := b) (by rw [l5]; exact a2))
    have hp5 : (0 : Int) < (n5 : Int) := by omega
    go_enter Try.func131, Try.ntmps131
    go_wp2_with fail
    go_ret
    exact ⟨by rw [HF.out]; rfl, (Below.refl w.heap.size w).alloc (Nat.le_refl _) _⟩
end Go.Proofs.Ytfjgapkjpmkplaa.rds
