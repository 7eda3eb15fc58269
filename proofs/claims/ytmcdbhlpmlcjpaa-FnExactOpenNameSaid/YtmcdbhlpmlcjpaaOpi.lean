/- impl.OpenName. -/
import Derived.Test.YtmcdbhlpmlcjpaaOp
import Derived.Test.YtmcdbhlpmlcjpaaRta
namespace Go.Proofs.Ytmcdbhlpmlcjpaa.opi
open kit bg sg opn strs only hb sig isig un over gn nm inn ht gd im pt marks eqs hc hi hw hn rs br bm bw cf lf ib isa lawb lw cl rt ix tg rl ed tp rtg rta nl dl lo jo joi jos co gv tm mg oc op
open Go.RowKit
set_option linter.unusedVariables false
set_option linter.unusedSimpArgs false
/-- the outer names have room -/
def CapV (v : Value) : Prop := ∃ a A1 n1 c1 A2 n2 c2 e A4 n4 c4 A5 n5 c5, v = .agg #[a, .slice A1 n1 c1, .slice A2 n2 c2, e, .slice A4 n4 c4, .slice A5 n5 c5] ∧ n4 ≤ c4
theorem CapV.get {a e : Value} {A1 A2 A4 A5 : Option Addr} {n1 c1 n2 c2 n4 c4 n5 c5 : Nat} (h : CapV (.agg #[a, .slice A1 n1 c1, .slice A2 n2 c2, e, .slice A4 n4 c4, .slice A5 n5 c5])) : n4 ≤ c4 := by
  obtain ⟨a', A1', n1', c1', A2', n2', c2', e', A4', n4', c4', A5', n5', c5', h, h1⟩ := h
  injection h with h
  simp at h
  obtain ⟨-, -, -, -, ⟨-, rfl, rfl⟩, -⟩ := h
  exact h1
theorem CapV.of_own {w : World} {lo hi : Nat} {v : Value} {b : Big} (h : BigOwn w lo hi v b) : CapV v := by
  obtain ⟨g1, g2, g4, g5, rfl, -⟩ := h
  exact ⟨_, _, _, _, _, _, _, _, _, _, _, _, _, _, rfl, Nat.le_refl _⟩
theorem tg_in {b : Big} {l : Int} (hl : 0 ≤ l ∧ l < b.edges + b.outer.length) (hE : b.edges ≤ 8) : -1000 ≤ (tgOf b l).edge ∧ (tgOf b l).edge ≤ 1000 := by
  by_cases h0 : l < b.edges
  · rw [tgOf_edge h0]
    exact ⟨by show -1000 ≤ l; omega, by show l ≤ 1000; omega⟩
  · obtain ⟨k, hk⟩ : ∃ k : Nat, l - b.edges = k := ⟨(l - b.edges).toNat, by omega⟩
    have hkl : k < b.outer.length := by omega
    rw [tgOf_name h0 hk (List.getElem?_eq_getElem hkl)]
    exact ⟨by show (-1000 : Int) ≤ 0; decide, by show (0 : Int) ≤ 1000; decide⟩
set_option maxRecDepth 20000 in
set_option maxHeartbeats 12800000 in
theorem iOp_any (A : Option Addr) (n c : Nat) (cs : List Ctl) (v : Value) (b : Big) (e : Int) (s : ByteArray) (w : World) (hC : CtlsAt w w.heap.size A n cs) (hn : n ≤ 1048576) (hs : ∀ c ∈ cs, c.name.size ≤ 1048576) (hv : BigAt w w.heap.size v b) (hS : BigS b) (hw : BigW b) (hN : NilV v) (hcap : CapV v) (hze : (Lit.int .i64 e).wf = true) (hfs : s.size ≤ 1048576) :
    Calls Try.prog 34 #[.slice A n c, v, .int .i64 e, .string s] w (BigPost (opQ cs b e s) (opR cs b e s) w) := by
  have hNb := hN
  obtain ⟨A1, n1, c1, A2, n2, c2, A4, n4, c4, A5, n5, c5, rfl, h1, h2, h4, h5⟩ := hv
  have hnil := hN.get
  have hc4 := hcap.get
  have hbx := (Below.refl w.heap.size w).alloc (Nat.le_refl _) (.cells #[.int .i64 b.roots, .slice A1 n1 c1, .slice A2 n2 c2, .int .i64 b.edges, .slice A4 n4 c4, .slice A5 n5 c5] 28)
  have HBoxI : Hid (BoxAt (w.alloc (.cells #[.int .i64 b.roots, .slice A1 n1 c1, .slice A2 n2 c2, .int .i64 b.edges, .slice A4 n4 c4, .slice A5 n5 c5] 28)) w.heap.size 28 (.int .i64 b.roots) (.slice A1 n1 c1) (.slice A2 n2 c2) (.int .i64 b.edges) (.slice A4 n4 c4) (.slice A5 n5 c5)) := Lib.hid (six_new w _ _ _ _ _ _ _)
  obtain ⟨W0, hW0⟩ : ∃ W, w.alloc (.cells #[.int .i64 b.roots, .slice A1 n1 c1, .slice A2 n2 c2, .int .i64 b.edges, .slice A4 n4 c4, .slice A5 n5 c5] 28) = W := ⟨_, rfl⟩
  have hWz0 : W0.heap.size = w.heap.size + 1 := by rw [← hW0]; simp
  rw [hW0] at hbx HBoxI
  have hbe := (Below.refl W0.heap.size W0).alloc (Nat.le_refl _) (.cells #[.int .i64 e] 3)
  have hcE := one_cell W0 (.int .i64 e) 3
  obtain ⟨W1, hW1⟩ : ∃ W, W0.alloc (.cells #[.int .i64 e] 3) = W := ⟨_, rfl⟩
  have hWz1 : W1.heap.size = w.heap.size + 2 := by rw [← hW1]; simp; omega
  rw [hW1] at hbe hcE
  rw [hWz0] at hcE
  have hbn := (Below.refl W1.heap.size W1).alloc (Nat.le_refl _) (.cells #[.string s] 9)
  have hcN := one_cell W1 (.string s) 9
  obtain ⟨W2, hW2⟩ : ∃ W, W1.alloc (.cells #[.string s] 9) = W := ⟨_, rfl⟩
  have hWz2 : W2.heap.size = w.heap.size + 3 := by rw [← hW2]; simp; omega
  rw [hW2] at hbn hcN
  rw [hWz1] at hcN
  have hb0 := (Below.refl W2.heap.size W2).alloc (Nat.le_refl _) (.cells #[.int .i64 0, .slice none 0 0, .slice none 0 0, .int .i64 0, .slice none 0 0, .slice none 0 0] 28)
  have HBx0 : Hid (BoxAt (W2.alloc (.cells #[.int .i64 0, .slice none 0 0, .slice none 0 0, .int .i64 0, .slice none 0 0, .slice none 0 0] 28)) W2.heap.size 28 (.int .i64 0) (.slice none 0 0) (.slice none 0 0) (.int .i64 0) (.slice none 0 0) (.slice none 0 0)) := Lib.hid (six_new W2 _ _ _ _ _ _ _)
  obtain ⟨W, hW⟩ : ∃ W, W2.alloc (.cells #[.int .i64 0, .slice none 0 0, .slice none 0 0, .int .i64 0, .slice none 0 0, .slice none 0 0] 28) = W := ⟨_, rfl⟩
  have hWz : W.heap.size = w.heap.size + 4 := by rw [← hW]; simp; omega
  rw [hW] at hb0 HBx0
  rw [hWz2] at HBx0
  have hb20 := hbn.trans (hb0.mono hbn.size)
  have hb10 := hbe.trans (hb20.mono hbe.size)
  have HB0 := Lib.hid (hbx.trans (hb10.mono hbx.size))
  have HBox := Lib.hid (HBoxI.out.on hb10)
  have he0 := (hb20.cell (p := ⟨w.heap.size + 1, 0, none⟩) (by dsimp only; omega)).trans hcE
  have hs0 := (hb0.cell (p := ⟨w.heap.size + 2, 0, none⟩) (by dsimp only; omega)).trans hcN
  have HWq0 := Lib.hid hW0
  have HWq1 := Lib.hid hW1
  have HWq2 := Lib.hid hW2
  have HWq := Lib.hid hW
  have hsW : w.heap.size + 4 ≤ W.heap.size := by rw [hWz]; exact Nat.le_refl _
  have hVW : BigAt W W.heap.size (.agg #[.int .i64 b.roots, .slice A1 n1 c1, .slice A2 n2 c2, .int .i64 b.edges, .slice A4 n4 c4, .slice A5 n5 c5]) b := BigAt.wide (BigAt.below ⟨_, _, _, _, _, _, _, _, _, _, _, _, rfl, h1, h2, h4, h5⟩ HB0.out) HB0.out.size
  clear hW0 hW1 hW2 hW hWz0 hWz1 hWz2 hb0 hbn hbe hbx hb10 hb20 hcE hcN HBoxI hN hcap
  have C := isBig_any A n c cs _ b W ((hC.below HB0.out).wide HB0.out.size) hVW hn hs hS hw
  have h4n : n4 ≤ 1048576 := by have := hS.2.2.2.1; rw [h4.strlen] at this; exact this
  have hsm : s.size ≤ maxLen := by unfold maxLen; omega
  obtain ⟨x0, x1, x2, x3, x4, x5⟩ := HBox.out.get
  clear hVW
  cases hq : bigB cs b with
  | false =>
    rw [hq] at C
    have HR := Lib.hid (op_no (cs := cs) (b := b) (e := e) (s := s) (by unfold opP; rw [hq]; rfl))
    rw [HR.out.1, HR.out.2]
    clear hq hs
    go_enter Try.func34, Try.ntmps34
    go_wp2_with fail
    rw [HWq0.out, HWq1.out, HWq2.out, HWq.out]
    go_wp2_with fail
    refine C.mono ?_
    rintro e1 w1 ⟨rfl, hb⟩
    have hb1 := HB0.out.trans (hb.mono HB0.out.size)
    have HBx1 := Lib.hid (HBx0.out.on hb)
    have HBox1 := Lib.hid (HBox.out.on hb)
    have he1 := (hb.cell (p := ⟨w.heap.size + 1, 0, none⟩) (by dsimp only; omega)).trans he0
    have hs1 := (hb.cell (p := ⟨w.heap.size + 2, 0, none⟩) (by dsimp only; omega)).trans hs0
    have hsz1 : w.heap.size + 4 ≤ w1.heap.size := Nat.le_trans hsW hb.size
    clear hb C x0 x1 x2 x3 x4 x5 he0 hs0
    obtain ⟨z0, z1, z2, z3, z4, z5⟩ := HBx1.out.get
    have f0 := World.rowIs.frozen HBx1.out 0
    have f1 := World.rowIs.frozen HBx1.out 1
    have f2 := World.rowIs.frozen HBx1.out 2
    have f3 := World.rowIs.frozen HBx1.out 3
    have f4 := World.rowIs.frozen HBx1.out 4
    have f5 := World.rowIs.frozen HBx1.out 5
    go_wp2_with fail
    refine bodyPost_ret (v := .tuple #[.agg #[.int .i64 0, .slice none 0 0, .slice none 0 0, .int .i64 0, .slice none 0 0, .slice none 0 0], .bool false]) (by simp [results, Try.results34, go_sem, z0, z1, z2, z3, z4, z5]) rfl ⟨_, rfl, BigR.zero, sets6_below hb1 (by omega) _ _ _ _ _ _⟩
  | true =>
    rw [hq] at C
    have hz := sizes_of (big_of hq).2.1
    have hwE : wrap64 (b.edges - 1) = b.edges - 1 := by unfold wrap64; omega
    cases hi : inb e 0 (b.edges - 1) with
    | false =>
      have CW := fun Y => win_any e 0 (b.edges - 1) Y
      rw [hi] at CW
      have HR := Lib.hid (op_no (cs := cs) (b := b) (e := e) (s := s) (by unfold opP; rw [hi]; simp))
      rw [HR.out.1, HR.out.2]
      clear hq hi hs
      go_enter Try.func34, Try.ntmps34
      go_wp2_with fail
      rw [HWq0.out, HWq1.out, HWq2.out, HWq.out]
      go_wp2_with fail
      refine C.mono ?_
      rintro e1 w1 ⟨rfl, hb⟩
      have hb1 := HB0.out.trans (hb.mono HB0.out.size)
      have HBx1 := Lib.hid (HBx0.out.on hb)
      have HBox1 := Lib.hid (HBox.out.on hb)
      have he1 := (hb.cell (p := ⟨w.heap.size + 1, 0, none⟩) (by dsimp only; omega)).trans he0
      have hs1 := (hb.cell (p := ⟨w.heap.size + 2, 0, none⟩) (by dsimp only; omega)).trans hs0
      have hsz1 : w.heap.size + 4 ≤ w1.heap.size := Nat.le_trans hsW hb.size
      clear hb C x0 x1 x2 x3 x4 x5 he0 hs0
      obtain ⟨x0, x1, x2, x3, x4, x5⟩ := HBox1.out.get
      go_wp2_with fail
      refine (CW _).mono ?_
      rintro e2 w2 ⟨rfl, rfl⟩
      clear x0 x1 x2 x3 x4 x5 CW
      obtain ⟨z0, z1, z2, z3, z4, z5⟩ := HBx1.out.get
      have f0 := World.rowIs.frozen HBx1.out 0
      have f1 := World.rowIs.frozen HBx1.out 1
      have f2 := World.rowIs.frozen HBx1.out 2
      have f3 := World.rowIs.frozen HBx1.out 3
      have f4 := World.rowIs.frozen HBx1.out 4
      have f5 := World.rowIs.frozen HBx1.out 5
      go_wp2_with fail
      refine bodyPost_ret (v := .tuple #[.agg #[.int .i64 0, .slice none 0 0, .slice none 0 0, .int .i64 0, .slice none 0 0, .slice none 0 0], .bool false]) (by simp [results, Try.results34, go_sem, z0, z1, z2, z3, z4, z5]) rfl ⟨_, rfl, BigR.zero, sets6_below hb1 (by omega) _ _ _ _ _ _⟩
    | true =>
      have CW := fun Y => win_any e 0 (b.edges - 1) Y
      rw [hi] at CW
      cases hnm : nameB s with
      | false =>
        have CN := fun Y => inm_any s Y hsm
        rw [hnm] at CN
        have HR := Lib.hid (op_bad_no (cs := cs) (b := b) (e := e) hnm)
        rw [HR.out.1, HR.out.2]
        clear hq hi hs hnm
        go_enter Try.func34, Try.ntmps34
        go_wp2_with fail
        rw [HWq0.out, HWq1.out, HWq2.out, HWq.out]
        go_wp2_with fail
        refine C.mono ?_
        rintro e1 w1 ⟨rfl, hb⟩
        have hb1 := HB0.out.trans (hb.mono HB0.out.size)
        have HBx1 := Lib.hid (HBx0.out.on hb)
        have HBox1 := Lib.hid (HBox.out.on hb)
        have he1 := (hb.cell (p := ⟨w.heap.size + 1, 0, none⟩) (by dsimp only; omega)).trans he0
        have hs1 := (hb.cell (p := ⟨w.heap.size + 2, 0, none⟩) (by dsimp only; omega)).trans hs0
        have hsz1 : w.heap.size + 4 ≤ w1.heap.size := Nat.le_trans hsW hb.size
        clear hb C x0 x1 x2 x3 x4 x5 he0 hs0
        obtain ⟨x0, x1, x2, x3, x4, x5⟩ := HBox1.out.get
        go_wp2_with fail
        refine (CW _).mono ?_
        rintro e2 w2 ⟨rfl, rfl⟩
        go_wp2_with fail
        refine (CN _).mono ?_
        rintro e2 w2 ⟨rfl, rfl⟩
        clear x0 x1 x2 x3 x4 x5 CW CN
        obtain ⟨z0, z1, z2, z3, z4, z5⟩ := HBx1.out.get
        have f0 := World.rowIs.frozen HBx1.out 0
        have f1 := World.rowIs.frozen HBx1.out 1
        have f2 := World.rowIs.frozen HBx1.out 2
        have f3 := World.rowIs.frozen HBx1.out 3
        have f4 := World.rowIs.frozen HBx1.out 4
        have f5 := World.rowIs.frozen HBx1.out 5
        go_wp2_with fail
        refine bodyPost_ret (v := .tuple #[.agg #[.int .i64 0, .slice none 0 0, .slice none 0 0, .int .i64 0, .slice none 0 0, .slice none 0 0], .bool false]) (by simp [results, Try.results34, go_sem, z0, z1, z2, z3, z4, z5]) rfl ⟨_, rfl, BigR.zero, sets6_below hb1 (by omega) _ _ _ _ _ _⟩
      | true =>
        have CN := fun Y => inm_any s Y hsm
        rw [hnm] at CN
        have hP := (big_of hq).2.2.1
        obtain ⟨he, he'⟩ : 0 ≤ e ∧ e < b.edges := by have := inb_true hi; omega
        have CM := Lib.hid (fun (Y : World) (hY : Below w.heap.size w Y) => mrg_any A4 (some ⟨Y.heap.size, 0, none⟩) n4 c4 1 1 b.outer [s] (Y.alloc (.cells #[.string s] 9)) ((h4.below (hY.alloc hY.size _)).wide (by simp; have := hY.size; omega)) (sr_vals Y [.string s] 9) (by have := h4.strlen; omega) (by omega) hc4 (Nat.le_refl _) hnil.2.2.1 (fun e => by cases e))
        cases hin : inB b.outer s with
        | true =>
          rw [op_mrg_in hP hin] at CM
          have HR := Lib.hid (op_no (cs := cs) (b := b) (e := e) (s := s) (by unfold opP; rw [hin]; simp))
          rw [HR.out.1, HR.out.2]
          clear hq hi hs hnm hin hP
          go_enter Try.func34, Try.ntmps34
          go_wp2_with fail
          rw [HWq0.out, HWq1.out, HWq2.out, HWq.out]
          go_wp2_with fail
          refine C.mono ?_
          rintro e1 w1 ⟨rfl, hb⟩
          have hb1 := HB0.out.trans (hb.mono HB0.out.size)
          have HBx1 := Lib.hid (HBx0.out.on hb)
          have HBox1 := Lib.hid (HBox.out.on hb)
          have he1 := (hb.cell (p := ⟨w.heap.size + 1, 0, none⟩) (by dsimp only; omega)).trans he0
          have hs1 := (hb.cell (p := ⟨w.heap.size + 2, 0, none⟩) (by dsimp only; omega)).trans hs0
          have hsz1 : w.heap.size + 4 ≤ w1.heap.size := Nat.le_trans hsW hb.size
          clear hb C x0 x1 x2 x3 x4 x5 he0 hs0
          obtain ⟨x0, x1, x2, x3, x4, x5⟩ := HBox1.out.get
          go_wp2_with fail
          refine (CW _).mono ?_
          rintro e2 w2 ⟨rfl, rfl⟩
          go_wp2_with fail
          refine (CN _).mono ?_
          rintro e2 w2 ⟨rfl, rfl⟩
          go_wp2_with fail
          refine (CM.out w1 hb1).mono ?_
          rintro e2 w2 ⟨v2, rfl, -, hb⟩
          have hb12 := ((Below.refl w1.heap.size w1).alloc (Nat.le_refl _) (.cells #[.string s] 9)).trans (hb.mono (by simp))
          have HBx2 := Lib.hid (HBx1.out.on hb12)
          have hb2 := hb1.trans (hb12.mono hb1.size)
          clear x0 x1 x2 x3 x4 x5 CW CN hb hb12
          obtain ⟨z0, z1, z2, z3, z4, z5⟩ := HBx2.out.get
          have f0 := World.rowIs.frozen HBx2.out 0
          have f1 := World.rowIs.frozen HBx2.out 1
          have f2 := World.rowIs.frozen HBx2.out 2
          have f3 := World.rowIs.frozen HBx2.out 3
          have f4 := World.rowIs.frozen HBx2.out 4
          have f5 := World.rowIs.frozen HBx2.out 5
          go_wp2_with fail
          refine bodyPost_ret (v := .tuple #[.agg #[.int .i64 0, .slice none 0 0, .slice none 0 0, .int .i64 0, .slice none 0 0, .slice none 0 0], .bool false]) (by simp [results, Try.results34, go_sem, z0, z1, z2, z3, z4, z5]) rfl ⟨_, rfl, BigR.zero, sets6_below hb2 (by omega) _ _ _ _ _ _⟩
        | false =>
          rw [op_mrg hP hin] at CM
          have HR := Lib.hid (op_yes (cs := cs) (b := b) (e := e) (s := s) (by unfold opP; rw [hq, hi, hin]; rfl))
          have hTa := op_tame hq hS hfs ⟨he, he'⟩
          have HGv := Lib.hid (fun (v2 : Value) (Y : World) (hY : Below w.heap.size w Y) (hr : BigR Y w.heap.size Y.heap.size v2 (opB b e s)) => ifb_any A n c cs v2 (opB b e s) w Y hC hY hn hs hr hTa.S hTa.W)
          have HLl : Hid ((opO b s).length ≤ 17) := Lib.hid (by have := opO_len b s; omega)
          have HRt := Lib.hid (fun (A' : Option Addr) (c' : Nat) (Y : World) (hY : Below w.heap.size w Y) (hYz : w.heap.size + 4 ≤ Y.heap.size) (ce : Y.cell? ⟨w.heap.size + 1, 0, none⟩ = some (.int .i64 e)) (cn : Y.cell? ⟨w.heap.size + 2, 0, none⟩ = some (.string s)) (hs : SR Y Y.heap.size A' (opO b s).length ((opO b s).map Value.string)) (h0 : A' = none → c' = 0) =>
            ret_any 90 #[.pointer (some ⟨w.heap.size + 1, 0, none⟩), .pointer (some ⟨w.heap.size + 2, 0, none⟩)] (opF e s) cs (.agg #[.int .i64 b.roots, .slice A1 n1 c1, .slice A2 n2 c2, .int .i64 b.edges, .slice A4 n4 c4, .slice A5 n5 c5]) b (b.edges - 1) A' (opO b s).length c' (opO b s) Y (enters_of Try.func90 (by kernel_rfl) rfl)
              (fun l Z hl hZ => by
                rw [show (#[tgV (tgOf b l)] ++ #[.pointer (some ⟨w.heap.size + 1, 0, none⟩), .pointer (some ⟨w.heap.size + 2, 0, none⟩)] : Array Value) = #[tgV (tgOf b l), .pointer (some ⟨w.heap.size + 1, 0, none⟩), .pointer (some ⟨w.heap.size + 2, 0, none⟩)] from rfl]
                have hZz := hZ.size
                refine (opn1_any e s (tgOf b l) (w.heap.size + 1) (w.heap.size + 2) Z ((hZ.cell (p := ⟨w.heap.size + 1, 0, none⟩) (by dsimp only; omega)).trans ce) ((hZ.cell (p := ⟨w.heap.size + 2, 0, none⟩) (by dsimp only; omega)).trans cn) (by omega) (by omega) (tg_in hl (by omega)))) 
              (BigAt.wide (BigAt.below ⟨_, _, _, _, _, _, _, _, _, _, _, _, rfl, h1, h2, h4, h5⟩ hY) hY.size) hS hNb hq hs (by have := HLl.out; omega) h0 (by omega))
          rw [op_eq hq hnm ⟨he, he'⟩] at HRt
          obtain ⟨Mb, hMb⟩ : ∃ Mb, opB b e s = Mb := ⟨_, rfl⟩
          rw [hMb] at HRt HGv HR
          obtain ⟨Lb, hLb⟩ : ∃ Lb, giveR cs Mb = Lb := ⟨_, rfl⟩
          obtain ⟨q4, hq4⟩ : ∃ q4, bigB cs Mb = q4 := ⟨_, rfl⟩
          rw [HR.out.1, HR.out.2, hLb, hq4]
          rw [hLb, hq4] at HGv
          obtain ⟨OU, hOU⟩ : ∃ OU, opO b s = OU := ⟨_, rfl⟩
          rw [hOU] at HRt HLl CM
          clear hLb hq4 hMb hTa hq hi hnm hin hP hz hS hw hNb hnil h1 h2 h4 h5 hC hn hs HR hOU
          go_enter Try.func34, Try.ntmps34
          go_wp2_with fail
          rw [HWq0.out, HWq1.out, HWq2.out, HWq.out]
          go_wp2_with fail
          refine C.mono ?_
          rintro e1 w1 ⟨rfl, hb⟩
          have hb1 := HB0.out.trans (hb.mono HB0.out.size)
          have HBx1 := Lib.hid (HBx0.out.on hb)
          have HBox1 := Lib.hid (HBox.out.on hb)
          have he1 := (hb.cell (p := ⟨w.heap.size + 1, 0, none⟩) (by dsimp only; omega)).trans he0
          have hs1 := (hb.cell (p := ⟨w.heap.size + 2, 0, none⟩) (by dsimp only; omega)).trans hs0
          have hsz1 : w.heap.size + 4 ≤ w1.heap.size := Nat.le_trans hsW hb.size
          clear hb C x0 x1 x2 x3 x4 x5 he0 hs0
          obtain ⟨x0, x1, x2, x3, x4, x5⟩ := HBox1.out.get
          go_wp2_with fail
          refine (CW _).mono ?_
          rintro e2 w2 ⟨rfl, rfl⟩
          go_wp2_with fail
          refine (CN _).mono ?_
          rintro e2 w2 ⟨rfl, rfl⟩
          go_wp2_with fail
          refine (CM.out w1 hb1).mono ?_
          rintro e2 w2 ⟨v2, rfl, hown, hb⟩
          have hb12 := ((Below.refl w1.heap.size w1).alloc (Nat.le_refl _) (.cells #[.string s] 9)).trans (hb.mono (by simp))
          have HBx2 := Lib.hid (HBx1.out.on hb12)
          have HBox2 := Lib.hid (HBox1.out.on hb12)
          have hb2 := hb1.trans (hb12.mono hb1.size)
          have HB2 := Lib.hid hb2
          have he2 := (hb12.cell (p := ⟨w.heap.size + 1, 0, none⟩) (by dsimp only; omega)).trans he1
          have hs2 := (hb12.cell (p := ⟨w.heap.size + 2, 0, none⟩) (by dsimp only; omega)).trans hs1
          obtain ⟨A', c', rfl, hr2⟩ := wb.strs_owned hown
          have HR2 := Lib.hid (rowR_here hr2)
          have C3 := HRt.out A' c' w2 hb2 (Nat.le_trans hsz1 hb12.size) he2 hs2 (strsR_at HR2.out) (rowR_nil0 HR2.out)
          clear x0 x1 x2 x3 x4 x5 CW CN hb hb12 hown hr2 he1 hs1 he2 hs2 hb2 hb1
          obtain ⟨x0, x1, x2, x3, x4, x5⟩ := HBox2.out.get
          go_wp2_with fail
          refine C3.mono ?_
          rintro e3 w3 ⟨v3, rfl, hr3, hb3⟩
          clear x0 x1 x2 x3 x4 x5 C3
          have HBx3 := Lib.hid (HBx2.out.on hb3)
          have HB3 := HB2.out.trans (hb3.mono HB2.out.size)
          obtain ⟨F1, k1, F2, k2, F4, k4, F5, k5, rfl⟩ := hr3.shape
          go_wp2_with fail
          have hb34 := (Below.refl w3.heap.size w3).alloc (Nat.le_refl _) (.cells #[.int .i64 Mb.roots, .slice F1 Mb.nodes.length k1, .slice F2 Mb.sites.length k2, .int .i64 Mb.edges, .slice F4 Mb.outer.length k4, .slice F5 Mb.inner.length k5] 28)
          have hb4 := HB3.trans (hb34.mono HB3.size)
          have C5 := HGv.out _ _ hb4 ((hr3.on hb34).wide HB2.out.size hb34.size)
          have HBx4 := Lib.hid (HBx3.out.on hb34)
          have HB4 := Lib.hid hb4
          clear hr3 HB3 hb3 hb34 hb4
          refine C5.mono ?_
          rintro e5 w5 ⟨v5, rfl, hr5, hb5⟩
          obtain ⟨D1, g1, D2, g2, D4, g4, D5, g5, rfl⟩ := hr5.shape
          have HBx5 := Lib.hid (HBx4.out.on hb5)
          have HR5 := Lib.hid hr5
          have HB5 := Lib.hid (HB4.out.trans (hb5.mono HB4.out.size))
          clear hr5 hb5 C5
          obtain ⟨z0, z1, z2, z3, z4, z5⟩ := HBx5.out.get
          have f0 := World.rowIs.frozen HBx5.out 0
          have f1 := World.rowIs.frozen HBx5.out 1
          have f2 := World.rowIs.frozen HBx5.out 2
          have f3 := World.rowIs.frozen HBx5.out 3
          have f4 := World.rowIs.frozen HBx5.out 4
          have f5 := World.rowIs.frozen HBx5.out 5
          go_wp2_with fail
          have hbig := (sets6_big HBx5.out HR5.out (.int .i64 Lb.roots) (.slice D1 Lb.nodes.length g1) (.slice D2 Lb.sites.length g2) (.int .i64 Lb.edges) (.slice D4 Lb.outer.length g4) (.slice D5 Lb.inner.length g5)).here
          have hbel := sets6_below HB5.out (Nat.le_add_right w.heap.size 3) (.int .i64 Lb.roots) (.slice D1 Lb.nodes.length g1) (.slice D2 Lb.sites.length g2) (.int .i64 Lb.edges) (.slice D4 Lb.outer.length g4) (.slice D5 Lb.inner.length g5)
          unfold sets6 at hbig hbel
          refine bodyPost_ret (v := .tuple #[.agg #[.int .i64 Lb.roots, .slice D1 Lb.nodes.length g1, .slice D2 Lb.sites.length g2, .int .i64 Lb.edges, .slice D4 Lb.outer.length g4, .slice D5 Lb.inner.length g5], .bool q4]) (by simp [results, Try.results34, go_sem, z0, z1, z2, z3, z4, z5]) rfl ⟨_, rfl, hbig, hbel⟩
end Go.Proofs.Ytmcdbhlpmlcjpaa.opi
