/- impl.JoinNames. -/
import Derived.Test.YtebmhfkpmcflfaaJo
import Derived.Test.YtebmhfkpmcflfaaRta
import Derived.Test.YtebmhfkpmcflfaaDl
import Derived.Test.YtebmhfkpmcflfaaQe
import Derived.Test.YtebmhfkpmcflfaaGv
namespace Go.Proofs.Ytebmhfkpmcflfaa.joi
open kit bg sg opn strs only hb sig isig un over gn nm inn ht gd im pt marks eqs hc hi hw hn rs br bm bw cf lf ib isa lawb lw cl rt ix tg rl ed tp rtg rta nl dl lo jo
open Go.RowKit
set_option linter.unusedVariables false
set_option linter.unusedSimpArgs false
open Classical in
theorem in_of {ss : List ByteArray} {s : ByteArray} (h : inB ss s = true) : s ∈ ss := by unfold inB at h; exact of_decide_eq_true h
theorem rowR_nil0 {w : World} {lo hi n c sz : Nat} {t : TypeId} {A : Option Addr} {M : Nat → Value} (h : RowR w lo hi t sz A n c M) : A = none → c = 0 := fun e => by
  rcases h with ⟨-, h, -⟩ | ⟨g, f, e2, -⟩
  · exact h
  · rw [e] at e2; cases e2
set_option maxRecDepth 20000 in
set_option maxHeartbeats 12800000 in
theorem iJo_any (A : Option Addr) (n c : Nat) (cs : List Ctl) (v : Value) (b : Big) (fr tt : ByteArray) (w : World) (hC : CtlsAt w w.heap.size A n cs) (hn : n ≤ 1048576) (hs : ∀ c ∈ cs, c.name.size ≤ 1048576) (hv : BigAt w w.heap.size v b) (hS : BigS b) (hw : BigW b) (hN : NilV v) (hfs : fr.size ≤ 1048576) (hts : tt.size ≤ 1048576) :
    Calls Try.prog 31 #[.slice A n c, v, .string fr, .string tt] w (BigPost (joP cs b fr tt) (joR cs b fr tt) w) := by
  have hNb := hN
  obtain ⟨A1, n1, c1, A2, n2, c2, A4, n4, c4, A5, n5, c5, rfl, h1, h2, h4, h5⟩ := hv
  have hnil := hN.get
  have hbx := (Below.refl w.heap.size w).alloc (Nat.le_refl _) (.cells #[.int .i64 b.roots, .slice A1 n1 c1, .slice A2 n2 c2, .int .i64 b.edges, .slice A4 n4 c4, .slice A5 n5 c5] 34)
  have HBoxI : Hid (BoxAt (w.alloc (.cells #[.int .i64 b.roots, .slice A1 n1 c1, .slice A2 n2 c2, .int .i64 b.edges, .slice A4 n4 c4, .slice A5 n5 c5] 34)) w.heap.size 34 (.int .i64 b.roots) (.slice A1 n1 c1) (.slice A2 n2 c2) (.int .i64 b.edges) (.slice A4 n4 c4) (.slice A5 n5 c5)) := Lib.hid (six_new w _ _ _ _ _ _ _)
  obtain ⟨W0, hW0⟩ : ∃ W, w.alloc (.cells #[.int .i64 b.roots, .slice A1 n1 c1, .slice A2 n2 c2, .int .i64 b.edges, .slice A4 n4 c4, .slice A5 n5 c5] 34) = W := ⟨_, rfl⟩
  have hWz0 : W0.heap.size = w.heap.size + 1 := by rw [← hW0]; simp
  rw [hW0] at hbx HBoxI
  have hb0 := (Below.refl W0.heap.size W0).alloc (Nat.le_refl _) (.cells #[.int .i64 0, .slice none 0 0, .slice none 0 0, .int .i64 0, .slice none 0 0, .slice none 0 0] 34)
  have HBx0 : Hid (BoxAt (W0.alloc (.cells #[.int .i64 0, .slice none 0 0, .slice none 0 0, .int .i64 0, .slice none 0 0, .slice none 0 0] 34)) W0.heap.size 34 (.int .i64 0) (.slice none 0 0) (.slice none 0 0) (.int .i64 0) (.slice none 0 0) (.slice none 0 0)) := Lib.hid (six_new W0 _ _ _ _ _ _ _)
  have HBox := Lib.hid (HBoxI.out.on hb0)
  obtain ⟨W, hW⟩ : ∃ W, W0.alloc (.cells #[.int .i64 0, .slice none 0 0, .slice none 0 0, .int .i64 0, .slice none 0 0, .slice none 0 0] 34) = W := ⟨_, rfl⟩
  have hWz : W.heap.size = w.heap.size + 1 + 1 := by rw [← hW]; simp; exact hWz0
  rw [hW] at hb0 HBx0 HBox
  rw [hWz0] at HBx0
  have HWq0 := Lib.hid hW0
  have HWq := Lib.hid hW
  have HB0 := Lib.hid (hbx.trans (hb0.mono hbx.size))
  have HWz := Lib.hid hWz
  have hVW : BigAt W W.heap.size (.agg #[.int .i64 b.roots, .slice A1 n1 c1, .slice A2 n2 c2, .int .i64 b.edges, .slice A4 n4 c4, .slice A5 n5 c5]) b := BigAt.wide (BigAt.below ⟨_, _, _, _, _, _, _, _, _, _, _, _, rfl, h1, h2, h4, h5⟩ HB0.out) HB0.out.size
  clear hW0 hW hb0 hWz hWz0 hbx HBoxI hN
  have C := isBig_any A n c cs _ b W ((hC.below HB0.out).wide HB0.out.size) hVW hn hs hS hw
  have hsW : w.heap.size + 1 + 1 ≤ W.heap.size := by rw [HWz.out]; exact Nat.le_refl _
  have h4n : n4 ≤ 1048576 := by have := hS.2.2.2.1; rw [h4.strlen] at this; exact this
  have HCf := Lib.hid (fun (Y : World) (hY : Below w.heap.size w Y) => contains_any A4 n4 c4 b.outer fr Y _ (h4.below hY) h4n)
  have HCt := Lib.hid (fun (Y : World) (hY : Below w.heap.size w Y) => contains_any A4 n4 c4 b.outer tt Y _ (h4.below hY) h4n)
  obtain ⟨x0, x1, x2, x3, x4, x5⟩ := HBox.out.get
  clear hVW hs
  cases hq : bigB cs b with
  | false =>
    rw [hq] at C
    have HR := Lib.hid (show joP cs b fr tt = false by unfold joP; rw [hq]; rfl)
    rw [HR.out, jo_no HR.out]
    clear hq
    go_enter Try.func31, Try.ntmps31
    go_wp2_with fail
    rw [HWq0.out, HWq.out]
    go_wp2_with fail
    refine C.mono ?_
    rintro e w1 ⟨rfl, hb⟩
    have hb1 := HB0.out.trans (hb.mono HB0.out.size)
    have HBx1 := Lib.hid (HBx0.out.on hb)
    have HBox1 := Lib.hid (HBox.out.on hb)
    have hsz1 : w.heap.size + 1 + 1 ≤ w1.heap.size := Nat.le_trans hsW hb.size
    clear hb C x0 x1 x2 x3 x4 x5
    obtain ⟨z0, z1, z2, z3, z4, z5⟩ := HBx1.out.get
    have f0 := World.rowIs.frozen HBx1.out 0
    have f1 := World.rowIs.frozen HBx1.out 1
    have f2 := World.rowIs.frozen HBx1.out 2
    have f3 := World.rowIs.frozen HBx1.out 3
    have f4 := World.rowIs.frozen HBx1.out 4
    have f5 := World.rowIs.frozen HBx1.out 5
    go_wp2_with fail
    refine bodyPost_ret (v := .tuple #[.agg #[.int .i64 0, .slice none 0 0, .slice none 0 0, .int .i64 0, .slice none 0 0, .slice none 0 0], .bool false]) (by simp [results, Try.results31, go_sem, z0, z1, z2, z3, z4, z5]) rfl ⟨_, rfl, BigR.zero, sets6_below hb1 (by omega) _ _ _ _ _ _⟩
  | true =>
    rw [hq] at C
    cases he : (fr.toList == tt.toList) with
    | true =>
      have HR := Lib.hid (show joP cs b fr tt = false by unfold joP; rw [he]; simp)
      rw [HR.out, jo_no HR.out]
      clear hq
      go_enter Try.func31, Try.ntmps31
      go_wp2_with fail
      rw [HWq0.out, HWq.out]
      go_wp2_with fail
      refine C.mono ?_
      rintro e w1 ⟨rfl, hb⟩
      have hb1 := HB0.out.trans (hb.mono HB0.out.size)
      have HBx1 := Lib.hid (HBx0.out.on hb)
      have HBox1 := Lib.hid (HBox.out.on hb)
      have hsz1 : w.heap.size + 1 + 1 ≤ w1.heap.size := Nat.le_trans hsW hb.size
      clear hb C x0 x1 x2 x3 x4 x5
      obtain ⟨z0, z1, z2, z3, z4, z5⟩ := HBx1.out.get
      have f0 := World.rowIs.frozen HBx1.out 0
      have f1 := World.rowIs.frozen HBx1.out 1
      have f2 := World.rowIs.frozen HBx1.out 2
      have f3 := World.rowIs.frozen HBx1.out 3
      have f4 := World.rowIs.frozen HBx1.out 4
      have f5 := World.rowIs.frozen HBx1.out 5
      go_wp2_with fail
      refine bodyPost_ret (v := .tuple #[.agg #[.int .i64 0, .slice none 0 0, .slice none 0 0, .int .i64 0, .slice none 0 0, .slice none 0 0], .bool false]) (by simp [results, Try.results31, go_sem, z0, z1, z2, z3, z4, z5]) rfl ⟨_, rfl, BigR.zero, sets6_below hb1 (by omega) _ _ _ _ _ _⟩
    | false =>
      cases hf : inB b.outer fr with
      | false =>
        rw [hf] at HCf
        have HR := Lib.hid (show joP cs b fr tt = false by unfold joP; rw [hf]; simp)
        rw [HR.out, jo_no HR.out]
        clear hq hf
        go_enter Try.func31, Try.ntmps31
        go_wp2_with fail
        rw [HWq0.out, HWq.out]
        go_wp2_with fail
        refine C.mono ?_
        rintro e w1 ⟨rfl, hb⟩
        have hb1 := HB0.out.trans (hb.mono HB0.out.size)
        have HBx1 := Lib.hid (HBx0.out.on hb)
        have HBox1 := Lib.hid (HBox.out.on hb)
        have hsz1 : w.heap.size + 1 + 1 ≤ w1.heap.size := Nat.le_trans hsW hb.size
        clear hb C x0 x1 x2 x3 x4 x5
        have C2 := HCf.out w1 hb1
        obtain ⟨x0, x1, x2, x3, x4, x5⟩ := HBox1.out.get
        go_wp2_with fail
        refine C2.mono ?_
        rintro e w2 ⟨rfl, rfl⟩
        clear x0 x1 x2 x3 x4 x5 C2
        obtain ⟨z0, z1, z2, z3, z4, z5⟩ := HBx1.out.get
        have f0 := World.rowIs.frozen HBx1.out 0
        have f1 := World.rowIs.frozen HBx1.out 1
        have f2 := World.rowIs.frozen HBx1.out 2
        have f3 := World.rowIs.frozen HBx1.out 3
        have f4 := World.rowIs.frozen HBx1.out 4
        have f5 := World.rowIs.frozen HBx1.out 5
        go_wp2_with fail
        refine bodyPost_ret (v := .tuple #[.agg #[.int .i64 0, .slice none 0 0, .slice none 0 0, .int .i64 0, .slice none 0 0, .slice none 0 0], .bool false]) (by simp [results, Try.results31, go_sem, z0, z1, z2, z3, z4, z5]) rfl ⟨_, rfl, BigR.zero, sets6_below hb1 (by omega) _ _ _ _ _ _⟩
      | true =>
        rw [hf] at HCf
        cases ht : inB b.outer tt with
        | false =>
          rw [ht] at HCt
          have HR := Lib.hid (show joP cs b fr tt = false by unfold joP; rw [ht]; simp)
          rw [HR.out, jo_no HR.out]
          clear hq hf ht
          go_enter Try.func31, Try.ntmps31
          go_wp2_with fail
          rw [HWq0.out, HWq.out]
          go_wp2_with fail
          refine C.mono ?_
          rintro e w1 ⟨rfl, hb⟩
          have hb1 := HB0.out.trans (hb.mono HB0.out.size)
          have HBx1 := Lib.hid (HBx0.out.on hb)
          have HBox1 := Lib.hid (HBox.out.on hb)
          have hsz1 : w.heap.size + 1 + 1 ≤ w1.heap.size := Nat.le_trans hsW hb.size
          clear hb C x0 x1 x2 x3 x4 x5
          have C2 := HCf.out w1 hb1
          have C3 := HCt.out w1 hb1
          obtain ⟨x0, x1, x2, x3, x4, x5⟩ := HBox1.out.get
          go_wp2_with fail
          refine C2.mono ?_
          rintro e w2 ⟨rfl, rfl⟩
          go_wp2_with fail
          refine C3.mono ?_
          rintro e w2 ⟨rfl, rfl⟩
          clear x0 x1 x2 x3 x4 x5 C2 C3
          obtain ⟨z0, z1, z2, z3, z4, z5⟩ := HBx1.out.get
          have f0 := World.rowIs.frozen HBx1.out 0
          have f1 := World.rowIs.frozen HBx1.out 1
          have f2 := World.rowIs.frozen HBx1.out 2
          have f3 := World.rowIs.frozen HBx1.out 3
          have f4 := World.rowIs.frozen HBx1.out 4
          have f5 := World.rowIs.frozen HBx1.out 5
          go_wp2_with fail
          refine bodyPost_ret (v := .tuple #[.agg #[.int .i64 0, .slice none 0 0, .slice none 0 0, .int .i64 0, .slice none 0 0, .slice none 0 0], .bool false]) (by simp [results, Try.results31, go_sem, z0, z1, z2, z3, z4, z5]) rfl ⟨_, rfl, BigR.zero, sets6_below hb1 (by omega) _ _ _ _ _ _⟩
        | true =>
          rw [ht] at HCt
          have HR := Lib.hid (show joP cs b fr tt = true by unfold joP; rw [hq, he, hf, ht]; rfl)
          have hfm : fr ∈ b.outer := in_of hf
          have htm : tt ∈ b.outer := in_of ht
          have HQ : Hid (joR cs b fr tt = reB b (insF ⟨0, fr⟩ ⟨0, tt⟩) b.edges (lessL b.outer fr)) := Lib.hid (by rw [jo_yes HR.out]; unfold joB; exact (jo_eq hq hfm htm _).symm)
          obtain ⟨Lb, hLb⟩ : ∃ Lb, reB b (insF ⟨0, fr⟩ ⟨0, tt⟩) b.edges (lessL b.outer fr) = Lb := ⟨_, rfl⟩
          rw [HR.out, HQ.out, hLb]
          have hz := sizes_of (big_of hq).2.1
          have HNw := Lib.hid (fun (Y : World) (hY : Below w.heap.size w Y) => nwo_any A4 n4 c4 b.outer fr Y ((h4.below hY).wide hY.size) h4n hnil.2.2.1)
          have HLl : Hid ((lessL b.outer fr).length ≤ 16) := Lib.hid (by have := less_le b.outer fr; omega)
          have HRt := Lib.hid (fun (A' : Option Addr) (c' : Nat) (γ : Nat) (Y : World) (hY : Below w.heap.size w Y) (ho : TwoAt Y γ ⟨0, fr⟩) (hn : TwoAt Y (γ + 1) ⟨0, tt⟩) (hs : SR Y Y.heap.size A' (lessL b.outer fr).length ((lessL b.outer fr).map Value.string)) (h0 : A' = none → c' = 0) =>
            ret_any 162 #[.pointer (some ⟨γ, 0, none⟩), .pointer (some ⟨γ + 1, 0, none⟩)] (insF ⟨0, fr⟩ ⟨0, tt⟩) cs (.agg #[.int .i64 b.roots, .slice A1 n1 c1, .slice A2 n2 c2, .int .i64 b.edges, .slice A4 n4 c4, .slice A5 n5 c5]) b b.edges A' (lessL b.outer fr).length c' (lessL b.outer fr) Y (enters_of Try.func162 (by kernel_rfl) rfl)
              (fun l Z _ hZ => by
                rw [show (#[tgV (tgOf b l)] ++ #[.pointer (some ⟨γ, 0, none⟩), .pointer (some ⟨γ + 1, 0, none⟩)] : Array Value) = #[tgV (tgOf b l), .pointer (some ⟨γ, 0, none⟩), .pointer (some ⟨γ + 1, 0, none⟩)] from rfl]
                exact ins1_any ⟨0, fr⟩ ⟨0, tt⟩ (tgOf b l) γ (γ + 1) Z (ho.on hZ) (hn.on hZ))
              (BigAt.wide (BigAt.below ⟨_, _, _, _, _, _, _, _, _, _, _, _, rfl, h1, h2, h4, h5⟩ hY) hY.size) hS hNb hq hs (by have := HLl.out; omega) h0 (by omega))
          rw [hLb] at HRt
          clear hLb HQ HR
          have HIs := Lib.hid (fun (Y : World) => ins_any ⟨0, fr⟩ ⟨0, tt⟩ Y)
          clear hq hf ht hz hS hw hNb hnil h1 h2 h4 h5 hfm htm hC hn
          go_enter Try.func31, Try.ntmps31
          go_wp2_with fail
          rw [HWq0.out, HWq.out]
          go_wp2_with fail
          refine C.mono ?_
          rintro e w1 ⟨rfl, hb⟩
          have hb1 := HB0.out.trans (hb.mono HB0.out.size)
          have HBx1 := Lib.hid (HBx0.out.on hb)
          have HBox1 := Lib.hid (HBox.out.on hb)
          have hsz1 : w.heap.size + 1 + 1 ≤ w1.heap.size := Nat.le_trans hsW hb.size
          clear hb C x0 x1 x2 x3 x4 x5
          have C2 := HCf.out w1 hb1
          have C3 := HCt.out w1 hb1
          have C4 := HIs.out w1
          dsimp only [tgV] at C4
          obtain ⟨x0, x1, x2, x3, x4, x5⟩ := HBox1.out.get
          go_wp2_with fail
          refine C2.mono ?_
          rintro e w2 ⟨rfl, rfl⟩
          go_wp2_with fail
          refine C3.mono ?_
          rintro e w2 ⟨rfl, rfl⟩
          clear C2 C3
          go_wp2_with fail
          refine C4.mono ?_
          rintro e w2 ⟨rfl, hTo, hTn, hb⟩
          have hb2 := hb1.trans (hb.mono hb1.size)
          have HB2 := Lib.hid hb2
          have HBx2 := Lib.hid (HBx1.out.on hb)
          have HBox2 := Lib.hid (HBox1.out.on hb)
          have HTo := Lib.hid hTo
          have HTn := Lib.hid hTn
          have hs2 := hb.size
          obtain ⟨γ, hγ⟩ : ∃ γ, w1.heap.size = γ := ⟨_, rfl⟩
          rw [hγ] at HTo HTn hs2 ⊢
          clear x0 x1 x2 x3 x4 x5 C4 hb hTo hTn hγ
          have HS2 : Hid (∀ w', Below w2.heap.size w2 w' → (w'.cell? ⟨w.heap.size, 0, none⟩ = some (.int .i64 b.roots) ∧ w'.cell? ⟨w.heap.size, 1, none⟩ = some (.slice A1 n1 c1) ∧ w'.cell? ⟨w.heap.size, 2, none⟩ = some (.slice A2 n2 c2) ∧ w'.cell? ⟨w.heap.size, 3, none⟩ = some (.int .i64 b.edges) ∧ w'.cell? ⟨w.heap.size, 4, none⟩ = some (.slice A4 n4 c4) ∧ w'.cell? ⟨w.heap.size, 5, none⟩ = some (.slice A5 n5 c5))) := Lib.hid (fun w' hq => (HBox2.out.on hq).get)
          have hkD := (Below.refl w2.heap.size w2).drew
          have hwD := hb2.drew
          have hsz2 := hb2.size
          obtain ⟨x0, x1, x2, x3, x4, x5⟩ := HBox2.out.get
          clear hb1 hb2
          go_wp2_with fail
          clear x0 x1 x2 x3 x4 x5
          refine rh.go_begin 10 (fun w' => (w'.cell? ⟨w.heap.size, 0, none⟩ = some (.int .i64 b.roots) ∧ w'.cell? ⟨w.heap.size, 1, none⟩ = some (.slice A1 n1 c1) ∧ w'.cell? ⟨w.heap.size, 2, none⟩ = some (.slice A2 n2 c2) ∧ w'.cell? ⟨w.heap.size, 3, none⟩ = some (.int .i64 b.edges) ∧ w'.cell? ⟨w.heap.size, 4, none⟩ = some (.slice A4 n4 c4) ∧ w'.cell? ⟨w.heap.size, 5, none⟩ = some (.slice A5 n5 c5))) (by kernel_rfl) ?_ (fun hHeld => ?_)
          · ((try dsimp only); exact HS2.out _ (by go_grown))
          refine rh.go_take (i := 0) (v := ?v1) rfl (by kernel_rfl) (fun _ _ _ h => h) (Or.inl ⟨by rfl, ?hy1⟩) (by assumption) ?rest1
          case hy1 => (intro wS hSw; (try dsimp only at hSw); go_simp; try (with_reducible rfl))
          try simp only [Act.put, List.setIfInBounds_toArray, List.set_cons_zero, List.set_cons_succ]
          refine rh.go_take (i := 1) (v := ?v2) rfl (by kernel_rfl) (fun _ _ _ h => h) (Or.inl ⟨by rfl, ?hy2⟩) (by assumption) ?rest2
          case hy2 => (intro wS hSw; (try dsimp only at hSw); go_simp; try (with_reducible rfl))
          try simp only [Act.put, List.setIfInBounds_toArray, List.set_cons_zero, List.set_cons_succ]
          refine rh.go_take (i := 2) (v := ?v3) rfl (by kernel_rfl) (fun _ _ _ h => h) (Or.inl ⟨by rfl, ?hy3⟩) (by assumption) ?rest3
          case hy3 => (intro wS hSw; (try dsimp only at hSw); go_simp; try (with_reducible rfl))
          try simp only [Act.put, List.setIfInBounds_toArray, List.set_cons_zero, List.set_cons_succ]
          refine rh.go_take (i := 3) (v := ?v4) rfl (by kernel_rfl) (fun _ _ _ h => h) (Or.inl ⟨by rfl, ?hy4⟩) (by assumption) ?rest4
          case hy4 => (intro wS hSw; (try dsimp only at hSw); go_simp; try (with_reducible rfl))
          try simp only [Act.put, List.setIfInBounds_toArray, List.set_cons_zero, List.set_cons_succ]
          refine rh.go_take (i := 4) (v := ?v5) rfl (by kernel_rfl) (fun _ _ _ h => h) (Or.inl ⟨by rfl, ?hy5⟩) (by assumption) ?rest5
          case hy5 => (intro wS hSw; (try dsimp only at hSw); go_simp; try (with_reducible rfl))
          try simp only [Act.put, List.setIfInBounds_toArray, List.set_cons_zero, List.set_cons_succ]
          refine rh.go_take (i := 5) (v := ?v6) rfl (by kernel_rfl) (fun _ _ _ h => h) (Or.inl ⟨by rfl, ?hy6⟩) (by assumption) ?rest6
          case hy6 => (intro wS hSw; (try dsimp only at hSw); go_simp; try (with_reducible rfl))
          try simp only [Act.put, List.setIfInBounds_toArray, List.set_cons_zero, List.set_cons_succ]
          refine rh.go_take (i := 7) (v := ?v7) rfl (by kernel_rfl) (fun _ _ _ h => h) (Or.inl ⟨by rfl, ?hy7⟩) (by assumption) ?rest7
          case hy7 => (intro wS hSw; (try dsimp only at hSw); go_simp; try (with_reducible rfl))
          try simp only [Act.put, List.setIfInBounds_toArray, List.set_cons_zero, List.set_cons_succ]
          refine rh.go_next (i := 6) rfl (by kernel_rfl) (fun K2 hK => ?_)
          (go_simp; go_at_call 94; refine (HNw.out _ hwD).mono ?_; rintro e w3 ⟨A', c', rfl, hr3, hb⟩; have hk3 := hkD.trans (hb.mono hkD.size); have hs3 := hk3.size; have HR3 := Lib.hid (rowR_here hr3); clear hb hr3; go_wp2_with fail)
          refine hK.out _ _ ?_ (fun hHeld => ?_)
          · ((try dsimp only); exact HS2.out _ (by go_grown))
          clear hK K2
          try simp only [Act.put, List.setIfInBounds_toArray, List.set_cons_zero, List.set_cons_succ]
          have hw3 := HB2.out.trans (hk3.mono HB2.out.size)
          refine rh.go_next (i := 8) rfl (by kernel_rfl) (fun K2 hK => ?_)
          (go_simp; go_at_call 93; refine (HRt.out A' c' γ w3 hw3 (HTo.out.on hk3) (HTn.out.on hk3) (strsR_at HR3.out) (rowR_nil0 HR3.out)).mono ?_; rintro e w4 ⟨v4, rfl, hr4, hb⟩; obtain ⟨D1, g1, D2, g2, D4, g4, D5, g5, rfl⟩ := hr4.shape; have hk4 := hk3.trans (hb.mono hk3.size); have hs4 := hk4.size; have HR4 := Lib.hid hr4; have HK4 := Lib.hid hk4; have hw34 := hb.size; clear hb hr4; go_wp2_with fail)
          refine hK.out _ _ ?_ (fun hHeld => ?_)
          · ((try dsimp only); exact HS2.out _ (by go_grown))
          clear hK K2
          try simp only [Act.put, List.setIfInBounds_toArray, List.set_cons_zero, List.set_cons_succ]
          have HBx4 := Lib.hid (HBx2.out.on HK4.out)
          have HBox4 := Lib.hid (HBox2.out.on HK4.out)
          obtain ⟨z0, z1, z2, z3, z4, z5⟩ := HBx4.out.get
          have f0 := World.rowIs.frozen HBx4.out 0
          have f1 := World.rowIs.frozen HBx4.out 1
          have f2 := World.rowIs.frozen HBx4.out 2
          have f3 := World.rowIs.frozen HBx4.out 3
          have f4 := World.rowIs.frozen HBx4.out 4
          have f5 := World.rowIs.frozen HBx4.out 5
          refine rh.go_next (i := 9) rfl (by kernel_rfl) (fun K2 hK => ?_)
          go_simp
          refine hK.out _ _ ?_ (fun hHeld => ?_)
          · ((try dsimp only); exact (show BoxAt (sets6 w4 (w.heap.size + 1) (.int .i64 Lb.roots) (.slice D1 Lb.nodes.length g1) (.slice D2 Lb.sites.length g2) (.int .i64 Lb.edges) (.slice D4 Lb.outer.length g4) (.slice D5 Lb.inner.length g5)) w.heap.size 34 (.int .i64 b.roots) (.slice A1 n1 c1) (.slice A2 n2 c2) (.int .i64 b.edges) (.slice A4 n4 c4) (.slice A5 n5 c5) from World.rowIs.of_block HBox4.out (sets6_block _ _ _ _ _ _ (by omega))).get)
          clear hK K2
          try simp only [Act.put, List.setIfInBounds_toArray, List.set_cons_zero, List.set_cons_succ]
          refine rh.go_last rfl (by kernel_rfl) (fun K2 hK => ?_)
          go_simp
          refine hK.out _ _ ?_
          refine NoPanic.normal ?_
          clear hK K2
          have HRZ := Lib.hid (HR4.out.wide (lo' := w.heap.size) (by have := hw3.size; omega) (Nat.le_refl _))
          have HB4 := Lib.hid (HB2.out.trans (HK4.out.mono HB2.out.size))
          go_wp2_with fail
          have hbig := (sets6_big HBx4.out HRZ.out (.int .i64 Lb.roots) (.slice D1 Lb.nodes.length g1) (.slice D2 Lb.sites.length g2) (.int .i64 Lb.edges) (.slice D4 Lb.outer.length g4) (.slice D5 Lb.inner.length g5)).here
          have hbel := sets6_below HB4.out (Nat.le_succ _) (.int .i64 Lb.roots) (.slice D1 Lb.nodes.length g1) (.slice D2 Lb.sites.length g2) (.int .i64 Lb.edges) (.slice D4 Lb.outer.length g4) (.slice D5 Lb.inner.length g5)
          unfold sets6 at hbig hbel
          refine bodyPost_ret (v := .tuple #[.agg #[.int .i64 Lb.roots, .slice D1 Lb.nodes.length g1, .slice D2 Lb.sites.length g2, .int .i64 Lb.edges, .slice D4 Lb.outer.length g4, .slice D5 Lb.inner.length g5], .bool true]) (by simp [results, Try.results31, go_sem, z0, z1, z2, z3, z4, z5]) rfl ⟨_, rfl, hbig, hbel⟩
end Go.Proofs.Ytebmhfkpmcflfaa.joi
