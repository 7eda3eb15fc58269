/- impl.CloseName. -/
import Derived.Test.YtebmhfkpmcflfaaCo
import Derived.Test.YtebmhfkpmcflfaaJoi
namespace Go.Proofs.Ytebmhfkpmcflfaa.coi
open kit bg sg opn strs only hb sig isig un over gn nm inn ht gd im pt marks eqs hc hi hw hn rs br bm bw cf lf ib isa lawb lw cl rt ix tg rl ed tp rtg rta nl dl lo jo joi co gv tm
open Go.RowKit
set_option linter.unusedVariables false
set_option linter.unusedSimpArgs false
set_option maxRecDepth 20000 in
set_option maxHeartbeats 12800000 in
theorem iCo_any (A : Option Addr) (n c : Nat) (cs : List Ctl) (v : Value) (b : Big) (fr : ByteArray) (w : World) (hC : CtlsAt w w.heap.size A n cs) (hn : n ≤ 1048576) (hs : ∀ c ∈ cs, c.name.size ≤ 1048576) (hv : BigAt w w.heap.size v b) (hS : BigS b) (hw : BigW b) (hN : NilV v) (hfs : fr.size ≤ 1048576) :
    Calls Try.prog 33 #[.slice A n c, v, .string fr] w (BigPost (coQ cs b fr) (coR cs b fr) w) := by
  have hNb := hN
  obtain ⟨A1, n1, c1, A2, n2, c2, A4, n4, c4, A5, n5, c5, rfl, h1, h2, h4, h5⟩ := hv
  have hnil := hN.get
  have hbx := (Below.refl w.heap.size w).alloc (Nat.le_refl _) (.cells #[.int .i64 b.roots, .slice A1 n1 c1, .slice A2 n2 c2, .int .i64 b.edges, .slice A4 n4 c4, .slice A5 n5 c5] 34)
  have HBoxI : Hid (BoxAt (w.alloc (.cells #[.int .i64 b.roots, .slice A1 n1 c1, .slice A2 n2 c2, .int .i64 b.edges, .slice A4 n4 c4, .slice A5 n5 c5] 34)) w.heap.size 34 (.int .i64 b.roots) (.slice A1 n1 c1) (.slice A2 n2 c2) (.int .i64 b.edges) (.slice A4 n4 c4) (.slice A5 n5 c5)) := Lib.hid (six_new w _ _ _ _ _ _ _)
  obtain ⟨W0, hW0⟩ : ∃ W, w.alloc (.cells #[.int .i64 b.roots, .slice A1 n1 c1, .slice A2 n2 c2, .int .i64 b.edges, .slice A4 n4 c4, .slice A5 n5 c5] 34) = W := ⟨_, rfl⟩
  have hWz0 : W0.heap.size = w.heap.size + 1 := by rw [← hW0]; simp
  rw [hW0] at hbx HBoxI
  have hb0 := (Below.refl W0.heap.size W0).alloc (Nat.le_refl _) (.cells #[.int .i64 0, .slice none 0 0, .slice none 0 0, .int .i64 0, .slice none 0 0, .slice none 0 0] 34)
  have HBx0 : Hid (BoxAt (W0.alloc (.cells #[.int .i64 0, .slice none 0 0, .slice none 0 0, .int .i64 0, .slice none 0 0, .slice none 0 0] 34)) W0.heap.size 34 (.int .i64 0) (.slice none 0 0) (.slice none 0 0) (.int .i64 0) (.slice none 0 0) (.slice none 0 0)) := Lib.hid (six_new W0 _ _ _ _ _ _ _)
  have HBox := Lib.hid (HBoxI.out.on hb0)
  obtain ⟨W, hW⟩ : ∃ W, W0.alloc (.cells #[.int .i64 0, .slice none 0 0, .slice none 0 0, .int .i64 0, .slice none 0 0, .slice none 0 0] 34) = W := ⟨_, rfl⟩
  have hWz : W.heap.size = w.heap.size + 1 + 1 := by rw [← hW]; simp; exact hWz0
  rw [hW] at hb0 HBx0 HBox
  rw [hWz0] at HBx0
  have HWq0 := Lib.hid hW0
  have HWq := Lib.hid hW
  have HB0 := Lib.hid (hbx.trans (hb0.mono hbx.size))
  have HWz := Lib.hid hWz
  have hVW : BigAt W W.heap.size (.agg #[.int .i64 b.roots, .slice A1 n1 c1, .slice A2 n2 c2, .int .i64 b.edges, .slice A4 n4 c4, .slice A5 n5 c5]) b := BigAt.wide (BigAt.below ⟨_, _, _, _, _, _, _, _, _, _, _, _, rfl, h1, h2, h4, h5⟩ HB0.out) HB0.out.size
  clear hW0 hW hb0 hWz hWz0 hbx HBoxI hN
  have C := isBig_any A n c cs _ b W ((hC.below HB0.out).wide HB0.out.size) hVW hn hs hS hw
  have hsW : w.heap.size + 1 + 1 ≤ W.heap.size := by rw [HWz.out]; exact Nat.le_refl _
  have h4n : n4 ≤ 1048576 := by have := hS.2.2.2.1; rw [h4.strlen] at this; exact this
  have HCf := Lib.hid (fun (Y : World) (hY : Below w.heap.size w Y) => contains_any A4 n4 c4 b.outer fr Y _ (h4.below hY) h4n)
  obtain ⟨x0, x1, x2, x3, x4, x5⟩ := HBox.out.get
  clear hVW
  cases hq : bigB cs b with
  | false =>
    rw [hq] at C
    have HR := Lib.hid (co_no (cs := cs) (b := b) (s := fr) (by unfold coP; rw [hq]; rfl))
    rw [HR.out.1, HR.out.2]
    clear hq hs
    go_enter Try.func33, Try.ntmps33
    go_wp2_with fail
    rw [HWq0.out, HWq.out]
    go_wp2_with fail
    refine C.mono ?_
    rintro e w1 ⟨rfl, hb⟩
    have hb1 := HB0.out.trans (hb.mono HB0.out.size)
    have HBx1 := Lib.hid (HBx0.out.on hb)
    have HBox1 := Lib.hid (HBox.out.on hb)
    have hsz1 : w.heap.size + 1 + 1 ≤ w1.heap.size := Nat.le_trans hsW hb.size
    clear hb C x0 x1 x2 x3 x4 x5
    obtain ⟨z0, z1, z2, z3, z4, z5⟩ := HBx1.out.get
    have f0 := World.rowIs.frozen HBx1.out 0
    have f1 := World.rowIs.frozen HBx1.out 1
    have f2 := World.rowIs.frozen HBx1.out 2
    have f3 := World.rowIs.frozen HBx1.out 3
    have f4 := World.rowIs.frozen HBx1.out 4
    have f5 := World.rowIs.frozen HBx1.out 5
    go_wp2_with fail
    refine bodyPost_ret (v := .tuple #[.agg #[.int .i64 0, .slice none 0 0, .slice none 0 0, .int .i64 0, .slice none 0 0, .slice none 0 0], .bool false]) (by simp [results, Try.results33, go_sem, z0, z1, z2, z3, z4, z5]) rfl ⟨_, rfl, BigR.zero, sets6_below hb1 (by omega) _ _ _ _ _ _⟩
  | true =>
    rw [hq] at C
    cases hf : inB b.outer fr with
    | false =>
      rw [hf] at HCf
      have HR := Lib.hid (co_no (cs := cs) (b := b) (s := fr) (by unfold coP; rw [hf]; simp))
      rw [HR.out.1, HR.out.2]
      clear hq hf hs
      go_enter Try.func33, Try.ntmps33
      go_wp2_with fail
      rw [HWq0.out, HWq.out]
      go_wp2_with fail
      refine C.mono ?_
      rintro e w1 ⟨rfl, hb⟩
      have hb1 := HB0.out.trans (hb.mono HB0.out.size)
      have HBx1 := Lib.hid (HBx0.out.on hb)
      have HBox1 := Lib.hid (HBox.out.on hb)
      have hsz1 : w.heap.size + 1 + 1 ≤ w1.heap.size := Nat.le_trans hsW hb.size
      clear hb C x0 x1 x2 x3 x4 x5
      have C2 := HCf.out w1 hb1
      obtain ⟨x0, x1, x2, x3, x4, x5⟩ := HBox1.out.get
      go_wp2_with fail
      refine C2.mono ?_
      rintro e w2 ⟨rfl, rfl⟩
      clear x0 x1 x2 x3 x4 x5 C2
      obtain ⟨z0, z1, z2, z3, z4, z5⟩ := HBx1.out.get
      have f0 := World.rowIs.frozen HBx1.out 0
      have f1 := World.rowIs.frozen HBx1.out 1
      have f2 := World.rowIs.frozen HBx1.out 2
      have f3 := World.rowIs.frozen HBx1.out 3
      have f4 := World.rowIs.frozen HBx1.out 4
      have f5 := World.rowIs.frozen HBx1.out 5
      go_wp2_with fail
      refine bodyPost_ret (v := .tuple #[.agg #[.int .i64 0, .slice none 0 0, .slice none 0 0, .int .i64 0, .slice none 0 0, .slice none 0 0], .bool false]) (by simp [results, Try.results33, go_sem, z0, z1, z2, z3, z4, z5]) rfl ⟨_, rfl, BigR.zero, sets6_below hb1 (by omega) _ _ _ _ _ _⟩
    | true =>
      rw [hf] at HCf
      have HR := Lib.hid (co_yes (cs := cs) (b := b) (s := fr) (by unfold coP; rw [hq, hf]; rfl))
      have hfm : fr ∈ b.outer := in_of hf
      have hTa := co_tame hq hS fr
      have HGv := Lib.hid (fun (v2 : Value) (Y : World) (hY : Below w.heap.size w Y) (hr : BigR Y w.heap.size Y.heap.size v2 (coB b fr)) => ifb_any A n c cs v2 (coB b fr) w Y hC hY hn hs hr hTa.S hTa.W)
      have hz := sizes_of (big_of hq).2.1
      have HNw := Lib.hid (fun (Y : World) (hY : Below w.heap.size w Y) => nwo_any A4 n4 c4 b.outer fr Y ((h4.below hY).wide hY.size) h4n hnil.2.2.1)
      have HLl : Hid ((lessL b.outer fr).length ≤ 16) := Lib.hid (by have := less_le b.outer fr; omega)
      have HRt := Lib.hid (fun (A' : Option Addr) (c' : Nat) (γ : Nat) (Y : World) (hY : Below w.heap.size w Y) (ho : TwoAt Y γ ⟨0, fr⟩) (hn : TwoAt Y (γ + 1) ⟨b.edges, noS⟩) (hs : SR Y Y.heap.size A' (lessL b.outer fr).length ((lessL b.outer fr).map Value.string)) (h0 : A' = none → c' = 0) =>
        ret_any 162 #[.pointer (some ⟨γ, 0, none⟩), .pointer (some ⟨γ + 1, 0, none⟩)] (insF ⟨0, fr⟩ ⟨b.edges, noS⟩) cs (.agg #[.int .i64 b.roots, .slice A1 n1 c1, .slice A2 n2 c2, .int .i64 b.edges, .slice A4 n4 c4, .slice A5 n5 c5]) b (b.edges + 1) A' (lessL b.outer fr).length c' (lessL b.outer fr) Y (enters_of Try.func162 (by kernel_rfl) rfl)
          (fun l Z _ hZ => by
            rw [show (#[tgV (tgOf b l)] ++ #[.pointer (some ⟨γ, 0, none⟩), .pointer (some ⟨γ + 1, 0, none⟩)] : Array Value) = #[tgV (tgOf b l), .pointer (some ⟨γ, 0, none⟩), .pointer (some ⟨γ + 1, 0, none⟩)] from rfl]
            exact ins1_any ⟨0, fr⟩ ⟨b.edges, noS⟩ (tgOf b l) γ (γ + 1) Z (ho.on hZ) (hn.on hZ))
          (BigAt.wide (BigAt.below ⟨_, _, _, _, _, _, _, _, _, _, _, _, rfl, h1, h2, h4, h5⟩ hY) hY.size) hS hNb hq hs (by have := HLl.out; omega) h0 (by omega))
      rw [co_eq hq hfm] at HRt
      obtain ⟨Mb, hMb⟩ : ∃ Mb, coB b fr = Mb := ⟨_, rfl⟩
      rw [hMb] at HRt HGv HR
      obtain ⟨Lb, hLb⟩ : ∃ Lb, giveR cs Mb = Lb := ⟨_, rfl⟩
      obtain ⟨q4, hq4⟩ : ∃ q4, bigB cs Mb = q4 := ⟨_, rfl⟩
      rw [HR.out.1, HR.out.2, hLb, hq4]
      rw [hLb, hq4] at HGv
      have HIs := Lib.hid (fun (Y : World) => ins_any ⟨0, fr⟩ ⟨b.edges, noS⟩ Y)
      obtain ⟨he0, he1⟩ : 0 ≤ b.edges ∧ b.edges ≤ 8 := by omega
      clear hLb hq4 hMb hTa hq hf hz hS hw hNb hnil h1 h2 h4 h5 hfm hC hn hs HR
      go_enter Try.func33, Try.ntmps33
      go_wp2_with fail
      rw [HWq0.out, HWq.out]
      go_wp2_with fail
      refine C.mono ?_
      rintro e w1 ⟨rfl, hb⟩
      have hb1 := HB0.out.trans (hb.mono HB0.out.size)
      have HBx1 := Lib.hid (HBx0.out.on hb)
      have HBox1 := Lib.hid (HBox.out.on hb)
      have hsz1 : w.heap.size + 1 + 1 ≤ w1.heap.size := Nat.le_trans hsW hb.size
      clear hb C x0 x1 x2 x3 x4 x5
      have C2 := HCf.out w1 hb1
      have C4 := HIs.out w1
      dsimp only [tgV] at C4
      obtain ⟨x0, x1, x2, x3, x4, x5⟩ := HBox1.out.get
      go_wp2_with fail
      refine C2.mono ?_
      rintro e w2 ⟨rfl, rfl⟩
      go_wp2_with fail
      refine C4.mono ?_
      rintro e w2 ⟨rfl, hTo, hTn, hb⟩
      have hb2 := hb1.trans (hb.mono hb1.size)
      have HB2 := Lib.hid hb2
      have HBx2 := Lib.hid (HBx1.out.on hb)
      have HBox2 := Lib.hid (HBox1.out.on hb)
      have HTo := Lib.hid hTo
      have HTn := Lib.hid hTn
      have hs2 := hb.size
      obtain ⟨γ, hγ⟩ : ∃ γ, w1.heap.size = γ := ⟨_, rfl⟩
      rw [hγ] at HTo HTn hs2 ⊢
      clear x0 x1 x2 x3 x4 x5 C2 C4 hb hTo hTn hγ
      have HS2 : Hid (∀ w', Below w2.heap.size w2 w' → (w'.cell? ⟨w.heap.size, 0, none⟩ = some (.int .i64 b.roots) ∧ w'.cell? ⟨w.heap.size, 1, none⟩ = some (.slice A1 n1 c1) ∧ w'.cell? ⟨w.heap.size, 2, none⟩ = some (.slice A2 n2 c2) ∧ w'.cell? ⟨w.heap.size, 3, none⟩ = some (.int .i64 b.edges) ∧ w'.cell? ⟨w.heap.size, 4, none⟩ = some (.slice A4 n4 c4) ∧ w'.cell? ⟨w.heap.size, 5, none⟩ = some (.slice A5 n5 c5))) := Lib.hid (fun w' hq => (HBox2.out.on hq).get)
      have hkD := (Below.refl w2.heap.size w2).drew
      have hwD := hb2.drew
      have hsz2 := hb2.size
      obtain ⟨x0, x1, x2, x3, x4, x5⟩ := HBox2.out.get
      clear hb1 hb2
      go_wp2_with fail
      clear x0 x1 x2 x3 x4 x5
      refine rh.go_begin 15 (fun w' => (w'.cell? ⟨w.heap.size, 0, none⟩ = some (.int .i64 b.roots) ∧ w'.cell? ⟨w.heap.size, 1, none⟩ = some (.slice A1 n1 c1) ∧ w'.cell? ⟨w.heap.size, 2, none⟩ = some (.slice A2 n2 c2) ∧ w'.cell? ⟨w.heap.size, 3, none⟩ = some (.int .i64 b.edges) ∧ w'.cell? ⟨w.heap.size, 4, none⟩ = some (.slice A4 n4 c4) ∧ w'.cell? ⟨w.heap.size, 5, none⟩ = some (.slice A5 n5 c5))) (by kernel_rfl) ?_ (fun hHeld => ?_)
      · ((try dsimp only); exact HS2.out _ (by go_grown))
      refine rh.go_take (i := 0) (v := ?v1) rfl (by kernel_rfl) (fun _ _ _ h => h) (Or.inl ⟨by rfl, ?hy1⟩) (by assumption) ?rest1
      case hy1 => (intro wS hSw; (try dsimp only at hSw); go_simp; try (with_reducible rfl))
      try simp only [Act.put, List.setIfInBounds_toArray, List.set_cons_zero, List.set_cons_succ]
      refine rh.go_take (i := 1) (v := ?v2) rfl (by kernel_rfl) (fun _ _ _ h => h) (Or.inl ⟨by rfl, ?hy2⟩) (by assumption) ?rest2
      case hy2 => (intro wS hSw; (try dsimp only at hSw); go_simp; try (with_reducible rfl))
      try simp only [Act.put, List.setIfInBounds_toArray, List.set_cons_zero, List.set_cons_succ]
      refine rh.go_take (i := 2) (v := ?v3) rfl (by kernel_rfl) (fun _ _ _ h => h) (Or.inl ⟨by rfl, ?hy3⟩) (by assumption) ?rest3
      case hy3 => (intro wS hSw; (try dsimp only at hSw); go_simp; try (with_reducible rfl))
      try simp only [Act.put, List.setIfInBounds_toArray, List.set_cons_zero, List.set_cons_succ]
      refine rh.go_take (i := 3) (v := ?v4) rfl (by kernel_rfl) (fun _ _ _ h => h) (Or.inl ⟨by rfl, ?hy4⟩) (by assumption) ?rest4
      case hy4 => (intro wS hSw; (try dsimp only at hSw); go_simp; try (with_reducible rfl))
      try simp only [Act.put, List.setIfInBounds_toArray, List.set_cons_zero, List.set_cons_succ]
      refine rh.go_take (i := 4) (v := ?v5) rfl (by kernel_rfl) (fun _ _ _ h => h) (Or.inl ⟨by rfl, ?hy5⟩) (by assumption) ?rest5
      case hy5 => (intro wS hSw; (try dsimp only at hSw); go_simp; try (with_reducible rfl))
      try simp only [Act.put, List.setIfInBounds_toArray, List.set_cons_zero, List.set_cons_succ]
      refine rh.go_take (i := 5) (v := ?v6) rfl (by kernel_rfl) (fun _ _ _ h => h) (Or.inl ⟨by rfl, ?hy6⟩) (by assumption) ?rest6
      case hy6 => (intro wS hSw; (try dsimp only at hSw); go_simp; try (with_reducible rfl))
      try simp only [Act.put, List.setIfInBounds_toArray, List.set_cons_zero, List.set_cons_succ]
      refine rh.go_take (i := 6) (v := ?v7) rfl (by kernel_rfl) (fun _ _ _ h => h) (Or.inl ⟨by rfl, ?hy7⟩) (by assumption) ?rest7
      case hy7 => (intro wS hSw; (try dsimp only at hSw); go_simp; try (with_reducible rfl))
      try simp only [Act.put, List.setIfInBounds_toArray, List.set_cons_zero, List.set_cons_succ]
      refine rh.go_take (i := 7) (v := ?v8) rfl (by kernel_rfl) (fun _ _ _ h => h) (Or.inl ⟨by rfl, ?hy8⟩) (by assumption) ?rest8
      case hy8 => (intro wS hSw; (try dsimp only at hSw); go_simp; try (with_reducible rfl))
      try simp only [Act.put, List.setIfInBounds_toArray, List.set_cons_zero, List.set_cons_succ]
      refine rh.go_take (i := 9) (v := ?v9) rfl (by kernel_rfl) (fun _ _ _ h => h) (Or.inl ⟨by rfl, ?hy9⟩) (by assumption) ?rest9
      case hy9 => (intro wS hSw; (try dsimp only at hSw); go_simp; try (with_reducible rfl))
      try simp only [Act.put, List.setIfInBounds_toArray, List.set_cons_zero, List.set_cons_succ]
      rw [show IntKind.i64.wrap (b.edges + 1) = b.edges + 1 from IntWalk.i64_in _ (by omega)]
      refine rh.go_next (i := 8) rfl (by kernel_rfl) (fun K2 hK => ?_)
      (go_simp; go_at_call 94; refine (HNw.out _ hwD).mono ?_; rintro e w3 ⟨A', c', rfl, hr3, hb⟩; have hk3 := hkD.trans (hb.mono hkD.size); have hs3 := hk3.size; have HR3 := Lib.hid (rowR_here hr3); clear hb hr3; go_wp2_with fail)
      refine hK.out _ _ ?_ (fun hHeld => ?_)
      · ((try dsimp only); exact HS2.out _ (by go_grown))
      clear hK K2
      try simp only [Act.put, List.setIfInBounds_toArray, List.set_cons_zero, List.set_cons_succ]
      have hw3 := HB2.out.trans (hk3.mono HB2.out.size)
      refine rh.go_next (i := 10) rfl (by kernel_rfl) (fun K2 hK => ?_)
      (go_simp; go_at_call 93; refine (HRt.out A' c' γ w3 hw3 (HTo.out.on hk3) (HTn.out.on hk3) (strsR_at HR3.out) (rowR_nil0 HR3.out)).mono ?_; rintro e w4 ⟨v4, rfl, hr4, hb⟩; have hk4 := hk3.trans (hb.mono hk3.size); have hs4 := hk4.size; have HR4 := Lib.hid hr4; clear hb hr4; go_wp2_with fail)
      refine hK.out _ _ ?_ (fun hHeld => ?_)
      · ((try dsimp only); exact HS2.out _ (by go_grown))
      clear hK K2
      try simp only [Act.put, List.setIfInBounds_toArray, List.set_cons_zero, List.set_cons_succ]
      have hw4 := HB2.out.trans (hk4.mono HB2.out.size)
      refine rh.go_next (i := 11) rfl (by kernel_rfl) (fun K2 hK => ?_)
      (go_simp; go_at_call 79; refine (HGv.out v4 w4 hw4 (HR4.out.wide hw3.size (Nat.le_refl _))).mono ?_; rintro e w5 ⟨v5, rfl, hr5, hb⟩; obtain ⟨D1, g1, D2, g2, D4, g4, D5, g5, rfl⟩ := hr5.shape; have hk5 := hk4.trans (hb.mono hk4.size); have hs5 := hk5.size; have HR5 := Lib.hid hr5; have HK5 := Lib.hid hk5; clear hb hr5; go_wp2_with fail)
      refine hK.out _ _ ?_ (fun hHeld => ?_)
      · ((try dsimp only); exact HS2.out _ (by go_grown))
      clear hK K2
      try simp only [Act.put, List.setIfInBounds_toArray, List.set_cons_zero, List.set_cons_succ]
      have HBx4 := Lib.hid (HBx2.out.on HK5.out)
      have HBox4 := Lib.hid (HBox2.out.on HK5.out)
      obtain ⟨z0, z1, z2, z3, z4, z5⟩ := HBx4.out.get
      have f0 := World.rowIs.frozen HBx4.out 0
      have f1 := World.rowIs.frozen HBx4.out 1
      have f2 := World.rowIs.frozen HBx4.out 2
      have f3 := World.rowIs.frozen HBx4.out 3
      have f4 := World.rowIs.frozen HBx4.out 4
      have f5 := World.rowIs.frozen HBx4.out 5
      refine rh.go_take (i := 12) (v := ?v10) rfl (by kernel_rfl) (fun _ _ _ h => h) (Or.inl ⟨by rfl, ?hy10⟩) (by assumption) ?rest10
      case hy10 => (intro wS hSw; (try dsimp only at hSw); go_simp; try (with_reducible rfl))
      try simp only [Act.put, List.setIfInBounds_toArray, List.set_cons_zero, List.set_cons_succ]
      refine rh.go_take (i := 13) (v := ?v11) rfl (by kernel_rfl) (fun _ _ _ h => h) (Or.inl ⟨by rfl, ?hy11⟩) (by assumption) ?rest11
      case hy11 => (intro wS hSw; (try dsimp only at hSw); go_simp; try (with_reducible rfl))
      try simp only [Act.put, List.setIfInBounds_toArray, List.set_cons_zero, List.set_cons_succ]
      refine rh.go_next (i := 14) rfl (by kernel_rfl) (fun K2 hK => ?_)
      go_simp
      refine hK.out _ _ ?_ (fun hHeld => ?_)
      · ((try dsimp only); exact (show BoxAt (sets6 w5 (w.heap.size + 1) (.int .i64 Lb.roots) (.slice D1 Lb.nodes.length g1) (.slice D2 Lb.sites.length g2) (.int .i64 Lb.edges) (.slice D4 Lb.outer.length g4) (.slice D5 Lb.inner.length g5)) w.heap.size 34 (.int .i64 b.roots) (.slice A1 n1 c1) (.slice A2 n2 c2) (.int .i64 b.edges) (.slice A4 n4 c4) (.slice A5 n5 c5) from World.rowIs.of_block HBox4.out (sets6_block _ _ _ _ _ _ (by omega))).get)
      clear hK K2
      try simp only [Act.put, List.setIfInBounds_toArray, List.set_cons_zero, List.set_cons_succ]
      refine rh.go_last rfl (by kernel_rfl) (fun K2 hK => ?_)
      go_simp
      refine hK.out _ _ ?_
      refine NoPanic.normal ?_
      clear hK K2
      have HB4 := Lib.hid (HB2.out.trans (HK5.out.mono HB2.out.size))
      go_wp2_with fail
      have hbig := (sets6_big HBx4.out HR5.out (.int .i64 Lb.roots) (.slice D1 Lb.nodes.length g1) (.slice D2 Lb.sites.length g2) (.int .i64 Lb.edges) (.slice D4 Lb.outer.length g4) (.slice D5 Lb.inner.length g5)).here
      have hbel := sets6_below HB4.out (Nat.le_succ _) (.int .i64 Lb.roots) (.slice D1 Lb.nodes.length g1) (.slice D2 Lb.sites.length g2) (.int .i64 Lb.edges) (.slice D4 Lb.outer.length g4) (.slice D5 Lb.inner.length g5)
      unfold sets6 at hbig hbel
      refine bodyPost_ret (v := .tuple #[.agg #[.int .i64 Lb.roots, .slice D1 Lb.nodes.length g1, .slice D2 Lb.sites.length g2, .int .i64 Lb.edges, .slice D4 Lb.outer.length g4, .slice D5 Lb.inner.length g5], .bool q4]) (by simp [results, Try.results33, go_sem, z0, z1, z2, z3, z4, z5]) rfl ⟨_, rfl, hbig, hbel⟩
end Go.Proofs.Ytebmhfkpmcflfaa.coi
