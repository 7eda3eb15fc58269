/- spec.CloseName. -/
import Derived.Test.YtebmhfkpmcflfaaCoi
import Derived.Test.YtebmhfkpmcflfaaJos
namespace Go.Proofs.Ytebmhfkpmcflfaa.cos
open kit bg sg opn strs only hb sig isig un over gn nm inn ht gd im pt marks eqs hc hi hw hn rs br bm bw cf lf ib isa lawb lw cl rt ix tg rl ed tp rtg rta nl dl lo jo joi jos co gv tm ek wk rk rn rnm tp mb sb wb
open Go.RowKit
set_option linter.unusedVariables false
set_option linter.unusedSimpArgs false
set_option maxRecDepth 20000 in
set_option maxHeartbeats 12800000 in
theorem sCo_any (A : Option Addr) (n c : Nat) (cs : List Ctl) (v : Value) (b : Big) (fr : ByteArray) (w : World) (hC : CtlsAt w w.heap.size A n cs) (hn : n ≤ 1048576) (hs : ∀ c ∈ cs, c.name.size ≤ 1048576) (hv : BigAt w w.heap.size v b) (hS : BigS b) (hw : BigW b) (hN : NilV v) (hfs : fr.size ≤ 1048576) :
    Calls Try.prog 32 #[.slice A n c, v, .string fr] w (BigPost (coQ cs b fr) (coR cs b fr) w) := by
  have hNb := hN
  obtain ⟨A1, n1, c1, A2, n2, c2, A4, n4, c4, A5, n5, c5, rfl, h1, h2, h4, h5⟩ := hv
  have hnil := hN.get
  have hbx := (Below.refl w.heap.size w).alloc (Nat.le_refl _) (.cells #[.int .i64 b.roots, .slice A1 n1 c1, .slice A2 n2 c2, .int .i64 b.edges, .slice A4 n4 c4, .slice A5 n5 c5] 34)
  have HBoxI : Hid (BoxAt (w.alloc (.cells #[.int .i64 b.roots, .slice A1 n1 c1, .slice A2 n2 c2, .int .i64 b.edges, .slice A4 n4 c4, .slice A5 n5 c5] 34)) w.heap.size 34 (.int .i64 b.roots) (.slice A1 n1 c1) (.slice A2 n2 c2) (.int .i64 b.edges) (.slice A4 n4 c4) (.slice A5 n5 c5)) := Lib.hid (six_new w _ _ _ _ _ _ _)
  obtain ⟨W0, hW0⟩ : ∃ W, w.alloc (.cells #[.int .i64 b.roots, .slice A1 n1 c1, .slice A2 n2 c2, .int .i64 b.edges, .slice A4 n4 c4, .slice A5 n5 c5] 34) = W := ⟨_, rfl⟩
  have hWz0 : W0.heap.size = w.heap.size + 1 := by rw [← hW0]; simp
  rw [hW0] at hbx HBoxI
  have hb0 := (Below.refl W0.heap.size W0).alloc (Nat.le_refl _) (.cells #[.int .i64 0, .slice none 0 0, .slice none 0 0, .int .i64 0, .slice none 0 0, .slice none 0 0] 34)
  have HBx0 : Hid (BoxAt (W0.alloc (.cells #[.int .i64 0, .slice none 0 0, .slice none 0 0, .int .i64 0, .slice none 0 0, .slice none 0 0] 34)) W0.heap.size 34 (.int .i64 0) (.slice none 0 0) (.slice none 0 0) (.int .i64 0) (.slice none 0 0) (.slice none 0 0)) := Lib.hid (six_new W0 _ _ _ _ _ _ _)
  have HBox := Lib.hid (HBoxI.out.on hb0)
  obtain ⟨W, hW⟩ : ∃ W, W0.alloc (.cells #[.int .i64 0, .slice none 0 0, .slice none 0 0, .int .i64 0, .slice none 0 0, .slice none 0 0] 34) = W := ⟨_, rfl⟩
  have hWz : W.heap.size = w.heap.size + 1 + 1 := by rw [← hW]; simp; exact hWz0
  rw [hW] at hb0 HBx0 HBox
  rw [hWz0] at HBx0
  have HWq0 := Lib.hid hW0
  have HWq := Lib.hid hW
  have HB0 := Lib.hid (hbx.trans (hb0.mono hbx.size))
  have HWz := Lib.hid hWz
  have hVW : BigAt W W.heap.size (.agg #[.int .i64 b.roots, .slice A1 n1 c1, .slice A2 n2 c2, .int .i64 b.edges, .slice A4 n4 c4, .slice A5 n5 c5]) b := BigAt.wide (BigAt.below ⟨_, _, _, _, _, _, _, _, _, _, _, _, rfl, h1, h2, h4, h5⟩ HB0.out) HB0.out.size
  clear hW0 hW hb0 hWz hWz0 hbx HBoxI hN
  have C := l2Good_any A n c cs _ b W ((hC.below HB0.out).wide HB0.out.size) hVW hn hs hS hw
  have hsW : w.heap.size + 1 + 1 ≤ W.heap.size := by rw [HWz.out]; exact Nat.le_refl _
  have h4n : n4 ≤ 1048576 := by have := hS.2.2.2.1; rw [h4.strlen] at this; exact this
  have C2 := l2At_any A4 n4 c4 b.outer fr W _ (h4.below HB0.out) h4n
  obtain ⟨x0, x1, x2, x3, x4, x5⟩ := HBox.out.get
  clear hVW
  cases hq : bigB cs b with
  | false =>
    rw [hq] at C
    have hix := ixF_in b.outer fr
    obtain ⟨r, hr⟩ : ∃ r, ixF b.outer fr = r := ⟨_, rfl⟩
    rw [hr] at C2 hix
    have HR := Lib.hid (co_no (cs := cs) (b := b) (s := fr) (by unfold coP; rw [hq]; rfl))
    rw [HR.out.1, HR.out.2]
    clear hq hs hr
    go_enter Try.func32, Try.ntmps32
    go_wp2_with fail
    rw [HWq0.out, HWq.out]
    go_wp2_with fail
    refine C2.mono ?_
    rintro e w0 ⟨rfl, rfl⟩
    go_wp2_with fail
    refine C.mono ?_
    rintro e w1 ⟨rfl, hb⟩
    have hb1 := HB0.out.trans (hb.mono HB0.out.size)
    have HBx1 := Lib.hid (HBx0.out.on hb)
    have HBox1 := Lib.hid (HBox.out.on hb)
    have hsz1 : w.heap.size + 1 + 1 ≤ w1.heap.size := Nat.le_trans hsW hb.size
    clear hb C C2 x0 x1 x2 x3 x4 x5
    obtain ⟨z0, z1, z2, z3, z4, z5⟩ := HBx1.out.get
    have f0 := World.rowIs.frozen HBx1.out 0
    have f1 := World.rowIs.frozen HBx1.out 1
    have f2 := World.rowIs.frozen HBx1.out 2
    have f3 := World.rowIs.frozen HBx1.out 3
    have f4 := World.rowIs.frozen HBx1.out 4
    have f5 := World.rowIs.frozen HBx1.out 5
    go_wp2_with fail
    refine bodyPost_ret (v := .tuple #[.agg #[.int .i64 0, .slice none 0 0, .slice none 0 0, .int .i64 0, .slice none 0 0, .slice none 0 0], .bool false]) (by simp [results, Try.results32, go_sem, z0, z1, z2, z3, z4, z5]) rfl ⟨_, rfl, BigR.zero, sets6_below hb1 (by omega) _ _ _ _ _ _⟩
  | true =>
    rw [hq] at C
    rcases ixF_cases b.outer fr with ⟨hix, hno⟩ | ⟨j, hix, hjs, -⟩
    · rw [hix] at C2
      have hf : inB b.outer fr = false := in_no hno
      have HR := Lib.hid (co_no (cs := cs) (b := b) (s := fr) (by unfold coP; rw [hf]; simp))
      rw [HR.out.1, HR.out.2]
      clear hq hf hs hix hno
      go_enter Try.func32, Try.ntmps32
      go_wp2_with fail
      rw [HWq0.out, HWq.out]
      go_wp2_with fail
      refine C2.mono ?_
      rintro e w0 ⟨rfl, rfl⟩
      go_wp2_with fail
      refine C.mono ?_
      rintro e w1 ⟨rfl, hb⟩
      have hb1 := HB0.out.trans (hb.mono HB0.out.size)
      have HBx1 := Lib.hid (HBx0.out.on hb)
      have HBox1 := Lib.hid (HBox.out.on hb)
      have hsz1 : w.heap.size + 1 + 1 ≤ w1.heap.size := Nat.le_trans hsW hb.size
      clear hb C C2 x0 x1 x2 x3 x4 x5
      obtain ⟨z0, z1, z2, z3, z4, z5⟩ := HBx1.out.get
      have f0 := World.rowIs.frozen HBx1.out 0
      have f1 := World.rowIs.frozen HBx1.out 1
      have f2 := World.rowIs.frozen HBx1.out 2
      have f3 := World.rowIs.frozen HBx1.out 3
      have f4 := World.rowIs.frozen HBx1.out 4
      have f5 := World.rowIs.frozen HBx1.out 5
      go_wp2_with fail
      refine bodyPost_ret (v := .tuple #[.agg #[.int .i64 0, .slice none 0 0, .slice none 0 0, .int .i64 0, .slice none 0 0, .slice none 0 0], .bool false]) (by simp [results, Try.results32, go_sem, z0, z1, z2, z3, z4, z5]) rfl ⟨_, rfl, BigR.zero, sets6_below hb1 (by omega) _ _ _ _ _ _⟩
    · rw [hix] at C2
      have hf : inB b.outer fr = true := in_yes (List.mem_of_getElem? hjs)
      have HR := Lib.hid (co_yes (cs := cs) (b := b) (s := fr) (by unfold coP; rw [hq, hf]; rfl))
      have hTa := co_tame hq hS fr
      have HGv := Lib.hid (fun (v2 : Value) (Y : World) (hY : Below w.heap.size w Y) (hr : BigR Y w.heap.size Y.heap.size v2 (coB b fr)) => give_any A n c cs v2 (coB b fr) w Y hC hY hn hs hr hTa.S hTa.W)
      have hz := sizes_of (big_of hq).2.1
      have hjl := (List.getElem?_eq_some_iff.1 hjs).1
      have hl4 : b.outer.length = n4 := h4.strlen
      have hjn : j < n4 := by omega
      have hn16 : n4 ≤ 16 := by omega
      obtain ⟨E, hE⟩ : ∃ E : Nat, b.edges = E := ⟨b.edges.toNat, by omega⟩
      have hE8 : E ≤ 8 := by omega
      have HNw := Lib.hid (fun (Y : World) (hY : Below w.heap.size w Y) => less_any A4 n4 c4 b.outer fr Y ((h4.below hY).wide hY.size) h4n)
      have HEd := Lib.hid (show ∀ Y : World, Calls Try.prog 95 #[.int .i64 0, .int .i64 b.edges] Y fun e w' => ∃ v, e = .returned v ∧ w'.ownsRow Y.heap.size 3 1 v E ((coT b fr 0).map (Value.int .i64)) ∧ Below Y.heap.size Y w' from fun Y => by
        have h := edg_any 0 E Y (by omega) (by omega)
        rw [← hE] at h
        rw [show coT b fr 0 = seqF 0 E from by unfold coT; rw [hE]; simp]
        exact h)
      have hll := less_le b.outer fr
      rw [hl4] at hll
      have HRl := Lib.hid (fun (Ak : Option Addr) (nk ck : Nat) (Ao : Option Addr) (no co : Nat) (Y : World) (hY : Below w.heap.size w Y) (hk : IntsAt Y Y.heap.size Ak nk (coT b fr b.outer.length)) (hnk : nk = E + n4) (hou : SR Y Y.heap.size Ao no ((lessL b.outer fr).map Value.string)) (hno : no ≤ 16) (h0o : Ao = none → co = 0) =>
        rel_any (.agg #[.int .i64 b.roots, .slice A1 n1 c1, .slice A2 n2 c2, .int .i64 b.edges, .slice A4 n4 c4, .slice A5 n5 c5]) cs b Ak nk ck (coT b fr b.outer.length) (b.edges + 1) Ao no co (lessL b.outer fr) Y (BigAt.wide (BigAt.below ⟨_, _, _, _, _, _, _, _, _, _, _, _, rfl, h1, h2, h4, h5⟩ hY) hY.size) hNb hq hk (by omega) (by omega) hou (by omega) h0o)
      obtain ⟨Lb, hLb⟩ : ∃ Lb, giveR cs (coB b fr) = Lb := ⟨_, rfl⟩
      obtain ⟨q4, hq4⟩ : ∃ q4, bigB cs (coB b fr) = q4 := ⟨_, rfl⟩
      rw [HR.out.1, HR.out.2, hLb, hq4]
      rw [hLb, hq4] at HGv
      have HIx := Lib.hid hix
      have HJs := Lib.hid hjs
      have HL4 := Lib.hid hl4
      have HSr := Lib.hid h4
      have HEe := Lib.hid hE
      clear hLb hq4 hTa hq hf hz hS hw hNb hnil h1 h2 h5 hC hn hs HR hix hjs hjl hl4 hE
      go_enter Try.func32, Try.ntmps32
      go_wp2_with fail
      rw [HWq0.out, HWq.out]
      go_wp2_with fail
      refine C2.mono ?_
      rintro e w0 ⟨rfl, rfl⟩
      go_wp2_with fail
      refine C.mono ?_
      rintro e w1 ⟨rfl, hb⟩
      have hb1 := HB0.out.trans (hb.mono HB0.out.size)
      have HBx1 := Lib.hid (HBx0.out.on hb)
      have HBox1 := Lib.hid (HBox.out.on hb)
      have hsz1 : w.heap.size + 1 + 1 ≤ w1.heap.size := Nat.le_trans hsW hb.size
      clear hb C C2 x0 x1 x2 x3 x4 x5
      have hb2 := hb1
      have HB2 := Lib.hid hb1
      have HS2 : Hid (∀ w', Below w1.heap.size w1 w' → (w'.cell? ⟨w.heap.size, 0, none⟩ = some (.int .i64 b.roots) ∧ w'.cell? ⟨w.heap.size, 1, none⟩ = some (.slice A1 n1 c1) ∧ w'.cell? ⟨w.heap.size, 2, none⟩ = some (.slice A2 n2 c2) ∧ w'.cell? ⟨w.heap.size, 3, none⟩ = some (.int .i64 b.edges) ∧ w'.cell? ⟨w.heap.size, 4, none⟩ = some (.slice A4 n4 c4) ∧ w'.cell? ⟨w.heap.size, 5, none⟩ = some (.slice A5 n5 c5))) := Lib.hid (fun w' hq => (HBox1.out.on hq).get)
      have hkD := (Below.refl w1.heap.size w1).drew
      have hwD := hb2.drew
      obtain ⟨x0, x1, x2, x3, x4, x5⟩ := HBox1.out.get
      clear hb1 hb2
      go_wp2_with fail
      clear x0 x1 x2 x3 x4 x5
      refine rh.go_begin 8 (fun w' => (w'.cell? ⟨w.heap.size, 0, none⟩ = some (.int .i64 b.roots) ∧ w'.cell? ⟨w.heap.size, 1, none⟩ = some (.slice A1 n1 c1) ∧ w'.cell? ⟨w.heap.size, 2, none⟩ = some (.slice A2 n2 c2) ∧ w'.cell? ⟨w.heap.size, 3, none⟩ = some (.int .i64 b.edges) ∧ w'.cell? ⟨w.heap.size, 4, none⟩ = some (.slice A4 n4 c4) ∧ w'.cell? ⟨w.heap.size, 5, none⟩ = some (.slice A5 n5 c5))) (by kernel_rfl) ?_ (fun hHeld => ?_)
      · ((try dsimp only); exact HS2.out _ (by go_grown))
      refine rh.go_take (i := 0) (v := ?v1) rfl (by kernel_rfl) (fun _ _ _ h => h) (Or.inl ⟨by rfl, ?hy1⟩) (by assumption) ?rest1
      case hy1 => (intro wS hSw; (try dsimp only at hSw); go_simp; try (with_reducible rfl))
      try simp only [Act.put, List.setIfInBounds_toArray, List.set_cons_zero, List.set_cons_succ]
      refine rh.go_take (i := 1) (v := ?v2) rfl (by kernel_rfl) (fun _ _ _ h => h) (Or.inl ⟨by rfl, ?hy2⟩) (by assumption) ?rest2
      case hy2 => (intro wS hSw; (try dsimp only at hSw); go_simp; try (with_reducible rfl))
      try simp only [Act.put, List.setIfInBounds_toArray, List.set_cons_zero, List.set_cons_succ]
      refine rh.go_take (i := 2) (v := ?v3) rfl (by kernel_rfl) (fun _ _ _ h => h) (Or.inl ⟨by rfl, ?hy3⟩) (by assumption) ?rest3
      case hy3 => (intro wS hSw; (try dsimp only at hSw); go_simp; try (with_reducible rfl))
      try simp only [Act.put, List.setIfInBounds_toArray, List.set_cons_zero, List.set_cons_succ]
      refine rh.go_take (i := 4) (v := ?v4) rfl (by kernel_rfl) (fun _ _ _ h => h) (Or.inl ⟨by rfl, ?hy4⟩) (by assumption) ?rest4
      case hy4 => (intro wS hSw; (try dsimp only at hSw); go_simp; try (with_reducible rfl))
      try simp only [Act.put, List.setIfInBounds_toArray, List.set_cons_zero, List.set_cons_succ]
      refine rh.go_take (i := 5) (v := ?v5) rfl (by kernel_rfl) (fun _ _ _ h => h) (Or.inl ⟨by rfl, ?hy5⟩) (by assumption) ?rest5
      case hy5 => (intro wS hSw; (try dsimp only at hSw); go_simp; try (with_reducible rfl))
      try simp only [Act.put, List.setIfInBounds_toArray, List.set_cons_zero, List.set_cons_succ]
      refine rh.go_next (i := 3) rfl (by kernel_rfl) (fun K2 hK => ?_)
      (go_simp; go_at_call 90; refine (HNw.out _ hwD).mono ?_; rintro e w3 ⟨A', c', rfl, hr3, hb⟩; have hk3 := hkD.trans (hb.mono hkD.size); have hs3 := hk3.size; have HR3 := Lib.hid hr3; clear hb hr3; go_wp2_with fail)
      refine hK.out _ _ ?_ (fun hHeld => ?_)
      · ((try dsimp only); exact HS2.out _ (by go_grown))
      clear hK K2
      try simp only [Act.put, List.setIfInBounds_toArray, List.set_cons_zero, List.set_cons_succ]
      refine rh.go_next (i := 6) rfl (by kernel_rfl) (fun K2 hK => ?_)
      (go_simp; go_at_call 95; refine (HEd.out w3).mono ?_; rintro e w4 ⟨v4, rfl, hr4, hb⟩; have hk4 := hk3.trans (hb.mono hk3.size); have hs4 := hk4.size; have h34 := hb.size; have HB34 := Lib.hid hb; have HR4 := Lib.hid hr4; have HRo := Lib.hid (HR3.out.on hb); have HK4 := Lib.hid hk4; clear hb hr4; go_wp2_with fail)
      refine hK.out _ _ ?_ (fun hHeld => ?_)
      · ((try dsimp only); exact HS2.out _ (by go_grown))
      clear hK K2
      try simp only [Act.put, List.setIfInBounds_toArray, List.set_cons_zero, List.set_cons_succ]
      refine rh.go_next (i := 7) rfl (by kernel_rfl) (fun K2 hK => ?_)
      go_simp
      refine hK.out _ _ ?_ (fun hHeld => ?_)
      · ((try dsimp only); exact HS2.out _ HK4.out)
      clear hK K2
      try simp only [Act.put, List.setIfInBounds_toArray, List.set_cons_zero, List.set_cons_succ]
      refine rh.go_last rfl (by kernel_rfl) (fun K2 hK => ?_)
      go_simp
      refine hK.out _ _ ?_
      refine NoPanic.normal ?_
      clear hK K2
      go_wp2_with fail
      have hB3 := HB2.out.trans (hk3.mono HB2.out.size)
      have HB3 := Lib.hid hB3
      have HBox3 := Lib.hid (HBox1.out.on hk3)
      have HBx3 := Lib.hid (HBx1.out.on hk3)
      have hz3 := hk3.size
      have HCa := Lib.hid (fun (u : ByteArray) (Y : World) (hY : Below w3.heap.size w3 Y) => l2At_any A' (lessL b.outer fr).length c' (lessL b.outer fr) u Y _ (strsR_at (rowR_here (HR3.out.on hY))) (by omega))
      obtain ⟨i0, hi, hi0, hi1, hi2⟩ := info_parts int_info
      have HI := Lib.hid (And.intro hi (And.intro hi0 (And.intro hi1 hi2)))
      clear hi hi0 hi1 hi2 hB3
      go_loopw [10, 11] (fun l i wr => ∃ (k : Nat) (v : Value), k ≤ n4 ∧ i = .int .i64 k ∧ v = l ∧ wr.ownsRow w3.heap.size 3 1 v (E + k) ((coT b fr k).map (Value.int .i64)) ∧ Below w3.heap.size w3 wr) (fun _ i _ => n4 - (intOf i).toNat)
      case atStart => exact ⟨0, _, Nat.zero_le _, rfl, rfl, HR4.out, HB34.out⟩
      case round =>
        obtain ⟨k, v, hk, rfl, rfl, hown, hbel⟩ := hrel
        have hwU := hbel.size
        obtain ⟨x0, x1, x2, x3, x4, x5⟩ := (HBox3.out.on hbel).get
        by_cases hlt : k < n4
        · obtain ⟨D, hD⟩ : ∃ D, (coT b fr k).map (Value.int .i64) = D := ⟨_, rfl⟩
          by_cases hkj : k = j
          · subst hkj
            have HT := Lib.hid (show (coT b fr (k + 1)).map (Value.int .i64) = D ++ [.int .i64 b.edges] by rw [co_snoc, List.map_append, hD, show coE b fr k = b.edges from if_pos HIx.out.symm]; rfl)
            rw [hD] at hown
            clear hD
            go_wp2_with (at_builtin; refine wpList_append_own _ rfl _ _ 24 rfl w3.heap.size 3 i0 (.int .i64 0) 1 8 Try.underlying24 HI.out.1 HI.out.2.1 HI.out.2.2.1 HI.out.2.2.2 rfl (by decide) _ _ _ rfl (hown.alloc _) ⟨wr.heap.size, 0, none⟩ 1 1 [.int .i64 b.edges] rfl rfl (cell_one_new _ _ _) (fun x hx => by simp at hx; subst hx; rfl) (by unfold maxLen; omega) (by omega) (by simp; omega) ?_; intro v1 w5 hown1 hgrow1 hnil1; have hb1 := Lib.hid ((hbel.alloc (by omega) (.cells #[.int .i64 b.edges] 3)).grown hgrow1 (by simp; omega) (fun j hj => (hown.lt j hj).1)); have HOwn := Lib.hid hown1; clear hown1 hgrow1 hnil1 hown x0 x1 x2 x3 x4 x5)
            go_wp2_with fail
            go_roundw
            case rel => exact ⟨k + 1, _, by omega, by go_num, rfl, by rw [HT.out]; exact HOwn.out, hb1.out⟩
            case measure => simp [intOf]; omega
          · have hkj' : ¬ ((k : Int) = (j : Int)) := by omega
            obtain ⟨bs, offs, u0, rfl, hbs, hu, cu⟩ := HSr.out.get hlt
            rw [List.getElem?_map] at hu
            obtain ⟨u, hu', rfl⟩ := Option.map_eq_some_iff.1 hu
            obtain ⟨r, hr⟩ : ∃ r, ixF (lessL b.outer fr) u = r := ⟨_, rfl⟩
            have hrr := ixF_in (lessL b.outer fr) u
            have HT := Lib.hid (show (coT b fr (k + 1)).map (Value.int .i64) = D ++ [.int .i64 (b.edges + 1 + r)] by rw [co_snoc, List.map_append, hD, show coE b fr k = b.edges + 1 + r from by unfold coE; rw [if_neg (by rw [HIx.out]; exact hkj'), hu', ← hr]; rfl]; rfl)
            have CA := HCa.out u wr.drew hbel.drew
            rw [hr] at CA hrr
            rw [hD] at hown
            have hbw := HB3.out.trans (hbel.mono HB3.out.size)
            have HS4 : Hid (∀ w', Below w3.heap.size w3 w' → (w'.cell? ⟨w.heap.size, 3, none⟩ = some (.int .i64 b.edges) ∧ w'.cell? ⟨w.heap.size, 4, none⟩ = some (.slice (some ⟨bs, offs, none⟩) n4 c4) ∧ w'.cell? ⟨bs, offs + k, none⟩ = some (.string u))) := Lib.hid (fun w' hq => by
              have hqw := HB3.out.trans (hq.mono HB3.out.size)
              exact ⟨(HBox3.out.on hq).get.2.2.2.1, (HBox3.out.on hq).get.2.2.2.2.1, (hqw.cell (p := ⟨bs, offs + k, none⟩) hbs).trans cu⟩)
            have q0 := (hbw.cell (p := ⟨bs, offs + k, none⟩) hbs).trans cu
            have e1 : E + k + 1 ≤ maxLen := by unfold maxLen; omega
            have e2 : (E + k + 1) * 8 ≤ 140737488355328 := by omega
            have e4' : ∀ u ∈ [Value.int .i64 (b.edges + 1 + r)], u.oneCell' = true := fun u hu => by simp at hu; subst hu; rfl
            have hEe := HEe.out
            have hw1 : IntKind.i64.wrap (b.edges + 1) = b.edges + 1 := IntWalk.i64_in _ (by omega)
            have hw2 : IntKind.i64.wrap (b.edges + 1 + r) = b.edges + 1 + r := IntWalk.i64_in _ (by omega)
            clear hEe
            have hkD2 := hbel.drew
            have hkW := ((Below.refl wr.heap.size wr).drew).alloc (Nat.le_refl _) (.cells #[.int .i64 (b.edges + 1 + r)] 3)
            have hkA := hkD2.alloc hkD2.size (.cells #[.int .i64 (b.edges + 1 + r)] 3)
            have HOA := Lib.hid (owns_on hown hkW)
            have e3 : w3.heap.size ≤ (wr.drew.alloc (.cells #[.int .i64 (b.edges + 1 + r)] 3)).heap.size := hkA.size
            have HGr := Lib.hid (fun (w1 : World) (hg1 : (wr.drew.alloc (.cells #[.int .i64 (b.edges + 1 + r)] 3)).grownBy w1 v.ownBlock) => hkA.grown hg1 hkA.size (fun j hj => by have := (hown.lt j hj).1; omega))
            clear hD hr hu hu' cu hown hkA hkW hbw hrr
            go_wp2_with fail
            clear x0 x1 x2 x3 x4 x5 q0
            refine rh.go_begin 14 (fun w' => (w'.cell? ⟨w.heap.size, 3, none⟩ = some (.int .i64 b.edges) ∧ w'.cell? ⟨w.heap.size, 4, none⟩ = some (.slice (some ⟨bs, offs, none⟩) n4 c4) ∧ w'.cell? ⟨bs, offs + k, none⟩ = some (.string u))) (by kernel_rfl) ?_ (fun hHeld => ?_)
            · ((try dsimp only); exact HS4.out _ (by go_grown))
            refine rh.go_take (i := 0) (v := ?v6) rfl (by kernel_rfl) (fun _ _ _ h => h) (Or.inl ⟨by rfl, ?hy6⟩) (by assumption) ?rest6
            case hy6 => (intro wS hSw; (try dsimp only at hSw); go_simp; try (with_reducible rfl))
            try simp only [Act.put, List.setIfInBounds_toArray, List.set_cons_zero, List.set_cons_succ]
            refine rh.go_take (i := 1) (v := ?v7) rfl (by kernel_rfl) (fun _ _ _ h => h) (Or.inl ⟨by rfl, ?hy7⟩) (by assumption) ?rest7
            case hy7 => (intro wS hSw; (try dsimp only at hSw); go_simp; try (with_reducible rfl))
            try simp only [Act.put, List.setIfInBounds_toArray, List.set_cons_zero, List.set_cons_succ]
            refine rh.go_take (i := 2) (v := ?v8) rfl (by kernel_rfl) (fun _ _ _ h => h) (Or.inl ⟨by rfl, ?hy8⟩) (by assumption) ?rest8
            case hy8 => (intro wS hSw; (try dsimp only at hSw); go_simp; try (with_reducible rfl))
            try simp only [Act.put, List.setIfInBounds_toArray, List.set_cons_zero, List.set_cons_succ]
            refine rh.go_take (i := 3) (v := ?v9) rfl (by kernel_rfl) (fun _ _ _ h => h) (Or.inl ⟨by rfl, ?hy9⟩) (by assumption) ?rest9
            case hy9 => (intro wS hSw; (try dsimp only at hSw); go_simp; try (with_reducible rfl))
            try simp only [Act.put, List.setIfInBounds_toArray, List.set_cons_zero, List.set_cons_succ]
            refine rh.go_take (i := 4) (v := ?v10) rfl (by kernel_rfl) (fun _ _ _ h => h) (Or.inl ⟨by rfl, ?hy10⟩) (by assumption) ?rest10
            case hy10 => (intro wS hSw; (try dsimp only at hSw); go_simp; try (with_reducible rfl))
            try simp only [Act.put, List.setIfInBounds_toArray, List.set_cons_zero, List.set_cons_succ]
            refine rh.go_take (i := 5) (v := ?v11) rfl (by kernel_rfl) (fun _ _ _ h => h) (Or.inl ⟨by rfl, ?hy11⟩) (by assumption) ?rest11
            case hy11 => (intro wS hSw; (try dsimp only at hSw); go_simp; try (with_reducible rfl))
            try simp only [Act.put, List.setIfInBounds_toArray, List.set_cons_zero, List.set_cons_succ]
            refine rh.go_take (i := 6) (v := ?v12) rfl (by kernel_rfl) (fun _ _ _ h => h) (Or.inl ⟨by rfl, ?hy12⟩) (by assumption) ?rest12
            case hy12 => (intro wS hSw; (try dsimp only at hSw); go_simp; try (with_reducible rfl))
            try simp only [Act.put, List.setIfInBounds_toArray, List.set_cons_zero, List.set_cons_succ]
            refine rh.go_take (i := 7) (v := ?v13) rfl (by kernel_rfl) (fun _ _ _ h => h) (Or.inl ⟨by rfl, ?hy13⟩) (by assumption) ?rest13
            case hy13 => (intro wS hSw; (try dsimp only at hSw); go_simp; try (with_reducible rfl))
            try simp only [Act.put, List.setIfInBounds_toArray, List.set_cons_zero, List.set_cons_succ]
            refine rh.go_take (i := 8) (v := ?v14) rfl (by kernel_rfl) (fun _ _ _ h => h) (Or.inl ⟨by rfl, ?hy14⟩) (by assumption) ?rest14
            case hy14 => (intro wS hSw; (try dsimp only at hSw); go_simp; try (with_reducible rfl))
            try simp only [Act.put, List.setIfInBounds_toArray, List.set_cons_zero, List.set_cons_succ]
            refine rh.go_take (i := 9) (v := ?v15) rfl (by kernel_rfl) (fun _ _ _ h => h) (Or.inl ⟨by rfl, ?hy15⟩) (by assumption) ?rest15
            case hy15 => (intro wS hSw; (try dsimp only at hSw); go_simp; try (with_reducible rfl))
            try simp only [Act.put, List.setIfInBounds_toArray, List.set_cons_zero, List.set_cons_succ]
            try rw [hw1]
            refine rh.go_next (i := 10) rfl (by kernel_rfl) (fun K2 hK => ?_)
            (go_simp; go_at_call 88; refine CA.mono ?_; rintro e w2 ⟨rfl, rfl⟩; go_wp2_with fail)
            refine hK.out _ _ ?_ (fun hHeld => ?_)
            · ((try dsimp only); exact HS4.out _ (by go_grown))
            clear hK K2
            try simp only [Act.put, List.setIfInBounds_toArray, List.set_cons_zero, List.set_cons_succ]
            try rw [hw1]
            refine rh.go_take (i := 11) (v := ?v16) rfl (by kernel_rfl) (fun _ _ _ h => h) (Or.inl ⟨by rfl, ?hy16⟩) (by assumption) ?rest16
            case hy16 => (intro wS hSw; (try dsimp only at hSw); go_simp; try (with_reducible rfl))
            try simp only [Act.put, List.setIfInBounds_toArray, List.set_cons_zero, List.set_cons_succ]
            try rw [hw2]
            refine rh.go_next (i := 12) rfl (by kernel_rfl) (fun K2 hK => ?_)
            go_simp
            refine hK.out _ _ ?_ (fun hHeld => ?_)
            · ((try dsimp only); exact HS4.out _ (by go_grown))
            clear hK K2
            try simp only [Act.put, List.setIfInBounds_toArray, List.set_cons_zero, List.set_cons_succ]
            refine rh.go_next (i := 13) rfl (by kernel_rfl) (fun K2 hK => ?_)
            (refine step_append_own rfl _ _ 24 rfl w3.heap.size 3 i0 (.int .i64 0) 1 8 Try.underlying24 HI.out.1 HI.out.2.1 HI.out.2.2.1 HI.out.2.2.2 rfl (by decide) _ _ _ (by first | rfl | simp [Act.eval, Act.put]) HOA.out ⟨wr.drew.heap.size, 0, none⟩ 1 1 [.int .i64 (b.edges + 1 + r)] (by first | rfl | simp [Act.eval, Act.put]) rfl (cell_one_new _ _ _) e4' e1 e2 e3 ?_; intro v1 w5 hown1 hgrow1 hnil1; have HOw5 := Lib.hid hown1; have hq5 := HGr.out _ hgrow1; clear hgrow1 hnil1 hown1; (try go_simp))
            refine hK.out _ _ ?_ (fun hHeld => ?_)
            · ((try dsimp only); exact HS4.out _ (by go_grown))
            clear hK K2
            try simp only [Act.put, List.setIfInBounds_toArray, List.set_cons_zero, List.set_cons_succ]
            refine rh.go_last rfl (by kernel_rfl) (fun K2 hK => ?_)
            go_simp
            refine hK.out _ _ ?_
            refine NoPanic.normal ?_
            clear hK K2
            go_wp2_with fail
            go_roundw
            case rel => exact ⟨k + 1, _, by omega, by go_num, rfl, by rw [HT.out]; exact HOw5.out, hq5⟩
            case measure => simp [intOf]; omega
        · obtain rfl : n4 = k := by omega
          obtain ⟨Al, cl, rfl, hrl⟩ := ints_owned hown
          have h2 := intsR_at hrl
          rw [co_len, HEe.out, Int.toNat_natCast] at h2
          have hkl : IntsAt wr wr.heap.size Al (E + n4) (coT b fr b.outer.length) := by rw [HL4.out]; exact h2
          have hB5 := HB3.out.trans (hbel.mono HB3.out.size)
          have HC := Lib.hid (HRl.out Al (E + n4) cl A' (lessL b.outer fr).length c' wr hB5 hkl rfl (strsR_at (rowR_here (HR3.out.on hbel))) (by omega) (rowR_nil0 HR3.out))
          have HB5 := Lib.hid hB5
          have HBx5 := Lib.hid (HBx3.out.on hbel)
          have hEe := HEe.out
          have hw3 : wrap64 (b.edges + 1) = b.edges + 1 := by unfold wrap64; omega
          have hln : (coT b fr n4).length = E + n4 := by rw [co_len, HEe.out, Int.toNat_natCast]
          rw [hln]
          clear hEe hown hrl h2 hkl hB5 hbel hln
          go_wp2_with fail
          rw [hw3]
          refine HC.out.mono ?_
          rintro e w6 ⟨v6, rfl, hr, hb⟩
          have HB6 := Lib.hid (HB5.out.trans (hb.mono HB5.out.size))
          have HG := Lib.hid (HGv.out v6 w6 HB6.out (hr.wide HB5.out.size (Nat.le_refl _)))
          have HBx6 := Lib.hid (HBx5.out.on hb)
          clear hr hb x0 x1 x2 x3 x4 x5
          go_wp2_with fail
          refine HG.out.mono ?_
          rintro e w7 ⟨v7, rfl, hr, hb⟩
          obtain ⟨D1, g1, D2, g2, D4, g4, D5, g5, rfl⟩ := hr.shape
          have HB4 := Lib.hid (HB6.out.trans (hb.mono HB6.out.size))
          have HRZ := Lib.hid hr
          have HBxY := Lib.hid (HBx6.out.on hb)
          clear hr hb
          obtain ⟨z0, z1, z2, z3, z4, z5⟩ := HBxY.out.get
          have f0 := World.rowIs.frozen HBxY.out 0
          have f1 := World.rowIs.frozen HBxY.out 1
          have f2 := World.rowIs.frozen HBxY.out 2
          have f3 := World.rowIs.frozen HBxY.out 3
          have f4 := World.rowIs.frozen HBxY.out 4
          have f5 := World.rowIs.frozen HBxY.out 5
          go_wp2_with fail
          have hbig := (sets6_big HBxY.out HRZ.out (.int .i64 Lb.roots) (.slice D1 Lb.nodes.length g1) (.slice D2 Lb.sites.length g2) (.int .i64 Lb.edges) (.slice D4 Lb.outer.length g4) (.slice D5 Lb.inner.length g5)).here
          have hbel := sets6_below HB4.out (Nat.le_succ _) (.int .i64 Lb.roots) (.slice D1 Lb.nodes.length g1) (.slice D2 Lb.sites.length g2) (.int .i64 Lb.edges) (.slice D4 Lb.outer.length g4) (.slice D5 Lb.inner.length g5)
          unfold sets6 at hbig hbel
          refine bodyPost_ret (v := .tuple #[.agg #[.int .i64 Lb.roots, .slice D1 Lb.nodes.length g1, .slice D2 Lb.sites.length g2, .int .i64 Lb.edges, .slice D4 Lb.outer.length g4, .slice D5 Lb.inner.length g5], .bool q4]) (by simp [results, Try.results32, go_sem, z0, z1, z2, z3, z4, z5]) rfl ⟨_, rfl, hbig, hbel⟩
end Go.Proofs.Ytebmhfkpmcflfaa.cos
