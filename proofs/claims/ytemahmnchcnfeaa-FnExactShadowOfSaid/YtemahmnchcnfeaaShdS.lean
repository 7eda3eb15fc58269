/- spec.ShadowOf. -/
import Derived.Test.YtemahmnchcnfeaaShd
import Derived.Test.YtemahmnchcnfeaaSa
namespace Go.Proofs.Ytemahmnchcnfeaa.shds
open kit bg sg opn strs only hb sig isig un over gn nm inn ht gd im pt marks eqs hc hi hw hn rs br bm bw cf lf ib lawb lw cl pl abv tp mb shd sa
open Go.RowKit
set_option linter.unusedVariables false
theorem owns_on {w w' : World} {base sz n : Nat} {e : TypeId} {v : Value} {xs : List Value} (h : w.ownsRow base e sz v n xs) (hb : Below w.heap.size w w') : w'.ownsRow base e sz v n xs := by
  obtain ⟨h1, h2⟩ := h
  refine ⟨h1, h2.imp id ?_⟩
  rintro ⟨g, cap, cur, e1, hbb, hh, r⟩
  exact ⟨g, cap, cur, e1, hbb, (hb.block g (Array.getElem?_eq_some_iff.1 hh).1).trans hh, r⟩
theorem app_keep3 {w wA w3 : World} {base sz n β γ δ B : Nat} {e t : TypeId} {v : Value} {xs : List Value} {a0 a1 a2 a3 a4 a5 b0 b1 b2 b3 b4 b5 c0 c1 c2 c3 c4 c5 : Value} (hg : wA.grownBy w3 v.ownBlock) (hown : wA.ownsRow base e sz v n xs) (hbo : BoxAt wA β t a0 a1 a2 a3 a4 a5) (hbx : BoxAt wA γ t b0 b1 b2 b3 b4 b5) (hbc : BoxAt wA δ t c0 c1 c2 c3 c4 c5)
    (hB : Below B w wA) (h1 : β < base) (h2 : γ < base) (h2' : δ < base) (h3 : B ≤ base) (h4 : B ≤ wA.heap.size) : BoxAt w3 β t a0 a1 a2 a3 a4 a5 ∧ BoxAt w3 γ t b0 b1 b2 b3 b4 b5 ∧ BoxAt w3 δ t c0 c1 c2 c3 c4 c5 ∧ Below B w w3 ∧ wA.heap.size ≤ w3.heap.size :=
  ⟨hbo.kept hg (fun e => by have := (hown.lt _ e.symm).1; omega), hbx.kept hg (fun e => by have := (hown.lt _ e.symm).1; omega), hbc.kept hg (fun e => by have := (hown.lt _ e.symm).1; omega), hB.grown hg h4 (fun j hj => by have := (hown.lt j hj).1; omega), hg.size⟩
theorem tops_take {b : Big} {k : Nat} {z : Int} (h : b.sites[k]? = some z) : (tops b).take (k + 1) = (tops b).take k ++ [topF b.nodes b.nodes.length z] := take_snoc (tops_at h)

set_option maxRecDepth 20000 in
set_option maxHeartbeats 3200000 in
theorem sShd_any (A : Option Addr) (n c : Nat) (cs : List Ctl) (v : Value) (b : Big) (w : World) (hC : CtlsAt w w.heap.size A n cs) (hn : n ≤ 1048576) (hs : ∀ c ∈ cs, c.name.size ≤ 1048576) (hv : BigAt w w.heap.size v b) (hS : BigS b) (hw : BigW b) (hN : NilV v) :
    Calls Try.prog 44 #[.slice A n c, v] w (BigPost (bigB cs b) (shdR cs b) w) := by
  obtain ⟨A1, n1, c1, A2, n2, c2, A4, n4, c4, A5, n5, c5, rfl, h1, h2, h4, h5⟩ := hv
  have hnil := hN.get
  have hbx := (Below.refl w.heap.size w).alloc (Nat.le_refl _) (.cells #[.int .i64 b.roots, .slice A1 n1 c1, .slice A2 n2 c2, .int .i64 b.edges, .slice A4 n4 c4, .slice A5 n5 c5] 37)
  have HBoxI : Hid (BoxAt (w.alloc (.cells #[.int .i64 b.roots, .slice A1 n1 c1, .slice A2 n2 c2, .int .i64 b.edges, .slice A4 n4 c4, .slice A5 n5 c5] 37)) w.heap.size 37 (.int .i64 b.roots) (.slice A1 n1 c1) (.slice A2 n2 c2) (.int .i64 b.edges) (.slice A4 n4 c4) (.slice A5 n5 c5)) := Lib.hid (six_new w _ _ _ _ _ _ _)
  obtain ⟨W0, hW0⟩ : ∃ W, w.alloc (.cells #[.int .i64 b.roots, .slice A1 n1 c1, .slice A2 n2 c2, .int .i64 b.edges, .slice A4 n4 c4, .slice A5 n5 c5] 37) = W := ⟨_, rfl⟩
  have hWz0 : W0.heap.size = w.heap.size + 1 := by rw [← hW0]; simp
  rw [hW0] at hbx HBoxI
  have hb0 := (Below.refl W0.heap.size W0).alloc (Nat.le_refl _) (.cells #[.int .i64 0, .slice none 0 0, .slice none 0 0, .int .i64 0, .slice none 0 0, .slice none 0 0] 37)
  have HBx0 : Hid (BoxAt (W0.alloc (.cells #[.int .i64 0, .slice none 0 0, .slice none 0 0, .int .i64 0, .slice none 0 0, .slice none 0 0] 37)) W0.heap.size 37 (.int .i64 0) (.slice none 0 0) (.slice none 0 0) (.int .i64 0) (.slice none 0 0) (.slice none 0 0)) := Lib.hid (six_new W0 _ _ _ _ _ _ _)
  have HBox := Lib.hid (HBoxI.out.on hb0)
  obtain ⟨W, hW⟩ : ∃ W, W0.alloc (.cells #[.int .i64 0, .slice none 0 0, .slice none 0 0, .int .i64 0, .slice none 0 0, .slice none 0 0] 37) = W := ⟨_, rfl⟩
  have hWz : W.heap.size = w.heap.size + 1 + 1 := by rw [← hW]; simp; exact hWz0
  rw [hW] at hb0 HBx0 HBox
  rw [hWz0] at HBx0
  have HWq0 := Lib.hid hW0
  have HWq := Lib.hid hW
  have HB0 := Lib.hid (hbx.trans (hb0.mono hbx.size))
  have HWz := Lib.hid hWz
  have hVW : BigAt W W.heap.size (.agg #[.int .i64 b.roots, .slice A1 n1 c1, .slice A2 n2 c2, .int .i64 b.edges, .slice A4 n4 c4, .slice A5 n5 c5]) b := BigAt.wide (BigAt.below ⟨_, _, _, _, _, _, _, _, _, _, _, _, rfl, h1, h2, h4, h5⟩ HB0.out) HB0.out.size
  clear hW0 hW hb0 hWz hWz0 hbx HBoxI hN
  have C := l2Good_any A n c cs _ b W ((hC.below HB0.out).wide HB0.out.size) hVW hn hs hS hw
  have hsW : w.heap.size + 1 + 1 ≤ W.heap.size := by rw [HWz.out]; exact Nat.le_refl _
  obtain ⟨x0, x1, x2, x3, x4, x5⟩ := HBox.out.get
  clear hVW hs
  cases hq : bigB cs b with
  | false =>
    rw [hq] at C
    have HR := Lib.hid (shdR_no hq)
    clear hq
    go_enter Try.func44, Try.ntmps44
    go_wp2_with fail
    rw [HWq0.out, HWq.out]
    go_wp2_with fail
    refine C.mono ?_
    rintro e w1 ⟨rfl, hb⟩
    have hb1 := HB0.out.trans (hb.mono HB0.out.size)
    have HBx1 := Lib.hid (HBx0.out.on hb)
    clear hb C x0 x1 x2 x3 x4 x5
    obtain ⟨z0, z1, z2, z3, z4, z5⟩ := HBx1.out.get
    have f0 := World.rowIs.frozen HBx1.out 0
    have f1 := World.rowIs.frozen HBx1.out 1
    have f2 := World.rowIs.frozen HBx1.out 2
    have f3 := World.rowIs.frozen HBx1.out 3
    have f4 := World.rowIs.frozen HBx1.out 4
    have f5 := World.rowIs.frozen HBx1.out 5
    go_wp2_with fail
    refine bodyPost_ret (v := .tuple #[.agg #[.int .i64 0, .slice none 0 0, .slice none 0 0, .int .i64 0, .slice none 0 0, .slice none 0 0], .bool false]) (by simp [results, Try.results44, go_sem, z0, z1, z2, z3, z4, z5]) rfl ⟨_, rfl, by rw [HR.out]; exact BigR.zero, sets6_below hb1 (by omega) _ _ _ _ _ _⟩
  | true =>
    rw [hq] at C
    have HQ := Lib.hid hq
    clear hq
    go_enter Try.func44, Try.ntmps44
    go_wp2_with fail
    rw [HWq0.out, HWq.out]
    go_wp2_with fail
    refine C.mono ?_
    rintro e w1 ⟨rfl, hb⟩
    have hb1 := HB0.out.trans (hb.mono HB0.out.size)
    have HB1 := Lib.hid hb1
    have HBx1 := Lib.hid (HBx0.out.on hb)
    have HBox1 := Lib.hid (HBox.out.on hb)
    have hsz1 : w.heap.size + 1 + 1 ≤ w1.heap.size := Nat.le_trans hsW hb.size
    clear hb hb1 C x0 x1 x2 x3 x4 x5 HBx0 HBox
    obtain ⟨i0, hi, hz0, hz1, hz2⟩ := info_parts int_info
    have HI := Lib.hid (And.intro hi (And.intro hz0 (And.intro hz1 hz2)))
    have HGs := Lib.hid (good_sites HQ.out)
    have l1 := h1.1
    have l2 := h2.len
    have hn2 : n2 ≤ 4 := by have := HGs.out.2.2.2.2.2.2; omega
    have hn1 : n1 ≤ 8 := by have := HGs.out.2.2.2.2.2.1; omega
    have HL1 := Lib.hid l1
    have HR := Lib.hid (shdR_yes HQ.out)
    have hbo := (Below.refl w1.heap.size w1).alloc (Nat.le_refl _) (.cells #[.int .i64 b.roots, .slice none 0 0, .slice none 0 0, .int .i64 0, .slice none 0 0, .slice none 0 0] 37)
    have HBo : Hid (BoxAt (w1.alloc (.cells #[.int .i64 b.roots, .slice none 0 0, .slice none 0 0, .int .i64 0, .slice none 0 0, .slice none 0 0] 37)) w1.heap.size 37 (.int .i64 b.roots) (.slice none 0 0) (.slice none 0 0) (.int .i64 0) (.slice none 0 0) (.slice none 0 0)) := Lib.hid (six_new w1 _ _ _ _ _ _ _)
    have HBx2 := Lib.hid (HBx1.out.on hbo)
    have HBox2 := Lib.hid (HBox1.out.on hbo)
    obtain ⟨U, hU⟩ : ∃ U, w1.alloc (.cells #[.int .i64 b.roots, .slice none 0 0, .slice none 0 0, .int .i64 0, .slice none 0 0, .slice none 0 0] 37) = U := ⟨_, rfl⟩
    have hUz : U.heap.size = w1.heap.size + 1 := by rw [← hU]; simp
    rw [hU] at hbo HBo HBx2 HBox2
    have HUq := Lib.hid hU
    have HB2 := Lib.hid (HB1.out.trans (hbo.mono HB1.out.size))
    have HUz := Lib.hid hUz
    have HLt2 : Hid ((tops b).length = n2) := Lib.hid (by rw [tops_len]; exact l2)
    have HCT := Lib.hid (fun (z : Int) (w2 : World) (hb2 : Below w.heap.size w w2) (hz : z < n1) => l3Top_any (.int .i64 b.roots) (.slice A2 n2 c2) (.int .i64 b.edges) (.slice A4 n4 c4) (.slice A5 n5 c5) A1 n1 c1 b.nodes z w w2 h1 hb2 hn1 HGs.out.1 hz)
    obtain ⟨x0, x1, x2, x3, x4, x5⟩ := HBox1.out.get
    clear hU hbo hUz hi hz0 hz1 hz2 l1 l2
    go_wp2_with fail
    rw [HUq.out]
    clear x0 x1 x2 x3 x4 x5
    go_loopw [7] (fun i wr => ∃ (k : Nat) (v : Value), k ≤ n2 ∧ i = .int .i64 k ∧ wr.ownsRow (w1.heap.size + 1) 3 1 v k (((tops b).take k).map (Value.int .i64)) ∧ BoxAt wr w1.heap.size 37 (.int .i64 b.roots) (.slice none 0 0) v (.int .i64 0) (.slice none 0 0) (.slice none 0 0) ∧ BoxAt wr (w.heap.size + 1) 37 (.int .i64 0) (.slice none 0 0) (.slice none 0 0) (.int .i64 0) (.slice none 0 0) (.slice none 0 0) ∧ BoxAt wr w.heap.size 37 (.int .i64 b.roots) (.slice A1 n1 c1) (.slice A2 n2 c2) (.int .i64 b.edges) (.slice A4 n4 c4) (.slice A5 n5 c5) ∧ Below w.heap.size w wr ∧ w1.heap.size + 1 ≤ wr.heap.size) (fun i _ => n2 - (intOf i).toNat)
    case atStart => exact ⟨0, .slice none 0 0, Nat.zero_le _, rfl, World.ownsRow_nil _ _ _ _, HBo.out, HBx2.out, HBox2.out, HB2.out, by rw [HUz.out]; exact Nat.le_refl _⟩
    case round =>
      obtain ⟨k, v, hk, rfl, hown, hbo, hbx, hbb, hB, hsz⟩ := hrel
      obtain ⟨y0, y1, y2, y3, y4, y5⟩ := hbo.get
      obtain ⟨x0, x1, x2, x3, x4, x5⟩ := hbb.get
      by_cases hlt : k < n2
      · obtain ⟨bs, off, z, rfl, hbs, hx, c0'⟩ := h2.get hlt
        have d0 := (hB.cell (p := ⟨bs, off + k, none⟩) hbs).trans c0'
        have hzn : z < n1 := by have := (HGs.out.2.2.1 k z hx).2; rw [HL1.out] at this; exact this
        have hTk := tops_take hx
        rw [HL1.out] at hTk
        obtain ⟨T, hT⟩ : ∃ T, topF b.nodes n1 z = T := ⟨_, rfl⟩
        have CT := fun w2 hb2 => hT ▸ HCT.out z w2 hb2 hzn
        rw [hT] at hTk
        obtain ⟨D, hD⟩ : ∃ D, ((tops b).take k).map (Value.int .i64) = D := ⟨_, rfl⟩
        rw [hD] at hown
        have HD : Hid (((tops b).take (k + 1)).map (Value.int .i64) = D ++ [.int .i64 T]) := Lib.hid (by rw [← hD, hTk, List.map_append]; rfl)
        have HO := Lib.hid hown
        have HBo' := Lib.hid hbo
        have HBx' := Lib.hid hbx
        have HBb' := Lib.hid hbb
        have HB' := Lib.hid hB
        have e1 : k + 1 ≤ maxLen := by unfold maxLen; omega
        have e2 : (k + 1) * 8 ≤ 140737488355328 := by omega
        have e4 : ∀ u ∈ [Value.int .i64 T], u.oneCell' = true := fun u hu => by
          rw [List.mem_singleton.1 hu]; rfl
        have hfin : w1.heap.size ≠ w.heap.size := by omega
        have hfin2 : w1.heap.size ≠ w.heap.size + 1 := by omega
        clear hTk hT hD hx c0' hown hbo hbx hbb hB
        go_wp2_with fail
        have q1 : w1.heap.size < w1.heap.size + 1 := Nat.lt_succ_self _
        have q2 : w.heap.size + 1 < w1.heap.size + 1 := by omega
        have q3 : w.heap.size < w1.heap.size + 1 := by omega
        have q4 : w.heap.size ≤ w1.heap.size + 1 := by omega
        go_region_law (first
          | (refine step_append_own rfl _ _ 24 rfl (w1.heap.size + 1) 3 i0 (.int .i64 0) 1 8 Try.underlying24 HI.out.1 HI.out.2.1 HI.out.2.2.1 HI.out.2.2.2 rfl (by decide) _ _ _ (by first | rfl | simp [Act.eval, Act.put]) HOA.out ⟨w2.heap.size, 0, none⟩ 1 1 [.int .i64 T] (by first | rfl | simp [Act.eval, Act.put]) rfl (cell_one_new _ _ _) e4 e1 e2 e3 ?_; intro v1 w3 hown1 hgrow1 hnil1; obtain ⟨A1', c1', rfl, -⟩ := rowR_owns hown1; have HT := Lib.hid (app_keep3 hgrow1 HOA.out HBoA.out HBxA.out HBbA.out HBA.out q1 q2 q3 q4 e6); have HOw3 := Lib.hid hown1; clear hgrow1 hnil1 hown1 y0 y1 y2 y3 y4 y5; obtain ⟨y0, y1, y2, y3, y4, y5⟩ := HT.out.1.get; have g2 := World.rowIs.frozen HT.out.1 2)
          | (go_simp; go_at_call 104; refine (CT _ HB'.out.drew).mono ?_; rintro e w2 ⟨rfl, hb2⟩; have hk := ((Below.refl wr.heap.size wr).drew).trans (hb2.mono (Nat.le_refl _)); have hkA := hk.alloc hk.size (.cells #[.int .i64 T] 3); have HOA := Lib.hid (owns_on HO.out hkA); have HBoA := Lib.hid (HBo'.out.on hkA); have HBxA := Lib.hid (HBx'.out.on hkA); have HBbA := Lib.hid (HBb'.out.on hkA); have HBA := Lib.hid (HB'.out.trans (hkA.mono HB'.out.size)); have e3 := Nat.le_trans hsz hkA.size; have e6 := HBA.out.size; clear y0 y1 y2 y3 y4 y5; obtain ⟨y0, y1, y2, y3, y4, y5⟩ := (HBo'.out.on hk).get; obtain ⟨s0, s1, s2, s3, s4, s5⟩ := HBoA.out.get; clear hb2 hk hkA))
        all_goals (go_wp2_with fail)
        all_goals (go_roundw)
        all_goals (first | (exact ⟨k + 1, _, by omega, by go_num, by rw [HD.out]; exact owns_set HOw3.out q1, HT.out.1.put2 _, HT.out.2.1.else_ hfin2.symm _, HT.out.2.2.1.else_ hfin.symm _, HT.out.2.2.2.1.setCell (p := ⟨w1.heap.size, 2, none⟩) (by dsimp only; omega) _, by have := HT.out.2.2.2.2; simp [World.setCell]; omega⟩) | (simp [intOf]; omega))
      · obtain rfl : k = n2 := by omega
        rw [List.take_of_length_le (by rw [HLt2.out]; exact Nat.le_refl _)] at hown
        obtain ⟨A', c', rfl, hrow⟩ := ints_owned hown
        have HBig := Lib.hid (placing_big (R := b.roots) (hrow.wide (lo' := w.heap.size) (by omega) (Nat.le_refl _)))
        have HBx := Lib.hid hbx
        have HB := Lib.hid hB
        rw [HLt2.out] at HBig y2
        clear hown hrow hbo hB hbx hbb
        obtain ⟨z0, z1, z2, z3, z4, z5⟩ := HBx.out.get
        have f0 := World.rowIs.frozen HBx.out 0
        have f1 := World.rowIs.frozen HBx.out 1
        have f2 := World.rowIs.frozen HBx.out 2
        have f3 := World.rowIs.frozen HBx.out 3
        have f4 := World.rowIs.frozen HBx.out 4
        have f5 := World.rowIs.frozen HBx.out 5
        go_wp2_with fail
        have hbig := (sets6_big HBx.out HBig.out (.int .i64 b.roots) (.slice none 0 0) (.slice A' k c') (.int .i64 0) (.slice none 0 0) (.slice none 0 0)).here
        have hbel := sets6_below HB.out (show w.heap.size ≤ w.heap.size + 1 from Nat.le_succ _) (.int .i64 b.roots) (.slice none 0 0) (.slice A' k c') (.int .i64 0) (.slice none 0 0) (.slice none 0 0)
        unfold sets6 at hbig hbel
        refine bodyPost_ret (v := .tuple #[.agg #[.int .i64 b.roots, .slice none 0 0, .slice A' k c', .int .i64 0, .slice none 0 0, .slice none 0 0], .bool true]) (by simp [results, Try.results44, go_sem, z0, z1, z2, z3, z4, z5]) rfl ⟨_, rfl, by rw [HR.out]; exact hbig, hbel⟩


end Go.Proofs.Ytemahmnchcnfeaa.shds
