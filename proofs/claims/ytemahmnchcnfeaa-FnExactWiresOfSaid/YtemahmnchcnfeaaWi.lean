/- WiresOf of spec and impl. -/
import Derived.Test.YtemahmnchcnfeaaWb
namespace Go.Proofs.Ytemahmnchcnfeaa.wi
open kit bg sg opn strs only hb sig isig un over gn nm inn ht gd im pt marks eqs hc hi hw hn rs br bm bw cf lf ib lawb lw cl pl mb sb wb
open Go.RowKit
set_option linter.unusedVariables false
theorem owned_strs {w : World} {lo n c : Nat} {A : Option Addr} {ss : List ByteArray} (h : w.ownsRow lo 9 1 (.slice A n c) n (ss.map Value.string)) (hl : ss.length = n) : RowR w lo w.heap.size 9 1 A n c (at_ ss) := by
  obtain ⟨A', c', hv, hr⟩ := strs_owned h
  injection hv with h1 h2 h3
  subst h1 h3
  rw [hl] at hr
  exact hr
theorem owned_wrs {w : World} {lo n c : Nat} {A : Option Addr} {ws : List Wr} (h : w.ownsRow lo 76 2 (.slice A n c) n (wcs ws)) (hl : ws.length = n) : RowR w lo w.heap.size 76 2 A n c (wic ws) := by
  obtain ⟨A', c', hv, hr⟩ := wrs_owned h
  injection hv with h1 h2 h3
  subst h1 h3
  rw [hl] at hr
  exact hr
theorem owns_apart {w w' : World} {base base' sz sz' n n' : Nat} {e e' : TypeId} {v v' : Value} {xs xs' : List Value} (h : w.ownsRow base e sz v n xs) (h2 : w.ownsRow base' e' sz' v' n' xs') (ht : e ≠ e') (hg : w.grownBy w' v'.ownBlock) : w'.ownsRow base e sz v n xs := by
  obtain ⟨h1, hq⟩ := h
  refine ⟨h1, hq.imp id ?_⟩
  rintro ⟨g, cap, cur, e1, hb, hh, r⟩
  refine ⟨g, cap, cur, e1, hb, (hg.block g (Array.getElem?_eq_some_iff.1 hh).1 (fun e2 => ?_)).trans hh, r⟩
  rcases h2.2 with ⟨e3, _⟩ | ⟨g2, cap2, cur2, e3, _, hh2, _⟩
  · rw [e3] at e2; cases e2
  · rw [e3] at e2
    injection e2 with e2
    have e4 : g = g2 := e2
    rw [e4, hh2] at hh
    injection hh with hh
    injection hh with _ hh _
    exact ht hh.symm
theorem owns_alloc {w : World} {base sz n : Nat} {e : TypeId} {v : Value} {xs : List Value} (h : w.ownsRow base e sz v n xs) (o : Obj) : (w.alloc o).ownsRow base e sz v n xs := h.alloc o
theorem nil_second (w : World) (e : TypeId) (sz : Nat) (o : Obj) : ((w.alloc o).alloc (.cells #[] e)).ownsRow w.heap.size e sz (.slice (some ⟨w.heap.size + 1, 0, none⟩) 0 0) 0 [] := by
  have := ownsRow_nil_new (w.alloc o) e sz w.heap.size (by rw [World.size_alloc]; omega)
  rw [World.size_alloc] at this
  exact this
theorem drew_owns {w : World} {base sz n : Nat} {e : TypeId} {v : Value} {xs : List Value} (h : w.ownsRow base e sz v n xs) : w.drew.ownsRow base e sz v n xs := h
theorem guard_world {P : Program} {ops : Array Oper} {o : Oper} {a : Act} {w : World} {K : Act → World → Prop} {Q : Exit → Act → World → Prop} {E : Prop} {base sz n : Nat} {e : TypeId} {v : Value} {xs : List Value} (_ : w.ownsRow base e sz v n xs)
    (k : if Region.wanted o (yielded ops a.tmps) = true then Oper.wp P o a w K Q else E) : if Region.wanted o (yielded ops a.tmps) = true then Oper.wp P o a w K Q else E := k
noncomputable def wiR (cs : List Ctl) (b : Big) : Big := if bigB cs b = true then wiring b.edges b.outer b.inner else zeroBig
theorem wiR_no {cs : List Ctl} {b : Big} (h : bigB cs b = false) : wiR cs b = zeroBig := by unfold wiR; rw [h]; rfl
theorem wiR_yes {cs : List Ctl} {b : Big} (h : bigB cs b = true) : wiR cs b = wiring b.edges b.outer b.inner := by unfold wiR; rw [if_pos h]
theorem wi_len (cs : List Ctl) (b : Big) : bigMk (wiR cs b) ≤ 1048576 := by
  cases h : bigB cs b with
  | false => rw [wiR_no h]; exact zero_len
  | true => rw [wiR_yes h]; have hz := sizes_of (big_of h).2.1; exact wiring_len (by omega) (by omega)
set_option maxRecDepth 20000 in
set_option maxHeartbeats 3200000 in
theorem iWi_any (A : Option Addr) (n c : Nat) (cs : List Ctl) (v : Value) (b : Big) (w : World) (hC : CtlsAt w w.heap.size A n cs) (hn : n ≤ 1048576) (hs : ∀ c ∈ cs, c.name.size ≤ 1048576) (hv : BigAt w w.heap.size v b) (hS : BigS b) (hw : BigW b) (hN : NilV v) :
    Calls Try.prog 50 #[.slice A n c, v] w (BigPost (bigB cs b) (wiR cs b) w) := by
  obtain ⟨A1, n1, c1, A2, n2, c2, A4, n4, c4, A5, n5, c5, rfl, h1, h2, h4, h5⟩ := hv
  have hnil := hN.get
  have hbx := (Below.refl w.heap.size w).alloc (Nat.le_refl _) (.cells #[.int .i64 b.roots, .slice A1 n1 c1, .slice A2 n2 c2, .int .i64 b.edges, .slice A4 n4 c4, .slice A5 n5 c5] 37)
  have HBoxI : Hid (BoxAt (w.alloc (.cells #[.int .i64 b.roots, .slice A1 n1 c1, .slice A2 n2 c2, .int .i64 b.edges, .slice A4 n4 c4, .slice A5 n5 c5] 37)) w.heap.size 37 (.int .i64 b.roots) (.slice A1 n1 c1) (.slice A2 n2 c2) (.int .i64 b.edges) (.slice A4 n4 c4) (.slice A5 n5 c5)) := Lib.hid (six_new w _ _ _ _ _ _ _)
  obtain ⟨W0, hW0⟩ : ∃ W, w.alloc (.cells #[.int .i64 b.roots, .slice A1 n1 c1, .slice A2 n2 c2, .int .i64 b.edges, .slice A4 n4 c4, .slice A5 n5 c5] 37) = W := ⟨_, rfl⟩
  have hWz0 : W0.heap.size = w.heap.size + 1 := by rw [← hW0]; simp
  rw [hW0] at hbx HBoxI
  have hb0 := (Below.refl W0.heap.size W0).alloc (Nat.le_refl _) (.cells #[.int .i64 0, .slice none 0 0, .slice none 0 0, .int .i64 0, .slice none 0 0, .slice none 0 0] 37)
  have HBx0 : Hid (BoxAt (W0.alloc (.cells #[.int .i64 0, .slice none 0 0, .slice none 0 0, .int .i64 0, .slice none 0 0, .slice none 0 0] 37)) W0.heap.size 37 (.int .i64 0) (.slice none 0 0) (.slice none 0 0) (.int .i64 0) (.slice none 0 0) (.slice none 0 0)) := Lib.hid (six_new W0 _ _ _ _ _ _ _)
  have HBox := Lib.hid (HBoxI.out.on hb0)
  obtain ⟨W, hW⟩ : ∃ W, W0.alloc (.cells #[.int .i64 0, .slice none 0 0, .slice none 0 0, .int .i64 0, .slice none 0 0, .slice none 0 0] 37) = W := ⟨_, rfl⟩
  have hWz : W.heap.size = w.heap.size + 1 + 1 := by rw [← hW]; simp; exact hWz0
  rw [hW] at hb0 HBx0 HBox
  rw [hWz0] at HBx0
  have HWq0 := Lib.hid hW0
  have HWq := Lib.hid hW
  have HB0 := Lib.hid (hbx.trans (hb0.mono hbx.size))
  have HWz := Lib.hid hWz
  have hVW : BigAt W W.heap.size (.agg #[.int .i64 b.roots, .slice A1 n1 c1, .slice A2 n2 c2, .int .i64 b.edges, .slice A4 n4 c4, .slice A5 n5 c5]) b := BigAt.wide (BigAt.below ⟨_, _, _, _, _, _, _, _, _, _, _, _, rfl, h1, h2, h4, h5⟩ HB0.out) HB0.out.size
  clear hW0 hW hb0 hWz hWz0 hbx HBoxI hN
  have C := isBig_any A n c cs _ b W ((hC.below HB0.out).wide HB0.out.size) hVW hn hs hS hw
  have hsW : w.heap.size + 1 + 1 ≤ W.heap.size := by rw [HWz.out]; exact Nat.le_refl _
  obtain ⟨x0, x1, x2, x3, x4, x5⟩ := HBox.out.get
  clear hVW hs
  cases hq : bigB cs b with
  | false =>
    rw [hq] at C
    have HR := Lib.hid (wiR_no hq)
    clear hq
    go_enter Try.func50, Try.ntmps50
    go_wp2_with fail
    rw [HWq0.out, HWq.out]
    go_wp2_with fail
    refine C.mono ?_
    rintro e w1 ⟨rfl, hb⟩
    have hb1 := HB0.out.trans (hb.mono HB0.out.size)
    have HBx1 := Lib.hid (HBx0.out.on hb)
    clear hb C x0 x1 x2 x3 x4 x5
    obtain ⟨z0, z1, z2, z3, z4, z5⟩ := HBx1.out.get
    have f0 := World.rowIs.frozen HBx1.out 0
    have f1 := World.rowIs.frozen HBx1.out 1
    have f2 := World.rowIs.frozen HBx1.out 2
    have f3 := World.rowIs.frozen HBx1.out 3
    have f4 := World.rowIs.frozen HBx1.out 4
    have f5 := World.rowIs.frozen HBx1.out 5
    go_wp2_with fail
    refine bodyPost_ret (v := .tuple #[.agg #[.int .i64 0, .slice none 0 0, .slice none 0 0, .int .i64 0, .slice none 0 0, .slice none 0 0], .bool false]) (by simp [results, Try.results50, go_sem, z0, z1, z2, z3, z4, z5]) rfl ⟨_, rfl, by rw [HR.out]; exact BigR.zero, sets6_below hb1 (by omega) _ _ _ _ _ _⟩
  | true =>
    rw [hq] at C
    have HQ := Lib.hid hq
    clear hq
    go_enter Try.func50, Try.ntmps50
    go_wp2_with fail
    rw [HWq0.out, HWq.out]
    go_wp2_with fail
    refine C.mono ?_
    rintro e w1 ⟨rfl, hb⟩
    have hb1 := HB0.out.trans (hb.mono HB0.out.size)
    have HB1 := Lib.hid hb1
    have HBx1 := Lib.hid (HBx0.out.on hb)
    have HBox1 := Lib.hid (HBox.out.on hb)
    have hsz1 : w.heap.size + 1 + 1 ≤ w1.heap.size := Nat.le_trans hsW hb.size
    clear hb hb1 C x0 x1 x2 x3 x4 x5 HBx0 HBox
    have hR2 := wiR_yes HQ.out
    have HR := Lib.hid hR2
    have l4 := h4.strlen
    have l5 := h5.1
    have hz := sizes_of (big_of HQ.out).2.1
    have hn4 : n4 ≤ 1048576 := by omega
    have hn5 : n5 ≤ 1048576 := by omega
    have HL4 := Lib.hid l4
    have HL5 := Lib.hid l5
    have HN := Lib.hid hnil
    have HCs := Lib.hid (fun (w2 : World) (hb2 : Below w.heap.size w w2) => cloneS_any A4 n4 c4 b.outer w2 ((h4.below hb2).wide hb2.size) hn4 hnil.2.2.1)
    have HCw := Lib.hid (fun (w2 : World) (hb2 : Below w.heap.size w w2) => cloneW_any A5 n5 c5 b.inner w2 ((h5.below hb2).wide hb2.size) hn5 hnil.2.2.2)
    obtain ⟨x0, x1, x2, x3, x4, x5⟩ := HBox1.out.get
    clear hR2 l4 l5 hz hnil hn4 hn5
    have hkD := (Below.refl w1.heap.size w1).drew
    have hle : w.heap.size + 1 ≤ w.heap.size + 1 := Nat.le_refl _
    have hβl : w.heap.size < w.heap.size + 1 := Nat.lt_succ_self _
    have hs1 : w.heap.size + 1 ≤ w1.heap.size := by omega
    go_wp2_with fail
    go_region_held3 (fun w' => w'.cell? ⟨w.heap.size, 0, none⟩ = some (.int .i64 b.roots) ∧ w'.cell? ⟨w.heap.size, 1, none⟩ = some (.slice A1 n1 c1) ∧ w'.cell? ⟨w.heap.size, 2, none⟩ = some (.slice A2 n2 c2) ∧ w'.cell? ⟨w.heap.size, 3, none⟩ = some (.int .i64 b.edges) ∧ w'.cell? ⟨w.heap.size, 4, none⟩ = some (.slice A4 n4 c4) ∧ w'.cell? ⟨w.heap.size, 5, none⟩ = some (.slice A5 n5 c5)) (first | with_reducible exact (HBox1.out.below ((((((hkS.setCell hle _).setCell hle _).setCell hle _).setCell hle _).setCell hle _).setCell hle _) hβl).get | with_reducible exact (HBox1.out.on hk3).get | with_reducible exact (HBox1.out.on hk2).get | with_reducible exact (HBox1.out.on hkD).get)
      (first
       | (go_at_call 114; refine (HCs.out _ HB1.out.drew).mono ?_; rintro e w2 ⟨A4', c4', rfl, hr4, hn4, hb2⟩; have hk2 := hkD.trans (hb2.mono hkD.size))
       | (go_at_call 115; refine (HCw.out w2 (HB1.out.trans (hk2.mono HB1.out.size))).mono ?_; rintro e w3 ⟨A5', c5', rfl, hr5, hn5, hb3⟩; have hk3 := hk2.trans (hb3.mono hk2.size); have hr4 := hr4.on hb3; have hkS := hk3.mono hs1; have HBx3 := HBx1.out.on hk3; obtain ⟨z0, z1, z2, z3, z4, z5⟩ := HBx3.get; have f0 := World.rowIs.frozen HBx3 0; have f1 := World.rowIs.frozen HBx3 1; have f2 := World.rowIs.frozen HBx3 2; have f3 := World.rowIs.frozen HBx3 3; have f4 := World.rowIs.frozen HBx3 4; have f5 := World.rowIs.frozen HBx3 5))
    have HBR := Lib.hid (wiring_big (E := b.edges) (strs_row HL4.out (hr4.wide (lo' := w.heap.size) (Nat.le_trans HB1.out.size hkD.size) hb3.size)) (wrs_row HL5.out (hr5.wide (lo' := w.heap.size) (Nat.le_trans HB1.out.size hk2.size) (Nat.le_refl _))))
    rw [HL4.out, HL5.out] at HBR
    have HBB := Lib.hid (HB1.out.trans (hk3.mono HB1.out.size))
    clear hr4 hr5 hn4 hn5 hk2 hk3 hkS hkD hb2 hb3
    go_wp2_with fail
    have hbig := (sets6_big HBx3 HBR.out (.int .i64 0) (.slice none 0 0) (.slice none 0 0) (.int .i64 b.edges) (.slice A4' n4 c4') (.slice A5' n5 c5')).here
    have hbel := sets6_below HBB.out (show w.heap.size ≤ w.heap.size + 1 from Nat.le_succ _) (.int .i64 0) (.slice none 0 0) (.slice none 0 0) (.int .i64 b.edges) (.slice A4' n4 c4') (.slice A5' n5 c5')
    unfold sets6 at hbig hbel
    refine bodyPost_ret (v := .tuple #[.agg #[.int .i64 0, .slice none 0 0, .slice none 0 0, .int .i64 b.edges, .slice A4' n4 c4', .slice A5' n5 c5'], .bool true]) (by simp [results, Try.results50, go_sem, z0, z1, z2, z3, z4, z5]) rfl ⟨_, rfl, by rw [HR.out]; exact hbig, hbel⟩

set_option maxRecDepth 20000 in
set_option maxHeartbeats 3200000 in
theorem sWi_any (A : Option Addr) (n c : Nat) (cs : List Ctl) (v : Value) (b : Big) (w : World) (hC : CtlsAt w w.heap.size A n cs) (hn : n ≤ 1048576) (hs : ∀ c ∈ cs, c.name.size ≤ 1048576) (hv : BigAt w w.heap.size v b) (hS : BigS b) (hw : BigW b) (hN : NilV v) :
    Calls Try.prog 49 #[.slice A n c, v] w (BigPost (bigB cs b) (wiR cs b) w) := by
  obtain ⟨A1, n1, c1, A2, n2, c2, A4, n4, c4, A5, n5, c5, rfl, h1, h2, h4, h5⟩ := hv
  have hnil := hN.get
  have hbx := (Below.refl w.heap.size w).alloc (Nat.le_refl _) (.cells #[.int .i64 b.roots, .slice A1 n1 c1, .slice A2 n2 c2, .int .i64 b.edges, .slice A4 n4 c4, .slice A5 n5 c5] 37)
  have HBoxI : Hid (BoxAt (w.alloc (.cells #[.int .i64 b.roots, .slice A1 n1 c1, .slice A2 n2 c2, .int .i64 b.edges, .slice A4 n4 c4, .slice A5 n5 c5] 37)) w.heap.size 37 (.int .i64 b.roots) (.slice A1 n1 c1) (.slice A2 n2 c2) (.int .i64 b.edges) (.slice A4 n4 c4) (.slice A5 n5 c5)) := Lib.hid (six_new w _ _ _ _ _ _ _)
  obtain ⟨W0, hW0⟩ : ∃ W, w.alloc (.cells #[.int .i64 b.roots, .slice A1 n1 c1, .slice A2 n2 c2, .int .i64 b.edges, .slice A4 n4 c4, .slice A5 n5 c5] 37) = W := ⟨_, rfl⟩
  have hWz0 : W0.heap.size = w.heap.size + 1 := by rw [← hW0]; simp
  rw [hW0] at hbx HBoxI
  have hb0 := (Below.refl W0.heap.size W0).alloc (Nat.le_refl _) (.cells #[.int .i64 0, .slice none 0 0, .slice none 0 0, .int .i64 0, .slice none 0 0, .slice none 0 0] 37)
  have HBx0 : Hid (BoxAt (W0.alloc (.cells #[.int .i64 0, .slice none 0 0, .slice none 0 0, .int .i64 0, .slice none 0 0, .slice none 0 0] 37)) W0.heap.size 37 (.int .i64 0) (.slice none 0 0) (.slice none 0 0) (.int .i64 0) (.slice none 0 0) (.slice none 0 0)) := Lib.hid (six_new W0 _ _ _ _ _ _ _)
  have HBox := Lib.hid (HBoxI.out.on hb0)
  obtain ⟨W, hW⟩ : ∃ W, W0.alloc (.cells #[.int .i64 0, .slice none 0 0, .slice none 0 0, .int .i64 0, .slice none 0 0, .slice none 0 0] 37) = W := ⟨_, rfl⟩
  have hWz : W.heap.size = w.heap.size + 1 + 1 := by rw [← hW]; simp; exact hWz0
  rw [hW] at hb0 HBx0 HBox
  rw [hWz0] at HBx0
  have HWq0 := Lib.hid hW0
  have HWq := Lib.hid hW
  have HB0 := Lib.hid (hbx.trans (hb0.mono hbx.size))
  have HWz := Lib.hid hWz
  have hVW : BigAt W W.heap.size (.agg #[.int .i64 b.roots, .slice A1 n1 c1, .slice A2 n2 c2, .int .i64 b.edges, .slice A4 n4 c4, .slice A5 n5 c5]) b := BigAt.wide (BigAt.below ⟨_, _, _, _, _, _, _, _, _, _, _, _, rfl, h1, h2, h4, h5⟩ HB0.out) HB0.out.size
  clear hW0 hW hb0 hWz hWz0 hbx HBoxI hN
  have C := l2Good_any A n c cs _ b W ((hC.below HB0.out).wide HB0.out.size) hVW hn hs hS hw
  have hsW : w.heap.size + 1 + 1 ≤ W.heap.size := by rw [HWz.out]; exact Nat.le_refl _
  obtain ⟨x0, x1, x2, x3, x4, x5⟩ := HBox.out.get
  clear hVW hs
  cases hq : bigB cs b with
  | false =>
    rw [hq] at C
    have HR := Lib.hid (wiR_no hq)
    clear hq
    go_enter Try.func49, Try.ntmps49
    go_wp2_with fail
    rw [HWq0.out, HWq.out]
    go_wp2_with fail
    refine C.mono ?_
    rintro e w1 ⟨rfl, hb⟩
    have hb1 := HB0.out.trans (hb.mono HB0.out.size)
    have HBx1 := Lib.hid (HBx0.out.on hb)
    clear hb C x0 x1 x2 x3 x4 x5
    obtain ⟨z0, z1, z2, z3, z4, z5⟩ := HBx1.out.get
    have f0 := World.rowIs.frozen HBx1.out 0
    have f1 := World.rowIs.frozen HBx1.out 1
    have f2 := World.rowIs.frozen HBx1.out 2
    have f3 := World.rowIs.frozen HBx1.out 3
    have f4 := World.rowIs.frozen HBx1.out 4
    have f5 := World.rowIs.frozen HBx1.out 5
    go_wp2_with fail
    refine bodyPost_ret (v := .tuple #[.agg #[.int .i64 0, .slice none 0 0, .slice none 0 0, .int .i64 0, .slice none 0 0, .slice none 0 0], .bool false]) (by simp [results, Try.results49, go_sem, z0, z1, z2, z3, z4, z5]) rfl ⟨_, rfl, by rw [HR.out]; exact BigR.zero, sets6_below hb1 (by omega) _ _ _ _ _ _⟩
  | true =>
    rw [hq] at C
    have HQ := Lib.hid hq
    clear hq
    go_enter Try.func49, Try.ntmps49
    go_wp2_with fail
    rw [HWq0.out, HWq.out]
    go_wp2_with fail
    refine C.mono ?_
    rintro e w1 ⟨rfl, hb⟩
    have hb1 := HB0.out.trans (hb.mono HB0.out.size)
    have HB1 := Lib.hid hb1
    have HBx1 := Lib.hid (HBx0.out.on hb)
    have HBox1 := Lib.hid (HBox.out.on hb)
    have hsz1 : w.heap.size + 1 + 1 ≤ w1.heap.size := Nat.le_trans hsW hb.size
    clear hb hb1 C x0 x1 x2 x3 x4 x5 HBx0 HBox
    have HR := Lib.hid (wiR_yes HQ.out)
    obtain ⟨i0, hi, hz0, hz1, hz2⟩ := info_parts str_info
    have HI := Lib.hid (And.intro hi (And.intro hz0 (And.intro hz1 hz2)))
    obtain ⟨j0, hj, hy0, hy1, hy2⟩ := info_parts wire_info
    have HJ := Lib.hid (And.intro hj (And.intro hy0 (And.intro hy1 hy2)))
    have hz := sizes_of (big_of HQ.out).2.1
    have HL4 := Lib.hid h4.strlen
    have HL5 := Lib.hid h5.1
    have hn4 : n4 ≤ 16 := by have := HL4.out; omega
    have hn5 : n5 ≤ 16 := by have := HL5.out; omega
    have HZ4 := Lib.hid (fun e : A4 = none => And.intro (sr_zero h4 e) (hnil.2.2.1 e))
    have HZ5 := Lib.hid (fun e : A5 = none => And.intro (wrs_zero h5 e) (hnil.2.2.2 e))
    have e1 : 0 + n4 ≤ maxLen := by unfold maxLen; omega
    have e2 : (0 + n4) * 16 ≤ 140737488355328 := by omega
    have e3 : 0 + n5 ≤ maxLen := by unfold maxLen; omega
    have e4 : (0 + n5) * 24 ≤ 140737488355328 := by omega
    have e5 : ∀ u ∈ b.outer.map Value.string, u.oneCell' = true := fun u hu => by obtain ⟨s, _, rfl⟩ := List.mem_map.1 hu; rfl
    have e6 : (b.outer.map Value.string).length = n4 * 1 := by rw [List.length_map, HL4.out, Nat.mul_one]
    have e7 : (wcs b.inner).length = n5 * 2 := by rw [wcs_len, HL5.out]
    have HB1' := Lib.hid HB1.out
    obtain ⟨x0, x1, x2, x3, x4, x5⟩ := HBox1.out.get
    clear hz hnil hi hz0 hz1 hz2 hj hy0 hy1 hy2
    go_wp2_with fail
    have hkD := (Below.refl w1.heap.size w1).drew
    have hle : w.heap.size + 1 ≤ w.heap.size + 1 := Nat.le_refl _
    have hle1 : w1.heap.size ≤ (w1.alloc (.cells #[] 9)).heap.size := by rw [World.size_alloc]; omega
    have hle2 : w1.heap.size ≤ (w1.alloc (.cells #[] 76)).heap.size := by rw [World.size_alloc]; omega
    have hβl : w.heap.size < w.heap.size + 1 := Nat.lt_succ_self _
    have hs1 : w.heap.size + 1 ≤ w1.heap.size := by omega
    have e8 := wcs_one b.inner
    go_region_held3 (fun w' => w'.cell? ⟨w.heap.size, 0, none⟩ = some (.int .i64 b.roots) ∧ w'.cell? ⟨w.heap.size, 1, none⟩ = some (.slice A1 n1 c1) ∧ w'.cell? ⟨w.heap.size, 2, none⟩ = some (.slice A2 n2 c2) ∧ w'.cell? ⟨w.heap.size, 3, none⟩ = some (.int .i64 b.edges) ∧ w'.cell? ⟨w.heap.size, 4, none⟩ = some (.slice A4 n4 c4) ∧ w'.cell? ⟨w.heap.size, 5, none⟩ = some (.slice A5 n5 c5)) (first | with_reducible exact (HBox1.out.below ((((((hkS.setCell hle _).setCell hle _).setCell hle _).setCell hle _).setCell hle _).setCell hle _) hβl).get | with_reducible exact (HBox1.out.on hk3).get | with_reducible exact (HBox1.out.on (hk2.alloc hk2.size _)).get | with_reducible exact (HBox1.out.on hk2).get | with_reducible exact (HBox1.out.on ((Below.refl w1.heap.size w1).alloc (Nat.le_refl _) _).drew).get | with_reducible exact (HBox1.out.on (((Below.refl w1.heap.size w1).alloc (Nat.le_refl _) _).alloc hle1 _).drew).get | with_reducible exact (HBox1.out.on (((Below.refl w1.heap.size w1).alloc (Nat.le_refl _) _).alloc hle2 _).drew).get | with_reducible exact (HBox1.out.on hkD).get)
      (first
       | ((with_reducible refine guard_world (drew_owns (ownsRow_nil_new w1 9 1 w1.heap.size (Nat.le_refl _))) ?_); refine step_append_src rfl _ _ 25 rfl w1.heap.size 9 i0 (.string ⟨#[]⟩) 1 16 Try.underlying25 HI.out.1 HI.out.2.1 HI.out.2.2.1 HI.out.2.2.2 rfl (by decide) _ _ _ (by first | rfl | simp [Act.eval, Act.put]) (drew_owns (ownsRow_nil_new w1 9 1 w1.heap.size (Nat.le_refl _))) A4 n4 c4 (b.outer.map Value.string) (by first | rfl | simp [Act.eval, Act.put]) HZ4.out e6 (sr_src (h4.below (HB1.out.trans (((Below.refl w1.heap.size w1).alloc (Nat.le_refl _) (.cells #[] 9)).drew.mono HB1.out.size)))) e5 e1 e2 ((Below.refl w1.heap.size w1).alloc (Nat.le_refl _) (.cells #[] 9)).drew.size ?_; intro v1 w2 hown1 hgrow1; have hk2 := (((Below.refl w1.heap.size w1).alloc (Nat.le_refl _) (.cells #[] 9)).drew).grown hgrow1 (((Below.refl w1.heap.size w1).alloc (Nat.le_refl _) (.cells #[] 9)).drew).size (fun j hj => (((drew_owns (ownsRow_nil_new w1 9 1 w1.heap.size (Nat.le_refl _)))).lt j hj).1); have HO1 := Lib.hid (show w2.ownsRow w1.heap.size 9 1 v1 n4 (b.outer.map Value.string) by rw [Nat.zero_add, List.nil_append] at hown1; exact hown1); clear hown1 hgrow1; obtain ⟨A4', c4', rfl, -⟩ := rowR_owns HO1.out)
       | ((with_reducible refine guard_world (drew_owns (owns_alloc (ownsRow_nil_new w1 9 1 w1.heap.size (Nat.le_refl _)) (.cells #[] 76))) ?_); refine step_append_src rfl _ _ 25 rfl w1.heap.size 9 i0 (.string ⟨#[]⟩) 1 16 Try.underlying25 HI.out.1 HI.out.2.1 HI.out.2.2.1 HI.out.2.2.2 rfl (by decide) _ _ _ (by first | rfl | simp [Act.eval, Act.put]) (drew_owns (owns_alloc (ownsRow_nil_new w1 9 1 w1.heap.size (Nat.le_refl _)) (.cells #[] 76))) A4 n4 c4 (b.outer.map Value.string) (by first | rfl | simp [Act.eval, Act.put]) HZ4.out e6 (sr_src (h4.below (HB1.out.trans ((((Below.refl w1.heap.size w1).alloc (Nat.le_refl _) (.cells #[] 9)).alloc hle1 (.cells #[] 76)).drew.mono HB1.out.size)))) e5 e1 e2 (((Below.refl w1.heap.size w1).alloc (Nat.le_refl _) (.cells #[] 9)).alloc hle1 (.cells #[] 76)).drew.size ?_; intro v1 w2 hown1 hgrow1; have hk2 := ((((Below.refl w1.heap.size w1).alloc (Nat.le_refl _) (.cells #[] 9)).alloc hle1 (.cells #[] 76)).drew).grown hgrow1 ((((Below.refl w1.heap.size w1).alloc (Nat.le_refl _) (.cells #[] 9)).alloc hle1 (.cells #[] 76)).drew).size (fun j hj => (((drew_owns (owns_alloc (ownsRow_nil_new w1 9 1 w1.heap.size (Nat.le_refl _)) (.cells #[] 76)))).lt j hj).1); have HO2 := Lib.hid (owns_apart (drew_owns (nil_second w1 76 2 (.cells #[] 9))) (drew_owns (owns_alloc (ownsRow_nil_new w1 9 1 w1.heap.size (Nat.le_refl _)) (.cells #[] 76))) (by decide) hgrow1); have HO1 := Lib.hid (show w2.ownsRow w1.heap.size 9 1 v1 n4 (b.outer.map Value.string) by rw [Nat.zero_add, List.nil_append] at hown1; exact hown1); clear hown1 hgrow1; obtain ⟨A4', c4', rfl, -⟩ := rowR_owns HO1.out)
       | ((with_reducible refine guard_world (drew_owns (nil_second w1 9 1 (.cells #[] 76))) ?_); refine step_append_src rfl _ _ 25 rfl w1.heap.size 9 i0 (.string ⟨#[]⟩) 1 16 Try.underlying25 HI.out.1 HI.out.2.1 HI.out.2.2.1 HI.out.2.2.2 rfl (by decide) _ _ _ (by first | rfl | simp [Act.eval, Act.put]) (drew_owns (nil_second w1 9 1 (.cells #[] 76))) A4 n4 c4 (b.outer.map Value.string) (by first | rfl | simp [Act.eval, Act.put]) HZ4.out e6 (sr_src (h4.below (HB1.out.trans ((((Below.refl w1.heap.size w1).alloc (Nat.le_refl _) (.cells #[] 76)).alloc hle2 (.cells #[] 9)).drew.mono HB1.out.size)))) e5 e1 e2 (((Below.refl w1.heap.size w1).alloc (Nat.le_refl _) (.cells #[] 76)).alloc hle2 (.cells #[] 9)).drew.size ?_; intro v1 w2 hown1 hgrow1; have hk2 := ((((Below.refl w1.heap.size w1).alloc (Nat.le_refl _) (.cells #[] 76)).alloc hle2 (.cells #[] 9)).drew).grown hgrow1 ((((Below.refl w1.heap.size w1).alloc (Nat.le_refl _) (.cells #[] 76)).alloc hle2 (.cells #[] 9)).drew).size (fun j hj => (((drew_owns (nil_second w1 9 1 (.cells #[] 76)))).lt j hj).1); have HO2 := Lib.hid (owns_apart (drew_owns (owns_alloc (ownsRow_nil_new w1 76 2 w1.heap.size (Nat.le_refl _)) (.cells #[] 9))) (drew_owns (nil_second w1 9 1 (.cells #[] 76))) (by decide) hgrow1); have HO1 := Lib.hid (show w2.ownsRow w1.heap.size 9 1 v1 n4 (b.outer.map Value.string) by rw [Nat.zero_add, List.nil_append] at hown1; exact hown1); clear hown1 hgrow1; obtain ⟨A4', c4', rfl, -⟩ := rowR_owns HO1.out)
       | ((with_reducible refine guard_world HO2.out ?_); refine step_append_src rfl _ _ 35 rfl w1.heap.size 76 j0 (.agg #[.string ⟨#[]⟩, .int .i64 0]) 2 24 Try.underlying35 HJ.out.1 HJ.out.2.1 HJ.out.2.2.1 HJ.out.2.2.2 rfl (by decide) _ _ _ (by first | rfl | simp [Act.eval, Act.put]) HO2.out A5 n5 c5 (wcs b.inner) (by first | rfl | simp [Act.eval, Act.put]) HZ5.out e7 (wrs_src (h5.below (HB1.out.trans (hk2.mono HB1.out.size)))) e8 e3 e4 hk2.size ?_; intro v2 w3 hown2 hgrow2; have hk3 := (hk2).grown hgrow2 (hk2).size (fun j hj => ((HO2.out).lt j hj).1); have HP1 := Lib.hid (owns_apart HO1.out HO2.out (by decide) hgrow2); have HP2 := Lib.hid (show w3.ownsRow w1.heap.size 76 2 v2 n5 (wcs b.inner) by rw [Nat.zero_add, List.nil_append] at hown2; exact hown2); clear hown2 hgrow2; obtain ⟨A5', c5', rfl, -⟩ := rowR_owns HP2.out; have hkS := hk3.mono hs1; have HBx3 := HBx1.out.on hk3; obtain ⟨z0, z1, z2, z3, z4, z5⟩ := HBx3.get; have f0 := World.rowIs.frozen HBx3 0; have f1 := World.rowIs.frozen HBx3 1; have f2 := World.rowIs.frozen HBx3 2; have f3 := World.rowIs.frozen HBx3 3; have f4 := World.rowIs.frozen HBx3 4; have f5 := World.rowIs.frozen HBx3 5)
       | ((with_reducible refine guard_world (ownsRow_nil_new w2 76 2 w1.heap.size hk2.size) ?_); refine step_append_src rfl _ _ 35 rfl w1.heap.size 76 j0 (.agg #[.string ⟨#[]⟩, .int .i64 0]) 2 24 Try.underlying35 HJ.out.1 HJ.out.2.1 HJ.out.2.2.1 HJ.out.2.2.2 rfl (by decide) _ _ _ (by first | rfl | simp [Act.eval, Act.put]) (ownsRow_nil_new w2 76 2 w1.heap.size hk2.size) A5 n5 c5 (wcs b.inner) (by first | rfl | simp [Act.eval, Act.put]) HZ5.out e7 (wrs_src (h5.below (HB1.out.trans ((hk2.alloc hk2.size (.cells #[] 76)).mono HB1.out.size)))) e8 e3 e4 (hk2.alloc hk2.size (.cells #[] 76)).size ?_; intro v2 w3 hown2 hgrow2; have hk3 := ((hk2.alloc hk2.size (.cells #[] 76))).grown hgrow2 ((hk2.alloc hk2.size (.cells #[] 76))).size (fun j hj => (((ownsRow_nil_new w2 76 2 w1.heap.size hk2.size)).lt j hj).1); have HP1 := Lib.hid (owns_apart (owns_alloc HO1.out (.cells #[] 76)) (ownsRow_nil_new w2 76 2 w1.heap.size hk2.size) (by decide) hgrow2); have HP2 := Lib.hid (show w3.ownsRow w1.heap.size 76 2 v2 n5 (wcs b.inner) by rw [Nat.zero_add, List.nil_append] at hown2; exact hown2); clear hown2 hgrow2; obtain ⟨A5', c5', rfl, -⟩ := rowR_owns HP2.out; have hkS := hk3.mono hs1; have HBx3 := HBx1.out.on hk3; obtain ⟨z0, z1, z2, z3, z4, z5⟩ := HBx3.get; have f0 := World.rowIs.frozen HBx3 0; have f1 := World.rowIs.frozen HBx3 1; have f2 := World.rowIs.frozen HBx3 2; have f3 := World.rowIs.frozen HBx3 3; have f4 := World.rowIs.frozen HBx3 4; have f5 := World.rowIs.frozen HBx3 5))
    all_goals (go_wp2_with fail)
    all_goals (have HBR := Lib.hid (wiring_big (E := b.edges) (strs_row HL4.out ((owned_strs HP1.out HL4.out).wide (lo' := w.heap.size) HB1.out.size (Nat.le_refl _))) (wrs_row HL5.out ((owned_wrs HP2.out HL5.out).wide (lo' := w.heap.size) HB1.out.size (Nat.le_refl _)))))
    all_goals (rw [HL4.out, HL5.out] at HBR)
    all_goals (have HBB := Lib.hid (HB1.out.trans (hk3.mono HB1.out.size)))
    all_goals (have HQQ := Lib.hid (And.intro (sets6_big HBx3 HBR.out (.int .i64 0) (.slice none 0 0) (.slice none 0 0) (.int .i64 b.edges) (.slice A4' n4 c4') (.slice A5' n5 c5')).here (sets6_below HBB.out (show w.heap.size ≤ w.heap.size + 1 from Nat.le_succ _) (.int .i64 0) (.slice none 0 0) (.slice none 0 0) (.int .i64 b.edges) (.slice A4' n4 c4') (.slice A5' n5 c5'))))
    all_goals (clear hk3 hkS hk2 HBR HBB HP1 HP2)
    all_goals (unfold sets6 at HQQ)
    all_goals exact bodyPost_ret (v := .tuple #[.agg #[.int .i64 0, .slice none 0 0, .slice none 0 0, .int .i64 b.edges, .slice A4' n4 c4', .slice A5' n5 c5'], .bool true]) (by simp [results, Try.results49, go_sem, z0, z1, z2, z3, z4, z5]) rfl ⟨_, rfl, by rw [HR.out]; exact HQQ.out.1, HQQ.out.2⟩


end Go.Proofs.Ytemahmnchcnfeaa.wi
