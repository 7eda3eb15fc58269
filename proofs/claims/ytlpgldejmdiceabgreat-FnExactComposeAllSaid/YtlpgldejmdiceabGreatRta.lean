/- impl.retargeted: the whole. -/
import Derived.Test.YtlpgldejmdiceabGreatRtg
namespace Go.Proofs.YtlpgldejmdiceabGreat.rta
open kit bg sg opn strs only hb sig isig un over gn nm inn ht gd im pt marks eqs hc hi hw hn rs br bm bw cf lf ib isa lawb lw cl rt ix tg rl ed tp over rtg
open Go.RowKit
set_option linter.unusedVariables false
set_option linter.unusedSimpArgs false
theorem _root_.Go.Proofs.YtlpgldejmdiceabGreat.cf.BoxAt.put4 {w : World} {β : Nat} {t : TypeId} {v0 v1 v2 v3 v4 v5 : Value} (h : BoxAt w β t v0 v1 v2 v3 v4 v5) (u : Value) : BoxAt (w.setCell ⟨β, 4, none⟩ u) β t v0 v1 v2 v3 u v5 := by
  have h6 : (w.setCell ⟨β, 4, none⟩ u).rowIs β t 6 _ := World.rowIs.set h 4 u
  unfold BoxAt
  refine h6.congr ?_
  intro i hi
  match i, hi with
  | 0, _ => rfl
  | 1, _ => rfl
  | 2, _ => rfl
  | 3, _ => rfl
  | 4, _ => rfl
  | 5, _ => rfl
theorem Laid.newO {w : World} {lo hi c : Nat} {P : Plan} {b : Big} {A : Option Addr} {ss : List ByteArray} (h : Laid w lo hi P b) (hr : RowR w lo hi 9 1 A ss.length c (at_ ss)) (E : Int) : Laid w lo hi ⟨P.A1, P.c1, P.A2, P.c2, A, c, P.A5, P.c5, P.LA, P.LC⟩ ⟨b.roots, b.nodes, b.sites, E, ss, b.inner⟩ := ⟨h.1, h.2.1, h.2.2.1, hr, h.2.2.2.2⟩
theorem link_in {cs : List Ctl} {b : Big} (h : bigB cs b = true) : (∀ x ∈ b.nodes, ∀ l ∈ x.links, 0 ≤ l ∧ l < b.edges + b.outer.length) ∧ ∀ x ∈ b.inner, 0 ≤ x.link ∧ x.link < b.edges + b.outer.length := by
  refine ⟨fun x hx l hl => ?_, fun x hx => ?_⟩
  · obtain ⟨k, hk⟩ := List.getElem?_of_mem hx
    obtain ⟨i, hi⟩ := List.getElem?_of_mem hl
    have := inb_true (show inb l 0 (b.edges + b.outer.length - 1) = true from ((big_of h).2.2.2.2.1 k x hk).2.2 i l hi)
    omega
  · obtain ⟨i, hi⟩ := List.getElem?_of_mem hx
    have := inb_true (show inb x.link 0 (b.edges + b.outer.length - 1) = true from (big_of h).2.2.2.2.2.2 i x hi)
    omega
theorem one_cell (w : World) (u : Value) (t : TypeId) : (w.alloc (.cells #[u] t)).cell? ⟨w.heap.size, 0, none⟩ = some u := ((row_new w #[u] t 1 rfl).cell (show 0 < 1 by omega) : _)
set_option maxRecDepth 20000 in
set_option maxHeartbeats 6400000 in
theorem ret_any (G : FuncId) (lb : Array Value) (f : Tgt → Tgt) (cs : List Ctl) (v : Value) (b : Big) (E : Int) (Ao : Option Addr) (no co : Nat) (ou : List ByteArray) (w : World) (eg : ∀ args w, (callFunc G args).run Tryz.prog w = .ok (.enter G args) w)
    (hG : ∀ l Y, (0 ≤ l ∧ l < b.edges + b.outer.length) → Below w.heap.size w Y → Calls Tryz.prog G (#[tgV (tgOf b l)] ++ lb) Y fun e w' => e = .returned (tgV (f (tgOf b l))) ∧ Below Y.heap.size Y w')
    (hv : BigAt w w.heap.size v b) (hS : BigS b) (hN : NilV v) (hg : bigB cs b = true) (hso : SR w w.heap.size Ao no (ou.map Value.string)) (hno : no ≤ 1048576) (h0o : Ao = none → co = 0) (hEE : -1000 ≤ E ∧ E ≤ 1000) :
    Calls Tryz.prog 89 #[v, .int .i64 E, .slice Ao no co, .func (.func G) #[] lb] w fun e w' => ∃ v', e = .returned v' ∧ BigR w' w.heap.size w'.heap.size v' (reB b f E ou) ∧ Below w.heap.size w w' := by
  obtain ⟨A1, n1, c1, A2, n2, c2, A4, n4, c4, A5, n5, c5, rfl, h1, h2, h4, h5⟩ := hv
  have hz := sizes_of (big_of hg).2.1
  have hb1 := (Below.refl w.heap.size w).alloc (Nat.le_refl _) (.cells #[.int .i64 b.roots, .slice A1 n1 c1, .slice A2 n2 c2, .int .i64 b.edges, .slice A4 n4 c4, .slice A5 n5 c5] 31)
  have HBox1 : BoxAt (w.alloc (.cells #[.int .i64 b.roots, .slice A1 n1 c1, .slice A2 n2 c2, .int .i64 b.edges, .slice A4 n4 c4, .slice A5 n5 c5] 31)) w.heap.size 31 (.int .i64 b.roots) (.slice A1 n1 c1) (.slice A2 n2 c2) (.int .i64 b.edges) (.slice A4 n4 c4) (.slice A5 n5 c5) := six_new w _ _ _ _ _ _ _
  obtain ⟨U1, hU1⟩ : ∃ U, w.alloc (.cells #[.int .i64 b.roots, .slice A1 n1 c1, .slice A2 n2 c2, .int .i64 b.edges, .slice A4 n4 c4, .slice A5 n5 c5] 31) = U := ⟨_, rfl⟩
  have hz1 : U1.heap.size = w.heap.size + 1 := by rw [← hU1, World.size_alloc]
  rw [hU1] at hb1 HBox1
  have hb2 := (Below.refl U1.heap.size U1).alloc (Nat.le_refl _) (.cells #[.int .i64 E] 3)
  have hcE := one_cell U1 (.int .i64 E) 3
  obtain ⟨U2, hU2⟩ : ∃ U, U1.alloc (.cells #[.int .i64 E] 3) = U := ⟨_, rfl⟩
  have hz2 : U2.heap.size = w.heap.size + 1 + 1 := by rw [← hU2, World.size_alloc, hz1]
  rw [hU2] at hb2 hcE
  have hb3 := (Below.refl U2.heap.size U2).alloc (Nat.le_refl _) (.cells #[.slice Ao no co] 28)
  have hcO := one_cell U2 (.slice Ao no co) 28
  obtain ⟨U3, hU3⟩ : ∃ U, U2.alloc (.cells #[.slice Ao no co] 28) = U := ⟨_, rfl⟩
  have hz3 : U3.heap.size = w.heap.size + 1 + 1 + 1 := by rw [← hU3, World.size_alloc, hz2]
  rw [hU3] at hb3 hcO
  have hb4 := (Below.refl U3.heap.size U3).alloc (Nat.le_refl _) (.cells #[.func (.func G) #[] lb] 116)
  have hcF := one_cell U3 (.func (.func G) #[] lb) 116
  obtain ⟨U4, hU4⟩ : ∃ U, U3.alloc (.cells #[.func (.func G) #[] lb] 116) = U := ⟨_, rfl⟩
  have hz4 : U4.heap.size = w.heap.size + 1 + 1 + 1 + 1 := by rw [← hU4, World.size_alloc, hz3]
  rw [hU4] at hb4 hcF
  have hb5 := (Below.refl U4.heap.size U4).alloc (Nat.le_refl _) (.cells #[.int .i64 0, .slice none 0 0, .slice none 0 0, .int .i64 0, .slice none 0 0, .slice none 0 0] 31)
  have HBx5 : BoxAt (U4.alloc (.cells #[.int .i64 0, .slice none 0 0, .slice none 0 0, .int .i64 0, .slice none 0 0, .slice none 0 0] 31)) U4.heap.size 31 (.int .i64 0) (.slice none 0 0) (.slice none 0 0) (.int .i64 0) (.slice none 0 0) (.slice none 0 0) := six_new U4 _ _ _ _ _ _ _
  obtain ⟨W, hW⟩ : ∃ U, U4.alloc (.cells #[.int .i64 0, .slice none 0 0, .slice none 0 0, .int .i64 0, .slice none 0 0, .slice none 0 0] 31) = U := ⟨_, rfl⟩
  have hz5 : W.heap.size = w.heap.size + 1 + 1 + 1 + 1 + 1 := by rw [← hW, World.size_alloc, hz4]
  rw [hW] at hb5 HBx5
  have HB0 := Lib.hid (((hb1.trans (hb2.mono hb1.size)).trans (((hb3.trans (hb4.mono hb3.size)).trans (hb5.mono (by omega))).mono (by omega))))
  have hcE' := (hb5.cell (p := ⟨U1.heap.size, 0, none⟩) (by dsimp only; omega)).trans ((hb4.cell (p := ⟨U1.heap.size, 0, none⟩) (by dsimp only; omega)).trans ((hb3.cell (p := ⟨U1.heap.size, 0, none⟩) (by dsimp only; omega)).trans hcE))
  have hcO' := (hb5.cell (p := ⟨U2.heap.size, 0, none⟩) (by dsimp only; omega)).trans ((hb4.cell (p := ⟨U2.heap.size, 0, none⟩) (by dsimp only; omega)).trans hcO)
  have hcF' := (hb5.cell (p := ⟨U3.heap.size, 0, none⟩) (by dsimp only; omega)).trans hcF
  rw [hz1] at hcE'
  rw [hz2] at hcO'
  rw [hz3] at hcF'
  rw [hz4] at HBx5
  have HcE := Lib.hid hcE'
  have HcO := Lib.hid hcO'
  have HcF := Lib.hid hcF'
  have HBox := Lib.hid ((((HBox1.on hb2).on hb3).on hb4).on hb5)
  have HBx0 := Lib.hid HBx5
  have HQ1 := Lib.hid hU1
  have HQ2 := Lib.hid hU2
  have HQ3 := Lib.hid hU3
  have HQ4 := Lib.hid hU4
  have HQ5 := Lib.hid hW
  have HWz := Lib.hid hz5
  have hVW : BigAt W W.heap.size (.agg #[.int .i64 b.roots, .slice A1 n1 c1, .slice A2 n2 c2, .int .i64 b.edges, .slice A4 n4 c4, .slice A5 n5 c5]) b := BigAt.wide (BigAt.below ⟨_, _, _, _, _, _, _, _, _, _, _, _, rfl, h1, h2, h4, h5⟩ HB0.out) HB0.out.size
  have hlk := link_in hg
  have HC := Lib.hid (relinked_any 113 #[.pointer (some ⟨w.heap.size + 1 + 1 + 1, 0, none⟩), .pointer (some ⟨w.heap.size, 0, none⟩), .pointer (some ⟨w.heap.size + 1, 0, none⟩), .pointer (some ⟨w.heap.size + 1 + 1, 0, none⟩)] (reL b f E ou) (fun l => 0 ≤ l ∧ l < b.edges + b.outer.length) (.agg #[.int .i64 b.roots, .slice A1 n1 c1, .slice A2 n2 c2, .int .i64 b.edges, .slice A4 n4 c4, .slice A5 n5 c5]) b W (enters_of Tryz.func113 (by kernel_rfl) rfl)
    (fun l Z hl0 hZ => by
      rw [show (#[.int .i64 l] ++ #[.pointer (some ⟨w.heap.size + 1 + 1 + 1, 0, none⟩), .pointer (some ⟨w.heap.size, 0, none⟩), .pointer (some ⟨w.heap.size + 1, 0, none⟩), .pointer (some ⟨w.heap.size + 1 + 1, 0, none⟩)] : Array Value) = #[.int .i64 l, .pointer (some ⟨w.heap.size + 1 + 1 + 1, 0, none⟩), .pointer (some ⟨w.heap.size, 0, none⟩), .pointer (some ⟨w.heap.size + 1, 0, none⟩), .pointer (some ⟨w.heap.size + 1 + 1, 0, none⟩)] from rfl]
      have hwZ := HB0.out.trans (hZ.mono HB0.out.size)
      have hZs := hZ.size
      exact re1_any G lb f b A1 n1 c1 A2 n2 c2 A4 n4 c4 A5 n5 c5 E Ao no co ou l (w.heap.size + 1 + 1 + 1) w.heap.size (w.heap.size + 1) (w.heap.size + 1 + 1) Z eg (fun Y hY => hG l Y hl0 (hwZ.trans (hY.mono hwZ.size)))
        (BigAt.wide (BigAt.below ⟨_, _, _, _, _, _, _, _, _, _, _, _, rfl, h1, h2, h4, h5⟩ hwZ) hwZ.size) (HBox.out.on hZ) ((hZ.cell (p := ⟨w.heap.size + 1 + 1 + 1, 0, none⟩) (by dsimp only; omega)).trans HcF.out) ((hZ.cell (p := ⟨w.heap.size + 1, 0, none⟩) (by dsimp only; omega)).trans HcE.out) ((hZ.cell (p := ⟨w.heap.size + 1 + 1, 0, none⟩) (by dsimp only; omega)).trans HcO.out) ((hso.below hwZ).wide hwZ.size) hno hl0 hz.2.1 hz.2.2.2.2.1 hEE ⟨by omega, by omega, by omega⟩)
    hVW hS hN hlk.1 hlk.2)
  have HLe := Lib.hid (show (relB (reL b f E ou) b).roots = b.roots ∧ (relB (reL b f E ou) b).nodes.length = n1 ∧ (relB (reL b f E ou) b).sites.length = n2 ∧ (relB (reL b f E ou) b).edges = b.edges ∧ (relB (reL b f E ou) b).outer.length = n4 ∧ (relB (reL b f E ou) b).inner.length = n5 from ⟨rfl, by simp only [relB, List.length_map]; exact h1.1, h2.len, rfl, h4.strlen, by simp only [relB, List.length_map]; exact h5.1⟩)
  have HSo := Lib.hid hso
  have HLo := Lib.hid hso.strlen
  have hWz := hz5
  clear hz1 hz2 hz3 hz4 hz5 hb1 hb2 hb3 hb4 hb5 HBox1 HBx5 hcE hcO hcF hcE' hcO' hcF' hU1 hU2 hU3 hU4 hW hVW hlk hG hS hN hg hz h1 h2 h4 h5 hso eg
  obtain ⟨x0, x1, x2, x3, x4, x5⟩ := HBox.out.get
  go_enter Tryz.func89, Tryz.ntmps89
  go_wp2_with fail
  rw [HQ1.out, HQ2.out, HQ3.out, HQ4.out, HQ5.out]
  refine HC.out.mono ?_
  rintro e w4 ⟨v4, rfl, hr, hb⟩
  obtain ⟨P, rfl, hL⟩ := laid_of hr
  obtain ⟨B1, e1, B2, e2, B4, e4, B5, e5, LA, LC⟩ := P
  obtain ⟨d0, d1, d2, d3, d4, d5⟩ := HLe.out
  rw [d0, d1, d2, d3, d4, d5]
  clear d0 d1 d2 d3 d4 d5
  dsimp only
  have HW4 := Lib.hid hb
  have hbs := hb.size
  have hbX := (Below.refl w4.heap.size w4).alloc (Nat.le_refl _) (.cells #[.int .i64 b.roots, .slice B1 n1 e1, .slice B2 n2 e2, .int .i64 b.edges, .slice B4 n4 e4, .slice B5 n5 e5] 31)
  have hbY := (Below.refl w4.heap.size w4).alloc (Nat.le_refl _) (.cells #[.int .i64 b.roots, .slice B1 n1 e1, .slice B2 n2 e2, .int .i64 E, .slice B4 n4 e4, .slice B5 n5 e5] 31)
  have HX : BoxAt (w4.alloc (.cells #[.int .i64 b.roots, .slice B1 n1 e1, .slice B2 n2 e2, .int .i64 b.edges, .slice B4 n4 e4, .slice B5 n5 e5] 31)) w4.heap.size 31 (.int .i64 b.roots) (.slice B1 n1 e1) (.slice B2 n2 e2) (.int .i64 b.edges) (.slice B4 n4 e4) (.slice B5 n5 e5) := six_new w4 _ _ _ _ _ _ _
  have HY : BoxAt (w4.alloc (.cells #[.int .i64 b.roots, .slice B1 n1 e1, .slice B2 n2 e2, .int .i64 E, .slice B4 n4 e4, .slice B5 n5 e5] 31)) w4.heap.size 31 (.int .i64 b.roots) (.slice B1 n1 e1) (.slice B2 n2 e2) (.int .i64 E) (.slice B4 n4 e4) (.slice B5 n5 e5) := six_new w4 _ _ _ _ _ _ _
  have p1 := (hbX.cell (p := ⟨w.heap.size + 1, 0, none⟩) (by dsimp only; omega)).trans ((hb.cell (p := ⟨w.heap.size + 1, 0, none⟩) (by dsimp only; omega)).trans HcE.out)
  have p2 := (hbY.cell (p := ⟨w.heap.size + 1 + 1, 0, none⟩) (by dsimp only; omega)).trans ((hb.cell (p := ⟨w.heap.size + 1 + 1, 0, none⟩) (by dsimp only; omega)).trans HcO.out)
  have HLY := Lib.hid ((hL.on hbY).here)
  have HYb := Lib.hid HY
  have HWY := Lib.hid (hb.trans (hbY.mono hb.size))
  obtain ⟨y0, y1, y2, y3, y4, y5⟩ := HX.get
  clear hr hb hL HX HY hbX hbY x0 x1 x2 x3 x4 x5 HC
  go_wp2_with fail
  clear y0 y1 y2 y3 y4 y5 p1 p2
  obtain ⟨β, hβ⟩ : ∃ β, w4.heap.size = β := ⟨_, rfl⟩
  obtain ⟨X, hX⟩ : ∃ X, (w4.alloc (.cells #[.int .i64 b.roots, .slice B1 n1 e1, .slice B2 n2 e2, .int .i64 E, .slice B4 n4 e4, .slice B5 n5 e5] 31)) = X := ⟨_, rfl⟩
  rw [hX] at HLY HYb HWY ⊢
  rw [hβ] at HYb hbs ⊢
  clear hX hβ
  have hwX := HB0.out.trans (HWY.out.mono HB0.out.size)
  refine (cloneS_any Ao no co ou X ((HSo.out.below hwX).wide hwX.size) hno h0o).mono ?_
  rintro e w6 ⟨A', c', rfl, hr4, hz4, hb6⟩
  have HB6 := HYb.out.on hb6
  have HW6 := Lib.hid (HWY.out.trans (hb6.mono HWY.out.size))
  have HL6 := Lib.hid ((HLY.out.on hb6).here)
  have HR4 := Lib.hid (hr4.wide (lo' := W.heap.size) HWY.out.size (Nat.le_refl _))
  have HP := HB6.put4 (.slice A' no c')
  have hf4 := World.rowIs.frozen HB6 4
  have hw6 := HW6.out.setCell (p := ⟨β, 4, none⟩) (show W.heap.size ≤ β by omega) (.slice A' no c')
  have HX7 := Lib.hid hw6
  have HR7 := Lib.hid (rowR_here (row_other_set (off := 4) (u := .slice A' no c') HR4.out HB6 (by decide)))
  have HL7 : Hid (Laid (w6.setCell ⟨β, 4, none⟩ (.slice A' no c')) W.heap.size (w6.setCell ⟨β, 4, none⟩ (.slice A' no c')).heap.size ⟨B1, e1, B2, e2, B4, e4, B5, e5, LA, LC⟩ (relB (reL b f E ou) b)) := Lib.hid ⟨HL6.out.1, ⟨rowR_here (row_other_set HL6.out.2.1.1 HB6 (by decide)), fun k hk => rowR_here (row_other_set (HL6.out.2.1.2 k hk) HB6 (by decide))⟩, rowR_here (row_other_set HL6.out.2.2.1 HB6 (by decide)), rowR_here (row_other_set HL6.out.2.2.2.1 HB6 (by decide)), rowR_here (row_other_set HL6.out.2.2.2.2 HB6 (by decide))⟩
  have HBr := HBx0.out.below hw6 (show w.heap.size + 1 + 1 + 1 + 1 < W.heap.size by omega)
  have HBrr := Lib.hid HBr
  have y4 := HB6.get.2.2.2.2.1
  obtain ⟨t0, t1, t2, t3, t4, t5⟩ := HP.get
  obtain ⟨z0, z1, z2, z3, z4, z5⟩ := HBr.get
  have f0 := World.rowIs.frozen HBr 0
  have f1 := World.rowIs.frozen HBr 1
  have f2 := World.rowIs.frozen HBr 2
  have f3 := World.rowIs.frozen HBr 3
  have f4 := World.rowIs.frozen HBr 4
  have f5 := World.rowIs.frozen HBr 5
  clear hr4 hz4 hb6 HB6 HP hw6 HBr hwX
  go_wp2_with fail
  have hbig : BigR (w6.setCell ⟨β, 4, none⟩ (.slice A' no c')) w.heap.size (w6.setCell ⟨β, 4, none⟩ (.slice A' no c')).heap.size (.agg #[.int .i64 b.roots, .slice B1 n1 e1, .slice B2 n2 e2, .int .i64 E, .slice A' no c', .slice B5 n5 e5]) (reB b f E ou) := by
    have hr : RowR (w6.setCell ⟨β, 4, none⟩ (.slice A' no c')) W.heap.size (w6.setCell ⟨β, 4, none⟩ (.slice A' no c')).heap.size 9 1 A' ou.length c' (at_ ou) := by rw [HLo.out]; exact HR7.out
    have h := ((Laid.newO HL7.out hr E).wide (lo' := w.heap.size) HB0.out.size (Nat.le_refl _)).big
    dsimp only at h
    rw [HLe.out.2.1, HLe.out.2.2.1, HLe.out.2.2.2.2.2, HLo.out] at h
    exact h
  have hbel := sets6_below (HB0.out.trans (HX7.out.mono HB0.out.size)) (show w.heap.size ≤ w.heap.size + 1 + 1 + 1 + 1 by omega) (.int .i64 b.roots) (.slice B1 n1 e1) (.slice B2 n2 e2) (.int .i64 E) (.slice A' no c') (.slice B5 n5 e5)
  have hbig2 := (sets6_big HBrr.out hbig (.int .i64 b.roots) (.slice B1 n1 e1) (.slice B2 n2 e2) (.int .i64 E) (.slice A' no c') (.slice B5 n5 e5)).here
  unfold sets6 at hbig2 hbel
  exact bodyPost_ret (v := .agg #[.int .i64 b.roots, .slice B1 n1 e1, .slice B2 n2 e2, .int .i64 E, .slice A' no c', .slice B5 n5 e5]) (by simp [results, Tryz.results89, go_sem, z0, z1, z2, z3, z4, z5]) rfl ⟨_, rfl, hbig2, hbel⟩
end Go.Proofs.YtlpgldejmdiceabGreat.rta
