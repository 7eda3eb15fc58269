/- impl.composed. -/
import Derived.Test.YtlpgldejmdiceabGreatUc
import Derived.Test.YtlpgldejmdiceabGreatNj
import Derived.Laws.EntriesVeiled
namespace Go.Proofs.YtlpgldejmdiceabGreat.ui
open kit bg sg opn strs only hb sig isig un over gn nm inn ht gd im pt marks eqs hc hi hw hn rs br bm bw cf lf ib isa lawb lw cl rt ix tg rl ed tp rtg uw ux uc nj cg rk nk wk ek tm gv lep mrp mri mrs pl ft co
open rta (ret_any)
open Go.RowKit
set_option linter.unusedVariables false
set_option linter.unusedSimpArgs false
set_option maxRecDepth 20000 in
set_option maxHeartbeats 12800000 in
theorem cpd_any (cs : List Ctl) (va : Value) (a : Big) (vb : Value) (b : Big) (w : World) (hva : BigAt w w.heap.size va a) (hSa : BigS a) (hNa : NilV va) (hga : bigB cs a = true) (hvb : BigAt w w.heap.size vb b) (hSb : BigS b) (hNb : NilV vb) (hgb : bigB cs b = true) (hft : fitB a b = true) :
    Calls Tryz.prog 66 #[va, vb] w fun e w' => ∃ v, e = .returned v ∧ BigR w' w.heap.size w'.heap.size v (cpB a b) ∧ Below w.heap.size w w' := by
  obtain ⟨A1, n1, c1, A2, n2, c2, A4, n4, c4, A5, n5, c5, rfl, h1, h2, h4, h5⟩ := hva
  obtain ⟨B1, m1, d1, B2, m2, d2, B4, m4, d4, B5, m5, d5, rfl, k1, k2, k4, k5⟩ := hvb
  have hnilA := hNa.get
  have hb0 := (Below.refl w.heap.size w).alloc (Nat.le_refl _) (.cells #[.int .i64 a.roots, .slice A1 n1 c1, .slice A2 n2 c2, .int .i64 a.edges, .slice A4 n4 c4, .slice A5 n5 c5] 31)
  have HBa0 : BoxAt (w.alloc (.cells #[.int .i64 a.roots, .slice A1 n1 c1, .slice A2 n2 c2, .int .i64 a.edges, .slice A4 n4 c4, .slice A5 n5 c5] 31)) w.heap.size 31 (.int .i64 a.roots) (.slice A1 n1 c1) (.slice A2 n2 c2) (.int .i64 a.edges) (.slice A4 n4 c4) (.slice A5 n5 c5) := six_new w _ _ _ _ _ _ _
  obtain ⟨U, hU⟩ : ∃ U, w.alloc (.cells #[.int .i64 a.roots, .slice A1 n1 c1, .slice A2 n2 c2, .int .i64 a.edges, .slice A4 n4 c4, .slice A5 n5 c5] 31) = U := ⟨_, rfl⟩
  have hUz : U.heap.size = w.heap.size + 1 := by rw [← hU]; simp
  rw [hU] at HBa0 hb0
  have hb1 := (Below.refl U.heap.size U).alloc (Nat.le_refl _) (.cells #[.int .i64 b.roots, .slice B1 m1 d1, .slice B2 m2 d2, .int .i64 b.edges, .slice B4 m4 d4, .slice B5 m5 d5] 31)
  have HBb0 : BoxAt (U.alloc (.cells #[.int .i64 b.roots, .slice B1 m1 d1, .slice B2 m2 d2, .int .i64 b.edges, .slice B4 m4 d4, .slice B5 m5 d5] 31)) U.heap.size 31 (.int .i64 b.roots) (.slice B1 m1 d1) (.slice B2 m2 d2) (.int .i64 b.edges) (.slice B4 m4 d4) (.slice B5 m5 d5) := six_new U _ _ _ _ _ _ _
  obtain ⟨W, hW⟩ : ∃ W, U.alloc (.cells #[.int .i64 b.roots, .slice B1 m1 d1, .slice B2 m2 d2, .int .i64 b.edges, .slice B4 m4 d4, .slice B5 m5 d5] 31) = W := ⟨_, rfl⟩
  have hWz : W.heap.size = w.heap.size + 2 := by rw [← hW]; simp; omega
  rw [hW] at HBb0 hb1
  rw [hUz] at HBb0
  have hb2 := (Below.refl W.heap.size W).alloc (Nat.le_refl _) (.cells #[.int .i64 0, .slice none 0 0, .slice none 0 0, .int .i64 0, .slice none 0 0, .slice none 0 0] 31)
  have HBr0 : BoxAt (W.alloc (.cells #[.int .i64 0, .slice none 0 0, .slice none 0 0, .int .i64 0, .slice none 0 0, .slice none 0 0] 31)) W.heap.size 31 (.int .i64 0) (.slice none 0 0) (.slice none 0 0) (.int .i64 0) (.slice none 0 0) (.slice none 0 0) := six_new W _ _ _ _ _ _ _
  obtain ⟨X, hX⟩ : ∃ X, W.alloc (.cells #[.int .i64 0, .slice none 0 0, .slice none 0 0, .int .i64 0, .slice none 0 0, .slice none 0 0] 31) = X := ⟨_, rfl⟩
  have hXz : X.heap.size = w.heap.size + 3 := by rw [← hX]; simp; omega
  rw [hX] at HBr0 hb2
  rw [hWz] at HBr0
  have HUq := Lib.hid hU
  have HWq := Lib.hid hW
  have HXq := Lib.hid hX
  have HB0 := Lib.hid (hb0.trans ((hb1.trans (hb2.mono hb1.size)).mono hb0.size))
  have HBa := Lib.hid ((HBa0.on hb1).on hb2)
  have HBb := Lib.hid (HBb0.on hb2)
  have HBr := Lib.hid HBr0
  have HXz := Lib.hid hXz
  clear hU hW hX hb0 hb1 hb2 HBa0 HBb0 HBr0 hUz hWz
  have hya := sizes_of (big_of hga).2.1
  have hyb := sizes_of (big_of hgb).2.1
  have hfi := fit_of hft
  have l1 : a.nodes.length = n1 := h1.1
  have l2 : a.sites.length = n2 := h2.len
  have l4 : a.outer.length = n4 := h4.strlen
  have l5 : b.outer.length = m4 := k4.strlen
  have hVa := Lib.hid (fun (Y : World) (hY : Below w.heap.size w Y) => (BigAt.wide (BigAt.below ⟨_, _, _, _, _, _, _, _, _, _, _, _, rfl, h1, h2, h4, h5⟩ hY) hY.size : BigAt Y Y.heap.size (.agg #[.int .i64 a.roots, .slice A1 n1 c1, .slice A2 n2 c2, .int .i64 a.edges, .slice A4 n4 c4, .slice A5 n5 c5]) a))
  have hVb := Lib.hid (fun (Y : World) (hY : Below w.heap.size w Y) => (BigAt.wide (BigAt.below ⟨_, _, _, _, _, _, _, _, _, _, _, _, rfl, k1, k2, k4, k5⟩ hY) hY.size : BigAt Y Y.heap.size (.agg #[.int .i64 b.roots, .slice B1 m1 d1, .slice B2 m2 d2, .int .i64 b.edges, .slice B4 m4 d4, .slice B5 m5 d5]) b))
  have CA := Lib.hid (fun (Y : World) (hY : Below w.heap.size w Y) => ret_any 90 #[] (fun t => t) cs (.agg #[.int .i64 a.roots, .slice A1 n1 c1, .slice A2 n2 c2, .int .i64 a.edges, .slice A4 n4 c4, .slice A5 n5 c5]) a (a.edges + b.edges) A4 n4 c4 a.outer Y (enters_of Tryz.func90 (by kernel_rfl) rfl) (fun l Z hl hZ => by
    rw [show (#[tgV (tgOf a l)] ++ #[] : Array Value) = #[tgV (tgOf a l)] from rfl]
    exact unc_any _ Z) (hVa.out Y hY) hSa hNa hga ((h4.below hY).wide hY.size) (by omega) hnilA.2.2.1 (by omega))
  have CB := Lib.hid (fun (γ δ : Nat) (Y : World) (hY : Below w.heap.size w Y) (hxa : BoxAt Y w.heap.size 31 (.int .i64 a.roots) (.slice A1 n1 c1) (.slice A2 n2 c2) (.int .i64 a.edges) (.slice A4 n4 c4) (.slice A5 n5 c5)) (hxb : BoxAt Y (w.heap.size + 1) 31 (.int .i64 b.roots) (.slice B1 m1 d1) (.slice B2 m2 d2) (.int .i64 b.edges) (.slice B4 m4 d4) (.slice B5 m5 d5)) (hf : Y.cell? ⟨γ, 0, none⟩ = some (.func (.func 115) #[] #[.pointer (some ⟨δ, 0, none⟩)])) (hγ : γ < Y.heap.size) (hd : Y.cell? ⟨δ, 0, none⟩ = some (.int .i64 a.edges)) (hδ : δ < Y.heap.size) =>
    ret_any 92 #[.pointer (some ⟨γ, 0, none⟩), .pointer (some ⟨w.heap.size, 0, none⟩), .pointer (some ⟨w.heap.size + 1, 0, none⟩)] (cmF a b) cs (.agg #[.int .i64 b.roots, .slice B1 m1 d1, .slice B2 m2 d2, .int .i64 b.edges, .slice B4 m4 d4, .slice B5 m5 d5]) b (a.edges + b.edges) A4 n4 c4 a.outer Y (enters_of Tryz.func92 (by kernel_rfl) rfl) (fun l Z hl hZ => by
      rw [show (#[tgV (tgOf b l)] ++ #[.pointer (some ⟨γ, 0, none⟩), .pointer (some ⟨w.heap.size, 0, none⟩), .pointer (some ⟨w.heap.size + 1, 0, none⟩)] : Array Value) = #[tgV (tgOf b l), .pointer (some ⟨γ, 0, none⟩), .pointer (some ⟨w.heap.size, 0, none⟩), .pointer (some ⟨w.heap.size + 1, 0, none⟩)] from rfl]
      have hwZ := hY.trans (hZ.mono hY.size)
      have hZz := hZ.size
      refine cm1_any a b A1 n1 c1 A2 n2 c2 A4 n4 c4 A5 n5 c5 _ _ _ _ B4 m4 d4 _ (tgOf b l) γ w.heap.size (w.heap.size + 1) δ Z ((hZ.cell (p := ⟨γ, 0, none⟩) hγ).trans hf) (by omega) ((hZ.cell (p := ⟨δ, 0, none⟩) hδ).trans hd) (by omega) (hVa.out Z hwZ) (hxa.on hZ) (hxb.on hZ) ((k4.below hwZ).wide hwZ.size) (by omega) (by omega) hfi.2.2 (big_lks hga).2 (by omega) (tg_edge_in hl (by omega)) (fun hn => tg_name hl hn))
      (hVb.out Y hY) hSb hNb hgb ((h4.below hY).wide hY.size) (by omega) hnilA.2.2.1 (by omega))
  have HtR := Lib.hid (rb_tame hga hgb hft hSa hSb)
  have HGS := Lib.hid (gs_rel (f := reL b (cmF a b) (a.edges + b.edges) a.outer) (E := a.edges + b.edges) (ou := a.outer) hgb)
  have HRr : Hid ((reB b (cmF a b) (a.edges + b.edges) a.outer).roots = n2) := Lib.hid (by rw [← l2]; exact hfi.1.symm)
  have HE := Lib.hid (cp_parts hga hgb hft)
  rw [l1] at HE
  obtain ⟨Ra, hRa⟩ : ∃ Ra, reB a (fun t => t) (a.edges + b.edges) a.outer = Ra := ⟨_, rfl⟩
  obtain ⟨Rb, hRb⟩ : ∃ Rb, reB b (cmF a b) (a.edges + b.edges) a.outer = Rb := ⟨_, rfl⟩
  have HGS' : Hid (abv.Up Rb.nodes ∧ Dn Rb.nodes Rb.roots ∧ (∀ (i : Nat) z, Rb.sites[i]? = some z → -Rb.roots ≤ z ∧ z < Rb.nodes.length) ∧ 0 ≤ Rb.roots ∧ Rb.roots ≤ 4 ∧ Rb.nodes.length ≤ 8 ∧ Rb.sites.length ≤ 4) := Lib.hid (by rw [← hRb]; exact HGS.out)
  rw [hRa] at CA HE
  rw [hRb] at CB HE HtR HRr
  have HRan : Hid (Ra.nodes.length ≤ 8) := Lib.hid (by rw [← hRa]; show (a.nodes.map _).length ≤ 8; rw [List.length_map]; omega)
  have CM := Lib.hid (fun (v : Value) (Y : World) (hY : Below w.heap.size w Y) (hxa : BoxAt Y w.heap.size 31 (.int .i64 a.roots) (.slice A1 n1 c1) (.slice A2 n2 c2) (.int .i64 a.edges) (.slice A4 n4 c4) (.slice A5 n5 c5)) (hv : BigAt Y Y.heap.size v Rb) (hN : NilV v) =>
    mv_gen 97 #[.pointer (some ⟨w.heap.size, 0, none⟩)] (fun r => a.sites.getD r.toNat 0) n1 v Rb Y (enters_of Tryz.func97 (by kernel_rfl) rfl) (fun r Z hr hZ => by
      rw [show (#[.int .i64 r] ++ #[.pointer (some ⟨w.heap.size, 0, none⟩)] : Array Value) = #[.int .i64 r, .pointer (some ⟨w.heap.size, 0, none⟩)] from rfl]
      have hwZ := hY.trans (hZ.mono hY.size)
      exact cm2_any _ _ A1 n1 c1 A2 n2 c2 A4 n4 c4 A5 n5 c5 a.sites r w.heap.size Z (hxa.on hZ) ((h2.below hwZ).wide hwZ.size) (by have := HRr.out; omega) (by omega)) hv HtR.out.S hN HGS'.out (by omega))
  obtain ⟨Rp, hRp⟩ : ∃ Rp, plB (toF (fun r => a.sites.getD r.toNat 0) n1) Rb = Rp := ⟨_, rfl⟩
  have HRpn : Hid (Rp.nodes.length ≤ 8) := Lib.hid (by rw [← hRp]; show (Rb.nodes.map _).length ≤ 8; rw [List.length_map]; exact HGS'.out.2.2.2.2.2.1)
  rw [hRp] at CM HE
  have hwE : wrap64 (a.edges + b.edges) = a.edges + b.edges := by unfold wrap64; omega
  have hwn : n1 ≤ 1048576 := by omega
  clear hRa hRb hRp HGS hya hyb hSa hSb hNa hNb hga hgb hnilA h1 h2 h4 h5 k1 k2 k4 k5 hfi l1 l2 l4 l5 hVa hVb HRr HtR HGS'
  obtain ⟨x0, x1, x2, x3, x4, x5⟩ := HBa.out.get
  obtain ⟨y0, y1, y2, y3, y4, y5⟩ := HBb.out.get
  go_enter Tryz.func66, Tryz.ntmps66
  go_wp2_with fail
  rw [HUq.out, HWq.out, HXq.out]
  go_wp2_with fail
  refine (CA.out X HB0.out).mono ?_
  rintro e w1 ⟨v1, rfl, hr1, hb⟩
  obtain ⟨PA, rfl, hL1⟩ := laid_of hr1
  have hz1 := hb.size
  have hw1 := HB0.out.trans (hb.mono HB0.out.size)
  have hbX := (Below.refl w1.heap.size w1).alloc (Nat.le_refl _) (.cells #[.int .i64 Ra.roots, .slice PA.A1 Ra.nodes.length PA.c1, .slice PA.A2 Ra.sites.length PA.c2, .int .i64 Ra.edges, .slice PA.A4 Ra.outer.length PA.c4, .slice PA.A5 Ra.inner.length PA.c5] 31)
  have HBA0 : BoxAt (w1.alloc (.cells #[.int .i64 Ra.roots, .slice PA.A1 Ra.nodes.length PA.c1, .slice PA.A2 Ra.sites.length PA.c2, .int .i64 Ra.edges, .slice PA.A4 Ra.outer.length PA.c4, .slice PA.A5 Ra.inner.length PA.c5] 31)) w1.heap.size 31 (.int .i64 Ra.roots) (.slice PA.A1 Ra.nodes.length PA.c1) (.slice PA.A2 Ra.sites.length PA.c2) (.int .i64 Ra.edges) (.slice PA.A4 Ra.outer.length PA.c4) (.slice PA.A5 Ra.inner.length PA.c5) := six_new w1 _ _ _ _ _ _ _
  have HBa1 := Lib.hid (HBa.out.on (hb.trans (hbX.mono hb.size)))
  have HBb1 := Lib.hid (HBb.out.on (hb.trans (hbX.mono hb.size)))
  have HBr1 := Lib.hid (HBr.out.on (hb.trans (hbX.mono hb.size)))
  have HL1 := Lib.hid hL1
  have HbX := Lib.hid hbX
  have HBA1 := Lib.hid HBA0
  have hw2 := hw1.trans (hbX.mono hw1.size)
  clear hr1 hb hL1 x0 x1 x2 x3 x4 x5 y0 y1 y2 y3 y4 y5 CA
  obtain ⟨t0, t1, t2, t3, t4, t5⟩ := HBA1.out.get
  obtain ⟨x0, x1, x2, x3, x4, x5⟩ := HBa1.out.get
  go_wp2_with fail
  obtain ⟨w2, hq2⟩ : ∃ w2, w1.alloc (.cells #[.int .i64 Ra.roots, .slice PA.A1 Ra.nodes.length PA.c1, .slice PA.A2 Ra.sites.length PA.c2, .int .i64 Ra.edges, .slice PA.A4 Ra.outer.length PA.c4, .slice PA.A5 Ra.inner.length PA.c5] 31) = w2 := ⟨_, rfl⟩
  have hz2 : w1.heap.size < w2.heap.size := by rw [← hq2]; simp
  rw [hq2] at HBa1 HBb1 HBr1 HBA1 HbX hw2 ⊢
  clear t0 t1 t2 t3 t4 t5 x0 x1 x2 x3 x4 x5 hq2 hbX HBA0
  refine (beh_any a.edges w2).mono ?_
  rintro e w3 ⟨rfl, hd3, hz3, hb3⟩
  have hz23 := hb3.size
  obtain ⟨δ, hδ⟩ : ∃ δ, w2.heap.size = δ := ⟨_, rfl⟩
  rw [hδ] at hd3 hz3 hz2 hz23 ⊢
  have HD := Lib.hid hδ
  clear hδ
  have hb4 := (Below.refl w3.heap.size w3).alloc (Nat.le_refl _) (.cells #[.func (.func 115) #[] #[.pointer (some ⟨δ, 0, none⟩)]] 116)
  have hf4 := rta.one_cell w3 (.func (.func 115) #[] #[.pointer (some ⟨δ, 0, none⟩)]) 116
  have hd4 := (hb4.cell (p := ⟨δ, 0, none⟩) hz3).trans hd3
  have hb24 := hb3.trans (hb4.mono hb3.size)
  have HBa4 := Lib.hid (HBa1.out.on hb24)
  have HBb4 := Lib.hid (HBb1.out.on hb24)
  have HBr4 := Lib.hid (HBr1.out.on hb24)
  have HBA4 := Lib.hid (HBA1.out.on hb24)
  have Hb14 := Lib.hid (HbX.out.trans (hb24.mono HbX.out.size))
  have hw4 := hw2.trans (hb24.mono hw2.size)
  obtain ⟨x0, x1, x2, x3, x4, x5⟩ := HBa4.out.get
  obtain ⟨y0, y1, y2, y3, y4, y5⟩ := HBb4.out.get
  have hz4 : (w3.alloc (.cells #[.func (.func 115) #[] #[.pointer (some ⟨δ, 0, none⟩)]] 116)).heap.size > w3.heap.size := by simp
  go_wp2_with fail
  obtain ⟨w4, hq4⟩ : ∃ w4, w3.alloc (.cells #[.func (.func 115) #[] #[.pointer (some ⟨δ, 0, none⟩)]] 116) = w4 := ⟨_, rfl⟩
  rw [hq4] at HBa4 HBb4 HBr4 HBA4 Hb14 hw4 hf4 hd4 hz4 ⊢
  clear hq4 hb3 hb4 hb24 hd3 HBa1 HBb1 HBr1 HBA1 HbX hw2 x0 x1 x2 x3 x4 x5 y0 y1 y2 y3 y4 y5
  refine (CB.out w3.heap.size δ w4 hw4 HBa4.out HBb4.out hf4 (by omega) hd4 (by omega)).mono ?_
  rintro e w5 ⟨v5, rfl, hr5, hb5⟩
  obtain ⟨PB, rfl, hL5⟩ := laid_of hr5
  have hz5 := hb5.size
  have hb6 := (Below.refl w5.heap.size w5).alloc (Nat.le_refl _) (.cells #[.int .i64 Rb.roots, .slice PB.A1 Rb.nodes.length PB.c1, .slice PB.A2 Rb.sites.length PB.c2, .int .i64 Rb.edges, .slice PB.A4 Rb.outer.length PB.c4, .slice PB.A5 Rb.inner.length PB.c5] 31)
  have HBB0 : BoxAt (w5.alloc (.cells #[.int .i64 Rb.roots, .slice PB.A1 Rb.nodes.length PB.c1, .slice PB.A2 Rb.sites.length PB.c2, .int .i64 Rb.edges, .slice PB.A4 Rb.outer.length PB.c4, .slice PB.A5 Rb.inner.length PB.c5] 31)) w5.heap.size 31 (.int .i64 Rb.roots) (.slice PB.A1 Rb.nodes.length PB.c1) (.slice PB.A2 Rb.sites.length PB.c2) (.int .i64 Rb.edges) (.slice PB.A4 Rb.outer.length PB.c4) (.slice PB.A5 Rb.inner.length PB.c5) := six_new w5 _ _ _ _ _ _ _
  have hb46 := hb5.trans (hb6.mono hb5.size)
  have HBa6 := Lib.hid (HBa4.out.on hb46)
  have HBr6 := Lib.hid (HBr4.out.on hb46)
  have HBA6 := Lib.hid (HBA4.out.on hb46)
  have HBB6 := Lib.hid HBB0
  have Hb16 := Lib.hid (Hb14.out.trans (hb46.mono Hb14.out.size))
  have hw6 := hw4.trans (hb46.mono hw4.size)
  have HL6 := Lib.hid (hL5.on hb6)
  have hz6 : (w5.alloc (.cells #[.int .i64 Rb.roots, .slice PB.A1 Rb.nodes.length PB.c1, .slice PB.A2 Rb.sites.length PB.c2, .int .i64 Rb.edges, .slice PB.A4 Rb.outer.length PB.c4, .slice PB.A5 Rb.inner.length PB.c5] 31)).heap.size > w5.heap.size := by simp
  clear hr5 hL5 hf4 hd4 CB HBB0
  obtain ⟨x0, x1, x2, x3, x4, x5⟩ := HBa6.out.get
  obtain ⟨t0, t1, t2, t3, t4, t5⟩ := HBB6.out.get
  go_wp2_with fail
  obtain ⟨w6, hq6⟩ : ∃ w6, w5.alloc (.cells #[.int .i64 Rb.roots, .slice PB.A1 Rb.nodes.length PB.c1, .slice PB.A2 Rb.sites.length PB.c2, .int .i64 Rb.edges, .slice PB.A4 Rb.outer.length PB.c4, .slice PB.A5 Rb.inner.length PB.c5] 31) = w6 := ⟨_, rfl⟩
  rw [hq6] at HBa6 HBr6 HBA6 HBB6 Hb16 hw6 HL6 hz6 ⊢
  clear hq6 hb5 hb6 hb46 HBa4 HBb4 HBr4 HBA4 Hb14 hw4 x0 x1 x2 x3 x4 x5 t0 t1 t2 t3 t4 t5
  refine (CM.out _ w6 hw6 HBa6.out ((HL6.out.big.wide (lo' := 0) (Nat.zero_le _) (show w5.heap.size ≤ w6.heap.size by omega)).at) (laid_nil HL6.out)).mono ?_
  rintro e w7 ⟨v7, rfl, hr7, hb7⟩
  obtain ⟨PP, rfl, hL7⟩ := laid_of hr7
  have hz7 := hb7.size
  have HBB7 := HBB6.out.on hb7
  have h8 : Below w1.heap.size w1 (sets6 w7 w5.heap.size (.int .i64 Rp.roots) (.slice PP.A1 Rp.nodes.length PP.c1) (.slice PP.A2 Rp.sites.length PP.c2) (.int .i64 Rp.edges) (.slice PP.A4 Rp.outer.length PP.c4) (.slice PP.A5 Rp.inner.length PP.c5)) := sets6_below (Hb16.out.trans (hb7.mono Hb16.out.size)) (by omega) _ _ _ _ _ _
  have h68 : Below w5.heap.size w6 (sets6 w7 w5.heap.size (.int .i64 Rp.roots) (.slice PP.A1 Rp.nodes.length PP.c1) (.slice PP.A2 Rp.sites.length PP.c2) (.int .i64 Rp.edges) (.slice PP.A4 Rp.outer.length PP.c4) (.slice PP.A5 Rp.inner.length PP.c5)) := sets6_below (hb7.mono (by omega)) (Nat.le_refl _) _ _ _ _ _ _
  have HL8 : Hid (Laid (sets6 w7 w5.heap.size (.int .i64 Rp.roots) (.slice PP.A1 Rp.nodes.length PP.c1) (.slice PP.A2 Rp.sites.length PP.c2) (.int .i64 Rp.edges) (.slice PP.A4 Rp.outer.length PP.c4) (.slice PP.A5 Rp.inner.length PP.c5)) w6.heap.size (sets6 w7 w5.heap.size (.int .i64 Rp.roots) (.slice PP.A1 Rp.nodes.length PP.c1) (.slice PP.A2 Rp.sites.length PP.c2) (.int .i64 Rp.edges) (.slice PP.A4 Rp.outer.length PP.c4) (.slice PP.A5 Rp.inner.length PP.c5)).heap.size PP Rp) := Lib.hid (by
    rw [sets6_size]
    exact hL7.stay (fun g f m t _ hg _ => sets6_block _ _ _ _ _ _ (by omega)))
  have HA8 := Lib.hid (HL1.out.on h8)
  have HBB8 := Lib.hid (sets6_box HBB7 (.int .i64 Rp.roots) (.slice PP.A1 Rp.nodes.length PP.c1) (.slice PP.A2 Rp.sites.length PP.c2) (.int .i64 Rp.edges) (.slice PP.A4 Rp.outer.length PP.c4) (.slice PP.A5 Rp.inner.length PP.c5))
  have HBa8 := Lib.hid (show BoxAt (sets6 w7 w5.heap.size (.int .i64 Rp.roots) (.slice PP.A1 Rp.nodes.length PP.c1) (.slice PP.A2 Rp.sites.length PP.c2) (.int .i64 Rp.edges) (.slice PP.A4 Rp.outer.length PP.c4) (.slice PP.A5 Rp.inner.length PP.c5)) w.heap.size 31 (.int .i64 a.roots) (.slice A1 n1 c1) (.slice A2 n2 c2) (.int .i64 a.edges) (.slice A4 n4 c4) (.slice A5 n5 c5) from World.rowIs.of_block (HBa6.out.on hb7) (sets6_block _ _ _ _ _ _ (by have := HXz.out; omega)))
  have HBr8 := Lib.hid (show BoxAt (sets6 w7 w5.heap.size (.int .i64 Rp.roots) (.slice PP.A1 Rp.nodes.length PP.c1) (.slice PP.A2 Rp.sites.length PP.c2) (.int .i64 Rp.edges) (.slice PP.A4 Rp.outer.length PP.c4) (.slice PP.A5 Rp.inner.length PP.c5)) (w.heap.size + 2) 31 (.int .i64 0) (.slice none 0 0) (.slice none 0 0) (.int .i64 0) (.slice none 0 0) (.slice none 0 0) from World.rowIs.of_block (HBr6.out.on hb7) (sets6_block _ _ _ _ _ _ (by have := HXz.out; omega)))
  have HBA8 := Lib.hid (show BoxAt (sets6 w7 w5.heap.size (.int .i64 Rp.roots) (.slice PP.A1 Rp.nodes.length PP.c1) (.slice PP.A2 Rp.sites.length PP.c2) (.int .i64 Rp.edges) (.slice PP.A4 Rp.outer.length PP.c4) (.slice PP.A5 Rp.inner.length PP.c5)) w1.heap.size 31 (.int .i64 Ra.roots) (.slice PA.A1 Ra.nodes.length PA.c1) (.slice PA.A2 Ra.sites.length PA.c2) (.int .i64 Ra.edges) (.slice PA.A4 Ra.outer.length PA.c4) (.slice PA.A5 Ra.inner.length PA.c5) from World.rowIs.of_block (HBA6.out.on hb7) (sets6_block _ _ _ _ _ _ (by omega)))
  have hw8 : Below w.heap.size w (sets6 w7 w5.heap.size (.int .i64 Rp.roots) (.slice PP.A1 Rp.nodes.length PP.c1) (.slice PP.A2 Rp.sites.length PP.c2) (.int .i64 Rp.edges) (.slice PP.A4 Rp.outer.length PP.c4) (.slice PP.A5 Rp.inner.length PP.c5)) := sets6_below (hw6.trans (hb7.mono hw6.size)) (by have := HXz.out; omega) _ _ _ _ _ _
  have hz8 := Lib.hid (sets6_size w7 w5.heap.size (.int .i64 Rp.roots) (.slice PP.A1 Rp.nodes.length PP.c1) (.slice PP.A2 Rp.sites.length PP.c2) (.int .i64 Rp.edges) (.slice PP.A4 Rp.outer.length PP.c4) (.slice PP.A5 Rp.inner.length PP.c5))
  obtain ⟨t0, t1, t2, t3, t4, t5⟩ := HBB7.get
  have g0 := World.rowIs.frozen HBB7 0
  have g1 := World.rowIs.frozen HBB7 1
  have g2 := World.rowIs.frozen HBB7 2
  have g3 := World.rowIs.frozen HBB7 3
  have g4 := World.rowIs.frozen HBB7 4
  have g5 := World.rowIs.frozen HBB7 5
  clear hr7 hL7
  go_wp2_with fail
  obtain ⟨w8, hq8⟩ : ∃ w8, sets6 w7 w5.heap.size (.int .i64 Rp.roots) (.slice PP.A1 Rp.nodes.length PP.c1) (.slice PP.A2 Rp.sites.length PP.c2) (.int .i64 Rp.edges) (.slice PP.A4 Rp.outer.length PP.c4) (.slice PP.A5 Rp.inner.length PP.c5) = w8 := ⟨_, rfl⟩
  rw [hq8] at HL8 HA8 HBB8 HBa8 HBr8 HBA8 hw8 hz8
  unfold sets6 at hq8
  rw [hq8]
  clear hq8 HBB7 h8 h68 t0 t1 t2 t3 t4 t5 g0 g1 g2 g3 g4 g5 HBa6 HBr6 HBA6 HBB6 hw6 hb7 HL6 CM
  have hX6 : X.heap.size ≤ w6.heap.size := by omega
  have h16 : w1.heap.size ≤ w6.heap.size := by omega
  have h68 : w6.heap.size ≤ w8.heap.size := by rw [hz8.out]; exact hz7
  have HS : Hid (∀ w', Below w8.heap.size w8 w' → (w'.cell? ⟨w.heap.size, 0, none⟩ = some (.int .i64 a.roots) ∧ w'.cell? ⟨w1.heap.size, 1, none⟩ = some (.slice PA.A1 Ra.nodes.length PA.c1) ∧ w'.cell? ⟨w1.heap.size, 4, none⟩ = some (.slice PA.A4 Ra.outer.length PA.c4) ∧ w'.cell? ⟨w5.heap.size, 1, none⟩ = some (.slice PP.A1 Rp.nodes.length PP.c1) ∧ w'.cell? ⟨w5.heap.size, 2, none⟩ = some (.slice PP.A2 Rp.sites.length PP.c2) ∧ w'.cell? ⟨w5.heap.size, 5, none⟩ = some (.slice PP.A5 Rp.inner.length PP.c5))) := Lib.hid (fun w' hq => ⟨(HBa8.out.on hq).get.1, (HBA8.out.on hq).get.2.1, (HBA8.out.on hq).get.2.2.2.2.1, (HBB8.out.on hq).get.2.1, (HBB8.out.on hq).get.2.2.1, (HBB8.out.on hq).get.2.2.2.2.2⟩)
  have hkD := (Below.refl w8.heap.size w8).drew
  have HCc := Lib.hid (fun (Y : World) (hY : Below w8.heap.size w8 Y) (hV : SR Y Y.heap.size (some ⟨w8.heap.size, 0, none⟩) 2 [Value.slice PA.A1 Ra.nodes.length PA.c1, Value.slice PP.A1 Rp.nodes.length PP.c1]) => concatN_two (cv := 2) hV ((laid_ndr HA8.out).on hY |>.wide (Nat.le_refl _) h16) ((laid_ndr HL8.out).on hY |>.wide (Nat.le_refl _) hY.size) hX6 (Nat.le_trans h68 hY.size) (by have := HRan.out; omega) (by have := HRpn.out; omega))
  have hsv : SR (w8.alloc (.cells #[Value.slice PA.A1 Ra.nodes.length PA.c1, Value.slice PP.A1 Rp.nodes.length PP.c1] 26)).drew (w8.alloc (.cells #[Value.slice PA.A1 Ra.nodes.length PA.c1, Value.slice PP.A1 Rp.nodes.length PP.c1] 26)).drew.heap.size (some ⟨w8.heap.size, 0, none⟩) 2 [Value.slice PA.A1 Ra.nodes.length PA.c1, Value.slice PP.A1 Rp.nodes.length PP.c1] := (sr_vals2 w8 [Value.slice PA.A1 Ra.nodes.length PA.c1, Value.slice PP.A1 Rp.nodes.length PP.c1] 26).below (Below.refl _ _).drew
  refine rh.go_begin 16 (fun w' => (w'.cell? ⟨w.heap.size, 0, none⟩ = some (.int .i64 a.roots) ∧ w'.cell? ⟨w1.heap.size, 1, none⟩ = some (.slice PA.A1 Ra.nodes.length PA.c1) ∧ w'.cell? ⟨w1.heap.size, 4, none⟩ = some (.slice PA.A4 Ra.outer.length PA.c4) ∧ w'.cell? ⟨w5.heap.size, 1, none⟩ = some (.slice PP.A1 Rp.nodes.length PP.c1) ∧ w'.cell? ⟨w5.heap.size, 2, none⟩ = some (.slice PP.A2 Rp.sites.length PP.c2) ∧ w'.cell? ⟨w5.heap.size, 5, none⟩ = some (.slice PP.A5 Rp.inner.length PP.c5))) (by kernel_rfl) ?_ (fun hHeld => ?_)
  · ((try dsimp only); exact HS.out _ (by go_grown))
  refine rh.go_take (i := 0) (v := ?v1) rfl (by kernel_rfl) (fun _ _ _ h => h) (Or.inl ⟨by rfl, ?hy1⟩) (by assumption) ?rest1
  case hy1 => (intro wS hSw; (try dsimp only at hSw); go_simp; try (with_reducible rfl))
  try simp only [Act.put, List.setIfInBounds_toArray, List.set_cons_zero, List.set_cons_succ]
  refine rh.go_take (i := 1) (v := ?v2) rfl (by kernel_rfl) (fun _ _ _ h => h) (Or.inl ⟨by rfl, ?hy2⟩) (by assumption) ?rest2
  case hy2 => (intro wS hSw; (try dsimp only at hSw); go_simp; try (with_reducible rfl))
  try simp only [Act.put, List.setIfInBounds_toArray, List.set_cons_zero, List.set_cons_succ]
  refine rh.go_take (i := 2) (v := ?v3) rfl (by kernel_rfl) (fun _ _ _ h => h) (Or.inl ⟨by rfl, ?hy3⟩) (by assumption) ?rest3
  case hy3 => (intro wS hSw; (try dsimp only at hSw); go_simp; try (with_reducible rfl))
  try simp only [Act.put, List.setIfInBounds_toArray, List.set_cons_zero, List.set_cons_succ]
  refine rh.go_take (i := 3) (v := ?v4) rfl (by kernel_rfl) (fun _ _ _ h => h) (Or.inl ⟨by rfl, ?hy4⟩) (by assumption) ?rest4
  case hy4 => (intro wS hSw; (try dsimp only at hSw); go_simp; try (with_reducible rfl))
  try simp only [Act.put, List.setIfInBounds_toArray, List.set_cons_zero, List.set_cons_succ]
  refine rh.go_take (i := 4) (v := ?v5) rfl (by kernel_rfl) (fun _ _ _ h => h) (Or.inl ⟨by rfl, ?hy5⟩) (by assumption) ?rest5
  case hy5 => (intro wS hSw; (try dsimp only at hSw); go_simp; try (with_reducible rfl))
  try simp only [Act.put, List.setIfInBounds_toArray, List.set_cons_zero, List.set_cons_succ]
  refine rh.go_take (i := 5) (v := ?v6) rfl (by kernel_rfl) (fun _ _ _ h => h) (Or.inl ⟨by rfl, ?hy6⟩) (by assumption) ?rest6
  case hy6 => (intro wS hSw; (try dsimp only at hSw); go_simp; try (with_reducible rfl))
  try simp only [Act.put, List.setIfInBounds_toArray, List.set_cons_zero, List.set_cons_succ]
  refine rh.go_take (i := 8) (v := ?v7) rfl (by kernel_rfl) (fun _ _ _ h => h) (Or.inl ⟨by rfl, ?hy7⟩) (by assumption) ?rest7
  case hy7 => (intro wS hSw; (try dsimp only at hSw); go_simp; try (with_reducible rfl))
  try simp only [Act.put, List.setIfInBounds_toArray, List.set_cons_zero, List.set_cons_succ]
  refine rh.go_take (i := 9) (v := ?v8) rfl (by kernel_rfl) (fun _ _ _ h => h) (Or.inl ⟨by rfl, ?hy8⟩) (by assumption) ?rest8
  case hy8 => (intro wS hSw; (try dsimp only at hSw); go_simp; try (with_reducible rfl))
  try simp only [Act.put, List.setIfInBounds_toArray, List.set_cons_zero, List.set_cons_succ]
  refine rh.go_take (i := 10) (v := ?v9) rfl (by kernel_rfl) (fun _ _ _ h => h) (Or.inl ⟨by rfl, ?hy9⟩) (by assumption) ?rest9
  case hy9 => (intro wS hSw; (try dsimp only at hSw); go_simp; try (with_reducible rfl))
  try simp only [Act.put, List.setIfInBounds_toArray, List.set_cons_zero, List.set_cons_succ]
  refine rh.go_take (i := 11) (v := ?v10) rfl (by kernel_rfl) (fun _ _ _ h => h) (Or.inl ⟨by rfl, ?hy10⟩) (by assumption) ?rest10
  case hy10 => (intro wS hSw; (try dsimp only at hSw); go_simp; try (with_reducible rfl))
  try simp only [Act.put, List.setIfInBounds_toArray, List.set_cons_zero, List.set_cons_succ]
  refine rh.go_take (i := 12) (v := ?v11) rfl (by kernel_rfl) (fun _ _ _ h => h) (Or.inl ⟨by rfl, ?hy11⟩) (by assumption) ?rest11
  case hy11 => (intro wS hSw; (try dsimp only at hSw); go_simp; try (with_reducible rfl))
  try simp only [Act.put, List.setIfInBounds_toArray, List.set_cons_zero, List.set_cons_succ]
  refine rh.go_take (i := 13) (v := ?v12) rfl (by kernel_rfl) (fun _ _ _ h => h) (Or.inl ⟨by rfl, ?hy12⟩) (by assumption) ?rest12
  case hy12 => (intro wS hSw; (try dsimp only at hSw); go_simp; try (with_reducible rfl))
  try simp only [Act.put, List.setIfInBounds_toArray, List.set_cons_zero, List.set_cons_succ]
  refine rh.go_take (i := 14) (v := ?v13) rfl (by kernel_rfl) (fun _ _ _ h => h) (Or.inl ⟨by rfl, ?hy13⟩) (by assumption) ?rest13
  case hy13 => (intro wS hSw; (try dsimp only at hSw); go_simp; try (with_reducible rfl))
  try simp only [Act.put, List.setIfInBounds_toArray, List.set_cons_zero, List.set_cons_succ]
  refine rh.go_next (i := 6) rfl (by kernel_rfl) (fun K2 hK => ?_)
  go_simp
  refine hK.out _ _ ?_ (fun hHeld => ?_)
  · ((try dsimp only); exact HS.out _ (by go_grown))
  clear hK K2
  try simp only [Act.put, List.setIfInBounds_toArray, List.set_cons_zero, List.set_cons_succ]
  refine rh.go_next (i := 7) rfl (by kernel_rfl) (fun K2 hK => ?_)
  (go_simp; go_at_call 98; refine (HCc.out _ (by go_grown) hsv).mono ?_; rintro e w9 ⟨A', c', rfl, hn9, hb⟩; have hk9 : Below w8.heap.size w8 w9 := Below.trans (by go_grown) (hb.mono (by simp)); have HK9 := Lib.hid hk9; have HN9 := Lib.hid hn9; clear hb hn9; go_wp2_with fail)
  refine hK.out _ _ ?_ (fun hHeld => ?_)
  · ((try dsimp only); exact HS.out _ hk9)
  clear hK K2
  try simp only [Act.put, List.setIfInBounds_toArray, List.set_cons_zero, List.set_cons_succ]
  refine rh.go_take (i := 15) (v := ?v14) rfl (by kernel_rfl) (fun _ _ _ h => h) (Or.inl ⟨by rfl, ?hy14⟩) (by assumption) ?rest14
  case hy14 => (intro wS hSw; (try dsimp only at hSw); go_simp; try (with_reducible rfl))
  try simp only [Act.put, List.setIfInBounds_toArray, List.set_cons_zero, List.set_cons_succ]
  have HBr9 := Lib.hid (HBr8.out.on HK9.out)
  have h89 := HK9.out.size
  have HB9 := Lib.hid (hw8.trans (HK9.out.mono hw8.size))
  have HR9 := Lib.hid (big_join (R := a.roots) (E := a.edges + b.edges) HN9.out rfl (fun i hi => (((laid_ndr HA8.out).2.1 i hi).on HK9.out).wide (Nat.le_refl _) h16) (fun k hk hne => (HL8.out.1 k hk hne).1) ((HL8.out.2.2.1.on HK9.out).wide (Nat.le_refl _) h89) rfl ((HA8.out.2.2.2.1.on HK9.out).wide (Nat.le_refl _) (Nat.le_trans h16 (Nat.le_trans h68 h89))) rfl ((HL8.out.2.2.2.2.on HK9.out).wide hX6 h89) rfl hX6)
  have HR9' := Lib.hid ((HE.out ▸ HR9.out).wide (lo' := w.heap.size) HB0.out.size (Nat.le_refl _))
  obtain ⟨z0, z1, z2, z3, z4, z5⟩ := HBr9.out.get
  have f0 := World.rowIs.frozen HBr9.out 0
  have f1 := World.rowIs.frozen HBr9.out 1
  have f2 := World.rowIs.frozen HBr9.out 2
  have f3 := World.rowIs.frozen HBr9.out 3
  have f4 := World.rowIs.frozen HBr9.out 4
  have f5 := World.rowIs.frozen HBr9.out 5
  refine rh.go_last rfl (by kernel_rfl) (fun K2 hK => ?_)
  go_simp
  refine hK.out _ _ ?_
  refine NoPanic.normal ?_
  clear hK K2
  go_wp2_with fail
  have hbig := (sets6_big HBr9.out HR9'.out (.int .i64 a.roots) (.slice A' (Ra.nodes.length + Rp.nodes.length) c') (.slice PP.A2 Rp.sites.length PP.c2) (.int .i64 (a.edges + b.edges)) (.slice PA.A4 Ra.outer.length PA.c4) (.slice PP.A5 Rp.inner.length PP.c5)).here
  have hbel := sets6_below HB9.out (show w.heap.size ≤ w.heap.size + 2 by omega) (.int .i64 a.roots) (.slice A' (Ra.nodes.length + Rp.nodes.length) c') (.slice PP.A2 Rp.sites.length PP.c2) (.int .i64 (a.edges + b.edges)) (.slice PA.A4 Ra.outer.length PA.c4) (.slice PP.A5 Rp.inner.length PP.c5)
  unfold sets6 at hbig hbel
  exact bodyPost_ret (v := .agg #[.int .i64 a.roots, .slice A' (Ra.nodes.length + Rp.nodes.length) c', .slice PP.A2 Rp.sites.length PP.c2, .int .i64 (a.edges + b.edges), .slice PA.A4 Ra.outer.length PA.c4, .slice PP.A5 Rp.inner.length PP.c5]) (by simp [results, Tryz.results66, go_sem, z0, z1, z2, z3, z4, z5]) rfl ⟨_, rfl, hbig, hbel⟩
end Go.Proofs.YtlpgldejmdiceabGreat.ui
