/- spec.l2Outer: other outer names. -/
import Derived.Test.YtfjgapkjpmkplaaGreatQh
import Derived.Test.YtfjgapkjpmkplaaGreatEdp
import Derived.Test.YtfjgapkjpmkplaaGreatIx
import Derived.Test.YtfjgapkjpmkplaaGreatTg
import Derived.Test.YtfjgapkjpmkplaaGreatQe
import Derived.Test.YtfjgapkjpmkplaaGreatQf
import Derived.Handy
namespace Go.Proofs.YtfjgapkjpmkplaaGreat.lo
open kit bg sg opn strs only hb sig isig un over gn nm inn ht gd im pt marks eqs hc hi hw hn rs br bm bw cf lf ib isa lawb lw cl rt chd pts psp idl has pm sb wb mb rl ed rnp lep rnm tp rn ow ix tg edp
open Go.RowKit
set_option linter.unusedVariables false
set_option linter.unusedSimpArgs false
/-- the link that a link becomes where outer names become others -/
noncomputable def ouF (b : Big) (nm ou : List ByteArray) (l : Int) : Int := if l < b.edges then l else b.edges + ixF ou ((nm[(l - b.edges).toNat]?).getD noS)
noncomputable def ouB (b : Big) (nm ou : List ByteArray) : Big := ⟨b.roots, (relB (ouF b nm ou) b).nodes, b.sites, b.edges, ou, (relB (ouF b nm ou) b).inner⟩
theorem ouF_edge {b : Big} {nm ou : List ByteArray} {l : Int} (h : l < b.edges) : ouF b nm ou l = l := if_pos h
theorem ouF_name {b : Big} {nm ou : List ByteArray} {l : Int} {k : Nat} {s : ByteArray} (h : ¬ l < b.edges) (hk : l - b.edges = k) (hs : nm[k]? = some s) : ouF b nm ou l = b.edges + ixF ou s := by
  unfold ouF
  rw [if_neg h, hk, Int.toNat_natCast, hs]
  rfl
theorem ou_mix (b : Big) (nm ou : List ByteArray) : (⟨(mixW (fun _ l => ouF b nm ou l) b.inner.length (mixL (fun _ _ l => ouF b nm ou l) b.nodes.length 0 b)).roots, (mixW (fun _ l => ouF b nm ou l) b.inner.length (mixL (fun _ _ l => ouF b nm ou l) b.nodes.length 0 b)).nodes, (mixW (fun _ l => ouF b nm ou l) b.inner.length (mixL (fun _ _ l => ouF b nm ou l) b.nodes.length 0 b)).sites, b.edges, ou, (mixW (fun _ l => ouF b nm ou l) b.inner.length (mixL (fun _ _ l => ouF b nm ou l) b.nodes.length 0 b)).inner⟩ : Big) = ouB b nm ou := by
  have h1 := mixL_all (ouF b nm ou) b
  have h2 := mixW_all (ouF b nm ou) b
  unfold ouB
  rw [← h1, ← h2]
  rfl
theorem laid_outer {w : World} {lo hi c : Nat} {P : Plan} {b : Big} {A : Option Addr} {ss : List ByteArray} (h : Laid w lo hi P b) (hr : RowR w lo hi 9 1 A ss.length c (at_ ss)) (E : Int) : Laid w lo hi ⟨P.A1, P.c1, P.A2, P.c2, A, c, P.A5, P.c5, P.LA, P.LC⟩ ⟨b.roots, b.nodes, b.sites, E, ss, b.inner⟩ := ⟨h.1, h.2.1, h.2.2.1, hr, h.2.2.2.2⟩
theorem put4' {w : World} {β : Nat} {t : TypeId} {v0 v1 v2 v3 v4 v5 : Value} (h : BoxAt w β t v0 v1 v2 v3 v4 v5) (u : Value) : BoxAt (w.setCell ⟨β, 4, none⟩ u) β t v0 v1 v2 v3 u v5 := by
  have h6 : (w.setCell ⟨β, 4, none⟩ u).rowIs β t 6 _ := World.rowIs.set h 4 u
  unfold BoxAt
  refine h6.congr ?_
  intro i hi
  match i, hi with
  | 0, _ => rfl
  | 1, _ => rfl
  | 2, _ => rfl
  | 3, _ => rfl
  | 4, _ => rfl
  | 5, _ => rfl
set_option maxRecDepth 20000 in
set_option maxHeartbeats 12800000 in
theorem ou_any (v : Value) (cs : List Ctl) (b : Big) (An : Option Addr) (nn cn : Nat) (nm : List ByteArray) (Ao : Option Addr) (no co : Nat) (ou : List ByteArray) (w : World) (hv : BigAt w w.heap.size v b) (hN : NilV v) (hg : bigB cs b = true) (hnm : SR w w.heap.size An nn (nm.map Value.string)) (hnl : nm.length = b.outer.length) (hou : SR w w.heap.size Ao no (ou.map Value.string)) (hno : no ≤ 100) (h0o : Ao = none → co = 0) :
    Calls Tryz.prog 121 #[v, .slice An nn cn, .slice Ao no co] w fun e w' => ∃ v', e = .returned v' ∧ BigR w' w.heap.size w'.heap.size v' (ouB b nm ou) ∧ Below w.heap.size w w' := by
  have hVb := hv
  have hNb := hN
  obtain ⟨A1, n1, c1, A2, n2, c2, A4, n4, c4, A5, n5, c5, rfl, h1, h2, h4, h5⟩ := hv
  have hnil := hN.get
  have hbx := (Below.refl w.heap.size w).alloc (Nat.le_refl _) (.cells #[.int .i64 b.roots, .slice A1 n1 c1, .slice A2 n2 c2, .int .i64 b.edges, .slice A4 n4 c4, .slice A5 n5 c5] 36)
  have HBoxI : Hid (BoxAt (w.alloc (.cells #[.int .i64 b.roots, .slice A1 n1 c1, .slice A2 n2 c2, .int .i64 b.edges, .slice A4 n4 c4, .slice A5 n5 c5] 36)) w.heap.size 36 (.int .i64 b.roots) (.slice A1 n1 c1) (.slice A2 n2 c2) (.int .i64 b.edges) (.slice A4 n4 c4) (.slice A5 n5 c5)) := Lib.hid (six_new w _ _ _ _ _ _ _)
  obtain ⟨W0, hW0⟩ : ∃ W, w.alloc (.cells #[.int .i64 b.roots, .slice A1 n1 c1, .slice A2 n2 c2, .int .i64 b.edges, .slice A4 n4 c4, .slice A5 n5 c5] 36) = W := ⟨_, rfl⟩
  have hWz0 : W0.heap.size = w.heap.size + 1 := by rw [← hW0]; simp
  rw [hW0] at hbx HBoxI
  have hb0 := (Below.refl W0.heap.size W0).alloc (Nat.le_refl _) (.cells #[.int .i64 0, .slice none 0 0, .slice none 0 0, .int .i64 0, .slice none 0 0, .slice none 0 0] 36)
  have HBx0 : Hid (BoxAt (W0.alloc (.cells #[.int .i64 0, .slice none 0 0, .slice none 0 0, .int .i64 0, .slice none 0 0, .slice none 0 0] 36)) W0.heap.size 36 (.int .i64 0) (.slice none 0 0) (.slice none 0 0) (.int .i64 0) (.slice none 0 0) (.slice none 0 0)) := Lib.hid (six_new W0 _ _ _ _ _ _ _)
  have HBox := Lib.hid (HBoxI.out.on hb0)
  obtain ⟨W, hW⟩ : ∃ W, W0.alloc (.cells #[.int .i64 0, .slice none 0 0, .slice none 0 0, .int .i64 0, .slice none 0 0, .slice none 0 0] 36) = W := ⟨_, rfl⟩
  have hWz : W.heap.size = w.heap.size + 1 + 1 := by rw [← hW]; simp; exact hWz0
  rw [hW] at hb0 HBx0 HBox
  rw [hWz0] at HBx0
  have HWq0 := Lib.hid hW0
  have HWq := Lib.hid hW
  have HB0 := Lib.hid (hbx.trans (hb0.mono hbx.size))
  have HWz := Lib.hid hWz
  have hVW : BigAt W W.heap.size (.agg #[.int .i64 b.roots, .slice A1 n1 c1, .slice A2 n2 c2, .int .i64 b.edges, .slice A4 n4 c4, .slice A5 n5 c5]) b := BigAt.wide (BigAt.below ⟨_, _, _, _, _, _, _, _, _, _, _, _, rfl, h1, h2, h4, h5⟩ HB0.out) HB0.out.size
  clear hW0 hW hb0 hWz hWz0 hbx HBoxI hN
  have hz := sizes_of (big_of hg).2.1
  have l1 := h1.1
  have l5 := h5.1
  have hn1 : n1 ≤ 8 := by omega
  have hn5 : n5 ≤ 16 := by omega
  have hb4 : n4 ≤ 16 := by have := h4.strlen; omega
  have hE0 : 0 ≤ b.edges ∧ b.edges ≤ 8 := hz.2.1
  have HL1 := Lib.hid l1
  have HL2 := Lib.hid h2.len
  have HL4 := Lib.hid h4.strlen
  have HL5 := Lib.hid l5
  have HG := Lib.hid hg
  have HNl := Lib.hid (show nn = n4 by have := hnm.strlen; have := h4.strlen; omega)
  have HOl := Lib.hid hou.strlen
  have HNm := Lib.hid hnm
  have HOu := Lib.hid hou
  have hlk : ∀ l : Int, (0 ≤ l ∧ l ≤ b.edges + b.outer.length - 1) → ¬ l < b.edges → ∃ k : Nat, l - b.edges = k ∧ k < n4 := fun l h h2 => ⟨(l - b.edges).toNat, by omega, by have := HL4.out; omega⟩
  have HLk := Lib.hid hlk
  have HLn : Hid (∀ x ∈ b.nodes, ∀ l ∈ x.links, 0 ≤ l ∧ l ≤ b.edges + b.outer.length - 1) := Lib.hid (fun x hx l hl => by
    obtain ⟨k, hk⟩ := List.getElem?_of_mem hx
    obtain ⟨i, hi⟩ := List.getElem?_of_mem hl
    exact inb_true (show inb l 0 (b.edges + b.outer.length - 1) = true from ((big_of hg).2.2.2.2.1 k x hk).2.2 i l hi))
  have HLw : Hid (∀ x ∈ b.inner, 0 ≤ x.link ∧ x.link ≤ b.edges + b.outer.length - 1) := Lib.hid (fun x hx => by
    obtain ⟨i, hi⟩ := List.getElem?_of_mem hx
    exact inb_true (show inb x.link 0 (b.edges + b.outer.length - 1) = true from (big_of hg).2.2.2.2.2.2 i x hi))
  have HAt := Lib.hid (fun (s : ByteArray) (Y : World) (hY : Below w.heap.size w Y) => l2At_any Ao no co ou s Y _ (hou.below hY) (by omega))
  have HIn := Lib.hid (fun s => ixF_in ou s)
  have HOw := Lib.hid (ow_any _ cs b W hVW hNb hg)
  obtain ⟨i0, hi, hz0, hz1, hz2⟩ := info_parts str_info
  have HI := Lib.hid (And.intro hi (And.intro hz0 (And.intro hz1 hz2)))
  have hWz : W.heap.size = w.heap.size + 1 + 1 := HWz.out
  have hWs : w.heap.size < W.heap.size := by omega
  obtain ⟨hE1, hE2⟩ := hE0
  clear hVW hz hi hz0 hz1 hz2 l1 l5 h1 h2 h4 h5 hnil hg hnm hou hnl hVb hNb hlk
  obtain ⟨x0, x1, x2, x3, x4, x5⟩ := HBox.out.get
  go_enter Tryz.func121, Tryz.ntmps121
  go_wp2_with fail
  rw [HWq0.out, HWq.out]
  go_wp2_with fail
  refine HOw.out.mono ?_
  rintro e w3 ⟨v3, rfl, hr, hb⟩
  obtain ⟨P, rfl, hL⟩ := laid_of hr
  obtain ⟨B1, e1, B2, e2, B4, e4, B5, e5, LA, LC⟩ := P
  rw [HL1.out, HL2.out, HL4.out, HL5.out]
  dsimp only
  have hbX := (Below.refl w3.heap.size w3).alloc (Nat.le_refl _) (.cells #[.int .i64 b.roots, .slice B1 n1 e1, .slice B2 n2 e2, .int .i64 b.edges, .slice B4 n4 e4, .slice B5 n5 e5] 36)
  have HX : BoxAt (w3.alloc (.cells #[.int .i64 b.roots, .slice B1 n1 e1, .slice B2 n2 e2, .int .i64 b.edges, .slice B4 n4 e4, .slice B5 n5 e5] 36)) w3.heap.size 36 (.int .i64 b.roots) (.slice B1 n1 e1) (.slice B2 n2 e2) (.int .i64 b.edges) (.slice B4 n4 e4) (.slice B5 n5 e5) := six_new w3 _ _ _ _ _ _ _
  have hXz : (w3.alloc (.cells #[.int .i64 b.roots, .slice B1 n1 e1, .slice B2 n2 e2, .int .i64 b.edges, .slice B4 n4 e4, .slice B5 n5 e5] 36)).heap.size = w3.heap.size + 1 := World.size_alloc ..
  have hLX := hL.on hbX
  have hBX := hb.trans (hbX.mono hb.size)
  have hWβ := hb.size
  have hxe := (Below.refl (w3.alloc (.cells #[.int .i64 b.roots, .slice B1 n1 e1, .slice B2 n2 e2, .int .i64 b.edges, .slice B4 n4 e4, .slice B5 n5 e5] 36)).heap.size (w3.alloc (.cells #[.int .i64 b.roots, .slice B1 n1 e1, .slice B2 n2 e2, .int .i64 b.edges, .slice B4 n4 e4, .slice B5 n5 e5] 36))).alloc (Nat.le_refl _) (.cells #[] 9)
  have hOA := ownsRow_nil_new (w3.alloc (.cells #[.int .i64 b.roots, .slice B1 n1 e1, .slice B2 n2 e2, .int .i64 b.edges, .slice B4 n4 e4, .slice B5 n5 e5] 36)) 9 1 (w3.alloc (.cells #[.int .i64 b.roots, .slice B1 n1 e1, .slice B2 n2 e2, .int .i64 b.edges, .slice B4 n4 e4, .slice B5 n5 e5] 36)).heap.size (Nat.le_refl _)
  have hwXe := HB0.out.trans ((hBX.trans (hxe.mono hBX.size)).mono HB0.out.size)
  have HSrc := Lib.hid (sr_src (HOu.out.below hwXe))
  have HZ := Lib.hid (fun e : Ao = none => And.intro (sr_zero HOu.out e) (h0o e))
  have hxs : (w3.alloc (.cells #[.int .i64 b.roots, .slice B1 n1 e1, .slice B2 n2 e2, .int .i64 b.edges, .slice B4 n4 e4, .slice B5 n5 e5] 36)).heap.size ≤ ((w3.alloc (.cells #[.int .i64 b.roots, .slice B1 n1 e1, .slice B2 n2 e2, .int .i64 b.edges, .slice B4 n4 e4, .slice B5 n5 e5] 36)).alloc (.cells #[] 9)).heap.size := hxe.size
  rw [hXz] at hOA hxe hxs
  have HOA := Lib.hid hOA
  have Hxe := Lib.hid hxe
  have HXb := Lib.hid HX
  have HLX := Lib.hid hLX
  have HBX := Lib.hid hBX
  have HXz := Lib.hid hXz
  have HOLl : Hid ((ou.map Value.string).length = no * 1) := Lib.hid (by rw [List.length_map, Nat.mul_one]; exact HOl.out)
  have HO1 : Hid (∀ u ∈ ou.map Value.string, u.oneCell' = true) := Lib.hid (fun u hu => by obtain ⟨s, -, rfl⟩ := List.mem_map.1 hu; rfl)
  have e1' : 0 + no ≤ maxLen := by unfold maxLen; omega
  have e2' : (0 + no) * 16 ≤ 140737488355328 := by omega
  clear hr hb hL hbX hxe hwXe HX x0 x1 x2 x3 x4 x5 HOw hOA hLX hBX hXz
  go_wp2_with (at_builtin; refine wpList_append_src _ rfl _ _ 25 rfl (w3.heap.size + 1) 9 i0 (.string ⟨#[]⟩) 1 16 Tryz.underlying25 HI.out.1 HI.out.2.1 HI.out.2.2.1 HI.out.2.2.2 rfl (by decide) _ _ _ rfl HOA.out Ao no co (ou.map Value.string) rfl HZ.out HOLl.out HSrc.out HO1.out e1' e2' hxs ?_; intro v1 w4 hown1 hgrow1; have hbg := Hxe.out.grown hgrow1 hxs (fun j hj => (HOA.out.lt j hj).1); have HBg := Lib.hid hbg; have HB4 := Lib.hid (HXb.out.below hbg (Nat.lt_succ_self _)); obtain ⟨A', c', hv1, hr4⟩ := strs_owned (by have := hown1; rw [Nat.zero_add, List.nil_append] at this; exact this); rw [HOl.out] at hv1 hr4; subst hv1; have HR4' := Lib.hid hr4; clear hgrow1 hown1 hbg hr4; obtain ⟨z0, z1, z2, z3, z4, z5⟩ := HB4.out.get; have f4 := World.rowIs.frozen HB4.out 4)
  have hr4 := HR4'.out
  clear z0 z1 z2 z3 z4 z5 f4 HOA Hxe HSrc
  obtain ⟨β, hβ⟩ : ∃ β, w3.heap.size = β := ⟨_, rfl⟩
  have hHz := HXz.out
  have hLw : Laid w4 W.heap.size w4.heap.size ⟨B1, e1, B2, e2, B4, e4, B5, e5, LA, LC⟩ b := (HLX.out.stay (w' := w4) (fun g f m t _ _ hg => HBg.out.block g (by omega))).here
  have hBw := HB4.out
  have hWw : Below W.heap.size W w4 := HBX.out.trans (HBg.out.mono (by have := HBX.out.size; omega))
  have hW4 := hWw.size
  have hrw := hr4.wide (lo' := W.heap.size) (by have := HBX.out.size; omega) (Nat.le_refl _)
  rw [hβ] at hBw hWβ ⊢
  clear hβ HLX HBX HBg HB4 HXz HXb hHz hxs
  have hXo := put4' hBw (.slice A' no c')
  have hr5 := rowR_here (row_other_set (off := 4) (u := .slice A' no c') hrw hBw (by decide))
  have hL5 : Laid (w4.setCell ⟨β, 4, none⟩ (.slice A' no c')) W.heap.size (w4.setCell ⟨β, 4, none⟩ (.slice A' no c')).heap.size ⟨B1, e1, B2, e2, B4, e4, B5, e5, LA, LC⟩ b := ⟨hLw.1, ⟨rowR_here (row_other_set hLw.2.1.1 hBw (by decide)), fun k hk => rowR_here (row_other_set (hLw.2.1.2 k hk) hBw (by decide))⟩, rowR_here (row_other_set hLw.2.2.1 hBw (by decide)), rowR_here (row_other_set hLw.2.2.2.1 hBw (by decide)), rowR_here (row_other_set hLw.2.2.2.2 hBw (by decide))⟩
  have hw5 := hWw.setCell (p := ⟨β, 4, none⟩) hWβ (.slice A' no c')
  obtain ⟨W4, hW4'⟩ : ∃ W4, w4.setCell ⟨β, 4, none⟩ (.slice A' no c') = W4 := ⟨_, rfl⟩
  rw [hW4'] at hXo hr5 hL5 hw5 ⊢
  obtain ⟨H4, hH4⟩ : ∃ H4, W4.heap.size = H4 := ⟨_, rfl⟩
  rw [hH4] at hr5 hL5
  have HX := Lib.hid hXo
  have HLX := Lib.hid hL5
  have HBX := Lib.hid hw5
  have HR5 := Lib.hid hr5
  have hβl : β < H4 := by rw [← hH4]; exact World.rowIs.lt hXo
  clear hLw hBw hWw hrw hXo hr5 hL5 hw5 hW4' hH4 hr4 hW4
  go_loopw [8] (fun i wr => ∃ k : Nat, k ≤ n1 ∧ i = .int .i64 k ∧ Laid wr W.heap.size H4 ⟨B1, e1, B2, e2, B4, e4, B5, e5, LA, LC⟩ (mixL (fun _ _ l => ouF b nm ou l) k 0 b) ∧ BoxAt wr β 36 (.int .i64 b.roots) (.slice B1 n1 e1) (.slice B2 n2 e2) (.int .i64 b.edges) (.slice A' no c') (.slice B5 n5 e5) ∧ RowR wr W.heap.size H4 9 1 A' no c' (at_ ou) ∧ Below W.heap.size W wr) (fun i _ => n1 - (intOf i).toNat)
  case atStart => exact ⟨0, Nat.zero_le _, rfl, by rw [mixL_zero]; exact HLX.out, HX.out, HR5.out, HBX.out⟩
  case round =>
    obtain ⟨k, hk, rfl, hL, hbo, hro, hbel⟩ := hrel
    obtain ⟨y0, y1, y2, y3, y4, y5⟩ := hbo.get
    by_cases hlt : k < n1
    · obtain ⟨x, hx⟩ : ∃ x, b.nodes[k]? = some x := ⟨_, List.getElem?_eq_getElem (show k < b.nodes.length by rw [HL1.out]; exact hlt)⟩
      have HXk := Lib.hid hx
      obtain ⟨g1, f1, eA, -, -, -, -, -, -, -, -⟩ := hL.node (mixL_get hx)
      have eA' : B1 = some ⟨g1, 0, none⟩ := eA
      subst eA'
      obtain ⟨nl, hnl⟩ : ∃ nl, x.links.length = nl := ⟨_, rfl⟩
      have HN := Lib.hid hnl
      have HL0 := Lib.hid hL
      have HBo0 := Lib.hid hbo
      have HRo0 := Lib.hid hro
      have HBe0 := Lib.hid hbel
      have hnl3 : nl ≤ 3 := by have := links3 HG.out x (List.mem_of_getElem? hx); omega
      clear hx eA hL hbo hbel hnl hro
      go_wp2_with fail
      clear y0 y1 y2 y3 y4 y5
      go_loopw [9] (fun i wq => ∃ j : Nat, j ≤ nl ∧ i = .int .i64 j ∧ Laid wq W.heap.size H4 ⟨some ⟨g1, 0, none⟩, e1, B2, e2, B4, e4, B5, e5, LA, LC⟩ (mixL (fun _ _ l => ouF b nm ou l) k j b) ∧ BoxAt wq β 36 (.int .i64 b.roots) (.slice (some ⟨g1, 0, none⟩) n1 e1) (.slice B2 n2 e2) (.int .i64 b.edges) (.slice A' no c') (.slice B5 n5 e5) ∧ RowR wq W.heap.size H4 9 1 A' no c' (at_ ou) ∧ Below W.heap.size W wq) (fun i _ => nl - (intOf i).toNat)
      case atStart => exact ⟨0, Nat.zero_le _, rfl, HL0.out, HBo0.out, HRo0.out, HBe0.out⟩
      case round =>
        obtain ⟨j, hj, rfl, hL, hbo, hro, hbel⟩ := hrel
        rename World => wq
        have hwq := hbel.size
        obtain ⟨g1', f1, eA, -, -, r1, hk3, -, -, ek, -⟩ := hL.node (mixL_get HXk.out)
        dsimp only at eA r1 hk3 ek
        injection eA with eA
        injection eA with eA
        subst eA
        rw [List.length_mapIdx, HN.out] at ek
        have q1 := r1.cell hk3
        rw [ek] at q1
        have hg1s := World.rowIs.lt r1
        have hβs := World.rowIs.lt hbo
        clear ek r1 hk3
        obtain ⟨y0, y1, y2, y3, y4, y5⟩ := hbo.get
        by_cases hlj : j < nl
        · obtain ⟨l, hl⟩ : ∃ l, x.links[j]? = some l := ⟨_, List.getElem?_eq_getElem (show j < x.links.length by rw [HN.out]; exact hlj)⟩
          have hlr := HLn.out x (List.mem_of_getElem? HXk.out) l (List.mem_of_getElem? hl)
          obtain ⟨g2, f2, eL, hg2, r2, hjc, hf2, hst⟩ := lk_parts hL (mixL_get HXk.out) (show (List.mapIdx (fun m l => if k < k ∨ k = k ∧ m < j then ouF b nm ou l else l) x.links)[j]? = some l from mixL_link (F := (fun _ _ l => ouF b nm ou l)) (b := b) hl) hbo
          dsimp only at eL r2 hjc
          rw [eL] at q1
          have q2 := r2.cell hjc
          rw [hf2] at q2
          have hg2s := World.rowIs.lt r2
          have HBx := Lib.hid (HBox.out.below hbel hWs)
          have x3 := HBx.out.get.2.2.2.1
          by_cases hle : l < b.edges
          · have HNs : Hid (mixL (fun _ _ l => ouF b nm ou l) k (j + 1) b = mixL (fun _ _ l => ouF b nm ou l) k j b) := Lib.hid (mixL_skip HXk.out hl (ouF_edge hle))
            have HLd := Lib.hid hL
            have HBod := Lib.hid hbo
            have HRod := Lib.hid hro
            have HBed := Lib.hid hbel
            clear hL hbo hbel hro hst r2 hf2 hl eL
            go_wp2_with fail
            go_roundw
            case rel => exact ⟨j + 1, by omega, by go_num, by rw [HNs.out]; exact HLd.out, HBod.out, HRod.out, HBed.out⟩
            case measure => simp [intOf]; omega
          · obtain ⟨i, hi, hin⟩ := HLk.out l hlr (by omega)
            obtain ⟨bn, on, s, rfl, hbn, hs, cn'⟩ := HNm.out.str (show i < nn by rw [HNl.out]; exact hin)
            have hwb : Below w.heap.size w wq := HB0.out.trans (hbel.mono HB0.out.size)
            have q3 := (hwb.cell (p := ⟨bn, on + i, none⟩) hbn).trans cn'
            obtain ⟨T, hT⟩ : ∃ T, ixF ou s = T := ⟨_, rfl⟩
            have HFl : Hid (ouF b nm ou l = b.edges + T) := Lib.hid (by rw [← hT]; exact ouF_name hle hi hs)
            have CT := fun Y hY => hT ▸ HAt.out s Y hY
            have hTi := hT ▸ HIn.out s
            have hol := HOl.out
            have hwr : IntKind.i64.wrap (b.edges + T) = b.edges + T := IntWalk.i64_in _ (by omega)
            have hli : l = b.edges + i := by omega
            have hnn : i < nn := by rw [HNl.out]; exact hin
            have HSt := Lib.hid (fun w' hq => hst w' hq (b.edges + T))
            have HRs := Lib.hid (fun w' (hq : Below wq.heap.size wq w') => row_far_set (g := g2) (off := j) (u := .int .i64 (b.edges + T)) (hro.on hq) (fun e => by
              have h1 := hro
              rw [e] at h1
              rcases h1 with ⟨e0, _⟩ | ⟨g3, f3, e3, _, _, _, hr3, _⟩
              · cases e0
              · injection e3 with e3
                injection e3 with e3
                subst e3
                exact absurd (rowIs_uniq hr3 r2).1 (by decide)))
            have HR2 := Lib.hid r2
            have HF2 := Lib.hid hf2
            have hkD := (Below.refl wq.heap.size wq).drew
            have hwD := hwb.drew
            have HNx : Hid (setL (mixL (fun _ _ l => ouF b nm ou l) k j b) k j (b.edges + T) = mixL (fun _ _ l => ouF b nm ou l) k (j + 1) b) := Lib.hid (by rw [← HFl.out]; exact mixL_next (F := (fun _ _ l => ouF b nm ou l)) HXk.out hl)
            have HBe := Lib.hid hbel
            have HS2 : Hid (∀ w', Below wq.heap.size wq w' → w'.cell? ⟨w.heap.size, 3, none⟩ = some (.int .i64 b.edges) ∧ (w'.cell? ⟨β, 1, none⟩ = some (.slice (some ⟨g1, 0, none⟩) n1 e1) ∧ w'.cell? ⟨g1, k * 3 + 2, none⟩ = some (.slice (some ⟨g2, 0, none⟩) nl (LC k)) ∧ w'.cell? ⟨g2, j, none⟩ = some (.int .i64 l) ∧ w'.cell? ⟨bn, on + i, none⟩ = some (.string s))) := Lib.hid (fun w' hq => ⟨(HBx.out.on hq).get.2.2.2.1, (hbo.on hq).get.2.1, (hq.cell (p := ⟨g1, k * 3 + 2, none⟩) hg1s).trans q1, (hq.cell (p := ⟨g2, j, none⟩) hg2s).trans q2, (hq.cell (p := ⟨bn, on + i, none⟩) (by dsimp only; have := hwb.size; omega)).trans q3⟩)
            clear hT hst hl hL hbo hbel hro r2 hf2 eL hs cn' hlr hi hin
            subst hli
            have hsub : b.edges + (i : Int) - b.edges = (i : Int) := by omega
            have hwi : IntKind.i64.wrap (i : Int) = (i : Int) := IntWalk.i64_in _ (by have := HNl.out; omega)
            go_wp2_with fail
            clear y0 y1 y2 y3 y4 y5 q1 q2 q3 x3
            refine rh.go_begin 20 (fun w' => w'.cell? ⟨w.heap.size, 3, none⟩ = some (.int .i64 b.edges) ∧ (w'.cell? ⟨β, 1, none⟩ = some (.slice (some ⟨g1, 0, none⟩) n1 e1) ∧ w'.cell? ⟨g1, k * 3 + 2, none⟩ = some (.slice (some ⟨g2, 0, none⟩) nl (LC k)) ∧ w'.cell? ⟨g2, j, none⟩ = some (.int .i64 (b.edges + i)) ∧ w'.cell? ⟨bn, on + i, none⟩ = some (.string s))) (by kernel_rfl) ?_ (fun hHeld => ?_)
            · ((try dsimp only); exact HS2.out _ (by go_grown))
            refine rh.go_take (i := 0) (v := ?v1) rfl (by kernel_rfl) (fun _ _ _ h => h) (Or.inl ⟨by rfl, ?hy1⟩) (by assumption) ?rest1
            case hy1 => (intro wS hSw; (try dsimp only at hSw); go_simp; try (with_reducible rfl))
            try simp only [Act.put, List.setIfInBounds_toArray, List.set_cons_zero, List.set_cons_succ]
            refine rh.go_take (i := 1) (v := ?v2) rfl (by kernel_rfl) (fun _ _ _ h => h) (Or.inl ⟨by rfl, ?hy2⟩) (by assumption) ?rest2
            case hy2 => (intro wS hSw; (try dsimp only at hSw); go_simp; try (with_reducible rfl))
            try simp only [Act.put, List.setIfInBounds_toArray, List.set_cons_zero, List.set_cons_succ]
            refine rh.go_take (i := 2) (v := ?v3) rfl (by kernel_rfl) (fun _ _ _ h => h) (Or.inl ⟨by rfl, ?hy3⟩) (by assumption) ?rest3
            case hy3 => (intro wS hSw; (try dsimp only at hSw); go_simp; try (with_reducible rfl))
            try simp only [Act.put, List.setIfInBounds_toArray, List.set_cons_zero, List.set_cons_succ]
            refine rh.go_take (i := 3) (v := ?v4) rfl (by kernel_rfl) (fun _ _ _ h => h) (Or.inl ⟨by rfl, ?hy4⟩) (by assumption) ?rest4
            case hy4 => (intro wS hSw; (try dsimp only at hSw); go_simp; try (with_reducible rfl))
            try simp only [Act.put, List.setIfInBounds_toArray, List.set_cons_zero, List.set_cons_succ]
            refine rh.go_take (i := 4) (v := ?v5) rfl (by kernel_rfl) (fun _ _ _ h => h) (Or.inl ⟨by rfl, ?hy5⟩) (by assumption) ?rest5
            case hy5 => (intro wS hSw; (try dsimp only at hSw); go_simp; try (with_reducible rfl))
            try simp only [Act.put, List.setIfInBounds_toArray, List.set_cons_zero, List.set_cons_succ]
            refine rh.go_take (i := 5) (v := ?v6) rfl (by kernel_rfl) (fun _ _ _ h => h) (Or.inl ⟨by rfl, ?hy6⟩) (by assumption) ?rest6
            case hy6 => (intro wS hSw; (try dsimp only at hSw); go_simp; try (with_reducible rfl))
            try simp only [Act.put, List.setIfInBounds_toArray, List.set_cons_zero, List.set_cons_succ]
            refine rh.go_take (i := 6) (v := ?v7) rfl (by kernel_rfl) (fun _ _ _ h => h) (Or.inl ⟨by rfl, ?hy7⟩) (by assumption) ?rest7
            case hy7 => (intro wS hSw; (try dsimp only at hSw); go_simp; try (with_reducible rfl))
            try simp only [Act.put, List.setIfInBounds_toArray, List.set_cons_zero, List.set_cons_succ]
            refine rh.go_take (i := 7) (v := ?v8) rfl (by kernel_rfl) (fun _ _ _ h => h) (Or.inl ⟨by rfl, ?hy8⟩) (by assumption) ?rest8
            case hy8 => (intro wS hSw; (try dsimp only at hSw); go_simp; try (with_reducible rfl))
            try simp only [Act.put, List.setIfInBounds_toArray, List.set_cons_zero, List.set_cons_succ]
            refine rh.go_take (i := 8) (v := ?v9) rfl (by kernel_rfl) (fun _ _ _ h => h) (Or.inl ⟨by rfl, ?hy9⟩) (by assumption) ?rest9
            case hy9 => (intro wS hSw; (try dsimp only at hSw); go_simp; try (with_reducible rfl))
            try simp only [Act.put, List.setIfInBounds_toArray, List.set_cons_zero, List.set_cons_succ]
            refine rh.go_take (i := 9) (v := ?v10) rfl (by kernel_rfl) (fun _ _ _ h => h) (Or.inl ⟨by rfl, ?hy10⟩) (by assumption) ?rest10
            case hy10 => (intro wS hSw; (try dsimp only at hSw); go_simp; try (with_reducible rfl))
            try simp only [Act.put, List.setIfInBounds_toArray, List.set_cons_zero, List.set_cons_succ]
            refine rh.go_take (i := 10) (v := ?v11) rfl (by kernel_rfl) (fun _ _ _ h => h) (Or.inl ⟨by rfl, ?hy11⟩) (by assumption) ?rest11
            case hy11 => (intro wS hSw; (try dsimp only at hSw); go_simp; try (with_reducible rfl))
            try simp only [Act.put, List.setIfInBounds_toArray, List.set_cons_zero, List.set_cons_succ]
            refine rh.go_take (i := 11) (v := ?v12) rfl (by kernel_rfl) (fun _ _ _ h => h) (Or.inl ⟨by rfl, ?hy12⟩) (by assumption) ?rest12
            case hy12 => (intro wS hSw; (try dsimp only at hSw); go_simp; try (with_reducible rfl))
            try simp only [Act.put, List.setIfInBounds_toArray, List.set_cons_zero, List.set_cons_succ]
            refine rh.go_take (i := 12) (v := ?v13) rfl (by kernel_rfl) (fun _ _ _ h => h) (Or.inl ⟨by rfl, ?hy13⟩) (by assumption) ?rest13
            case hy13 => (intro wS hSw; (try dsimp only at hSw); go_simp; try (with_reducible rfl))
            try simp only [Act.put, List.setIfInBounds_toArray, List.set_cons_zero, List.set_cons_succ]
            refine rh.go_take (i := 13) (v := ?v14) rfl (by kernel_rfl) (fun _ _ _ h => h) (Or.inl ⟨by rfl, ?hy14⟩) (by assumption) ?rest14
            case hy14 => (intro wS hSw; (try dsimp only at hSw); go_simp; try (with_reducible rfl))
            try simp only [Act.put, List.setIfInBounds_toArray, List.set_cons_zero, List.set_cons_succ]
            refine rh.go_take (i := 14) (v := ?v15) rfl (by kernel_rfl) (fun _ _ _ h => h) (Or.inl ⟨by rfl, ?hy15⟩) (by assumption) ?rest15
            case hy15 => (intro wS hSw; (try dsimp only at hSw); go_simp; try (with_reducible rfl))
            try simp only [Act.put, List.setIfInBounds_toArray, List.set_cons_zero, List.set_cons_succ]
            refine rh.go_take (i := 15) (v := ?v16) rfl (by kernel_rfl) (fun _ _ _ h => h) (Or.inl ⟨by rfl, ?hy16⟩) (by assumption) ?rest16
            case hy16 => (intro wS hSw; (try dsimp only at hSw); go_simp; try (with_reducible rfl))
            try simp only [Act.put, List.setIfInBounds_toArray, List.set_cons_zero, List.set_cons_succ]
            refine rh.go_take (i := 16) (v := ?v17) rfl (by kernel_rfl) (fun _ _ _ h => h) (Or.inl ⟨by rfl, ?hy17⟩) (by assumption) ?rest17
            case hy17 => (intro wS hSw; (try dsimp only at hSw); go_simp; try (with_reducible rfl))
            try simp only [Act.put, List.setIfInBounds_toArray, List.set_cons_zero, List.set_cons_succ]
            refine rh.go_next (i := 17) rfl (by kernel_rfl) (fun K2 hK => ?_)
            (go_simp; go_at_call 119; refine (CT _ hwD).mono ?_; rintro e w5 ⟨rfl, rfl⟩; have HK2 := Lib.hid hkD; go_wp2_with fail)
            refine hK.out _ _ ?_ (fun hHeld => ?_)
            · ((try dsimp only); exact HS2.out _ (by go_grown))
            clear hK K2
            try simp only [Act.put, List.setIfInBounds_toArray, List.set_cons_zero, List.set_cons_succ]
            refine rh.go_take (i := 18) (v := ?v18) rfl (by kernel_rfl) (fun _ _ _ h => h) (Or.inl ⟨by rfl, ?hy18⟩) (by assumption) ?rest18
            case hy18 => (intro wS hSw; (try dsimp only at hSw); go_simp; try (with_reducible rfl))
            try simp only [Act.put, List.setIfInBounds_toArray, List.set_cons_zero, List.set_cons_succ]
            refine rh.go_take (i := 19) (v := ?v19) rfl (by kernel_rfl) (fun _ _ _ h => h) (Or.inl ⟨by rfl, ?hy19⟩) (by assumption) ?rest19
            case hy19 => (intro wS hSw; (try dsimp only at hSw); go_simp; try (with_reducible rfl))
            try simp only [Act.put, List.setIfInBounds_toArray, List.set_cons_zero, List.set_cons_succ]
            have r5 := World.rowIs.of_block HR2.out (HK2.out.block g2 hg2s)
            have q5 := r5.cell hjc
            rw [HF2.out] at q5
            have f5 := World.rowIs.frozen r5 j
            refine rh.go_last rfl (by kernel_rfl) (fun K2 hK => ?_)
            go_simp
            refine hK.out _ _ ?_
            refine NoPanic.normal ?_
            clear hK K2
            go_wp2_with fail
            go_roundw
            case rel =>
              have hs := HSt.out _ HK2.out
              rw [HNx.out] at hs
              exact ⟨j + 1, by omega, by go_num, hs.1, hs.2, HRs.out wq.drew HK2.out, (HBe.out.trans (HK2.out.mono hwq)).setCell (p := ⟨g2, j, none⟩) hg2 _⟩
            case measure => simp [intOf]; omega
        · obtain rfl : j = nl := by omega
          have HLd := Lib.hid hL
          have HBod := Lib.hid hbo
          have HRod := Lib.hid hro
          have HBed := Lib.hid hbel
          clear hL hbo hbel hro
          go_wp2_with fail
          go_roundw
          case rel =>
            have h := HLd.out
            rw [← HN.out, mixL_done HXk.out] at h
            exact ⟨k + 1, by omega, by go_num, h, HBod.out, HRod.out, HBed.out⟩
          case measure => simp [intOf]; omega
    · obtain rfl : n1 = k := by omega
      have HLd := Lib.hid hL
      have HBod := Lib.hid hbo
      have HRod := Lib.hid hro
      have HBed := Lib.hid hbel
      clear hL hbo hbel hro
      go_wp2_with fail
      clear y0 y1 y2 y3 y4 y5
      go_loopw [11] (fun i wr => ∃ k : Nat, k ≤ n5 ∧ i = .int .i64 k ∧ Laid wr W.heap.size H4 ⟨B1, e1, B2, e2, B4, e4, B5, e5, LA, LC⟩ (mixW (fun _ l => ouF b nm ou l) k (mixL (fun _ _ l => ouF b nm ou l) n1 0 b)) ∧ BoxAt wr β 36 (.int .i64 b.roots) (.slice B1 n1 e1) (.slice B2 n2 e2) (.int .i64 b.edges) (.slice A' no c') (.slice B5 n5 e5) ∧ RowR wr W.heap.size H4 9 1 A' no c' (at_ ou) ∧ Below W.heap.size W wr) (fun i _ => n5 - (intOf i).toNat)
      case atStart => exact ⟨0, Nat.zero_le _, rfl, by rw [mixW_zero]; exact HLd.out, HBod.out, HRod.out, HBed.out⟩
      case round =>
        obtain ⟨k, hk, rfl, hL, hbo, hro, hbel⟩ := hrel
        rename World => wq
        have hwq := hbel.size
        have hβs := World.rowIs.lt hbo
        obtain ⟨y0, y1, y2, y3, y4, y5⟩ := hbo.get
        by_cases hlt : k < n5
        · obtain ⟨x, hx⟩ : ∃ x, b.inner[k]? = some x := ⟨_, List.getElem?_eq_getElem (show k < b.inner.length by rw [HL5.out]; exact hlt)⟩
          have hx' : (mixL (fun _ _ l => ouF b nm ou l) n1 0 b).inner[k]? = some x := hx
          have hlr := HLw.out x (List.mem_of_getElem? hx)
          obtain ⟨g1, f2, eA, hg2, r2, hjc, hf2, hst⟩ := wr_parts hL (mixW_get hx') hbo
          have eA' : B5 = some ⟨g1, 0, none⟩ := eA
          subst eA'
          dsimp only at r2 hjc
          have q2 := r2.cell hjc
          rw [hf2] at q2
          have hg1s := World.rowIs.lt r2
          have HBx := Lib.hid (HBox.out.below hbel hWs)
          have x3 := HBx.out.get.2.2.2.1
          obtain ⟨l, hl⟩ : ∃ l, x.link = l := ⟨_, rfl⟩
          have HFx : Hid ((fun _ l => ouF b nm ou l) k x.link = ouF b nm ou l) := Lib.hid (by rw [hl])
          rw [hl] at q2 hlr hf2
          by_cases hle : l < b.edges
          · have HNs : Hid (mixW (fun _ l => ouF b nm ou l) (k + 1) (mixL (fun _ _ l => ouF b nm ou l) n1 0 b) = mixW (fun _ l => ouF b nm ou l) k (mixL (fun _ _ l => ouF b nm ou l) n1 0 b)) := Lib.hid (mixW_skip hx' (by show ouF b nm ou x.link = x.link; rw [hl]; exact ouF_edge hle))
            have HLd := Lib.hid hL
            have HBod := Lib.hid hbo
            have HRod := Lib.hid hro
            have HBed := Lib.hid hbel
            clear hL hbo hbel hro hst r2 hf2 hl hx hx' eA
            go_wp2_with fail
            go_roundw
            case rel => exact ⟨k + 1, by omega, by go_num, by rw [HNs.out]; exact HLd.out, HBod.out, HRod.out, HBed.out⟩
            case measure => simp [intOf]; omega
          · obtain ⟨i, hi, hin⟩ := HLk.out l hlr (by omega)
            obtain ⟨bn, on, s, rfl, hbn, hs, cn'⟩ := HNm.out.str (show i < nn by rw [HNl.out]; exact hin)
            have hwb : Below w.heap.size w wq := HB0.out.trans (hbel.mono HB0.out.size)
            have q3 := (hwb.cell (p := ⟨bn, on + i, none⟩) hbn).trans cn'
            obtain ⟨T, hT⟩ : ∃ T, ixF ou s = T := ⟨_, rfl⟩
            have HFl : Hid (ouF b nm ou l = b.edges + T) := Lib.hid (by rw [← hT]; exact ouF_name hle hi hs)
            have CT := fun Y hY => hT ▸ HAt.out s Y hY
            have hTi := hT ▸ HIn.out s
            have hol := HOl.out
            have hwr : IntKind.i64.wrap (b.edges + T) = b.edges + T := IntWalk.i64_in _ (by omega)
            have hli : l = b.edges + i := by omega
            have hnn : i < nn := by rw [HNl.out]; exact hin
            have HSt := Lib.hid (fun w' hq => hst w' hq (b.edges + T))
            have HRs := Lib.hid (fun w' (hq : Below wq.heap.size wq w') => row_far_set (g := g1) (off := k * 2 + 1) (u := .int .i64 (b.edges + T)) (hro.on hq) (fun e => by
              have h1 := hro
              rw [e] at h1
              rcases h1 with ⟨e0, _⟩ | ⟨g3, f3, e3, _, _, _, hr3, _⟩
              · cases e0
              · injection e3 with e3
                injection e3 with e3
                subst e3
                exact absurd (rowIs_uniq hr3 r2).1 (by decide)))
            have HR2 := Lib.hid r2
            have HF2 := Lib.hid hf2
            have hkD := (Below.refl wq.heap.size wq).drew
            have hwD := hwb.drew
            have HNx : Hid (setW (mixW (fun _ l => ouF b nm ou l) k (mixL (fun _ _ l => ouF b nm ou l) n1 0 b)) k (b.edges + T) = mixW (fun _ l => ouF b nm ou l) (k + 1) (mixL (fun _ _ l => ouF b nm ou l) n1 0 b)) := Lib.hid (by rw [← HFl.out, ← HFx.out]; exact mixW_next (F := (fun _ l => ouF b nm ou l)) hx')
            have HBe := Lib.hid hbel
            have HS2 : Hid (∀ w', Below wq.heap.size wq w' → w'.cell? ⟨w.heap.size, 3, none⟩ = some (.int .i64 b.edges) ∧ (w'.cell? ⟨β, 5, none⟩ = some (.slice (some ⟨g1, 0, none⟩) n5 e5) ∧ w'.cell? ⟨g1, k * 2 + 1, none⟩ = some (.int .i64 l) ∧ w'.cell? ⟨bn, on + i, none⟩ = some (.string s))) := Lib.hid (fun w' hq => ⟨(HBx.out.on hq).get.2.2.2.1, (hbo.on hq).get.2.2.2.2.2, (hq.cell (p := ⟨g1, k * 2 + 1, none⟩) hg1s).trans q2, (hq.cell (p := ⟨bn, on + i, none⟩) (by dsimp only; have := hwb.size; omega)).trans q3⟩)
            clear hT hst hx hx' hL hbo hbel hro r2 hf2 eA hs cn' hlr hi hin hl
            subst hli
            have hsub : b.edges + (i : Int) - b.edges = (i : Int) := by omega
            have hwi : IntKind.i64.wrap (i : Int) = (i : Int) := IntWalk.i64_in _ (by have := HNl.out; omega)
            go_wp2_with fail
            clear y0 y1 y2 y3 y4 y5 q2 q3 x3
            refine rh.go_begin 17 (fun w' => w'.cell? ⟨w.heap.size, 3, none⟩ = some (.int .i64 b.edges) ∧ (w'.cell? ⟨β, 5, none⟩ = some (.slice (some ⟨g1, 0, none⟩) n5 e5) ∧ w'.cell? ⟨g1, k * 2 + 1, none⟩ = some (.int .i64 (b.edges + i)) ∧ w'.cell? ⟨bn, on + i, none⟩ = some (.string s))) (by kernel_rfl) ?_ (fun hHeld => ?_)
            · ((try dsimp only); exact HS2.out _ (by go_grown))
            refine rh.go_take (i := 0) (v := ?v20) rfl (by kernel_rfl) (fun _ _ _ h => h) (Or.inl ⟨by rfl, ?hy20⟩) (by assumption) ?rest20
            case hy20 => (intro wS hSw; (try dsimp only at hSw); go_simp; try (with_reducible rfl))
            try simp only [Act.put, List.setIfInBounds_toArray, List.set_cons_zero, List.set_cons_succ]
            refine rh.go_take (i := 1) (v := ?v21) rfl (by kernel_rfl) (fun _ _ _ h => h) (Or.inl ⟨by rfl, ?hy21⟩) (by assumption) ?rest21
            case hy21 => (intro wS hSw; (try dsimp only at hSw); go_simp; try (with_reducible rfl))
            try simp only [Act.put, List.setIfInBounds_toArray, List.set_cons_zero, List.set_cons_succ]
            refine rh.go_take (i := 2) (v := ?v22) rfl (by kernel_rfl) (fun _ _ _ h => h) (Or.inl ⟨by rfl, ?hy22⟩) (by assumption) ?rest22
            case hy22 => (intro wS hSw; (try dsimp only at hSw); go_simp; try (with_reducible rfl))
            try simp only [Act.put, List.setIfInBounds_toArray, List.set_cons_zero, List.set_cons_succ]
            refine rh.go_take (i := 3) (v := ?v23) rfl (by kernel_rfl) (fun _ _ _ h => h) (Or.inl ⟨by rfl, ?hy23⟩) (by assumption) ?rest23
            case hy23 => (intro wS hSw; (try dsimp only at hSw); go_simp; try (with_reducible rfl))
            try simp only [Act.put, List.setIfInBounds_toArray, List.set_cons_zero, List.set_cons_succ]
            refine rh.go_take (i := 4) (v := ?v24) rfl (by kernel_rfl) (fun _ _ _ h => h) (Or.inl ⟨by rfl, ?hy24⟩) (by assumption) ?rest24
            case hy24 => (intro wS hSw; (try dsimp only at hSw); go_simp; try (with_reducible rfl))
            try simp only [Act.put, List.setIfInBounds_toArray, List.set_cons_zero, List.set_cons_succ]
            refine rh.go_take (i := 5) (v := ?v25) rfl (by kernel_rfl) (fun _ _ _ h => h) (Or.inl ⟨by rfl, ?hy25⟩) (by assumption) ?rest25
            case hy25 => (intro wS hSw; (try dsimp only at hSw); go_simp; try (with_reducible rfl))
            try simp only [Act.put, List.setIfInBounds_toArray, List.set_cons_zero, List.set_cons_succ]
            refine rh.go_take (i := 6) (v := ?v26) rfl (by kernel_rfl) (fun _ _ _ h => h) (Or.inl ⟨by rfl, ?hy26⟩) (by assumption) ?rest26
            case hy26 => (intro wS hSw; (try dsimp only at hSw); go_simp; try (with_reducible rfl))
            try simp only [Act.put, List.setIfInBounds_toArray, List.set_cons_zero, List.set_cons_succ]
            refine rh.go_take (i := 7) (v := ?v27) rfl (by kernel_rfl) (fun _ _ _ h => h) (Or.inl ⟨by rfl, ?hy27⟩) (by assumption) ?rest27
            case hy27 => (intro wS hSw; (try dsimp only at hSw); go_simp; try (with_reducible rfl))
            try simp only [Act.put, List.setIfInBounds_toArray, List.set_cons_zero, List.set_cons_succ]
            refine rh.go_take (i := 8) (v := ?v28) rfl (by kernel_rfl) (fun _ _ _ h => h) (Or.inl ⟨by rfl, ?hy28⟩) (by assumption) ?rest28
            case hy28 => (intro wS hSw; (try dsimp only at hSw); go_simp; try (with_reducible rfl))
            try simp only [Act.put, List.setIfInBounds_toArray, List.set_cons_zero, List.set_cons_succ]
            refine rh.go_take (i := 9) (v := ?v29) rfl (by kernel_rfl) (fun _ _ _ h => h) (Or.inl ⟨by rfl, ?hy29⟩) (by assumption) ?rest29
            case hy29 => (intro wS hSw; (try dsimp only at hSw); go_simp; try (with_reducible rfl))
            try simp only [Act.put, List.setIfInBounds_toArray, List.set_cons_zero, List.set_cons_succ]
            refine rh.go_take (i := 10) (v := ?v30) rfl (by kernel_rfl) (fun _ _ _ h => h) (Or.inl ⟨by rfl, ?hy30⟩) (by assumption) ?rest30
            case hy30 => (intro wS hSw; (try dsimp only at hSw); go_simp; try (with_reducible rfl))
            try simp only [Act.put, List.setIfInBounds_toArray, List.set_cons_zero, List.set_cons_succ]
            refine rh.go_take (i := 11) (v := ?v31) rfl (by kernel_rfl) (fun _ _ _ h => h) (Or.inl ⟨by rfl, ?hy31⟩) (by assumption) ?rest31
            case hy31 => (intro wS hSw; (try dsimp only at hSw); go_simp; try (with_reducible rfl))
            try simp only [Act.put, List.setIfInBounds_toArray, List.set_cons_zero, List.set_cons_succ]
            refine rh.go_take (i := 12) (v := ?v32) rfl (by kernel_rfl) (fun _ _ _ h => h) (Or.inl ⟨by rfl, ?hy32⟩) (by assumption) ?rest32
            case hy32 => (intro wS hSw; (try dsimp only at hSw); go_simp; try (with_reducible rfl))
            try simp only [Act.put, List.setIfInBounds_toArray, List.set_cons_zero, List.set_cons_succ]
            refine rh.go_next (i := 13) rfl (by kernel_rfl) (fun K2 hK => ?_)
            (go_simp; go_at_call 119; refine (CT _ hwD).mono ?_; rintro e w5 ⟨rfl, rfl⟩; have HK2 := Lib.hid hkD; go_wp2_with fail)
            refine hK.out _ _ ?_ (fun hHeld => ?_)
            · ((try dsimp only); exact HS2.out _ (by go_grown))
            clear hK K2
            try simp only [Act.put, List.setIfInBounds_toArray, List.set_cons_zero, List.set_cons_succ]
            refine rh.go_take (i := 14) (v := ?v33) rfl (by kernel_rfl) (fun _ _ _ h => h) (Or.inl ⟨by rfl, ?hy33⟩) (by assumption) ?rest33
            case hy33 => (intro wS hSw; (try dsimp only at hSw); go_simp; try (with_reducible rfl))
            try simp only [Act.put, List.setIfInBounds_toArray, List.set_cons_zero, List.set_cons_succ]
            refine rh.go_take (i := 15) (v := ?v34) rfl (by kernel_rfl) (fun _ _ _ h => h) (Or.inl ⟨by rfl, ?hy34⟩) (by assumption) ?rest34
            case hy34 => (intro wS hSw; (try dsimp only at hSw); go_simp; try (with_reducible rfl))
            try simp only [Act.put, List.setIfInBounds_toArray, List.set_cons_zero, List.set_cons_succ]
            refine rh.go_take (i := 16) (v := ?v35) rfl (by kernel_rfl) (fun _ _ _ h => h) (Or.inl ⟨by rfl, ?hy35⟩) (by assumption) ?rest35
            case hy35 => (intro wS hSw; (try dsimp only at hSw); go_simp; try (with_reducible rfl))
            try simp only [Act.put, List.setIfInBounds_toArray, List.set_cons_zero, List.set_cons_succ]
            have r5 := World.rowIs.of_block HR2.out (HK2.out.block g1 hg1s)
            have q5 := r5.cell hjc
            rw [HF2.out] at q5
            have f5 := World.rowIs.frozen r5 (k * 2 + 1)
            refine rh.go_last rfl (by kernel_rfl) (fun K2 hK => ?_)
            go_simp
            refine hK.out _ _ ?_
            refine NoPanic.normal ?_
            clear hK K2
            go_wp2_with fail
            go_roundw
            case rel =>
              have hs := HSt.out _ HK2.out
              rw [HNx.out] at hs
              exact ⟨k + 1, by omega, by go_num, hs.1, hs.2, HRs.out wq.drew HK2.out, (HBe.out.trans (HK2.out.mono hwq)).setCell (p := ⟨g1, k * 2 + 1, none⟩) hg2 _⟩
            case measure => simp [intOf]; omega
        · obtain rfl : n5 = k := by omega
          have hB := HB0.out.trans (hbel.mono HB0.out.size)
          have HBig : Hid (BigR wq w.heap.size wq.heap.size (.agg #[.int .i64 b.roots, .slice B1 n1 e1, .slice B2 n2 e2, .int .i64 b.edges, .slice A' no c', .slice B5 n5 e5]) (ouB b nm ou)) := Lib.hid (by
            have hro2 := hro
            rw [← HOl.out] at hro2
            have h := ((laid_outer hL hro2 b.edges).here.wide (show w.heap.size ≤ W.heap.size from HB0.out.size) (Nat.le_refl _))
            have hm := ou_mix b nm ou
            rw [HL1.out, HL5.out] at hm
            have hb := h.big
            dsimp only at hb
            rw [show (mixW (fun _ l => ouF b nm ou l) n5 (mixL (fun _ _ l => ouF b nm ou l) n1 0 b)).nodes.length = n1 by (simp only [mixW, mixL, List.length_mapIdx]; exact HL1.out), show (mixW (fun _ l => ouF b nm ou l) n5 (mixL (fun _ _ l => ouF b nm ou l) n1 0 b)).sites.length = n2 from HL2.out, show (mixW (fun _ l => ouF b nm ou l) n5 (mixL (fun _ _ l => ouF b nm ou l) n1 0 b)).inner.length = n5 by (simp only [mixW, mixL, List.length_mapIdx]; exact HL5.out), HOl.out] at hb
            exact hm ▸ hb)
          have HBl := Lib.hid hB
          have HBx5 := Lib.hid (HBx0.out.below hbel (show w.heap.size + 1 < W.heap.size by omega))
          clear hL hbo hbel hB hro
          obtain ⟨z0, z1, z2, z3, z4, z5⟩ := HBx5.out.get
          have f0 := World.rowIs.frozen HBx5.out 0
          have f1 := World.rowIs.frozen HBx5.out 1
          have f2 := World.rowIs.frozen HBx5.out 2
          have f3 := World.rowIs.frozen HBx5.out 3
          have f4 := World.rowIs.frozen HBx5.out 4
          have f5 := World.rowIs.frozen HBx5.out 5
          go_wp2_with fail
          have hbig := (sets6_big HBx5.out HBig.out (.int .i64 b.roots) (.slice B1 n1 e1) (.slice B2 n2 e2) (.int .i64 b.edges) (.slice A' no c') (.slice B5 n5 e5)).here
          have hbel := sets6_below HBl.out (show w.heap.size ≤ w.heap.size + 1 from Nat.le_succ _) (.int .i64 b.roots) (.slice B1 n1 e1) (.slice B2 n2 e2) (.int .i64 b.edges) (.slice A' no c') (.slice B5 n5 e5)
          unfold sets6 at hbig hbel
          exact bodyPost_ret (v := .agg #[.int .i64 b.roots, .slice B1 n1 e1, .slice B2 n2 e2, .int .i64 b.edges, .slice A' no c', .slice B5 n5 e5]) (by simp [results, Tryz.results121, go_sem, z0, z1, z2, z3, z4, z5]) rfl ⟨_, rfl, hbig, hbel⟩
end Go.Proofs.YtfjgapkjpmkplaaGreat.lo
