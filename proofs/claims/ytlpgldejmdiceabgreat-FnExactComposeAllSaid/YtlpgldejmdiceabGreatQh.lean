/- Ow Mrp Mri Mrs in one. -/
import Derived.Test.YtlpgldejmdiceabGreatQg
import Derived.Test.YtlpgldejmdiceabGreatQf
import Derived.Test.YtlpgldejmdiceabGreatQd
import Derived.Test.YtlpgldejmdiceabGreatQe
import Derived.Handy
set_option linter.unusedSimpArgs false
section
namespace Go.Proofs.YtlpgldejmdiceabGreat.ow
open kit bg sg opn strs only hb sig isig un over gn nm inn ht gd im pt marks eqs hc hi hw hn rs br bm bw cf lf ib isa lawb lw cl rt chd pts psp idl has pm sb wb mb rl ed rnp lep rnm tp rn
open Go.RowKit
set_option linter.unusedVariables false
set_option maxRecDepth 20000 in
set_option maxHeartbeats 6400000 in
theorem ow_gen (v : Value) (b : Big) (w : World) (hv : BigAt w w.heap.size v b) (hN : NilV v) (hg : Sane b) :
    Calls Tryz.prog 21 #[v] w fun e w' => ∃ v', e = .returned v' ∧ BigR w' w.heap.size w'.heap.size v' b ∧ Below w.heap.size w w' := by
  have hVb := hv
  have hNb := hN
  obtain ⟨A1, n1, c1, A2, n2, c2, A4, n4, c4, A5, n5, c5, rfl, h1, h2, h4, h5⟩ := hv
  have hnil := hN.get
  have hbx := (Below.refl w.heap.size w).alloc (Nat.le_refl _) (.cells #[.int .i64 b.roots, .slice A1 n1 c1, .slice A2 n2 c2, .int .i64 b.edges, .slice A4 n4 c4, .slice A5 n5 c5] 31)
  have HBoxI : Hid (BoxAt (w.alloc (.cells #[.int .i64 b.roots, .slice A1 n1 c1, .slice A2 n2 c2, .int .i64 b.edges, .slice A4 n4 c4, .slice A5 n5 c5] 31)) w.heap.size 31 (.int .i64 b.roots) (.slice A1 n1 c1) (.slice A2 n2 c2) (.int .i64 b.edges) (.slice A4 n4 c4) (.slice A5 n5 c5)) := Lib.hid (six_new w _ _ _ _ _ _ _)
  obtain ⟨W0, hW0⟩ : ∃ W, w.alloc (.cells #[.int .i64 b.roots, .slice A1 n1 c1, .slice A2 n2 c2, .int .i64 b.edges, .slice A4 n4 c4, .slice A5 n5 c5] 31) = W := ⟨_, rfl⟩
  have hWz0 : W0.heap.size = w.heap.size + 1 := by rw [← hW0]; simp
  rw [hW0] at hbx HBoxI
  have hb0 := (Below.refl W0.heap.size W0).alloc (Nat.le_refl _) (.cells #[.int .i64 0, .slice none 0 0, .slice none 0 0, .int .i64 0, .slice none 0 0, .slice none 0 0] 31)
  have HBx0 : Hid (BoxAt (W0.alloc (.cells #[.int .i64 0, .slice none 0 0, .slice none 0 0, .int .i64 0, .slice none 0 0, .slice none 0 0] 31)) W0.heap.size 31 (.int .i64 0) (.slice none 0 0) (.slice none 0 0) (.int .i64 0) (.slice none 0 0) (.slice none 0 0)) := Lib.hid (six_new W0 _ _ _ _ _ _ _)
  have HBox := Lib.hid (HBoxI.out.on hb0)
  obtain ⟨W, hW⟩ : ∃ W, W0.alloc (.cells #[.int .i64 0, .slice none 0 0, .slice none 0 0, .int .i64 0, .slice none 0 0, .slice none 0 0] 31) = W := ⟨_, rfl⟩
  have hWz : W.heap.size = w.heap.size + 1 + 1 := by rw [← hW]; simp; exact hWz0
  rw [hW] at hb0 HBx0 HBox
  rw [hWz0] at HBx0
  have HWq0 := Lib.hid hW0
  have HWq := Lib.hid hW
  have HB0 := Lib.hid (hbx.trans (hb0.mono hbx.size))
  have HWz := Lib.hid hWz
  have hVW : BigAt W W.heap.size (.agg #[.int .i64 b.roots, .slice A1 n1 c1, .slice A2 n2 c2, .int .i64 b.edges, .slice A4 n4 c4, .slice A5 n5 c5]) b := BigAt.wide (BigAt.below ⟨_, _, _, _, _, _, _, _, _, _, _, _, rfl, h1, h2, h4, h5⟩ HB0.out) HB0.out.size
  clear hW0 hW hb0 hWz hWz0 hbx HBoxI hN
  clear hVW
  have hz := hg.sz
  have l1 := h1.1
  have hn1 : n1 ≤ 16 := by omega
  have HL1 := Lib.hid l1
  have HG := Lib.hid hg
  obtain ⟨E, hE⟩ : ∃ E : Nat, b.edges = E := ⟨b.edges.toNat, by omega⟩
  have hE8 : E ≤ 16 := by omega
  have HE := Lib.hid hE
  have HGs := Lib.hid (hg.gs)
  have HId := Lib.hid (rn_ids (b := b) hE (fun x hx => by
    obtain ⟨k, hk⟩ := List.getElem?_of_mem hx
    have h1 := HGs.out.1 k x hk
    have h2 := (List.getElem?_eq_some_iff.1 hk).1
    omega) (fun x hx l hl => (hg.bl x hx l hl).1) (fun z hz => by
    obtain ⟨k, hk⟩ := List.getElem?_of_mem hz
    exact (HGs.out.2.2.1 k z hk).2) (fun x hx => (hg.bw x hx).1))
  obtain ⟨i0, hi, hz0, hz1, hz2⟩ := info_parts int_info
  have HI := Lib.hid (And.intro hi (And.intro hz0 (And.intro hz1 hz2)))
  rw [hE] at HBox HWq0 ⊢
  have hbV := ((Below.refl W.heap.size W).alloc (Nat.le_refl _) (.cells #[] 3)).alloc (by rw [World.size_alloc]; omega) (.cells #[] 3)
  have hWz : W.heap.size = w.heap.size + 1 + 1 := HWz.out
  have HOt := Lib.hid ((ownsRow_nil_new W 3 1 W.heap.size (Nat.le_refl _)).alloc (.cells #[] 3))
  obtain ⟨V, hV⟩ : ∃ V, (W.alloc (.cells #[] 3)).alloc (.cells #[] 3) = V := ⟨_, rfl⟩
  have hVz : V.heap.size = W.heap.size + 1 + 1 := by rw [← hV]; simp
  have HCe : Hid (V.heap[w.heap.size + 1 + 1 + 1]? = some (.cells #[] 3)) := Lib.hid (by rw [← hV]; exact at_new (by rw [World.size_alloc]; omega))
  rw [hV] at hbV HOt
  have HVq := Lib.hid hV
  have HbV := Lib.hid hbV
  have hWs : w.heap.size < W.heap.size := by omega
  have hVW : W.heap.size ≤ V.heap.size := hbV.size
  have HVz := Lib.hid hVz
  clear hV hVz hbV hz hi hz0 hz1 hz2 l1 hE h1 h2 h4 h5 hnil hg
  obtain ⟨x0, x1, x2, x3, x4, x5⟩ := HBox.out.get
  go_enter Tryz.func21, Tryz.ntmps21
  go_wp2_with fail
  rw [HWq0.out, HWq.out]
  rw [HVq.out]
  rw [hWz] at HOt
  clear x0 x1 x2 x3 x4 x5
  go_loopw [3, 5] (fun l i wr => ∃ (k : Nat) (v : Value), k ≤ n1 ∧ i = .int .i64 k ∧ l = v ∧ wr.ownsRow (w.heap.size + 1 + 1) 3 1 v k ((ids k).map (Value.int .i64)) ∧ v.ownBlock ≠ some (w.heap.size + 1 + 1 + 1) ∧ wr.heap[w.heap.size + 1 + 1 + 1]? = some (.cells #[] 3) ∧ Below W.heap.size W wr ∧ w.heap.size + 1 + 1 + 1 < wr.heap.size) (fun _ i _ => n1 - (intOf i).toNat)
  case atStart => exact ⟨0, _, Nat.zero_le _, rfl, rfl, HOt.out, by simp [Value.ownBlock], HCe.out, HbV.out, by rw [HVz.out, hWz]; omega⟩
  case round =>
    obtain ⟨k, v, hk, rfl, rfl, hown, hne, hce, hbel, hsz⟩ := hrel
    obtain ⟨x0, x1, x2, x3, x4, x5⟩ := (HBox.out.below hbel hWs).get
    by_cases hlt : k < n1
    · obtain ⟨D, hD⟩ : ∃ D, (ids k).map (Value.int .i64) = D := ⟨_, rfl⟩
      have HD : Hid ((ids (k + 1)).map (Value.int .i64) = D ++ [.int .i64 (k : Int)]) := Lib.hid (by rw [ids_snoc, List.map_append, hD]; rfl)
      rw [hD] at hown
      have HNe := Lib.hid hne
      have HBl := Lib.hid hbel
      have HCe1 := Lib.hid hce
      have hWr := hbel.size
      clear hD hne hbel hce
      go_wp2_with (at_builtin; refine wpList_append_own_at _ rfl _ _ 27 rfl (w.heap.size + 1 + 1) 3 i0 (.int .i64 0) 1 8 Tryz.underlying27 HI.out.1 HI.out.2.1 HI.out.2.2.1 HI.out.2.2.2 rfl (by decide) _ _ _ rfl (hown.alloc _) ⟨wr.heap.size, 0, none⟩ 1 1 [.int .i64 (k : Int)] rfl rfl (cell_one_new _ _ _) (fun x hx => by simp at hx; subst hx; rfl) (by unfold maxLen; omega) (by omega) (by simp; omega) ?_; intro v1 w1 hown1 hgrow1 hnil1 hat1)
      have HB1 := Lib.hid ((HBl.out.alloc HBl.out.size (.cells #[.int .i64 (k : Int)] 3)).grown hgrow1 (by simp; omega) (fun j hj => by have := (hown.lt j hj).1; omega))
      have HN1 : Hid (v1.ownBlock ≠ some (w.heap.size + 1 + 1 + 1)) := Lib.hid (by
        rcases hat1 with e | e
        · rw [e]; exact HNe.out
        · rw [e]; simp; omega)
      have HC1 : Hid (w1.heap[w.heap.size + 1 + 1 + 1]? = some (.cells #[] 3)) := Lib.hid ((hgrow1.block _ (by simp; omega) (fun e => HNe.out (by first | exact e | exact e.symm))).trans (at_old hsz HCe1.out))
      have HS1 : Hid (w.heap.size + 1 + 1 + 1 < w1.heap.size) := Lib.hid (by have := hgrow1.size; rw [World.size_alloc] at this; omega)
      have HO1 := Lib.hid hown1
      clear hown1 hgrow1 hnil1 hat1 hown
      go_wp2_with fail
      go_roundw
      case rel => exact ⟨k + 1, _, by omega, by go_num, rfl, by rw [HD.out]; exact HO1.out, HN1.out, HC1.out, HB1.out, HS1.out⟩
      case measure => simp [intOf]; omega
    · obtain rfl : n1 = k := by omega
      obtain ⟨At, ct, rfl, hrt⟩ := ints_owned hown
      have hil : (ids n1).length = n1 := ids_len n1
      rw [hil] at hrt ⊢
      obtain ⟨w2, hw2⟩ : ∃ w2, wr = w2 := ⟨_, rfl⟩
      rw [hw2] at hrt hce hbel hsz x0 x1 x2 x3 x4 x5 ⊢
      have hW2 := hbel.size
      have HRt := Lib.hid hrt
      have HNt : Hid (∀ g, blk At g → g ≠ w.heap.size + 1 + 1 + 1 ∧ g < w2.heap.size) := Lib.hid (fun g hg => ⟨fun e => hne (by rw [blk] at hg; subst hg; simp [Value.ownBlock, e]), (hrt.in_ hg).2⟩)
      have HOe := Lib.hid (nil_at (sz := 1) (B := w.heap.size + 1 + 1 + 1) hce (Nat.le_refl _))
      have HB2 := Lib.hid hbel
      clear hown hrt hce hbel hne hil hw2
      go_wp2_with fail
      clear x0 x1 x2 x3 x4 x5
      go_loopw [4, 6] (fun l i wr => ∃ (k : Nat) (v : Value), k ≤ E ∧ i = .int .i64 k ∧ l = v ∧ wr.ownsRow (w.heap.size + 1 + 1 + 1) 3 1 v k ((ids k).map (Value.int .i64)) ∧ (∀ g, v.ownBlock = some g → g = w.heap.size + 1 + 1 + 1 ∨ w2.heap.size ≤ g) ∧ RowR wr (w.heap.size + 1 + 1) w2.heap.size 3 1 At n1 ct (iat (ids n1)) ∧ Below W.heap.size W wr ∧ w2.heap.size ≤ wr.heap.size) (fun _ i _ => E - (intOf i).toNat)
      case atStart => exact ⟨0, _, Nat.zero_le _, rfl, rfl, HOe.out, fun g hg => .inl (by simp [Value.ownBlock] at hg; omega), HRt.out, HB2.out, Nat.le_refl _⟩
      case round =>
        obtain ⟨k, v, hk, rfl, rfl, hown, hat, hrt, hbel, hsz2⟩ := hrel
        obtain ⟨x0, x1, x2, x3, x4, x5⟩ := (HBox.out.below hbel hWs).get
        by_cases hlt : k < E
        · obtain ⟨D, hD⟩ : ∃ D, (ids k).map (Value.int .i64) = D := ⟨_, rfl⟩
          have HD : Hid ((ids (k + 1)).map (Value.int .i64) = D ++ [.int .i64 (k : Int)]) := Lib.hid (by rw [ids_snoc, List.map_append, hD]; rfl)
          rw [hD] at hown
          have HAt := Lib.hid hat
          have HBl := Lib.hid hbel
          have HRt1 := Lib.hid hrt
          have hWr := hbel.size
          clear hD hat hbel hrt
          go_wp2_with (at_builtin; refine wpList_append_own_at _ rfl _ _ 27 rfl (w.heap.size + 1 + 1 + 1) 3 i0 (.int .i64 0) 1 8 Tryz.underlying27 HI.out.1 HI.out.2.1 HI.out.2.2.1 HI.out.2.2.2 rfl (by decide) _ _ _ rfl (hown.alloc _) ⟨wr.heap.size, 0, none⟩ 1 1 [.int .i64 (k : Int)] rfl rfl (cell_one_new _ _ _) (fun x hx => by simp at hx; subst hx; rfl) (by unfold maxLen; omega) (by omega) (by simp; omega) ?_; intro v1 w1 hown1 hgrow1 hnil1 hat1)
          have HB1 := Lib.hid ((HBl.out.alloc HBl.out.size (.cells #[.int .i64 (k : Int)] 3)).grown hgrow1 (by simp; omega) (fun j hj => by have := (hown.lt j hj).1; omega))
          have HN1 : Hid (∀ g, v1.ownBlock = some g → g = w.heap.size + 1 + 1 + 1 ∨ w2.heap.size ≤ g) := Lib.hid (fun g hg => by
            rcases hat1 with e | e
            · rw [e] at hg; exact HAt.out g hg
            · rw [e] at hg; injection hg with hg; exact .inr (by rw [← hg, World.size_alloc]; omega))
          have HR1 := Lib.hid (HRt1.out.stay (w' := w1) (fun g f m hb hr h1 h2 => (hgrow1.block g (by rw [World.size_alloc]; omega) (fun e => by
            have h3 := HNt.out g hb
            have h4 := HAt.out g e.symm
            omega)).trans (Below.heap_alloc wr _ g (by omega))))
          have HS1 : Hid (w2.heap.size ≤ w1.heap.size) := Lib.hid (by have := hgrow1.size; rw [World.size_alloc] at this; omega)
          have HO1 := Lib.hid hown1
          clear hown1 hgrow1 hnil1 hat1 hown
          go_wp2_with fail
          go_roundw
          case rel => exact ⟨k + 1, _, by omega, by go_num, rfl, by rw [HD.out]; exact HO1.out, HN1.out, HR1.out, HB1.out, HS1.out⟩
          case measure => simp [intOf]; omega
        · obtain rfl : E = k := by omega
          obtain ⟨Ae, ce, rfl, hre⟩ := ints_owned hown
          have hil : (ids E).length = E := ids_len E
          rw [hil] at hre ⊢
          have hbw := HB0.out.trans (hbel.mono HB0.out.size)
          have hIt : IntsAt wr wr.heap.size At n1 (ids n1) := (intsR_at (w := wr) (lo := w.heap.size + 1 + 1) (hi := w2.heap.size) (c := ct) (zs := ids n1) (by rw [ids_len]; exact hrt)).wide hsz2 |> fun h => by rw [ids_len] at h; exact h
          have hIe : IntsAt wr wr.heap.size Ae E (ids E) := (intsR_at (w := wr) (c := ce) (zs := ids E) (by rw [ids_len]; exact hre)) |> fun h => by rw [ids_len] at h; exact h
          have C := rn_gen (.agg #[.int .i64 b.roots, .slice A1 n1 c1, .slice A2 n2 c2, .int .i64 b.edges, .slice A4 n4 c4, .slice A5 n5 c5]) b At n1 ct (ids n1) Ae E ce (ids E) wr ((BigAt.below hVb hbw).wide hbw.size) hNb HG.out hIt hIe (by rw [HL1.out]; exact ids_each n1) HE.out
          have HId2 := HId.out
          rw [HL1.out] at HId2
          rw [HId2, HE.out] at C
          have HC := Lib.hid C
          have HBxi := Lib.hid (HBx0.out.below hbel (by omega))
          have HBl := Lib.hid hbw
          clear hown hrt hbel hre hIt hIe C hat HId2 hbw
          go_wp2_with fail
          refine HC.out.mono ?_
          rintro e w5 ⟨v5, rfl, hr, hb⟩
          obtain ⟨D1, g1, D2, g2, D4, g4, D5, g5, rfl⟩ := hr.shape
          have HBx5 := Lib.hid (HBxi.out.on hb)
          have HR5 := Lib.hid ((hr.wide (lo' := w.heap.size) HBl.out.size (Nat.le_refl _)))
          have HB5 := Lib.hid (HBl.out.trans (hb.mono HBl.out.size))
          clear hr hb x0 x1 x2 x3 x4 x5
          obtain ⟨z0, z1, z2, z3, z4, z5⟩ := HBx5.out.get
          have f0 := World.rowIs.frozen HBx5.out 0
          have f1 := World.rowIs.frozen HBx5.out 1
          have f2 := World.rowIs.frozen HBx5.out 2
          have f3 := World.rowIs.frozen HBx5.out 3
          have f4 := World.rowIs.frozen HBx5.out 4
          have f5 := World.rowIs.frozen HBx5.out 5
          go_wp2_with fail
          have hbig := (sets6_big HBx5.out HR5.out (.int .i64 b.roots) (.slice D1 b.nodes.length g1) (.slice D2 b.sites.length g2) (.int .i64 b.edges) (.slice D4 b.outer.length g4) (.slice D5 b.inner.length g5)).here
          have hbel := sets6_below HB5.out (show w.heap.size ≤ w.heap.size + 1 from Nat.le_succ _) (.int .i64 b.roots) (.slice D1 b.nodes.length g1) (.slice D2 b.sites.length g2) (.int .i64 b.edges) (.slice D4 b.outer.length g4) (.slice D5 b.inner.length g5)
          unfold sets6 at hbig hbel
          exact bodyPost_ret (v := .agg #[.int .i64 b.roots, .slice D1 b.nodes.length g1, .slice D2 b.sites.length g2, .int .i64 b.edges, .slice D4 b.outer.length g4, .slice D5 b.inner.length g5]) (by simp [results, Tryz.results21, go_sem, z0, z1, z2, z3, z4, z5]) rfl ⟨_, rfl, hbig, hbel⟩
theorem ow_any (v : Value) (cs : List Ctl) (b : Big) (w : World) (hv : BigAt w w.heap.size v b) (hN : NilV v) (hg : bigB cs b = true) :
    Calls Tryz.prog 21 #[v] w fun e w' => ∃ v', e = .returned v' ∧ BigR w' w.heap.size w'.heap.size v' b ∧ Below w.heap.size w w' := ow_gen v b w hv hN (sane_of hg)
end Go.Proofs.YtlpgldejmdiceabGreat.ow
end

section
namespace Go.Proofs.YtlpgldejmdiceabGreat.mrp
open kit bg sg opn strs only hb sig isig un over gn nm inn ht gd im pt marks eqs hc hi hw hn rs br bm bw cf lf ib isa lawb lw cl rt chd pts psp idl bs ln rl ed lep
open Go.RowKit
set_option linter.unusedVariables false
/-- one root in place of all -/
def onF (p : Int) : Int := if p < 0 then -1 else p
def onB (b : Big) : Big := ⟨1, b.nodes.map (fun x => ⟨x.control, onF x.parent, x.links⟩), b.sites.map onF, b.edges, b.outer, b.inner⟩
theorem mixP_all (f : Int → Int) (b : Big) : (mixP f b.nodes.length b).nodes = b.nodes.map (fun x => ⟨x.control, f x.parent, x.links⟩) := by
  refine List.ext_getElem? (fun i => ?_)
  unfold mixP
  simp only [List.getElem?_mapIdx, List.getElem?_map]
  cases hx : b.nodes[i]? with
  | none => rfl
  | some x =>
    have hi := (List.getElem?_eq_some_iff.1 hx).1
    simp only [Option.map_some]
    rw [if_pos hi]
theorem Laid.newS {w : World} {lo m hi c : Nat} {P : Plan} {b : Big} {A : Option Addr} {zs : List Int} (h : Laid w lo m P b) (hr : RowR w m hi 3 1 A zs.length c (iat zs)) (hlo : lo ≤ m) (hm : m ≤ hi) : Laid w lo hi ⟨P.A1, P.c1, A, c, P.A4, P.c4, P.A5, P.c5, P.LA, P.LC⟩ ⟨b.roots, b.nodes, zs, b.edges, b.outer, b.inner⟩ := by
  obtain ⟨ha, ⟨h1, h1'⟩, h2, h4, h5⟩ := h
  refine ⟨fun k hk hne => ⟨fun e => ?_, (ha k hk hne).2⟩, ⟨h1.wide (Nat.le_refl _) hm, fun k hk => (h1' k hk).wide (Nat.le_refl _) hm⟩, hr.wide hlo (Nat.le_refl _), h4.wide (Nat.le_refl _) hm, h5.wide (Nat.le_refl _) hm⟩
  rcases h1' k hk with ⟨e1, _⟩ | ⟨g, f, e1, a1, a2, _⟩
  · exact hne e1
  · rcases hr with ⟨e2, _⟩ | ⟨g', f', e2, b1, b2, _⟩
    · exact hne (e.trans e2)
    · have e3 := e1.symm.trans (e.trans e2)
      injection e3 with e3
      injection e3 with e3
      omega
theorem nd_parts {w : World} {lo hi β k : Nat} {P : Plan} {bb : Big} {x : Nd} {v0 v1 v2 v3 v4 v5 : Value} (h : Laid w lo hi P bb) (hx : bb.nodes[k]? = some x) (hb : BoxAt w β 31 v0 v1 v2 v3 v4 v5) :
    ∃ g2 f2, P.A1 = some ⟨g2, 0, none⟩ ∧ lo ≤ g2 ∧ w.rowIs g2 96 (P.c1 * 3) f2 ∧ k * 3 + 1 < P.c1 * 3 ∧ f2 (k * 3 + 1) = .int .i64 x.parent ∧ ∀ w', Below w.heap.size w w' → ∀ z, Laid (w'.setCell ⟨g2, k * 3 + 1, none⟩ (.int .i64 z)) lo hi P (setP bb k z) ∧ BoxAt (w'.setCell ⟨g2, k * 3 + 1, none⟩ (.int .i64 z)) β 31 v0 v1 v2 v3 v4 v5 := by
  obtain ⟨g2, f2, e, hg, -, hr, hjc, -, hf, -, -⟩ := h.node hx
  refine ⟨g2, f2, e, hg, hr, by omega, hf, fun w' hq z => ⟨?_, ?_⟩⟩
  · obtain ⟨g3, f3, e', -, -, -, -, -, -, -, hst⟩ := (h.on hq).node hx
    rw [e] at e'
    injection e' with e'
    injection e' with e'
    subst e'
    exact hst z
  · have hne : β ≠ g2 := fun e => by
      subst e
      have := (rowIs_uniq hb hr).1
      exact absurd this (by decide)
    exact World.rowIs.setOther (hb.on hq) (a := ⟨g2, k * 3 + 1, none⟩) hne _
theorem _root_.Go.Proofs.YtlpgldejmdiceabGreat.cf.BoxAt.put0 {w : World} {β : Nat} {t : TypeId} {v0 v1 v2 v3 v4 v5 : Value} (h : BoxAt w β t v0 v1 v2 v3 v4 v5) (u : Value) : BoxAt (w.setCell ⟨β, 0, none⟩ u) β t u v1 v2 v3 v4 v5 := by
  have h6 : (w.setCell ⟨β, 0, none⟩ u).rowIs β t 6 _ := World.rowIs.set h 0 u
  unfold BoxAt
  refine h6.congr ?_
  intro i hi
  match i, hi with
  | 0, _ => rfl
  | 1, _ => rfl
  | 2, _ => rfl
  | 3, _ => rfl
  | 4, _ => rfl
  | 5, _ => rfl
theorem st_parts {w : World} {lo hi β k : Nat} {P : Plan} {bb : Big} {x : Int} {v0 v1 v2 v3 v4 v5 : Value} (h : Laid w lo hi P bb) (hx : bb.sites[k]? = some x) (hb : BoxAt w β 31 v0 v1 v2 v3 v4 v5) :
    ∃ g2 f2, P.A2 = some ⟨g2, 0, none⟩ ∧ lo ≤ g2 ∧ w.rowIs g2 3 P.c2 f2 ∧ k < P.c2 ∧ f2 k = .int .i64 x ∧ ∀ w', Below w.heap.size w w' → ∀ z, Laid (w'.setCell ⟨g2, k, none⟩ (.int .i64 z)) lo hi P (setS bb k z) ∧ BoxAt (w'.setCell ⟨g2, k, none⟩ (.int .i64 z)) β 31 v0 v1 v2 v3 v4 v5 := by
  obtain ⟨g2, f2, e, hg, hr, hjc, hf, -⟩ := h.site hx
  refine ⟨g2, f2, e, hg, hr, hjc, hf, fun w' hq z => ⟨?_, ?_⟩⟩
  · obtain ⟨g3, f3, e', -, -, -, -, hst⟩ := (h.on hq).site hx
    rw [e] at e'
    injection e' with e'
    injection e' with e'
    subst e'
    exact hst z
  · have hne : β ≠ g2 := fun e => by
      subst e
      have := (rowIs_uniq hb hr).1
      exact absurd this (by decide)
    exact World.rowIs.setOther (hb.on hq) (a := ⟨g2, k, none⟩) hne _
/-- the places moved by a function -/
def plB (F : Int → Int) (b : Big) : Big := ⟨b.roots, b.nodes.map (fun x => ⟨x.control, F x.parent, x.links⟩), b.sites.map F, b.edges, b.outer, b.inner⟩
theorem relB_id (b : Big) : relB (fun l => l) b = b := by
  unfold relB
  have h1 : b.nodes.map (fun x => (⟨x.control, x.parent, x.links.map (fun l => l)⟩ : Nd)) = b.nodes := by
    refine List.ext_getElem? (fun i => ?_)
    rw [List.getElem?_map]
    cases b.nodes[i]? with
    | none => rfl
    | some x => simp
  have h2 : b.inner.map (fun x => (⟨x.name, x.link⟩ : Wr)) = b.inner := by
    refine List.ext_getElem? (fun i => ?_)
    rw [List.getElem?_map]
    cases b.inner[i]? with
    | none => rfl
    | some x => rfl
  rw [h1, h2]
theorem mixS_zero (F : Int → Int) (b : Big) : mixS F 0 b = b := by
  unfold mixS
  congr 1
  refine List.ext_getElem? (fun i => ?_)
  rw [List.getElem?_mapIdx]
  cases b.sites[i]? with
  | none => rfl
  | some x => rfl
theorem mixS_get {F : Int → Int} {k : Nat} {b : Big} {x : Int} (hx : b.sites[k]? = some x) : (mixS F k b).sites[k]? = some x := by
  unfold mixS
  show (b.sites.mapIdx _)[k]? = _
  rw [List.getElem?_mapIdx, hx]
  show some (if _ then _ else _) = some x
  rw [if_neg (Nat.lt_irrefl k)]
theorem mixS_next {F : Int → Int} {k : Nat} {b : Big} {x : Int} (hx : b.sites[k]? = some x) : setS (mixS F k b) k (F x) = mixS F (k + 1) b := by
  unfold setS mixS
  congr 1
  have hk := (List.getElem?_eq_some_iff.1 hx).1
  refine List.ext_getElem? (fun i => ?_)
  rw [List.getElem?_set, List.getElem?_mapIdx, List.getElem?_mapIdx, List.length_mapIdx]
  by_cases e : k = i
  · subst e
    rw [if_pos rfl, if_pos hk, hx]
    show some _ = some (if _ then _ else _)
    rw [if_pos (Nat.lt_succ_self k)]
  · rw [if_neg e]
    cases b.sites[i]? with
    | none => rfl
    | some y =>
      show some (if _ then _ else _) = some (if _ then _ else _)
      by_cases h1 : i < k
      · rw [if_pos h1, if_pos (by omega)]
      · rw [if_neg h1, if_neg (by omega)]
theorem mixS_all (f : Int → Int) (b : Big) : (mixS f b.sites.length b).sites = b.sites.map f := by
  refine List.ext_getElem? (fun i => ?_)
  unfold mixS
  simp only [List.getElem?_mapIdx, List.getElem?_map]
  cases hx : b.sites[i]? with
  | none => rfl
  | some x =>
    have hi := (List.getElem?_eq_some_iff.1 hx).1
    simp only [Option.map_some]
    rw [if_pos hi]
theorem mix_pl (f : Int → Int) (b : Big) : mixS f b.sites.length (mixP f b.nodes.length b) = plB f b := by
  have h1 := mixP_all f b
  have h2 := mixS_all f b
  have e : mixS f b.sites.length (mixP f b.nodes.length b) = ⟨b.roots, (mixP f b.nodes.length b).nodes, (mixS f b.sites.length b).sites, b.edges, b.outer, b.inner⟩ := rfl
  rw [e, h1, h2]
  rfl
noncomputable def mrR (cs : List Ctl) (b : Big) : Big := if bigB cs b = true then onB b else zeroBig
theorem mrR_no {cs : List Ctl} {b : Big} (h : bigB cs b = false) : mrR cs b = zeroBig := by unfold mrR; rw [h]; rfl
theorem mrR_yes {cs : List Ctl} {b : Big} (h : bigB cs b = true) : mrR cs b = onB b := by unfold mrR; rw [if_pos h]
theorem onB_pl (b : Big) : onB b = ⟨1, (plB onF b).nodes, (plB onF b).sites, (plB onF b).edges, (plB onF b).outer, (plB onF b).inner⟩ := rfl
theorem onB_len (b : Big) : bigMk (onB b) = bigMk b := by
  unfold bigMk ndMk
  have h1 : (onB b).nodes.length = b.nodes.length := by simp [onB]
  have h2 : sumBy (fun c : Nd => c.links.length) (onB b).nodes = sumBy (fun c : Nd => c.links.length) b.nodes := by
    unfold onB
    generalize b.nodes = ns
    induction ns with
    | nil => rfl
    | cons x r ih =>
      have e : ∀ (y : Nd) (l : List Nd), sumBy (fun c : Nd => c.links.length) (y :: l) = y.links.length + sumBy (fun c : Nd => c.links.length) l := fun y l => by simp [sumBy]
      simp only [List.map_cons] at ih ⊢
      rw [e, e, ih]
  have h3 : (onB b).sites.length = b.sites.length := by simp [onB]
  rw [h1, h2, h3]
  rfl
theorem mr_len (cs : List Ctl) (b : Big) : bigMk (mrR cs b) ≤ 1048576 := by
  cases hq : bigB cs b with
  | false => rw [mrR_no hq]; decide
  | true => rw [mrR_yes hq, onB_len]; exact big_mk hq
end Go.Proofs.YtlpgldejmdiceabGreat.mrp
end

section
namespace Go.Proofs.YtlpgldejmdiceabGreat.mri
open kit bg sg opn strs only hb sig isig un over gn nm inn ht gd im pt marks eqs hc hi hw hn rs br bm bw cf lf ib isa lawb lw cl rt chd pts psp idl bs ln rl ed lep pl mrp tp
open Go.RowKit
set_option linter.unusedVariables false
set_option linter.unusedSimpArgs false
/-- where a place goes -/
def toF (g : Int → Int) (N : Int) (p : Int) : Int := if p < 0 then g (-1 - p) else N + p
set_option maxRecDepth 20000 in
set_option maxHeartbeats 400000 in
theorem to_any (G : FuncId) (lb : Array Value) (g : Int → Int) (N p : Int) (β4 β5 : Nat) (w : World) (eg : ∀ args w, (callFunc G args).run Tryz.prog w = .ok (.enter G args) w) (hG : p < 0 → Calls Tryz.prog G (#[.int .i64 (-1 - p)] ++ lb) w fun e w' => e = .returned (.int .i64 (g (-1 - p))) ∧ Below w.heap.size w w')
    (h5 : w.cell? ⟨β5, 0, none⟩ = some (.func (.func G) #[] lb)) (h4 : w.cell? ⟨β4, 0, none⟩ = some (.int .i64 N)) (hN : 0 ≤ N ∧ N ≤ 1048576) (hp : -1048576 ≤ p ∧ p ≤ 1048576) :
    Calls Tryz.prog 116 #[.int .i64 p, .pointer (some ⟨β5, 0, none⟩), .pointer (some ⟨β4, 0, none⟩)] w fun e w' => e = .returned (.int .i64 (toF g N p)) ∧ Below w.heap.size w w' := by
  obtain ⟨hN0, hN1⟩ := hN
  obtain ⟨hp0, hp1⟩ := hp
  have HN := Lib.hid hN0
  by_cases h0 : p < 0
  · have HE : Hid (toF g N p = g (-1 - p)) := Lib.hid (by unfold toF; rw [if_pos h0])
    rw [HE.out]
    have HC := Lib.hid (hG h0)
    obtain ⟨q, hq⟩ : ∃ q, -1 - p = q := ⟨_, rfl⟩
    rw [hq] at HC ⊢
    clear hG
    go_enter Tryz.func116, Tryz.ntmps116
    go_wp2_with (go_at_fn G; refine HC.out.mono ?_; rintro e w1 ⟨rfl, hb⟩)
    go_ret
    exact ⟨rfl, hb⟩
  · have HE : Hid (toF g N p = N + p) := Lib.hid (by unfold toF; rw [if_neg h0])
    rw [HE.out]
    have hb := Below.refl w.heap.size w
    clear hG eg
    go_enter Tryz.func116, Tryz.ntmps116
    go_wp2_with fail
    go_ret
    exact ⟨rfl, hb⟩
theorem id_any (p : Int) (w : World) : Calls Tryz.prog 132 #[.int .i64 p] w fun e w' => e = .returned (.int .i64 p) ∧ Below w.heap.size w w' := by
  have hb := Below.refl w.heap.size w
  go_enter Tryz.func132, Tryz.ntmps132
  go_wp2_with fail
  go_ret
  exact ⟨rfl, hb⟩
theorem copied_any (v : Value) (b : Big) (w : World) (hv : BigAt w w.heap.size v b) (hS : BigS b) (hN : NilV v) :
    Calls Tryz.prog 117 #[v] w fun e w' => ∃ v', e = .returned v' ∧ BigR w' w.heap.size w'.heap.size v' b ∧ Below w.heap.size w w' := by
  have HC := Lib.hid (fun (Y : World) (hY : Below w.heap.size w Y) => (relinked_any 132 #[] (fun l => l) (fun _ => True) v b Y (enters_of Tryz.func132 (by kernel_rfl) rfl) (fun l Y _ _ => by simpa using id_any l Y) ((hv.below hY).wide hY.size) hS hN (fun _ _ _ _ => trivial) (fun _ _ => trivial)).mono (R' := fun e w' => ∃ v', e = .returned v' ∧ BigR w' Y.heap.size w'.heap.size v' b ∧ Below Y.heap.size Y w') (fun e w' h => by rw [relB_id] at h; exact h))
  obtain ⟨A1, n1, c1, A2, n2, c2, A4, n4, c4, A5, n5, c5, rfl, -⟩ := hv
  have HBox : BoxAt (w.alloc (.cells #[.int .i64 b.roots, .slice A1 n1 c1, .slice A2 n2 c2, .int .i64 b.edges, .slice A4 n4 c4, .slice A5 n5 c5] 31)) w.heap.size 31 (.int .i64 b.roots) (.slice A1 n1 c1) (.slice A2 n2 c2) (.int .i64 b.edges) (.slice A4 n4 c4) (.slice A5 n5 c5) := six_new w _ _ _ _ _ _ _
  have hb1 := (Below.refl w.heap.size w).alloc (Nat.le_refl _) (.cells #[.int .i64 b.roots, .slice A1 n1 c1, .slice A2 n2 c2, .int .i64 b.edges, .slice A4 n4 c4, .slice A5 n5 c5] 31)
  obtain ⟨U, hU⟩ : ∃ U, w.alloc (.cells #[.int .i64 b.roots, .slice A1 n1 c1, .slice A2 n2 c2, .int .i64 b.edges, .slice A4 n4 c4, .slice A5 n5 c5] 31) = U := ⟨_, rfl⟩
  have hUz : U.heap.size = w.heap.size + 1 := by rw [← hU]; simp
  rw [hU] at HBox hb1
  have hb2 := (Below.refl U.heap.size U).alloc (Nat.le_refl _) (.cells #[.int .i64 0, .slice none 0 0, .slice none 0 0, .int .i64 0, .slice none 0 0, .slice none 0 0] 31)
  have HBx0 : BoxAt (U.alloc (.cells #[.int .i64 0, .slice none 0 0, .slice none 0 0, .int .i64 0, .slice none 0 0, .slice none 0 0] 31)) U.heap.size 31 (.int .i64 0) (.slice none 0 0) (.slice none 0 0) (.int .i64 0) (.slice none 0 0) (.slice none 0 0) := six_new U _ _ _ _ _ _ _
  have HBox := HBox.on hb2
  obtain ⟨W, hW⟩ : ∃ W, U.alloc (.cells #[.int .i64 0, .slice none 0 0, .slice none 0 0, .int .i64 0, .slice none 0 0, .slice none 0 0] 31) = W := ⟨_, rfl⟩
  rw [hW] at hb2 HBx0 HBox
  rw [hUz] at HBx0
  have HUq := Lib.hid hU
  have HWq := Lib.hid hW
  have HB := Lib.hid (hb1.trans (hb2.mono hb1.size))
  have HX := Lib.hid HBx0
  have C := HC.out W HB.out
  obtain ⟨x0, x1, x2, x3, x4, x5⟩ := HBox.get
  clear hW hU hS hN hb1 hb2 HBox HBx0 HC hUz
  go_enter Tryz.func117, Tryz.ntmps117
  go_wp2_with fail
  rw [HUq.out, HWq.out]
  go_wp2_with fail
  refine C.mono ?_
  rintro e w1 ⟨v1, rfl, hr, hb⟩
  have hr1 := hr.wide HB.out.size (Nat.le_refl _)
  have HX1 := HX.out.on hb
  have HB1 := HB.out.trans (hb.mono HB.out.size)
  obtain ⟨B1, d1, B2, d2, B4, d4, B5, d5, rfl⟩ := hr1.shape
  have hbig := Lib.hid (sets6_big HX1 hr1 (.int .i64 b.roots) (.slice B1 b.nodes.length d1) (.slice B2 b.sites.length d2) (.int .i64 b.edges) (.slice B4 b.outer.length d4) (.slice B5 b.inner.length d5)).here
  have hbel := Lib.hid (sets6_below HB1 (Nat.le_succ w.heap.size) (.int .i64 b.roots) (.slice B1 b.nodes.length d1) (.slice B2 b.sites.length d2) (.int .i64 b.edges) (.slice B4 b.outer.length d4) (.slice B5 b.inner.length d5))
  unfold sets6 at hbig hbel
  obtain ⟨z0, z1, z2, z3, z4, z5⟩ := HX1.get
  have f0 := World.rowIs.frozen HX1 0
  have f1 := World.rowIs.frozen HX1 1
  have f2 := World.rowIs.frozen HX1 2
  have f3 := World.rowIs.frozen HX1 3
  have f4 := World.rowIs.frozen HX1 4
  have f5 := World.rowIs.frozen HX1 5
  clear hr hr1 hb C x0 x1 x2 x3 x4 x5 HX1 HB1
  go_wp2_with fail
  exact bodyPost_ret (v := .agg #[.int .i64 b.roots, .slice B1 b.nodes.length d1, .slice B2 b.sites.length d2, .int .i64 b.edges, .slice B4 b.outer.length d4, .slice B5 b.inner.length d5]) (by simp [results, Tryz.results117, go_sem, z0, z1, z2, z3, z4, z5]) rfl ⟨_, rfl, hbig.out, hbel.out⟩
theorem one_cell (w : World) (u : Value) (t : TypeId) : (w.alloc (.cells #[u] t)).cell? ⟨w.heap.size, 0, none⟩ = some u := ((row_new w #[u] t 1 rfl).cell (show 0 < 1 by omega) : _)
set_option maxRecDepth 20000 in
set_option maxHeartbeats 12800000 in
theorem mv_gen (G : FuncId) (lb : Array Value) (g : Int → Int) (N : Int) (v : Value) (b : Big) (w : World) (eg : ∀ args w, (callFunc G args).run Tryz.prog w = .ok (.enter G args) w) (hG : ∀ (r : Int) (Y : World), (0 ≤ r ∧ r < b.roots) → Below w.heap.size w Y → Calls Tryz.prog G (#[.int .i64 r] ++ lb) Y fun e w' => e = .returned (.int .i64 (g r)) ∧ Below Y.heap.size Y w')
    (hv : BigAt w w.heap.size v b) (hS : BigS b) (hN : NilV v) (hGS : abv.Up b.nodes ∧ Dn b.nodes b.roots ∧ (∀ (i : Nat) z, b.sites[i]? = some z → -b.roots ≤ z ∧ z < b.nodes.length) ∧ 0 ≤ b.roots ∧ b.roots ≤ 4 ∧ b.nodes.length ≤ 8 ∧ b.sites.length ≤ 4) (hNN : 0 ≤ N ∧ N ≤ 1048576) :
    Calls Tryz.prog 96 #[v, .int .i64 N, .func (.func G) #[] lb] w fun e w' => ∃ v', e = .returned v' ∧ BigR w' w.heap.size w'.heap.size v' (plB (toF g N) b) ∧ Below w.heap.size w w' := by
  obtain ⟨A1, n1, c1, A2, n2, c2, A4, n4, c4, A5, n5, c5, rfl, h1, h2, h4, h5⟩ := hv
  have HL1 := Lib.hid h1.1
  have HL2 := Lib.hid h2.len
  have HL4 := Lib.hid h4.strlen
  have HL5 := Lib.hid h5.1
  have HGs := Lib.hid hGS
  have hn1 : n1 ≤ 8 := by have := HGs.out.2.2.2.2.2.1; have := HL1.out; omega
  have hn2 : n2 ≤ 4 := by have := HGs.out.2.2.2.2.2.2; have := HL2.out; omega
  have hb1 := (Below.refl w.heap.size w).alloc (Nat.le_refl _) (.cells #[.int .i64 b.roots, .slice A1 n1 c1, .slice A2 n2 c2, .int .i64 b.edges, .slice A4 n4 c4, .slice A5 n5 c5] 31)
  have HBox1 : BoxAt (w.alloc (.cells #[.int .i64 b.roots, .slice A1 n1 c1, .slice A2 n2 c2, .int .i64 b.edges, .slice A4 n4 c4, .slice A5 n5 c5] 31)) w.heap.size 31 (.int .i64 b.roots) (.slice A1 n1 c1) (.slice A2 n2 c2) (.int .i64 b.edges) (.slice A4 n4 c4) (.slice A5 n5 c5) := six_new w _ _ _ _ _ _ _
  obtain ⟨U1, hU1⟩ : ∃ U, w.alloc (.cells #[.int .i64 b.roots, .slice A1 n1 c1, .slice A2 n2 c2, .int .i64 b.edges, .slice A4 n4 c4, .slice A5 n5 c5] 31) = U := ⟨_, rfl⟩
  have hz1 : U1.heap.size = w.heap.size + 1 := by rw [← hU1, World.size_alloc]
  rw [hU1] at hb1 HBox1
  have hb2 := (Below.refl U1.heap.size U1).alloc (Nat.le_refl _) (.cells #[.int .i64 N] 3)
  have hcN := one_cell U1 (.int .i64 N) 3
  obtain ⟨U2, hU2⟩ : ∃ U, U1.alloc (.cells #[.int .i64 N] 3) = U := ⟨_, rfl⟩
  have hz2 : U2.heap.size = w.heap.size + 1 + 1 := by rw [← hU2, World.size_alloc, hz1]
  rw [hU2] at hb2 hcN
  have hb3 := (Below.refl U2.heap.size U2).alloc (Nat.le_refl _) (.cells #[.func (.func G) #[] lb] 111)
  have hcF := one_cell U2 (.func (.func G) #[] lb) 111
  obtain ⟨U3, hU3⟩ : ∃ U, U2.alloc (.cells #[.func (.func G) #[] lb] 111) = U := ⟨_, rfl⟩
  have hz3 : U3.heap.size = w.heap.size + 1 + 1 + 1 := by rw [← hU3, World.size_alloc, hz2]
  rw [hU3] at hb3 hcF
  have hb4 := (Below.refl U3.heap.size U3).alloc (Nat.le_refl _) (.cells #[.int .i64 0, .slice none 0 0, .slice none 0 0, .int .i64 0, .slice none 0 0, .slice none 0 0] 31)
  have HBx4 : BoxAt (U3.alloc (.cells #[.int .i64 0, .slice none 0 0, .slice none 0 0, .int .i64 0, .slice none 0 0, .slice none 0 0] 31)) U3.heap.size 31 (.int .i64 0) (.slice none 0 0) (.slice none 0 0) (.int .i64 0) (.slice none 0 0) (.slice none 0 0) := six_new U3 _ _ _ _ _ _ _
  obtain ⟨W, hW⟩ : ∃ U, U3.alloc (.cells #[.int .i64 0, .slice none 0 0, .slice none 0 0, .int .i64 0, .slice none 0 0, .slice none 0 0] 31) = U := ⟨_, rfl⟩
  have hz4 : W.heap.size = w.heap.size + 1 + 1 + 1 + 1 := by rw [← hW, World.size_alloc, hz3]
  rw [hW] at hb4 HBx4
  have HB0 := Lib.hid (((hb1.trans (hb2.mono hb1.size)).trans ((hb3.trans (hb4.mono hb3.size)).mono (by omega))))
  have hcN' := (hb4.cell (p := ⟨U1.heap.size, 0, none⟩) (by dsimp only; omega)).trans ((hb3.cell (p := ⟨U1.heap.size, 0, none⟩) (by dsimp only; omega)).trans hcN)
  have hcF' := (hb4.cell (p := ⟨U2.heap.size, 0, none⟩) (by dsimp only; omega)).trans hcF
  rw [hz1] at hcN'
  rw [hz2] at hcF'
  rw [hz3] at HBx4
  have HcN := Lib.hid hcN'
  have HcF := Lib.hid hcF'
  have HBox := Lib.hid (((HBox1.on hb2).on hb3).on hb4)
  have HBx0 := Lib.hid HBx4
  have HQ1 := Lib.hid hU1
  have HQ2 := Lib.hid hU2
  have HQ3 := Lib.hid hU3
  have HQ4 := Lib.hid hW
  have hVW : BigAt W W.heap.size (.agg #[.int .i64 b.roots, .slice A1 n1 c1, .slice A2 n2 c2, .int .i64 b.edges, .slice A4 n4 c4, .slice A5 n5 c5]) b := BigAt.wide (BigAt.below ⟨_, _, _, _, _, _, _, _, _, _, _, _, rfl, h1, h2, h4, h5⟩ HB0.out) HB0.out.size
  have HC := Lib.hid (copied_any (.agg #[.int .i64 b.roots, .slice A1 n1 c1, .slice A2 n2 c2, .int .i64 b.edges, .slice A4 n4 c4, .slice A5 n5 c5]) b W hVW hS hN)
  have HTo : Hid (∀ (p : Int) (Y : World), (-b.roots ≤ p ∧ p ≤ 1048576) → Below W.heap.size W Y → Calls Tryz.prog 116 #[.int .i64 p, .pointer (some ⟨w.heap.size + 1 + 1, 0, none⟩), .pointer (some ⟨w.heap.size + 1, 0, none⟩)] Y fun e w' => e = .returned (.int .i64 (toF g N p)) ∧ Below Y.heap.size Y w') := Lib.hid (fun p Y hp hY =>
    to_any G lb g N p (w.heap.size + 1) (w.heap.size + 1 + 1) Y eg (fun h0 => hG _ Y (by omega) (HB0.out.trans (hY.mono HB0.out.size))) ((hY.cell (p := ⟨w.heap.size + 1 + 1, 0, none⟩) (by dsimp only; omega)).trans HcF.out) ((hY.cell (p := ⟨w.heap.size + 1, 0, none⟩) (by dsimp only; omega)).trans HcN.out) hNN (by have := HGs.out.2.2.2.2.1; omega))
  clear h1 h2 h4 h5 hS hN hGS hG hVW hb1 hb2 hb3 hb4 HBox1 HBx4 hcN hcF hcN' hcF' hU1 hU2 hU3 hW eg hz1 hz2 hz3 hNN
  obtain ⟨x0, x1, x2, x3, x4, x5⟩ := HBox.out.get
  go_enter Tryz.func96, Tryz.ntmps96
  go_wp2_with fail
  rw [HQ1.out, HQ2.out, HQ3.out, HQ4.out]
  refine HC.out.mono ?_
  rintro e w3 ⟨v3, rfl, hr, hb⟩
  obtain ⟨P, rfl, hL⟩ := laid_of hr
  obtain ⟨B1, e1, B2, e2, B4, e4, B5, e5, LA, LC⟩ := P
  rw [HL1.out, HL2.out, HL4.out, HL5.out]
  dsimp only
  have hW3 := hb.size
  have hbX := (Below.refl w3.heap.size w3).alloc (Nat.le_refl _) (.cells #[.int .i64 b.roots, .slice B1 n1 e1, .slice B2 n2 e2, .int .i64 b.edges, .slice B4 n4 e4, .slice B5 n5 e5] 31)
  have HX : BoxAt (w3.alloc (.cells #[.int .i64 b.roots, .slice B1 n1 e1, .slice B2 n2 e2, .int .i64 b.edges, .slice B4 n4 e4, .slice B5 n5 e5] 31)) w3.heap.size 31 (.int .i64 b.roots) (.slice B1 n1 e1) (.slice B2 n2 e2) (.int .i64 b.edges) (.slice B4 n4 e4) (.slice B5 n5 e5) := six_new w3 _ _ _ _ _ _ _
  have HXs := Lib.hid (hL.on hbX)
  have HBX := Lib.hid (hb.trans (hbX.mono hb.size))
  have HXb := Lib.hid HX
  obtain ⟨y0, y1, y2, y3, y4, y5⟩ := HX.get
  clear hr hb hL HX hbX x0 x1 x2 x3 x4 x5
  go_wp2_with fail
  clear y0 y1 y2 y3 y4 y5
  obtain ⟨β, hβ⟩ : ∃ β, w3.heap.size = β := ⟨_, rfl⟩
  obtain ⟨W4, hW4⟩ : ∃ W4, (w3.alloc (.cells #[.int .i64 b.roots, .slice B1 n1 e1, .slice B2 n2 e2, .int .i64 b.edges, .slice B4 n4 e4, .slice B5 n5 e5] 31)) = W4 := ⟨_, rfl⟩
  rw [hW4] at HXs HBX HXb ⊢
  rw [hβ] at HXs HXb hW3 ⊢
  clear hβ hW4 HC HQ1 HQ2 HQ3 HQ4
  go_loopw [19] (fun i wr => ∃ k : Nat, k ≤ n1 ∧ i = .int .i64 k ∧ Laid wr W.heap.size β ⟨B1, e1, B2, e2, B4, e4, B5, e5, LA, LC⟩ (mixP (toF g N) k b) ∧ BoxAt wr β 31 (.int .i64 b.roots) (.slice B1 n1 e1) (.slice B2 n2 e2) (.int .i64 b.edges) (.slice B4 n4 e4) (.slice B5 n5 e5) ∧ Below W.heap.size W wr) (fun i _ => n1 - (intOf i).toNat)
  case atStart => exact ⟨0, Nat.zero_le _, rfl, by rw [mixP_zero]; exact HXs.out, HXb.out, HBX.out⟩
  case round =>
    obtain ⟨k, hk, rfl, hL, hbo, hbel⟩ := hrel
    rename World => wr
    have hwr := hbel.size
    by_cases hlt : k < n1
    · obtain ⟨x, hx⟩ : ∃ x, b.nodes[k]? = some x := ⟨_, List.getElem?_eq_getElem (show k < b.nodes.length by rw [HL1.out]; exact hlt)⟩
      have hxp := HGs.out.1 k x hx
      have hxd := HGs.out.2.1 k x hx
      obtain ⟨g1, f1, eA, hg2, -, r2, hk3, ec, ep, el, -⟩ := hL.node (mixP_get (F := toF g N) hx)
      have eA' : B1 = some ⟨g1, 0, none⟩ := eA
      subst eA'
      dsimp only at r2 hk3 ec ep el
      have p0 := r2.cell (show k * 3 < e1 * 3 by omega)
      have p1 := r2.cell (show k * 3 + 1 < e1 * 3 by omega)
      have p2 := r2.cell (show k * 3 + 2 < e1 * 3 by omega)
      rw [ec] at p0
      rw [ep] at p1
      rw [el] at p2
      have hX := (Below.refl wr.heap.size wr).alloc (Nat.le_refl _) (.cells #[.int .i64 x.control, .int .i64 x.parent, .slice (LA k) x.links.length (LC k)] 96)
      have hgr := r2.lt
      have hrow := row_new wr #[.int .i64 x.control, .int .i64 x.parent, .slice (LA k) x.links.length (LC k)] 96 3 rfl
      have HL0 := Lib.hid (hL.on hX)
      have HBo0 := Lib.hid (hbo.on hX)
      have HBe0 := Lib.hid (hbel.trans (hX.mono hbel.size))
      have HR0 := Lib.hid (World.rowIs.of_block r2 (hX.block g1 r2.lt))
      clear hL hbo hbel r2 eA hX
      go_wp2_with fail
      obtain ⟨X, hX⟩ : ∃ X, wr.alloc (.cells #[.int .i64 x.control, .int .i64 x.parent, .slice (LA k) x.links.length (LC k)] 96) = X := ⟨_, rfl⟩
      have hXz : X.heap.size = wr.heap.size + 1 := by rw [← hX, World.size_alloc]
      rw [hX] at hrow HL0 HBo0 HBe0 HR0 ⊢
      have hpc : X.cell? ⟨wr.heap.size, 1, none⟩ = some (.int .i64 x.parent) := (hrow.cell (show 1 < 3 by omega) : _)
      obtain ⟨γ, hγ⟩ : ∃ γ, wr.heap.size = γ := ⟨_, rfl⟩
      rw [hγ] at hpc hXz ⊢
      clear p0 p1 p2 hrow hX
      obtain ⟨g2, f2, eA, hg2', r2, hjc, hf2, hst⟩ := nd_parts HL0.out (mixP_get (F := toF g N) hx) HBo0.out
      dsimp only at eA r2 hjc
      injection eA with eA
      injection eA with eA
      subst eA
      obtain ⟨T, hT⟩ : ∃ T, toF g N x.parent = T := ⟨_, rfl⟩
      have hn8 : n1 ≤ 8 := by have := HGs.out.2.2.2.2.2.1; have := HL1.out; omega
      have CT := fun Y (hY : Below X.heap.size X Y) => hT ▸ HTo.out x.parent Y (And.intro hxd (by omega)) (HBe0.out.trans (hY.mono HBe0.out.size))
      have HSt := Lib.hid (fun w' hq => hst w' hq T)
      have HR2 := Lib.hid r2
      have HF2 := Lib.hid hf2
      have hg1s := World.rowIs.lt r2
      have hXW := HBe0.out.size
      have hkD := (Below.refl X.heap.size X).drew
      have HNx : Hid (setP (mixP (toF g N) k b) k T = mixP (toF g N) (k + 1) b) := Lib.hid (by rw [← hT]; exact mixP_next (F := toF g N) hx)
      have HS2 : Hid (∀ w', Below X.heap.size X w' → w'.cell? ⟨β, 1, none⟩ = some (.slice (some ⟨g1, 0, none⟩) n1 e1) ∧ w'.cell? ⟨γ, 1, none⟩ = some (.int .i64 x.parent)) := Lib.hid (fun w' hq => ⟨(HBo0.out.on hq).get.2.1, (hq.cell (p := ⟨γ, 1, none⟩) (by dsimp only; omega)).trans hpc⟩)
      clear hT hst hx r2 hf2 hpc hxp hxd hn8
      refine rh.go_begin 9 (fun w' => w'.cell? ⟨β, 1, none⟩ = some (.slice (some ⟨g1, 0, none⟩) n1 e1) ∧ w'.cell? ⟨γ, 1, none⟩ = some (.int .i64 x.parent)) (by kernel_rfl) ?_ (fun hHeld => ?_)
      · ((try dsimp only); exact HS2.out _ (by go_grown))
      refine rh.go_take (i := 0) (v := ?v1) rfl (by kernel_rfl) (fun _ _ _ h => h) (Or.inl ⟨by rfl, ?hy1⟩) (by assumption) ?rest1
      case hy1 => (intro wS hSw; (try dsimp only at hSw); go_simp; try (with_reducible rfl))
      try simp only [Act.put, List.setIfInBounds_toArray, List.set_cons_zero, List.set_cons_succ]
      refine rh.go_take (i := 1) (v := ?v2) rfl (by kernel_rfl) (fun _ _ _ h => h) (Or.inl ⟨by rfl, ?hy2⟩) (by assumption) ?rest2
      case hy2 => (intro wS hSw; (try dsimp only at hSw); go_simp; try (with_reducible rfl))
      try simp only [Act.put, List.setIfInBounds_toArray, List.set_cons_zero, List.set_cons_succ]
      refine rh.go_take (i := 2) (v := ?v3) rfl (by kernel_rfl) (fun _ _ _ h => h) (Or.inl ⟨by rfl, ?hy3⟩) (by assumption) ?rest3
      case hy3 => (intro wS hSw; (try dsimp only at hSw); go_simp; try (with_reducible rfl))
      try simp only [Act.put, List.setIfInBounds_toArray, List.set_cons_zero, List.set_cons_succ]
      refine rh.go_take (i := 3) (v := ?v4) rfl (by kernel_rfl) (fun _ _ _ h => h) (Or.inl ⟨by rfl, ?hy4⟩) (by assumption) ?rest4
      case hy4 => (intro wS hSw; (try dsimp only at hSw); go_simp; try (with_reducible rfl))
      try simp only [Act.put, List.setIfInBounds_toArray, List.set_cons_zero, List.set_cons_succ]
      refine rh.go_take (i := 4) (v := ?v5) rfl (by kernel_rfl) (fun _ _ _ h => h) (Or.inl ⟨by rfl, ?hy5⟩) (by assumption) ?rest5
      case hy5 => (intro wS hSw; (try dsimp only at hSw); go_simp; try (with_reducible rfl))
      try simp only [Act.put, List.setIfInBounds_toArray, List.set_cons_zero, List.set_cons_succ]
      refine rh.go_take (i := 5) (v := ?v6) rfl (by kernel_rfl) (fun _ _ _ h => h) (Or.inl ⟨by rfl, ?hy6⟩) (by assumption) ?rest6
      case hy6 => (intro wS hSw; (try dsimp only at hSw); go_simp; try (with_reducible rfl))
      try simp only [Act.put, List.setIfInBounds_toArray, List.set_cons_zero, List.set_cons_succ]
      refine rh.go_next (i := 6) rfl (by kernel_rfl) (fun K2 hK => ?_)
      (go_simp; go_at_call 116; refine (CT _ hkD).mono ?_; rintro e w5 ⟨rfl, hb⟩; have hk2 := hkD.trans (hb.mono hkD.size); have HK2 := Lib.hid hk2; clear hb; go_wp2_with fail)
      refine hK.out _ _ ?_ (fun hHeld => ?_)
      · ((try dsimp only); exact HS2.out _ (by go_grown))
      clear hK K2
      try simp only [Act.put, List.setIfInBounds_toArray, List.set_cons_zero, List.set_cons_succ]
      refine rh.go_take (i := 7) (v := ?v7) rfl (by kernel_rfl) (fun _ _ _ h => h) (Or.inl ⟨by rfl, ?hy7⟩) (by assumption) ?rest7
      case hy7 => (intro wS hSw; (try dsimp only at hSw); go_simp; try (with_reducible rfl))
      try simp only [Act.put, List.setIfInBounds_toArray, List.set_cons_zero, List.set_cons_succ]
      refine rh.go_take (i := 8) (v := ?v8) rfl (by kernel_rfl) (fun _ _ _ h => h) (Or.inl ⟨by rfl, ?hy8⟩) (by assumption) ?rest8
      case hy8 => (intro wS hSw; (try dsimp only at hSw); go_simp; try (with_reducible rfl))
      try simp only [Act.put, List.setIfInBounds_toArray, List.set_cons_zero, List.set_cons_succ]
      have r5 := World.rowIs.of_block HR2.out (HK2.out.block g1 hg1s)
      have q5 := r5.cell hjc
      rw [HF2.out] at q5
      have f5 := World.rowIs.frozen r5 (k * 3 + 1)
      refine rh.go_last rfl (by kernel_rfl) (fun K2 hK => ?_)
      go_simp
      refine hK.out _ _ ?_
      refine NoPanic.normal ?_
      clear hK K2
      go_wp2_with fail
      go_roundw
      case rel =>
        have hs := HSt.out _ HK2.out
        rw [HNx.out] at hs
        exact ⟨k + 1, by omega, by go_num, hs.1, hs.2, (HBe0.out.trans (HK2.out.mono hXW)).setCell (p := ⟨g1, k * 3 + 1, none⟩) hg2 _⟩
      case measure => simp [intOf]; omega
    · obtain rfl : n1 = k := by omega
      have HLd := Lib.hid hL
      have HBod := Lib.hid hbo
      have HBed := Lib.hid hbel
      obtain ⟨y0, y1, y2, y3, y4, y5⟩ := hbo.get
      clear hL hbo hbel
      go_wp2_with fail
      clear y0 y1 y2 y3 y4 y5
      go_loopw [37] (fun i wr => ∃ k : Nat, k ≤ n2 ∧ i = .int .i64 k ∧ Laid wr W.heap.size β ⟨B1, e1, B2, e2, B4, e4, B5, e5, LA, LC⟩ (mixS (toF g N) k (mixP (toF g N) n1 b)) ∧ BoxAt wr β 31 (.int .i64 b.roots) (.slice B1 n1 e1) (.slice B2 n2 e2) (.int .i64 b.edges) (.slice B4 n4 e4) (.slice B5 n5 e5) ∧ Below W.heap.size W wr) (fun i _ => n2 - (intOf i).toNat)
      case atStart => exact ⟨0, Nat.zero_le _, rfl, by rw [mixS_zero]; exact HLd.out, HBod.out, HBed.out⟩
      case round =>
        obtain ⟨k, hk, rfl, hL, hbo, hbel⟩ := hrel
        rename World => X
        have hXW := hbel.size
        by_cases hlt : k < n2
        · obtain ⟨x, hx⟩ : ∃ x, b.sites[k]? = some x := ⟨_, List.getElem?_eq_getElem (show k < b.sites.length by rw [HL2.out]; exact hlt)⟩
          have hx' : (mixP (toF g N) n1 b).sites[k]? = some x := hx
          have hxr := HGs.out.2.2.1 k x hx
          have hn8 : b.nodes.length ≤ 8 := HGs.out.2.2.2.2.2.1
          obtain ⟨g1, f2, eA, hg2, r2, hjc, hf2, hst⟩ := st_parts hL (mixS_get (F := toF g N) hx') hbo
          have eA' : B2 = some ⟨g1, 0, none⟩ := eA
          subst eA'
          dsimp only at r2 hjc
          have q2 := r2.cell hjc
          rw [hf2] at q2
          have hg1s := World.rowIs.lt r2
          obtain ⟨T, hT⟩ : ∃ T, toF g N x = T := ⟨_, rfl⟩
          have CT := fun Y (hY : Below X.heap.size X Y) => hT ▸ HTo.out x Y (And.intro hxr.1 (by omega)) (hbel.trans (hY.mono hXW))
          have HSt := Lib.hid (fun w' hq => hst w' hq T)
          have HR2 := Lib.hid r2
          have HF2 := Lib.hid hf2
          have hkD := (Below.refl X.heap.size X).drew
          have HBe := Lib.hid hbel
          have HNx : Hid (setS (mixS (toF g N) k (mixP (toF g N) n1 b)) k T = mixS (toF g N) (k + 1) (mixP (toF g N) n1 b)) := Lib.hid (by rw [← hT]; exact mixS_next (F := toF g N) hx')
          have HS2 : Hid (∀ w', Below X.heap.size X w' → w'.cell? ⟨β, 2, none⟩ = some (.slice (some ⟨g1, 0, none⟩) n2 e2)) := Lib.hid (fun w' hq => (hbo.on hq).get.2.2.1)
          clear hT hst hx hx' r2 hf2 hxr hn8 hL hbo hbel eA
          go_wp2_with fail
          clear q2
          refine rh.go_begin 7 (fun w' => w'.cell? ⟨β, 2, none⟩ = some (.slice (some ⟨g1, 0, none⟩) n2 e2)) (by kernel_rfl) ?_ (fun hHeld => ?_)
          · ((try dsimp only); exact HS2.out _ (by go_grown))
          refine rh.go_take (i := 0) (v := ?v9) rfl (by kernel_rfl) (fun _ _ _ h => h) (Or.inl ⟨by rfl, ?hy9⟩) (by assumption) ?rest9
          case hy9 => (intro wS hSw; (try dsimp only at hSw); go_simp; try (with_reducible rfl))
          try simp only [Act.put, List.setIfInBounds_toArray, List.set_cons_zero, List.set_cons_succ]
          refine rh.go_take (i := 1) (v := ?v10) rfl (by kernel_rfl) (fun _ _ _ h => h) (Or.inl ⟨by rfl, ?hy10⟩) (by assumption) ?rest10
          case hy10 => (intro wS hSw; (try dsimp only at hSw); go_simp; try (with_reducible rfl))
          try simp only [Act.put, List.setIfInBounds_toArray, List.set_cons_zero, List.set_cons_succ]
          refine rh.go_take (i := 2) (v := ?v11) rfl (by kernel_rfl) (fun _ _ _ h => h) (Or.inl ⟨by rfl, ?hy11⟩) (by assumption) ?rest11
          case hy11 => (intro wS hSw; (try dsimp only at hSw); go_simp; try (with_reducible rfl))
          try simp only [Act.put, List.setIfInBounds_toArray, List.set_cons_zero, List.set_cons_succ]
          refine rh.go_take (i := 3) (v := ?v12) rfl (by kernel_rfl) (fun _ _ _ h => h) (Or.inl ⟨by rfl, ?hy12⟩) (by assumption) ?rest12
          case hy12 => (intro wS hSw; (try dsimp only at hSw); go_simp; try (with_reducible rfl))
          try simp only [Act.put, List.setIfInBounds_toArray, List.set_cons_zero, List.set_cons_succ]
          refine rh.go_take (i := 4) (v := ?v13) rfl (by kernel_rfl) (fun _ _ _ h => h) (Or.inl ⟨by rfl, ?hy13⟩) (by assumption) ?rest13
          case hy13 => (intro wS hSw; (try dsimp only at hSw); go_simp; try (with_reducible rfl))
          try simp only [Act.put, List.setIfInBounds_toArray, List.set_cons_zero, List.set_cons_succ]
          refine rh.go_next (i := 5) rfl (by kernel_rfl) (fun K2 hK => ?_)
          (go_simp; go_at_call 116; refine (CT _ hkD).mono ?_; rintro e w5 ⟨rfl, hb⟩; have hk2 := hkD.trans (hb.mono hkD.size); have HK2 := Lib.hid hk2; clear hb; go_wp2_with fail)
          refine hK.out _ _ ?_ (fun hHeld => ?_)
          · ((try dsimp only); exact HS2.out _ (by go_grown))
          clear hK K2
          try simp only [Act.put, List.setIfInBounds_toArray, List.set_cons_zero, List.set_cons_succ]
          refine rh.go_take (i := 6) (v := ?v14) rfl (by kernel_rfl) (fun _ _ _ h => h) (Or.inl ⟨by rfl, ?hy14⟩) (by assumption) ?rest14
          case hy14 => (intro wS hSw; (try dsimp only at hSw); go_simp; try (with_reducible rfl))
          try simp only [Act.put, List.setIfInBounds_toArray, List.set_cons_zero, List.set_cons_succ]
          have r5 := World.rowIs.of_block HR2.out (HK2.out.block g1 hg1s)
          have q5 := r5.cell hjc
          rw [HF2.out] at q5
          have f5 := World.rowIs.frozen r5 k
          refine rh.go_last rfl (by kernel_rfl) (fun K2 hK => ?_)
          go_simp
          refine hK.out _ _ ?_
          refine NoPanic.normal ?_
          clear hK K2
          go_wp2_with fail
          go_roundw
          case rel =>
            have hs := HSt.out _ HK2.out
            rw [HNx.out] at hs
            exact ⟨k + 1, by omega, by go_num, hs.1, hs.2, (HBe.out.trans (HK2.out.mono hXW)).setCell (p := ⟨g1, k, none⟩) hg2 _⟩
          case measure => simp [intOf]; omega
        · obtain rfl : n2 = k := by omega
          have hB := HB0.out.trans (hbel.mono HB0.out.size)
          have hWw := HB0.out.size
          have HBig : Hid (BigR X w.heap.size X.heap.size (.agg #[.int .i64 b.roots, .slice B1 n1 e1, .slice B2 n2 e2, .int .i64 b.edges, .slice B4 n4 e4, .slice B5 n5 e5]) (plB (toF g N) b)) := Lib.hid (by
            have h := (hL.here.wide (show w.heap.size ≤ W.heap.size from hWw) (Nat.le_refl _))
            have hm := mix_pl (toF g N) b
            rw [HL1.out, HL2.out] at hm
            rw [hm] at h
            have hb := h.big
            dsimp only at hb
            rw [show (plB (toF g N) b).nodes.length = n1 by (simp only [plB, List.length_map]; exact HL1.out), show (plB (toF g N) b).sites.length = n2 by (simp only [plB, List.length_map]; exact HL2.out), show (plB (toF g N) b).outer.length = n4 from HL4.out, show (plB (toF g N) b).inner.length = n5 from HL5.out] at hb
            exact hb)
          have HBl := Lib.hid hB
          have HBx5 := Lib.hid (HBx0.out.below hbel (show w.heap.size + 1 + 1 + 1 < W.heap.size by omega))
          obtain ⟨y0, y1, y2, y3, y4, y5⟩ := hbo.get
          clear hL hbo hbel hB
          obtain ⟨z0, z1, z2, z3, z4, z5⟩ := HBx5.out.get
          have f0 := World.rowIs.frozen HBx5.out 0
          have f1 := World.rowIs.frozen HBx5.out 1
          have f2 := World.rowIs.frozen HBx5.out 2
          have f3 := World.rowIs.frozen HBx5.out 3
          have f4 := World.rowIs.frozen HBx5.out 4
          have f5 := World.rowIs.frozen HBx5.out 5
          go_wp2_with fail
          have hbig := (sets6_big HBx5.out HBig.out (.int .i64 b.roots) (.slice B1 n1 e1) (.slice B2 n2 e2) (.int .i64 b.edges) (.slice B4 n4 e4) (.slice B5 n5 e5)).here
          have hbel := sets6_below HBl.out (show w.heap.size ≤ w.heap.size + 1 + 1 + 1 by omega) (.int .i64 b.roots) (.slice B1 n1 e1) (.slice B2 n2 e2) (.int .i64 b.edges) (.slice B4 n4 e4) (.slice B5 n5 e5)
          unfold sets6 at hbig hbel
          exact bodyPost_ret (v := .agg #[.int .i64 b.roots, .slice B1 n1 e1, .slice B2 n2 e2, .int .i64 b.edges, .slice B4 n4 e4, .slice B5 n5 e5]) (by simp [results, Tryz.results96, go_sem, z0, z1, z2, z3, z4, z5]) rfl ⟨_, rfl, hbig, hbel⟩
theorem mv_any (G : FuncId) (lb : Array Value) (g : Int → Int) (N : Int) (v : Value) (cs : List Ctl) (b : Big) (w : World) (eg : ∀ args w, (callFunc G args).run Tryz.prog w = .ok (.enter G args) w) (hG : ∀ (r : Int) (Y : World), (0 ≤ r ∧ r < b.roots) → Below w.heap.size w Y → Calls Tryz.prog G (#[.int .i64 r] ++ lb) Y fun e w' => e = .returned (.int .i64 (g r)) ∧ Below Y.heap.size Y w')
    (hv : BigAt w w.heap.size v b) (hS : BigS b) (hN : NilV v) (hg : bigB cs b = true) (hNN : 0 ≤ N ∧ N ≤ 1048576) :
    Calls Tryz.prog 96 #[v, .int .i64 N, .func (.func G) #[] lb] w fun e w' => ∃ v', e = .returned v' ∧ BigR w' w.heap.size w'.heap.size v' (plB (toF g N) b) ∧ Below w.heap.size w w' :=
  mv_gen G lb g N v b w eg hG hv hS hN (good_sites hg) hNN
theorem toF_on : toF (fun _ => -1) 0 = onF := by
  funext p
  unfold toF onF
  by_cases h : p < 0
  · rw [if_pos h, if_pos h]
  · rw [if_neg h, if_neg h, Int.zero_add]
end Go.Proofs.YtlpgldejmdiceabGreat.mri
end

section
namespace Go.Proofs.YtlpgldejmdiceabGreat.mrs
open kit bg sg opn strs only hb sig isig un over gn nm inn ht gd im pt marks eqs hc hi hw hn rs br bm bw cf lf ib isa lawb lw cl rt chd pts psp idl has pm sb wb mb rl ed rnp lep rnm tp rn ow mrp
open Go.RowKit
set_option linter.unusedVariables false
/-- a place among other places -/
def pcF (zs : List Int) (by_ : Int) (p : Int) : Int := if p < 0 then zs.getD (-1 - p).toNat 0 else p + by_
theorem pcF_neg {zs : List Int} {y : Int} {k : Nat} {z : Int} (h : zs[k]? = some z) : pcF zs y (-1 - (k : Int)) = z := by
  unfold pcF
  rw [if_pos (by omega), show (-1 - (-1 - (k : Int))).toNat = k by omega, List.getD_eq_getElem?_getD, h]
  rfl
theorem pcF_pos {zs : List Int} {y p : Int} (h : ¬ p < 0) : pcF zs y p = p + y := by unfold pcF; rw [if_neg h]
set_option maxRecDepth 20000 in
set_option maxHeartbeats 400000 in
theorem par_any (A : Option Addr) (n c : Nat) (zs : List Int) (y p : Int) (w : World) (B : Nat) (h : IntsAt w B A n zs) (hp : -(n : Int) ≤ p) (hn : n ≤ 1048576) (hp1 : p ≤ 1048576) (hy : 0 ≤ y ∧ y ≤ 1048576) :
    Calls Tryz.prog 119 #[.int .i64 p, .int .i64 y, .slice A n c] w fun e w' => e = .returned (.int .i64 (pcF zs y p)) ∧ w = w' := by
  obtain ⟨hy0, hy1⟩ := hy
  by_cases h0 : p < 0
  · obtain ⟨k, rfl⟩ : ∃ k : Nat, p = -1 - (k : Int) := ⟨(-1 - p).toNat, by omega⟩
    obtain ⟨b, off, z, rfl, hb, hz, cz⟩ := h.get (show k < n by omega)
    have HE := Lib.hid (pcF_neg (y := y) hz)
    have hk : -1 - (-1 - (k : Int)) = k := by omega
    rw [HE.out]
    clear hz
    go_enter Tryz.func119, Tryz.ntmps119
    go_wp2_with (rw [hk])
    go_ret
    exact ⟨rfl, rfl⟩
  · have HE := Lib.hid (pcF_pos (zs := zs) (y := y) h0)
    rw [HE.out]
    go_enter Tryz.func119, Tryz.ntmps119
    go_wp2_with fail
    go_ret
    exact ⟨rfl, rfl⟩
set_option maxRecDepth 20000 in
set_option maxHeartbeats 3200000 in
theorem sit_any (A : Option Addr) (n c : Nat) (zs : List Int) (y : Int) (v : Value) (b : Big) (w : World) (hv : BigAt w w.heap.size v b) (hN : NilV v) (h : IntsAt w w.heap.size A n zs) (hn : n ≤ 1048576) (hy : 0 ≤ y ∧ y ≤ 1048576) (hs : b.sites.length ≤ 1048576) (hp : ∀ p ∈ b.sites, -(n : Int) ≤ p ∧ p ≤ 1048576) :
    Calls Tryz.prog 101 #[v, .int .i64 y, .slice A n c] w fun e w' => ∃ A' c', e = .returned (.slice A' b.sites.length c') ∧ RowR w' w.heap.size w'.heap.size 3 1 A' b.sites.length c' (iat (b.sites.map (pcF zs y))) ∧ Below w.heap.size w w' := by
  obtain ⟨A1, n1, c1, A2, n2, c2, A4, n4, c4, A5, n5, c5, rfl, h1, h2, h4, h5⟩ := hv
  have l2 := h2.len
  have HL2 := Lib.hid l2
  have HBox0 : Hid (BoxAt (w.alloc (.cells #[.int .i64 b.roots, .slice A1 n1 c1, .slice A2 n2 c2, .int .i64 b.edges, .slice A4 n4 c4, .slice A5 n5 c5] 31)) w.heap.size 31 (.int .i64 b.roots) (.slice A1 n1 c1) (.slice A2 n2 c2) (.int .i64 b.edges) (.slice A4 n4 c4) (.slice A5 n5 c5)) := Lib.hid (six_new w _ _ _ _ _ _ _)
  have hb0 := (Below.refl w.heap.size w).alloc (Nat.le_refl _) (.cells #[.int .i64 b.roots, .slice A1 n1 c1, .slice A2 n2 c2, .int .i64 b.edges, .slice A4 n4 c4, .slice A5 n5 c5] 31)
  obtain ⟨U, hU⟩ : ∃ U, w.alloc (.cells #[.int .i64 b.roots, .slice A1 n1 c1, .slice A2 n2 c2, .int .i64 b.edges, .slice A4 n4 c4, .slice A5 n5 c5] 31) = U := ⟨_, rfl⟩
  have hUz : U.heap.size = w.heap.size + 1 := by rw [← hU]; simp
  rw [hU] at HBox0 hb0
  have HUq := Lib.hid hU
  have HB0 := Lib.hid hb0
  obtain ⟨i0, hi, hz0, hz1, hz2⟩ := info_parts int_info
  have HI := Lib.hid (And.intro hi (And.intro hz0 (And.intro hz1 hz2)))
  have HOt := Lib.hid (ownsRow_nil_new U 3 1 U.heap.size (Nat.le_refl _))
  rw [hUz] at HOt
  have HbV := Lib.hid ((Below.refl U.heap.size U).alloc (Nat.le_refl _) (.cells #[] 3))
  have hn2 : n2 ≤ 1048576 := by omega
  clear hb0 hU hi hz0 hz1 hz2 l2
  go_enter Tryz.func101, Tryz.ntmps101
  go_wp2_with fail
  rw [HUq.out]
  have hWs : w.heap.size < U.heap.size := by omega
  clear HUq
  go_loopw [7, 8] (fun l i wr => ∃ (k : Nat) (v : Value), k ≤ n2 ∧ i = .int .i64 k ∧ v = l ∧ wr.ownsRow (w.heap.size + 1) 3 1 v k (((b.sites.take k).map (pcF zs y)).map (Value.int .i64)) ∧ Below U.heap.size U wr) (fun _ i _ => n2 - (intOf i).toNat)
  case atStart => exact ⟨0, _, Nat.zero_le _, rfl, rfl, HOt.out, HbV.out⟩
  case round =>
    obtain ⟨k, v, hk, rfl, rfl, hown, hbel⟩ := hrel
    have hbw := HB0.out.trans (hbel.mono HB0.out.size)
    have hwU := hbel.size
    obtain ⟨x0, x1, x2, x3, x4, x5⟩ := (HBox0.out.below hbel hWs).get
    by_cases hlt : k < n2
    · obtain ⟨bs, offs, z, rfl, hbs, hz, cz⟩ := h2.get hlt
      have q := (hbw.cell (p := ⟨bs, offs + k, none⟩) hbs).trans cz
      have hzp := hp z (List.mem_of_getElem? hz)
      obtain ⟨T, hT⟩ : ∃ T, pcF zs y z = T := ⟨_, rfl⟩
      have C := par_any A n c zs y z wr _ (h.below hbw) hzp.1 hn hzp.2 hy
      rw [hT] at C
      obtain ⟨D, hD⟩ : ∃ D, ((b.sites.take k).map (pcF zs y)).map (Value.int .i64) = D := ⟨_, rfl⟩
      have HD : Hid (((b.sites.take (k + 1)).map (pcF zs y)).map (Value.int .i64) = D ++ [.int .i64 T]) := Lib.hid (by rw [take_snoc hz, List.map_append, List.map_append, hD, ← hT]; rfl)
      rw [hD] at hown
      have HBl := Lib.hid hbel
      have HGr := Lib.hid (fun (w1 : World) (hg1 : (wr.alloc (.cells #[.int .i64 T] 3)).grownBy w1 v.ownBlock) => (HBl.out.alloc HBl.out.size (.cells #[.int .i64 T] 3)).grown hg1 (by simp; omega) (fun j hj => by have := (hown.lt j hj).1; omega))
      have e1 : k + 1 ≤ maxLen := by unfold maxLen; omega
      have e2 : (k + 1) * 8 ≤ 140737488355328 := by omega
      clear hz cz hT hD hbel h2 h hp hzp
      go_wp2_with fail
      refine C.mono ?_
      rintro e w2 ⟨rfl, rfl⟩
      clear C
      go_wp2_with (at_builtin; refine wpList_append_own _ rfl _ _ 27 rfl (w.heap.size + 1) 3 i0 (.int .i64 0) 1 8 Tryz.underlying27 HI.out.1 HI.out.2.1 HI.out.2.2.1 HI.out.2.2.2 rfl (by decide) _ _ _ rfl (hown.alloc _) ⟨wr.heap.size, 0, none⟩ 1 1 [.int .i64 T] rfl rfl (cell_one_new _ _ _) (fun x hx => by simp at hx; subst hx; rfl) e1 e2 (by simp; omega) ?_; intro v1 w1 hown1 hgrow1 hnil1; have HB1 := Lib.hid (HGr.out w1 hgrow1); have HO1 := Lib.hid hown1; clear x0 x1 x2 x3 x4 x5 q)
      go_roundw
      case rel => exact ⟨k + 1, _, by omega, by go_num, rfl, by rw [HD.out]; exact HO1.out, HB1.out⟩
      case measure => simp [intOf]; omega
    · obtain rfl : n2 = k := by omega
      rw [List.take_of_length_le (by rw [HL2.out]; exact Nat.le_refl _)] at hown
      obtain ⟨A2o, c2o, rfl, hrs⟩ := ints_owned hown
      have hls : (b.sites.map (pcF zs y)).length = n2 := by rw [List.length_map]; exact HL2.out
      rw [hls] at hrs ⊢
      have HR := Lib.hid (hrs.wide (lo' := w.heap.size) (Nat.le_succ _) (Nat.le_refl _))
      have HBw := Lib.hid hbw
      clear hown hbel hrs hls
      go_wp2_with fail
      go_ret
      rw [HL2.out]
      exact ⟨_, _, rfl, HR.out, HBw.out⟩
def ones (k : Nat) : List Int := List.replicate k (-1)
theorem ones_snoc (k : Nat) : ones (k + 1) = ones k ++ [-1] := List.replicate_succ'
theorem ones_len (k : Nat) : (ones k).length = k := List.length_replicate
theorem pc_on {R : Nat} {p : Int} (h : -(R : Int) ≤ p) : pcF (ones R) 0 p = onF p := by
  by_cases h0 : p < 0
  · obtain ⟨k, rfl⟩ : ∃ k : Nat, p = -1 - (k : Int) := ⟨(-1 - p).toNat, by omega⟩
    unfold onF
    rw [if_pos h0]
    exact pcF_neg (by unfold ones; rw [List.getElem?_replicate, if_pos (by omega)])
  · rw [pcF_pos h0]
    unfold onF
    rw [if_neg h0, Int.add_zero]
end Go.Proofs.YtlpgldejmdiceabGreat.mrs
end
