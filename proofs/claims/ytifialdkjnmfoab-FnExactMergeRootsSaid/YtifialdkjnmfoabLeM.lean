/- Ow Les Lez Lei LeL in one. -/
import Derived.Test.YtifialdkjnmfoabLeM2
import Derived.Test.YtifialdkjnmfoabLeM1
import Derived.Test.YtifialdkjnmfoabFacts
set_option linter.unusedSimpArgs false
section
namespace Go.Proofs.Ytifialdkjnmfoab.ow
open kit bg sg opn strs only hb sig isig un over gn nm inn ht gd im pt marks eqs hc hi hw hn rs br bm bw cf lf ib isa lawb lw cl rt chd pts psp idl has pm sb wb mb rl ed rnp lep rnm tp rn
open Go.RowKit
set_option linter.unusedVariables false
set_option maxRecDepth 20000 in
set_option maxHeartbeats 6400000 in
theorem ow_any (v : Value) (cs : List Ctl) (b : Big) (w : World) (hv : BigAt w w.heap.size v b) (hN : NilV v) (hg : bigB cs b = true) :
    Calls Try.prog 80 #[v] w fun e w' => ∃ v', e = .returned v' ∧ BigR w' w.heap.size w'.heap.size v' b ∧ Below w.heap.size w w' := by
  have hVb := hv
  have hNb := hN
  obtain ⟨A1, n1, c1, A2, n2, c2, A4, n4, c4, A5, n5, c5, rfl, h1, h2, h4, h5⟩ := hv
  have hnil := hN.get
  have hbx := (Below.refl w.heap.size w).alloc (Nat.le_refl _) (.cells #[.int .i64 b.roots, .slice A1 n1 c1, .slice A2 n2 c2, .int .i64 b.edges, .slice A4 n4 c4, .slice A5 n5 c5] 34)
  have HBoxI : Hid (BoxAt (w.alloc (.cells #[.int .i64 b.roots, .slice A1 n1 c1, .slice A2 n2 c2, .int .i64 b.edges, .slice A4 n4 c4, .slice A5 n5 c5] 34)) w.heap.size 34 (.int .i64 b.roots) (.slice A1 n1 c1) (.slice A2 n2 c2) (.int .i64 b.edges) (.slice A4 n4 c4) (.slice A5 n5 c5)) := Lib.hid (six_new w _ _ _ _ _ _ _)
  obtain ⟨W0, hW0⟩ : ∃ W, w.alloc (.cells #[.int .i64 b.roots, .slice A1 n1 c1, .slice A2 n2 c2, .int .i64 b.edges, .slice A4 n4 c4, .slice A5 n5 c5] 34) = W := ⟨_, rfl⟩
  have hWz0 : W0.heap.size = w.heap.size + 1 := by rw [← hW0]; simp
  rw [hW0] at hbx HBoxI
  have hb0 := (Below.refl W0.heap.size W0).alloc (Nat.le_refl _) (.cells #[.int .i64 0, .slice none 0 0, .slice none 0 0, .int .i64 0, .slice none 0 0, .slice none 0 0] 34)
  have HBx0 : Hid (BoxAt (W0.alloc (.cells #[.int .i64 0, .slice none 0 0, .slice none 0 0, .int .i64 0, .slice none 0 0, .slice none 0 0] 34)) W0.heap.size 34 (.int .i64 0) (.slice none 0 0) (.slice none 0 0) (.int .i64 0) (.slice none 0 0) (.slice none 0 0)) := Lib.hid (six_new W0 _ _ _ _ _ _ _)
  have HBox := Lib.hid (HBoxI.out.on hb0)
  obtain ⟨W, hW⟩ : ∃ W, W0.alloc (.cells #[.int .i64 0, .slice none 0 0, .slice none 0 0, .int .i64 0, .slice none 0 0, .slice none 0 0] 34) = W := ⟨_, rfl⟩
  have hWz : W.heap.size = w.heap.size + 1 + 1 := by rw [← hW]; simp; exact hWz0
  rw [hW] at hb0 HBx0 HBox
  rw [hWz0] at HBx0
  have HWq0 := Lib.hid hW0
  have HWq := Lib.hid hW
  have HB0 := Lib.hid (hbx.trans (hb0.mono hbx.size))
  have HWz := Lib.hid hWz
  have hVW : BigAt W W.heap.size (.agg #[.int .i64 b.roots, .slice A1 n1 c1, .slice A2 n2 c2, .int .i64 b.edges, .slice A4 n4 c4, .slice A5 n5 c5]) b := BigAt.wide (BigAt.below ⟨_, _, _, _, _, _, _, _, _, _, _, _, rfl, h1, h2, h4, h5⟩ HB0.out) HB0.out.size
  clear hW0 hW hb0 hWz hWz0 hbx HBoxI hN
  clear hVW
  have hz := sizes_of (big_of hg).2.1
  have l1 := h1.1
  have hn1 : n1 ≤ 8 := by omega
  have HL1 := Lib.hid l1
  have HG := Lib.hid hg
  obtain ⟨E, hE⟩ : ∃ E : Nat, b.edges = E := ⟨b.edges.toNat, by omega⟩
  have hE8 : E ≤ 8 := by omega
  have HE := Lib.hid hE
  have HGs := Lib.hid (good_sites hg)
  have HId := Lib.hid (rn_ids (b := b) hE (fun x hx => by
    obtain ⟨k, hk⟩ := List.getElem?_of_mem hx
    have h1 := HGs.out.1 k x hk
    have h2 := (List.getElem?_eq_some_iff.1 hk).1
    omega) (fun x hx l hl => (big_link hg hx hl).1) (fun z hz => by
    obtain ⟨k, hk⟩ := List.getElem?_of_mem hz
    exact (HGs.out.2.2.1 k z hk).2) (fun x hx => (big_wire hg hx).1))
  obtain ⟨i0, hi, hz0, hz1, hz2⟩ := info_parts int_info
  have HI := Lib.hid (And.intro hi (And.intro hz0 (And.intro hz1 hz2)))
  rw [hE] at HBox HWq0 ⊢
  have hbV := ((Below.refl W.heap.size W).alloc (Nat.le_refl _) (.cells #[] 3)).alloc (by rw [World.size_alloc]; omega) (.cells #[] 3)
  have hWz : W.heap.size = w.heap.size + 1 + 1 := HWz.out
  have HOt := Lib.hid ((ownsRow_nil_new W 3 1 W.heap.size (Nat.le_refl _)).alloc (.cells #[] 3))
  obtain ⟨V, hV⟩ : ∃ V, (W.alloc (.cells #[] 3)).alloc (.cells #[] 3) = V := ⟨_, rfl⟩
  have hVz : V.heap.size = W.heap.size + 1 + 1 := by rw [← hV]; simp
  have HCe : Hid (V.heap[w.heap.size + 1 + 1 + 1]? = some (.cells #[] 3)) := Lib.hid (by rw [← hV]; exact at_new (by rw [World.size_alloc]; omega))
  rw [hV] at hbV HOt
  have HVq := Lib.hid hV
  have HbV := Lib.hid hbV
  have hWs : w.heap.size < W.heap.size := by omega
  have hVW : W.heap.size ≤ V.heap.size := hbV.size
  have HVz := Lib.hid hVz
  clear hV hVz hbV hz hi hz0 hz1 hz2 l1 hE h1 h2 h4 h5 hnil hg
  obtain ⟨x0, x1, x2, x3, x4, x5⟩ := HBox.out.get
  go_enter Try.func80, Try.ntmps80
  go_wp2_with fail
  rw [HWq0.out, HWq.out]
  rw [HVq.out]
  rw [hWz] at HOt
  clear x0 x1 x2 x3 x4 x5
  go_loopw [3, 5] (fun l i wr => ∃ (k : Nat) (v : Value), k ≤ n1 ∧ i = .int .i64 k ∧ l = v ∧ wr.ownsRow (w.heap.size + 1 + 1) 3 1 v k ((ids k).map (Value.int .i64)) ∧ v.ownBlock ≠ some (w.heap.size + 1 + 1 + 1) ∧ wr.heap[w.heap.size + 1 + 1 + 1]? = some (.cells #[] 3) ∧ Below W.heap.size W wr ∧ w.heap.size + 1 + 1 + 1 < wr.heap.size) (fun _ i _ => n1 - (intOf i).toNat)
  case atStart => exact ⟨0, _, Nat.zero_le _, rfl, rfl, HOt.out, by simp [Value.ownBlock], HCe.out, HbV.out, by rw [HVz.out, hWz]; omega⟩
  case round =>
    obtain ⟨k, v, hk, rfl, rfl, hown, hne, hce, hbel, hsz⟩ := hrel
    obtain ⟨x0, x1, x2, x3, x4, x5⟩ := (HBox.out.below hbel hWs).get
    by_cases hlt : k < n1
    · obtain ⟨D, hD⟩ : ∃ D, (ids k).map (Value.int .i64) = D := ⟨_, rfl⟩
      have HD : Hid ((ids (k + 1)).map (Value.int .i64) = D ++ [.int .i64 (k : Int)]) := Lib.hid (by rw [ids_snoc, List.map_append, hD]; rfl)
      rw [hD] at hown
      have HNe := Lib.hid hne
      have HBl := Lib.hid hbel
      have HCe1 := Lib.hid hce
      have hWr := hbel.size
      clear hD hne hbel hce
      go_wp2_with (at_builtin; refine wpList_append_own_at _ rfl _ _ 24 rfl (w.heap.size + 1 + 1) 3 i0 (.int .i64 0) 1 8 Try.underlying24 HI.out.1 HI.out.2.1 HI.out.2.2.1 HI.out.2.2.2 rfl (by decide) _ _ _ rfl (hown.alloc _) ⟨wr.heap.size, 0, none⟩ 1 1 [.int .i64 (k : Int)] rfl rfl (cell_one_new _ _ _) (fun x hx => by simp at hx; subst hx; rfl) (by unfold maxLen; omega) (by omega) (by simp; omega) ?_; intro v1 w1 hown1 hgrow1 hnil1 hat1)
      have HB1 := Lib.hid ((HBl.out.alloc HBl.out.size (.cells #[.int .i64 (k : Int)] 3)).grown hgrow1 (by simp; omega) (fun j hj => by have := (hown.lt j hj).1; omega))
      have HN1 : Hid (v1.ownBlock ≠ some (w.heap.size + 1 + 1 + 1)) := Lib.hid (by
        rcases hat1 with e | e
        · rw [e]; exact HNe.out
        · rw [e]; simp; omega)
      have HC1 : Hid (w1.heap[w.heap.size + 1 + 1 + 1]? = some (.cells #[] 3)) := Lib.hid ((hgrow1.block _ (by simp; omega) (fun e => HNe.out (by first | exact e | exact e.symm))).trans (at_old hsz HCe1.out))
      have HS1 : Hid (w.heap.size + 1 + 1 + 1 < w1.heap.size) := Lib.hid (by have := hgrow1.size; rw [World.size_alloc] at this; omega)
      have HO1 := Lib.hid hown1
      clear hown1 hgrow1 hnil1 hat1 hown
      go_wp2_with fail
      go_roundw
      case rel => exact ⟨k + 1, _, by omega, by go_num, rfl, by rw [HD.out]; exact HO1.out, HN1.out, HC1.out, HB1.out, HS1.out⟩
      case measure => simp [intOf]; omega
    · obtain rfl : n1 = k := by omega
      obtain ⟨At, ct, rfl, hrt⟩ := ints_owned hown
      have hil : (ids n1).length = n1 := ids_len n1
      rw [hil] at hrt ⊢
      obtain ⟨w2, hw2⟩ : ∃ w2, wr = w2 := ⟨_, rfl⟩
      rw [hw2] at hrt hce hbel hsz x0 x1 x2 x3 x4 x5 ⊢
      have hW2 := hbel.size
      have HRt := Lib.hid hrt
      have HNt : Hid (∀ g, blk At g → g ≠ w.heap.size + 1 + 1 + 1 ∧ g < w2.heap.size) := Lib.hid (fun g hg => ⟨fun e => hne (by rw [blk] at hg; subst hg; simp [Value.ownBlock, e]), (hrt.in_ hg).2⟩)
      have HOe := Lib.hid (nil_at (sz := 1) (B := w.heap.size + 1 + 1 + 1) hce (Nat.le_refl _))
      have HB2 := Lib.hid hbel
      clear hown hrt hce hbel hne hil hw2
      go_wp2_with fail
      clear x0 x1 x2 x3 x4 x5
      go_loopw [4, 6] (fun l i wr => ∃ (k : Nat) (v : Value), k ≤ E ∧ i = .int .i64 k ∧ l = v ∧ wr.ownsRow (w.heap.size + 1 + 1 + 1) 3 1 v k ((ids k).map (Value.int .i64)) ∧ (∀ g, v.ownBlock = some g → g = w.heap.size + 1 + 1 + 1 ∨ w2.heap.size ≤ g) ∧ RowR wr (w.heap.size + 1 + 1) w2.heap.size 3 1 At n1 ct (iat (ids n1)) ∧ Below W.heap.size W wr ∧ w2.heap.size ≤ wr.heap.size) (fun _ i _ => E - (intOf i).toNat)
      case atStart => exact ⟨0, _, Nat.zero_le _, rfl, rfl, HOe.out, fun g hg => .inl (by simp [Value.ownBlock] at hg; omega), HRt.out, HB2.out, Nat.le_refl _⟩
      case round =>
        obtain ⟨k, v, hk, rfl, rfl, hown, hat, hrt, hbel, hsz2⟩ := hrel
        obtain ⟨x0, x1, x2, x3, x4, x5⟩ := (HBox.out.below hbel hWs).get
        by_cases hlt : k < E
        · obtain ⟨D, hD⟩ : ∃ D, (ids k).map (Value.int .i64) = D := ⟨_, rfl⟩
          have HD : Hid ((ids (k + 1)).map (Value.int .i64) = D ++ [.int .i64 (k : Int)]) := Lib.hid (by rw [ids_snoc, List.map_append, hD]; rfl)
          rw [hD] at hown
          have HAt := Lib.hid hat
          have HBl := Lib.hid hbel
          have HRt1 := Lib.hid hrt
          have hWr := hbel.size
          clear hD hat hbel hrt
          go_wp2_with (at_builtin; refine wpList_append_own_at _ rfl _ _ 24 rfl (w.heap.size + 1 + 1 + 1) 3 i0 (.int .i64 0) 1 8 Try.underlying24 HI.out.1 HI.out.2.1 HI.out.2.2.1 HI.out.2.2.2 rfl (by decide) _ _ _ rfl (hown.alloc _) ⟨wr.heap.size, 0, none⟩ 1 1 [.int .i64 (k : Int)] rfl rfl (cell_one_new _ _ _) (fun x hx => by simp at hx; subst hx; rfl) (by unfold maxLen; omega) (by omega) (by simp; omega) ?_; intro v1 w1 hown1 hgrow1 hnil1 hat1)
          have HB1 := Lib.hid ((HBl.out.alloc HBl.out.size (.cells #[.int .i64 (k : Int)] 3)).grown hgrow1 (by simp; omega) (fun j hj => by have := (hown.lt j hj).1; omega))
          have HN1 : Hid (∀ g, v1.ownBlock = some g → g = w.heap.size + 1 + 1 + 1 ∨ w2.heap.size ≤ g) := Lib.hid (fun g hg => by
            rcases hat1 with e | e
            · rw [e] at hg; exact HAt.out g hg
            · rw [e] at hg; injection hg with hg; exact .inr (by rw [← hg, World.size_alloc]; omega))
          have HR1 := Lib.hid (HRt1.out.stay (w' := w1) (fun g f m hb hr h1 h2 => (hgrow1.block g (by rw [World.size_alloc]; omega) (fun e => by
            have h3 := HNt.out g hb
            have h4 := HAt.out g e.symm
            omega)).trans (Below.heap_alloc wr _ g (by omega))))
          have HS1 : Hid (w2.heap.size ≤ w1.heap.size) := Lib.hid (by have := hgrow1.size; rw [World.size_alloc] at this; omega)
          have HO1 := Lib.hid hown1
          clear hown1 hgrow1 hnil1 hat1 hown
          go_wp2_with fail
          go_roundw
          case rel => exact ⟨k + 1, _, by omega, by go_num, rfl, by rw [HD.out]; exact HO1.out, HN1.out, HR1.out, HB1.out, HS1.out⟩
          case measure => simp [intOf]; omega
        · obtain rfl : E = k := by omega
          obtain ⟨Ae, ce, rfl, hre⟩ := ints_owned hown
          have hil : (ids E).length = E := ids_len E
          rw [hil] at hre ⊢
          have hbw := HB0.out.trans (hbel.mono HB0.out.size)
          have hIt : IntsAt wr wr.heap.size At n1 (ids n1) := (intsR_at (w := wr) (lo := w.heap.size + 1 + 1) (hi := w2.heap.size) (c := ct) (zs := ids n1) (by rw [ids_len]; exact hrt)).wide hsz2 |> fun h => by rw [ids_len] at h; exact h
          have hIe : IntsAt wr wr.heap.size Ae E (ids E) := (intsR_at (w := wr) (c := ce) (zs := ids E) (by rw [ids_len]; exact hre)) |> fun h => by rw [ids_len] at h; exact h
          have C := rn_any (.agg #[.int .i64 b.roots, .slice A1 n1 c1, .slice A2 n2 c2, .int .i64 b.edges, .slice A4 n4 c4, .slice A5 n5 c5]) cs b At n1 ct (ids n1) Ae E ce (ids E) wr ((BigAt.below hVb hbw).wide hbw.size) hNb HG.out hIt hIe (by rw [HL1.out]; exact ids_each n1) HE.out
          have HId2 := HId.out
          rw [HL1.out] at HId2
          rw [HId2, HE.out] at C
          have HC := Lib.hid C
          have HBxi := Lib.hid (HBx0.out.below hbel (by omega))
          have HBl := Lib.hid hbw
          clear hown hrt hbel hre hIt hIe C hat HId2 hbw
          go_wp2_with fail
          refine HC.out.mono ?_
          rintro e w5 ⟨v5, rfl, hr, hb⟩
          obtain ⟨D1, g1, D2, g2, D4, g4, D5, g5, rfl⟩ := hr.shape
          have HBx5 := Lib.hid (HBxi.out.on hb)
          have HR5 := Lib.hid ((hr.wide (lo' := w.heap.size) HBl.out.size (Nat.le_refl _)))
          have HB5 := Lib.hid (HBl.out.trans (hb.mono HBl.out.size))
          clear hr hb x0 x1 x2 x3 x4 x5
          obtain ⟨z0, z1, z2, z3, z4, z5⟩ := HBx5.out.get
          have f0 := World.rowIs.frozen HBx5.out 0
          have f1 := World.rowIs.frozen HBx5.out 1
          have f2 := World.rowIs.frozen HBx5.out 2
          have f3 := World.rowIs.frozen HBx5.out 3
          have f4 := World.rowIs.frozen HBx5.out 4
          have f5 := World.rowIs.frozen HBx5.out 5
          go_wp2_with fail
          have hbig := (sets6_big HBx5.out HR5.out (.int .i64 b.roots) (.slice D1 b.nodes.length g1) (.slice D2 b.sites.length g2) (.int .i64 b.edges) (.slice D4 b.outer.length g4) (.slice D5 b.inner.length g5)).here
          have hbel := sets6_below HB5.out (show w.heap.size ≤ w.heap.size + 1 from Nat.le_succ _) (.int .i64 b.roots) (.slice D1 b.nodes.length g1) (.slice D2 b.sites.length g2) (.int .i64 b.edges) (.slice D4 b.outer.length g4) (.slice D5 b.inner.length g5)
          unfold sets6 at hbig hbel
          exact bodyPost_ret (v := .agg #[.int .i64 b.roots, .slice D1 b.nodes.length g1, .slice D2 b.sites.length g2, .int .i64 b.edges, .slice D4 b.outer.length g4, .slice D5 b.inner.length g5]) (by simp [results, Try.results80, go_sem, z0, z1, z2, z3, z4, z5]) rfl ⟨_, rfl, hbig, hbel⟩
end Go.Proofs.Ytifialdkjnmfoab.ow
end

section
namespace Go.Proofs.Ytifialdkjnmfoab.les
open kit bg sg opn strs only hb sig isig un over gn nm inn ht gd im pt marks eqs hc hi hw hn rs br bm bw cf lf ib isa lawb lw cl rt chd pts psp idl has pm sb wb mb rl ed rnp lep rnm tp rn ow ln
open Go.RowKit
set_option linter.unusedVariables false
/-- the new numbers of the first k edges -/
def tosL (b : Big) (k : Nat) : List Int := (List.range k).map (fun (i : Nat) => (i : Int) - ((sel (idleP b) i).length : Nat))
theorem tos_snoc (b : Big) (k : Nat) : tosL b (k + 1) = tosL b k ++ [(k : Int) - ((sel (idleP b) k).length : Nat)] := by unfold tosL; rw [List.range_succ, List.map_append]; rfl
theorem tos_len (b : Big) (k : Nat) : (tosL b k).length = k := by unfold tosL; simp
theorem tos_get {b : Big} {k i : Nat} (h : i < k) : (tosL b k)[i]? = some ((i : Int) - ((sel (idleP b) i).length : Nat)) := by unfold tosL; rw [List.getElem?_map, List.getElem?_range h]; rfl
theorem mixL_all (f : Int → Int) (b : Big) : (mixL (fun _ _ l => f l) b.nodes.length 0 b).nodes = (relB f b).nodes := by
  refine List.ext_getElem? (fun i => ?_)
  unfold mixL relB
  simp only [List.getElem?_mapIdx, List.getElem?_map]
  cases hx : b.nodes[i]? with
  | none => rfl
  | some x =>
    have hi := (List.getElem?_eq_some_iff.1 hx).1
    simp only [Option.map_some]
    congr 2
    refine List.ext_getElem? (fun m => ?_)
    rw [List.getElem?_mapIdx, List.getElem?_map]
    cases x.links[m]? with
    | none => rfl
    | some l => simp only [Option.map_some]; rw [if_pos (.inl hi)]
theorem mixW_all (f : Int → Int) (b : Big) : (mixW (fun _ l => f l) b.inner.length b).inner = (relB f b).inner := by
  refine List.ext_getElem? (fun i => ?_)
  unfold mixW relB
  simp only [List.getElem?_mapIdx, List.getElem?_map]
  cases hx : b.inner[i]? with
  | none => rfl
  | some x =>
    have hi := (List.getElem?_eq_some_iff.1 hx).1
    simp only [Option.map_some]
    rw [if_pos hi]
theorem le_mix (b : Big) (R : Int) : (⟨(mixW (fun _ l => leF b l) b.inner.length (mixL (fun _ _ l => leF b l) b.nodes.length 0 b)).roots, (mixW (fun _ l => leF b l) b.inner.length (mixL (fun _ _ l => leF b l) b.nodes.length 0 b)).nodes, (mixW (fun _ l => leF b l) b.inner.length (mixL (fun _ _ l => leF b l) b.nodes.length 0 b)).sites, b.edges - ((sel (idleP b) b.edges.toNat).length : Nat), (mixW (fun _ l => leF b l) b.inner.length (mixL (fun _ _ l => leF b l) b.nodes.length 0 b)).outer, (mixW (fun _ l => leF b l) b.inner.length (mixL (fun _ _ l => leF b l) b.nodes.length 0 b)).inner⟩ : Big) = leB b := by
  have h1 := mixL_all (leF b) b
  have h2 := mixW_all (leF b) b
  unfold leB
  congr 1
set_option maxRecDepth 20000 in
set_option maxHeartbeats 800000 in
theorem sq_any (p0 p1 p2 p4 p5 : Value) (At : Option Addr) (E ct : Nat) (b : Big) (l : Int) (w : World) (B : Nat) (h : IntsAt w B At E (tosL b E)) (hB : B ≤ w.heap.size) (hE : b.edges = E) (hE8 : E ≤ 8) (hl : 0 ≤ l ∧ l ≤ 100) :
    Calls Try.prog 98 #[.agg #[p0, p1, p2, .int .i64 (E : Int), p4, p5], .int .i64 l, .slice At E ct, .int .i64 ((E : Int) - ((sel (idleP b) E).length : Nat))] w fun e w' => e = .returned (.int .i64 (leF b l)) ∧ Below w.heap.size w w' := by
  obtain ⟨hl0, hl1⟩ := hl
  have hsl := sel_len (idleP b) E
  have hb1 := (Below.refl w.heap.size w).alloc (Nat.le_refl _) (.cells #[p0, p1, p2, .int .i64 (E : Int), p4, p5] 34)
  have HBb : Hid (BoxAt (w.alloc (.cells #[p0, p1, p2, .int .i64 (E : Int), p4, p5] 34)) w.heap.size 34 p0 p1 p2 (.int .i64 (E : Int)) p4 p5) := Lib.hid (six_new w _ _ _ _ _ _ _)
  obtain ⟨x0, x1, x2, x3, x4, x5⟩ := HBb.out.get
  have HB := Lib.hid hb1
  by_cases h0 : l < (E : Int)
  · obtain ⟨k, rfl⟩ : ∃ k : Nat, l = k := ⟨l.toNat, by omega⟩
    obtain ⟨bt, off, z, rfl, hb, hz, cz⟩ := h.get (show k < E by omega)
    rw [tos_get (by omega)] at hz
    injection hz with hz
    have cz2 := (hb1.cell (p := ⟨bt, off + k, none⟩) (Nat.lt_of_lt_of_le hb hB)).trans cz
    have HE : Hid (leF b (k : Int) = z) := Lib.hid (by
      unfold leF
      rw [show min (k : Int) b.edges = k by omega, Int.toNat_natCast]
      exact hz)
    rw [HE.out]
    clear hz cz hb1 hsl
    go_enter Try.func98, Try.ntmps98
    go_wp2_with fail
    go_ret
    exact ⟨rfl, HB.out⟩
  · obtain ⟨s, hs⟩ : ∃ s, (sel (idleP b) E).length = s := ⟨_, rfl⟩
    have HE : Hid (leF b l = l - (E : Int) + ((E : Int) - (s : Int))) := Lib.hid (by
      unfold leF
      rw [show min l b.edges = b.edges by omega, hE, Int.toNat_natCast, hs]
      omega)
    rw [hs] at hsl ⊢
    rw [HE.out]
    clear hb1 hs
    go_enter Try.func98, Try.ntmps98
    go_wp2_with fail
    go_ret
    exact ⟨rfl, HB.out⟩

theorem lk_parts {w : World} {lo hi β k j : Nat} {P : Plan} {bb : Big} {x : Nd} {l : Int} {v0 v1 v2 v3 v4 v5 : Value} (h : Laid w lo hi P bb) (hx : bb.nodes[k]? = some x) (hj : x.links[j]? = some l) (hb : BoxAt w β 34 v0 v1 v2 v3 v4 v5) :
    ∃ g2 f2, P.LA k = some ⟨g2, 0, none⟩ ∧ lo ≤ g2 ∧ w.rowIs g2 3 (P.LC k) f2 ∧ j < P.LC k ∧ f2 j = .int .i64 l ∧ ∀ w', Below w.heap.size w w' → ∀ z, Laid (w'.setCell ⟨g2, j, none⟩ (.int .i64 z)) lo hi P (setL bb k j z) ∧ BoxAt (w'.setCell ⟨g2, j, none⟩ (.int .i64 z)) β 34 v0 v1 v2 v3 v4 v5 := by
  obtain ⟨g2, f2, e, hg, hr, hjc, hf, -⟩ := h.link hx hj
  refine ⟨g2, f2, e, hg, hr, hjc, hf, fun w' hq z => ⟨?_, ?_⟩⟩
  · obtain ⟨g3, f3, e', -, -, -, -, hst⟩ := (h.on hq).link hx hj
    rw [e] at e'
    injection e' with e'
    injection e' with e'
    subst e'
    exact hst z
  · have hne : β ≠ g2 := fun e => by
      subst e
      have := (rowIs_uniq hb hr).1
      exact absurd this (by decide)
    exact World.rowIs.setOther (hb.on hq) (a := ⟨g2, j, none⟩) hne _
theorem wr_parts {w : World} {lo hi β k : Nat} {P : Plan} {bb : Big} {x : Wr} {v0 v1 v2 v3 v4 v5 : Value} (h : Laid w lo hi P bb) (hx : bb.inner[k]? = some x) (hb : BoxAt w β 34 v0 v1 v2 v3 v4 v5) :
    ∃ g2 f2, P.A5 = some ⟨g2, 0, none⟩ ∧ lo ≤ g2 ∧ w.rowIs g2 60 (P.c5 * 2) f2 ∧ k * 2 + 1 < P.c5 * 2 ∧ f2 (k * 2 + 1) = .int .i64 x.link ∧ ∀ w', Below w.heap.size w w' → ∀ z, Laid (w'.setCell ⟨g2, k * 2 + 1, none⟩ (.int .i64 z)) lo hi P (setW bb k z) ∧ BoxAt (w'.setCell ⟨g2, k * 2 + 1, none⟩ (.int .i64 z)) β 34 v0 v1 v2 v3 v4 v5 := by
  obtain ⟨g2, f2, e, hg, hr, hjc, -, hf, -⟩ := h.wire hx
  refine ⟨g2, f2, e, hg, hr, hjc, hf, fun w' hq z => ⟨?_, ?_⟩⟩
  · obtain ⟨g3, f3, e', -, -, -, -, -, hst⟩ := (h.on hq).wire hx
    rw [e] at e'
    injection e' with e'
    injection e' with e'
    subst e'
    exact hst z
  · have hne : β ≠ g2 := fun e => by
      subst e
      have := (rowIs_uniq hb hr).1
      exact absurd this (by decide)
    exact World.rowIs.setOther (hb.on hq) (a := ⟨g2, k * 2 + 1, none⟩) hne _
set_option maxRecDepth 20000 in
set_option maxHeartbeats 12800000 in
theorem slf_any (v : Value) (cs : List Ctl) (b : Big) (w : World) (hv : BigAt w w.heap.size v b) (hN : NilV v) (hg : bigB cs b = true) :
    Calls Try.prog 59 #[v] w fun e w' => ∃ v', e = .returned v' ∧ BigR w' w.heap.size w'.heap.size v' (leB b) ∧ Below w.heap.size w w' := by
  have hVb := hv
  have hNb := hN
  obtain ⟨A1, n1, c1, A2, n2, c2, A4, n4, c4, A5, n5, c5, rfl, h1, h2, h4, h5⟩ := hv
  have hnil := hN.get
  have hbx := (Below.refl w.heap.size w).alloc (Nat.le_refl _) (.cells #[.int .i64 b.roots, .slice A1 n1 c1, .slice A2 n2 c2, .int .i64 b.edges, .slice A4 n4 c4, .slice A5 n5 c5] 34)
  have HBoxI : Hid (BoxAt (w.alloc (.cells #[.int .i64 b.roots, .slice A1 n1 c1, .slice A2 n2 c2, .int .i64 b.edges, .slice A4 n4 c4, .slice A5 n5 c5] 34)) w.heap.size 34 (.int .i64 b.roots) (.slice A1 n1 c1) (.slice A2 n2 c2) (.int .i64 b.edges) (.slice A4 n4 c4) (.slice A5 n5 c5)) := Lib.hid (six_new w _ _ _ _ _ _ _)
  obtain ⟨W0, hW0⟩ : ∃ W, w.alloc (.cells #[.int .i64 b.roots, .slice A1 n1 c1, .slice A2 n2 c2, .int .i64 b.edges, .slice A4 n4 c4, .slice A5 n5 c5] 34) = W := ⟨_, rfl⟩
  have hWz0 : W0.heap.size = w.heap.size + 1 := by rw [← hW0]; simp
  rw [hW0] at hbx HBoxI
  have hb0 := (Below.refl W0.heap.size W0).alloc (Nat.le_refl _) (.cells #[.int .i64 0, .slice none 0 0, .slice none 0 0, .int .i64 0, .slice none 0 0, .slice none 0 0] 34)
  have HBx0 : Hid (BoxAt (W0.alloc (.cells #[.int .i64 0, .slice none 0 0, .slice none 0 0, .int .i64 0, .slice none 0 0, .slice none 0 0] 34)) W0.heap.size 34 (.int .i64 0) (.slice none 0 0) (.slice none 0 0) (.int .i64 0) (.slice none 0 0) (.slice none 0 0)) := Lib.hid (six_new W0 _ _ _ _ _ _ _)
  have HBox := Lib.hid (HBoxI.out.on hb0)
  obtain ⟨W, hW⟩ : ∃ W, W0.alloc (.cells #[.int .i64 0, .slice none 0 0, .slice none 0 0, .int .i64 0, .slice none 0 0, .slice none 0 0] 34) = W := ⟨_, rfl⟩
  have hWz : W.heap.size = w.heap.size + 1 + 1 := by rw [← hW]; simp; exact hWz0
  rw [hW] at hb0 HBx0 HBox
  rw [hWz0] at HBx0
  have HWq0 := Lib.hid hW0
  have HWq := Lib.hid hW
  have HB0 := Lib.hid (hbx.trans (hb0.mono hbx.size))
  have HWz := Lib.hid hWz
  have hVW : BigAt W W.heap.size (.agg #[.int .i64 b.roots, .slice A1 n1 c1, .slice A2 n2 c2, .int .i64 b.edges, .slice A4 n4 c4, .slice A5 n5 c5]) b := BigAt.wide (BigAt.below ⟨_, _, _, _, _, _, _, _, _, _, _, _, rfl, h1, h2, h4, h5⟩ HB0.out) HB0.out.size
  clear hW0 hW hb0 hWz hWz0 hbx HBoxI hN
  clear hVW
  have hz := sizes_of (big_of hg).2.1
  have l1 := h1.1
  have l5 := h5.1
  have hn1 : n1 ≤ 8 := by omega
  have hn5 : n5 ≤ 16 := by omega
  have HL1 := Lib.hid l1
  have HL2 := Lib.hid h2.len
  have HL4 := Lib.hid h4.strlen
  have HL5 := Lib.hid l5
  have HG := Lib.hid hg
  obtain ⟨E, hE⟩ : ∃ E : Nat, b.edges = E := ⟨b.edges.toNat, by omega⟩
  have hE8 : E ≤ 8 := by omega
  have HE := Lib.hid hE
  obtain ⟨i0, hi, hz0, hz1, hz2⟩ := info_parts int_info
  have HI := Lib.hid (And.intro hi (And.intro hz0 (And.intro hz1 hz2)))
  rw [hE] at HBox HWq0 hVb hNb ⊢
  have hbV := (Below.refl W.heap.size W).alloc (Nat.le_refl _) (.cells #[] 3)
  have hWz : W.heap.size = w.heap.size + 1 + 1 := HWz.out
  have HOt := Lib.hid (ownsRow_nil_new W 3 1 W.heap.size (Nat.le_refl _))
  have HbV := Lib.hid hbV
  have hWs : w.heap.size < W.heap.size := by omega
  have hVW : W.heap.size ≤ (W.alloc (.cells #[] 3)).heap.size := hbV.size
  have HIdl := Lib.hid (fun (k : Nat) (Y : World) (hY : Below w.heap.size w Y) => idle_any A1 A4 A5 n1 n4 n5 c1 c4 c5 (.int .i64 b.roots) (.slice A2 n2 c2) (.int .i64 (E : Int)) b (k : Int) w Y h1 h5 hY hn1 hn5 (links3 hg))
  have HSl := Lib.hid (fun k => sel_len (idleP b) k)
  clear hbV hz hi hz0 hz1 hz2 l1 l5 hE h1 h2 h4 h5 hnil hg
  rw [hWz] at HOt
  obtain ⟨x0, x1, x2, x3, x4, x5⟩ := HBox.out.get
  go_enter Try.func59, Try.ntmps59
  go_wp2_with fail
  rw [HWq0.out, HWq.out]
  go_wp2_with fail
  clear x0 x1 x2 x3 x4 x5
  go_loopw [3, 4, 5] (fun l c i wr => ∃ (k : Nat) (v : Value), k ≤ E ∧ i = .int .i64 k ∧ c = .int .i64 ((k : Int) - ((sel (idleP b) k).length : Nat)) ∧ v = l ∧ wr.ownsRow (w.heap.size + 1 + 1) 3 1 v k ((tosL b k).map (Value.int .i64)) ∧ Below W.heap.size W wr) (fun _ _ i _ => E - (intOf i).toNat)
  case atStart => exact ⟨0, _, Nat.zero_le _, rfl, rfl, rfl, HOt.out, HbV.out⟩
  case round =>
    obtain ⟨k, v, hk, rfl, rfl, rfl, hown, hbel⟩ := hrel
    obtain ⟨x0, x1, x2, x3, x4, x5⟩ := (HBox.out.below hbel hWs).get
    have hsl := HSl.out k
    by_cases hlt : k < E
    · obtain ⟨D, hD⟩ : ∃ D, (tosL b k).map (Value.int .i64) = D := ⟨_, rfl⟩
      obtain ⟨s, hs⟩ : ∃ s, (sel (idleP b) k).length = s := ⟨_, rfl⟩
      have HD : Hid ((tosL b (k + 1)).map (Value.int .i64) = D ++ [.int .i64 ((k : Int) - (s : Int))]) := Lib.hid (by rw [tos_snoc, List.map_append, hD, hs]; rfl)
      have HSs := Lib.hid hs
      rw [hD] at hown
      rw [hs] at hsl ⊢
      have HBl := Lib.hid hbel
      have hWr := hbel.size
      have HGr := Lib.hid (fun (w1 : World) (hg1 : (wr.alloc (.cells #[.int .i64 ((k : Int) - (s : Int))] 3)).grownBy w1 v.ownBlock) => (HBl.out.alloc HBl.out.size (.cells #[.int .i64 ((k : Int) - (s : Int))] 3)).grown hg1 (by simp; omega) (fun j hj => by have := (hown.lt j hj).1; omega))
      clear hD hs hbel
      go_wp2_with (at_builtin; refine wpList_append_own _ rfl _ _ 24 rfl (w.heap.size + 1 + 1) 3 i0 (.int .i64 0) 1 8 Try.underlying24 HI.out.1 HI.out.2.1 HI.out.2.2.1 HI.out.2.2.2 rfl (by decide) _ _ _ rfl (hown.alloc _) ⟨wr.heap.size, 0, none⟩ 1 1 [.int .i64 ((k : Int) - (s : Int))] rfl rfl (cell_one_new _ _ _) (fun x hx => by simp at hx; subst hx; rfl) (by unfold maxLen; omega) (by omega) (by simp; omega) ?_; intro v1 w1 hown1 hgrow1 hnil1; have HB1 := Lib.hid (HGr.out w1 hgrow1); clear x0 x1 x2 x3 x4 x5; obtain ⟨x0, x1, x2, x3, x4, x5⟩ := (HBox.out.below HB1.out hWs).get)
      have HO1 := Lib.hid hown1
      have hbw1 := HB0.out.trans (HB1.out.mono HB0.out.size)
      clear hown1 hgrow1 hnil1 hown x0 x1 x2 x3 x4 x5
      cases hid : idleB b (k : Int) with
      | true =>
        have C := HIdl.out k w1 hbw1
        rw [hid] at C
        have HN : Hid (((k : Nat) + 1 : Nat) - ((sel (idleP b) (k + 1)).length : Int) = (k : Int) - (s : Int)) := Lib.hid (by rw [sel_yes (P := idleP b) (k := k) hid, List.length_append, HSs.out]; simp; omega)
        clear hid
        refine C.mono ?_
        rintro e w2 ⟨rfl, hb2⟩
        have HB2 := Lib.hid (HB1.out.trans (hb2.mono HB1.out.size))
        have HO2 := Lib.hid (owns_on HO1.out hb2)
        clear C hb2
        go_wp2_with fail
        go_roundw
        case rel => exact ⟨k + 1, _, by omega, by go_num, by rw [HN.out], rfl, by rw [HD.out]; exact HO2.out, HB2.out⟩
        case measure => simp [intOf]; omega
      | false =>
        have C := HIdl.out k w1 hbw1
        rw [hid] at C
        have HN : Hid (((k : Nat) + 1 : Nat) - ((sel (idleP b) (k + 1)).length : Int) = (k : Int) - (s : Int) + 1) := Lib.hid (by rw [sel_no (P := idleP b) (k := k) hid, HSs.out]; omega)
        clear hid
        refine C.mono ?_
        rintro e w2 ⟨rfl, hb2⟩
        have HB2 := Lib.hid (HB1.out.trans (hb2.mono HB1.out.size))
        have HO2 := Lib.hid (owns_on HO1.out hb2)
        clear C hb2
        go_wp2_with fail
        go_roundw
        case rel => exact ⟨k + 1, _, by omega, by go_num, by rw [HN.out], rfl, by rw [HD.out]; exact HO2.out, HB2.out⟩
        case measure => simp [intOf]; omega
    · obtain rfl : E = k := by omega
      obtain ⟨At, ct, rfl, hrt⟩ := ints_owned hown
      rw [tos_len] at hrt ⊢
      have hIt : IntsAt wr wr.heap.size At E (tosL b E) := (intsR_at (w := wr) (c := ct) (zs := tosL b E) (by rw [tos_len]; exact hrt)) |> fun h => by rw [tos_len] at h; exact h
      obtain ⟨w2, hw2⟩ : ∃ w2, wr = w2 := ⟨_, rfl⟩
      rw [hw2] at hIt hbel x0 x1 x2 x3 x4 x5 ⊢
      have HIt := Lib.hid hIt
      have HB2 := Lib.hid hbel
      have hbw := HB0.out.trans (hbel.mono HB0.out.size)
      have hW2 := hbel.size
      have hVb2 : BigAt w2 w2.heap.size (.agg #[.int .i64 b.roots, .slice A1 n1 c1, .slice A2 n2 c2, .int .i64 (E : Int), .slice A4 n4 c4, .slice A5 n5 c5]) b := (BigAt.below hVb hbw).wide hbw.size
      have C := ow_any _ cs b w2 hVb2 hNb HG.out
      clear hown hrt hIt hbel hVb2 hw2
      go_wp2_with fail
      refine C.mono ?_
      rintro e w3 ⟨v3, rfl, hr, hb⟩
      obtain ⟨P, rfl, hL⟩ := laid_of hr
      obtain ⟨B1, e1, B2, e2, B4, e4, B5, e5, LA, LC⟩ := P
      rw [HL1.out, HL2.out, HL4.out, HL5.out, HE.out]
      dsimp only
      obtain ⟨M, hM⟩ : ∃ M : Int, (E : Int) - ((sel (idleP b) E).length : Nat) = M := ⟨_, rfl⟩
      have HM := Lib.hid hM
      rw [hM]
      have hbX := (Below.refl w3.heap.size w3).alloc (Nat.le_refl _) (.cells #[.int .i64 b.roots, .slice B1 n1 e1, .slice B2 n2 e2, .int .i64 M, .slice B4 n4 e4, .slice B5 n5 e5] 34)
      have hbX0 := (Below.refl w3.heap.size w3).alloc (Nat.le_refl _) (.cells #[.int .i64 b.roots, .slice B1 n1 e1, .slice B2 n2 e2, .int .i64 (E : Int), .slice B4 n4 e4, .slice B5 n5 e5] 34)
      have HX0 : Hid (BoxAt (w3.alloc (.cells #[.int .i64 b.roots, .slice B1 n1 e1, .slice B2 n2 e2, .int .i64 (E : Int), .slice B4 n4 e4, .slice B5 n5 e5] 34)) w3.heap.size 34 (.int .i64 b.roots) (.slice B1 n1 e1) (.slice B2 n2 e2) (.int .i64 (E : Int)) (.slice B4 n4 e4) (.slice B5 n5 e5)) := Lib.hid (six_new w3 _ _ _ _ _ _ _)
      have HX : Hid (BoxAt (w3.alloc (.cells #[.int .i64 b.roots, .slice B1 n1 e1, .slice B2 n2 e2, .int .i64 M, .slice B4 n4 e4, .slice B5 n5 e5] 34)) w3.heap.size 34 (.int .i64 b.roots) (.slice B1 n1 e1) (.slice B2 n2 e2) (.int .i64 M) (.slice B4 n4 e4) (.slice B5 n5 e5)) := Lib.hid (six_new w3 _ _ _ _ _ _ _)
      have HLX := Lib.hid (hL.on hbX)
      have HBX := Lib.hid (hb.trans (hbX.mono hb.size))
      have hβl : w3.heap.size < (w3.alloc (.cells #[.int .i64 b.roots, .slice B1 n1 e1, .slice B2 n2 e2, .int .i64 M, .slice B4 n4 e4, .slice B5 n5 e5] 34)).heap.size := by rw [World.size_alloc]; omega
      have hw23 := hb.size
      obtain ⟨β, hβ⟩ : ∃ β, w3.heap.size = β := ⟨_, rfl⟩
      have Hβ := Lib.hid hβ
      clear hr hb hbX hbX0 hM hL C x0 x1 x2 x3 x4 x5
      obtain ⟨y0, y1, y2, y3, y4, y5⟩ := HX0.out.get
      obtain ⟨z0, z1, z2, z3, z4, z5⟩ := HX.out.get
      go_wp2_with fail
      rw [Hβ.out] at HX HLX hw23 y0 y1 y2 y3 y4 y5 z0 z1 z2 z3 z4 z5
      clear y0 y1 y2 y3 y4 y5 z0 z1 z2 z3 z4 z5
      have HSq : Hid (∀ (l : Int) (Y : World), Below w2.heap.size w2 Y → 0 ≤ l ∧ l ≤ 100 → Calls Try.prog 98 #[.agg #[.int .i64 b.roots, .slice A1 n1 c1, .slice A2 n2 c2, .int .i64 (E : Int), .slice A4 n4 c4, .slice A5 n5 c5], .int .i64 l, .slice At E ct, .int .i64 M] Y fun e w' => e = .returned (.int .i64 (leF b l)) ∧ Below Y.heap.size Y w') := Lib.hid (fun l Y hY hl => by
        have h := sq_any (.int .i64 b.roots) (.slice A1 n1 c1) (.slice A2 n2 c2) (.slice A4 n4 c4) (.slice A5 n5 c5) At E ct b l Y w2.heap.size (HIt.out.below hY) hY.size HE.out hE8 hl
        rw [HM.out] at h
        exact h)
      obtain ⟨W4, hW4⟩ : ∃ W4, (w3.alloc (.cells #[.int .i64 b.roots, .slice B1 n1 e1, .slice B2 n2 e2, .int .i64 M, .slice B4 n4 e4, .slice B5 n5 e5] 34)) = W4 := ⟨_, rfl⟩
      rw [hW4] at HX HLX HBX hβl ⊢
      have hWs2 : w.heap.size < w2.heap.size := by omega
      have hW2' : W.heap.size ≤ w2.heap.size := hW2
      have HBx2 := Lib.hid (HBox.out.below HB2.out hWs)
      clear hW4 HIdl HSl HOt HbV
      go_loopw [7] (fun i wr => ∃ k : Nat, k ≤ n1 ∧ i = .int .i64 k ∧ Laid wr w2.heap.size β ⟨B1, e1, B2, e2, B4, e4, B5, e5, LA, LC⟩ (mixL (fun _ _ l => leF b l) k 0 b) ∧ BoxAt wr β 34 (.int .i64 b.roots) (.slice B1 n1 e1) (.slice B2 n2 e2) (.int .i64 M) (.slice B4 n4 e4) (.slice B5 n5 e5) ∧ Below w2.heap.size w2 wr) (fun i _ => n1 - (intOf i).toNat)
      case atStart => exact ⟨0, Nat.zero_le _, rfl, by rw [mixL_zero]; exact HLX.out, HX.out, HBX.out⟩
      case round =>
        obtain ⟨k, hk, rfl, hL, hbo, hbel⟩ := hrel
        obtain ⟨y0, y1, y2, y3, y4, y5⟩ := hbo.get
        by_cases hlt : k < n1
        · obtain ⟨x, hx⟩ : ∃ x, b.nodes[k]? = some x := ⟨_, List.getElem?_eq_getElem (show k < b.nodes.length by rw [HL1.out]; exact hlt)⟩
          have HXk := Lib.hid hx
          obtain ⟨g1, f1, eA, -, -, -, -, -, -, -, -⟩ := hL.node (mixL_get hx)
          have eA' : B1 = some ⟨g1, 0, none⟩ := eA
          subst eA'
          obtain ⟨nl, hnl⟩ : ∃ nl, x.links.length = nl := ⟨_, rfl⟩
          have HN := Lib.hid hnl
          have HL0 := Lib.hid hL
          have HBo0 := Lib.hid hbo
          have HBe0 := Lib.hid hbel
          have hnl3 : nl ≤ 3 := by have := links3 HG.out x (List.mem_of_getElem? hx); omega
          clear hx eA hL hbo hbel hnl
          go_wp2_with fail
          clear y0 y1 y2 y3 y4 y5
          go_loopw [8] (fun i wq => ∃ j : Nat, j ≤ nl ∧ i = .int .i64 j ∧ Laid wq w2.heap.size β ⟨some ⟨g1, 0, none⟩, e1, B2, e2, B4, e4, B5, e5, LA, LC⟩ (mixL (fun _ _ l => leF b l) k j b) ∧ BoxAt wq β 34 (.int .i64 b.roots) (.slice (some ⟨g1, 0, none⟩) n1 e1) (.slice B2 n2 e2) (.int .i64 M) (.slice B4 n4 e4) (.slice B5 n5 e5) ∧ Below w2.heap.size w2 wq) (fun i _ => nl - (intOf i).toNat)
          case atStart => exact ⟨0, Nat.zero_le _, rfl, HL0.out, HBo0.out, HBe0.out⟩
          case round =>
            obtain ⟨j, hj, rfl, hL, hbo, hbel⟩ := hrel
            rename World => wq
            have hwq := hbel.size
            obtain ⟨g1', f1, eA, -, -, r1, hk3, -, -, ek, -⟩ := hL.node (mixL_get HXk.out)
            dsimp only at eA r1 hk3 ek
            injection eA with eA
            injection eA with eA
            subst eA
            rw [List.length_mapIdx, HN.out] at ek
            have q1 := r1.cell hk3
            rw [ek] at q1
            have hg1s := World.rowIs.lt r1
            have hβs := World.rowIs.lt hbo
            clear ek r1 hk3
            obtain ⟨y0, y1, y2, y3, y4, y5⟩ := hbo.get
            by_cases hlj : j < nl
            · obtain ⟨l, hl⟩ : ∃ l, x.links[j]? = some l := ⟨_, List.getElem?_eq_getElem (show j < x.links.length by rw [HN.out]; exact hlj)⟩
              have hlr := big_link HG.out (List.mem_of_getElem? HXk.out) (List.mem_of_getElem? hl)
              obtain ⟨g2, f2, eL, hg2, r2, hjc, hf2, hst⟩ := lk_parts hL (mixL_get HXk.out) (show (List.mapIdx (fun m l => if k < k ∨ k = k ∧ m < j then leF b l else l) x.links)[j]? = some l from mixL_link (F := fun _ _ l => leF b l) (b := b) hl) hbo
              dsimp only at eL r2 hjc
              rw [eL] at q1
              have q2 := r2.cell hjc
              rw [hf2] at q2
              have hg2s := World.rowIs.lt r2
              obtain ⟨T, hT⟩ : ∃ T, leF b l = T := ⟨_, rfl⟩
              have CT := fun Y hY => hT ▸ HSq.out l Y hY hlr
              have HSt := Lib.hid (fun w' hq => hst w' hq T)
              have HR2 := Lib.hid r2
              have HF2 := Lib.hid hf2
              have hkD := (Below.refl wq.heap.size wq).drew
              have hwD := hbel.drew
              have HNx : Hid (setL (mixL (fun _ _ l => leF b l) k j b) k j T = mixL (fun _ _ l => leF b l) k (j + 1) b) := Lib.hid (by rw [← hT]; exact mixL_next (F := fun _ _ l => leF b l) HXk.out hl)
              have HBe := Lib.hid hbel
              have HBx := Lib.hid (HBx2.out.below hbel hWs2)
              have HS2 : Hid (∀ w', Below wq.heap.size wq w' → (w'.cell? ⟨w.heap.size, 0, none⟩ = some (.int .i64 b.roots) ∧ w'.cell? ⟨w.heap.size, 1, none⟩ = some (.slice A1 n1 c1) ∧ w'.cell? ⟨w.heap.size, 2, none⟩ = some (.slice A2 n2 c2) ∧ w'.cell? ⟨w.heap.size, 3, none⟩ = some (.int .i64 (E : Int)) ∧ w'.cell? ⟨w.heap.size, 4, none⟩ = some (.slice A4 n4 c4) ∧ w'.cell? ⟨w.heap.size, 5, none⟩ = some (.slice A5 n5 c5)) ∧ (w'.cell? ⟨β, 1, none⟩ = some (.slice (some ⟨g1, 0, none⟩) n1 e1) ∧ w'.cell? ⟨g1, k * 3 + 2, none⟩ = some (.slice (some ⟨g2, 0, none⟩) nl (LC k)) ∧ w'.cell? ⟨g2, j, none⟩ = some (.int .i64 l))) := Lib.hid (fun w' hq => ⟨(HBx.out.on hq).get, (hbo.on hq).get.2.1, (hq.cell (p := ⟨g1, k * 3 + 2, none⟩) hg1s).trans q1, (hq.cell (p := ⟨g2, j, none⟩) hg2s).trans q2⟩)
              clear hT hst hl hL hbo hbel r2 hf2 eL
              go_wp2_with fail
              clear y0 y1 y2 y3 y4 y5 q1 q2
              refine rh.go_begin 21 (fun w' => (w'.cell? ⟨w.heap.size, 0, none⟩ = some (.int .i64 b.roots) ∧ w'.cell? ⟨w.heap.size, 1, none⟩ = some (.slice A1 n1 c1) ∧ w'.cell? ⟨w.heap.size, 2, none⟩ = some (.slice A2 n2 c2) ∧ w'.cell? ⟨w.heap.size, 3, none⟩ = some (.int .i64 (E : Int)) ∧ w'.cell? ⟨w.heap.size, 4, none⟩ = some (.slice A4 n4 c4) ∧ w'.cell? ⟨w.heap.size, 5, none⟩ = some (.slice A5 n5 c5)) ∧ (w'.cell? ⟨β, 1, none⟩ = some (.slice (some ⟨g1, 0, none⟩) n1 e1) ∧ w'.cell? ⟨g1, k * 3 + 2, none⟩ = some (.slice (some ⟨g2, 0, none⟩) nl (LC k)) ∧ w'.cell? ⟨g2, j, none⟩ = some (.int .i64 l))) (by kernel_rfl) ?_ (fun hHeld => ?_)
              · ((try dsimp only); exact HS2.out _ (by go_grown))
              refine rh.go_take (i := 0) (v := ?v1) rfl (by kernel_rfl) (fun _ _ _ h => h) (Or.inl ⟨by rfl, ?hy1⟩) (by assumption) ?rest1
              case hy1 => (intro wS hSw; (try dsimp only at hSw); go_simp; try (with_reducible rfl))
              try simp only [Act.put, List.setIfInBounds_toArray, List.set_cons_zero, List.set_cons_succ]
              refine rh.go_take (i := 1) (v := ?v2) rfl (by kernel_rfl) (fun _ _ _ h => h) (Or.inl ⟨by rfl, ?hy2⟩) (by assumption) ?rest2
              case hy2 => (intro wS hSw; (try dsimp only at hSw); go_simp; try (with_reducible rfl))
              try simp only [Act.put, List.setIfInBounds_toArray, List.set_cons_zero, List.set_cons_succ]
              refine rh.go_take (i := 2) (v := ?v3) rfl (by kernel_rfl) (fun _ _ _ h => h) (Or.inl ⟨by rfl, ?hy3⟩) (by assumption) ?rest3
              case hy3 => (intro wS hSw; (try dsimp only at hSw); go_simp; try (with_reducible rfl))
              try simp only [Act.put, List.setIfInBounds_toArray, List.set_cons_zero, List.set_cons_succ]
              refine rh.go_take (i := 3) (v := ?v4) rfl (by kernel_rfl) (fun _ _ _ h => h) (Or.inl ⟨by rfl, ?hy4⟩) (by assumption) ?rest4
              case hy4 => (intro wS hSw; (try dsimp only at hSw); go_simp; try (with_reducible rfl))
              try simp only [Act.put, List.setIfInBounds_toArray, List.set_cons_zero, List.set_cons_succ]
              refine rh.go_take (i := 4) (v := ?v5) rfl (by kernel_rfl) (fun _ _ _ h => h) (Or.inl ⟨by rfl, ?hy5⟩) (by assumption) ?rest5
              case hy5 => (intro wS hSw; (try dsimp only at hSw); go_simp; try (with_reducible rfl))
              try simp only [Act.put, List.setIfInBounds_toArray, List.set_cons_zero, List.set_cons_succ]
              refine rh.go_take (i := 5) (v := ?v6) rfl (by kernel_rfl) (fun _ _ _ h => h) (Or.inl ⟨by rfl, ?hy6⟩) (by assumption) ?rest6
              case hy6 => (intro wS hSw; (try dsimp only at hSw); go_simp; try (with_reducible rfl))
              try simp only [Act.put, List.setIfInBounds_toArray, List.set_cons_zero, List.set_cons_succ]
              refine rh.go_take (i := 6) (v := ?v7) rfl (by kernel_rfl) (fun _ _ _ h => h) (Or.inl ⟨by rfl, ?hy7⟩) (by assumption) ?rest7
              case hy7 => (intro wS hSw; (try dsimp only at hSw); go_simp; try (with_reducible rfl))
              try simp only [Act.put, List.setIfInBounds_toArray, List.set_cons_zero, List.set_cons_succ]
              refine rh.go_take (i := 7) (v := ?v8) rfl (by kernel_rfl) (fun _ _ _ h => h) (Or.inl ⟨by rfl, ?hy8⟩) (by assumption) ?rest8
              case hy8 => (intro wS hSw; (try dsimp only at hSw); go_simp; try (with_reducible rfl))
              try simp only [Act.put, List.setIfInBounds_toArray, List.set_cons_zero, List.set_cons_succ]
              refine rh.go_take (i := 8) (v := ?v9) rfl (by kernel_rfl) (fun _ _ _ h => h) (Or.inl ⟨by rfl, ?hy9⟩) (by assumption) ?rest9
              case hy9 => (intro wS hSw; (try dsimp only at hSw); go_simp; try (with_reducible rfl))
              try simp only [Act.put, List.setIfInBounds_toArray, List.set_cons_zero, List.set_cons_succ]
              refine rh.go_take (i := 9) (v := ?v10) rfl (by kernel_rfl) (fun _ _ _ h => h) (Or.inl ⟨by rfl, ?hy10⟩) (by assumption) ?rest10
              case hy10 => (intro wS hSw; (try dsimp only at hSw); go_simp; try (with_reducible rfl))
              try simp only [Act.put, List.setIfInBounds_toArray, List.set_cons_zero, List.set_cons_succ]
              refine rh.go_take (i := 10) (v := ?v11) rfl (by kernel_rfl) (fun _ _ _ h => h) (Or.inl ⟨by rfl, ?hy11⟩) (by assumption) ?rest11
              case hy11 => (intro wS hSw; (try dsimp only at hSw); go_simp; try (with_reducible rfl))
              try simp only [Act.put, List.setIfInBounds_toArray, List.set_cons_zero, List.set_cons_succ]
              refine rh.go_take (i := 11) (v := ?v12) rfl (by kernel_rfl) (fun _ _ _ h => h) (Or.inl ⟨by rfl, ?hy12⟩) (by assumption) ?rest12
              case hy12 => (intro wS hSw; (try dsimp only at hSw); go_simp; try (with_reducible rfl))
              try simp only [Act.put, List.setIfInBounds_toArray, List.set_cons_zero, List.set_cons_succ]
              refine rh.go_take (i := 12) (v := ?v13) rfl (by kernel_rfl) (fun _ _ _ h => h) (Or.inl ⟨by rfl, ?hy13⟩) (by assumption) ?rest13
              case hy13 => (intro wS hSw; (try dsimp only at hSw); go_simp; try (with_reducible rfl))
              try simp only [Act.put, List.setIfInBounds_toArray, List.set_cons_zero, List.set_cons_succ]
              refine rh.go_take (i := 13) (v := ?v14) rfl (by kernel_rfl) (fun _ _ _ h => h) (Or.inl ⟨by rfl, ?hy14⟩) (by assumption) ?rest14
              case hy14 => (intro wS hSw; (try dsimp only at hSw); go_simp; try (with_reducible rfl))
              try simp only [Act.put, List.setIfInBounds_toArray, List.set_cons_zero, List.set_cons_succ]
              refine rh.go_take (i := 14) (v := ?v15) rfl (by kernel_rfl) (fun _ _ _ h => h) (Or.inl ⟨by rfl, ?hy15⟩) (by assumption) ?rest15
              case hy15 => (intro wS hSw; (try dsimp only at hSw); go_simp; try (with_reducible rfl))
              try simp only [Act.put, List.setIfInBounds_toArray, List.set_cons_zero, List.set_cons_succ]
              refine rh.go_take (i := 15) (v := ?v16) rfl (by kernel_rfl) (fun _ _ _ h => h) (Or.inl ⟨by rfl, ?hy16⟩) (by assumption) ?rest16
              case hy16 => (intro wS hSw; (try dsimp only at hSw); go_simp; try (with_reducible rfl))
              try simp only [Act.put, List.setIfInBounds_toArray, List.set_cons_zero, List.set_cons_succ]
              refine rh.go_take (i := 16) (v := ?v17) rfl (by kernel_rfl) (fun _ _ _ h => h) (Or.inl ⟨by rfl, ?hy17⟩) (by assumption) ?rest17
              case hy17 => (intro wS hSw; (try dsimp only at hSw); go_simp; try (with_reducible rfl))
              try simp only [Act.put, List.setIfInBounds_toArray, List.set_cons_zero, List.set_cons_succ]
              refine rh.go_take (i := 17) (v := ?v18) rfl (by kernel_rfl) (fun _ _ _ h => h) (Or.inl ⟨by rfl, ?hy18⟩) (by assumption) ?rest18
              case hy18 => (intro wS hSw; (try dsimp only at hSw); go_simp; try (with_reducible rfl))
              try simp only [Act.put, List.setIfInBounds_toArray, List.set_cons_zero, List.set_cons_succ]
              refine rh.go_take (i := 18) (v := ?v19) rfl (by kernel_rfl) (fun _ _ _ h => h) (Or.inl ⟨by rfl, ?hy19⟩) (by assumption) ?rest19
              case hy19 => (intro wS hSw; (try dsimp only at hSw); go_simp; try (with_reducible rfl))
              try simp only [Act.put, List.setIfInBounds_toArray, List.set_cons_zero, List.set_cons_succ]
              refine rh.go_next (i := 19) rfl (by kernel_rfl) (fun K2 hK => ?_)
              (go_simp; go_at_call 98; refine (CT _ hwD).mono ?_; rintro e w5 ⟨rfl, hb⟩; have hk2 := hkD.trans (hb.mono hkD.size); have HK2 := Lib.hid hk2; clear hb; go_wp2_with fail)
              refine hK.out _ _ ?_ (fun hHeld => ?_)
              · ((try dsimp only); exact HS2.out _ (by go_grown))
              clear hK K2
              try simp only [Act.put, List.setIfInBounds_toArray, List.set_cons_zero, List.set_cons_succ]
              refine rh.go_take (i := 20) (v := ?v20) rfl (by kernel_rfl) (fun _ _ _ h => h) (Or.inl ⟨by rfl, ?hy20⟩) (by assumption) ?rest20
              case hy20 => (intro wS hSw; (try dsimp only at hSw); go_simp; try (with_reducible rfl))
              try simp only [Act.put, List.setIfInBounds_toArray, List.set_cons_zero, List.set_cons_succ]
              have r5 := World.rowIs.of_block HR2.out (HK2.out.block g2 hg2s)
              have q5 := r5.cell hjc
              rw [HF2.out] at q5
              have f5 := World.rowIs.frozen r5 j
              refine rh.go_last rfl (by kernel_rfl) (fun K2 hK => ?_)
              go_simp
              refine hK.out _ _ ?_
              refine NoPanic.normal ?_
              clear hK K2
              go_wp2_with fail
              go_roundw
              case rel =>
                have hs := HSt.out _ HK2.out
                rw [HNx.out] at hs
                exact ⟨j + 1, by omega, by go_num, hs.1, hs.2, (HBe.out.trans (HK2.out.mono hwq)).setCell (p := ⟨g2, j, none⟩) hg2 _⟩
              case measure => simp [intOf]; omega
            · obtain rfl : j = nl := by omega
              have HLd := Lib.hid hL
              have HBod := Lib.hid hbo
              have HBed := Lib.hid hbel
              clear hL hbo hbel
              go_wp2_with fail
              go_roundw
              case rel =>
                have h := HLd.out
                rw [← HN.out, mixL_done HXk.out] at h
                exact ⟨k + 1, by omega, by go_num, h, HBod.out, HBed.out⟩
              case measure => simp [intOf]; omega
        · obtain rfl : n1 = k := by omega
          have HLd := Lib.hid hL
          have HBod := Lib.hid hbo
          have HBed := Lib.hid hbel
          clear hL hbo hbel
          go_wp2_with fail
          clear y0 y1 y2 y3 y4 y5
          go_loopw [9] (fun i wr => ∃ k : Nat, k ≤ n5 ∧ i = .int .i64 k ∧ Laid wr w2.heap.size β ⟨B1, e1, B2, e2, B4, e4, B5, e5, LA, LC⟩ (mixW (fun _ l => leF b l) k (mixL (fun _ _ l => leF b l) n1 0 b)) ∧ BoxAt wr β 34 (.int .i64 b.roots) (.slice B1 n1 e1) (.slice B2 n2 e2) (.int .i64 M) (.slice B4 n4 e4) (.slice B5 n5 e5) ∧ Below w2.heap.size w2 wr) (fun i _ => n5 - (intOf i).toNat)
          case atStart => exact ⟨0, Nat.zero_le _, rfl, by rw [mixW_zero]; exact HLd.out, HBod.out, HBed.out⟩
          case round =>
            obtain ⟨k, hk, rfl, hL, hbo, hbel⟩ := hrel
            rename World => wq
            have hwq := hbel.size
            have hβs := World.rowIs.lt hbo
            obtain ⟨y0, y1, y2, y3, y4, y5⟩ := hbo.get
            by_cases hlt : k < n5
            · obtain ⟨x, hx⟩ : ∃ x, b.inner[k]? = some x := ⟨_, List.getElem?_eq_getElem (show k < b.inner.length by rw [HL5.out]; exact hlt)⟩
              have hx' : (mixL (fun _ _ l => leF b l) n1 0 b).inner[k]? = some x := hx
              have hlr := big_wire HG.out (List.mem_of_getElem? hx)
              obtain ⟨g1, f2, eA, hg2, r2, hjc, hf2, hst⟩ := wr_parts hL (mixW_get hx') hbo
              have eA' : B5 = some ⟨g1, 0, none⟩ := eA
              subst eA'
              dsimp only at r2 hjc
              have q2 := r2.cell hjc
              rw [hf2] at q2
              have hg1s := World.rowIs.lt r2
              obtain ⟨T, hT⟩ : ∃ T, leF b x.link = T := ⟨_, rfl⟩
              have CT := fun Y hY => hT ▸ HSq.out x.link Y hY hlr
              have HSt := Lib.hid (fun w' hq => hst w' hq T)
              have HR2 := Lib.hid r2
              have HF2 := Lib.hid hf2
              have hkD := (Below.refl wq.heap.size wq).drew
              have hwD := hbel.drew
              have HNx : Hid (setW (mixW (fun _ l => leF b l) k (mixL (fun _ _ l => leF b l) n1 0 b)) k T = mixW (fun _ l => leF b l) (k + 1) (mixL (fun _ _ l => leF b l) n1 0 b)) := Lib.hid (by rw [← hT]; exact mixW_next (F := fun _ l => leF b l) hx')
              have HBe := Lib.hid hbel
              have HBx := Lib.hid (HBx2.out.below hbel hWs2)
              have HS2 : Hid (∀ w', Below wq.heap.size wq w' → (w'.cell? ⟨w.heap.size, 0, none⟩ = some (.int .i64 b.roots) ∧ w'.cell? ⟨w.heap.size, 1, none⟩ = some (.slice A1 n1 c1) ∧ w'.cell? ⟨w.heap.size, 2, none⟩ = some (.slice A2 n2 c2) ∧ w'.cell? ⟨w.heap.size, 3, none⟩ = some (.int .i64 (E : Int)) ∧ w'.cell? ⟨w.heap.size, 4, none⟩ = some (.slice A4 n4 c4) ∧ w'.cell? ⟨w.heap.size, 5, none⟩ = some (.slice A5 n5 c5)) ∧ (w'.cell? ⟨β, 5, none⟩ = some (.slice (some ⟨g1, 0, none⟩) n5 e5) ∧ w'.cell? ⟨g1, k * 2 + 1, none⟩ = some (.int .i64 x.link))) := Lib.hid (fun w' hq => ⟨(HBx.out.on hq).get, (hbo.on hq).get.2.2.2.2.2, (hq.cell (p := ⟨g1, k * 2 + 1, none⟩) hg1s).trans q2⟩)
              clear hT hst hx hx' hL hbo hbel r2 hf2 eA
              go_wp2_with fail
              clear y0 y1 y2 y3 y4 y5 q2
              refine rh.go_begin 15 (fun w' => (w'.cell? ⟨w.heap.size, 0, none⟩ = some (.int .i64 b.roots) ∧ w'.cell? ⟨w.heap.size, 1, none⟩ = some (.slice A1 n1 c1) ∧ w'.cell? ⟨w.heap.size, 2, none⟩ = some (.slice A2 n2 c2) ∧ w'.cell? ⟨w.heap.size, 3, none⟩ = some (.int .i64 (E : Int)) ∧ w'.cell? ⟨w.heap.size, 4, none⟩ = some (.slice A4 n4 c4) ∧ w'.cell? ⟨w.heap.size, 5, none⟩ = some (.slice A5 n5 c5)) ∧ (w'.cell? ⟨β, 5, none⟩ = some (.slice (some ⟨g1, 0, none⟩) n5 e5) ∧ w'.cell? ⟨g1, k * 2 + 1, none⟩ = some (.int .i64 x.link))) (by kernel_rfl) ?_ (fun hHeld => ?_)
              · ((try dsimp only); exact HS2.out _ (by go_grown))
              refine rh.go_take (i := 0) (v := ?v21) rfl (by kernel_rfl) (fun _ _ _ h => h) (Or.inl ⟨by rfl, ?hy21⟩) (by assumption) ?rest21
              case hy21 => (intro wS hSw; (try dsimp only at hSw); go_simp; try (with_reducible rfl))
              try simp only [Act.put, List.setIfInBounds_toArray, List.set_cons_zero, List.set_cons_succ]
              refine rh.go_take (i := 1) (v := ?v22) rfl (by kernel_rfl) (fun _ _ _ h => h) (Or.inl ⟨by rfl, ?hy22⟩) (by assumption) ?rest22
              case hy22 => (intro wS hSw; (try dsimp only at hSw); go_simp; try (with_reducible rfl))
              try simp only [Act.put, List.setIfInBounds_toArray, List.set_cons_zero, List.set_cons_succ]
              refine rh.go_take (i := 2) (v := ?v23) rfl (by kernel_rfl) (fun _ _ _ h => h) (Or.inl ⟨by rfl, ?hy23⟩) (by assumption) ?rest23
              case hy23 => (intro wS hSw; (try dsimp only at hSw); go_simp; try (with_reducible rfl))
              try simp only [Act.put, List.setIfInBounds_toArray, List.set_cons_zero, List.set_cons_succ]
              refine rh.go_take (i := 3) (v := ?v24) rfl (by kernel_rfl) (fun _ _ _ h => h) (Or.inl ⟨by rfl, ?hy24⟩) (by assumption) ?rest24
              case hy24 => (intro wS hSw; (try dsimp only at hSw); go_simp; try (with_reducible rfl))
              try simp only [Act.put, List.setIfInBounds_toArray, List.set_cons_zero, List.set_cons_succ]
              refine rh.go_take (i := 4) (v := ?v25) rfl (by kernel_rfl) (fun _ _ _ h => h) (Or.inl ⟨by rfl, ?hy25⟩) (by assumption) ?rest25
              case hy25 => (intro wS hSw; (try dsimp only at hSw); go_simp; try (with_reducible rfl))
              try simp only [Act.put, List.setIfInBounds_toArray, List.set_cons_zero, List.set_cons_succ]
              refine rh.go_take (i := 5) (v := ?v26) rfl (by kernel_rfl) (fun _ _ _ h => h) (Or.inl ⟨by rfl, ?hy26⟩) (by assumption) ?rest26
              case hy26 => (intro wS hSw; (try dsimp only at hSw); go_simp; try (with_reducible rfl))
              try simp only [Act.put, List.setIfInBounds_toArray, List.set_cons_zero, List.set_cons_succ]
              refine rh.go_take (i := 6) (v := ?v27) rfl (by kernel_rfl) (fun _ _ _ h => h) (Or.inl ⟨by rfl, ?hy27⟩) (by assumption) ?rest27
              case hy27 => (intro wS hSw; (try dsimp only at hSw); go_simp; try (with_reducible rfl))
              try simp only [Act.put, List.setIfInBounds_toArray, List.set_cons_zero, List.set_cons_succ]
              refine rh.go_take (i := 7) (v := ?v28) rfl (by kernel_rfl) (fun _ _ _ h => h) (Or.inl ⟨by rfl, ?hy28⟩) (by assumption) ?rest28
              case hy28 => (intro wS hSw; (try dsimp only at hSw); go_simp; try (with_reducible rfl))
              try simp only [Act.put, List.setIfInBounds_toArray, List.set_cons_zero, List.set_cons_succ]
              refine rh.go_take (i := 8) (v := ?v29) rfl (by kernel_rfl) (fun _ _ _ h => h) (Or.inl ⟨by rfl, ?hy29⟩) (by assumption) ?rest29
              case hy29 => (intro wS hSw; (try dsimp only at hSw); go_simp; try (with_reducible rfl))
              try simp only [Act.put, List.setIfInBounds_toArray, List.set_cons_zero, List.set_cons_succ]
              refine rh.go_take (i := 9) (v := ?v30) rfl (by kernel_rfl) (fun _ _ _ h => h) (Or.inl ⟨by rfl, ?hy30⟩) (by assumption) ?rest30
              case hy30 => (intro wS hSw; (try dsimp only at hSw); go_simp; try (with_reducible rfl))
              try simp only [Act.put, List.setIfInBounds_toArray, List.set_cons_zero, List.set_cons_succ]
              refine rh.go_take (i := 10) (v := ?v31) rfl (by kernel_rfl) (fun _ _ _ h => h) (Or.inl ⟨by rfl, ?hy31⟩) (by assumption) ?rest31
              case hy31 => (intro wS hSw; (try dsimp only at hSw); go_simp; try (with_reducible rfl))
              try simp only [Act.put, List.setIfInBounds_toArray, List.set_cons_zero, List.set_cons_succ]
              refine rh.go_take (i := 11) (v := ?v32) rfl (by kernel_rfl) (fun _ _ _ h => h) (Or.inl ⟨by rfl, ?hy32⟩) (by assumption) ?rest32
              case hy32 => (intro wS hSw; (try dsimp only at hSw); go_simp; try (with_reducible rfl))
              try simp only [Act.put, List.setIfInBounds_toArray, List.set_cons_zero, List.set_cons_succ]
              refine rh.go_next (i := 12) rfl (by kernel_rfl) (fun K2 hK => ?_)
              (go_simp; go_at_call 98; refine (CT _ hwD).mono ?_; rintro e w5 ⟨rfl, hb⟩; have hk2 := hkD.trans (hb.mono hkD.size); have HK2 := Lib.hid hk2; clear hb; go_wp2_with fail)
              refine hK.out _ _ ?_ (fun hHeld => ?_)
              · ((try dsimp only); exact HS2.out _ (by go_grown))
              clear hK K2
              try simp only [Act.put, List.setIfInBounds_toArray, List.set_cons_zero, List.set_cons_succ]
              refine rh.go_take (i := 13) (v := ?v33) rfl (by kernel_rfl) (fun _ _ _ h => h) (Or.inl ⟨by rfl, ?hy33⟩) (by assumption) ?rest33
              case hy33 => (intro wS hSw; (try dsimp only at hSw); go_simp; try (with_reducible rfl))
              try simp only [Act.put, List.setIfInBounds_toArray, List.set_cons_zero, List.set_cons_succ]
              refine rh.go_take (i := 14) (v := ?v34) rfl (by kernel_rfl) (fun _ _ _ h => h) (Or.inl ⟨by rfl, ?hy34⟩) (by assumption) ?rest34
              case hy34 => (intro wS hSw; (try dsimp only at hSw); go_simp; try (with_reducible rfl))
              try simp only [Act.put, List.setIfInBounds_toArray, List.set_cons_zero, List.set_cons_succ]
              have r5 := World.rowIs.of_block HR2.out (HK2.out.block g1 hg1s)
              have q5 := r5.cell hjc
              rw [HF2.out] at q5
              have f5 := World.rowIs.frozen r5 (k * 2 + 1)
              refine rh.go_last rfl (by kernel_rfl) (fun K2 hK => ?_)
              go_simp
              refine hK.out _ _ ?_
              refine NoPanic.normal ?_
              clear hK K2
              go_wp2_with fail
              go_roundw
              case rel =>
                have hs := HSt.out _ HK2.out
                rw [HNx.out] at hs
                exact ⟨k + 1, by omega, by go_num, hs.1, hs.2, (HBe.out.trans (HK2.out.mono hwq)).setCell (p := ⟨g1, k * 2 + 1, none⟩) hg2 _⟩
              case measure => simp [intOf]; omega
            · obtain rfl : n5 = k := by omega
              have hB := HB0.out.trans ((HB2.out.trans (hbel.mono hW2)).mono HB0.out.size)
              have HBig : Hid (BigR wq w.heap.size wq.heap.size (.agg #[.int .i64 b.roots, .slice B1 n1 e1, .slice B2 n2 e2, .int .i64 M, .slice B4 n4 e4, .slice B5 n5 e5]) (leB b)) := Lib.hid (by
                have h := (hL.here.wide (show w.heap.size ≤ w2.heap.size by omega) (Nat.le_refl _)).face b.roots M
                have hm := le_mix b M
                rw [HL1.out, HL5.out, HE.out, Int.toNat_natCast, HM.out] at hm
                have hb := h.big
                dsimp only at hb
                rw [show (mixW (fun _ l => leF b l) n5 (mixL (fun _ _ l => leF b l) n1 0 b)).nodes.length = n1 by (simp only [mixW, mixL, List.length_mapIdx]; exact HL1.out), show (mixW (fun _ l => leF b l) n5 (mixL (fun _ _ l => leF b l) n1 0 b)).sites.length = n2 from HL2.out, show (mixW (fun _ l => leF b l) n5 (mixL (fun _ _ l => leF b l) n1 0 b)).outer.length = n4 from HL4.out, show (mixW (fun _ l => leF b l) n5 (mixL (fun _ _ l => leF b l) n1 0 b)).inner.length = n5 by (simp only [mixW, mixL, List.length_mapIdx]; exact HL5.out)] at hb
                exact hm ▸ hb)
              have HBl := Lib.hid hB
              have HBx5 := Lib.hid (HBx0.out.below (HB2.out.trans (hbel.mono hW2)) (show w.heap.size + 1 < W.heap.size by omega))
              clear hL hbo hbel hB
              obtain ⟨z0, z1, z2, z3, z4, z5⟩ := HBx5.out.get
              have f0 := World.rowIs.frozen HBx5.out 0
              have f1 := World.rowIs.frozen HBx5.out 1
              have f2 := World.rowIs.frozen HBx5.out 2
              have f3 := World.rowIs.frozen HBx5.out 3
              have f4 := World.rowIs.frozen HBx5.out 4
              have f5 := World.rowIs.frozen HBx5.out 5
              go_wp2_with fail
              have hbig := (sets6_big HBx5.out HBig.out (.int .i64 b.roots) (.slice B1 n1 e1) (.slice B2 n2 e2) (.int .i64 M) (.slice B4 n4 e4) (.slice B5 n5 e5)).here
              have hbel := sets6_below HBl.out (show w.heap.size ≤ w.heap.size + 1 from Nat.le_succ _) (.int .i64 b.roots) (.slice B1 n1 e1) (.slice B2 n2 e2) (.int .i64 M) (.slice B4 n4 e4) (.slice B5 n5 e5)
              unfold sets6 at hbig hbel
              exact bodyPost_ret (v := .agg #[.int .i64 b.roots, .slice B1 n1 e1, .slice B2 n2 e2, .int .i64 M, .slice B4 n4 e4, .slice B5 n5 e5]) (by simp [results, Try.results59, go_sem, z0, z1, z2, z3, z4, z5]) rfl ⟨_, rfl, hbig, hbel⟩
end Go.Proofs.Ytifialdkjnmfoab.les
end

section
namespace Go.Proofs.Ytifialdkjnmfoab.lez
open kit bg sg opn strs only hb sig isig un over gn nm inn ht gd im pt marks eqs hc hi hw hn rs br bm bw cf lf ib isa lawb lw cl rt chd pts psp idl has pm sb wb mb rl ed rnp lep rnm tp rn ow ln les
open Go.RowKit
set_option linter.unusedVariables false
set_option maxRecDepth 20000 in
set_option maxHeartbeats 3200000 in
theorem sLe_any (A : Option Addr) (n c : Nat) (cs : List Ctl) (v : Value) (b : Big) (w : World) (hC : CtlsAt w w.heap.size A n cs) (hn : n ≤ 1048576) (hs : ∀ c ∈ cs, c.name.size ≤ 1048576) (hv : BigAt w w.heap.size v b) (hS : BigS b) (hw : BigW b) (hN : NilV v) :
    Calls Try.prog 18 #[.slice A n c, v] w (BigPost (bigB cs b) (leR cs b) w) := by
  have hNb := hN
  obtain ⟨A1, n1, c1, A2, n2, c2, A4, n4, c4, A5, n5, c5, rfl, h1, h2, h4, h5⟩ := hv
  have hnil := hN.get
  have hbx := (Below.refl w.heap.size w).alloc (Nat.le_refl _) (.cells #[.int .i64 b.roots, .slice A1 n1 c1, .slice A2 n2 c2, .int .i64 b.edges, .slice A4 n4 c4, .slice A5 n5 c5] 34)
  have HBoxI : Hid (BoxAt (w.alloc (.cells #[.int .i64 b.roots, .slice A1 n1 c1, .slice A2 n2 c2, .int .i64 b.edges, .slice A4 n4 c4, .slice A5 n5 c5] 34)) w.heap.size 34 (.int .i64 b.roots) (.slice A1 n1 c1) (.slice A2 n2 c2) (.int .i64 b.edges) (.slice A4 n4 c4) (.slice A5 n5 c5)) := Lib.hid (six_new w _ _ _ _ _ _ _)
  obtain ⟨W0, hW0⟩ : ∃ W, w.alloc (.cells #[.int .i64 b.roots, .slice A1 n1 c1, .slice A2 n2 c2, .int .i64 b.edges, .slice A4 n4 c4, .slice A5 n5 c5] 34) = W := ⟨_, rfl⟩
  have hWz0 : W0.heap.size = w.heap.size + 1 := by rw [← hW0]; simp
  rw [hW0] at hbx HBoxI
  have hb0 := (Below.refl W0.heap.size W0).alloc (Nat.le_refl _) (.cells #[.int .i64 0, .slice none 0 0, .slice none 0 0, .int .i64 0, .slice none 0 0, .slice none 0 0] 34)
  have HBx0 : Hid (BoxAt (W0.alloc (.cells #[.int .i64 0, .slice none 0 0, .slice none 0 0, .int .i64 0, .slice none 0 0, .slice none 0 0] 34)) W0.heap.size 34 (.int .i64 0) (.slice none 0 0) (.slice none 0 0) (.int .i64 0) (.slice none 0 0) (.slice none 0 0)) := Lib.hid (six_new W0 _ _ _ _ _ _ _)
  have HBox := Lib.hid (HBoxI.out.on hb0)
  obtain ⟨W, hW⟩ : ∃ W, W0.alloc (.cells #[.int .i64 0, .slice none 0 0, .slice none 0 0, .int .i64 0, .slice none 0 0, .slice none 0 0] 34) = W := ⟨_, rfl⟩
  have hWz : W.heap.size = w.heap.size + 1 + 1 := by rw [← hW]; simp; exact hWz0
  rw [hW] at hb0 HBx0 HBox
  rw [hWz0] at HBx0
  have HWq0 := Lib.hid hW0
  have HWq := Lib.hid hW
  have HB0 := Lib.hid (hbx.trans (hb0.mono hbx.size))
  have HWz := Lib.hid hWz
  have hVW : BigAt W W.heap.size (.agg #[.int .i64 b.roots, .slice A1 n1 c1, .slice A2 n2 c2, .int .i64 b.edges, .slice A4 n4 c4, .slice A5 n5 c5]) b := BigAt.wide (BigAt.below ⟨_, _, _, _, _, _, _, _, _, _, _, _, rfl, h1, h2, h4, h5⟩ HB0.out) HB0.out.size
  clear hW0 hW hb0 hWz hWz0 hbx HBoxI hN
  have C := l2Good_any A n c cs _ b W ((hC.below HB0.out).wide HB0.out.size) hVW hn hs hS hw
  have hsW : w.heap.size + 1 + 1 ≤ W.heap.size := by rw [HWz.out]; exact Nat.le_refl _
  obtain ⟨x0, x1, x2, x3, x4, x5⟩ := HBox.out.get
  clear hVW hs
  cases hq : bigB cs b with
  | false =>
    rw [hq] at C
    have HR := Lib.hid (leR_no hq)
    clear hq
    go_enter Try.func18, Try.ntmps18
    go_wp2_with fail
    rw [HWq0.out, HWq.out]
    go_wp2_with fail
    refine C.mono ?_
    rintro e w1 ⟨rfl, hb⟩
    have hb1 := HB0.out.trans (hb.mono HB0.out.size)
    have HBx1 := Lib.hid (HBx0.out.on hb)
    clear hb C x0 x1 x2 x3 x4 x5
    obtain ⟨z0, z1, z2, z3, z4, z5⟩ := HBx1.out.get
    have f0 := World.rowIs.frozen HBx1.out 0
    have f1 := World.rowIs.frozen HBx1.out 1
    have f2 := World.rowIs.frozen HBx1.out 2
    have f3 := World.rowIs.frozen HBx1.out 3
    have f4 := World.rowIs.frozen HBx1.out 4
    have f5 := World.rowIs.frozen HBx1.out 5
    go_wp2_with fail
    refine bodyPost_ret (v := .tuple #[.agg #[.int .i64 0, .slice none 0 0, .slice none 0 0, .int .i64 0, .slice none 0 0, .slice none 0 0], .bool false]) (by simp [results, Try.results18, go_sem, z0, z1, z2, z3, z4, z5]) rfl ⟨_, rfl, by rw [HR.out]; exact BigR.zero, sets6_below hb1 (by omega) _ _ _ _ _ _⟩
  | true =>
    rw [hq] at C
    have HQ := Lib.hid hq
    clear hq
    go_enter Try.func18, Try.ntmps18
    go_wp2_with fail
    rw [HWq0.out, HWq.out]
    go_wp2_with fail
    refine C.mono ?_
    rintro e w1 ⟨rfl, hb⟩
    have hb1 := HB0.out.trans (hb.mono HB0.out.size)
    have HB1 := Lib.hid hb1
    have HBx1 := Lib.hid (HBx0.out.on hb)
    have HBox1 := Lib.hid (HBox.out.on hb)
    have hsz1 : w.heap.size + 1 + 1 ≤ w1.heap.size := Nat.le_trans hsW hb.size
    clear hb hb1 C x0 x1 x2 x3 x4 x5 HBx0 HBox
    have hVw1 : BigAt w1 w1.heap.size (.agg #[.int .i64 b.roots, .slice A1 n1 c1, .slice A2 n2 c2, .int .i64 b.edges, .slice A4 n4 c4, .slice A5 n5 c5]) b := BigAt.wide (BigAt.below ⟨_, _, _, _, _, _, _, _, _, _, _, _, rfl, h1, h2, h4, h5⟩ HB1.out) HB1.out.size
    have HC := Lib.hid (slf_any _ cs b w1 hVw1 hNb HQ.out)
    have HR : Hid (leR cs b = leB b) := Lib.hid (leR_yes HQ.out)
    obtain ⟨x0, x1, x2, x3, x4, x5⟩ := HBox1.out.get
    clear hVw1 h1 h2 h4 h5 hnil hNb hC hn hS hw
    go_wp2_with fail
    refine HC.out.mono ?_
    rintro e w3 ⟨v3, rfl, hr, hb⟩
    obtain ⟨Lb, hLb⟩ : ∃ Lb, leB b = Lb := ⟨_, rfl⟩
    rw [hLb] at hr HR
    obtain ⟨D1, g1, D2, g2, D4, g4, D5, g5, rfl⟩ := hr.shape
    have HB3 := Lib.hid (HB1.out.trans (hb.mono HB1.out.size))
    have HRZ := Lib.hid (hr.wide (lo' := w.heap.size) HB1.out.size (Nat.le_refl _))
    have HBxY := Lib.hid (HBx1.out.on hb)
    clear hr hb x0 x1 x2 x3 x4 x5
    obtain ⟨z0, z1, z2, z3, z4, z5⟩ := HBxY.out.get
    have f0 := World.rowIs.frozen HBxY.out 0
    have f1 := World.rowIs.frozen HBxY.out 1
    have f2 := World.rowIs.frozen HBxY.out 2
    have f3 := World.rowIs.frozen HBxY.out 3
    have f4 := World.rowIs.frozen HBxY.out 4
    have f5 := World.rowIs.frozen HBxY.out 5
    go_wp2_with fail
    have hbig := (sets6_big HBxY.out HRZ.out (.int .i64 Lb.roots) (.slice D1 Lb.nodes.length g1) (.slice D2 Lb.sites.length g2) (.int .i64 Lb.edges) (.slice D4 Lb.outer.length g4) (.slice D5 Lb.inner.length g5)).here
    have hbel := sets6_below HB3.out (Nat.le_succ _) (.int .i64 Lb.roots) (.slice D1 Lb.nodes.length g1) (.slice D2 Lb.sites.length g2) (.int .i64 Lb.edges) (.slice D4 Lb.outer.length g4) (.slice D5 Lb.inner.length g5)
    unfold sets6 at hbig hbel
    refine bodyPost_ret (v := .tuple #[.agg #[.int .i64 Lb.roots, .slice D1 Lb.nodes.length g1, .slice D2 Lb.sites.length g2, .int .i64 Lb.edges, .slice D4 Lb.outer.length g4, .slice D5 Lb.inner.length g5], .bool true]) (by simp [results, Try.results18, go_sem, z0, z1, z2, z3, z4, z5]) rfl ⟨_, rfl, by rw [HR.out]; exact hbig, hbel⟩

end Go.Proofs.Ytifialdkjnmfoab.lez
end

section
namespace Go.Proofs.Ytifialdkjnmfoab.lei
open kit bg sg opn strs only hb sig isig un over gn nm inn ht gd im pt marks eqs hc hi hw hn rs br bm bw cf lf ib isa lawb lw cl rt chd pts psp idl bs ln rl ed lep
open Go.RowKit
set_option linter.unusedVariables false
set_option maxRecDepth 20000 in
set_option maxHeartbeats 1600000 in
theorem leC_any (A : Option Addr) (m c : Nat) (b : Big) (l : Int) (β : Nat) (w : World) (B : Nat) (hI : IntsAt w B A m (sel (idleP b) b.edges.toNat)) (hbx : w.cell? ⟨β, 0, none⟩ = some (.slice A m c)) (hm : m ≤ 24) (hl : 0 ≤ l ∧ l ≤ 100) :
    Calls Try.prog 61 #[.int .i64 l, .pointer (some ⟨β, 0, none⟩)] w fun e w' => e = .returned (.int .i64 (leF b l)) ∧ Below w.heap.size w w' := by
  have HF := Lib.hid (fun (p : Nat) (h : PosP (sel (idleP b) b.edges.toNat) l p) => leF_pos hl.1 h)
  have CB := bins_any A m c _ l w _ hI (by omega) (sel_asc (idleP b) b.edges.toNat)
  have HLn := Lib.hid hI.len
  have hl0 := hl.1
  have hl1 := hl.2
  clear hI hl
  go_enter Try.func61, Try.ntmps61
  go_wp2_with fail
  refine CB.mono ?_
  rintro e w1 ⟨⟨p, q, rfl, hp⟩, hb⟩
  have hpm : p ≤ m := by have := hp.1; have := HLn.out; omega
  have HE := Lib.hid (HF.out p hp)
  clear hp CB hbx
  go_wp2_with fail
  go_ret
  exact ⟨by rw [HE.out]; rfl, hb⟩

set_option maxRecDepth 20000 in
set_option maxHeartbeats 3200000 in
theorem iLe_any (A : Option Addr) (n c : Nat) (cs : List Ctl) (v : Value) (b : Big) (w : World) (hC : CtlsAt w w.heap.size A n cs) (hn : n ≤ 1048576) (hs : ∀ c ∈ cs, c.name.size ≤ 1048576) (hv : BigAt w w.heap.size v b) (hS : BigS b) (hw : BigW b) (hN : NilV v) :
    Calls Try.prog 19 #[.slice A n c, v] w (BigPost (bigB cs b) (leR cs b) w) := by
  have hVb := hv
  have hNb := hN
  obtain ⟨A1, n1, c1, A2, n2, c2, A4, n4, c4, A5, n5, c5, rfl, h1, h2, h4, h5⟩ := hv
  have hnil := hN.get
  have hbx := (Below.refl w.heap.size w).alloc (Nat.le_refl _) (.cells #[.int .i64 b.roots, .slice A1 n1 c1, .slice A2 n2 c2, .int .i64 b.edges, .slice A4 n4 c4, .slice A5 n5 c5] 34)
  have HBoxI : Hid (BoxAt (w.alloc (.cells #[.int .i64 b.roots, .slice A1 n1 c1, .slice A2 n2 c2, .int .i64 b.edges, .slice A4 n4 c4, .slice A5 n5 c5] 34)) w.heap.size 34 (.int .i64 b.roots) (.slice A1 n1 c1) (.slice A2 n2 c2) (.int .i64 b.edges) (.slice A4 n4 c4) (.slice A5 n5 c5)) := Lib.hid (six_new w _ _ _ _ _ _ _)
  obtain ⟨W0, hW0⟩ : ∃ W, w.alloc (.cells #[.int .i64 b.roots, .slice A1 n1 c1, .slice A2 n2 c2, .int .i64 b.edges, .slice A4 n4 c4, .slice A5 n5 c5] 34) = W := ⟨_, rfl⟩
  have hWz0 : W0.heap.size = w.heap.size + 1 := by rw [← hW0]; simp
  rw [hW0] at hbx HBoxI
  have hb0 := (Below.refl W0.heap.size W0).alloc (Nat.le_refl _) (.cells #[.int .i64 0, .slice none 0 0, .slice none 0 0, .int .i64 0, .slice none 0 0, .slice none 0 0] 34)
  have HBx0 : Hid (BoxAt (W0.alloc (.cells #[.int .i64 0, .slice none 0 0, .slice none 0 0, .int .i64 0, .slice none 0 0, .slice none 0 0] 34)) W0.heap.size 34 (.int .i64 0) (.slice none 0 0) (.slice none 0 0) (.int .i64 0) (.slice none 0 0) (.slice none 0 0)) := Lib.hid (six_new W0 _ _ _ _ _ _ _)
  have HBox := Lib.hid (HBoxI.out.on hb0)
  obtain ⟨W, hW⟩ : ∃ W, W0.alloc (.cells #[.int .i64 0, .slice none 0 0, .slice none 0 0, .int .i64 0, .slice none 0 0, .slice none 0 0] 34) = W := ⟨_, rfl⟩
  have hWz : W.heap.size = w.heap.size + 1 + 1 := by rw [← hW]; simp; exact hWz0
  rw [hW] at hb0 HBx0 HBox
  rw [hWz0] at HBx0
  have HWq0 := Lib.hid hW0
  have HWq := Lib.hid hW
  have HB0 := Lib.hid (hbx.trans (hb0.mono hbx.size))
  have HWz := Lib.hid hWz
  have hVW : BigAt W W.heap.size (.agg #[.int .i64 b.roots, .slice A1 n1 c1, .slice A2 n2 c2, .int .i64 b.edges, .slice A4 n4 c4, .slice A5 n5 c5]) b := BigAt.wide (BigAt.below ⟨_, _, _, _, _, _, _, _, _, _, _, _, rfl, h1, h2, h4, h5⟩ HB0.out) HB0.out.size
  clear hW0 hW hb0 hWz hWz0 hbx HBoxI hN
  have C := ide_any A n c cs _ b W ((hC.below HB0.out).wide HB0.out.size) hVW hn hs hS hw
  have hsW : w.heap.size + 1 + 1 ≤ W.heap.size := by rw [HWz.out]; exact Nat.le_refl _
  obtain ⟨x0, x1, x2, x3, x4, x5⟩ := HBox.out.get
  clear hVW hs
  obtain ⟨zs, hzs⟩ : ∃ zs, ieR cs b = zs := ⟨_, rfl⟩
  rw [hzs] at C
  cases hq : bigB cs b with
  | false =>
    rw [hq] at C
    have HR := Lib.hid (leR_no hq)
    clear hq hzs
    go_enter Try.func19, Try.ntmps19
    go_wp2_with fail
    rw [HWq0.out, HWq.out]
    go_wp2_with fail
    refine C.mono ?_
    rintro e w1 ⟨⟨Ai, m, ci, rfl, hi⟩, hb⟩
    have hb1 := HB0.out.trans (hb.mono HB0.out.size)
    have HBx1 := Lib.hid (HBx0.out.on hb)
    have hb2 := (Below.refl w1.heap.size w1).alloc (Nat.le_refl _) (.cells #[.slice Ai m ci] 24)
    have HBx2 := Lib.hid (HBx1.out.on hb2)
    have HB2 := Lib.hid (hb1.trans (hb2.mono hb1.size))
    clear hb C x0 x1 x2 x3 x4 x5 hi hb2 HBx1 hb1
    obtain ⟨z0, z1, z2, z3, z4, z5⟩ := HBx2.out.get
    have f0 := World.rowIs.frozen HBx2.out 0
    have f1 := World.rowIs.frozen HBx2.out 1
    have f2 := World.rowIs.frozen HBx2.out 2
    have f3 := World.rowIs.frozen HBx2.out 3
    have f4 := World.rowIs.frozen HBx2.out 4
    have f5 := World.rowIs.frozen HBx2.out 5
    go_wp2_with fail
    refine bodyPost_ret (v := .tuple #[.agg #[.int .i64 0, .slice none 0 0, .slice none 0 0, .int .i64 0, .slice none 0 0, .slice none 0 0], .bool false]) (by simp [results, Try.results19, go_sem, z0, z1, z2, z3, z4, z5]) rfl ⟨_, rfl, by rw [HR.out]; exact BigR.zero, sets6_below HB2.out (by omega) _ _ _ _ _ _⟩
  | true =>
    rw [hq] at C
    have HQ := Lib.hid hq
    have HR := Lib.hid (leR_yes hq)
    rw [ieR_yes hq] at hzs
    have HZ := Lib.hid hzs
    have hz := sizes_of (big_of hq).2.1
    have hlen := sel_len (idleP b) b.edges.toNat
    clear hq hzs
    go_enter Try.func19, Try.ntmps19
    go_wp2_with fail
    rw [HWq0.out, HWq.out]
    go_wp2_with fail
    refine C.mono ?_
    rintro e w1 ⟨⟨Ai, m, ci, rfl, hi⟩, hb⟩
    have hb1 := HB0.out.trans (hb.mono HB0.out.size)
    have HM := Lib.hid (show (sel (idleP b) b.edges.toNat).length = m by have h := hi.len; rw [← HZ.out] at h; exact h)
    have hm24 : m ≤ 24 := by have h := HM.out; omega
    have hm8 : (m : Int) ≤ 8 := by have h := HM.out; omega
    have hbV := (Below.refl w1.heap.size w1).alloc (Nat.le_refl _) (.cells #[.slice Ai m ci] 24)
    have hcV : (w1.alloc (.cells #[.slice Ai m ci] 24)).cell? ⟨w1.heap.size, 0, none⟩ = some (.slice Ai m ci) := (row_new w1 #[.slice Ai m ci] 24 1 rfl).cell (by omega)
    obtain ⟨V, hV⟩ : ∃ V, w1.alloc (.cells #[.slice Ai m ci] 24) = V := ⟨_, rfl⟩
    have hVz : V.heap.size = w1.heap.size + 1 := by rw [← hV]; simp
    rw [hV] at hbV hcV
    have HVq := Lib.hid hV
    have HcV := Lib.hid hcV
    have HBx2 := Lib.hid ((HBx0.out.on hb).on hbV)
    have HBox2 := Lib.hid ((HBox.out.on hb).on hbV)
    have HB2 := Lib.hid (hb1.trans (hbV.mono hb1.size))
    have hszV : w.heap.size + 1 + 1 ≤ V.heap.size := by have := hb.size; omega
    have hIV : IntsAt V V.heap.size Ai m (sel (idleP b) b.edges.toNat) := by rw [HZ.out]; exact (hi.below hbV).wide hbV.size
    have happ : ∀ l : Int, (#[.int .i64 l] ++ #[.pointer (some ⟨w1.heap.size, 0, none⟩)] : Array Value) = #[.int .i64 l, .pointer (some ⟨w1.heap.size, 0, none⟩)] := fun l => by simp
    have hlw : w1.heap.size < V.heap.size := by omega
    have HTo : Hid (∀ (l : Int) (W : World), (0 ≤ l ∧ l ≤ 100) → Below V.heap.size V W → Calls Try.prog 61 (#[.int .i64 l] ++ #[.pointer (some ⟨w1.heap.size, 0, none⟩)]) W fun e W' => e = .returned (.int .i64 (leF b l)) ∧ Below W.heap.size W W') := Lib.hid (fun l W hl hbW => by
      rw [happ l]
      exact leC_any Ai m ci b l w1.heap.size W V.heap.size (hIV.below hbW) ((hbW.cell (p := ⟨w1.heap.size, 0, none⟩) hlw).trans hcV) hm24 hl)
    have HRel := Lib.hid (relinked_any 61 #[.pointer (some ⟨w1.heap.size, 0, none⟩)] (leF b) (fun l => 0 ≤ l ∧ l ≤ 100) (.agg #[.int .i64 b.roots, .slice A1 n1 c1, .slice A2 n2 c2, .int .i64 b.edges, .slice A4 n4 c4, .slice A5 n5 c5]) b V (enters_of Try.func61 (by kernel_rfl) rfl) HTo.out (BigAt.wide (BigAt.below hVb HB2.out) HB2.out.size) hS hNb (fun x hx l hl => big_link HQ.out hx hl) (fun x hx => big_wire HQ.out hx))
    have HE := Lib.hid (show (relB (leF b) b).roots = b.roots ∧ (relB (leF b) b).nodes.length = n1 ∧ (relB (leF b) b).sites.length = n2 ∧ (relB (leF b) b).edges = b.edges ∧ (relB (leF b) b).outer.length = n4 ∧ (relB (leF b) b).inner.length = n5 from ⟨rfl, by simp only [relB, List.length_map]; exact h1.1, h2.len, rfl, h4.strlen, by simp only [relB, List.length_map]; exact h5.1⟩)
    have he0 := hz.2.1.1
    have he1 := hz.2.1.2
    clear hb hb1 C x0 x1 x2 x3 x4 x5 hi hbV hV hVz hIV hcV h1 h2 h4 h5 hVb hNb hC hn hS hw hz hlen
    obtain ⟨x0, x1, x2, x3, x4, x5⟩ := HBox2.out.get
    rw [← HVq.out] at x0 x1 x2 x3 x4 x5
    go_wp2_with fail
    rw [HVq.out]
    refine HRel.out.mono ?_
    rintro e w3 ⟨v3, rfl, hr, hb⟩
    obtain ⟨D1, g1, D2, g2, D4, g4, D5, g5, rfl⟩ := hr.shape
    obtain ⟨e0, e1, e2, e3, e4, e5⟩ := HE.out
    rw [e0, e1, e2, e3, e4, e5] at hr
    rw [e0, e1, e2, e3, e4, e5]
    clear e0 e1 e2 e3 e4 e5
    have HB3 := Lib.hid (HB2.out.trans (hb.mono HB2.out.size))
    have hc3 := (hb.cell (p := ⟨w1.heap.size, 0, none⟩) hlw).trans HcV.out
    have hbX := (Below.refl w3.heap.size w3).alloc (Nat.le_refl _) (.cells #[.int .i64 b.roots, .slice D1 n1 g1, .slice D2 n2 g2, .int .i64 b.edges, .slice D4 n4 g4, .slice D5 n5 g5] 34)
    have hbY := (Below.refl w3.heap.size w3).alloc (Nat.le_refl _) (.cells #[.int .i64 b.roots, .slice D1 n1 g1, .slice D2 n2 g2, .int .i64 (b.edges - m), .slice D4 n4 g4, .slice D5 n5 g5] 34)
    have HX : Hid (BoxAt (w3.alloc (.cells #[.int .i64 b.roots, .slice D1 n1 g1, .slice D2 n2 g2, .int .i64 b.edges, .slice D4 n4 g4, .slice D5 n5 g5] 34)) w3.heap.size 34 (.int .i64 b.roots) (.slice D1 n1 g1) (.slice D2 n2 g2) (.int .i64 b.edges) (.slice D4 n4 g4) (.slice D5 n5 g5)) := Lib.hid (six_new w3 _ _ _ _ _ _ _)
    have HY : Hid (BoxAt (w3.alloc (.cells #[.int .i64 b.roots, .slice D1 n1 g1, .slice D2 n2 g2, .int .i64 (b.edges - m), .slice D4 n4 g4, .slice D5 n5 g5] 34)) w3.heap.size 34 (.int .i64 b.roots) (.slice D1 n1 g1) (.slice D2 n2 g2) (.int .i64 (b.edges - m)) (.slice D4 n4 g4) (.slice D5 n5 g5)) := Lib.hid (six_new w3 _ _ _ _ _ _ _)
    have hcX := (hbX.cell (p := ⟨w1.heap.size, 0, none⟩) (Nat.lt_of_lt_of_le hlw hb.size)).trans hc3
    have HBxY := Lib.hid ((HBx2.out.on hb).on hbY)
    have HRY := Lib.hid (((hr.on hbY).here).wide (lo' := w.heap.size) (by have := HB2.out.size; omega) (Nat.le_refl _))
    have HBY := Lib.hid (HB3.out.trans (hbY.mono HB3.out.size))
    obtain ⟨y0, y1, y2, y3, y4, y5⟩ := HX.out.get
    obtain ⟨q0, q1, q2, q3, q4, q5⟩ := HY.out.get
    obtain ⟨z0, z1, z2, z3, z4, z5⟩ := HBxY.out.get
    have f0 := World.rowIs.frozen HBxY.out 0
    have f1 := World.rowIs.frozen HBxY.out 1
    have f2 := World.rowIs.frozen HBxY.out 2
    have f3 := World.rowIs.frozen HBxY.out 3
    have f4 := World.rowIs.frozen HBxY.out 4
    have f5 := World.rowIs.frozen HBxY.out 5
    clear hr hb hbX hbY x0 x1 x2 x3 x4 x5
    have HM2 : Hid (leB b = ⟨(relB (leF b) b).roots, (relB (leF b) b).nodes, (relB (leF b) b).sites, b.edges - (m : Int), (relB (leF b) b).outer, (relB (leF b) b).inner⟩) := Lib.hid (by unfold leB; rw [HM.out])
    have HRZ := Lib.hid (HRY.out.edge (b.edges - m))
    rw [← HM2.out, ← HR.out] at HRZ
    go_wp2_with fail
    have hbig := (sets6_big HBxY.out HRZ.out (.int .i64 b.roots) (.slice D1 n1 g1) (.slice D2 n2 g2) (.int .i64 (b.edges - m)) (.slice D4 n4 g4) (.slice D5 n5 g5)).here
    have hbel := sets6_below HBY.out (Nat.le_succ _) (.int .i64 b.roots) (.slice D1 n1 g1) (.slice D2 n2 g2) (.int .i64 (b.edges - m)) (.slice D4 n4 g4) (.slice D5 n5 g5)
    unfold sets6 at hbig hbel
    refine bodyPost_ret (v := .tuple #[.agg #[.int .i64 b.roots, .slice D1 n1 g1, .slice D2 n2 g2, .int .i64 (b.edges - m), .slice D4 n4 g4, .slice D5 n5 g5], .bool true]) (by simp [results, Try.results19, go_sem, z0, z1, z2, z3, z4, z5]) rfl ⟨_, rfl, hbig, hbel⟩
end Go.Proofs.Ytifialdkjnmfoab.lei
end

section
namespace Go.Proofs.Ytifialdkjnmfoab.fnExactLeanOf
open kit bg opn strs sig isig hc only hb ht gd cf lawb rs marks hi br bm bw lw lep lei les lez
open Go.ChangeShapes Go.WideShapes Go.ChangeAt Go.RowKit
open Go.ChangeMaps (open_string shut_string)
set_option linter.unusedVariables false

set_option maxRecDepth 20000 in
set_option maxHeartbeats 6400000 in
theorem walk (A0 : Option Addr) (n0 c0 : Nat) (cs0 : List Ctl) (v1 : Value) (b1 : Big) (w : World) (h0 : CtlsAt w w.heap.size A0 n0 cs0) (hw0 : CtlsW cs0) (h1 : BigAt w w.heap.size v1 b1) (hw1 : BigW b1) :
    Calls Try.prog 4 #[.slice A0 n0 c0, v1] w fun e w' => e = .returned (.bool true) ∧ Below w.heap.size w w' := by
  have HA0 := Lib.hid h0
  clear h0
  have HL0 := Lib.hid HA0.out.1
  have HVW1 := Lib.hid hw1
  have HA1 := Lib.hid h1
  obtain ⟨A11, n11, c11, A21, n21, c21, A41, n41, c41, A51, n51, c51, rfl, -⟩ := h1
  have HBox1 : Hid (BoxAt (w.alloc (.cells #[.int .i64 b1.roots, .slice A11 n11 c11, .slice A21 n21 c21, .int .i64 b1.edges, .slice A41 n41 c41, .slice A51 n51 c51] 28)) w.heap.size 28 (.int .i64 b1.roots) (.slice A11 n11 c11) (.slice A21 n21 c21) (.int .i64 b1.edges) (.slice A41 n41 c41) (.slice A51 n51 c51)) := Lib.hid (six_new w _ _ _ _ _ _ _)
  have hbX := (Below.refl w.heap.size w).alloc (Nat.le_refl _) (.cells #[.int .i64 b1.roots, .slice A11 n11 c11, .slice A21 n21 c21, .int .i64 b1.edges, .slice A41 n41 c41, .slice A51 n51 c51] 28)
  obtain ⟨W0, hW⟩ : ∃ W, w.alloc (.cells #[.int .i64 b1.roots, .slice A11 n11 c11, .slice A21 n21 c21, .int .i64 b1.edges, .slice A41 n41 c41, .slice A51 n51 c51] 28) = W := ⟨_, rfl⟩
  have hWz0 : W0.heap.size = w.heap.size + 1 := by rw [← hW]; simp
  rw [hW] at HBox1 hbX
  have HWq0 := Lib.hid hW
  have HB0 := Lib.hid (hbX)
  clear hW hbX
  have HZ0 := Lib.hid hWz0
  have HK0 := Lib.hid HB0.out
  clear hWz0
  obtain ⟨w0, hWw⟩ : ∃ w0, W0 = w0 := ⟨_, rfl⟩
  rw [hWw] at HK0 HWq0 HZ0 HBox1
  clear hWw
  have HZw : Hid (w.heap.size ≤ w0.heap.size) := Lib.hid HK0.out.size
  go_enter Try.func4, Try.ntmps4
  go_wp2_with fail
  rw [HWq0.out]
  refine (szCS_any A0 n0 c0 cs0 1048576 _ _ ((HA0.out.below HK0.out).wide HK0.out.size) (Nat.le_refl _) (by omega) (by omega) hw0).mono ?_
  rintro e w1 ⟨r0, rfl, hr, hra0, hrb0, hb⟩
  have HZ_1 : Hid (w0.heap.size ≤ w1.heap.size) := Lib.hid hb.size
  have HKn := Lib.hid (HK0.out.trans (hb.mono HK0.out.size))
  clear HK0
  have HK0 := Lib.hid HKn.out
  clear HKn
  have HT := Lib.hid (HBox1.out.on hb)
  clear HBox1
  have HBox1 := Lib.hid HT.out
  clear HT
  clear hb
  by_cases hneg : r0 < 0
  · go_wp2_with fail
    go_ret
    exact ⟨rfl, HK0.out⟩
  have hpos0 : 0 ≤ r0 := by omega
  have HWt0 : Hid (r0 = 1048576 - (ctlsWt cs0 : Nat)) := Lib.hid (by omega)
  have hup0 : r0 ≤ 1048576 := by omega
  have hn0 : n0 ≤ 1048576 := by have := HL0.out; unfold ctlsWt at hr; omega
  have HS0 := Lib.hid (fun c (hc : c ∈ cs0) => show c.name.size ≤ 1048576 by have := sumBy_mem (fun c : Ctl => c.name.size) hc; unfold ctlsWt at hr; omega)
  clear hr hneg hra0 hrb0
  obtain ⟨x0, x1, x2, x3, x4, x5⟩ := HBox1.out.get
  go_wp2_with fail
  refine (szB_any _ b1 r0 _ _ ((HA1.out.below HK0.out).wide HK0.out.size) (Nat.le_refl _) (by omega) (by omega) HVW1.out).mono ?_
  rintro e w2 ⟨r1, rfl, hr, hra1, hrb1, hb⟩
  clear x0 x1 x2 x3 x4 x5
  have HZ_2 : Hid (w1.heap.size ≤ w2.heap.size) := Lib.hid hb.size
  have HKn := Lib.hid (HK0.out.trans (hb.mono HK0.out.size))
  clear HK0
  have HK0 := Lib.hid HKn.out
  clear HKn
  have HT := Lib.hid (HBox1.out.on hb)
  clear HBox1
  have HBox1 := Lib.hid HT.out
  clear HT
  clear hb
  by_cases hneg : r1 < 0
  · go_wp2_with fail
    go_ret
    exact ⟨rfl, HK0.out⟩
  have hpos1 : 0 ≤ r1 := by omega
  have HWt1 : Hid (r1 = r0 - (bigWt b1 : Nat)) := Lib.hid (by omega)
  have hup1 : r1 ≤ 1048576 := by omega
  have hwt1 : bigWt b1 ≤ 1048576 := by omega
  have HWT1 := Lib.hid hwt1
  have HBS1 := Lib.hid (bigS_of hwt1)
  clear hwt1
  clear hr hneg hra1 hrb1
  obtain ⟨q, hq⟩ : ∃ q, bigB cs0 b1 = q := ⟨_, rfl⟩
  obtain ⟨R0, hR0⟩ : ∃ r : Big, leR cs0 b1 = r := ⟨_, rfl⟩
  have hM0 : bigMk R0 ≤ 1048576 := by rw [← hR0]; exact le_len cs0 b1
  have HSp := Lib.hid (fun (A0 : Option Addr) (c0 : Nat) (v1 : Value) (w : World) (h0 : CtlsAt w w.heap.size A0 n0 cs0) (h1 : BigAt w w.heap.size v1 b1) (g1 : NilV v1) => hR0 ▸ hq ▸ sLe_any A0 n0 c0 cs0 v1 b1 w h0 hn0 HS0.out h1 HBS1.out HVW1.out g1)
  have HIm := Lib.hid (fun (A0 : Option Addr) (c0 : Nat) (v1 : Value) (w : World) (h0 : CtlsAt w w.heap.size A0 n0 cs0) (h1 : BigAt w w.heap.size v1 b1) (g1 : NilV v1) => hR0 ▸ hq ▸ iLe_any A0 n0 c0 cs0 v1 b1 w h0 hn0 HS0.out h1 HBS1.out HVW1.out g1)
  clear hq hR0
  obtain ⟨x1_0, x1_1, x1_2, x1_3, x1_4, x1_5⟩ := HBox1.out.get
  go_wp2_with fail
  go_cut [6, 7] from 27 to 34 (fun s6 s7 wx => GotBox w2 q R0 s6 s7 wx)
  case first =>
    have hkD := (Below.refl w2.heap.size w2).drew
    go_region_held3 (fun w' => (w'.cell? ⟨w.heap.size, 0, none⟩ = some (.int .i64 b1.roots) ∧ w'.cell? ⟨w.heap.size, 1, none⟩ = some (.slice A11 n11 c11) ∧ w'.cell? ⟨w.heap.size, 2, none⟩ = some (.slice A21 n21 c21) ∧ w'.cell? ⟨w.heap.size, 3, none⟩ = some (.int .i64 b1.edges) ∧ w'.cell? ⟨w.heap.size, 4, none⟩ = some (.slice A41 n41 c41) ∧ w'.cell? ⟨w.heap.size, 5, none⟩ = some (.slice A51 n51 c51))) (first | with_reducible exact (HBox1.out.on (((((((hkZ).setCell hβ _).setCell hβ _).setCell hβ _).setCell hβ _).setCell hβ _).setCell hβ _)).get | with_reducible exact (HBox1.out.on (((((((hkZ.alloc hkZ.size _).setCell hkZ.size _).setCell hkZ.size _).setCell hkZ.size _).setCell hkZ.size _).setCell hkZ.size _).setCell hkZ.size _)).get | with_reducible exact (HBox1.out.on hkZ).get | with_reducible exact (HBox1.out.on (hkZ.alloc hkZ.size _)).get | with_reducible exact (HBox1.out.on hkb1).get | with_reducible exact (HBox1.out.on (hkb1.alloc hkb1.size _)).get | with_reducible exact (HBox1.out.on hkb0).get | with_reducible exact (HBox1.out.on (hkb0.alloc hkb0.size _)).get | with_reducible exact (HBox1.out.on hkD).get | with_reducible exact (HBox1.out.on ((Below.refl w2.heap.size w2).alloc (Nat.le_refl _) _).drew).get)
      (first
       | (have hTest := hβ; go_at_call 11; refine (toB_any _ b1 _ ((HA1.out.below (HK0.out.trans (hkb0.mono HK0.out.size))).wide (HK0.out.trans (hkb0.mono HK0.out.size)).size) HBS1.out).mono ?_; rintro e ub1 ⟨Vb1, rfl, hob1, hb⟩; have hkb1 := hkb0.trans (hb.mono hkb0.size); have hob0 := hob0.on hb; have hrow := hrow.of_block (hb.block _ hrow.lt); clear hTest; clear hb)
       | (go_at_call 11; refine (toB_any _ b1 _ ((HA1.out.below (HK0.out.trans ((hkb0.alloc hkb0.size (.cells #[.int .i64 0, .slice none 0 0, .slice none 0 0, .int .i64 0, .slice none 0 0, .slice none 0 0] 34)).mono HK0.out.size))).wide (HK0.out.trans ((hkb0.alloc hkb0.size (.cells #[.int .i64 0, .slice none 0 0, .slice none 0 0, .int .i64 0, .slice none 0 0, .slice none 0 0] 34)).mono HK0.out.size)).size) HBS1.out).mono ?_; rintro e ub1 ⟨Vb1, rfl, hob1, hb⟩; have hkb1 := (hkb0.alloc hkb0.size (.cells #[.int .i64 0, .slice none 0 0, .slice none 0 0, .int .i64 0, .slice none 0 0, .slice none 0 0] 34)).trans (hb.mono (hkb0.alloc hkb0.size (.cells #[.int .i64 0, .slice none 0 0, .slice none 0 0, .int .i64 0, .slice none 0 0, .slice none 0 0] 34)).size); have hob0 := (hob0.on ((Below.refl _ _).alloc (Nat.le_refl _) (.cells #[.int .i64 0, .slice none 0 0, .slice none 0 0, .int .i64 0, .slice none 0 0, .slice none 0 0] 34))).on hb; have hβ := hkb0.size; have hrow := (six_new ub0 (.int .i64 0) (.slice none 0 0) (.slice none 0 0) (.int .i64 0) (.slice none 0 0) (.slice none 0 0) 34).of_block (hb.block _ (by simp)); clear hb)
       | (go_at_call 11; refine (toB_any _ b1 _ ((HA1.out.below (HK0.out.trans (hkb0.mono HK0.out.size))).wide (HK0.out.trans (hkb0.mono HK0.out.size)).size) HBS1.out).mono ?_; rintro e ub1 ⟨Vb1, rfl, hob1, hb⟩; have hkb1 := hkb0.trans (hb.mono hkb0.size); have hob0 := hob0.on hb; clear hb)
       | (go_at_call 10; refine (toCS_any A0 n0 c0 cs0 _ ((HA0.out.below (HK0.out.trans ((((Below.refl w2.heap.size w2).alloc (Nat.le_refl _) (.cells #[.int .i64 0, .slice none 0 0, .slice none 0 0, .int .i64 0, .slice none 0 0, .slice none 0 0] 34)).drew).mono HK0.out.size))).wide (HK0.out.trans ((((Below.refl w2.heap.size w2).alloc (Nat.le_refl _) (.cells #[.int .i64 0, .slice none 0 0, .slice none 0 0, .int .i64 0, .slice none 0 0, .slice none 0 0] 34)).drew).mono HK0.out.size)).size) hn0).mono ?_; rintro e ub0 ⟨Vb0, rfl, hob0, hb⟩; have hkb0 := (((Below.refl w2.heap.size w2).alloc (Nat.le_refl _) (.cells #[.int .i64 0, .slice none 0 0, .slice none 0 0, .int .i64 0, .slice none 0 0, .slice none 0 0] 34)).drew).trans (hb.mono (((Below.refl w2.heap.size w2).alloc (Nat.le_refl _) (.cells #[.int .i64 0, .slice none 0 0, .slice none 0 0, .int .i64 0, .slice none 0 0, .slice none 0 0] 34)).drew).size); have hβ := Nat.le_refl w2.heap.size; have hrow := (World.rowIs.drew (six_new w2 (.int .i64 0) (.slice none 0 0) (.slice none 0 0) (.int .i64 0) (.slice none 0 0) (.slice none 0 0) 34)).of_block (hb.block _ (by simp)); clear hb)
       | (go_at_call 10; refine (toCS_any A0 n0 c0 cs0 _ ((HA0.out.below (HK0.out.trans (hkD.mono HK0.out.size))).wide (HK0.out.trans (hkD.mono HK0.out.size)).size) hn0).mono ?_; rintro e ub0 ⟨Vb0, rfl, hob0, hb⟩; have hkb0 := hkD.trans (hb.mono hkD.size); clear hb)
       | (have hTest := hβ; go_at_call 18; refine (HSp.out _ _ _ _ hob0.here hob1.here (NilV.of_own hob1)).mono ?_; rintro e w3 ⟨vb0, rfl, hrb0, hb⟩; obtain ⟨B1b0, d1b0, B2b0, d2b0, B4b0, d4b0, B5b0, d5b0, rfl⟩ := hrb0.shape; have hkZ := hkb1.trans (hb.mono hkb1.size); have hrb0 := hrb0.wide (lo' := w2.heap.size) hkb1.size (Nat.le_refl _); have hrow := hrow.of_block (hb.block _ hrow.lt); clear hTest; obtain ⟨z0, z1, z2, z3, z4, z5⟩ := row6 hrow; have f0 := hrow.frozen 0; have f1 := hrow.frozen 1; have f2 := hrow.frozen 2; have f3 := hrow.frozen 3; have f4 := hrow.frozen 4; have f5 := hrow.frozen 5; clear hb)
       | (go_at_call 18; refine (HSp.out _ _ _ _ (hob0.on ((Below.refl _ _).alloc (Nat.le_refl _) (.cells #[.int .i64 0, .slice none 0 0, .slice none 0 0, .int .i64 0, .slice none 0 0, .slice none 0 0] 34))).here (hob1.on ((Below.refl _ _).alloc (Nat.le_refl _) (.cells #[.int .i64 0, .slice none 0 0, .slice none 0 0, .int .i64 0, .slice none 0 0, .slice none 0 0] 34))).here (NilV.of_own (hob1.on ((Below.refl _ _).alloc (Nat.le_refl _) (.cells #[.int .i64 0, .slice none 0 0, .slice none 0 0, .int .i64 0, .slice none 0 0, .slice none 0 0] 34))))).mono ?_; rintro e w3 ⟨vb0, rfl, hrb0, hb⟩; obtain ⟨B1b0, d1b0, B2b0, d2b0, B4b0, d4b0, B5b0, d5b0, rfl⟩ := hrb0.shape; have hkZ := (hkb1.alloc hkb1.size (.cells #[.int .i64 0, .slice none 0 0, .slice none 0 0, .int .i64 0, .slice none 0 0, .slice none 0 0] 34)).trans (hb.mono (hkb1.alloc hkb1.size (.cells #[.int .i64 0, .slice none 0 0, .slice none 0 0, .int .i64 0, .slice none 0 0, .slice none 0 0] 34)).size); have hrb0 := hrb0.wide (lo' := w2.heap.size) (hkb1.alloc hkb1.size (.cells #[.int .i64 0, .slice none 0 0, .slice none 0 0, .int .i64 0, .slice none 0 0, .slice none 0 0] 34)).size (Nat.le_refl _); have hβ := hkb1.size; have hrow := (six_new ub1 (.int .i64 0) (.slice none 0 0) (.slice none 0 0) (.int .i64 0) (.slice none 0 0) (.slice none 0 0) 34).of_block (hb.block _ (by simp)); obtain ⟨z0, z1, z2, z3, z4, z5⟩ := row6 hrow; have f0 := hrow.frozen 0; have f1 := hrow.frozen 1; have f2 := hrow.frozen 2; have f3 := hrow.frozen 3; have f4 := hrow.frozen 4; have f5 := hrow.frozen 5; clear hb)
       | (go_at_call 18; refine (HSp.out _ _ _ _ hob0.here hob1.here (NilV.of_own hob1)).mono ?_; rintro e w3 ⟨vb0, rfl, hrb0, hb⟩; obtain ⟨B1b0, d1b0, B2b0, d2b0, B4b0, d4b0, B5b0, d5b0, rfl⟩ := hrb0.shape; have hkZ := hkb1.trans (hb.mono hkb1.size); have hrb0 := hrb0.wide (lo' := w2.heap.size) hkb1.size (Nat.le_refl _); clear hb))
    all_goals (go_wp2_with fail; go_meet)
    all_goals (first | with_reducible exact got_late q hrb0 (Nat.le_refl _) hkZ | with_reducible exact got_early q hrow hβ hrb0 (Nat.le_refl _) hkZ)
  case rest =>
  clear x1_0 x1_1 x1_2 x1_3 x1_4 x1_5
  obtain ⟨w3, hwc⟩ : ∃ x, wc = x := ⟨_, rfl⟩
  rw [hwc] at hcut ⊢
  clear hwc
  obtain ⟨βb, B1b0, d1b0, B2b0, d2b0, B4b0, d4b0, B5b0, d5b0, rfl, rfl, hβb, hbox, hrb0, hb⟩ := hcut
  have HZ_3 : Hid (w2.heap.size ≤ w3.heap.size) := Lib.hid hb.size
  have HKn := Lib.hid (HK0.out.trans (hb.mono HK0.out.size))
  clear HK0
  have HK0 := Lib.hid HKn.out
  clear HKn
  have HT := Lib.hid (HBox1.out.on hb)
  clear HBox1
  have HBox1 := Lib.hid HT.out
  clear HT
  clear hb
  have HBxb := Lib.hid hbox
  clear hbox
  have HRb := Lib.hid hrb0
  clear hrb0
  have Hβb := Lib.hid (And.intro hβb (World.rowIs.lt HBxb.out))
  clear hβb
  go_wp2_with fail
  refine (toCS_any A0 n0 c0 cs0 _ ((HA0.out.below HK0.out).wide HK0.out.size) hn0).mono ?_
  rintro e w4 ⟨X0, rfl, ho, hb⟩
  have HZ_4 : Hid (w3.heap.size ≤ w4.heap.size) := Lib.hid hb.size
  have HKn := Lib.hid (HK0.out.trans (hb.mono HK0.out.size))
  clear HK0
  have HK0 := Lib.hid HKn.out
  clear HKn
  have HT := Lib.hid (HBox1.out.on hb)
  clear HBox1
  have HBox1 := Lib.hid HT.out
  clear HT
  have HT := Lib.hid (HBxb.out.on hb)
  clear HBxb
  have HBxb := Lib.hid HT.out
  clear HT
  have HT := Lib.hid (HRb.out.on hb)
  clear HRb
  have HRb := Lib.hid HT.out
  clear HT
  clear hb
  have HX0 := Lib.hid ho
  clear ho
  obtain ⟨x0, x1, x2, x3, x4, x5⟩ := HBox1.out.get
  go_wp2_with fail
  clear x0 x1 x2 x3 x4 x5
  refine (toB_any _ b1 _ ((HA1.out.below HK0.out).wide HK0.out.size) HBS1.out).mono ?_
  rintro e w5 ⟨X1, rfl, ho, hb⟩
  have HZ_5 : Hid (w4.heap.size ≤ w5.heap.size) := Lib.hid hb.size
  have HKn := Lib.hid (HK0.out.trans (hb.mono HK0.out.size))
  clear HK0
  have HK0 := Lib.hid HKn.out
  clear HKn
  have HT := Lib.hid (HBox1.out.on hb)
  clear HBox1
  have HBox1 := Lib.hid HT.out
  clear HT
  have HT := Lib.hid (HBxb.out.on hb)
  clear HBxb
  have HBxb := Lib.hid HT.out
  clear HT
  have HT := Lib.hid (HRb.out.on hb)
  clear HRb
  have HRb := Lib.hid HT.out
  clear HT
  have HT := Lib.hid (HX0.out.on hb)
  clear HX0
  have HX0 := Lib.hid HT.out
  clear HT
  clear hb
  have HX1 := Lib.hid ho
  obtain ⟨y11, y21, y41, y51, rfl, -⟩ := ho
  have hbX := (Below.refl w5.heap.size w5).alloc (Nat.le_refl _) (.cells #[.int .i64 b1.roots, .slice (some ⟨y11, 0, none⟩) b1.nodes.length b1.nodes.length, .slice (some ⟨y21, 0, none⟩) b1.sites.length b1.sites.length, .int .i64 b1.edges, .slice (some ⟨y41, 0, none⟩) b1.outer.length b1.outer.length, .slice (some ⟨y51, 0, none⟩) b1.inner.length b1.inner.length] 34)
  go_wp2_with fail
  have HBy1 : Hid (BoxAt (w5.alloc (.cells #[.int .i64 b1.roots, .slice (some ⟨y11, 0, none⟩) b1.nodes.length b1.nodes.length, .slice (some ⟨y21, 0, none⟩) b1.sites.length b1.sites.length, .int .i64 b1.edges, .slice (some ⟨y41, 0, none⟩) b1.outer.length b1.outer.length, .slice (some ⟨y51, 0, none⟩) b1.inner.length b1.inner.length] 34)) w5.heap.size 34 (.int .i64 b1.roots) (.slice (some ⟨y11, 0, none⟩) b1.nodes.length b1.nodes.length) (.slice (some ⟨y21, 0, none⟩) b1.sites.length b1.sites.length) (.int .i64 b1.edges) (.slice (some ⟨y41, 0, none⟩) b1.outer.length b1.outer.length) (.slice (some ⟨y51, 0, none⟩) b1.inner.length b1.inner.length)) := Lib.hid (six_new w5 _ _ _ _ _ _ _)
  obtain ⟨w6, hwn⟩ : ∃ x, w5.alloc (.cells #[.int .i64 b1.roots, .slice (some ⟨y11, 0, none⟩) b1.nodes.length b1.nodes.length, .slice (some ⟨y21, 0, none⟩) b1.sites.length b1.sites.length, .int .i64 b1.edges, .slice (some ⟨y41, 0, none⟩) b1.outer.length b1.outer.length, .slice (some ⟨y51, 0, none⟩) b1.inner.length b1.inner.length] 34) = x := ⟨_, rfl⟩
  have HZs_6 : Hid (w5.heap.size < w6.heap.size) := Lib.hid (by rw [← hwn]; simp)
  rw [hwn] at HBy1 hbX ⊢
  clear hwn
  have HZ_6 : Hid (w5.heap.size ≤ w6.heap.size) := Lib.hid hbX.size
  have HKn := Lib.hid (HK0.out.trans (hbX.mono HK0.out.size))
  clear HK0
  have HK0 := Lib.hid HKn.out
  clear HKn
  have HT := Lib.hid (HBox1.out.on hbX)
  clear HBox1
  have HBox1 := Lib.hid HT.out
  clear HT
  have HT := Lib.hid (HBxb.out.on hbX)
  clear HBxb
  have HBxb := Lib.hid HT.out
  clear HT
  have HT := Lib.hid (HRb.out.on hbX)
  clear HRb
  have HRb := Lib.hid HT.out
  clear HT
  have HT := Lib.hid (HX0.out.on hbX)
  clear HX0
  have HX0 := Lib.hid HT.out
  clear HT
  have HT := Lib.hid (HX1.out.on hbX)
  clear HX1
  have HX1 := Lib.hid HT.out
  clear HT
  clear hbX
  refine (HIm.out _ _ _ _ HX0.out.here HX1.out.here (NilV.of_own HX1.out)).mono ?_
  rintro e w7 ⟨vg0, rfl, hrg0, hb⟩; obtain ⟨B1g0, d1g0, B2g0, d2g0, B4g0, d4g0, B5g0, d5g0, rfl⟩ := hrg0.shape
  have HZ_7 : Hid (w6.heap.size ≤ w7.heap.size) := Lib.hid hb.size
  have HKn := Lib.hid (HK0.out.trans (hb.mono HK0.out.size))
  clear HK0
  have HK0 := Lib.hid HKn.out
  clear HKn
  have HT := Lib.hid (HBox1.out.on hb)
  clear HBox1
  have HBox1 := Lib.hid HT.out
  clear HT
  have HT := Lib.hid (HBxb.out.on hb)
  clear HBxb
  have HBxb := Lib.hid HT.out
  clear HT
  have HT := Lib.hid (HRb.out.on hb)
  clear HRb
  have HRb := Lib.hid HT.out
  clear HT
  have HT := Lib.hid (HX0.out.on hb)
  clear HX0
  have HX0 := Lib.hid HT.out
  clear HT
  have HT := Lib.hid (HX1.out.on hb)
  clear HX1
  have HX1 := Lib.hid HT.out
  clear HT
  have HT := Lib.hid (HBy1.out.on hb)
  clear HBy1
  have HBy1 := Lib.hid HT.out
  clear HT
  clear hb
  have HRg := Lib.hid hrg0
  clear hrg0
  have hbX := (Below.refl w7.heap.size w7).alloc (Nat.le_refl _) (.cells #[.int .i64 R0.roots, .slice B1g0 R0.nodes.length d1g0, .slice B2g0 R0.sites.length d2g0, .int .i64 R0.edges, .slice B4g0 R0.outer.length d4g0, .slice B5g0 R0.inner.length d5g0] 34)
  obtain ⟨y0, y1, y2, y3, y4, y5⟩ := (HBxb.out.on hbX).get
  go_wp2_with fail
  clear y0 y1 y2 y3 y4 y5
  have HBxg : Hid (BoxAt (w7.alloc (.cells #[.int .i64 R0.roots, .slice B1g0 R0.nodes.length d1g0, .slice B2g0 R0.sites.length d2g0, .int .i64 R0.edges, .slice B4g0 R0.outer.length d4g0, .slice B5g0 R0.inner.length d5g0] 34)) w7.heap.size 34 (.int .i64 R0.roots) (.slice B1g0 R0.nodes.length d1g0) (.slice B2g0 R0.sites.length d2g0) (.int .i64 R0.edges) (.slice B4g0 R0.outer.length d4g0) (.slice B5g0 R0.inner.length d5g0)) := Lib.hid (six_new w7 _ _ _ _ _ _ _)
  obtain ⟨w8, hwn⟩ : ∃ x, w7.alloc (.cells #[.int .i64 R0.roots, .slice B1g0 R0.nodes.length d1g0, .slice B2g0 R0.sites.length d2g0, .int .i64 R0.edges, .slice B4g0 R0.outer.length d4g0, .slice B5g0 R0.inner.length d5g0] 34) = x := ⟨_, rfl⟩
  have HZs_8 : Hid (w7.heap.size < w8.heap.size) := Lib.hid (by rw [← hwn]; simp)
  rw [hwn] at HBxg hbX ⊢
  clear hwn
  have HZ_8 : Hid (w7.heap.size ≤ w8.heap.size) := Lib.hid hbX.size
  have HKn := Lib.hid (HK0.out.trans (hbX.mono HK0.out.size))
  clear HK0
  have HK0 := Lib.hid HKn.out
  clear HKn
  have HT := Lib.hid (HBox1.out.on hbX)
  clear HBox1
  have HBox1 := Lib.hid HT.out
  clear HT
  have HT := Lib.hid (HBxb.out.on hbX)
  clear HBxb
  have HBxb := Lib.hid HT.out
  clear HT
  have HT := Lib.hid (HRb.out.on hbX)
  clear HRb
  have HRb := Lib.hid HT.out
  clear HT
  have HT := Lib.hid (HX0.out.on hbX)
  clear HX0
  have HX0 := Lib.hid HT.out
  clear HT
  have HT := Lib.hid (HX1.out.on hbX)
  clear HX1
  have HX1 := Lib.hid HT.out
  clear HT
  have HT := Lib.hid (HBy1.out.on hbX)
  clear HBy1
  have HBy1 := Lib.hid HT.out
  clear HT
  have HT := Lib.hid (HRg.out.on hbX)
  clear HRg
  have HRg := Lib.hid HT.out
  clear HT
  clear hbX
  refine (eqBR_any _ _ R0 _ _ _ _ _ HRg.out HRb.out (by have := HZ0.out; have := HZw.out; have := HZ_1.out; have := HZ_2.out; have := HZ_3.out; have := Hβb.out; have := HZ_4.out; have := HZ_5.out; have := HZs_6.out; have := HZ_6.out; have := HZ_7.out; have := HZs_8.out; have := HZ_8.out; omega) (by have := HZ0.out; have := HZw.out; have := HZ_1.out; have := HZ_2.out; have := HZ_3.out; have := Hβb.out; have := HZ_4.out; have := HZ_5.out; have := HZs_6.out; have := HZ_6.out; have := HZ_7.out; have := HZs_8.out; have := HZ_8.out; omega) hM0).mono ?_
  rintro e w9 ⟨rfl, hb⟩
  have HZ_9 : Hid (w8.heap.size ≤ w9.heap.size) := Lib.hid hb.size
  have HKn := Lib.hid (HK0.out.trans (hb.mono HK0.out.size))
  clear HK0
  have HK0 := Lib.hid HKn.out
  clear HKn
  have HT := Lib.hid (HBox1.out.on hb)
  clear HBox1
  have HBox1 := Lib.hid HT.out
  clear HT
  have HT := Lib.hid (HBxb.out.on hb)
  clear HBxb
  have HBxb := Lib.hid HT.out
  clear HT
  have HT := Lib.hid (HRb.out.on hb)
  clear HRb
  have HRb := Lib.hid HT.out
  clear HT
  have HT := Lib.hid (HX0.out.on hb)
  clear HX0
  have HX0 := Lib.hid HT.out
  clear HT
  have HT := Lib.hid (HX1.out.on hb)
  clear HX1
  have HX1 := Lib.hid HT.out
  clear HT
  have HT := Lib.hid (HBy1.out.on hb)
  clear HBy1
  have HBy1 := Lib.hid HT.out
  clear HT
  have HT := Lib.hid (HRg.out.on hb)
  clear HRg
  have HRg := Lib.hid HT.out
  clear HT
  have HT := Lib.hid (HBxg.out.on hb)
  clear HBxg
  have HBxg := Lib.hid HT.out
  clear HT
  clear hb
  go_wp2_with fail
  refine (toCS_any A0 n0 c0 cs0 _ ((HA0.out.below HK0.out).wide HK0.out.size) hn0).mono ?_
  rintro e w10 ⟨Y0, rfl, ho, hb⟩
  have HZ_10 : Hid (w9.heap.size ≤ w10.heap.size) := Lib.hid hb.size
  have HKn := Lib.hid (HK0.out.trans (hb.mono HK0.out.size))
  clear HK0
  have HK0 := Lib.hid HKn.out
  clear HKn
  have HT := Lib.hid (HBox1.out.on hb)
  clear HBox1
  have HBox1 := Lib.hid HT.out
  clear HT
  have HT := Lib.hid (HBxb.out.on hb)
  clear HBxb
  have HBxb := Lib.hid HT.out
  clear HT
  have HT := Lib.hid (HRb.out.on hb)
  clear HRb
  have HRb := Lib.hid HT.out
  clear HT
  have HT := Lib.hid (HX0.out.on hb)
  clear HX0
  have HX0 := Lib.hid HT.out
  clear HT
  have HT := Lib.hid (HX1.out.on hb)
  clear HX1
  have HX1 := Lib.hid HT.out
  clear HT
  have HT := Lib.hid (HBy1.out.on hb)
  clear HBy1
  have HBy1 := Lib.hid HT.out
  clear HT
  have HT := Lib.hid (HRg.out.on hb)
  clear HRg
  have HRg := Lib.hid HT.out
  clear HT
  have HT := Lib.hid (HBxg.out.on hb)
  clear HBxg
  have HBxg := Lib.hid HT.out
  clear HT
  clear hb
  have HYc := Lib.hid ho
  clear ho
  go_wp2_with fail
  refine (eqCS_any _ _ _ _ _ cs0 _ _ _ HX0.out.here HYc.out.here (Nat.le_refl _) (Nat.le_refl _) hn0).mono ?_
  rintro e w11 ⟨rfl, hb⟩
  clear HYc
  have HZ_11 : Hid (w10.heap.size ≤ w11.heap.size) := Lib.hid hb.size
  have HKn := Lib.hid (HK0.out.trans (hb.mono HK0.out.size))
  clear HK0
  have HK0 := Lib.hid HKn.out
  clear HKn
  have HT := Lib.hid (HBox1.out.on hb)
  clear HBox1
  have HBox1 := Lib.hid HT.out
  clear HT
  have HT := Lib.hid (HBxb.out.on hb)
  clear HBxb
  have HBxb := Lib.hid HT.out
  clear HT
  have HT := Lib.hid (HRb.out.on hb)
  clear HRb
  have HRb := Lib.hid HT.out
  clear HT
  have HT := Lib.hid (HX0.out.on hb)
  clear HX0
  have HX0 := Lib.hid HT.out
  clear HT
  have HT := Lib.hid (HX1.out.on hb)
  clear HX1
  have HX1 := Lib.hid HT.out
  clear HT
  have HT := Lib.hid (HBy1.out.on hb)
  clear HBy1
  have HBy1 := Lib.hid HT.out
  clear HT
  have HT := Lib.hid (HRg.out.on hb)
  clear HRg
  have HRg := Lib.hid HT.out
  clear HT
  have HT := Lib.hid (HBxg.out.on hb)
  clear HBxg
  have HBxg := Lib.hid HT.out
  clear HT
  clear hb
  obtain ⟨x0, x1, x2, x3, x4, x5⟩ := HBox1.out.get
  obtain ⟨y0, y1, y2, y3, y4, y5⟩ := HBy1.out.get
  go_wp2_with fail
  have hkD := (Below.refl w11.heap.size w11).drew
  go_region_held3 (fun w' => (w'.cell? ⟨w.heap.size, 0, none⟩ = some (.int .i64 b1.roots) ∧ w'.cell? ⟨w.heap.size, 1, none⟩ = some (.slice A11 n11 c11) ∧ w'.cell? ⟨w.heap.size, 2, none⟩ = some (.slice A21 n21 c21) ∧ w'.cell? ⟨w.heap.size, 3, none⟩ = some (.int .i64 b1.edges) ∧ w'.cell? ⟨w.heap.size, 4, none⟩ = some (.slice A41 n41 c41) ∧ w'.cell? ⟨w.heap.size, 5, none⟩ = some (.slice A51 n51 c51)) ∧ (w'.cell? ⟨w5.heap.size, 0, none⟩ = some (.int .i64 b1.roots) ∧ w'.cell? ⟨w5.heap.size, 1, none⟩ = some (.slice (some ⟨y11, 0, none⟩) b1.nodes.length b1.nodes.length) ∧ w'.cell? ⟨w5.heap.size, 2, none⟩ = some (.slice (some ⟨y21, 0, none⟩) b1.sites.length b1.sites.length) ∧ w'.cell? ⟨w5.heap.size, 3, none⟩ = some (.int .i64 b1.edges) ∧ w'.cell? ⟨w5.heap.size, 4, none⟩ = some (.slice (some ⟨y41, 0, none⟩) b1.outer.length b1.outer.length) ∧ w'.cell? ⟨w5.heap.size, 5, none⟩ = some (.slice (some ⟨y51, 0, none⟩) b1.inner.length b1.inner.length))) (first | with_reducible exact ⟨(HBox1.out.on hkb).get, (HBy1.out.on hkb).get⟩ | with_reducible exact ⟨(HBox1.out.on hka).get, (HBy1.out.on hka).get⟩ | with_reducible exact ⟨(HBox1.out.on hkD).get, (HBy1.out.on hkD).get⟩)
    (first
     | (go_at_call 11; refine (toB_any _ b1 _ ((HA1.out.below (HK0.out.trans (hkD.mono HK0.out.size))).wide (HK0.out.trans (hkD.mono HK0.out.size)).size) HBS1.out).mono ?_; rintro e ua ⟨va, rfl, hoa, hb⟩; have hka := hkD.trans (hb.mono hkD.size); have hoy := HX1.out.on hka; clear hb)
     | (go_at_call 13; refine (eqB_any _ _ b1 _ _ _ hoy.here hoa.here (Nat.le_refl _) (Nat.le_refl _) HVW1.out HBS1.out.2.2.2.1).mono ?_; rintro e w12 ⟨rfl, hb⟩; have hkb := hka.trans (hb.mono hka.size); clear hb))
  clear x0 x1 x2 x3 x4 x5 y0 y1 y2 y3 y4 y5
  clear hkD hka hoy hoa
  have hb := hkb
  clear hkb
  have HZ_12 : Hid (w11.heap.size ≤ w12.heap.size) := Lib.hid hb.size
  have HKn := Lib.hid (HK0.out.trans (hb.mono HK0.out.size))
  clear HK0
  have HK0 := Lib.hid HKn.out
  clear HKn
  have HT := Lib.hid (HBox1.out.on hb)
  clear HBox1
  have HBox1 := Lib.hid HT.out
  clear HT
  have HT := Lib.hid (HBxb.out.on hb)
  clear HBxb
  have HBxb := Lib.hid HT.out
  clear HT
  have HT := Lib.hid (HRb.out.on hb)
  clear HRb
  have HRb := Lib.hid HT.out
  clear HT
  have HT := Lib.hid (HX0.out.on hb)
  clear HX0
  have HX0 := Lib.hid HT.out
  clear HT
  have HT := Lib.hid (HX1.out.on hb)
  clear HX1
  have HX1 := Lib.hid HT.out
  clear HT
  have HT := Lib.hid (HBy1.out.on hb)
  clear HBy1
  have HBy1 := Lib.hid HT.out
  clear HT
  have HT := Lib.hid (HRg.out.on hb)
  clear HRg
  have HRg := Lib.hid HT.out
  clear HT
  have HT := Lib.hid (HBxg.out.on hb)
  clear HBxg
  have HBxg := Lib.hid HT.out
  clear HT
  clear hb
  have hkp0 : (0 : Int) < 1 := by omega
  go_wp2_with fail
  refine (markCO_any _ _ _ cs0 1 _ w3.heap.size w4.heap.size HX0.out (by omega) (by have := HWt0.out; have := HWt1.out; omega) hn0).mono ?_
  rintro e w13 ⟨rfl, hq⟩
  clear HX0
  have HZ_13 : Hid (w12.heap.size ≤ w13.heap.size) := Lib.hid hq.size
  have HKn := Lib.hid (HK0.out.trans ((hq.below (show w3.heap.size ≤ w12.heap.size by have := HZ0.out; have := HZw.out; have := HZ_1.out; have := HZ_2.out; have := HZ_3.out; have := Hβb.out; have := HZ_4.out; have := HZ_5.out; have := HZs_6.out; have := HZ_6.out; have := HZ_7.out; have := HZs_8.out; have := HZ_8.out; have := HZ_9.out; have := HZ_10.out; have := HZ_11.out; have := HZ_12.out; have := HZ_13.out; omega)).mono (show w.heap.size ≤ w3.heap.size by have := HZ0.out; have := HZw.out; have := HZ_1.out; have := HZ_2.out; have := HZ_3.out; have := Hβb.out; have := HZ_4.out; have := HZ_5.out; have := HZs_6.out; have := HZ_6.out; have := HZ_7.out; have := HZs_8.out; have := HZ_8.out; have := HZ_9.out; have := HZ_10.out; have := HZ_11.out; have := HZ_12.out; have := HZ_13.out; omega)))
  clear HK0
  have HK0 := Lib.hid HKn.out
  clear HKn
  have HT := Lib.hid (HBox1.out.far hq (by have := HZ0.out; have := HZw.out; have := HZ_1.out; have := HZ_2.out; have := HZ_3.out; have := Hβb.out; have := HZ_4.out; have := HZ_5.out; have := HZs_6.out; have := HZ_6.out; have := HZ_7.out; have := HZs_8.out; have := HZ_8.out; have := HZ_9.out; have := HZ_10.out; have := HZ_11.out; have := HZ_12.out; have := HZ_13.out; omega))
  clear HBox1
  have HBox1 := Lib.hid HT.out
  clear HT
  have HT := Lib.hid (HBxb.out.far hq (by have := HZ0.out; have := HZw.out; have := HZ_1.out; have := HZ_2.out; have := HZ_3.out; have := Hβb.out; have := HZ_4.out; have := HZ_5.out; have := HZs_6.out; have := HZ_6.out; have := HZ_7.out; have := HZs_8.out; have := HZ_8.out; have := HZ_9.out; have := HZ_10.out; have := HZ_11.out; have := HZ_12.out; have := HZ_13.out; omega))
  clear HBxb
  have HBxb := Lib.hid HT.out
  clear HT
  have HT := Lib.hid (HRb.out.far hq (by have := HZ0.out; have := HZw.out; have := HZ_1.out; have := HZ_2.out; have := HZ_3.out; have := Hβb.out; have := HZ_4.out; have := HZ_5.out; have := HZs_6.out; have := HZ_6.out; have := HZ_7.out; have := HZs_8.out; have := HZ_8.out; have := HZ_9.out; have := HZ_10.out; have := HZ_11.out; have := HZ_12.out; have := HZ_13.out; omega))
  clear HRb
  have HRb := Lib.hid HT.out
  clear HT
  have HT := Lib.hid (HX1.out.far hq (by have := HZ0.out; have := HZw.out; have := HZ_1.out; have := HZ_2.out; have := HZ_3.out; have := Hβb.out; have := HZ_4.out; have := HZ_5.out; have := HZs_6.out; have := HZ_6.out; have := HZ_7.out; have := HZs_8.out; have := HZ_8.out; have := HZ_9.out; have := HZ_10.out; have := HZ_11.out; have := HZ_12.out; have := HZ_13.out; omega))
  clear HX1
  have HX1 := Lib.hid HT.out
  clear HT
  have HT := Lib.hid (HBy1.out.far hq (by have := HZ0.out; have := HZw.out; have := HZ_1.out; have := HZ_2.out; have := HZ_3.out; have := Hβb.out; have := HZ_4.out; have := HZ_5.out; have := HZs_6.out; have := HZ_6.out; have := HZ_7.out; have := HZs_8.out; have := HZ_8.out; have := HZ_9.out; have := HZ_10.out; have := HZ_11.out; have := HZ_12.out; have := HZ_13.out; omega))
  clear HBy1
  have HBy1 := Lib.hid HT.out
  clear HT
  have HT := Lib.hid (HRg.out.far hq (by have := HZ0.out; have := HZw.out; have := HZ_1.out; have := HZ_2.out; have := HZ_3.out; have := Hβb.out; have := HZ_4.out; have := HZ_5.out; have := HZs_6.out; have := HZ_6.out; have := HZ_7.out; have := HZs_8.out; have := HZ_8.out; have := HZ_9.out; have := HZ_10.out; have := HZ_11.out; have := HZ_12.out; have := HZ_13.out; omega))
  clear HRg
  have HRg := Lib.hid HT.out
  clear HT
  have HT := Lib.hid (HBxg.out.far hq (by have := HZ0.out; have := HZw.out; have := HZ_1.out; have := HZ_2.out; have := HZ_3.out; have := Hβb.out; have := HZ_4.out; have := HZ_5.out; have := HZs_6.out; have := HZ_6.out; have := HZ_7.out; have := HZs_8.out; have := HZ_8.out; have := HZ_9.out; have := HZ_10.out; have := HZ_11.out; have := HZ_12.out; have := HZ_13.out; omega))
  clear HBxg
  have HBxg := Lib.hid HT.out
  clear HT
  clear hq
  obtain ⟨kr0, hkr⟩ : ∃ k : Int, 1 + 3 * (n0 : Int) = k := ⟨_, rfl⟩
  rw [hkr]
  have HKv1 : Hid (kr0 = 1 + 3 * (n0 : Int)) := Lib.hid hkr.symm
  have hkp1 : 0 < kr0 := by omega
  clear hkr
  have HNc0 : Hid (n0 ≤ ctlsWt cs0) := Lib.hid (by have := HL0.out; unfold ctlsWt; omega)
  obtain ⟨x0, x1, x2, x3, x4, x5⟩ := HBy1.out.get
  go_wp2_with fail
  clear x0 x1 x2 x3 x4 x5
  refine (markB2_any _ b1 kr0 _ w4.heap.size w5.heap.size HX1.out (by have := HZ0.out; have := HZw.out; have := HZ_1.out; have := HZ_2.out; have := HZ_3.out; have := Hβb.out; have := HZ_4.out; have := HZ_5.out; have := HZs_6.out; have := HZ_6.out; have := HZ_7.out; have := HZs_8.out; have := HZ_8.out; have := HZ_9.out; have := HZ_10.out; have := HZ_11.out; have := HZ_12.out; have := HZ_13.out; omega) (by omega) (by have := HNc0.out; have := HKv1.out; have := HWt0.out; have := HWt1.out; omega) HWT1.out).mono ?_
  rintro e w14 ⟨kr1, rfl, hkp, hkb, hq⟩
  clear HX1
  have HZ_14 : Hid (w13.heap.size ≤ w14.heap.size) := Lib.hid hq.size
  have HKn := Lib.hid (HK0.out.trans ((hq.below (show w4.heap.size ≤ w13.heap.size by have := HZ0.out; have := HZw.out; have := HZ_1.out; have := HZ_2.out; have := HZ_3.out; have := Hβb.out; have := HZ_4.out; have := HZ_5.out; have := HZs_6.out; have := HZ_6.out; have := HZ_7.out; have := HZs_8.out; have := HZ_8.out; have := HZ_9.out; have := HZ_10.out; have := HZ_11.out; have := HZ_12.out; have := HZ_13.out; have := HZ_14.out; omega)).mono (show w.heap.size ≤ w4.heap.size by have := HZ0.out; have := HZw.out; have := HZ_1.out; have := HZ_2.out; have := HZ_3.out; have := Hβb.out; have := HZ_4.out; have := HZ_5.out; have := HZs_6.out; have := HZ_6.out; have := HZ_7.out; have := HZs_8.out; have := HZ_8.out; have := HZ_9.out; have := HZ_10.out; have := HZ_11.out; have := HZ_12.out; have := HZ_13.out; have := HZ_14.out; omega)))
  clear HK0
  have HK0 := Lib.hid HKn.out
  clear HKn
  have HT := Lib.hid (HBox1.out.far hq (by have := HZ0.out; have := HZw.out; have := HZ_1.out; have := HZ_2.out; have := HZ_3.out; have := Hβb.out; have := HZ_4.out; have := HZ_5.out; have := HZs_6.out; have := HZ_6.out; have := HZ_7.out; have := HZs_8.out; have := HZ_8.out; have := HZ_9.out; have := HZ_10.out; have := HZ_11.out; have := HZ_12.out; have := HZ_13.out; have := HZ_14.out; omega))
  clear HBox1
  have HBox1 := Lib.hid HT.out
  clear HT
  have HT := Lib.hid (HBxb.out.far hq (by have := HZ0.out; have := HZw.out; have := HZ_1.out; have := HZ_2.out; have := HZ_3.out; have := Hβb.out; have := HZ_4.out; have := HZ_5.out; have := HZs_6.out; have := HZ_6.out; have := HZ_7.out; have := HZs_8.out; have := HZ_8.out; have := HZ_9.out; have := HZ_10.out; have := HZ_11.out; have := HZ_12.out; have := HZ_13.out; have := HZ_14.out; omega))
  clear HBxb
  have HBxb := Lib.hid HT.out
  clear HT
  have HT := Lib.hid (HRb.out.far hq (by have := HZ0.out; have := HZw.out; have := HZ_1.out; have := HZ_2.out; have := HZ_3.out; have := Hβb.out; have := HZ_4.out; have := HZ_5.out; have := HZs_6.out; have := HZ_6.out; have := HZ_7.out; have := HZs_8.out; have := HZ_8.out; have := HZ_9.out; have := HZ_10.out; have := HZ_11.out; have := HZ_12.out; have := HZ_13.out; have := HZ_14.out; omega))
  clear HRb
  have HRb := Lib.hid HT.out
  clear HT
  have HT := Lib.hid (HBy1.out.far hq (by have := HZ0.out; have := HZw.out; have := HZ_1.out; have := HZ_2.out; have := HZ_3.out; have := Hβb.out; have := HZ_4.out; have := HZ_5.out; have := HZs_6.out; have := HZ_6.out; have := HZ_7.out; have := HZs_8.out; have := HZ_8.out; have := HZ_9.out; have := HZ_10.out; have := HZ_11.out; have := HZ_12.out; have := HZ_13.out; have := HZ_14.out; omega))
  clear HBy1
  have HBy1 := Lib.hid HT.out
  clear HT
  have HT := Lib.hid (HRg.out.far hq (by have := HZ0.out; have := HZw.out; have := HZ_1.out; have := HZ_2.out; have := HZ_3.out; have := Hβb.out; have := HZ_4.out; have := HZ_5.out; have := HZs_6.out; have := HZ_6.out; have := HZ_7.out; have := HZs_8.out; have := HZ_8.out; have := HZ_9.out; have := HZ_10.out; have := HZ_11.out; have := HZ_12.out; have := HZ_13.out; have := HZ_14.out; omega))
  clear HRg
  have HRg := Lib.hid HT.out
  clear HT
  have HT := Lib.hid (HBxg.out.far hq (by have := HZ0.out; have := HZw.out; have := HZ_1.out; have := HZ_2.out; have := HZ_3.out; have := Hβb.out; have := HZ_4.out; have := HZ_5.out; have := HZs_6.out; have := HZ_6.out; have := HZ_7.out; have := HZs_8.out; have := HZ_8.out; have := HZ_9.out; have := HZ_10.out; have := HZ_11.out; have := HZ_12.out; have := HZ_13.out; have := HZ_14.out; omega))
  clear HBxg
  have HBxg := Lib.hid HT.out
  clear HT
  clear hq
  have HKv2 : Hid (kr1 ≤ kr0 + 2 * (bigWt b1 : Nat)) := Lib.hid hkb
  have hkp2 := hkp
  clear hkp hkb
  obtain ⟨x0, x1, x2, x3, x4, x5⟩ := HBxg.out.get
  obtain ⟨y0, y1, y2, y3, y4, y5⟩ := HBxb.out.get
  go_wp2_with fail
  clear x0 x1 x2 x3 x4 x5 y0 y1 y2 y3 y4 y5
  refine (eqBR_any _ _ R0 _ _ _ _ _ HRg.out HRb.out (by have := HZ0.out; have := HZw.out; have := HZ_1.out; have := HZ_2.out; have := HZ_3.out; have := Hβb.out; have := HZ_4.out; have := HZ_5.out; have := HZs_6.out; have := HZ_6.out; have := HZ_7.out; have := HZs_8.out; have := HZ_8.out; have := HZ_9.out; have := HZ_10.out; have := HZ_11.out; have := HZ_12.out; have := HZ_13.out; have := HZ_14.out; omega) (by have := HZ0.out; have := HZw.out; have := HZ_1.out; have := HZ_2.out; have := HZ_3.out; have := Hβb.out; have := HZ_4.out; have := HZ_5.out; have := HZs_6.out; have := HZ_6.out; have := HZ_7.out; have := HZs_8.out; have := HZ_8.out; have := HZ_9.out; have := HZ_10.out; have := HZ_11.out; have := HZ_12.out; have := HZ_13.out; have := HZ_14.out; omega) hM0).mono ?_
  rintro e w15 ⟨rfl, hb⟩
  have HZ_15 : Hid (w14.heap.size ≤ w15.heap.size) := Lib.hid hb.size
  have HKn := Lib.hid (HK0.out.trans (hb.mono HK0.out.size))
  clear HK0
  have HK0 := Lib.hid HKn.out
  clear HKn
  have HT := Lib.hid (HBox1.out.on hb)
  clear HBox1
  have HBox1 := Lib.hid HT.out
  clear HT
  have HT := Lib.hid (HBxb.out.on hb)
  clear HBxb
  have HBxb := Lib.hid HT.out
  clear HT
  have HT := Lib.hid (HRb.out.on hb)
  clear HRb
  have HRb := Lib.hid HT.out
  clear HT
  have HT := Lib.hid (HBy1.out.on hb)
  clear HBy1
  have HBy1 := Lib.hid HT.out
  clear HT
  have HT := Lib.hid (HRg.out.on hb)
  clear HRg
  have HRg := Lib.hid HT.out
  clear HT
  have HT := Lib.hid (HBxg.out.on hb)
  clear HBxg
  have HBxg := Lib.hid HT.out
  clear HT
  clear hb
  obtain ⟨x0, x1, x2, x3, x4, x5⟩ := HBxg.out.get
  go_wp2_with fail
  clear x0 x1 x2 x3 x4 x5
  refine (markBR_any _ R0 1 _ w6.heap.size w7.heap.size HRg.out (by have := HZ0.out; have := HZw.out; have := HZ_1.out; have := HZ_2.out; have := HZ_3.out; have := Hβb.out; have := HZ_4.out; have := HZ_5.out; have := HZs_6.out; have := HZ_6.out; have := HZ_7.out; have := HZs_8.out; have := HZ_8.out; have := HZ_9.out; have := HZ_10.out; have := HZ_11.out; have := HZ_12.out; have := HZ_13.out; have := HZ_14.out; have := HZ_15.out; omega) (by omega) (by omega) hM0).mono ?_
  rintro e w16 ⟨rfl, hm, hq⟩
  clear HRg
  have HZ_16 : Hid (w15.heap.size ≤ w16.heap.size) := Lib.hid hq.size
  have HKn := Lib.hid (HK0.out.trans ((hq.below (show w6.heap.size ≤ w15.heap.size by have := HZ0.out; have := HZw.out; have := HZ_1.out; have := HZ_2.out; have := HZ_3.out; have := Hβb.out; have := HZ_4.out; have := HZ_5.out; have := HZs_6.out; have := HZ_6.out; have := HZ_7.out; have := HZs_8.out; have := HZ_8.out; have := HZ_9.out; have := HZ_10.out; have := HZ_11.out; have := HZ_12.out; have := HZ_13.out; have := HZ_14.out; have := HZ_15.out; have := HZ_16.out; omega)).mono (show w.heap.size ≤ w6.heap.size by have := HZ0.out; have := HZw.out; have := HZ_1.out; have := HZ_2.out; have := HZ_3.out; have := Hβb.out; have := HZ_4.out; have := HZ_5.out; have := HZs_6.out; have := HZ_6.out; have := HZ_7.out; have := HZs_8.out; have := HZ_8.out; have := HZ_9.out; have := HZ_10.out; have := HZ_11.out; have := HZ_12.out; have := HZ_13.out; have := HZ_14.out; have := HZ_15.out; have := HZ_16.out; omega)))
  clear HK0
  have HK0 := Lib.hid HKn.out
  clear HKn
  have HT := Lib.hid (HBox1.out.far hq (by have := HZ0.out; have := HZw.out; have := HZ_1.out; have := HZ_2.out; have := HZ_3.out; have := Hβb.out; have := HZ_4.out; have := HZ_5.out; have := HZs_6.out; have := HZ_6.out; have := HZ_7.out; have := HZs_8.out; have := HZ_8.out; have := HZ_9.out; have := HZ_10.out; have := HZ_11.out; have := HZ_12.out; have := HZ_13.out; have := HZ_14.out; have := HZ_15.out; have := HZ_16.out; omega))
  clear HBox1
  have HBox1 := Lib.hid HT.out
  clear HT
  have HT := Lib.hid (HBxb.out.far hq (by have := HZ0.out; have := HZw.out; have := HZ_1.out; have := HZ_2.out; have := HZ_3.out; have := Hβb.out; have := HZ_4.out; have := HZ_5.out; have := HZs_6.out; have := HZ_6.out; have := HZ_7.out; have := HZs_8.out; have := HZ_8.out; have := HZ_9.out; have := HZ_10.out; have := HZ_11.out; have := HZ_12.out; have := HZ_13.out; have := HZ_14.out; have := HZ_15.out; have := HZ_16.out; omega))
  clear HBxb
  have HBxb := Lib.hid HT.out
  clear HT
  have HT := Lib.hid (HRb.out.far hq (by have := HZ0.out; have := HZw.out; have := HZ_1.out; have := HZ_2.out; have := HZ_3.out; have := Hβb.out; have := HZ_4.out; have := HZ_5.out; have := HZs_6.out; have := HZ_6.out; have := HZ_7.out; have := HZs_8.out; have := HZ_8.out; have := HZ_9.out; have := HZ_10.out; have := HZ_11.out; have := HZ_12.out; have := HZ_13.out; have := HZ_14.out; have := HZ_15.out; have := HZ_16.out; omega))
  clear HRb
  have HRb := Lib.hid HT.out
  clear HT
  have HT := Lib.hid (HBy1.out.far hq (by have := HZ0.out; have := HZw.out; have := HZ_1.out; have := HZ_2.out; have := HZ_3.out; have := Hβb.out; have := HZ_4.out; have := HZ_5.out; have := HZs_6.out; have := HZ_6.out; have := HZ_7.out; have := HZs_8.out; have := HZ_8.out; have := HZ_9.out; have := HZ_10.out; have := HZ_11.out; have := HZ_12.out; have := HZ_13.out; have := HZ_14.out; have := HZ_15.out; have := HZ_16.out; omega))
  clear HBy1
  have HBy1 := Lib.hid HT.out
  clear HT
  have HT := Lib.hid (HBxg.out.far hq (by have := HZ0.out; have := HZw.out; have := HZ_1.out; have := HZ_2.out; have := HZ_3.out; have := Hβb.out; have := HZ_4.out; have := HZ_5.out; have := HZs_6.out; have := HZ_6.out; have := HZ_7.out; have := HZs_8.out; have := HZ_8.out; have := HZ_9.out; have := HZ_10.out; have := HZ_11.out; have := HZ_12.out; have := HZ_13.out; have := HZ_14.out; have := HZ_15.out; have := HZ_16.out; omega))
  clear HBxg
  have HBxg := Lib.hid HT.out
  clear HT
  clear hq
  have HMk := Lib.hid hm
  clear hm
  obtain ⟨mm, hmm⟩ : ∃ k : Int, 1 + (bigMk R0 : Int) = k := ⟨_, rfl⟩
  rw [hmm]
  have Hmm := Lib.hid hmm
  have hmp : 0 < mm := by omega
  clear hmm
  obtain ⟨x0, x1, x2, x3, x4, x5⟩ := HBxg.out.get
  go_wp2_with fail
  clear x0 x1 x2 x3 x4 x5
  refine (heldBR_any _ R0 1 _ w6.heap.size w7.heap.size HMk.out (by omega) (by omega) hM0).mono ?_
  rintro e w17 ⟨rfl, hb⟩
  rw [Hmm.out]
  have HZ_17 : Hid (w16.heap.size ≤ w17.heap.size) := Lib.hid hb.size
  have HKn := Lib.hid (HK0.out.trans (hb.mono HK0.out.size))
  clear HK0
  have HK0 := Lib.hid HKn.out
  clear HKn
  have HT := Lib.hid (HBox1.out.on hb)
  clear HBox1
  have HBox1 := Lib.hid HT.out
  clear HT
  have HT := Lib.hid (HBxb.out.on hb)
  clear HBxb
  have HBxb := Lib.hid HT.out
  clear HT
  have HT := Lib.hid (HRb.out.on hb)
  clear HRb
  have HRb := Lib.hid HT.out
  clear HT
  have HT := Lib.hid (HBy1.out.on hb)
  clear HBy1
  have HBy1 := Lib.hid HT.out
  clear HT
  have HT := Lib.hid (HBxg.out.on hb)
  clear HBxg
  have HBxg := Lib.hid HT.out
  clear HT
  have HT := Lib.hid (HMk.out.on hb)
  clear HMk
  have HMk := Lib.hid HT.out
  clear HT
  clear hb
  obtain ⟨x1_0, x1_1, x1_2, x1_3, x1_4, x1_5⟩ := HBox1.out.get
  go_wp2_with fail
  go_cut [15, 16] from 94 to 101 (fun s6 s7 wx => GotBox w17 q R0 s6 s7 wx)
  case first =>
    have hkD := (Below.refl w17.heap.size w17).drew
    go_region_held3 (fun w' => (w'.cell? ⟨w.heap.size, 0, none⟩ = some (.int .i64 b1.roots) ∧ w'.cell? ⟨w.heap.size, 1, none⟩ = some (.slice A11 n11 c11) ∧ w'.cell? ⟨w.heap.size, 2, none⟩ = some (.slice A21 n21 c21) ∧ w'.cell? ⟨w.heap.size, 3, none⟩ = some (.int .i64 b1.edges) ∧ w'.cell? ⟨w.heap.size, 4, none⟩ = some (.slice A41 n41 c41) ∧ w'.cell? ⟨w.heap.size, 5, none⟩ = some (.slice A51 n51 c51))) (first | with_reducible exact (HBox1.out.on (((((((hkZ).setCell hβ _).setCell hβ _).setCell hβ _).setCell hβ _).setCell hβ _).setCell hβ _)).get | with_reducible exact (HBox1.out.on (((((((hkZ.alloc hkZ.size _).setCell hkZ.size _).setCell hkZ.size _).setCell hkZ.size _).setCell hkZ.size _).setCell hkZ.size _).setCell hkZ.size _)).get | with_reducible exact (HBox1.out.on hkZ).get | with_reducible exact (HBox1.out.on (hkZ.alloc hkZ.size _)).get | with_reducible exact (HBox1.out.on hkc1).get | with_reducible exact (HBox1.out.on (hkc1.alloc hkc1.size _)).get | with_reducible exact (HBox1.out.on hkc0).get | with_reducible exact (HBox1.out.on (hkc0.alloc hkc0.size _)).get | with_reducible exact (HBox1.out.on hkD).get | with_reducible exact (HBox1.out.on ((Below.refl w17.heap.size w17).alloc (Nat.le_refl _) _).drew).get)
      (first
       | (have hTest := hβ; go_at_call 11; refine (toB_any _ b1 _ ((HA1.out.below (HK0.out.trans (hkc0.mono HK0.out.size))).wide (HK0.out.trans (hkc0.mono HK0.out.size)).size) HBS1.out).mono ?_; rintro e uc1 ⟨Vc1, rfl, hoc1, hb⟩; have hkc1 := hkc0.trans (hb.mono hkc0.size); have hoc0 := hoc0.on hb; have hrow := hrow.of_block (hb.block _ hrow.lt); clear hTest; clear hb)
       | (go_at_call 11; refine (toB_any _ b1 _ ((HA1.out.below (HK0.out.trans ((hkc0.alloc hkc0.size (.cells #[.int .i64 0, .slice none 0 0, .slice none 0 0, .int .i64 0, .slice none 0 0, .slice none 0 0] 34)).mono HK0.out.size))).wide (HK0.out.trans ((hkc0.alloc hkc0.size (.cells #[.int .i64 0, .slice none 0 0, .slice none 0 0, .int .i64 0, .slice none 0 0, .slice none 0 0] 34)).mono HK0.out.size)).size) HBS1.out).mono ?_; rintro e uc1 ⟨Vc1, rfl, hoc1, hb⟩; have hkc1 := (hkc0.alloc hkc0.size (.cells #[.int .i64 0, .slice none 0 0, .slice none 0 0, .int .i64 0, .slice none 0 0, .slice none 0 0] 34)).trans (hb.mono (hkc0.alloc hkc0.size (.cells #[.int .i64 0, .slice none 0 0, .slice none 0 0, .int .i64 0, .slice none 0 0, .slice none 0 0] 34)).size); have hoc0 := (hoc0.on ((Below.refl _ _).alloc (Nat.le_refl _) (.cells #[.int .i64 0, .slice none 0 0, .slice none 0 0, .int .i64 0, .slice none 0 0, .slice none 0 0] 34))).on hb; have hβ := hkc0.size; have hrow := (six_new uc0 (.int .i64 0) (.slice none 0 0) (.slice none 0 0) (.int .i64 0) (.slice none 0 0) (.slice none 0 0) 34).of_block (hb.block _ (by simp)); clear hb)
       | (go_at_call 11; refine (toB_any _ b1 _ ((HA1.out.below (HK0.out.trans (hkc0.mono HK0.out.size))).wide (HK0.out.trans (hkc0.mono HK0.out.size)).size) HBS1.out).mono ?_; rintro e uc1 ⟨Vc1, rfl, hoc1, hb⟩; have hkc1 := hkc0.trans (hb.mono hkc0.size); have hoc0 := hoc0.on hb; clear hb)
       | (go_at_call 10; refine (toCS_any A0 n0 c0 cs0 _ ((HA0.out.below (HK0.out.trans ((((Below.refl w17.heap.size w17).alloc (Nat.le_refl _) (.cells #[.int .i64 0, .slice none 0 0, .slice none 0 0, .int .i64 0, .slice none 0 0, .slice none 0 0] 34)).drew).mono HK0.out.size))).wide (HK0.out.trans ((((Below.refl w17.heap.size w17).alloc (Nat.le_refl _) (.cells #[.int .i64 0, .slice none 0 0, .slice none 0 0, .int .i64 0, .slice none 0 0, .slice none 0 0] 34)).drew).mono HK0.out.size)).size) hn0).mono ?_; rintro e uc0 ⟨Vc0, rfl, hoc0, hb⟩; have hkc0 := (((Below.refl w17.heap.size w17).alloc (Nat.le_refl _) (.cells #[.int .i64 0, .slice none 0 0, .slice none 0 0, .int .i64 0, .slice none 0 0, .slice none 0 0] 34)).drew).trans (hb.mono (((Below.refl w17.heap.size w17).alloc (Nat.le_refl _) (.cells #[.int .i64 0, .slice none 0 0, .slice none 0 0, .int .i64 0, .slice none 0 0, .slice none 0 0] 34)).drew).size); have hβ := Nat.le_refl w17.heap.size; have hrow := (World.rowIs.drew (six_new w17 (.int .i64 0) (.slice none 0 0) (.slice none 0 0) (.int .i64 0) (.slice none 0 0) (.slice none 0 0) 34)).of_block (hb.block _ (by simp)); clear hb)
       | (go_at_call 10; refine (toCS_any A0 n0 c0 cs0 _ ((HA0.out.below (HK0.out.trans (hkD.mono HK0.out.size))).wide (HK0.out.trans (hkD.mono HK0.out.size)).size) hn0).mono ?_; rintro e uc0 ⟨Vc0, rfl, hoc0, hb⟩; have hkc0 := hkD.trans (hb.mono hkD.size); clear hb)
       | (have hTest := hβ; go_at_call 19; refine (HIm.out _ _ _ _ hoc0.here hoc1.here (NilV.of_own hoc1)).mono ?_; rintro e w18 ⟨vc0, rfl, hrc0, hb⟩; obtain ⟨B1c0, d1c0, B2c0, d2c0, B4c0, d4c0, B5c0, d5c0, rfl⟩ := hrc0.shape; have hkZ := hkc1.trans (hb.mono hkc1.size); have hrc0 := hrc0.wide (lo' := w17.heap.size) hkc1.size (Nat.le_refl _); have hrow := hrow.of_block (hb.block _ hrow.lt); clear hTest; obtain ⟨z0, z1, z2, z3, z4, z5⟩ := row6 hrow; have f0 := hrow.frozen 0; have f1 := hrow.frozen 1; have f2 := hrow.frozen 2; have f3 := hrow.frozen 3; have f4 := hrow.frozen 4; have f5 := hrow.frozen 5; clear hb)
       | (go_at_call 19; refine (HIm.out _ _ _ _ (hoc0.on ((Below.refl _ _).alloc (Nat.le_refl _) (.cells #[.int .i64 0, .slice none 0 0, .slice none 0 0, .int .i64 0, .slice none 0 0, .slice none 0 0] 34))).here (hoc1.on ((Below.refl _ _).alloc (Nat.le_refl _) (.cells #[.int .i64 0, .slice none 0 0, .slice none 0 0, .int .i64 0, .slice none 0 0, .slice none 0 0] 34))).here (NilV.of_own (hoc1.on ((Below.refl _ _).alloc (Nat.le_refl _) (.cells #[.int .i64 0, .slice none 0 0, .slice none 0 0, .int .i64 0, .slice none 0 0, .slice none 0 0] 34))))).mono ?_; rintro e w18 ⟨vc0, rfl, hrc0, hb⟩; obtain ⟨B1c0, d1c0, B2c0, d2c0, B4c0, d4c0, B5c0, d5c0, rfl⟩ := hrc0.shape; have hkZ := (hkc1.alloc hkc1.size (.cells #[.int .i64 0, .slice none 0 0, .slice none 0 0, .int .i64 0, .slice none 0 0, .slice none 0 0] 34)).trans (hb.mono (hkc1.alloc hkc1.size (.cells #[.int .i64 0, .slice none 0 0, .slice none 0 0, .int .i64 0, .slice none 0 0, .slice none 0 0] 34)).size); have hrc0 := hrc0.wide (lo' := w17.heap.size) (hkc1.alloc hkc1.size (.cells #[.int .i64 0, .slice none 0 0, .slice none 0 0, .int .i64 0, .slice none 0 0, .slice none 0 0] 34)).size (Nat.le_refl _); have hβ := hkc1.size; have hrow := (six_new uc1 (.int .i64 0) (.slice none 0 0) (.slice none 0 0) (.int .i64 0) (.slice none 0 0) (.slice none 0 0) 34).of_block (hb.block _ (by simp)); obtain ⟨z0, z1, z2, z3, z4, z5⟩ := row6 hrow; have f0 := hrow.frozen 0; have f1 := hrow.frozen 1; have f2 := hrow.frozen 2; have f3 := hrow.frozen 3; have f4 := hrow.frozen 4; have f5 := hrow.frozen 5; clear hb)
       | (go_at_call 19; refine (HIm.out _ _ _ _ hoc0.here hoc1.here (NilV.of_own hoc1)).mono ?_; rintro e w18 ⟨vc0, rfl, hrc0, hb⟩; obtain ⟨B1c0, d1c0, B2c0, d2c0, B4c0, d4c0, B5c0, d5c0, rfl⟩ := hrc0.shape; have hkZ := hkc1.trans (hb.mono hkc1.size); have hrc0 := hrc0.wide (lo' := w17.heap.size) hkc1.size (Nat.le_refl _); clear hb))
    all_goals (go_wp2_with fail; go_meet)
    all_goals (first | with_reducible exact got_late q hrc0 (Nat.le_refl _) hkZ | with_reducible exact got_early q hrow hβ hrc0 (Nat.le_refl _) hkZ)
  case rest =>
  clear x1_0 x1_1 x1_2 x1_3 x1_4 x1_5
  obtain ⟨w18, hwc⟩ : ∃ x, wc = x := ⟨_, rfl⟩
  rw [hwc] at hcut ⊢
  clear hwc
  obtain ⟨βc, B1c0, d1c0, B2c0, d2c0, B4c0, d4c0, B5c0, d5c0, rfl, rfl, hβc, hbox, hrc0, hb⟩ := hcut
  have HZ_18 : Hid (w17.heap.size ≤ w18.heap.size) := Lib.hid hb.size
  have HKn := Lib.hid (HK0.out.trans (hb.mono HK0.out.size))
  clear HK0
  have HK0 := Lib.hid HKn.out
  clear HKn
  have HT := Lib.hid (HBox1.out.on hb)
  clear HBox1
  have HBox1 := Lib.hid HT.out
  clear HT
  have HT := Lib.hid (HBxb.out.on hb)
  clear HBxb
  have HBxb := Lib.hid HT.out
  clear HT
  have HT := Lib.hid (HRb.out.on hb)
  clear HRb
  have HRb := Lib.hid HT.out
  clear HT
  have HT := Lib.hid (HBy1.out.on hb)
  clear HBy1
  have HBy1 := Lib.hid HT.out
  clear HT
  have HT := Lib.hid (HBxg.out.on hb)
  clear HBxg
  have HBxg := Lib.hid HT.out
  clear HT
  have HT := Lib.hid (HMk.out.on hb)
  clear HMk
  have HMk := Lib.hid HT.out
  clear HT
  clear hb
  have HBxc := Lib.hid hbox
  clear hbox
  have HRc := Lib.hid hrc0
  clear hrc0
  have Hβc := Lib.hid (And.intro hβc (World.rowIs.lt HBxc.out))
  clear hβc
  obtain ⟨x0, x1, x2, x3, x4, x5⟩ := HBxc.out.get
  obtain ⟨y0, y1, y2, y3, y4, y5⟩ := HBxb.out.get
  go_wp2_with fail
  clear x0 x1 x2 x3 x4 x5 y0 y1 y2 y3 y4 y5
  refine (eqBR_any _ _ R0 _ _ _ _ _ HRc.out HRb.out (by have := HZ0.out; have := HZw.out; have := HZ_1.out; have := HZ_2.out; have := HZ_3.out; have := Hβb.out; have := HZ_4.out; have := HZ_5.out; have := HZs_6.out; have := HZ_6.out; have := HZ_7.out; have := HZs_8.out; have := HZ_8.out; have := HZ_9.out; have := HZ_10.out; have := HZ_11.out; have := HZ_12.out; have := HZ_13.out; have := HZ_14.out; have := HZ_15.out; have := HZ_16.out; have := HZ_17.out; have := HZ_18.out; have := Hβc.out; omega) (by have := HZ0.out; have := HZw.out; have := HZ_1.out; have := HZ_2.out; have := HZ_3.out; have := Hβb.out; have := HZ_4.out; have := HZ_5.out; have := HZs_6.out; have := HZ_6.out; have := HZ_7.out; have := HZs_8.out; have := HZ_8.out; have := HZ_9.out; have := HZ_10.out; have := HZ_11.out; have := HZ_12.out; have := HZ_13.out; have := HZ_14.out; have := HZ_15.out; have := HZ_16.out; have := HZ_17.out; have := HZ_18.out; have := Hβc.out; omega) hM0).mono ?_
  rintro e w19 ⟨rfl, hb⟩
  have HZ_19 : Hid (w18.heap.size ≤ w19.heap.size) := Lib.hid hb.size
  have HKn := Lib.hid (HK0.out.trans (hb.mono HK0.out.size))
  clear HK0
  have HK0 := Lib.hid HKn.out
  clear HKn
  have HT := Lib.hid (HBox1.out.on hb)
  clear HBox1
  have HBox1 := Lib.hid HT.out
  clear HT
  have HT := Lib.hid (HBxb.out.on hb)
  clear HBxb
  have HBxb := Lib.hid HT.out
  clear HT
  have HT := Lib.hid (HRb.out.on hb)
  clear HRb
  have HRb := Lib.hid HT.out
  clear HT
  have HT := Lib.hid (HBy1.out.on hb)
  clear HBy1
  have HBy1 := Lib.hid HT.out
  clear HT
  have HT := Lib.hid (HBxg.out.on hb)
  clear HBxg
  have HBxg := Lib.hid HT.out
  clear HT
  have HT := Lib.hid (HMk.out.on hb)
  clear HMk
  have HMk := Lib.hid HT.out
  clear HT
  have HT := Lib.hid (HBxc.out.on hb)
  clear HBxc
  have HBxc := Lib.hid HT.out
  clear HT
  have HT := Lib.hid (HRc.out.on hb)
  clear HRc
  have HRc := Lib.hid HT.out
  clear HT
  clear hb
  obtain ⟨x0, x1, x2, x3, x4, x5⟩ := HBxg.out.get
  go_wp2_with fail
  clear x0 x1 x2 x3 x4 x5
  refine (heldBR_any _ R0 1 _ w6.heap.size w7.heap.size HMk.out (by omega) (by omega) hM0).mono ?_
  rintro e w20 ⟨rfl, hb⟩
  rw [Hmm.out]
  have HZ_20 : Hid (w19.heap.size ≤ w20.heap.size) := Lib.hid hb.size
  have HKn := Lib.hid (HK0.out.trans (hb.mono HK0.out.size))
  clear HK0
  have HK0 := Lib.hid HKn.out
  clear HKn
  have HT := Lib.hid (HBox1.out.on hb)
  clear HBox1
  have HBox1 := Lib.hid HT.out
  clear HT
  have HT := Lib.hid (HBxb.out.on hb)
  clear HBxb
  have HBxb := Lib.hid HT.out
  clear HT
  have HT := Lib.hid (HRb.out.on hb)
  clear HRb
  have HRb := Lib.hid HT.out
  clear HT
  have HT := Lib.hid (HBy1.out.on hb)
  clear HBy1
  have HBy1 := Lib.hid HT.out
  clear HT
  have HT := Lib.hid (HBxg.out.on hb)
  clear HBxg
  have HBxg := Lib.hid HT.out
  clear HT
  have HT := Lib.hid (HMk.out.on hb)
  clear HMk
  have HMk := Lib.hid HT.out
  clear HT
  have HT := Lib.hid (HBxc.out.on hb)
  clear HBxc
  have HBxc := Lib.hid HT.out
  clear HT
  have HT := Lib.hid (HRc.out.on hb)
  clear HRc
  have HRc := Lib.hid HT.out
  clear HT
  clear hb
  go_wp2_with fail
  go_ret
  exact ⟨rfl, HK0.out⟩

theorem own : ownKnob Try.prog.godebug = none := by kernel_rfl
theorem laidOut : laidOutB Try.prog = true := facts.laid

set_option maxRecDepth 100000 in
theorem lifted (os : Os) (started : os.Started) (H : Type) (enc : TypeId × Value → H) :
    ReturnsInHanded {} Try.checked os 4 .any (Rows.fnExactLeanOfSpec.pre6 enc Try.prog Try.f4 Rows.fnExactLeanOfRow.domain false) (Rows.fnExactLeanOfSpec.post enc Try.prog Try.f4 false true false false) := by
  refine returnsInHanded_of_change (C := Try.checked) own started (by kernel_rfl) Try.func4
    (ChangeSpec.witness6 (enc := enc) (C := Try.checked) false ⟨#[], #[.slice none 0 0, .agg #[.int .i64 0, .slice none 0 0, .slice none 0 0, .int .i64 0, .slice none 0 0, .slice none 0 0]], []⟩ 8 (by kernel_rfl) (by kernel_rfl) (by kernel_rfl) (by kernel_rfl)) ?_
  intro W base args ds gs before hval0 hW hcnd _
  have hval : ∀ (j : Nat) t v, Try.f4.params[j]? = some t → args[j]? = some v → Value.okWide Try.prog W .any base t v := hval0
  have hW' := hW
  obtain ⟨p, q, hA0, hV, rfl, hfz, hnd⟩ := hW
  have hA : DataW.TrodAll enc Try.prog W 0 (fun _ => true) true Try.f4.params.toList args.toList ds p := hA0
  rw [Try.params4] at hA hval
  obtain ⟨v0, vs0, d0, ds0, p0, q0, hargs, rfl, rfl, h0, r0⟩ := trodAll_cons hA
  obtain ⟨v1, vs1, d1, ds1, p1, q1, rfl, rfl, rfl, h1, r1⟩ := trodAll_cons r0
  obtain ⟨rfl, rfl, rfl⟩ := trodAll_nil r1
  obtain rfl : args = #[v0, v1] := by cases args; simp_all
  obtain ⟨rfl, rfl⟩ := trodVars_none hV
  have k0 := h0
  have lt0 : ∀ x ∈ p0, x.block < W.heap.size := by obtain ⟨m, hm⟩ := k0; exact DataW.trod_lt m _ _ _ hm
  obtain ⟨A0, n0, c0, cs0, rfl, s0, w0⟩ := open_sig (hval 0 22 v0 rfl rfl) h0 lt0
  have k1 := h1
  have lt1 : ∀ x ∈ p1, x.block < W.heap.size := by obtain ⟨m, hm⟩ := k1; exact DataW.trod_lt m _ _ _ hm
  obtain ⟨b1, s1, w1⟩ := open_big (hval 1 28 v1 rfl rfl) h1 lt1
  clear hA0 hval0
  refine (walk A0 n0 c0 cs0 v1 b1 W s0 w0 s1 w1).mono fun e W' ⟨he, bel⟩ => ?_
  subst he
  exact ⟨_, rfl, _, _, _, [], _, [], hW', trodAll_mk1 (shut_bool Try.underlying4 _), (trodAll_cons_mk (Below.trod laidOut (by kernel_rfl) (of_decide_eq_true (by kernel_rfl)) k0 bel lt0) (trodAll_cons_mk (Below.trod laidOut (by kernel_rfl) (of_decide_eq_true (by kernel_rfl)) k1 bel lt1) trodAll_mk0)), rfl, bel.frame _, fun h => by cases h⟩

theorem closed : joinedFacts Try.checked.prog 4 Try.f4 Rows.fnExactLeanOfSpec Rows.fnExactLeanOfRow = true := by
  unfold joinedFacts
  rw [facts.laid, facts.maps, facts.heard, facts.enter, facts.lifts, facts.make, facts.keys]
  kernel_rfl

theorem over : Rows.fnExactLeanOfRow.holds Try.pinned (OpenSpec.ofChange Rows.fnExactLeanOfSpec) :=
  OpenClaim.holds_of_wide 4 Try.f4 rfl rfl rfl rfl rfl rfl rfl ⟨rfl, rfl, rfl, rfl, rfl⟩ rfl rfl rfl rfl rfl (by kernel_rfl) Try.func4 closed
    (of_decide_eq_true (by kernel_rfl)) (by unfold Func.isWrapper; first | (rw [if_pos (by decide +kernel)]; kernel_rfl) | (rw [if_neg (by decide +kernel)]; exact ⟨rfl, rfl⟩))
    (fun os started H enc _ => lifted os started H enc)

theorem proved : Rows.FnExactLeanOfSaid := over
#print axioms proved
end Go.Proofs.Ytifialdkjnmfoab.fnExactLeanOf
end
