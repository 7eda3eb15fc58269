/- The roots over the sites: impl.rootsOverSites; ShadowOf of spec and impl. -/
import Derived.Test.YtemahmnchcnfeaaTp
import Derived.Test.YtemahmnchcnfeaaPl
import Derived.Test.YtemahmnchcnfeaaMb
namespace Go.Proofs.Ytemahmnchcnfeaa.shd
open kit bg sg opn strs only hb sig isig un over gn nm inn ht gd im pt marks eqs hc hi hw hn rs br bm bw cf lf ib lawb lw cl pl abv tp mb
open Go.RowKit
set_option linter.unusedVariables false

/-- the numbers of the roots over the sites -/
def rnums (b : Big) : List Int := (tops b).map fun z => -1 - z
theorem rnums_at {b : Big} {i : Nat} {z : Int} (h : b.sites[i]? = some z) : (rnums b)[i]? = some (-1 - topF b.nodes b.nodes.length z) := by unfold rnums; rw [List.getElem?_map, tops_at h]; rfl
theorem rnums_len (b : Big) : (rnums b).length = b.sites.length := by unfold rnums tops; simp

set_option maxRecDepth 20000 in
set_option maxHeartbeats 3200000 in
theorem ros_any (A1 A2 A4 A5 : Option Addr) (n1 n2 n4 n5 c1 c2 c4 c5 : Nat) (cs : List Ctl) (b : Big) (w0 w : World) (h1 : NdsAt w0 w0.heap.size A1 n1 b.nodes) (h2 : IntsAt w0 w0.heap.size A2 n2 b.sites) (hb0 : Below w0.heap.size w0 w) (hg : bigB cs b = true) :
    Calls Try.prog 106 #[.agg #[.int .i64 b.roots, .slice A1 n1 c1, .slice A2 n2 c2, .int .i64 b.edges, .slice A4 n4 c4, .slice A5 n5 c5]] w fun e w' => ∃ g, e = .returned (.slice (some ⟨g, 0, none⟩) n2 n2) ∧ w.heap.size ≤ g ∧ g < w'.heap.size ∧ w'.rowIs g 3 n2 (iat (rnums b)) ∧ Below w.heap.size w w' := by
  have HG := Lib.hid hg
  have HGs := Lib.hid (good_sites hg)
  have l1 := h1.1
  have l2 := h2.len
  have hn2 : n2 ≤ 4 := by have := HGs.out.2.2.2.2.2.2; omega
  have hn1 : n1 ≤ 8 := by have := HGs.out.2.2.2.2.2.1; omega
  have hmk := fun W => run_make_row' (P := Try.prog) 24 3 (.int .i64 0) 8 Try.underlying24 int_info rfl .i64 .i64 n2 (by omega) (by omega) W
  have HL1 := Lib.hid l1
  have hbx := (Below.refl w.heap.size w).alloc (Nat.le_refl _) (.cells #[.int .i64 b.roots, .slice A1 n1 c1, .slice A2 n2 c2, .int .i64 b.edges, .slice A4 n4 c4, .slice A5 n5 c5] 37)
  have HBox : Hid (BoxAt (w.alloc (.cells #[.int .i64 b.roots, .slice A1 n1 c1, .slice A2 n2 c2, .int .i64 b.edges, .slice A4 n4 c4, .slice A5 n5 c5] 37)) w.heap.size 37 (.int .i64 b.roots) (.slice A1 n1 c1) (.slice A2 n2 c2) (.int .i64 b.edges) (.slice A4 n4 c4) (.slice A5 n5 c5)) := Lib.hid (six_new w _ _ _ _ _ _ _)
  obtain ⟨W, hW⟩ : ∃ W, w.alloc (.cells #[.int .i64 b.roots, .slice A1 n1 c1, .slice A2 n2 c2, .int .i64 b.edges, .slice A4 n4 c4, .slice A5 n5 c5] 37) = W := ⟨_, rfl⟩
  have hWz : W.heap.size = w.heap.size + 1 := by rw [← hW]; simp
  rw [hW] at hbx HBox
  have HWq := Lib.hid hW
  have HB0 := Lib.hid hbx
  have HWz := Lib.hid hWz
  have hmade := World.rowIs_made W (.int .i64 0) n2 3
  rw [hWz] at hmade
  have HMade := Lib.hid hmade
  obtain ⟨x0, x1, x2, x3, x4, x5⟩ := HBox.out.get
  clear hg hbx hW hWz l1 l2 hmade
  go_enter Try.func106, Try.ntmps106
  go_wp2_with fail
  rw [HWq.out]
  clear hmk x0 x1 x2 x3 x4 x5
  go_loopw [13] (fun i wr => ∃ k : Nat, k ≤ n2 ∧ i = .int .i64 k ∧ wr.rowIs (w.heap.size + 1) 3 n2 (fun j => if j < k then iat (rnums b) j else .int .i64 0) ∧ Below W.heap.size W wr) (fun i _ => n2 - (intOf i).toNat)
  case atStart => exact ⟨0, Nat.zero_le _, rfl, (HMade.out).congr (fun _ _ => by simp), (Below.refl _ _).alloc (Nat.le_refl _) _⟩
  case round =>
    obtain ⟨k, hk, rfl, hrow, hbel⟩ := hrel
    obtain ⟨wo, rfl⟩ : ∃ wo : World, wo = wr := ⟨_, rfl⟩
    have hbw := hb0.trans ((HB0.out.trans (hbel.mono HB0.out.size)).mono hb0.size)
    have HBelw := Lib.hid (HB0.out.trans (hbel.mono HB0.out.size))
    by_cases hlt : k < n2
    · obtain ⟨b2, off, z, rfl, hbb, hx, c0'⟩ := h2.get hlt
      have d0 := (hbw.cell (p := ⟨b2, off + k, none⟩) hbb).trans c0'
      obtain ⟨x0, x1, x2, x3, x4, x5⟩ := (HBox.out.on hbel).get
      have hz := (HGs.out.2.2.1 k z hx).2
      rw [HL1.out] at hz
      have htop := tops_in HG.out hx
      rw [HL1.out] at htop
      have HA : Hid (iat (rnums b) k = .int .i64 (-1 - topF b.nodes n1 z)) := Lib.hid (by rw [iat_of (rnums_at hx), HL1.out])
      obtain ⟨T, hT⟩ : ∃ T, topF b.nodes n1 z = T := ⟨_, rfl⟩
      rw [hT] at htop HA
      have HT := Lib.hid hT
      obtain ⟨ht1, ht2⟩ := htop
      have hcell := hrow.cell hlt
      have hfz := hrow.frozen k
      have HRow := Lib.hid (hrow.set k (.int .i64 (-1 - T)))
      have HBs := Lib.hid (hbel.setCell (p := ⟨w.heap.size + 1, k, none⟩) (by rw [HWz.out]; exact Nat.le_refl _) (.int .i64 (-1 - T)))
      clear hx c0' hrow hbel hT
      go_wp2_with fail
      go_loopw [5] (fun p wi => ∃ (f : Nat) (y : Int), p = .int .i64 y ∧ y < f ∧ f ≤ n1 ∧ topF b.nodes f y = T ∧ wo = wi) (fun p _ => (intOf p + 1).toNat)
      case atStart => exact ⟨n1, z, rfl, hz, Nat.le_refl _, HT.out, rfl⟩
      case round =>
        obtain ⟨f, y, rfl, hyf, hfn, hty, rfl⟩ := hrel
        have HY := Lib.hid hty
        clear hty
        by_cases hneg : y < 0
        · obtain rfl : y = T := by rw [← HY.out, topF_neg hneg]
          clear d0 x0 x1 x2 x3 x4 x5
          go_wp2_with fail
          go_roundw
          case rel =>
            refine ⟨k + 1, by omega, by go_num, HRow.out.congr (fun j hj => ?_), HBs.out⟩
            show (if j = k then _ else if j < k then _ else _) = if j < k + 1 then _ else _
            by_cases e : j = k
            · subst e; rw [if_pos rfl, if_pos (by omega), HA.out]
            · rw [if_neg e]
              by_cases e2 : j < k
              · rw [if_pos e2, if_pos (by omega)]
              · rw [if_neg e2, if_neg (by omega)]
          case measure => simp [intOf]; omega
        · obtain ⟨m, rfl⟩ : ∃ m : Nat, y = m := ⟨y.toNat, by omega⟩
          have hmn : m < n1 := by omega
          obtain ⟨b3, off3, x, e3, hbb3, hx3, -, c1', -⟩ := h1.get hmn
          have d1 := (hbw.cell (p := ⟨b3, off3 + m * 3 + 1, none⟩) hbb3).trans c1'
          obtain ⟨f', rfl⟩ : ∃ f', f = f' + 1 := ⟨f - 1, by omega⟩
          have hxp := HGs.out.1 m x hx3
          have HS := Lib.hid (show topF b.nodes f' x.parent = T by rw [← HY.out, topF_step hx3])
          have HP := Lib.hid (And.intro hxp (And.intro hyf hfn))
          obtain ⟨pp, hpp⟩ : ∃ pp, x.parent = pp := ⟨_, rfl⟩
          rw [hpp] at d1 HS HP
          rw [e3] at x1
          clear hx3 c1' hxp hpp hyf hcell hfz d0
          go_wp2_with fail
          go_roundw
          case rel => exact ⟨f', pp, rfl, by have := HP.out; omega, by have := HP.out; omega, HS.out, by first | trivial | rfl⟩
          case measure => have := HP.out; simp [intOf]; omega
    · obtain rfl : k = n2 := by omega
      have HRw := Lib.hid (hrow.congr (g := iat (rnums b)) (fun j hj => if_pos hj))
      clear hrow hbel
      go_wp2_with fail
      go_ret
      exact ⟨_, rfl, by omega, HRw.out.lt, HRw.out, HBelw.out⟩

theorem rnums_back (b : Big) : (rnums b).map (fun z => -1 - z) = tops b := by
  unfold rnums
  rw [List.map_map]
  have : ((fun z : Int => -1 - z) ∘ fun z : Int => -1 - z) = id := by
    funext z
    show -1 - (-1 - z) = z
    omega
  rw [this, List.map_id]
noncomputable def shdR (cs : List Ctl) (b : Big) : Big := if bigB cs b = true then placing b.roots (tops b) else zeroBig
theorem shdR_no {cs : List Ctl} {b : Big} (h : bigB cs b = false) : shdR cs b = zeroBig := by unfold shdR; rw [h]; rfl
theorem shdR_yes {cs : List Ctl} {b : Big} (h : bigB cs b = true) : shdR cs b = placing b.roots (tops b) := by unfold shdR; rw [if_pos h]
theorem tops_len (b : Big) : (tops b).length = b.sites.length := by unfold tops; simp
theorem shd_len (cs : List Ctl) (b : Big) : bigMk (shdR cs b) ≤ 1048576 := by
  cases h : bigB cs b with
  | false => rw [shdR_no h]; exact zero_len
  | true => rw [shdR_yes h]; exact placing_len (by rw [tops_len]; have := (good_sites h).2.2.2.2.2.2; omega)
theorem rnums_in {cs : List Ctl} {b : Big} (h : bigB cs b = true) : ∀ z ∈ rnums b, -9 ≤ z ∧ z ≤ 9 := by
  intro z hz
  unfold rnums tops at hz
  rw [List.map_map] at hz
  obtain ⟨s, hs, rfl⟩ := List.mem_map.1 hz
  obtain ⟨i, hi⟩ := List.getElem?_of_mem hs
  have := tops_in h hi
  show -9 ≤ -1 - topF b.nodes b.nodes.length s ∧ -1 - topF b.nodes b.nodes.length s ≤ 9
  omega

set_option maxRecDepth 20000 in
set_option maxHeartbeats 3200000 in
theorem iShd_any (A : Option Addr) (n c : Nat) (cs : List Ctl) (v : Value) (b : Big) (w : World) (hC : CtlsAt w w.heap.size A n cs) (hn : n ≤ 1048576) (hs : ∀ c ∈ cs, c.name.size ≤ 1048576) (hv : BigAt w w.heap.size v b) (hS : BigS b) (hw : BigW b) (hN : NilV v) :
    Calls Try.prog 45 #[.slice A n c, v] w (BigPost (bigB cs b) (shdR cs b) w) := by
  obtain ⟨A1, n1, c1, A2, n2, c2, A4, n4, c4, A5, n5, c5, rfl, h1, h2, h4, h5⟩ := hv
  have hnil := hN.get
  have hbx := (Below.refl w.heap.size w).alloc (Nat.le_refl _) (.cells #[.int .i64 b.roots, .slice A1 n1 c1, .slice A2 n2 c2, .int .i64 b.edges, .slice A4 n4 c4, .slice A5 n5 c5] 37)
  have HBoxI : Hid (BoxAt (w.alloc (.cells #[.int .i64 b.roots, .slice A1 n1 c1, .slice A2 n2 c2, .int .i64 b.edges, .slice A4 n4 c4, .slice A5 n5 c5] 37)) w.heap.size 37 (.int .i64 b.roots) (.slice A1 n1 c1) (.slice A2 n2 c2) (.int .i64 b.edges) (.slice A4 n4 c4) (.slice A5 n5 c5)) := Lib.hid (six_new w _ _ _ _ _ _ _)
  obtain ⟨W0, hW0⟩ : ∃ W, w.alloc (.cells #[.int .i64 b.roots, .slice A1 n1 c1, .slice A2 n2 c2, .int .i64 b.edges, .slice A4 n4 c4, .slice A5 n5 c5] 37) = W := ⟨_, rfl⟩
  have hWz0 : W0.heap.size = w.heap.size + 1 := by rw [← hW0]; simp
  rw [hW0] at hbx HBoxI
  have hb0 := (Below.refl W0.heap.size W0).alloc (Nat.le_refl _) (.cells #[.int .i64 0, .slice none 0 0, .slice none 0 0, .int .i64 0, .slice none 0 0, .slice none 0 0] 37)
  have HBx0 : Hid (BoxAt (W0.alloc (.cells #[.int .i64 0, .slice none 0 0, .slice none 0 0, .int .i64 0, .slice none 0 0, .slice none 0 0] 37)) W0.heap.size 37 (.int .i64 0) (.slice none 0 0) (.slice none 0 0) (.int .i64 0) (.slice none 0 0) (.slice none 0 0)) := Lib.hid (six_new W0 _ _ _ _ _ _ _)
  have HBox := Lib.hid (HBoxI.out.on hb0)
  obtain ⟨W, hW⟩ : ∃ W, W0.alloc (.cells #[.int .i64 0, .slice none 0 0, .slice none 0 0, .int .i64 0, .slice none 0 0, .slice none 0 0] 37) = W := ⟨_, rfl⟩
  have hWz : W.heap.size = w.heap.size + 1 + 1 := by rw [← hW]; simp; exact hWz0
  rw [hW] at hb0 HBx0 HBox
  rw [hWz0] at HBx0
  have HWq0 := Lib.hid hW0
  have HWq := Lib.hid hW
  have HB0 := Lib.hid (hbx.trans (hb0.mono hbx.size))
  have HWz := Lib.hid hWz
  have hVW : BigAt W W.heap.size (.agg #[.int .i64 b.roots, .slice A1 n1 c1, .slice A2 n2 c2, .int .i64 b.edges, .slice A4 n4 c4, .slice A5 n5 c5]) b := BigAt.wide (BigAt.below ⟨_, _, _, _, _, _, _, _, _, _, _, _, rfl, h1, h2, h4, h5⟩ HB0.out) HB0.out.size
  clear hW0 hW hb0 hWz hWz0 hbx HBoxI hN
  have C := isBig_any A n c cs _ b W ((hC.below HB0.out).wide HB0.out.size) hVW hn hs hS hw
  have hsW : w.heap.size + 1 + 1 ≤ W.heap.size := by rw [HWz.out]; exact Nat.le_refl _
  obtain ⟨x0, x1, x2, x3, x4, x5⟩ := HBox.out.get
  clear hVW hs
  cases hq : bigB cs b with
  | false =>
    rw [hq] at C
    have HR := Lib.hid (shdR_no hq)
    clear hq
    go_enter Try.func45, Try.ntmps45
    go_wp2_with fail
    rw [HWq0.out, HWq.out]
    go_wp2_with fail
    refine C.mono ?_
    rintro e w1 ⟨rfl, hb⟩
    have hb1 := HB0.out.trans (hb.mono HB0.out.size)
    have HBx1 := Lib.hid (HBx0.out.on hb)
    clear hb C x0 x1 x2 x3 x4 x5
    obtain ⟨z0, z1, z2, z3, z4, z5⟩ := HBx1.out.get
    have f0 := World.rowIs.frozen HBx1.out 0
    have f1 := World.rowIs.frozen HBx1.out 1
    have f2 := World.rowIs.frozen HBx1.out 2
    have f3 := World.rowIs.frozen HBx1.out 3
    have f4 := World.rowIs.frozen HBx1.out 4
    have f5 := World.rowIs.frozen HBx1.out 5
    go_wp2_with fail
    refine bodyPost_ret (v := .tuple #[.agg #[.int .i64 0, .slice none 0 0, .slice none 0 0, .int .i64 0, .slice none 0 0, .slice none 0 0], .bool false]) (by simp [results, Try.results45, go_sem, z0, z1, z2, z3, z4, z5]) rfl ⟨_, rfl, by rw [HR.out]; exact BigR.zero, sets6_below hb1 (by omega) _ _ _ _ _ _⟩
  | true =>
    rw [hq] at C
    have HQ := Lib.hid hq
    clear hq
    go_enter Try.func45, Try.ntmps45
    go_wp2_with fail
    rw [HWq0.out, HWq.out]
    go_wp2_with fail
    refine C.mono ?_
    rintro e w1 ⟨rfl, hb⟩
    have hb1 := HB0.out.trans (hb.mono HB0.out.size)
    have HB1 := Lib.hid hb1
    have HBx1 := Lib.hid (HBx0.out.on hb)
    have HBox1 := Lib.hid (HBox.out.on hb)
    have hsz1 : w.heap.size + 1 + 1 ≤ w1.heap.size := Nat.le_trans hsW hb.size
    clear hb hb1 C x0 x1 x2 x3 x4 x5 HBx0 HBox
    have hR2 := shdR_yes HQ.out
    have hlen2 := h2.len
    have hn2' : n2 ≤ 8 := by have := (good_sites HQ.out).2.2.2.2.2.2; omega
    have HCr := Lib.hid (fun w2 (hb2 : Below w.heap.size w w2) => ros_any A1 A2 A4 A5 n1 n2 n4 n5 c1 c2 c4 c5 cs b w w2 h1 h2 hb2 HQ.out)
    have HLr : Hid ((rnums b).length = n2) := Lib.hid (by rw [rnums_len]; exact hlen2)
    have HCp := Lib.hid (fun (g : Nat) (w2 : World) (hi : IntsAt w2 w2.heap.size (some ⟨g, 0, none⟩) n2 (rnums b)) => hR2.symm ▸ rnums_back b ▸ placing_any (some ⟨g, 0, none⟩) n2 n2 (rnums b) b.roots w2 hi hn2' (rnums_in HQ.out))
    obtain ⟨R0, hR0⟩ : ∃ r, shdR cs b = r := ⟨_, rfl⟩
    rw [hR0] at HCp
    have HR0 := Lib.hid hR0
    obtain ⟨x0, x1, x2, x3, x4, x5⟩ := HBox1.out.get
    clear hR2 hR0 hlen2
    have hkD := (Below.refl w1.heap.size w1).drew
    have hle : w.heap.size + 1 ≤ w.heap.size + 1 := Nat.le_refl _
    have hβl : w.heap.size < w.heap.size + 1 := Nat.lt_succ_self _
    have hs1 : w.heap.size + 1 ≤ w1.heap.size := by omega
    go_wp2_with fail
    go_region_held3 (fun w' => w'.cell? ⟨w.heap.size, 0, none⟩ = some (.int .i64 b.roots) ∧ w'.cell? ⟨w.heap.size, 1, none⟩ = some (.slice A1 n1 c1) ∧ w'.cell? ⟨w.heap.size, 2, none⟩ = some (.slice A2 n2 c2) ∧ w'.cell? ⟨w.heap.size, 3, none⟩ = some (.int .i64 b.edges) ∧ w'.cell? ⟨w.heap.size, 4, none⟩ = some (.slice A4 n4 c4) ∧ w'.cell? ⟨w.heap.size, 5, none⟩ = some (.slice A5 n5 c5)) (first | with_reducible exact (HBox1.out.below ((((((hkS.setCell hle _).setCell hle _).setCell hle _).setCell hle _).setCell hle _).setCell hle _) hβl).get | with_reducible exact (HBox1.out.on hk3).get | with_reducible exact (HBox1.out.on hk2).get | with_reducible exact (HBox1.out.on hkD).get)
      (first
       | (go_at_call 106; refine (HCr.out _ HB1.out.drew).mono ?_; rintro e w2 ⟨g, rfl, hg1, hg2, hrw, hb2⟩; have hk2 := hkD.trans (hb2.mono hkD.size))
       | (go_at_call 105; refine (HCp.out g w2 (ints_row hrw (Nat.le_refl _) hg2 HLr.out (fun _ _ => rfl))).mono ?_; rintro e w3 ⟨v3, rfl, hr, hb3⟩; have hk3 := hk2.trans (hb3.mono hk2.size); obtain ⟨B1, d1, B2, d2, B4, d4, B5, d5, rfl⟩ := hr.shape; have hkS := hk3.mono hs1; have HBx3 := HBx1.out.on hk3; obtain ⟨z0, z1, z2, z3, z4, z5⟩ := HBx3.get; have f0 := World.rowIs.frozen HBx3 0; have f1 := World.rowIs.frozen HBx3 1; have f2 := World.rowIs.frozen HBx3 2; have f3 := World.rowIs.frozen HBx3 3; have f4 := World.rowIs.frozen HBx3 4; have f5 := World.rowIs.frozen HBx3 5))
    have HBR := Lib.hid (hr.wide (lo' := w.heap.size) (Nat.le_trans HB1.out.size hk2.size) (Nat.le_refl _))
    have HBB := Lib.hid (HB1.out.trans (hk3.mono HB1.out.size))
    clear hr hk2 hk3 hkS hkD hb2 hb3 hrw
    go_wp2_with fail
    have hbig := (sets6_big HBx3 HBR.out (.int .i64 R0.roots) (.slice B1 R0.nodes.length d1) (.slice B2 R0.sites.length d2) (.int .i64 R0.edges) (.slice B4 R0.outer.length d4) (.slice B5 R0.inner.length d5)).here
    have hbel := sets6_below HBB.out (show w.heap.size ≤ w.heap.size + 1 from Nat.le_succ _) (.int .i64 R0.roots) (.slice B1 R0.nodes.length d1) (.slice B2 R0.sites.length d2) (.int .i64 R0.edges) (.slice B4 R0.outer.length d4) (.slice B5 R0.inner.length d5)
    unfold sets6 at hbig hbel
    refine bodyPost_ret (v := .tuple #[.agg #[.int .i64 R0.roots, .slice B1 R0.nodes.length d1, .slice B2 R0.sites.length d2, .int .i64 R0.edges, .slice B4 R0.outer.length d4, .slice B5 R0.inner.length d5], .bool true]) (by simp [results, Try.results45, go_sem, z0, z1, z2, z3, z4, z5]) rfl ⟨_, rfl, by rw [HR0.out]; exact hbig, hbel⟩

end Go.Proofs.Ytemahmnchcnfeaa.shd
