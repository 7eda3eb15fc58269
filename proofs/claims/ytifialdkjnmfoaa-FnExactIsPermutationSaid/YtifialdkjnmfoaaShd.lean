/- The roots over the sites: impl.rootsOverSites; ShadowOf of spec and impl. -/
import Derived.Test.YtifialdkjnmfoaaTp
import Derived.Test.YtifialdkjnmfoaaPl
import Derived.Test.YtifialdkjnmfoaaMb
namespace Go.Proofs.Ytifialdkjnmfoaa.shd
open kit bg sg opn strs only hb sig isig un over gn nm inn ht gd im pt marks eqs hc hi hw hn rs br bm bw cf lf ib lawb lw cl pl abv tp mb
open Go.RowKit
set_option linter.unusedVariables false

/-- the numbers of the roots over the sites -/
def rnums (b : Big) : List Int := (tops b).map fun z => -1 - z
theorem rnums_at {b : Big} {i : Nat} {z : Int} (h : b.sites[i]? = some z) : (rnums b)[i]? = some (-1 - topF b.nodes b.nodes.length z) := by unfold rnums; rw [List.getElem?_map, tops_at h]; rfl
theorem rnums_len (b : Big) : (rnums b).length = b.sites.length := by unfold rnums tops; simp

set_option maxRecDepth 20000 in
set_option maxHeartbeats 3200000 in
theorem ros_any (A1 A2 A4 A5 : Option Addr) (n1 n2 n4 n5 c1 c2 c4 c5 : Nat) (cs : List Ctl) (b : Big) (w0 w : World) (h1 : NdsAt w0 w0.heap.size A1 n1 b.nodes) (h2 : IntsAt w0 w0.heap.size A2 n2 b.sites) (hb0 : Below w0.heap.size w0 w) (hg : bigB cs b = true) :
    Calls Try.prog 179 #[.agg #[.int .i64 b.roots, .slice A1 n1 c1, .slice A2 n2 c2, .int .i64 b.edges, .slice A4 n4 c4, .slice A5 n5 c5]] w fun e w' => ∃ g, e = .returned (.slice (some ⟨g, 0, none⟩) n2 n2) ∧ w.heap.size ≤ g ∧ g < w'.heap.size ∧ w'.rowIs g 3 n2 (iat (rnums b)) ∧ Below w.heap.size w w' := by
  have HG := Lib.hid hg
  have HGs := Lib.hid (good_sites hg)
  have l1 := h1.1
  have l2 := h2.len
  have hn2 : n2 ≤ 4 := by have := HGs.out.2.2.2.2.2.2; omega
  have hn1 : n1 ≤ 8 := by have := HGs.out.2.2.2.2.2.1; omega
  have hmk := fun W => run_make_row' (P := Try.prog) 24 3 (.int .i64 0) 8 Try.underlying24 int_info rfl .i64 .i64 n2 (by omega) (by omega) W
  have HL1 := Lib.hid l1
  have hbx := (Below.refl w.heap.size w).alloc (Nat.le_refl _) (.cells #[.int .i64 b.roots, .slice A1 n1 c1, .slice A2 n2 c2, .int .i64 b.edges, .slice A4 n4 c4, .slice A5 n5 c5] 39)
  have HBox : Hid (BoxAt (w.alloc (.cells #[.int .i64 b.roots, .slice A1 n1 c1, .slice A2 n2 c2, .int .i64 b.edges, .slice A4 n4 c4, .slice A5 n5 c5] 39)) w.heap.size 39 (.int .i64 b.roots) (.slice A1 n1 c1) (.slice A2 n2 c2) (.int .i64 b.edges) (.slice A4 n4 c4) (.slice A5 n5 c5)) := Lib.hid (six_new w _ _ _ _ _ _ _)
  obtain ⟨W, hW⟩ : ∃ W, w.alloc (.cells #[.int .i64 b.roots, .slice A1 n1 c1, .slice A2 n2 c2, .int .i64 b.edges, .slice A4 n4 c4, .slice A5 n5 c5] 39) = W := ⟨_, rfl⟩
  have hWz : W.heap.size = w.heap.size + 1 := by rw [← hW]; simp
  rw [hW] at hbx HBox
  have HWq := Lib.hid hW
  have HB0 := Lib.hid hbx
  have HWz := Lib.hid hWz
  have hmade := World.rowIs_made W (.int .i64 0) n2 3
  rw [hWz] at hmade
  have HMade := Lib.hid hmade
  obtain ⟨x0, x1, x2, x3, x4, x5⟩ := HBox.out.get
  clear hg hbx hW hWz l1 l2 hmade
  go_enter Try.func179, Try.ntmps179
  go_wp2_with fail
  rw [HWq.out]
  clear hmk x0 x1 x2 x3 x4 x5
  go_loopw [13] (fun i wr => ∃ k : Nat, k ≤ n2 ∧ i = .int .i64 k ∧ wr.rowIs (w.heap.size + 1) 3 n2 (fun j => if j < k then iat (rnums b) j else .int .i64 0) ∧ Below W.heap.size W wr) (fun i _ => n2 - (intOf i).toNat)
  case atStart => exact ⟨0, Nat.zero_le _, rfl, (HMade.out).congr (fun _ _ => by simp), (Below.refl _ _).alloc (Nat.le_refl _) _⟩
  case round =>
    obtain ⟨k, hk, rfl, hrow, hbel⟩ := hrel
    obtain ⟨wo, rfl⟩ : ∃ wo : World, wo = wr := ⟨_, rfl⟩
    have hbw := hb0.trans ((HB0.out.trans (hbel.mono HB0.out.size)).mono hb0.size)
    have HBelw := Lib.hid (HB0.out.trans (hbel.mono HB0.out.size))
    by_cases hlt : k < n2
    · obtain ⟨b2, off, z, rfl, hbb, hx, c0'⟩ := h2.get hlt
      have d0 := (hbw.cell (p := ⟨b2, off + k, none⟩) hbb).trans c0'
      obtain ⟨x0, x1, x2, x3, x4, x5⟩ := (HBox.out.on hbel).get
      have hz := (HGs.out.2.2.1 k z hx).2
      rw [HL1.out] at hz
      have htop := tops_in HG.out hx
      rw [HL1.out] at htop
      have HA : Hid (iat (rnums b) k = .int .i64 (-1 - topF b.nodes n1 z)) := Lib.hid (by rw [iat_of (rnums_at hx), HL1.out])
      obtain ⟨T, hT⟩ : ∃ T, topF b.nodes n1 z = T := ⟨_, rfl⟩
      rw [hT] at htop HA
      have HT := Lib.hid hT
      obtain ⟨ht1, ht2⟩ := htop
      have hcell := hrow.cell hlt
      have hfz := hrow.frozen k
      have HRow := Lib.hid (hrow.set k (.int .i64 (-1 - T)))
      have HBs := Lib.hid (hbel.setCell (p := ⟨w.heap.size + 1, k, none⟩) (by rw [HWz.out]; exact Nat.le_refl _) (.int .i64 (-1 - T)))
      clear hx c0' hrow hbel hT
      go_wp2_with fail
      go_loopw [5] (fun p wi => ∃ (f : Nat) (y : Int), p = .int .i64 y ∧ y < f ∧ f ≤ n1 ∧ topF b.nodes f y = T ∧ wo = wi) (fun p _ => (intOf p + 1).toNat)
      case atStart => exact ⟨n1, z, rfl, hz, Nat.le_refl _, HT.out, rfl⟩
      case round =>
        obtain ⟨f, y, rfl, hyf, hfn, hty, rfl⟩ := hrel
        have HY := Lib.hid hty
        clear hty
        by_cases hneg : y < 0
        · obtain rfl : y = T := by rw [← HY.out, topF_neg hneg]
          clear d0 x0 x1 x2 x3 x4 x5
          go_wp2_with fail
          go_roundw
          case rel =>
            refine ⟨k + 1, by omega, by go_num, HRow.out.congr (fun j hj => ?_), HBs.out⟩
            show (if j = k then _ else if j < k then _ else _) = if j < k + 1 then _ else _
            by_cases e : j = k
            · subst e; rw [if_pos rfl, if_pos (by omega), HA.out]
            · rw [if_neg e]
              by_cases e2 : j < k
              · rw [if_pos e2, if_pos (by omega)]
              · rw [if_neg e2, if_neg (by omega)]
          case measure => simp [intOf]; omega
        · obtain ⟨m, rfl⟩ : ∃ m : Nat, y = m := ⟨y.toNat, by omega⟩
          have hmn : m < n1 := by omega
          obtain ⟨b3, off3, x, e3, hbb3, hx3, -, c1', -⟩ := h1.get hmn
          have d1 := (hbw.cell (p := ⟨b3, off3 + m * 3 + 1, none⟩) hbb3).trans c1'
          obtain ⟨f', rfl⟩ : ∃ f', f = f' + 1 := ⟨f - 1, by omega⟩
          have hxp := HGs.out.1 m x hx3
          have HS := Lib.hid (show topF b.nodes f' x.parent = T by rw [← HY.out, topF_step hx3])
          have HP := Lib.hid (And.intro hxp (And.intro hyf hfn))
          obtain ⟨pp, hpp⟩ : ∃ pp, x.parent = pp := ⟨_, rfl⟩
          rw [hpp] at d1 HS HP
          rw [e3] at x1
          clear hx3 c1' hxp hpp hyf hcell hfz d0
          go_wp2_with fail
          go_roundw
          case rel => exact ⟨f', pp, rfl, by have := HP.out; omega, by have := HP.out; omega, HS.out, by first | trivial | rfl⟩
          case measure => have := HP.out; simp [intOf]; omega
    · obtain rfl : k = n2 := by omega
      have HRw := Lib.hid (hrow.congr (g := iat (rnums b)) (fun j hj => if_pos hj))
      clear hrow hbel
      go_wp2_with fail
      go_ret
      exact ⟨_, rfl, by omega, HRw.out.lt, HRw.out, HBelw.out⟩

theorem rnums_back (b : Big) : (rnums b).map (fun z => -1 - z) = tops b := by
  unfold rnums
  rw [List.map_map]
  have : ((fun z : Int => -1 - z) ∘ fun z : Int => -1 - z) = id := by
    funext z
    show -1 - (-1 - z) = z
    omega
  rw [this, List.map_id]
noncomputable def shdR (cs : List Ctl) (b : Big) : Big := if bigB cs b = true then placing b.roots (tops b) else zeroBig
theorem shdR_no {cs : List Ctl} {b : Big} (h : bigB cs b = false) : shdR cs b = zeroBig := by unfold shdR; rw [h]; rfl
theorem shdR_yes {cs : List Ctl} {b : Big} (h : bigB cs b = true) : shdR cs b = placing b.roots (tops b) := by unfold shdR; rw [if_pos h]
theorem tops_len (b : Big) : (tops b).length = b.sites.length := by unfold tops; simp
theorem shd_len (cs : List Ctl) (b : Big) : bigMk (shdR cs b) ≤ 1048576 := by
  cases h : bigB cs b with
  | false => rw [shdR_no h]; exact zero_len
  | true => rw [shdR_yes h]; exact placing_len (by rw [tops_len]; have := (good_sites h).2.2.2.2.2.2; omega)
theorem rnums_in {cs : List Ctl} {b : Big} (h : bigB cs b = true) : ∀ z ∈ rnums b, -9 ≤ z ∧ z ≤ 9 := by
  intro z hz
  unfold rnums tops at hz
  rw [List.map_map] at hz
  obtain ⟨s, hs, rfl⟩ := List.mem_map.1 hz
  obtain ⟨i, hi⟩ := List.getElem?_of_mem hs
  have := tops_in h hi
  show -9 ≤ -1 - topF b.nodes b.nodes.length s ∧ -1 - topF b.nodes b.nodes.length s ≤ 9
  omega

end Go.Proofs.Ytifialdkjnmfoaa.shd
