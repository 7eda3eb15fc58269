/- The children of a place: impl.childrenOf, impl.ChildrenOf. -/
import Derived.Test.YtfjgapkjpmkplaaQc
import Derived.Test.YtfjgapkjpmkplaaQf
import Derived.Maps.AppendAt
import Derived.Deep.RegionHeld3
namespace Go.Proofs.Ytfjgapkjpmkplaa.chk
open kit bg opn strs only hb sg sig isig un gd inn ht hi cf ib rs rt abv anc chd
open Go.RowKit
set_option linter.unusedVariables false

set_option maxRecDepth 20000 in
set_option maxHeartbeats 6400000 in
theorem kch_any (v : Value) (b : Big) (z : Int) (w : World) (hv : BigAt w w.heap.size v b) (hzn : b.nodes.length ≤ 8) (hzs : b.sites.length ≤ 4) :
    Calls Try.prog 132 #[v, .int .i64 z] w fun e w' => ∃ u v, e = .returned (.tuple #[u, v]) ∧ Two w' w.heap.size 3 3 u v ((sel (kidP b.nodes z) b.nodes.length).map (Value.int .i64)) ((sel (siteP b.sites z) b.sites.length).map (Value.int .i64)) ∧ Below w.heap.size w w' := by
  obtain ⟨i0, hi0, hz0, hz1, hz2⟩ := info_parts int_info
  have HI := Lib.hid (And.intro hi0 (And.intro hz0 (And.intro hz1 hz2)))
  clear hi0 hz0 hz1 hz2
  obtain ⟨A1, n1, c1, A2, n2, c2, A4, n4, c4, A5, n5, c5, rfl, h1, h2, h4, h5⟩ := hv
  have HBox : Hid (BoxAt (w.alloc (.cells #[.int .i64 b.roots, .slice A1 n1 c1, .slice A2 n2 c2, .int .i64 b.edges, .slice A4 n4 c4, .slice A5 n5 c5] 39)) w.heap.size 39 (.int .i64 b.roots) (.slice A1 n1 c1) (.slice A2 n2 c2) (.int .i64 b.edges) (.slice A4 n4 c4) (.slice A5 n5 c5)) := Lib.hid (six_new w _ _ _ _ _ _ _)
  have HB0 := Lib.hid ((Below.refl w.heap.size w).alloc (Nat.le_refl _) (.cells #[.int .i64 b.roots, .slice A1 n1 c1, .slice A2 n2 c2, .int .i64 b.edges, .slice A4 n4 c4, .slice A5 n5 c5] 39))
  obtain ⟨W, hW⟩ : ∃ W, w.alloc (.cells #[.int .i64 b.roots, .slice A1 n1 c1, .slice A2 n2 c2, .int .i64 b.edges, .slice A4 n4 c4, .slice A5 n5 c5] 39) = W := ⟨_, rfl⟩
  have hWz : W.heap.size = w.heap.size + 1 := by rw [← hW]; simp
  rw [hW] at HBox HB0
  have HWq := Lib.hid hW
  have hWs : w.heap.size < W.heap.size := by omega
  have hVW : BigAt W W.heap.size (.agg #[.int .i64 b.roots, .slice A1 n1 c1, .slice A2 n2 c2, .int .i64 b.edges, .slice A4 n4 c4, .slice A5 n5 c5]) b := BigAt.wide (BigAt.below ⟨_, _, _, _, _, _, _, _, _, _, _, _, rfl, h1, h2, h4, h5⟩ HB0.out) HB0.out.size
  clear hW hVW
  have l1 := h1.1
  have l2 := h2.len
  have hz1 := hzn
  have hz2 := hzs
  rw [l1] at hz1 ⊢
  rw [l2] at hz2 ⊢
  clear hzn hzs l1 l2
  have hbz := HB0.out
  have HBxz := HBox.out
  have hsz := hWs
  go_enter Try.func132, Try.ntmps132
  go_wp2_with fail
  rw [HWq.out]
  rw [← hWz]
  obtain ⟨wz, hwz⟩ : ∃ wz, W = wz := ⟨_, rfl⟩
  rw [hwz] at hbz HBxz hsz ⊢
  clear hwz HWq HB0 HBox hWs hWz
  obtain ⟨x0, x1, x2, x3, x4, x5⟩ := HBxz.get
  have HW := Lib.hid (And.intro hbz HBxz)
  have hz0 : w.heap.size ≤ wz.heap.size := hbz.size
  clear x0 x1 x2 x3 x4 x5
  have hb4 := ((Below.refl wz.heap.size wz).alloc (Nat.le_refl _) (.cells #[] 3)).alloc (by simp) (.cells #[] 3)
  have ho9 : Owns ((wz.alloc (.cells #[] 3)).alloc (.cells #[] 3)) wz.heap.size 3 (.slice (some ⟨wz.heap.size, 0, none⟩) 0 0) ([] : List Value) := ⟨(World.ownsRow_made (base := wz.heap.size) (e := 3) (size := 1) wz #[] 0 (Nat.le_refl _) (by unfold maxLen; omega) (by simp)).alloc _, by simp⟩
  have hr10 := row_new (wz.alloc (.cells #[] 3)) #[] 3 0 rfl
  rw [World.size_alloc] at hr10
  obtain ⟨y0, y1, y2, y3, y4, y5⟩ := HW.out.2.get
  go_wp2_with fail
  obtain ⟨w4, hw4⟩ : ∃ w4, (wz.alloc (.cells #[] 3)).alloc (.cells #[] 3) = w4 := ⟨_, rfl⟩
  rw [hw4] at hb4 ho9 hr10 ⊢
  clear hw4 y0 y1 y2 y3 y4 y5
  go_loopw [6, 17] (fun v i wr => ∃ k : Nat, k ≤ n1 ∧ i = .int .i64 k ∧ Owns wr wz.heap.size 3 v ((sel (kidP b.nodes z) k).map (Value.int .i64)) ∧ v.ownBlock ≠ some (wz.heap.size + 1) ∧ (∃ f, wr.rowIs (wz.heap.size + 1) 3 0 f) ∧ Below wz.heap.size wz wr) (fun _ i _ => n1 - (intOf i).toNat)
  case atStart => exact ⟨0, Nat.zero_le _, rfl, by simpa [sel] using ho9, by simp [Value.ownBlock], ⟨_, hr10⟩, hb4⟩
  case round =>
    obtain ⟨k, hk, rfl, ⟨hown, hnn⟩, hne, ⟨f10, hr⟩, hbel⟩ := hrel
    have hszr := hr.lt
    have hbw := HW.out.1.trans (hbel.mono HW.out.1.size)
    obtain ⟨x0, x1, x2, x3, x4, x5⟩ := (HW.out.2.below hbel hsz).get
    by_cases hlt : k < n1
    · obtain ⟨b1, off, x, rfl, hbb, hx, c0, c1', L1, mL, cL, c2', -⟩ := h1.get hlt
      have d0 := (hbw.cell (p := ⟨b1, off + k * 3, none⟩) hbb).trans c0
      have d1 := (hbw.cell (p := ⟨b1, off + k * 3 + 1, none⟩) hbb).trans c1'
      have d2 := (hbw.cell (p := ⟨b1, off + k * 3 + 2, none⟩) hbb).trans c2'
      have hkid := kid_at (p := z) hx
      obtain ⟨xc, hxc⟩ : ∃ xc, x.control = xc := ⟨_, rfl⟩
      obtain ⟨xp, hxp⟩ : ∃ xp, x.parent = xp := ⟨_, rfl⟩
      rw [hxc] at d0
      rw [hxp] at d1 hkid
      clear hx c0 c1' c2' hxc hxp
      by_cases heq : xp = z
      · have hsel := sel_yes (P := kidP b.nodes z) (k := k) (hkid.trans (decide_eq_true heq))
        have heq' := heq.symm
        subst heq'
        have hlen := sel_len (kidP b.nodes z) k
        have hln : ((sel (kidP b.nodes z) k).map (Value.int .i64)).length = (sel (kidP b.nodes z) k).length := List.length_map _
        rw [hln] at hown
        have HN := Lib.hid hnn
        obtain ⟨L, hL⟩ : ∃ L, (sel (kidP b.nodes z) k) = L := ⟨_, rfl⟩
        rw [hL] at hown hlen hsel
        have HS := Lib.hid hsel
        obtain ⟨m, hm⟩ : ∃ m, L.length = m := ⟨_, rfl⟩
        rw [hm] at hown hlen
        have HM := Lib.hid hm
        obtain ⟨D, hD⟩ : ∃ D, L.map (Value.int .i64) = D := ⟨_, rfl⟩
        rw [hD] at hown
        have HD := Lib.hid hD
        clear hln hnn hsel hL hm hD hkid
        go_wp2_with (at_builtin; refine wpList_append_own_at _ rfl _ _ 24 rfl wz.heap.size 3 i0 (.int .i64 0) 1 8 Try.underlying24 HI.out.1 HI.out.2.1 HI.out.2.2.1 HI.out.2.2.2 rfl (by decide) _ _ _ rfl ((hown.alloc _).alloc _) ⟨wr.heap.size + 1, 0, none⟩ 1 1 [.int .i64 (k : Int)] rfl rfl (by have := cell_one_new (wr.alloc (.cells #[.int .i64 xc, .int .i64 z, .slice L1 mL cL] 146)) (.int .i64 (k : Int)) 3; rw [World.size_alloc] at this; exact this) (fun x hx => by simp at hx; subst hx; rfl) (by unfold maxLen; omega) (by omega) (by simp; omega) ?_; intro v1 w1 hown1 hgrow1 hnil1 hat1)
        have hb1 := Lib.hid (((hbel.alloc (by omega) (.cells #[.int .i64 xc, .int .i64 z, .slice L1 mL cL] 146)).alloc (by simp; omega) (.cells #[.int .i64 (k : Int)] 3)).grown hgrow1 (by simp; omega) (fun j hj => (hown.lt j hj).1))
        have HOwn := Lib.hid hown1
        have HN1 : Hid (v1 ≠ .slice none 0 0) := fun h => HN.out (hnil1.1 h).1
        have HNe : Hid (v1.ownBlock ≠ some (wz.heap.size + 1)) := Lib.hid (by
          rcases hat1 with e | e
          · rw [e]; exact hne
          · rw [e]; simp; omega)
        have HRow : Hid (∃ f, w1.rowIs (wz.heap.size + 1) 3 0 f) := Lib.hid ⟨_, ((hr.alloc _).alloc _).of_block (hgrow1.block _ (by simp; omega) (fun e => by first | exact hne e | exact hne e.symm))⟩
        clear hown1 hgrow1 hnil1 hown hat1
        go_wp2_with fail
        go_roundw
        case rel => exact ⟨k + 1, by omega, by go_num, ⟨by
          have := HOwn.out
          rw [HS.out, List.map_append, HD.out, List.map_cons, List.map_nil, List.length_append, List.length_singleton]
          have e : D.length = m := by rw [← HD.out, List.length_map]; exact HM.out
          rw [e]
          exact this, HN1.out⟩, HNe.out, HRow.out, hb1.out⟩
        case measure => simp [intOf]; omega
      · have hsel := sel_no (P := kidP b.nodes z) (k := k) (hkid.trans (decide_eq_false heq))
        have HOwn := Lib.hid (show Owns (wr.alloc (.cells #[.int .i64 xc, .int .i64 xp, .slice L1 mL cL] 146)) wz.heap.size 3 _ _ from ⟨hown.alloc _, hnn⟩)
        rw [← hsel] at HOwn
        have HB5 := Lib.hid (hbel.alloc (by omega) (.cells #[.int .i64 xc, .int .i64 xp, .slice L1 mL cL] 146))
        have HRow := Lib.hid (hr.alloc (.cells #[.int .i64 xc, .int .i64 xp, .slice L1 mL cL] 146))
        clear hown hnn hsel hkid
        go_wp2_with fail
        go_roundw
        case rel => exact ⟨k + 1, by omega, by go_num, HOwn.out, hne, ⟨_, HRow.out⟩, HB5.out⟩
        case measure => simp [intOf]; omega
    · obtain rfl : k = n1 := by omega
      obtain ⟨g9, l9, e9, q9, r9⟩ := Res.one (show Owns wr wz.heap.size 3 _ ((sel (kidP b.nodes z) k).map (Value.int .i64)) from ⟨hown, hnn⟩)
      have hne9 : g9 ≠ wz.heap.size + 1 := fun e => hne (by rw [e9, e])
      have HR9 := Lib.hid r9
      have hown0 : Owns wr wz.heap.size 3 (.slice (some ⟨wz.heap.size + 1, 0, none⟩) 0 0) ([] : List Value) := by
        obtain ⟨cells, hh, hsz2, -⟩ := hr
        exact ⟨⟨rfl, .inr ⟨wz.heap.size + 1, 0, cells, rfl, by omega, hh, Nat.le_refl _, by unfold maxLen; omega, by simpa using hsz2, by simp⟩⟩, by simp⟩
      have HB5 := Lib.hid hbel
      clear hown hnn hne r9 hbw hr
      go_wp2_with fail
      clear x0 x1 x2 x3 x4 x5
      rename World => wp
      go_loopw [7, 34] (fun v' i wq => ∃ k : Nat, k ≤ n2 ∧ i = .int .i64 k ∧ Owns wq wz.heap.size 3 v' ((sel (siteP b.sites z) k).map (Value.int .i64)) ∧ v'.ownBlock ≠ some g9 ∧ wq.heap[g9]? = wp.heap[g9]? ∧ g9 < wq.heap.size ∧ Below wz.heap.size wz wq) (fun _ i _ => n2 - (intOf i).toNat)
      case atStart => exact ⟨0, Nat.zero_le _, rfl, by simpa [sel] using hown0, by simp [Value.ownBlock]; omega, rfl, q9, HB5.out⟩
      case round =>
        obtain ⟨j, hj, rfl, ⟨hown, hnn⟩, hne, hkeep, hg9, hbel⟩ := hrel
        have hbw := HW.out.1.trans (hbel.mono HW.out.1.size)
        obtain ⟨x0, x1, x2, x3, x4, x5⟩ := (HW.out.2.below hbel hsz).get
        have hsz4 := hbel.size
        by_cases hlt : j < n2
        · obtain ⟨b1, off, u, rfl, hbb, hx, c0⟩ := IntsAt.get h2 hlt
          have d0 := (hbw.cell (p := ⟨b1, off + j, none⟩) hbb).trans c0
          have hkid := site_at (p := z) hx
          clear hx c0
          by_cases heq : u = z
          · have hsel := sel_yes (P := siteP b.sites z) (k := j) (hkid.trans (decide_eq_true heq))
            have hlen := sel_len (siteP b.sites z) j
            have hln : ((sel (siteP b.sites z) j).map (Value.int .i64)).length = (sel (siteP b.sites z) j).length := List.length_map _
            rw [hln] at hown
            have HN := Lib.hid hnn
            obtain ⟨L, hL⟩ : ∃ L, (sel (siteP b.sites z) j) = L := ⟨_, rfl⟩
            rw [hL] at hown hlen hsel
            have HS := Lib.hid hsel
            obtain ⟨m, hm⟩ : ∃ m, L.length = m := ⟨_, rfl⟩
            rw [hm] at hown hlen
            have HM := Lib.hid hm
            obtain ⟨D, hD⟩ : ∃ D, L.map (Value.int .i64) = D := ⟨_, rfl⟩
            rw [hD] at hown
            have HD := Lib.hid hD
            have HKp := Lib.hid hkeep
            clear hln hnn hsel hL hm hD hkid hkeep
            go_wp2_with (at_builtin; refine wpList_append_own_at _ rfl _ _ 24 rfl wz.heap.size 3 i0 (.int .i64 0) 1 8 Try.underlying24 HI.out.1 HI.out.2.1 HI.out.2.2.1 HI.out.2.2.2 rfl (by decide) _ _ _ rfl (hown.alloc _) ⟨wr.heap.size, 0, none⟩ 1 1 [.int .i64 (j : Int)] rfl rfl (cell_one_new _ _ _) (fun x hx => by simp at hx; subst hx; rfl) (by unfold maxLen; omega) (by omega) (by simp; omega) ?_; intro v1 w1 hown1 hgrow1 hnil1 hat1)
            have hb1 := Lib.hid ((hbel.alloc (by omega) (.cells #[.int .i64 (j : Int)] 3)).grown hgrow1 (by simp; omega) (fun j hj => (hown.lt j hj).1))
            have HOwn := Lib.hid hown1
            have HN1 : Hid (v1 ≠ .slice none 0 0) := fun h => HN.out (hnil1.1 h).1
            have HNe : Hid (v1.ownBlock ≠ some g9) := Lib.hid (by
              rcases hat1 with e | e
              · rw [e]; exact hne
              · rw [e]; simp; omega)
            have HKeep : Hid (w1.heap[g9]? = wp.heap[g9]? ∧ g9 < w1.heap.size) := Lib.hid ⟨(hgrow1.block _ (by simp; omega) (fun e => by first | exact hne e | exact hne e.symm)).trans ((((Below.refl wr.heap.size wr).alloc (Nat.le_refl _) _).block g9 hg9).trans HKp.out), Nat.lt_of_lt_of_le (show g9 < (wr.alloc (.cells #[.int .i64 (j : Int)] 3)).heap.size by simp; omega) hgrow1.size⟩
            clear hown1 hgrow1 hnil1 hown hat1
            go_wp2_with fail
            go_roundw
            case rel => exact ⟨j + 1, by omega, by go_num, ⟨by
              have := HOwn.out
              rw [HS.out, List.map_append, HD.out, List.map_cons, List.map_nil, List.length_append, List.length_singleton]
              have e : D.length = m := by rw [← HD.out, List.length_map]; exact HM.out
              rw [e]
              exact this, HN1.out⟩, HNe.out, HKeep.out.1, HKeep.out.2, hb1.out⟩
            case measure => simp [intOf]; omega
          · have hsel := sel_no (P := siteP b.sites z) (k := j) (hkid.trans (decide_eq_false heq))
            have HOwn := Lib.hid (show Owns wr wz.heap.size 3 _ _ from ⟨hown, hnn⟩)
            rw [← hsel] at HOwn
            have HB6 := Lib.hid hbel
            have HKp := Lib.hid hkeep
            clear hown hnn hsel hkid hkeep
            go_wp2_with fail
            go_roundw
            case rel => exact ⟨j + 1, by omega, by go_num, HOwn.out, hne, HKp.out, hg9, HB6.out⟩
            case measure => simp [intOf]; omega
        · obtain rfl : j = n2 := by omega
          obtain ⟨g10, l10, e10, q10, r10⟩ := Res.one (show Owns wr wz.heap.size 3 _ _ from ⟨hown, hnn⟩)
          have hne10 : g9 ≠ g10 := fun e => hne (by rw [e10, e])
          have HT := Lib.hid (show Two wr w.heap.size 3 3 _ _ _ _ from ⟨g9, g10, hne10, by omega, by omega, HR9.out.stay (fun b f c hr h1 h2 => by
            obtain rfl : b = g9 := by omega
            exact hkeep), r10⟩)
          clear hown hnn hne r10 hkeep
          go_wp2_with fail
          refine bodyPost_ret (results_tmp2 rfl _ _ _) rfl ?_
          exact ⟨_, _, rfl, HT.out, hbw⟩
end Go.Proofs.Ytfjgapkjpmkplaa.chk

