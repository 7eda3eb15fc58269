/- The points of a link: impl.PointsOf, walked. -/
import Derived.Test.YtlhickjlcmiknaaPon
import Derived.Maps.AppendAt
import Derived.Deep.RegionHeld3
namespace Go.Proofs.Ytlhickjlcmiknaa.poi
open kit bg opn strs only hb sg sig isig un gd inn ht hi cf pt ptm lf ib rs rt pts ha rp psp pon
open Go.RowKit
set_option linter.unusedVariables false

set_option maxRecDepth 20000 in
set_option maxHeartbeats 6400000 in
theorem iPt_any (A : Option Addr) (n c : Nat) (cs : List Ctl) (v : Value) (b : Big) (z : Int) (w : World) (hC : CtlsAt w w.heap.size A n cs) (hv : BigAt w w.heap.size v b) (hn : n ≤ 1048576) (hs : ∀ c ∈ cs, c.name.size ≤ 1048576) (hS : BigS b) (hw : BigW b) :
    Calls Try.prog 24 #[.slice A n c, v, .int .i64 z] w (PtPost (ptQ cs b z) (ptA cs b z) ((ptB cs b z).map Value.string) w) := by
  obtain ⟨A1, n1, c1, A2, n2, c2, A4, n4, c4, A5, n5, c5, rfl, h1, h2, h4, h5⟩ := hv
  have HBox : Hid (BoxAt (w.alloc (.cells #[.int .i64 b.roots, .slice A1 n1 c1, .slice A2 n2 c2, .int .i64 b.edges, .slice A4 n4 c4, .slice A5 n5 c5] 38)) w.heap.size 38 (.int .i64 b.roots) (.slice A1 n1 c1) (.slice A2 n2 c2) (.int .i64 b.edges) (.slice A4 n4 c4) (.slice A5 n5 c5)) := Lib.hid (six_new w _ _ _ _ _ _ _)
  have HB0 := Lib.hid ((Below.refl w.heap.size w).alloc (Nat.le_refl _) (.cells #[.int .i64 b.roots, .slice A1 n1 c1, .slice A2 n2 c2, .int .i64 b.edges, .slice A4 n4 c4, .slice A5 n5 c5] 38))
  obtain ⟨W, hW⟩ : ∃ W, w.alloc (.cells #[.int .i64 b.roots, .slice A1 n1 c1, .slice A2 n2 c2, .int .i64 b.edges, .slice A4 n4 c4, .slice A5 n5 c5] 38) = W := ⟨_, rfl⟩
  have hWz : W.heap.size = w.heap.size + 1 := by rw [← hW]; simp
  rw [hW] at HBox HB0
  have HWq := Lib.hid hW
  have hWs : w.heap.size < W.heap.size := by omega
  have hVW : BigAt W W.heap.size (.agg #[.int .i64 b.roots, .slice A1 n1 c1, .slice A2 n2 c2, .int .i64 b.edges, .slice A4 n4 c4, .slice A5 n5 c5]) b := BigAt.wide (BigAt.below ⟨_, _, _, _, _, _, _, _, _, _, _, _, rfl, h1, h2, h4, h5⟩ HB0.out) HB0.out.size
  clear hW hWz
  have C := isBig_any A n c cs _ b W ((hC.below HB0.out).wide HB0.out.size) hVW hn hs hS hw
  obtain ⟨x0, x1, x2, x3, x4, x5⟩ := HBox.out.get
  have l1 := h1.1
  have l4 := h4.strlen
  have l5 := h5.1
  have hLk := hS.2.1
  have hM1 : n1 ≤ 1048576 := by have := hS.1; omega
  clear hS hw hVW hs
  cases hq : bigB cs b with
  | false =>
    rw [hq] at C
    have hQ : ptQ cs b z = false := by unfold ptQ; rw [hq]; rfl
    have HR := Lib.hid (ptA_no hQ)
    have HR' := Lib.hid (ptB_no hQ)
    rw [hQ]
    clear hq hQ
    go_enter Try.func24, Try.ntmps24
    go_wp2_with fail
    rw [HWq.out]
    go_wp2_with fail
    refine C.mono ?_
    rintro e w1 ⟨rfl, hb⟩
    have hb1 := HB0.out.trans (hb.mono HB0.out.size)
    have hs1 : w.heap.size < w1.heap.size := Nat.lt_of_lt_of_le hWs hb.size
    have HBx1 := HBox.out.below hb hWs
    clear hb C x0 x1 x2 x3 x4 x5
    obtain ⟨x0, x1, x2, x3, x4, x5⟩ := HBx1.get
    go_wp2_with fail
    refine bodyPost_ret (results_tmp3 rfl _ _ _) rfl ?_
    exact ⟨.slice none 0 0, .slice none 0 0, rfl, by rw [HR.out, HR'.out]; exact TwoP.nil, hb1⟩
  | true =>
    rw [hq] at C
    have h8 := big8 hq
    rw [l1, l4, l5] at h8
    have hlb : linkB b z = inb z 0 (b.edges + n4 - 1) := by unfold linkB; rw [l4]
    cases hi : inb z 0 (b.edges + n4 - 1) with
    | false =>
      have hQ : ptQ cs b z = false := by unfold ptQ; rw [hq, hlb, hi]; rfl
      have HR := Lib.hid (ptA_no hQ)
      have HR' := Lib.hid (ptB_no hQ)
      rw [hQ]
      have HIs := Lib.hid (fun w => hi ▸ (ilk_any (.int .i64 b.roots) (.slice A1 n1 c1) (.slice A2 n2 c2) (.slice A5 n5 c5) b.edges z A4 n4 c4 w h8.2.1 h8.2.2.1))
      clear hq hQ hi hlb
      go_enter Try.func24, Try.ntmps24
      go_wp2_with fail
      rw [HWq.out]
      go_wp2_with fail
      refine C.mono ?_
      rintro e w1 ⟨rfl, hb⟩
      have hb1 := HB0.out.trans (hb.mono HB0.out.size)
      have hs1 : w.heap.size < w1.heap.size := Nat.lt_of_lt_of_le hWs hb.size
      have HBx1 := HBox.out.below hb hWs
      clear hb C x0 x1 x2 x3 x4 x5
      obtain ⟨x0, x1, x2, x3, x4, x5⟩ := HBx1.get
      go_wp2_with fail
      refine (HIs.out _).mono ?_
      rintro e w2 ⟨rfl, hb⟩
      have hb2 := hb1.trans (hb.mono hb1.size)
      have hs2 : w.heap.size < w2.heap.size := Nat.lt_of_lt_of_le hs1 hb.size
      have HBx2 := HBx1.below hb hs1
      clear hb hb1 x0 x1 x2 x3 x4 x5 HBx1 hs1
      obtain ⟨x0, x1, x2, x3, x4, x5⟩ := HBx2.get
      go_wp2_with fail
      refine bodyPost_ret (results_tmp3 rfl _ _ _) rfl ?_
      exact ⟨.slice none 0 0, .slice none 0 0, rfl, by rw [HR.out, HR'.out]; exact TwoP.nil, hb2⟩
    | true =>
      have hQ : ptQ cs b z = true := by unfold ptQ; rw [hq, hlb, hi]; rfl
      have hA2 := ptA_yes hQ
      have hB2 := ptB_yes hQ
      have hnp := ptA_len (cs := cs) (b := b) (z := z)
      have hNp : (ports b.nodes).length ≤ 24 := by
        have e2 := prtsTo_len (links3 (ptQ_big hQ)) b.nodes.length
        have e3 : b.nodes.length * 3 ≤ 8 * 3 := Nat.mul_le_mul_right _ (by omega)
        unfold ports
        omega
      rw [l5] at hB2
      have HA := Lib.hid hA2
      have HB := Lib.hid hB2
      have HK := Lib.hid (fun (Y : World) (hY : Below w.heap.size w Y) => pon_any (.agg #[.int .i64 b.roots, .slice A1 n1 c1, .slice A2 n2 c2, .int .i64 b.edges, .slice A4 n4 c4, .slice A5 n5 c5]) b z Y (BigAt.wide (BigAt.below ⟨_, _, _, _, _, _, _, _, _, _, _, _, rfl, h1, h2, h4, h5⟩ hY) hY.size) (by omega) hLk hNp)
      rw [hQ]
      have HIs := Lib.hid (fun w => hi ▸ (ilk_any (.int .i64 b.roots) (.slice A1 n1 c1) (.slice A2 n2 c2) (.slice A5 n5 c5) b.edges z A4 n4 c4 w h8.2.1 h8.2.2.1))
      obtain ⟨i0, hi0, hz0, hz1, hz2⟩ := info_parts str_info
      have HI := Lib.hid (And.intro hi0 (And.intro hz0 (And.intro hz1 hz2)))
      clear hq hQ hi hlb hA2 hB2 hLk hnp hNp hi0 hz0 hz1 hz2
      go_enter Try.func24, Try.ntmps24
      go_wp2_with fail
      rw [HWq.out]
      go_wp2_with fail
      refine C.mono ?_
      rintro e w1 ⟨rfl, hb⟩
      have hb1 := HB0.out.trans (hb.mono HB0.out.size)
      have hs1 : w.heap.size < w1.heap.size := Nat.lt_of_lt_of_le hWs hb.size
      have HBx1 := HBox.out.below hb hWs
      clear hb C x0 x1 x2 x3 x4 x5
      obtain ⟨x0, x1, x2, x3, x4, x5⟩ := HBx1.get
      go_wp2_with fail
      refine (HIs.out _).mono ?_
      rintro e w2 ⟨rfl, hb⟩
      have hb2 := hb1.trans (hb.mono hb1.size)
      have hs2 : w.heap.size < w2.heap.size := Nat.lt_of_lt_of_le hs1 hb.size
      have HBx2 := HBx1.below hb hs1
      clear hb hb1 x0 x1 x2 x3 x4 x5 HBx1 hs1
      obtain ⟨x0, x1, x2, x3, x4, x5⟩ := HBx2.get
      have HBx2h := Lib.hid HBx2
      clear HBx2
      go_wp2_with fail
      clear x0 x1 x2 x3 x4 x5
      go_loopw [9, 26] (fun v i wr => ∃ k : Nat, k ≤ n5 ∧ i = .int .i64 k ∧ Owns wr w2.heap.size 9 v ((ends b.inner z k).map Value.string) ∧ Below w2.heap.size w2 wr) (fun _ i _ => n5 - (intOf i).toNat)
      case atStart =>
        exact ⟨0, Nat.zero_le _, rfl, ⟨by
          have := World.ownsRow_made (base := w2.heap.size) (e := 9) (size := 1) w2 #[] 0 (Nat.le_refl _) (by unfold maxLen; omega) (by simp)
          simpa [ends] using this, by simp⟩, (Below.refl _ _).alloc (Nat.le_refl _) _⟩
      case round =>
        obtain ⟨k, hk, rfl, ⟨hown, hnn⟩, hbel⟩ := hrel
        have hsz := hbel.size
        have hbw : Below w.heap.size w wr := hb2.trans (hbel.mono hb2.size)
        by_cases hlt : k < n5
        · obtain ⟨b2, off, x, rfl, hbb, hx, c0, c1⟩ := h5.get hlt
          have d0 := (hbw.cell (p := ⟨b2, off + k * 2, none⟩) hbb).trans c0
          have d1 := (hbw.cell (p := ⟨b2, off + k * 2 + 1, none⟩) hbb).trans c1
          by_cases heq : x.link = z
          · have hsel := ends_yes hx heq
            have hlen := ends_len b.inner z k
            have hln : ((ends b.inner z k).map Value.string).length = (ends b.inner z k).length := List.length_map _
            rw [hln] at hown
            have HN := Lib.hid hnn
            obtain ⟨L, hL⟩ : ∃ L, (ends b.inner z k) = L := ⟨_, rfl⟩
            rw [hL] at hown hlen hsel
            have HS := Lib.hid hsel
            obtain ⟨m, hm⟩ : ∃ m, L.length = m := ⟨_, rfl⟩
            rw [hm] at hown hlen
            have HM := Lib.hid hm
            obtain ⟨D, hD⟩ : ∃ D, L.map Value.string = D := ⟨_, rfl⟩
            rw [hD] at hown
            have HD := Lib.hid hD
            clear hx hln hnn hsel hL hm hD c0 c1
            go_wp2_with (at_builtin; refine wpList_append_own _ rfl _ _ 25 rfl w2.heap.size 9 i0 (.string ⟨#[]⟩) 1 16 Try.underlying25 HI.out.1 HI.out.2.1 HI.out.2.2.1 HI.out.2.2.2 rfl (by decide) _ _ _ rfl ((hown.alloc _).alloc _) ⟨wr.heap.size + 1, 0, none⟩ 1 1 [.string x.name] rfl rfl (by have := cell_one_new (wr.alloc (.cells #[.string x.name, .int .i64 z] 85)) (.string x.name) 9; rw [World.size_alloc] at this; exact this) (fun x hx => by simp at hx; subst hx; rfl) (by unfold maxLen; omega) (by omega) (by simp; omega) ?_; intro v1 w3 hown1 hgrow1 hnil1)
            have hb3 := Lib.hid (((hbel.alloc (by omega) (.cells #[.string x.name, .int .i64 z] 85)).alloc (by simp; omega) (.cells #[.string x.name] 9)).grown hgrow1 (by simp; omega) (fun j hj => (hown.lt j hj).1))
            have HOwn := Lib.hid hown1
            have HN1 : Hid (v1 ≠ .slice none 0 0) := fun h => HN.out (hnil1.1 h).1
            clear hown1 hgrow1 hnil1 hown
            go_wp2_with fail
            go_roundw
            case rel => exact ⟨k + 1, by omega, by go_num, ⟨by
              have := HOwn.out
              rw [HS.out, List.map_append, HD.out, List.map_cons, List.map_nil, List.length_append, List.length_singleton]
              have e : D.length = m := by rw [← HD.out, List.length_map]; exact HM.out
              rw [e]
              exact this, HN1.out⟩, hb3.out⟩
            case measure => simp [intOf]; omega
          · have hsel := ends_no hx heq
            have HOwn := Lib.hid (show Owns wr w2.heap.size 9 _ _ from ⟨hown, hnn⟩)
            rw [← hsel] at HOwn
            have HBl := Lib.hid (hbel.alloc (by omega) (.cells #[.string x.name, .int .i64 x.link] 85))
            have HOw2 := Lib.hid (show Owns (wr.alloc (.cells #[.string x.name, .int .i64 x.link] 85)) w2.heap.size 9 _ _ from ⟨HOwn.out.1.alloc _, HOwn.out.2⟩)
            clear hx hown hnn hsel c0 c1
            go_wp2_with fail
            go_roundw
            case rel => exact ⟨k + 1, by omega, by go_num, HOw2.out, HBl.out⟩
            case measure => simp [intOf]; omega
        · obtain rfl : k = n5 := by omega
          have HOwn := Lib.hid (show Owns wr w2.heap.size 9 _ _ from ⟨hown, hnn⟩)
          have C9 := HK.out wr hbw
          have HBw := Lib.hid hbw
          obtain ⟨x0, x1, x2, x3, x4, x5⟩ := (HBx2h.out.below hbel hs2).get
          clear hown hnn hbw
          go_wp2_with fail
          refine C9.mono ?_
          rintro e w9 ⟨u, rfl, ho3, hb9⟩
          obtain ⟨g3, l3, -, q3, r3⟩ := ResP.one ho3
          obtain ⟨g4, l4', -, q4, r4⟩ := Res.one HOwn.out
          have hb09 := HBw.out.trans (hb9.mono HBw.out.size)
          have HT := Lib.hid (show TwoP w9 w.heap.size u _ _ _ from ⟨g3, g4, by omega, by omega, by omega, r3, r4.on hb9⟩)
          clear r3 r4 ho3 q3 q4 l3 l4' hb9 C9 x0 x1 x2 x3 x4 x5
          go_wp2_with fail
          refine bodyPost_ret (results_tmp3 rfl _ _ _) rfl ?_
          exact ⟨_, _, rfl, by rw [HA.out, HB.out]; exact HT.out, hb09⟩
end Go.Proofs.Ytlhickjlcmiknaa.poi
