/- The idle links: spec.l2Idle, spec.IdleLinks. -/
import Derived.Test.YtdejbacfgcahlaaPsp
import Derived.Test.YtdejbacfgcahlaaChd
namespace Go.Proofs.Ytdejbacfgcahlaa.idl
open kit bg opn strs only hb sg sig isig un gd inn ht hi cf pt ib rs rt pts psp chd
open Go.RowKit
set_option linter.unusedVariables false

/-- whether a link has no points -/
def idleB (b : Big) (l : Int) : Bool := decide ((onL l (ports b.nodes)).length = 0) && decide ((ends b.inner l b.inner.length).length = 0)
def idleP (b : Big) (i : Nat) : Bool := idleB b (i : Int)
noncomputable def idlR (cs : List Ctl) (b : Big) : List Int := if bigB cs b = true then sel (idleP b) (b.edges + b.outer.length).toNat else []
theorem idlR_no {cs : List Ctl} {b : Big} (h : bigB cs b = false) : idlR cs b = [] := by unfold idlR; rw [h]; rfl
theorem idlR_yes {cs : List Ctl} {b : Big} (h : bigB cs b = true) : idlR cs b = sel (idleP b) (b.edges + b.outer.length).toNat := by unfold idlR; rw [if_pos h]
theorem idlR_len {cs : List Ctl} {b : Big} : (idlR cs b).length ≤ 1048576 := by
  cases hq : bigB cs b with
  | false => rw [idlR_no hq]; simp
  | true =>
    rw [idlR_yes hq]
    have := sel_len (idleP b) (b.edges + b.outer.length).toNat
    have := big8 hq
    omega

theorem Owns.on {w w' : World} {B : Nat} {t : TypeId} {v : Value} {ys : List Value} (h : Owns w B t v ys) (hb : Below w.heap.size w w') : Owns w' B t v ys := by
  obtain ⟨⟨a1, a2⟩, a3⟩ := h
  refine ⟨⟨a1, ?_⟩, a3⟩
  rcases a2 with ⟨e, _⟩ | ⟨g, cap, cur, e, hbb, hh, rr⟩
  · exact absurd e a3
  · exact .inr ⟨g, cap, cur, e, hbb, (hb.block g (Array.getElem?_eq_some_iff.1 hh).1).trans hh, rr⟩
theorem ResP_len {w : World} {B : Nat} {v : Value} {ps : List Port} (h : OwnsP w B v ps) : ∃ g cap, B ≤ g ∧ g < w.heap.size ∧ v = .slice (some ⟨g, 0, none⟩) ps.length cap := by
  obtain ⟨⟨h1, h2⟩, hn⟩ := h
  rcases h2 with ⟨e, _⟩ | ⟨g, cap, cur, rfl, hb, hh, hc, hm, hs, ht⟩
  · exact absurd e hn
  · exact ⟨g, cap, hb, (Array.getElem?_eq_some_iff.1 hh).1, rfl⟩

set_option maxRecDepth 20000 in
set_option maxHeartbeats 1600000 in
theorem idle_any (A1 A4 A5 : Option Addr) (n1 n4 n5 c1 c4 c5 : Nat) (v0 v2 v3 : Value) (b : Big) (l : Int) (w0 w : World) (h1 : NdsAt w0 w0.heap.size A1 n1 b.nodes) (h5 : WrsAt w0 w0.heap.size A5 n5 b.inner) (hb0 : Below w0.heap.size w0 w) (hn1 : n1 ≤ 8) (hn5 : n5 ≤ 16) (hl : ∀ x ∈ b.nodes, x.links.length ≤ 3) :
    Calls Try.prog 105 #[.agg #[v0, .slice A1 n1 c1, v2, v3, .slice A4 n4 c4, .slice A5 n5 c5], .int .i64 l] w (Post (idleB b l) w) := by
  have HBox : Hid (BoxAt (w.alloc (.cells #[v0, .slice A1 n1 c1, v2, v3, .slice A4 n4 c4, .slice A5 n5 c5] 40)) w.heap.size 40 v0 (.slice A1 n1 c1) v2 v3 (.slice A4 n4 c4) (.slice A5 n5 c5)) := Lib.hid (six_new w _ _ _ _ _ _ _)
  have HB0 := Lib.hid ((Below.refl w.heap.size w).alloc (Nat.le_refl _) (.cells #[v0, .slice A1 n1 c1, v2, v3, .slice A4 n4 c4, .slice A5 n5 c5] 40))
  obtain ⟨W, hW⟩ : ∃ W, w.alloc (.cells #[v0, .slice A1 n1 c1, v2, v3, .slice A4 n4 c4, .slice A5 n5 c5] 40) = W := ⟨_, rfl⟩
  have hWz : W.heap.size = w.heap.size + 1 := by rw [← hW]; simp
  rw [hW] at HBox HB0
  have HWq := Lib.hid hW
  have hWs : w.heap.size < W.heap.size := by omega
  have hbW := hb0.trans (HB0.out.mono hb0.size)
  have l5 := h5.1
  have HLk := Lib.hid (show ∀ x ∈ b.nodes, x.links.length ≤ 1048576 from fun x hx => Nat.le_trans (hl x hx) (by omega))
  have hbp : (onL l (ports b.nodes)).length ≤ 24 := by
    have h9 := onL_len l (ports b.nodes)
    have h2 := prtsTo_len hl b.nodes.length
    have h3 : b.nodes.length * 3 ≤ 8 * 3 := Nat.mul_le_mul_right _ (by have := h1.1; omega)
    unfold ports at h9 ⊢
    omega
  have hbe := ends_len b.inner l n5
  obtain ⟨P, hP⟩ : ∃ P, onL l (ports b.nodes) = P := ⟨_, rfl⟩
  obtain ⟨N, hN⟩ : ∃ N, ends b.inner l n5 = N := ⟨_, rfl⟩
  have hid : idleB b l = (decide (P.length = 0) && decide (N.length = 0)) := by unfold idleB; rw [hP, l5, hN]
  have HPo := Lib.hid (fun w2 hb2 => hP ▸ ports_any v0 v2 v3 (.slice A4 n4 c4) (.slice A5 n5 c5) A1 n1 c1 b.nodes l w0 w2 h1 hb2 hn1 HLk.out)
  have HEn := Lib.hid (fun w2 hb2 => hN ▸ ends_any v0 (.slice A1 n1 c1) v2 v3 (.slice A4 n4 c4) A5 n5 c5 b.inner l w0 w2 h5 hb2 (by omega))
  rw [hP] at hbp
  rw [hN] at hbe
  rw [hid]
  have hnl : (N.map Value.string).length = N.length := List.length_map _
  have HNl := Lib.hid hnl
  obtain ⟨np, hnp⟩ : ∃ np, P.length = np := ⟨_, rfl⟩
  obtain ⟨ne, hne⟩ : ∃ ne, N.length = ne := ⟨_, rfl⟩
  rw [hnp] at hbp ⊢
  rw [hne] at hbe ⊢
  have HNp := Lib.hid hnp
  have HNe := Lib.hid hne
  obtain ⟨x0, x1, x2, x3, x4, x5⟩ := HBox.out.get
  clear hW hWz hP hN hid hnl hnp hne hb0
  go_enter Try.func105, Try.ntmps105
  go_wp2_with fail
  rw [HWq.out]
  go_wp2_with fail
  refine (HPo.out _ hbW).mono ?_
  rintro e w1 ⟨v1, rfl, ho1, hb1⟩
  obtain ⟨g1, k1, -, -, r1⟩ := ResP_len ho1
  have hb01 := HB0.out.trans (hb1.mono HB0.out.size)
  have hbW1 := hbW.trans (hb1.mono hbW.size)
  have HBx1 := HBox.out.below hb1 hWs
  rw [HNp.out] at r1
  subst r1
  clear ho1 x0 x1 x2 x3 x4 x5 hb1
  obtain ⟨x0, x1, x2, x3, x4, x5⟩ := HBx1.get
  by_cases hz : np = 0
  · subst hz
    go_wp2_with fail
    refine (HEn.out _ hbW1).mono ?_
    rintro e w2 ⟨v2', rfl, ho2, hb2⟩
    obtain ⟨g2, cap2, rfl, -, -, hc2, -⟩ := ho2.at
    have hb02 := hb01.trans (hb2.mono hb01.size)
    rw [HNl.out, HNe.out] at hc2 ⊢
    clear ho2 hb2 x0 x1 x2 x3 x4 x5
    by_cases hz2 : ne = 0
    · subst hz2
      go_wp2_with fail
      go_ret
      exact ⟨rfl, hb02⟩
    · go_wp2_with fail
      go_ret
      exact ⟨by simp [hz2], hb02⟩
  · go_wp2_with fail
    go_ret
    exact ⟨by simp [hz], hb01⟩

set_option maxRecDepth 20000 in
set_option maxHeartbeats 3200000 in
theorem sIdl_any (A : Option Addr) (n c : Nat) (cs : List Ctl) (v : Value) (b : Big) (w : World) (hC : CtlsAt w w.heap.size A n cs) (hv : BigAt w w.heap.size v b) (hn : n ≤ 1048576) (hs : ∀ c ∈ cs, c.name.size ≤ 1048576) (hS : BigS b) (hw : BigW b) :
    Calls Try.prog 53 #[.slice A n c, v] w (ResPost 3 (bigB cs b) ((idlR cs b).map (Value.int .i64)) w) := by
  obtain ⟨i0, hi0, hz0, hz1, hz2⟩ := info_parts int_info
  have HI := Lib.hid (And.intro hi0 (And.intro hz0 (And.intro hz1 hz2)))
  clear hi0 hz0 hz1 hz2
  obtain ⟨A1, n1, c1, A2, n2, c2, A4, n4, c4, A5, n5, c5, rfl, h1, h2, h4, h5⟩ := hv
  have HBox : Hid (BoxAt (w.alloc (.cells #[.int .i64 b.roots, .slice A1 n1 c1, .slice A2 n2 c2, .int .i64 b.edges, .slice A4 n4 c4, .slice A5 n5 c5] 40)) w.heap.size 40 (.int .i64 b.roots) (.slice A1 n1 c1) (.slice A2 n2 c2) (.int .i64 b.edges) (.slice A4 n4 c4) (.slice A5 n5 c5)) := Lib.hid (six_new w _ _ _ _ _ _ _)
  have HB0 := Lib.hid ((Below.refl w.heap.size w).alloc (Nat.le_refl _) (.cells #[.int .i64 b.roots, .slice A1 n1 c1, .slice A2 n2 c2, .int .i64 b.edges, .slice A4 n4 c4, .slice A5 n5 c5] 40))
  obtain ⟨W, hW⟩ : ∃ W, w.alloc (.cells #[.int .i64 b.roots, .slice A1 n1 c1, .slice A2 n2 c2, .int .i64 b.edges, .slice A4 n4 c4, .slice A5 n5 c5] 40) = W := ⟨_, rfl⟩
  have hWz : W.heap.size = w.heap.size + 1 := by rw [← hW]; simp
  rw [hW] at HBox HB0
  have HWq := Lib.hid hW
  have hWs : w.heap.size < W.heap.size := by omega
  have hVW : BigAt W W.heap.size (.agg #[.int .i64 b.roots, .slice A1 n1 c1, .slice A2 n2 c2, .int .i64 b.edges, .slice A4 n4 c4, .slice A5 n5 c5]) b := BigAt.wide (BigAt.below ⟨_, _, _, _, _, _, _, _, _, _, _, _, rfl, h1, h2, h4, h5⟩ HB0.out) HB0.out.size
  clear hW hWz
  have hWz : W.heap.size = w.heap.size + 1 := by rw [← HWq.out]; simp
  have hbE := (Below.refl W.heap.size W).alloc (Nat.le_refl _) (.cells #[] 3)
  have hCE := CtlsAt.wide ((hC.below HB0.out).wide HB0.out.size |>.below hbE) hbE.size
  have C := l2Good_any A n c cs _ b (W.alloc (.cells #[] 3)) hCE ((hVW.below hbE).wide hbE.size) hn hs hS hw
  have hown0 : Owns (W.alloc (.cells #[] 3)) W.heap.size 3 (.slice (some ⟨W.heap.size, 0, none⟩) 0 0) ([] : List Value) := ⟨World.ownsRow_made (base := W.heap.size) (e := 3) (size := 1) W #[] 0 (Nat.le_refl _) (by unfold maxLen; omega) (by simp), by simp⟩
  obtain ⟨WE, hWE⟩ : ∃ WE, W.alloc (.cells #[] 3) = WE := ⟨_, rfl⟩
  rw [hWE] at hbE C hown0
  rw [hWz] at hown0
  have HWE := Lib.hid hWE
  have HBE := Lib.hid (HB0.out.trans (hbE.mono HB0.out.size))
  have HBoxE := Lib.hid (HBox.out.below hbE hWs)
  have hWEs : w.heap.size < WE.heap.size := Nat.lt_of_lt_of_le hWs hbE.size
  have hWWE : W.heap.size ≤ WE.heap.size := hbE.size
  obtain ⟨z0, z1, z2, z3, z4, z5⟩ := HBox.out.get
  obtain ⟨x0, x1, x2, x3, x4, x5⟩ := HBoxE.out.get
  have l1 := h1.1
  have l4 := h4.strlen
  have l5 := h5.1
  clear hS hw hVW hs hWE hCE
  cases hq : bigB cs b with
  | false =>
    rw [hq] at C
    have HR := Lib.hid (idlR_no hq)
    clear hq
    go_enter Try.func53, Try.ntmps53
    go_wp2_with fail
    rw [HWq.out]
    go_wp2_with fail
    rw [HWE.out]
    refine C.mono ?_
    rintro e w1 ⟨rfl, hb⟩
    have hb1 := HBE.out.trans (hb.mono HBE.out.size)
    have hown1 : Owns w1 (w.heap.size + 1) 3 _ ([] : List Value) := ⟨(show World.ownsRow _ _ _ _ _ _ _ from by
      obtain ⟨⟨a1, a2⟩, a3⟩ := hown0
      rcases a2 with ⟨e, _⟩ | ⟨g, cap, cur, e, hbb, hh, rr⟩
      · exact absurd e a3
      · exact ⟨a1, .inr ⟨g, cap, cur, e, hbb, (hb.block g (Array.getElem?_eq_some_iff.1 hh).1).trans hh, rr⟩⟩), hown0.2⟩
    have HO := Lib.hid ((Res.of_owns hown1).wide (lo' := w.heap.size) (Nat.le_succ _) (Nat.le_refl _))
    clear hb C x0 x1 x2 x3 x4 x5 z0 z1 z2 z3 z4 z5 hown0 hown1
    go_wp2_with fail
    refine bodyPost_ret (results_tmp2 rfl _ _ _) rfl ?_
    exact ⟨_, rfl, by rw [HR.out]; exact HO.out, hb1⟩
  | true =>
    rw [hq] at C
    have h8 := big8 hq
    rw [l1, l4, l5] at h8
    obtain ⟨h81, ⟨h82, h83⟩, h84, h85⟩ := h8
    have HL3 := Lib.hid (links3 hq)
    have hR2 := idlR_yes hq
    rw [l4] at hR2
    have HR := Lib.hid hR2
    obtain ⟨E, hE⟩ : ∃ E, b.edges = E := ⟨_, rfl⟩
    rw [hE] at h82 h83 HR HBox HBoxE HWq x3 z3 C ⊢
    have HId := Lib.hid (fun (k : Nat) (w2 : World) hb2 => idle_any A1 A4 A5 n1 n4 n5 c1 c4 c5 (.int .i64 b.roots) (.slice A2 n2 c2) (.int .i64 E) b (k : Int) w w2 h1 h5 hb2 h81 h85 HL3.out)
    have HBq := Lib.hid HB0.out
    clear hq hR2 hE HB0
    go_enter Try.func53, Try.ntmps53
    go_wp2_with fail
    rw [HWq.out]
    go_wp2_with fail
    rw [HWE.out]
    refine C.mono ?_
    rintro e w1 ⟨rfl, hb⟩
    have hW1 := hbE.trans (hb.mono hWWE)
    have hown1 : Owns w1 (w.heap.size + 1) 3 _ ([] : List Value) := ⟨(show World.ownsRow _ _ _ _ _ _ _ from by
      obtain ⟨⟨a1, a2⟩, a3⟩ := hown0
      rcases a2 with ⟨e, _⟩ | ⟨g, cap, cur, e, hbb, hh, rr⟩
      · exact absurd e a3
      · exact ⟨a1, .inr ⟨g, cap, cur, e, hbb, (hb.block g (Array.getElem?_eq_some_iff.1 hh).1).trans hh, rr⟩⟩), hown0.2⟩
    have HOwn1 := Lib.hid hown1
    clear hb C x0 x1 x2 x3 x4 x5 z0 z1 z2 z3 z4 z5 hown0 hown1
    go_wp2_with fail
    go_loopw [6, 7] (fun v i wr => ∃ k : Nat, (k : Int) ≤ E + n4 ∧ i = .int .i64 k ∧ Owns wr (w.heap.size + 1) 3 v ((sel (idleP b) k).map (Value.int .i64)) ∧ Below W.heap.size W wr) (fun _ i _ => (E + n4).toNat - (intOf i).toNat)
    case atStart => exact ⟨0, by omega, rfl, by simpa [sel] using HOwn1.out, hW1⟩
    case round =>
      obtain ⟨k, hk, rfl, ⟨hown, hnn⟩, hbel⟩ := hrel
      obtain ⟨x0, x1, x2, x3, x4, x5⟩ := (HBox.out.below hbel hWs).get
      have hbw := HBq.out.trans (hbel.mono HBq.out.size)
      have hszw := hbel.size
      have C2 := HId.out k wr hbw
      by_cases hlt : (k : Int) < E + n4
      · cases hid : idleB b (k : Int) with
        | false =>
          rw [hid] at C2
          have hsel := sel_no (P := idleP b) (k := k) hid
          have hk8 : k ≤ 24 := by omega
          clear hid
          go_wp2_with fail
          refine C2.mono ?_
          rintro e w2 ⟨rfl, hb2⟩
          have HOwn := Lib.hid (show Owns w2 (w.heap.size + 1) 3 _ _ from Owns.on ⟨hown, hnn⟩ hb2)
          rw [← hsel] at HOwn
          have HB := Lib.hid (hbel.trans (hb2.mono hszw))
          clear hown hnn hsel C2 hb2 hbel hbw x0 x1 x2 x3 x4 x5
          go_wp2_with fail
          go_roundw
          case rel => exact ⟨k + 1, by omega, by go_num, HOwn.out, HB.out⟩
          case measure => simp [intOf]; omega
        | true =>
          rw [hid] at C2
          have hsel := sel_yes (P := idleP b) (k := k) hid
          have hk8 : k ≤ 24 := by omega
          have hlen := sel_len (idleP b) k
          clear hid
          go_wp2_with fail
          refine C2.mono ?_
          rintro e w2 ⟨rfl, hb2⟩
          obtain ⟨hown, hnn⟩ := Owns.on ⟨hown, hnn⟩ hb2
          have hB2 := hbel.trans (hb2.mono hszw)
          have hln : ((sel (idleP b) k).map (Value.int .i64)).length = (sel (idleP b) k).length := List.length_map _
          rw [hln] at hown
          have HN := Lib.hid hnn
          obtain ⟨L, hL⟩ : ∃ L, (sel (idleP b) k) = L := ⟨_, rfl⟩
          rw [hL] at hown hlen hsel
          have HS := Lib.hid hsel
          obtain ⟨m, hm⟩ : ∃ m, L.length = m := ⟨_, rfl⟩
          rw [hm] at hown hlen
          have HM := Lib.hid hm
          obtain ⟨D, hD⟩ : ∃ D, L.map (Value.int .i64) = D := ⟨_, rfl⟩
          rw [hD] at hown
          have HD := Lib.hid hD
          have hz2 := hB2.size
          clear hln hnn hsel hL hm hD C2 hb2 hbel hbw x0 x1 x2 x3 x4 x5
          go_wp2_with (at_builtin; refine wpList_append_own _ rfl _ _ 30 rfl (w.heap.size + 1) 3 i0 (.int .i64 0) 1 8 Try.underlying30 HI.out.1 HI.out.2.1 HI.out.2.2.1 HI.out.2.2.2 rfl (by decide) _ _ _ rfl (hown.alloc _) ⟨w2.heap.size, 0, none⟩ 1 1 [.int .i64 (k : Int)] rfl rfl (cell_one_new _ _ _) (fun x hx => by simp at hx; subst hx; rfl) (by unfold maxLen; omega) (by omega) (by simp; omega) ?_; intro v1 w3 hown1 hgrow1 hnil1)
          have hb1 := Lib.hid ((hB2.alloc hz2 (.cells #[.int .i64 (k : Int)] 3)).grown hgrow1 (by simp; omega) (fun j hj => by have := (hown.lt j hj).1; omega))
          have HOwn := Lib.hid hown1
          have HN1 : Hid (v1 ≠ .slice none 0 0) := fun h => HN.out (hnil1.1 h).1
          clear hown1 hgrow1 hnil1 hown
          go_wp2_with fail
          go_roundw
          case rel => exact ⟨k + 1, by omega, by go_num, ⟨by
            have := HOwn.out
            rw [HS.out, List.map_append, HD.out, List.map_cons, List.map_nil, List.length_append, List.length_singleton]
            have e : D.length = m := by rw [← HD.out, List.length_map]; exact HM.out
            rw [e]
            exact this, HN1.out⟩, hb1.out⟩
          case measure => simp [intOf]; omega
      · have hkE : (E + n4).toNat = k := by omega
        rw [hkE] at HR
        have HO := Lib.hid ((Res.of_owns (show Owns wr (w.heap.size + 1) 3 _ _ from ⟨hown, hnn⟩)).wide (lo' := w.heap.size) (Nat.le_succ _) (Nat.le_refl _))
        clear hown hnn C2
        go_wp2_with fail
        refine bodyPost_ret (results_tmp2 rfl _ _ _) rfl ?_
        exact ⟨_, rfl, by rw [HR.out]; exact HO.out, hbw⟩
end Go.Proofs.Ytdejbacfgcahlaa.idl

