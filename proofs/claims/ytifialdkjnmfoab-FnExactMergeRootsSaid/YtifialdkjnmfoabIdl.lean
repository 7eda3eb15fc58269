/- The idle links: spec.l2Idle, spec.IdleLinks. -/
import Derived.Test.YtifialdkjnmfoabPsp
import Derived.Test.YtifialdkjnmfoabChd
namespace Go.Proofs.Ytifialdkjnmfoab.idl
open kit bg opn strs only hb sg sig isig un gd inn ht hi cf pt ib rs rt pts psp chd
open Go.RowKit
set_option linter.unusedVariables false

/-- whether a link has no points -/
def idleB (b : Big) (l : Int) : Bool := decide ((onL l (ports b.nodes)).length = 0) && decide ((ends b.inner l b.inner.length).length = 0)
def idleP (b : Big) (i : Nat) : Bool := idleB b (i : Int)
noncomputable def idlR (cs : List Ctl) (b : Big) : List Int := if bigB cs b = true then sel (idleP b) (b.edges + b.outer.length).toNat else []
theorem idlR_no {cs : List Ctl} {b : Big} (h : bigB cs b = false) : idlR cs b = [] := by unfold idlR; rw [h]; rfl
theorem idlR_yes {cs : List Ctl} {b : Big} (h : bigB cs b = true) : idlR cs b = sel (idleP b) (b.edges + b.outer.length).toNat := by unfold idlR; rw [if_pos h]
theorem idlR_len {cs : List Ctl} {b : Big} : (idlR cs b).length ≤ 1048576 := by
  cases hq : bigB cs b with
  | false => rw [idlR_no hq]; simp
  | true =>
    rw [idlR_yes hq]
    have := sel_len (idleP b) (b.edges + b.outer.length).toNat
    have := big8 hq
    omega

theorem Owns.on {w w' : World} {B : Nat} {t : TypeId} {v : Value} {ys : List Value} (h : Owns w B t v ys) (hb : Below w.heap.size w w') : Owns w' B t v ys := by
  obtain ⟨⟨a1, a2⟩, a3⟩ := h
  refine ⟨⟨a1, ?_⟩, a3⟩
  rcases a2 with ⟨e, _⟩ | ⟨g, cap, cur, e, hbb, hh, rr⟩
  · exact absurd e a3
  · exact .inr ⟨g, cap, cur, e, hbb, (hb.block g (Array.getElem?_eq_some_iff.1 hh).1).trans hh, rr⟩
theorem ResP_len {w : World} {B : Nat} {v : Value} {ps : List Port} (h : OwnsP w B v ps) : ∃ g cap, B ≤ g ∧ g < w.heap.size ∧ v = .slice (some ⟨g, 0, none⟩) ps.length cap := by
  obtain ⟨⟨h1, h2⟩, hn⟩ := h
  rcases h2 with ⟨e, _⟩ | ⟨g, cap, cur, rfl, hb, hh, hc, hm, hs, ht⟩
  · exact absurd e hn
  · exact ⟨g, cap, hb, (Array.getElem?_eq_some_iff.1 hh).1, rfl⟩

set_option maxRecDepth 20000 in
set_option maxHeartbeats 1600000 in
theorem idle_any (A1 A4 A5 : Option Addr) (n1 n4 n5 c1 c4 c5 : Nat) (v0 v2 v3 : Value) (b : Big) (l : Int) (w0 w : World) (h1 : NdsAt w0 w0.heap.size A1 n1 b.nodes) (h5 : WrsAt w0 w0.heap.size A5 n5 b.inner) (hb0 : Below w0.heap.size w0 w) (hn1 : n1 ≤ 8) (hn5 : n5 ≤ 16) (hl : ∀ x ∈ b.nodes, x.links.length ≤ 3) :
    Calls Try.prog 97 #[.agg #[v0, .slice A1 n1 c1, v2, v3, .slice A4 n4 c4, .slice A5 n5 c5], .int .i64 l] w (Post (idleB b l) w) := by
  have HBox : Hid (BoxAt (w.alloc (.cells #[v0, .slice A1 n1 c1, v2, v3, .slice A4 n4 c4, .slice A5 n5 c5] 34)) w.heap.size 34 v0 (.slice A1 n1 c1) v2 v3 (.slice A4 n4 c4) (.slice A5 n5 c5)) := Lib.hid (six_new w _ _ _ _ _ _ _)
  have HB0 := Lib.hid ((Below.refl w.heap.size w).alloc (Nat.le_refl _) (.cells #[v0, .slice A1 n1 c1, v2, v3, .slice A4 n4 c4, .slice A5 n5 c5] 34))
  obtain ⟨W, hW⟩ : ∃ W, w.alloc (.cells #[v0, .slice A1 n1 c1, v2, v3, .slice A4 n4 c4, .slice A5 n5 c5] 34) = W := ⟨_, rfl⟩
  have hWz : W.heap.size = w.heap.size + 1 := by rw [← hW]; simp
  rw [hW] at HBox HB0
  have HWq := Lib.hid hW
  have hWs : w.heap.size < W.heap.size := by omega
  have hbW := hb0.trans (HB0.out.mono hb0.size)
  have l5 := h5.1
  have HLk := Lib.hid (show ∀ x ∈ b.nodes, x.links.length ≤ 1048576 from fun x hx => Nat.le_trans (hl x hx) (by omega))
  have hbp : (onL l (ports b.nodes)).length ≤ 24 := by
    have h9 := onL_len l (ports b.nodes)
    have h2 := prtsTo_len hl b.nodes.length
    have h3 : b.nodes.length * 3 ≤ 8 * 3 := Nat.mul_le_mul_right _ (by have := h1.1; omega)
    unfold ports at h9 ⊢
    omega
  have hbe := ends_len b.inner l n5
  obtain ⟨P, hP⟩ : ∃ P, onL l (ports b.nodes) = P := ⟨_, rfl⟩
  obtain ⟨N, hN⟩ : ∃ N, ends b.inner l n5 = N := ⟨_, rfl⟩
  have hid : idleB b l = (decide (P.length = 0) && decide (N.length = 0)) := by unfold idleB; rw [hP, l5, hN]
  have HPo := Lib.hid (fun w2 hb2 => hP ▸ ports_any v0 v2 v3 (.slice A4 n4 c4) (.slice A5 n5 c5) A1 n1 c1 b.nodes l w0 w2 h1 hb2 hn1 HLk.out)
  have HEn := Lib.hid (fun w2 hb2 => hN ▸ ends_any v0 (.slice A1 n1 c1) v2 v3 (.slice A4 n4 c4) A5 n5 c5 b.inner l w0 w2 h5 hb2 (by omega))
  rw [hP] at hbp
  rw [hN] at hbe
  rw [hid]
  have hnl : (N.map Value.string).length = N.length := List.length_map _
  have HNl := Lib.hid hnl
  obtain ⟨np, hnp⟩ : ∃ np, P.length = np := ⟨_, rfl⟩
  obtain ⟨ne, hne⟩ : ∃ ne, N.length = ne := ⟨_, rfl⟩
  rw [hnp] at hbp ⊢
  rw [hne] at hbe ⊢
  have HNp := Lib.hid hnp
  have HNe := Lib.hid hne
  obtain ⟨x0, x1, x2, x3, x4, x5⟩ := HBox.out.get
  clear hW hWz hP hN hid hnl hnp hne hb0
  go_enter Try.func97, Try.ntmps97
  go_wp2_with fail
  rw [HWq.out]
  go_wp2_with fail
  refine (HPo.out _ hbW).mono ?_
  rintro e w1 ⟨v1, rfl, ho1, hb1⟩
  obtain ⟨g1, k1, -, -, r1⟩ := ResP_len ho1
  have hb01 := HB0.out.trans (hb1.mono HB0.out.size)
  have hbW1 := hbW.trans (hb1.mono hbW.size)
  have HBx1 := HBox.out.below hb1 hWs
  rw [HNp.out] at r1
  subst r1
  clear ho1 x0 x1 x2 x3 x4 x5 hb1
  obtain ⟨x0, x1, x2, x3, x4, x5⟩ := HBx1.get
  by_cases hz : np = 0
  · subst hz
    go_wp2_with fail
    refine (HEn.out _ hbW1).mono ?_
    rintro e w2 ⟨v2', rfl, ho2, hb2⟩
    obtain ⟨g2, cap2, rfl, -, -, hc2, -⟩ := ho2.at
    have hb02 := hb01.trans (hb2.mono hb01.size)
    rw [HNl.out, HNe.out] at hc2 ⊢
    clear ho2 hb2 x0 x1 x2 x3 x4 x5
    by_cases hz2 : ne = 0
    · subst hz2
      go_wp2_with fail
      go_ret
      exact ⟨rfl, hb02⟩
    · go_wp2_with fail
      go_ret
      exact ⟨by simp [hz2], hb02⟩
  · go_wp2_with fail
    go_ret
    exact ⟨by simp [hz], hb01⟩

end Go.Proofs.Ytifialdkjnmfoab.idl

