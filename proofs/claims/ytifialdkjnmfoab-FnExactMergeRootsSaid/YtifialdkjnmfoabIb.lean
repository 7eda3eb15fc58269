/- Whether a Bigraph is valid: impl.IsBigraph. -/
import Derived.Test.YtifialdkjnmfoabLf
import Derived.Test.YtifialdkjnmfoabISig
namespace Go.Proofs.Ytifialdkjnmfoab.ib
open kit bg sg sig isig only un hb opn over gn nm inn ht gd im pt cf lf
open Go.RowKit
set_option linter.unusedVariables false

theorem mem_prts {k m : Nat} {ls : List Int} {p : Port} (h : p ∈ prts k ls m) : ∃ i, i < m ∧ p = (k, i, ls.getD i 0) := by
  unfold prts at h
  obtain ⟨i, hi, rfl⟩ := List.mem_map.1 h
  exact ⟨i, List.mem_range.1 hi, rfl⟩
theorem mem_prtsTo {ns : List Nd} {m : Nat} {p : Port} (h : p ∈ prtsTo ns m) : ∃ (k : Nat) (x : Nd) (i : Nat), ns[k]? = some x ∧ x.links[i]? = some p.2.2 := by
  induction m with
  | zero => cases h
  | succ m ih =>
    rcases List.mem_append.1 h with h | h
    · exact ih h
    · cases hx : ns[m]? with
      | none => rw [hx] at h; cases h
      | some x =>
        rw [hx] at h
        obtain ⟨i, hi, rfl⟩ := mem_prts h
        have : x.links[i]? = some (x.links[i]) := List.getElem?_eq_getElem hi
        exact ⟨m, x, i, hx, by simp [List.getD, this]⟩
theorem prtsTo_mem {ns : List Nd} {k i m : Nat} {x : Nd} {l : Int} (hx : ns[k]? = some x) (hl : x.links[i]? = some l) (hk : k < m) : (k, i, l) ∈ prtsTo ns m := by
  have hi : i < x.links.length := (List.getElem?_eq_some_iff.1 hl).1
  have h1 : (k, i, l) ∈ prtsTo ns (k + 1) := by
    rw [prtsTo_succ hx]
    refine List.mem_append.2 (.inr ?_)
    unfold prts
    exact List.mem_map.2 ⟨i, List.mem_range.2 hi, by simp [List.getD, hl]⟩
  exact (prtsTo_prefix ns (show k + 1 ≤ m by omega)).subset h1

theorem big_parts (cs : List Ctl) (b : Big) : bigB cs b = (sigB cs && sizesB b && placesB cs b && linksB cs b && namesB b.outer && namesB (nms b.inner)) := by
  cases hq : (sigB cs && sizesB b && placesB cs b && linksB cs b && namesB b.outer && namesB (nms b.inner)) with
  | true =>
    simp only [Bool.and_eq_true] at hq
    obtain ⟨⟨⟨⟨⟨h1, h2⟩, h3⟩, h4⟩, h5⟩, h6⟩ := hq
    have p3 := places_of h3
    have p4 := links_of h4
    refine big_true ⟨sig_of h1, h2, names_of h5, names_of h6, fun k x hx => ⟨p3.1 k x hx, p4.1 k x hx, fun i l hl => ?_⟩, p3.2, fun i x hx => p4.2.2 i x (List.getElem?_eq_some_iff.1 hx).1 hx⟩
    exact p4.2.1 (k, i, l) (prtsTo_mem hx hl (List.getElem?_eq_some_iff.1 hx).1)
  | false =>
    refine big_false (fun hp => ?_)
    obtain ⟨h1, h2, h3, h4, h5, h6, h7⟩ := hp
    have g3 := places_true (cs := cs) (b := b) ⟨fun k x hx => (h5 k x hx).1, h6⟩
    have g4 := links_true (cs := cs) (b := b) ⟨fun k x hx => (h5 k x hx).2.1, fun p hp => by
      obtain ⟨k, x, i, hx, hl⟩ := mem_prtsTo hp
      exact (h5 k x hx).2.2 i _ hl, fun j x _ hx => h7 j x hx⟩
    have g5 := names_true h3
    have g6 : namesB (nms b.inner) = true := names_true h4
    rw [sig_true h1, h2, g3, g4, g5, g6] at hq
    cases hq

set_option maxRecDepth 100000 in
set_option maxHeartbeats 6400000 in
theorem isBig_any (A : Option Addr) (n c : Nat) (cs : List Ctl) (v : Value) (b : Big) (w : World) (hC : CtlsAt w w.heap.size A n cs) (hv : BigAt w w.heap.size v b) (hn : n ≤ 1048576) (hs : ∀ c ∈ cs, c.name.size ≤ 1048576) (hS : BigS b) (hw : BigW b) :
    Calls Try.prog 37 #[.slice A n c, v] w (Post (bigB cs b) w) := by
  obtain ⟨A1, n1, c1, A2, n2, c2, A4, n4, c4, A5, n5, c5, rfl, h1, h2, h4, h5⟩ := hv
  obtain ⟨s1, sl, s2, s4, ss4, s5, ss5⟩ := hS
  have HW := Lib.hid hw
  have l1 := h1.1
  have l2 := h2.len
  have l4 := h4.strlen
  have l5 := h5.1
  have HL := Lib.hid (And.intro l1 (And.intro l2 (And.intro l4 l5)))
  have m1 : n1 ≤ 1048576 := by omega
  have m2 : n2 ≤ 1048576 := by omega
  have m4 : n4 ≤ 1048576 := by omega
  have m5 : n5 ≤ 1048576 := by omega
  have HSs := Lib.hid ss4
  have HSl := Lib.hid sl
  have HSc := Lib.hid hs
  have HSi := Lib.hid (show ∀ s ∈ nms b.inner, s.size ≤ 1048576 from fun s hs => by
    unfold nms at hs
    obtain ⟨x, hx, rfl⟩ := List.mem_map.1 hs
    exact ss5 x hx)
  have HBox : Hid (BoxAt (w.alloc (.cells #[.int .i64 b.roots, .slice A1 n1 c1, .slice A2 n2 c2, .int .i64 b.edges, .slice A4 n4 c4, .slice A5 n5 c5] 34)) w.heap.size 34 (.int .i64 b.roots) (.slice A1 n1 c1) (.slice A2 n2 c2) (.int .i64 b.edges) (.slice A4 n4 c4) (.slice A5 n5 c5)) := Lib.hid (six_new w _ _ _ _ _ _ _)
  have HB0 := Lib.hid ((Below.refl w.heap.size w).alloc (Nat.le_refl _) (.cells #[.int .i64 b.roots, .slice A1 n1 c1, .slice A2 n2 c2, .int .i64 b.edges, .slice A4 n4 c4, .slice A5 n5 c5] 34))
  have HNl := Lib.hid (show (nms b.inner).length = n5 by unfold nms; rw [List.length_map]; exact l5)
  obtain ⟨W, hW⟩ : ∃ W, w.alloc (.cells #[.int .i64 b.roots, .slice A1 n1 c1, .slice A2 n2 c2, .int .i64 b.edges, .slice A4 n4 c4, .slice A5 n5 c5] 34) = W := ⟨_, rfl⟩
  have hWz : W.heap.size = w.heap.size + 1 := by rw [← hW]; simp
  rw [hW] at HBox HB0
  have HWq := Lib.hid hW
  have hWs : w.heap.size < W.heap.size := by omega
  obtain ⟨g, hg⟩ : ∃ g, bigB cs b = g := ⟨_, rfl⟩
  rw [hg]
  rw [big_parts] at hg
  have HG := Lib.hid hg
  have CS := isSig_any A n c cs W w.heap.size (hC.below HB0.out) HB0.out.size hn HSc.out
  clear hg hW hWz l1 l2 l4 l5 s1 s2 s4 ss4 s5 ss5 sl hs hw
  go_enter Try.func37, Try.ntmps37
  go_wp2_with fail
  rw [HWq.out]
  cases qs : sigB cs with
  | false =>
    rw [qs] at CS
    have HNo := Lib.hid (HG.out.symm.trans (show _ = false by rw [qs]; rfl))
    refine CS.mono ?_
    rintro e w1 ⟨rfl, hb⟩
    have hb1 := HB0.out.trans (hb.mono HB0.out.size)
    clear hb CS
    go_wp2_with fail
    go_ret
    exact ⟨by rw [HNo.out]; rfl, hb1⟩
  | true =>
    rw [qs] at CS
    have HQs := Lib.hid qs
    refine CS.mono ?_
    rintro e w1 ⟨rfl, hb⟩
    have hb1 := HB0.out.trans (hb.mono HB0.out.size)
    have HBx1 := Lib.hid (HBox.out.below hb hWs)
    have hW1 : w.heap.size < w1.heap.size := Nat.lt_of_lt_of_le hWs hb.size
    obtain ⟨x0, x1, x2, x3, x4, x5⟩ := HBx1.out.get
    clear hb CS qs
    go_wp2_with fail
    have CZ := sizes_any A1 A2 A4 A5 n1 n2 n4 n5 c1 c2 c4 c5 b w1 HL.out.1 HL.out.2.1 HL.out.2.2.1 HL.out.2.2.2 m1 m2 m4 m5
    cases qz : sizesB b with
    | false =>
      rw [qz] at CZ
      have HNo := Lib.hid (HG.out.symm.trans (show _ = false by rw [qz]; simp))
      refine CZ.mono ?_
      rintro e w2 ⟨rfl, hb⟩
      have hb2 := hb1.trans (hb.mono hb1.size)
      clear hb CZ x0 x1 x2 x3 x4 x5
      go_wp2_with fail
      go_ret
      exact ⟨by rw [HNo.out]; rfl, hb2⟩
    | true =>
      rw [qz] at CZ
      have HQz := Lib.hid qz
      obtain ⟨z1, z2, z3, z4, z5, z6⟩ := sizes_of qz
      have HZ1 := Lib.hid z1
      have HZ2 := Lib.hid z2
      have p1 : n1 ≤ 8 := by have := HL.out.1; omega
      have p2 : n2 ≤ 4 := by have := HL.out.2.1; omega
      have p4 : n4 ≤ 16 := by have := HL.out.2.2.1; omega
      refine CZ.mono ?_
      rintro e w2 ⟨rfl, hb⟩
      have hb2 := hb1.trans (hb.mono hb1.size)
      have HBx2 := Lib.hid (HBx1.out.below hb hW1)
      have hW2 : w.heap.size < w2.heap.size := Nat.lt_of_lt_of_le hW1 hb.size
      clear hb CZ x0 x1 x2 x3 x4 x5 qz z1 z2 z3 z4 z5 z6
      obtain ⟨x0, x1, x2, x3, x4, x5⟩ := HBx2.out.get
      go_wp2_with fail
      have CP := places_any A n c cs A1 A2 A4 A5 n1 n2 n4 n5 c1 c2 c4 c5 b w w2 hC h1 h2 hb2 hn HZ1.out p1 p2 HW.out
      cases qp : placesB cs b with
      | false =>
        rw [qp] at CP
        have HNo := Lib.hid (HG.out.symm.trans (show _ = false by rw [qp]; simp))
        refine CP.mono ?_
        rintro e w3 ⟨rfl, hb⟩
        have hb3 := hb2.trans (hb.mono hb2.size)
        clear hb CP x0 x1 x2 x3 x4 x5
        go_wp2_with fail
        go_ret
        exact ⟨by rw [HNo.out]; rfl, hb3⟩
      | true =>
        rw [qp] at CP
        have HQp := Lib.hid qp
        have HCt := Lib.hid (ctrl_seat (cs := cs) (b := b) (m := n1) (fun j x _ hx => (places_of qp).1 j x hx))
        refine CP.mono ?_
        rintro e w3 ⟨rfl, hb⟩
        have hb3 := hb2.trans (hb.mono hb2.size)
        have HBx3 := Lib.hid (HBx2.out.below hb hW2)
        have hW3 : w.heap.size < w3.heap.size := Nat.lt_of_lt_of_le hW2 hb.size
        clear hb CP x0 x1 x2 x3 x4 x5 qp
        obtain ⟨x0, x1, x2, x3, x4, x5⟩ := HBx3.out.get
        go_wp2_with fail
        have CL := links_any A n c cs A1 A2 A4 A5 n1 n2 n4 n5 c1 c2 c4 c5 b w w3 hC h1 h5 hb3 hn HZ2.out p4 HL.out.2.2.1 p1 m5 HCt.out HSl.out
        cases ql : linksB cs b with
        | false =>
          rw [ql] at CL
          have HNo := Lib.hid (HG.out.symm.trans (show _ = false by rw [ql]; simp))
          refine CL.mono ?_
          rintro e w4 ⟨rfl, hb⟩
          have hb4 := hb3.trans (hb.mono hb3.size)
          clear hb CL x0 x1 x2 x3 x4 x5
          go_wp2_with fail
          go_ret
          exact ⟨by rw [HNo.out]; rfl, hb4⟩
        | true =>
          rw [ql] at CL
          have HQl := Lib.hid ql
          refine CL.mono ?_
          rintro e w4 ⟨rfl, hb⟩
          have hb4 := hb3.trans (hb.mono hb3.size)
          have HBx4 := Lib.hid (HBx3.out.below hb hW3)
          have hW4 : w.heap.size < w4.heap.size := Nat.lt_of_lt_of_le hW3 hb.size
          clear hb CL x0 x1 x2 x3 x4 x5 ql
          obtain ⟨x0, x1, x2, x3, x4, x5⟩ := HBx4.out.get
          go_wp2_with fail
          have CN := areNames_any A4 n4 c4 b.outer w4 w.heap.size (h4.below hb4) m4 HSs.out
          cases qo : namesB b.outer with
          | false =>
            rw [qo] at CN
            have HNo := Lib.hid (HG.out.symm.trans (show _ = false by rw [qo]; simp))
            refine CN.mono ?_
            rintro e w5 ⟨rfl, rfl⟩
            clear CN x0 x1 x2 x3 x4 x5
            go_wp2_with fail
            go_ret
            exact ⟨by rw [HNo.out]; rfl, hb4⟩
          | true =>
            rw [qo] at CN
            have HQo := Lib.hid qo
            refine CN.mono ?_
            rintro e w5 ⟨rfl, rfl⟩
            clear CN qo
            go_wp2_with fail
            refine (innerN_any _ _ _ _ _ A5 n5 c5 b.inner w w4 h5 hb4 m5).mono ?_
            rintro e w6 ⟨v6, rfl, ho6, hb⟩
            have hb6 := hb4.trans (hb.mono hb4.size)
            obtain ⟨g6, cap6, rfl, hg6, hg6', hc6, hs6⟩ := ho6.at
            have hlen6 : ((nms b.inner).map Value.string).length = n5 := by rw [List.length_map]; exact HNl.out
            rw [hlen6] at hs6 ⊢
            clear hb ho6 x0 x1 x2 x3 x4 x5 hlen6
            go_wp2_with fail
            have CM := areNames_any (some ⟨g6, 0, none⟩) n5 cap6 (nms b.inner) w6 w6.heap.size hs6 m5 HSi.out
            obtain ⟨q, hq⟩ : ∃ q, namesB (nms b.inner) = q := ⟨_, rfl⟩
            rw [hq] at CM
            have HYes := Lib.hid (HG.out.symm.trans (show _ = q by rw [HQs.out, HQz.out, HQp.out, HQl.out, HQo.out, hq]; rfl))
            clear hq
            refine CM.mono ?_
            rintro e w7 ⟨rfl, rfl⟩
            clear CM hs6 hg6 hg6' hc6
            go_wp2_with fail
            go_ret
            exact ⟨by rw [HYes.out]; rfl, hb6⟩
end Go.Proofs.Ytifialdkjnmfoab.ib
