/- The common place of two nodes: spec.CommonPlace, impl.CommonPlace. -/
import Derived.Test.YtdejbacfgcahlaaHgt
import Derived.Test.YtdejbacfgcahlaaHas
import Derived.Deep.RegionHeld3
namespace Go.Proofs.Ytdejbacfgcahlaa.com
open kit bg opn strs only hb sg sig isig un gd inn ht hi cf ib rs abv anc hgt has
open Go.RowKit
set_option linter.unusedVariables false

theorem find_at {p : Int → Bool} : ∀ {xs : List Int} {k : Nat} {z : Int}, (∀ (j : Nat) u, j < k → xs[j]? = some u → p u = false) → xs[k]? = some z → p z = true → xs.find? p = some z
  | [], k, z, _, h, _ => by simp at h
  | x :: xs, 0, z, _, h, hp => by
    simp at h
    subst h
    simp [List.find?, hp]
  | x :: xs, k + 1, z, hn, h, hp => by
    have h0 := hn 0 x (by omega) (by simp)
    have ih := find_at (p := p) (xs := xs) (k := k) (z := z) (fun j u hj hu => hn (j + 1) u (by omega) (by simpa using hu)) (by simpa using h) hp
    simp [List.find?, h0, ih]
theorem find_no {p : Int → Bool} {xs : List Int} {n : Nat} (hn : xs.length = n) (h : ∀ (j : Nat) u, j < n → xs[j]? = some u → p u = false) : xs.find? p = none := by
  rw [List.find?_eq_none]
  intro u hu
  obtain ⟨j, hj⟩ := List.getElem?_of_mem hu
  rw [h j u (by have := (List.getElem?_eq_some_iff.1 hj).1; omega) hj]
  simp

/-- the common place, if there is one -/
noncomputable def comO (cs : List Ctl) (b : Big) (x y : Int) : Option Int :=
  if bigB cs b && inb x 0 (b.nodes.length - 1) && inb y 0 (b.nodes.length - 1) then (abv b.nodes b.nodes.length x).find? (hasB (abv b.nodes b.nodes.length y)) else none
noncomputable def comQ (cs : List Ctl) (b : Big) (x y : Int) : Bool := (comO cs b x y).isSome
noncomputable def comR (cs : List Ctl) (b : Big) (x y : Int) : Int := (comO cs b x y).getD 0

set_option maxRecDepth 20000 in
set_option maxHeartbeats 3200000 in
theorem sCom_any (A : Option Addr) (n c : Nat) (cs : List Ctl) (v : Value) (b : Big) (z z2 : Int) (w : World) (hC : CtlsAt w w.heap.size A n cs) (hv : BigAt w w.heap.size v b) (hn : n ≤ 1048576) (hs : ∀ c ∈ cs, c.name.size ≤ 1048576) (hS : BigS b) (hw : BigW b) :
    Calls Try.prog 47 #[.slice A n c, v, .int .i64 z, .int .i64 z2] w (PostI (comR cs b z z2) (comQ cs b z z2) w) := by
  unfold comR comQ
  obtain ⟨A1, n1, c1, A2, n2, c2, A4, n4, c4, A5, n5, c5, rfl, h1, h2, h4, h5⟩ := hv
  have HBox : Hid (BoxAt (w.alloc (.cells #[.int .i64 b.roots, .slice A1 n1 c1, .slice A2 n2 c2, .int .i64 b.edges, .slice A4 n4 c4, .slice A5 n5 c5] 40)) w.heap.size 40 (.int .i64 b.roots) (.slice A1 n1 c1) (.slice A2 n2 c2) (.int .i64 b.edges) (.slice A4 n4 c4) (.slice A5 n5 c5)) := Lib.hid (six_new w _ _ _ _ _ _ _)
  have HB0 := Lib.hid ((Below.refl w.heap.size w).alloc (Nat.le_refl _) (.cells #[.int .i64 b.roots, .slice A1 n1 c1, .slice A2 n2 c2, .int .i64 b.edges, .slice A4 n4 c4, .slice A5 n5 c5] 40))
  obtain ⟨W, hW⟩ : ∃ W, w.alloc (.cells #[.int .i64 b.roots, .slice A1 n1 c1, .slice A2 n2 c2, .int .i64 b.edges, .slice A4 n4 c4, .slice A5 n5 c5] 40) = W := ⟨_, rfl⟩
  have hWz : W.heap.size = w.heap.size + 1 := by rw [← hW]; simp
  rw [hW] at HBox HB0
  have HWq := Lib.hid hW
  have hWs : w.heap.size < W.heap.size := by omega
  have hVW : BigAt W W.heap.size (.agg #[.int .i64 b.roots, .slice A1 n1 c1, .slice A2 n2 c2, .int .i64 b.edges, .slice A4 n4 c4, .slice A5 n5 c5]) b := BigAt.wide (BigAt.below ⟨_, _, _, _, _, _, _, _, _, _, _, _, rfl, h1, h2, h4, h5⟩ HB0.out) HB0.out.size
  clear hW hWz
  have C := l2Good_any A n c cs _ b W ((hC.below HB0.out).wide HB0.out.size) hVW hn hs hS hw
  obtain ⟨x0, x1, x2, x3, x4, x5⟩ := HBox.out.get
  have l1 := h1.1
  have hM1 : n1 ≤ 1048576 := by have := hS.1; omega
  clear hS hw hVW hs
  obtain ⟨o, ho⟩ : ∃ o, comO cs b z z2 = o := ⟨_, rfl⟩
  rw [ho]
  unfold comO at ho
  rw [l1] at ho
  cases hq : bigB cs b with
  | false =>
    rw [hq] at C
    have HR := Lib.hid (show o = none by rw [← ho, hq]; rfl)
    clear hq ho
    go_enter Try.func47, Try.ntmps47
    go_wp2_with fail
    rw [HWq.out]
    go_wp2_with fail
    refine C.mono ?_
    rintro e w1 ⟨rfl, hb⟩
    have hb1 := HB0.out.trans (hb.mono HB0.out.size)
    have hs1 : w.heap.size < w1.heap.size := Nat.lt_of_lt_of_le hWs hb.size
    have HBx1 := HBox.out.below hb hWs
    clear hb C x0 x1 x2 x3 x4 x5
    obtain ⟨x0, x1, x2, x3, x4, x5⟩ := HBx1.get
    go_wp2_with fail
    refine bodyPost_ret (results_tmp2 rfl _ _ _) rfl ?_
    exact ⟨by rw [HR.out]; rfl, hb1⟩
  | true =>
    rw [hq] at C
    have hup := up_of hq
    have hsz := size_nodes hq
    rw [l1] at hsz
    cases hi : inb z 0 (n1 - 1) with
    | false =>
      have HR := Lib.hid (show o = none by rw [← ho, hq, hi]; rfl)
      have HIs1 := Lib.hid (fun w => hi ▸ is_any (.int .i64 b.roots) (.slice A2 n2 c2) (.int .i64 b.edges) (.slice A4 n4 c4) (.slice A5 n5 c5) A1 n1 c1 z w hM1)
      clear hq ho hi
      go_enter Try.func47, Try.ntmps47
      go_wp2_with fail
      rw [HWq.out]
      go_wp2_with fail
      refine C.mono ?_
      rintro e w1 ⟨rfl, hb⟩
      have hb1 := HB0.out.trans (hb.mono HB0.out.size)
      have hs1 : w.heap.size < w1.heap.size := Nat.lt_of_lt_of_le hWs hb.size
      have HBx1 := HBox.out.below hb hWs
      clear hb C x0 x1 x2 x3 x4 x5
      obtain ⟨x0, x1, x2, x3, x4, x5⟩ := HBx1.get
      go_wp2_with fail
      refine ((HIs1).out _).mono ?_
      rintro e w2 ⟨rfl, hb⟩
      have hb2 := hb1.trans (hb.mono hb1.size)
      have hs2 : w.heap.size < w2.heap.size := Nat.lt_of_lt_of_le hs1 hb.size
      have HBx2 := HBx1.below hb hs1
      clear hb hb1 x0 x1 x2 x3 x4 x5 HBx1 hs1
      obtain ⟨x0, x1, x2, x3, x4, x5⟩ := HBx2.get
      go_wp2_with fail
      refine bodyPost_ret (results_tmp2 rfl _ _ _) rfl ?_
      exact ⟨by rw [HR.out]; rfl, hb2⟩
    | true =>
      have HIs1 := Lib.hid (fun w => hi ▸ is_any (.int .i64 b.roots) (.slice A2 n2 c2) (.int .i64 b.edges) (.slice A4 n4 c4) (.slice A5 n5 c5) A1 n1 c1 z w hM1)
      have hin := inb_true hi
      cases hi2 : inb z2 0 (n1 - 1) with
      | false =>
        have HR := Lib.hid (show o = none by rw [← ho, hq, hi, hi2]; rfl)
        have HIs2 := Lib.hid (fun w => hi2 ▸ is_any (.int .i64 b.roots) (.slice A2 n2 c2) (.int .i64 b.edges) (.slice A4 n4 c4) (.slice A5 n5 c5) A1 n1 c1 z2 w hM1)
        clear hq ho hi hi2
        go_enter Try.func47, Try.ntmps47
        go_wp2_with fail
        rw [HWq.out]
        go_wp2_with fail
        refine C.mono ?_
        rintro e w1 ⟨rfl, hb⟩
        have hb1 := HB0.out.trans (hb.mono HB0.out.size)
        have hs1 : w.heap.size < w1.heap.size := Nat.lt_of_lt_of_le hWs hb.size
        have HBx1 := HBox.out.below hb hWs
        clear hb C x0 x1 x2 x3 x4 x5
        obtain ⟨x0, x1, x2, x3, x4, x5⟩ := HBx1.get
        go_wp2_with fail
        refine ((HIs1).out _).mono ?_
        rintro e w2 ⟨rfl, hb⟩
        have hb2 := hb1.trans (hb.mono hb1.size)
        have hs2 : w.heap.size < w2.heap.size := Nat.lt_of_lt_of_le hs1 hb.size
        have HBx2 := HBx1.below hb hs1
        clear hb hb1 x0 x1 x2 x3 x4 x5 HBx1 hs1
        obtain ⟨x0, x1, x2, x3, x4, x5⟩ := HBx2.get
        go_wp2_with fail
        refine ((HIs2).out _).mono ?_
        rintro e w3 ⟨rfl, hb⟩
        have hb3 := hb2.trans (hb.mono hb2.size)
        have hs3 : w.heap.size < w3.heap.size := Nat.lt_of_lt_of_le hs2 hb.size
        have HBx3 := HBx2.below hb hs2
        clear hb hb2 x0 x1 x2 x3 x4 x5 HBx2 hs2
        obtain ⟨x0, x1, x2, x3, x4, x5⟩ := HBx3.get
        go_wp2_with fail
        refine bodyPost_ret (results_tmp2 rfl _ _ _) rfl ?_
        exact ⟨by rw [HR.out]; rfl, hb3⟩
      | true =>
        have HIs2 := Lib.hid (fun w => hi2 ▸ is_any (.int .i64 b.roots) (.slice A2 n2 c2) (.int .i64 b.edges) (.slice A4 n4 c4) (.slice A5 n5 c5) A1 n1 c1 z2 w hM1)
        have hin2 := inb_true hi2
        have ho2 : (abv b.nodes n1 z).find? (hasB (abv b.nodes n1 z2)) = o := by rw [← ho, hq, hi, hi2]; rfl
        have ly := abv_len b.nodes n1 z2
        have lx := abv_len b.nodes n1 z
        have HX := Lib.hid (fun w2 hb2 => l2Above_any (.int .i64 b.roots) (.slice A2 n2 c2) (.int .i64 b.edges) (.slice A4 n4 c4) (.slice A5 n5 c5) A1 n1 c1 b.nodes z w w2 h1 hb2 hsz hup (by omega))
        have HY := Lib.hid (fun w2 hb2 => l2Above_any (.int .i64 b.roots) (.slice A2 n2 c2) (.int .i64 b.edges) (.slice A4 n4 c4) (.slice A5 n5 c5) A1 n1 c1 b.nodes z2 w w2 h1 hb2 hsz hup (by omega))
        obtain ⟨xs, hxs⟩ : ∃ xs, abv b.nodes n1 z = xs := ⟨_, rfl⟩
        obtain ⟨ys, hys⟩ : ∃ ys, abv b.nodes n1 z2 = ys := ⟨_, rfl⟩
        rw [hxs] at ho2 lx HX
        rw [hys] at ho2 ly HY
        have HO := Lib.hid ho2
        have hl1 : (xs.map (Value.int .i64)).length = xs.length := List.length_map _
        have hl2 : (ys.map (Value.int .i64)).length = ys.length := List.length_map _
        have HM := Lib.hid (And.intro hl1 hl2)
        obtain ⟨nx, hnx⟩ : ∃ nx, xs.length = nx := ⟨_, rfl⟩
        obtain ⟨ny, hny⟩ : ∃ ny, ys.length = ny := ⟨_, rfl⟩
        rw [hnx] at lx hl1 HM
        rw [hny] at ly hl2 HM
        have HNx := Lib.hid hnx
        clear hq ho hi hi2 ho2 hxs hys hl1 hl2 hnx hny h1
        go_enter Try.func47, Try.ntmps47
        go_wp2_with fail
        rw [HWq.out]
        go_wp2_with fail
        refine C.mono ?_
        rintro e w1 ⟨rfl, hb⟩
        have hb1 := HB0.out.trans (hb.mono HB0.out.size)
        have hs1 : w.heap.size < w1.heap.size := Nat.lt_of_lt_of_le hWs hb.size
        have HBx1 := HBox.out.below hb hWs
        clear hb C x0 x1 x2 x3 x4 x5
        obtain ⟨x0, x1, x2, x3, x4, x5⟩ := HBx1.get
        go_wp2_with fail
        refine ((HIs1).out _).mono ?_
        rintro e w2 ⟨rfl, hb⟩
        have hb2 := hb1.trans (hb.mono hb1.size)
        have hs2 : w.heap.size < w2.heap.size := Nat.lt_of_lt_of_le hs1 hb.size
        have HBx2 := HBx1.below hb hs1
        clear hb hb1 x0 x1 x2 x3 x4 x5 HBx1 hs1
        obtain ⟨x0, x1, x2, x3, x4, x5⟩ := HBx2.get
        go_wp2_with fail
        refine ((HIs2).out _).mono ?_
        rintro e w3 ⟨rfl, hb⟩
        have hb3 := hb2.trans (hb.mono hb2.size)
        have hs3 : w.heap.size < w3.heap.size := Nat.lt_of_lt_of_le hs2 hb.size
        have HBx3 := HBx2.below hb hs2
        clear hb hb2 x0 x1 x2 x3 x4 x5 HBx2 hs2
        obtain ⟨x0, x1, x2, x3, x4, x5⟩ := HBx3.get
        go_wp2_with fail
        have HBx3h := Lib.hid HBx3
        have hD3 : Below w3.heap.size w3 w3.drew := (Below.refl _ _).drew
        clear HBx3
        go_region_held3 (fun w' => w'.cell? ⟨w.heap.size, 0, none⟩ = some (.int .i64 b.roots) ∧ w'.cell? ⟨w.heap.size, 1, none⟩ = some (.slice A1 n1 c1) ∧ w'.cell? ⟨w.heap.size, 2, none⟩ = some (.slice A2 n2 c2) ∧ w'.cell? ⟨w.heap.size, 3, none⟩ = some (.int .i64 b.edges) ∧ w'.cell? ⟨w.heap.size, 4, none⟩ = some (.slice A4 n4 c4) ∧ w'.cell? ⟨w.heap.size, 5, none⟩ = some (.slice A5 n5 c5)) (first | exact (HBx4.out.below hb45 hs4).get | exact HBx4.out.get | exact (HBx3h.out.below hD3 hs3).get)
          (first
           | (go_at_call 99; refine (HY.out _ hb04).mono ?_; rintro e w5 ⟨v5, rfl, ho5, hb45⟩)
           | (go_at_call 99; refine (HX.out _ (hb3.drew)).mono ?_; rintro e w4 ⟨v4, rfl, ho4, hb4⟩; have hb34 := hD3.trans (hb4.mono hD3.size); have HBx4 := Lib.hid (HBx3h.out.below hb34 hs3); have hs4 : w.heap.size < w4.heap.size := Nat.lt_of_lt_of_le hs3 hb34.size; have hb04 := hb3.trans (hb34.mono hb3.size)))
        obtain ⟨g4, cap4, rfl, -, hg4, hc4, hs4x⟩ := ho4.at
        obtain ⟨g5, cap5, rfl, -, hg5, hc5, hs5y⟩ := ho5.at
        have hb05 := hb04.trans (hb45.mono hb04.size)
        rw [HM.out.1] at hs4x hc4 ⊢
        rw [HM.out.2] at hs5y hc5 ⊢
        have hx5 : IntsAt w5 w4.heap.size (some ⟨g4, 0, none⟩) nx xs := SR.below hs4x hb45
        have hy5 : IntsAt w5 w5.heap.size (some ⟨g5, 0, none⟩) ny ys := hs5y
        clear ho4 ho5 hs4x hs5y hb4 hb45 hb34 hb04 HBx4 x0 x1 x2 x3 x4 x5 hD3 hs4
        go_wp2_with fail
        go_loopw [12] (fun i wr => ∃ k : Nat, k ≤ nx ∧ i = .int .i64 k ∧ (∀ (j : Nat) u, j < k → xs[j]? = some u → hasB ys u = false) ∧ w5 = wr) (fun i _ => nx - (intOf i).toNat)
        case atStart => exact ⟨0, Nat.zero_le _, rfl, fun j u hj => absurd hj (by omega), rfl⟩
        case round =>
          obtain ⟨k, hk, rfl, hno, rfl⟩ := hrel
          have HNo := Lib.hid hno
          clear hno
          by_cases hlt : k < nx
          · obtain ⟨b1, off, u, e1, hb1, hx, hc⟩ := IntsAt.get hx5 hlt
            injection e1 with e1
            injection e1 with e1 e2 _
            subst e1
            subst e2
            rw [Nat.zero_add] at hc
            have CH := l1Has_any (some ⟨g5, 0, none⟩) ny cap5 ys u w5 _ hy5 (by omega)
            cases hh : hasB ys u with
            | true =>
              rw [hh] at CH
              have HR := Lib.hid (show o = some u from HO.out.symm.trans (find_at HNo.out hx hh))
              clear hx hh
              go_wp2_with fail
              refine CH.mono ?_
              rintro e w6 ⟨rfl, rfl⟩
              go_wp2_with fail
              refine bodyPost_ret (results_tmp2 rfl _ _ _) rfl ?_
              exact ⟨by rw [HR.out]; rfl, hb05⟩
            | false =>
              rw [hh] at CH
              have HN : Hid (∀ (j : Nat) v, j < k + 1 → xs[j]? = some v → hasB ys v = false) := Lib.hid fun j v hj hv => by
                by_cases e : j = k
                · subst e
                  rw [hx] at hv
                  injection hv with hv
                  exact hv ▸ hh
                · exact HNo.out j v (by omega) hv
              clear hx hh
              go_wp2_with fail
              refine CH.mono ?_
              rintro e w6 ⟨rfl, rfl⟩
              go_wp2_with fail
              go_roundw
              case rel => exact ⟨k + 1, by omega, by go_num, HN.out, by first | trivial | rfl⟩
              case measure => simp [intOf]; omega
          · have HR := Lib.hid (show o = none from HO.out.symm.trans (find_no HNx.out (fun j u hj hu => HNo.out j u (by omega) hu)))
            obtain rfl : k = nx := by omega
            go_wp2_with fail
            refine bodyPost_ret (results_tmp2 rfl _ _ _) rfl ?_
            exact ⟨by rw [HR.out]; rfl, hb05⟩

set_option maxRecDepth 20000 in
set_option maxHeartbeats 3200000 in
theorem iCom_any (A : Option Addr) (n c : Nat) (cs : List Ctl) (v : Value) (b : Big) (z z2 : Int) (w : World) (hC : CtlsAt w w.heap.size A n cs) (hv : BigAt w w.heap.size v b) (hn : n ≤ 1048576) (hs : ∀ c ∈ cs, c.name.size ≤ 1048576) (hS : BigS b) (hw : BigW b) :
    Calls Try.prog 48 #[.slice A n c, v, .int .i64 z, .int .i64 z2] w (PostI (comR cs b z z2) (comQ cs b z z2) w) := by
  unfold comR comQ
  obtain ⟨A1, n1, c1, A2, n2, c2, A4, n4, c4, A5, n5, c5, rfl, h1, h2, h4, h5⟩ := hv
  have HBox : Hid (BoxAt (w.alloc (.cells #[.int .i64 b.roots, .slice A1 n1 c1, .slice A2 n2 c2, .int .i64 b.edges, .slice A4 n4 c4, .slice A5 n5 c5] 40)) w.heap.size 40 (.int .i64 b.roots) (.slice A1 n1 c1) (.slice A2 n2 c2) (.int .i64 b.edges) (.slice A4 n4 c4) (.slice A5 n5 c5)) := Lib.hid (six_new w _ _ _ _ _ _ _)
  have HB0 := Lib.hid ((Below.refl w.heap.size w).alloc (Nat.le_refl _) (.cells #[.int .i64 b.roots, .slice A1 n1 c1, .slice A2 n2 c2, .int .i64 b.edges, .slice A4 n4 c4, .slice A5 n5 c5] 40))
  obtain ⟨W, hW⟩ : ∃ W, w.alloc (.cells #[.int .i64 b.roots, .slice A1 n1 c1, .slice A2 n2 c2, .int .i64 b.edges, .slice A4 n4 c4, .slice A5 n5 c5] 40) = W := ⟨_, rfl⟩
  have hWz : W.heap.size = w.heap.size + 1 := by rw [← hW]; simp
  rw [hW] at HBox HB0
  have HWq := Lib.hid hW
  have hWs : w.heap.size < W.heap.size := by omega
  have hVW : BigAt W W.heap.size (.agg #[.int .i64 b.roots, .slice A1 n1 c1, .slice A2 n2 c2, .int .i64 b.edges, .slice A4 n4 c4, .slice A5 n5 c5]) b := BigAt.wide (BigAt.below ⟨_, _, _, _, _, _, _, _, _, _, _, _, rfl, h1, h2, h4, h5⟩ HB0.out) HB0.out.size
  clear hW hWz
  have C := isBig_any A n c cs _ b W ((hC.below HB0.out).wide HB0.out.size) hVW hn hs hS hw
  obtain ⟨x0, x1, x2, x3, x4, x5⟩ := HBox.out.get
  have l1 := h1.1
  have hM1 : n1 ≤ 1048576 := by have := hS.1; omega
  clear hS hw hVW hs
  obtain ⟨o, ho⟩ : ∃ o, comO cs b z z2 = o := ⟨_, rfl⟩
  rw [ho]
  unfold comO at ho
  rw [l1] at ho
  cases hq : bigB cs b with
  | false =>
    rw [hq] at C
    have HR := Lib.hid (show o = none by rw [← ho, hq]; rfl)
    clear hq ho
    go_enter Try.func48, Try.ntmps48
    go_wp2_with fail
    rw [HWq.out]
    go_wp2_with fail
    refine C.mono ?_
    rintro e w1 ⟨rfl, hb⟩
    have hb1 := HB0.out.trans (hb.mono HB0.out.size)
    have hs1 : w.heap.size < w1.heap.size := Nat.lt_of_lt_of_le hWs hb.size
    have HBx1 := HBox.out.below hb hWs
    clear hb C x0 x1 x2 x3 x4 x5
    obtain ⟨x0, x1, x2, x3, x4, x5⟩ := HBx1.get
    go_wp2_with fail
    refine bodyPost_ret (results_tmp2 rfl _ _ _) rfl ?_
    exact ⟨by rw [HR.out]; rfl, hb1⟩
  | true =>
    rw [hq] at C
    have hup := up_of hq
    have hsz := size_nodes hq
    rw [l1] at hsz
    cases hi : inb z 0 (n1 - 1) with
    | false =>
      have HR := Lib.hid (show o = none by rw [← ho, hq, hi]; rfl)
      have HIs1 := Lib.hid (fun w => hi ▸ ind_any (.int .i64 b.roots) (.slice A2 n2 c2) (.int .i64 b.edges) (.slice A4 n4 c4) (.slice A5 n5 c5) A1 n1 c1 z w hM1)
      clear hq ho hi
      go_enter Try.func48, Try.ntmps48
      go_wp2_with fail
      rw [HWq.out]
      go_wp2_with fail
      refine C.mono ?_
      rintro e w1 ⟨rfl, hb⟩
      have hb1 := HB0.out.trans (hb.mono HB0.out.size)
      have hs1 : w.heap.size < w1.heap.size := Nat.lt_of_lt_of_le hWs hb.size
      have HBx1 := HBox.out.below hb hWs
      clear hb C x0 x1 x2 x3 x4 x5
      obtain ⟨x0, x1, x2, x3, x4, x5⟩ := HBx1.get
      go_wp2_with fail
      refine ((HIs1).out _).mono ?_
      rintro e w2 ⟨rfl, hb⟩
      have hb2 := hb1.trans (hb.mono hb1.size)
      have hs2 : w.heap.size < w2.heap.size := Nat.lt_of_lt_of_le hs1 hb.size
      have HBx2 := HBx1.below hb hs1
      clear hb hb1 x0 x1 x2 x3 x4 x5 HBx1 hs1
      obtain ⟨x0, x1, x2, x3, x4, x5⟩ := HBx2.get
      go_wp2_with fail
      refine bodyPost_ret (results_tmp2 rfl _ _ _) rfl ?_
      exact ⟨by rw [HR.out]; rfl, hb2⟩
    | true =>
      have HIs1 := Lib.hid (fun w => hi ▸ ind_any (.int .i64 b.roots) (.slice A2 n2 c2) (.int .i64 b.edges) (.slice A4 n4 c4) (.slice A5 n5 c5) A1 n1 c1 z w hM1)
      have hin := inb_true hi
      cases hi2 : inb z2 0 (n1 - 1) with
      | false =>
        have HR := Lib.hid (show o = none by rw [← ho, hq, hi, hi2]; rfl)
        have HIs2 := Lib.hid (fun w => hi2 ▸ ind_any (.int .i64 b.roots) (.slice A2 n2 c2) (.int .i64 b.edges) (.slice A4 n4 c4) (.slice A5 n5 c5) A1 n1 c1 z2 w hM1)
        clear hq ho hi hi2
        go_enter Try.func48, Try.ntmps48
        go_wp2_with fail
        rw [HWq.out]
        go_wp2_with fail
        refine C.mono ?_
        rintro e w1 ⟨rfl, hb⟩
        have hb1 := HB0.out.trans (hb.mono HB0.out.size)
        have hs1 : w.heap.size < w1.heap.size := Nat.lt_of_lt_of_le hWs hb.size
        have HBx1 := HBox.out.below hb hWs
        clear hb C x0 x1 x2 x3 x4 x5
        obtain ⟨x0, x1, x2, x3, x4, x5⟩ := HBx1.get
        go_wp2_with fail
        refine ((HIs1).out _).mono ?_
        rintro e w2 ⟨rfl, hb⟩
        have hb2 := hb1.trans (hb.mono hb1.size)
        have hs2 : w.heap.size < w2.heap.size := Nat.lt_of_lt_of_le hs1 hb.size
        have HBx2 := HBx1.below hb hs1
        clear hb hb1 x0 x1 x2 x3 x4 x5 HBx1 hs1
        obtain ⟨x0, x1, x2, x3, x4, x5⟩ := HBx2.get
        go_wp2_with fail
        refine ((HIs2).out _).mono ?_
        rintro e w3 ⟨rfl, hb⟩
        have hb3 := hb2.trans (hb.mono hb2.size)
        have hs3 : w.heap.size < w3.heap.size := Nat.lt_of_lt_of_le hs2 hb.size
        have HBx3 := HBx2.below hb hs2
        clear hb hb2 x0 x1 x2 x3 x4 x5 HBx2 hs2
        obtain ⟨x0, x1, x2, x3, x4, x5⟩ := HBx3.get
        go_wp2_with fail
        refine bodyPost_ret (results_tmp2 rfl _ _ _) rfl ?_
        exact ⟨by rw [HR.out]; rfl, hb3⟩
      | true =>
        have HIs2 := Lib.hid (fun w => hi2 ▸ ind_any (.int .i64 b.roots) (.slice A2 n2 c2) (.int .i64 b.edges) (.slice A4 n4 c4) (.slice A5 n5 c5) A1 n1 c1 z2 w hM1)
        have hin2 := inb_true hi2
        have ho2 : (abv b.nodes n1 z).find? (hasB (abv b.nodes n1 z2)) = o := by rw [← ho, hq, hi, hi2]; rfl
        have ly := abv_len b.nodes n1 z2
        have lx := abv_len b.nodes n1 z
        have HX := Lib.hid (fun w2 hb2 => anc_any (.int .i64 b.roots) (.slice A2 n2 c2) (.int .i64 b.edges) (.slice A4 n4 c4) (.slice A5 n5 c5) A1 n1 c1 b.nodes z w w2 h1 hb2 hsz hup (by omega))
        have HY := Lib.hid (fun w2 hb2 => anc_any (.int .i64 b.roots) (.slice A2 n2 c2) (.int .i64 b.edges) (.slice A4 n4 c4) (.slice A5 n5 c5) A1 n1 c1 b.nodes z2 w w2 h1 hb2 hsz hup (by omega))
        obtain ⟨xs, hxs⟩ : ∃ xs, abv b.nodes n1 z = xs := ⟨_, rfl⟩
        obtain ⟨ys, hys⟩ : ∃ ys, abv b.nodes n1 z2 = ys := ⟨_, rfl⟩
        rw [hxs] at ho2 lx HX
        rw [hys] at ho2 ly HY
        have HO := Lib.hid ho2
        have hl1 : (xs.map (Value.int .i64)).length = xs.length := List.length_map _
        have hl2 : (ys.map (Value.int .i64)).length = ys.length := List.length_map _
        have HM := Lib.hid (And.intro hl1 hl2)
        obtain ⟨nx, hnx⟩ : ∃ nx, xs.length = nx := ⟨_, rfl⟩
        obtain ⟨ny, hny⟩ : ∃ ny, ys.length = ny := ⟨_, rfl⟩
        rw [hnx] at lx hl1 HM
        rw [hny] at ly hl2 HM
        have HNx := Lib.hid hnx
        clear hq ho hi hi2 ho2 hxs hys hl1 hl2 hnx hny h1
        go_enter Try.func48, Try.ntmps48
        go_wp2_with fail
        rw [HWq.out]
        go_wp2_with fail
        refine C.mono ?_
        rintro e w1 ⟨rfl, hb⟩
        have hb1 := HB0.out.trans (hb.mono HB0.out.size)
        have hs1 : w.heap.size < w1.heap.size := Nat.lt_of_lt_of_le hWs hb.size
        have HBx1 := HBox.out.below hb hWs
        clear hb C x0 x1 x2 x3 x4 x5
        obtain ⟨x0, x1, x2, x3, x4, x5⟩ := HBx1.get
        go_wp2_with fail
        refine ((HIs1).out _).mono ?_
        rintro e w2 ⟨rfl, hb⟩
        have hb2 := hb1.trans (hb.mono hb1.size)
        have hs2 : w.heap.size < w2.heap.size := Nat.lt_of_lt_of_le hs1 hb.size
        have HBx2 := HBx1.below hb hs1
        clear hb hb1 x0 x1 x2 x3 x4 x5 HBx1 hs1
        obtain ⟨x0, x1, x2, x3, x4, x5⟩ := HBx2.get
        go_wp2_with fail
        refine ((HIs2).out _).mono ?_
        rintro e w3 ⟨rfl, hb⟩
        have hb3 := hb2.trans (hb.mono hb2.size)
        have hs3 : w.heap.size < w3.heap.size := Nat.lt_of_lt_of_le hs2 hb.size
        have HBx3 := HBx2.below hb hs2
        clear hb hb2 x0 x1 x2 x3 x4 x5 HBx2 hs2
        obtain ⟨x0, x1, x2, x3, x4, x5⟩ := HBx3.get
        go_wp2_with fail
        refine (HY.out _ hb3).mono ?_
        rintro e w4 ⟨v4, rfl, ho4, hb4⟩
        have hb04 := hb3.trans (hb4.mono hb3.size)
        have hs4 : w.heap.size < w4.heap.size := Nat.lt_of_lt_of_le hs3 hb4.size
        obtain ⟨g4, cap4, rfl, -, hg4, hc4, hs4y⟩ := ho4.at
        have HBx4 := HBx3.below hb4 hs3
        rw [HM.out.2] at hs4y hc4 ⊢
        clear hb4 x0 x1 x2 x3 x4 x5 HBx3 ho4
        obtain ⟨x0, x1, x2, x3, x4, x5⟩ := HBx4.get
        go_wp2_with fail
        refine (HX.out _ hb04).mono ?_
        rintro e w5 ⟨v5, rfl, ho5, hb45⟩
        obtain ⟨g5, cap5, rfl, -, hg5, hc5, hs5x⟩ := ho5.at
        have hb05 := hb04.trans (hb45.mono hb04.size)
        rw [HM.out.1] at hs5x hc5 ⊢
        have hy5 : IntsAt w5 w4.heap.size (some ⟨g4, 0, none⟩) ny ys := SR.below hs4y hb45
        have hx5 : IntsAt w5 w5.heap.size (some ⟨g5, 0, none⟩) nx xs := hs5x
        clear ho5 hs4y hs5x hb45 hb04 HBx4 x0 x1 x2 x3 x4 x5 hs4
        go_wp2_with fail
        go_loopw [36] (fun i wr => ∃ k : Nat, k ≤ nx ∧ i = .int .i64 k ∧ (∀ (j : Nat) u, j < k → xs[j]? = some u → hasB ys u = false) ∧ w5 = wr) (fun i _ => nx - (intOf i).toNat)
        case atStart => exact ⟨0, Nat.zero_le _, rfl, fun j u hj => absurd hj (by omega), rfl⟩
        case round =>
          obtain ⟨k, hk, rfl, hno, rfl⟩ := hrel
          have HNo := Lib.hid hno
          clear hno
          by_cases hlt : k < nx
          · obtain ⟨b1, off, u, e1, hb1, hx, hc⟩ := IntsAt.get hx5 hlt
            injection e1 with e1
            injection e1 with e1 e2 _
            subst e1
            subst e2
            rw [Nat.zero_add] at hc
            have CH := contains_any (some ⟨g4, 0, none⟩) ny cap4 ys u w5 _ hy5 (by omega)
            cases hh : hasB ys u with
            | true =>
              rw [hh] at CH
              have HR := Lib.hid (show o = some u from HO.out.symm.trans (find_at HNo.out hx hh))
              clear hx hh
              go_wp2_with fail
              refine CH.mono ?_
              rintro e w6 ⟨rfl, rfl⟩
              go_wp2_with fail
              refine bodyPost_ret (results_tmp2 rfl _ _ _) rfl ?_
              exact ⟨by rw [HR.out]; rfl, hb05⟩
            | false =>
              rw [hh] at CH
              have HN : Hid (∀ (j : Nat) v, j < k + 1 → xs[j]? = some v → hasB ys v = false) := Lib.hid fun j v hj hv => by
                by_cases e : j = k
                · subst e
                  rw [hx] at hv
                  injection hv with hv
                  exact hv ▸ hh
                · exact HNo.out j v (by omega) hv
              clear hx hh
              go_wp2_with fail
              refine CH.mono ?_
              rintro e w6 ⟨rfl, rfl⟩
              go_wp2_with fail
              go_roundw
              case rel => exact ⟨k + 1, by omega, by go_num, HN.out, by first | trivial | rfl⟩
              case measure => simp [intOf]; omega
          · have HR := Lib.hid (show o = none from HO.out.symm.trans (find_no HNx.out (fun j u hj hu => HNo.out j u (by omega) hu)))
            obtain rfl : k = nx := by omega
            go_wp2_with fail
            refine bodyPost_ret (results_tmp2 rfl _ _ _) rfl ?_
            exact ⟨by rw [HR.out]; rfl, hb05⟩
end Go.Proofs.Ytdejbacfgcahlaa.com

