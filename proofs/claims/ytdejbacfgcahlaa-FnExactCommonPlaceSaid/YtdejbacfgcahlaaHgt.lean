/- The height of a Bigraph: spec.HeightOf, impl.HeightOf. -/
import Derived.Test.YtdejbacfgcahlaaAnc
namespace Go.Proofs.Ytdejbacfgcahlaa.hgt
open kit bg opn strs only hb sg sig isig un gd inn ht hi cf ib rs abv anc
open Go.RowKit
set_option linter.unusedVariables false

/-- the most places above one of the first nodes -/
def hgt (ns : List Nd) (N : Nat) : Nat → Nat
  | 0 => 0
  | k + 1 => max (hgt ns N k) (abv ns N k).length
theorem hgt_le (ns : List Nd) (N : Nat) : ∀ k, hgt ns N k ≤ N
  | 0 => Nat.zero_le _
  | k + 1 => by unfold hgt; exact Nat.max_le.2 ⟨hgt_le ns N k, abv_len _ _ _⟩
noncomputable def hgtR (cs : List Ctl) (b : Big) : Int := if bigB cs b = true then (hgt b.nodes b.nodes.length b.nodes.length : Int) else 0
theorem hgtR_no {cs : List Ctl} {b : Big} (h : bigB cs b = false) : hgtR cs b = 0 := by unfold hgtR; rw [h]; rfl
theorem hgtR_yes {cs : List Ctl} {b : Big} (h : bigB cs b = true) : hgtR cs b = (hgt b.nodes b.nodes.length b.nodes.length : Int) := by unfold hgtR; rw [if_pos h]
/-- a number and whether there is one -/
def PostI (m : Int) (q : Bool) (w : World) (e : Ending) (w' : World) : Prop := e = .returned (.tuple #[.int .i64 m, .bool q]) ∧ Below w.heap.size w w'

theorem most_any (x y : Int) (w : World) : Calls Try.prog 103 #[.int .i64 x, .int .i64 y] w fun e w' => e = .returned (.int .i64 (max x y)) ∧ w = w' := by
  by_cases h : x > y
  · go_enter Try.func103, Try.ntmps103
    go_wp2_with fail
    go_ret
    exact ⟨by rw [show max x y = x by omega]; rfl, rfl⟩
  · go_enter Try.func103, Try.ntmps103
    go_wp2_with fail
    go_ret
    exact ⟨by rw [show max x y = y by omega]; rfl, rfl⟩

set_option maxRecDepth 20000 in
set_option maxHeartbeats 1600000 in
theorem sHgt_any (A : Option Addr) (n c : Nat) (cs : List Ctl) (v : Value) (b : Big) (w : World) (hC : CtlsAt w w.heap.size A n cs) (hv : BigAt w w.heap.size v b) (hn : n ≤ 1048576) (hs : ∀ c ∈ cs, c.name.size ≤ 1048576) (hS : BigS b) (hw : BigW b) :
    Calls Try.prog 49 #[.slice A n c, v] w (PostI (hgtR cs b) (bigB cs b) w) := by
  obtain ⟨A1, n1, c1, A2, n2, c2, A4, n4, c4, A5, n5, c5, rfl, h1, h2, h4, h5⟩ := hv
  have HBox : Hid (BoxAt (w.alloc (.cells #[.int .i64 b.roots, .slice A1 n1 c1, .slice A2 n2 c2, .int .i64 b.edges, .slice A4 n4 c4, .slice A5 n5 c5] 40)) w.heap.size 40 (.int .i64 b.roots) (.slice A1 n1 c1) (.slice A2 n2 c2) (.int .i64 b.edges) (.slice A4 n4 c4) (.slice A5 n5 c5)) := Lib.hid (six_new w _ _ _ _ _ _ _)
  have HB0 := Lib.hid ((Below.refl w.heap.size w).alloc (Nat.le_refl _) (.cells #[.int .i64 b.roots, .slice A1 n1 c1, .slice A2 n2 c2, .int .i64 b.edges, .slice A4 n4 c4, .slice A5 n5 c5] 40))
  obtain ⟨W, hW⟩ : ∃ W, w.alloc (.cells #[.int .i64 b.roots, .slice A1 n1 c1, .slice A2 n2 c2, .int .i64 b.edges, .slice A4 n4 c4, .slice A5 n5 c5] 40) = W := ⟨_, rfl⟩
  have hWz : W.heap.size = w.heap.size + 1 := by rw [← hW]; simp
  rw [hW] at HBox HB0
  have HWq := Lib.hid hW
  have hWs : w.heap.size < W.heap.size := by omega
  have hVW : BigAt W W.heap.size (.agg #[.int .i64 b.roots, .slice A1 n1 c1, .slice A2 n2 c2, .int .i64 b.edges, .slice A4 n4 c4, .slice A5 n5 c5]) b := BigAt.wide (BigAt.below ⟨_, _, _, _, _, _, _, _, _, _, _, _, rfl, h1, h2, h4, h5⟩ HB0.out) HB0.out.size
  clear hW hWz
  have C := l2Good_any A n c cs _ b W ((hC.below HB0.out).wide HB0.out.size) hVW hn hs hS hw
  obtain ⟨x0, x1, x2, x3, x4, x5⟩ := HBox.out.get
  have l1 := h1.1
  clear hS hw hVW hs
  cases hq : bigB cs b with
  | false =>
    rw [hq] at C
    have HR := Lib.hid (hgtR_no hq)
    clear hq
    go_enter Try.func49, Try.ntmps49
    go_wp2_with fail
    rw [HWq.out]
    go_wp2_with fail
    refine C.mono ?_
    rintro e w1 ⟨rfl, hb⟩
    have hb1 := HB0.out.trans (hb.mono HB0.out.size)
    clear hb C x0 x1 x2 x3 x4 x5
    go_wp2_with fail
    refine bodyPost_ret (results_tmp2 rfl _ _ _) rfl ?_
    exact ⟨by rw [HR.out]; rfl, hb1⟩
  | true =>
    rw [hq] at C
    have HU := Lib.hid (up_of hq)
    have hsz := size_nodes hq
    have hR2 := hgtR_yes hq
    rw [l1] at hR2 hsz
    have HR := Lib.hid hR2
    clear hq hR2
    go_enter Try.func49, Try.ntmps49
    go_wp2_with fail
    rw [HWq.out]
    go_wp2_with fail
    refine C.mono ?_
    rintro e w1 ⟨rfl, hb⟩
    have hb1 := HB0.out.trans (hb.mono HB0.out.size)
    have hs1 : w.heap.size < w1.heap.size := Nat.lt_of_lt_of_le hWs hb.size
    have HBx1 := Lib.hid (HBox.out.below hb hWs)
    have HB1 := Lib.hid hb1
    clear hb C x0 x1 x2 x3 x4 x5
    obtain ⟨x0, x1, x2, x3, x4, x5⟩ := HBx1.out.get
    go_wp2_with fail
    clear x0 x1 x2 x3 x4 x5
    go_loopw [6, 7] (fun q i wr => ∃ k : Nat, k ≤ n1 ∧ i = .int .i64 k ∧ q = .int .i64 (hgt b.nodes n1 k : Nat) ∧ Below w1.heap.size w1 wr) (fun _ i _ => n1 - (intOf i).toNat)
    case atStart => exact ⟨0, Nat.zero_le _, rfl, rfl, Below.refl _ _⟩
    case round =>
      obtain ⟨k, hk, rfl, rfl, hbel⟩ := hrel
      have hkw := hb1.trans (hbel.mono hb1.size)
      have HBw := Lib.hid hkw
      obtain ⟨x0, x1, x2, x3, x4, x5⟩ := (HBx1.out.below hbel hs1).get
      by_cases hlt : k < n1
      · go_wp2_with fail
        refine (l2Above_any _ _ _ _ _ A1 n1 c1 b.nodes k w wr h1 hkw hsz HU.out (by omega)).mono ?_
        rintro e w3 ⟨v3, rfl, ho, hb3⟩
        obtain ⟨g3, cap3, rfl, -, -, hc3, -⟩ := ho.at
        have HW3 := Lib.hid hb3
        have hB3 := HBw.out.trans (hb3.mono HBw.out.size)
        have hln : ((abv b.nodes n1 k).map (Value.int .i64)).length = (abv b.nodes n1 k).length := List.length_map _
        have hl8 := abv_len b.nodes n1 k
        rw [hln] at hc3 ⊢
        have HT := Lib.hid (show max (hgt b.nodes n1 k) (abv b.nodes n1 k).length = hgt b.nodes n1 (k + 1) from rfl)
        have HK3 := Lib.hid hB3
        have hl := hgt_le b.nodes n1 k
        obtain ⟨L, hL⟩ : ∃ L, (abv b.nodes n1 k).length = L := ⟨_, rfl⟩
        obtain ⟨M, hM⟩ : ∃ M, hgt b.nodes n1 k = M := ⟨_, rfl⟩
        rw [hL] at HT hl8 ⊢
        rw [hM] at HT hl ⊢
        clear ho hb3 hln hc3 hB3 hL hM x0 x1 x2 x3 x4 x5
        go_wp2_with fail
        refine (most_any _ _ _).mono ?_
        rintro e w4 ⟨rfl, rfl⟩
        go_wp2_with fail
        go_roundw
        case rel => exact ⟨k + 1, by omega, by go_num, by first | (rw [← HT.out]; simp; done) | (rw [← HT.out]; simp; omega) | (rw [← HT.out]; simp; split <;> omega), Below.trans hbel ((show Below wr.heap.size wr w3 from HW3.out).mono hbel.size)⟩
        case measure => simp [intOf]; omega
      · obtain rfl : k = n1 := by omega
        clear hbel
        go_wp2_with fail
        refine bodyPost_ret (results_tmp2 rfl _ _ _) rfl ?_
        exact ⟨by rw [HR.out]; rfl, HBw.out⟩

set_option maxRecDepth 20000 in
set_option maxHeartbeats 1600000 in
theorem iHgt_any (A : Option Addr) (n c : Nat) (cs : List Ctl) (v : Value) (b : Big) (w : World) (hC : CtlsAt w w.heap.size A n cs) (hv : BigAt w w.heap.size v b) (hn : n ≤ 1048576) (hs : ∀ c ∈ cs, c.name.size ≤ 1048576) (hS : BigS b) (hw : BigW b) :
    Calls Try.prog 50 #[.slice A n c, v] w (PostI (hgtR cs b) (bigB cs b) w) := by
  obtain ⟨A1, n1, c1, A2, n2, c2, A4, n4, c4, A5, n5, c5, rfl, h1, h2, h4, h5⟩ := hv
  have HBox : Hid (BoxAt (w.alloc (.cells #[.int .i64 b.roots, .slice A1 n1 c1, .slice A2 n2 c2, .int .i64 b.edges, .slice A4 n4 c4, .slice A5 n5 c5] 40)) w.heap.size 40 (.int .i64 b.roots) (.slice A1 n1 c1) (.slice A2 n2 c2) (.int .i64 b.edges) (.slice A4 n4 c4) (.slice A5 n5 c5)) := Lib.hid (six_new w _ _ _ _ _ _ _)
  have HB0 := Lib.hid ((Below.refl w.heap.size w).alloc (Nat.le_refl _) (.cells #[.int .i64 b.roots, .slice A1 n1 c1, .slice A2 n2 c2, .int .i64 b.edges, .slice A4 n4 c4, .slice A5 n5 c5] 40))
  obtain ⟨W, hW⟩ : ∃ W, w.alloc (.cells #[.int .i64 b.roots, .slice A1 n1 c1, .slice A2 n2 c2, .int .i64 b.edges, .slice A4 n4 c4, .slice A5 n5 c5] 40) = W := ⟨_, rfl⟩
  have hWz : W.heap.size = w.heap.size + 1 := by rw [← hW]; simp
  rw [hW] at HBox HB0
  have HWq := Lib.hid hW
  have hWs : w.heap.size < W.heap.size := by omega
  have hVW : BigAt W W.heap.size (.agg #[.int .i64 b.roots, .slice A1 n1 c1, .slice A2 n2 c2, .int .i64 b.edges, .slice A4 n4 c4, .slice A5 n5 c5]) b := BigAt.wide (BigAt.below ⟨_, _, _, _, _, _, _, _, _, _, _, _, rfl, h1, h2, h4, h5⟩ HB0.out) HB0.out.size
  clear hW hWz
  have C := isBig_any A n c cs _ b W ((hC.below HB0.out).wide HB0.out.size) hVW hn hs hS hw
  obtain ⟨x0, x1, x2, x3, x4, x5⟩ := HBox.out.get
  have l1 := h1.1
  clear hS hw hVW hs
  cases hq : bigB cs b with
  | false =>
    rw [hq] at C
    have HR := Lib.hid (hgtR_no hq)
    clear hq
    go_enter Try.func50, Try.ntmps50
    go_wp2_with fail
    rw [HWq.out]
    go_wp2_with fail
    refine C.mono ?_
    rintro e w1 ⟨rfl, hb⟩
    have hb1 := HB0.out.trans (hb.mono HB0.out.size)
    clear hb C x0 x1 x2 x3 x4 x5
    go_wp2_with fail
    refine bodyPost_ret (results_tmp2 rfl _ _ _) rfl ?_
    exact ⟨by rw [HR.out]; rfl, hb1⟩
  | true =>
    rw [hq] at C
    have HU := Lib.hid (up_of hq)
    have hsz := size_nodes hq
    have hR2 := hgtR_yes hq
    rw [l1] at hR2 hsz
    have HR := Lib.hid hR2
    clear hq hR2
    go_enter Try.func50, Try.ntmps50
    go_wp2_with fail
    rw [HWq.out]
    go_wp2_with fail
    refine C.mono ?_
    rintro e w1 ⟨rfl, hb⟩
    have hb1 := HB0.out.trans (hb.mono HB0.out.size)
    have hs1 : w.heap.size < w1.heap.size := Nat.lt_of_lt_of_le hWs hb.size
    have HBx1 := Lib.hid (HBox.out.below hb hWs)
    have HB1 := Lib.hid hb1
    clear hb C x0 x1 x2 x3 x4 x5
    obtain ⟨x0, x1, x2, x3, x4, x5⟩ := HBx1.out.get
    go_wp2_with fail
    clear x0 x1 x2 x3 x4 x5
    go_loopw [6, 15] (fun q i wr => ∃ k : Nat, k ≤ n1 ∧ i = .int .i64 k ∧ q = .int .i64 (hgt b.nodes n1 k : Nat) ∧ Below w1.heap.size w1 wr) (fun _ i _ => n1 - (intOf i).toNat)
    case atStart => exact ⟨0, Nat.zero_le _, rfl, rfl, Below.refl _ _⟩
    case round =>
      obtain ⟨k, hk, rfl, rfl, hbel⟩ := hrel
      have hkw := hb1.trans (hbel.mono hb1.size)
      have HBw := Lib.hid hkw
      obtain ⟨x0, x1, x2, x3, x4, x5⟩ := (HBx1.out.below hbel hs1).get
      by_cases hlt : k < n1
      · go_wp2_with fail
        refine (anc_any _ _ _ _ _ A1 n1 c1 b.nodes k w wr h1 hkw hsz HU.out (by omega)).mono ?_
        rintro e w3 ⟨v3, rfl, ho, hb3⟩
        obtain ⟨g3, cap3, rfl, -, -, hc3, -⟩ := ho.at
        have HW3 := Lib.hid hb3
        have hB3 := HBw.out.trans (hb3.mono HBw.out.size)
        have hln : ((abv b.nodes n1 k).map (Value.int .i64)).length = (abv b.nodes n1 k).length := List.length_map _
        have hl8 := abv_len b.nodes n1 k
        rw [hln] at hc3 ⊢
        have HT := Lib.hid (show max (hgt b.nodes n1 k) (abv b.nodes n1 k).length = hgt b.nodes n1 (k + 1) from rfl)
        have HK3 := Lib.hid hB3
        have hl := hgt_le b.nodes n1 k
        obtain ⟨L, hL⟩ : ∃ L, (abv b.nodes n1 k).length = L := ⟨_, rfl⟩
        obtain ⟨M, hM⟩ : ∃ M, hgt b.nodes n1 k = M := ⟨_, rfl⟩
        rw [hL] at HT hl8 ⊢
        rw [hM] at HT hl ⊢
        clear ho hb3 hln hc3 hB3 hL hM x0 x1 x2 x3 x4 x5
        go_wp2_with fail
        go_roundw
        case rel => exact ⟨k + 1, by omega, by go_num, by first | (rw [← HT.out]; simp; done) | (rw [← HT.out]; simp; omega) | (rw [← HT.out]; simp; split <;> omega), Below.trans hbel ((show Below wr.heap.size wr w3 from HW3.out).mono hbel.size)⟩
        case measure => simp [intOf]; omega
      · obtain rfl : k = n1 := by omega
        clear hbel
        go_wp2_with fail
        refine bodyPost_ret (results_tmp2 rfl _ _ _) rfl ?_
        exact ⟨by rw [HR.out]; rfl, HBw.out⟩
end Go.Proofs.Ytdejbacfgcahlaa.hgt

