/- The children of a place: spec.ChildrenOf, impl.ChildrenOf. -/
import Derived.Test.YtdejbacfgcahlaaRt
import Derived.Test.YtdejbacfgcahlaaAnc
import Derived.Maps.AppendAt
import Derived.Deep.RegionHeld3
namespace Go.Proofs.Ytdejbacfgcahlaa.chd
open kit bg opn strs only hb sg sig isig un gd inn ht hi cf ib rs rt abv anc
open Go.RowKit
set_option linter.unusedVariables false

/-- the numbers below k that a test takes, in ascending order -/
def sel (P : Nat → Bool) : Nat → List Int
  | 0 => []
  | k + 1 => if P k = true then sel P k ++ [(k : Int)] else sel P k
theorem sel_yes {P : Nat → Bool} {k : Nat} (h : P k = true) : sel P (k + 1) = sel P k ++ [(k : Int)] := by rw [sel, if_pos h]
theorem sel_no {P : Nat → Bool} {k : Nat} (h : P k = false) : sel P (k + 1) = sel P k := by rw [sel, if_neg (by simp [h])]
theorem sel_len (P : Nat → Bool) : ∀ k, (sel P k).length ≤ k
  | 0 => Nat.le_refl _
  | k + 1 => by
    have := sel_len P k
    cases h : P k with
    | true => rw [sel_yes h, List.length_append, List.length_singleton]; omega
    | false => rw [sel_no h]; omega
def kidP (ns : List Nd) (p : Int) (i : Nat) : Bool := match ns[i]? with
  | some x => decide (x.parent = p)
  | none => false
def siteP (zs : List Int) (p : Int) (i : Nat) : Bool := match zs[i]? with
  | some u => decide (u = p)
  | none => false
theorem kid_at {ns : List Nd} {p : Int} {i : Nat} {x : Nd} (h : ns[i]? = some x) : kidP ns p i = decide (x.parent = p) := by unfold kidP; rw [h]
theorem site_at {zs : List Int} {p : Int} {i : Nat} {u : Int} (h : zs[i]? = some u) : siteP zs p i = decide (u = p) := by unfold siteP; rw [h]

noncomputable def chQ (cs : List Ctl) (b : Big) (p : Int) : Bool := bigB cs b && (inb p (-b.roots) (-1) || inb p 0 (b.nodes.length - 1))
noncomputable def chA (cs : List Ctl) (b : Big) (p : Int) : List Int := if chQ cs b p = true then sel (kidP b.nodes p) b.nodes.length else []
noncomputable def chB (cs : List Ctl) (b : Big) (p : Int) : List Int := if chQ cs b p = true then sel (siteP b.sites p) b.sites.length else []
theorem chA_no {cs : List Ctl} {b : Big} {p : Int} (h : chQ cs b p = false) : chA cs b p = [] := by unfold chA; rw [h]; rfl
theorem chA_yes {cs : List Ctl} {b : Big} {p : Int} (h : chQ cs b p = true) : chA cs b p = sel (kidP b.nodes p) b.nodes.length := by unfold chA; rw [if_pos h]
theorem chB_no {cs : List Ctl} {b : Big} {p : Int} (h : chQ cs b p = false) : chB cs b p = [] := by unfold chB; rw [h]; rfl
theorem chB_yes {cs : List Ctl} {b : Big} {p : Int} (h : chQ cs b p = true) : chB cs b p = sel (siteP b.sites p) b.sites.length := by unfold chB; rw [if_pos h]
theorem chA_len {cs : List Ctl} {b : Big} {p : Int} (h : BigS b) : (chA cs b p).length ≤ 1048576 := by
  cases hq : chQ cs b p with
  | false => rw [chA_no hq]; simp
  | true => rw [chA_yes hq]; exact Nat.le_trans (sel_len _ _) h.1
theorem chB_len {cs : List Ctl} {b : Big} {p : Int} (h : BigS b) : (chB cs b p).length ≤ 1048576 := by
  cases hq : chQ cs b p with
  | false => rw [chB_no hq]; simp
  | true => rw [chB_yes hq]; exact Nat.le_trans (sel_len _ _) h.2.2.1
theorem place_eq (p R : Int) (m : Nat) (hR : 0 ≤ R) : inb p (-R) ((m : Int) - 1) = (inb p (-R) (-1) || inb p 0 ((m : Int) - 1)) := by
  unfold inb
  rw [← Bool.decide_or]
  congr 1
  exact propext ⟨fun h => by omega, fun h => by omega⟩
theorem roots_of {cs : List Ctl} {b : Big} (h : bigB cs b = true) : 0 ≤ b.roots ∧ b.roots ≤ 4 := (sizes_of (big_of h).2.1).1
theorem sites_of {cs : List Ctl} {b : Big} (h : bigB cs b = true) : b.sites.length ≤ 4 := (sizes_of (big_of h).2.1).2.2.2.1

theorem place_any (v2 v3 v4 v5 : Value) (A1 : Option Addr) (n1 c1 : Nat) (p R : Int) (w : World) (hn : n1 ≤ 1048576) (hR : 0 ≤ R ∧ R ≤ 4) :
    Calls Try.prog 87 #[.agg #[.int .i64 R, .slice A1 n1 c1, v2, v3, v4, v5], .int .i64 p] w (Post (inb p (-R) (n1 - 1)) w) := by
  obtain ⟨r0, r1⟩ := hR
  go_enter Try.func87, Try.ntmps87
  go_wp2_with (go_at_call 119; refine (in_any _ _ _ _).mono ?_; rintro e w' ⟨rfl, rfl⟩)
  go_ret
  exact ⟨rfl, (Below.refl _ _).alloc (Nat.le_refl _) _⟩

set_option maxRecDepth 20000 in
set_option maxHeartbeats 1600000 in
theorem kids_any (v0 v2 v3 v4 v5 : Value) (A1 : Option Addr) (n1 c1 : Nat) (ns : List Nd) (p : Int) (w0 w : World) (h : NdsAt w0 w0.heap.size A1 n1 ns) (hb0 : Below w0.heap.size w0 w) (hn : n1 ≤ 8) :
    Calls Try.prog 88 #[.agg #[v0, .slice A1 n1 c1, v2, v3, v4, v5], .int .i64 p] w (ColPost 3 ((sel (kidP ns p) n1).map (Value.int .i64)) w) := by
  obtain ⟨i0, hi, hz0, hz1, hz2⟩ := info_parts int_info
  have HI := Lib.hid (And.intro hi (And.intro hz0 (And.intro hz1 hz2)))
  have HBox := Lib.hid (six_new w v0 (.slice A1 n1 c1) v2 v3 v4 v5 40)
  clear hi hz0 hz1 hz2
  go_enter Try.func88, Try.ntmps88
  go_wp2_with fail
  go_loopw [5, 6] (fun v i wr => ∃ k : Nat, k ≤ n1 ∧ i = .int .i64 k ∧ Owns wr (w.heap.size + 1) 3 v ((sel (kidP ns p) k).map (Value.int .i64)) ∧ Below (w.heap.size + 1) (w.alloc (.cells #[v0, .slice A1 n1 c1, v2, v3, v4, v5] 40)) wr) (fun _ i _ => n1 - (intOf i).toNat)
  case atStart =>
    exact ⟨0, Nat.zero_le _, rfl, ⟨by
      have := World.ownsRow_made (base := w.heap.size + 1) (e := 3) (size := 1) (w.alloc (.cells #[v0, .slice A1 n1 c1, v2, v3, v4, v5] 40)) #[] 0 (by simp) (by unfold maxLen; omega) (by simp)
      simpa [sel] using this, by simp⟩, (Below.refl _ _).alloc (by simp) _⟩
  case round =>
    obtain ⟨k, hk, rfl, ⟨hown, hnn⟩, hbel⟩ := hrel
    have hsz := hbel.size
    simp at hsz
    have hrow := HBox.out.of_block (hbel.block w.heap.size (by omega))
    obtain ⟨x0, x1, x2, x3, x4, x5⟩ := row6 hrow
    simp only [six] at x0 x1 x2 x3 x4 x5
    simp at x0 x1 x2 x3 x4 x5
    have hbw : Below w0.heap.size w0 wr := hb0.trans (((Below.refl w0.heap.size w).alloc hb0.size _).trans (hbel.mono (by have := hb0.size; omega)))
    clear hrow
    by_cases hlt : k < n1
    · obtain ⟨b, off, x, rfl, hbb, hx, c0, c1', -⟩ := h.get hlt
      have d1 := (hbw.cell (p := ⟨b, off + k * 3 + 1, none⟩) hbb).trans c1'
      by_cases heq : x.parent = p
      · have hsel := sel_yes (P := kidP ns p) (k := k) ((kid_at hx).trans (decide_eq_true heq))
        have hlen := sel_len (kidP ns p) k
        have hln : ((sel (kidP ns p) k).map (Value.int .i64)).length = (sel (kidP ns p) k).length := List.length_map _
        rw [hln] at hown
        have HN := Lib.hid hnn
        obtain ⟨L, hL⟩ : ∃ L, (sel (kidP ns p) k) = L := ⟨_, rfl⟩
        rw [hL] at hown hlen hsel
        have HS := Lib.hid hsel
        obtain ⟨m, hm⟩ : ∃ m, L.length = m := ⟨_, rfl⟩
        rw [hm] at hown hlen
        have HM := Lib.hid hm
        obtain ⟨D, hD⟩ : ∃ D, L.map (Value.int .i64) = D := ⟨_, rfl⟩
        rw [hD] at hown
        have HD := Lib.hid hD
        clear hx hln hnn hsel hL hm hD c0 c1'
        go_wp2_with (at_builtin; refine wpList_append_own _ rfl _ _ 30 rfl (w.heap.size + 1) 3 i0 (.int .i64 0) 1 8 Try.underlying30 HI.out.1 HI.out.2.1 HI.out.2.2.1 HI.out.2.2.2 rfl (by decide) _ _ _ rfl (hown.alloc _) ⟨wr.heap.size, 0, none⟩ 1 1 [.int .i64 (k : Int)] rfl rfl (cell_one_new _ _ _) (fun x hx => by simp at hx; subst hx; rfl) (by unfold maxLen; omega) (by omega) (by simp; omega) ?_; intro v1 w1 hown1 hgrow1 hnil1)
        have hb1 := Lib.hid ((hbel.alloc (by omega) (.cells #[.int .i64 (k : Int)] 3)).grown hgrow1 (by simp; omega) (fun j hj => (hown.lt j hj).1))
        have HOwn := Lib.hid hown1
        have HN1 : Hid (v1 ≠ .slice none 0 0) := fun h => HN.out (hnil1.1 h).1
        clear hown1 hgrow1 hnil1 hown
        go_wp2_with fail
        go_roundw
        case rel => exact ⟨k + 1, by omega, by go_num, ⟨by
          have := HOwn.out
          rw [HS.out, List.map_append, HD.out, List.map_cons, List.map_nil, List.length_append, List.length_singleton]
          have e : D.length = m := by rw [← HD.out, List.length_map]; exact HM.out
          rw [e]
          exact this, HN1.out⟩, hb1.out⟩
        case measure => simp [intOf]; omega
      · have hsel := sel_no (P := kidP ns p) (k := k) ((kid_at hx).trans (decide_eq_false heq))
        have HOwn := Lib.hid (show Owns wr (w.heap.size + 1) 3 _ _ from ⟨hown, hnn⟩)
        rw [← hsel] at HOwn
        have HB := Lib.hid hbel
        clear hx hown hnn hsel c0 c1'
        go_wp2_with fail
        go_roundw
        case rel => exact ⟨k + 1, by omega, by go_num, HOwn.out, HB.out⟩
        case measure => simp [intOf]; omega
    · obtain rfl : k = n1 := by omega
      have HOwn := Lib.hid (show Owns wr w.heap.size 3 _ _ from (Owns.mono ⟨hown, hnn⟩ (Nat.le_succ _)))
      clear hown
      go_wp2_with fail
      go_ret
      exact ⟨_, rfl, HOwn.out, ((Below.refl w.heap.size w).alloc (Nat.le_refl _) _).trans (hbel.mono (Nat.le_succ _))⟩

set_option maxRecDepth 20000 in
set_option maxHeartbeats 1600000 in
theorem holes_any (v0 v1 v3 v4 v5 : Value) (A2 : Option Addr) (n2 c2 : Nat) (zs : List Int) (p : Int) (w0 w : World) (h : IntsAt w0 w0.heap.size A2 n2 zs) (hb0 : Below w0.heap.size w0 w) (hn : n2 ≤ 8) :
    Calls Try.prog 89 #[.agg #[v0, v1, .slice A2 n2 c2, v3, v4, v5], .int .i64 p] w (ColPost 3 ((sel (siteP zs p) n2).map (Value.int .i64)) w) := by
  obtain ⟨i0, hi, hz0, hz1, hz2⟩ := info_parts int_info
  have HI := Lib.hid (And.intro hi (And.intro hz0 (And.intro hz1 hz2)))
  have HBox := Lib.hid (six_new w v0 v1 (.slice A2 n2 c2) v3 v4 v5 40)
  clear hi hz0 hz1 hz2
  go_enter Try.func89, Try.ntmps89
  go_wp2_with fail
  go_loopw [5, 6] (fun v i wr => ∃ k : Nat, k ≤ n2 ∧ i = .int .i64 k ∧ Owns wr (w.heap.size + 1) 3 v ((sel (siteP zs p) k).map (Value.int .i64)) ∧ Below (w.heap.size + 1) (w.alloc (.cells #[v0, v1, .slice A2 n2 c2, v3, v4, v5] 40)) wr) (fun _ i _ => n2 - (intOf i).toNat)
  case atStart =>
    exact ⟨0, Nat.zero_le _, rfl, ⟨by
      have := World.ownsRow_made (base := w.heap.size + 1) (e := 3) (size := 1) (w.alloc (.cells #[v0, v1, .slice A2 n2 c2, v3, v4, v5] 40)) #[] 0 (by simp) (by unfold maxLen; omega) (by simp)
      simpa [sel] using this, by simp⟩, (Below.refl _ _).alloc (by simp) _⟩
  case round =>
    obtain ⟨k, hk, rfl, ⟨hown, hnn⟩, hbel⟩ := hrel
    have hsz := hbel.size
    simp at hsz
    have hrow := HBox.out.of_block (hbel.block w.heap.size (by omega))
    obtain ⟨x0, x1, x2, x3, x4, x5⟩ := row6 hrow
    simp only [six] at x0 x1 x2 x3 x4 x5
    simp at x0 x1 x2 x3 x4 x5
    have hbw : Below w0.heap.size w0 wr := hb0.trans (((Below.refl w0.heap.size w).alloc hb0.size _).trans (hbel.mono (by have := hb0.size; omega)))
    clear hrow
    by_cases hlt : k < n2
    · obtain ⟨b, off, u, rfl, hbb, hx, c0⟩ := IntsAt.get h hlt
      have d1 := (hbw.cell (p := ⟨b, off + k, none⟩) hbb).trans c0
      by_cases heq : u = p
      · have hsel := sel_yes (P := siteP zs p) (k := k) ((site_at hx).trans (decide_eq_true heq))
        have hlen := sel_len (siteP zs p) k
        have hln : ((sel (siteP zs p) k).map (Value.int .i64)).length = (sel (siteP zs p) k).length := List.length_map _
        rw [hln] at hown
        have HN := Lib.hid hnn
        obtain ⟨L, hL⟩ : ∃ L, (sel (siteP zs p) k) = L := ⟨_, rfl⟩
        rw [hL] at hown hlen hsel
        have HS := Lib.hid hsel
        obtain ⟨m, hm⟩ : ∃ m, L.length = m := ⟨_, rfl⟩
        rw [hm] at hown hlen
        have HM := Lib.hid hm
        obtain ⟨D, hD⟩ : ∃ D, L.map (Value.int .i64) = D := ⟨_, rfl⟩
        rw [hD] at hown
        have HD := Lib.hid hD
        clear hx hln hnn hsel hL hm hD c0
        go_wp2_with (at_builtin; refine wpList_append_own _ rfl _ _ 30 rfl (w.heap.size + 1) 3 i0 (.int .i64 0) 1 8 Try.underlying30 HI.out.1 HI.out.2.1 HI.out.2.2.1 HI.out.2.2.2 rfl (by decide) _ _ _ rfl (hown.alloc _) ⟨wr.heap.size, 0, none⟩ 1 1 [.int .i64 (k : Int)] rfl rfl (cell_one_new _ _ _) (fun x hx => by simp at hx; subst hx; rfl) (by unfold maxLen; omega) (by omega) (by simp; omega) ?_; intro v1 w1 hown1 hgrow1 hnil1)
        have hb1 := Lib.hid ((hbel.alloc (by omega) (.cells #[.int .i64 (k : Int)] 3)).grown hgrow1 (by simp; omega) (fun j hj => (hown.lt j hj).1))
        have HOwn := Lib.hid hown1
        have HN1 : Hid (v1 ≠ .slice none 0 0) := fun h => HN.out (hnil1.1 h).1
        clear hown1 hgrow1 hnil1 hown
        go_wp2_with fail
        go_roundw
        case rel => exact ⟨k + 1, by omega, by go_num, ⟨by
          have := HOwn.out
          rw [HS.out, List.map_append, HD.out, List.map_cons, List.map_nil, List.length_append, List.length_singleton]
          have e : D.length = m := by rw [← HD.out, List.length_map]; exact HM.out
          rw [e]
          exact this, HN1.out⟩, hb1.out⟩
        case measure => simp [intOf]; omega
      · have hsel := sel_no (P := siteP zs p) (k := k) ((site_at hx).trans (decide_eq_false heq))
        have HOwn := Lib.hid (show Owns wr (w.heap.size + 1) 3 _ _ from ⟨hown, hnn⟩)
        rw [← hsel] at HOwn
        have HB := Lib.hid hbel
        clear hx hown hnn hsel c0
        go_wp2_with fail
        go_roundw
        case rel => exact ⟨k + 1, by omega, by go_num, HOwn.out, HB.out⟩
        case measure => simp [intOf]; omega
    · obtain rfl : k = n2 := by omega
      have HOwn := Lib.hid (show Owns wr w.heap.size 3 _ _ from (Owns.mono ⟨hown, hnn⟩ (Nat.le_succ _)))
      clear hown
      go_wp2_with fail
      go_ret
      exact ⟨_, rfl, HOwn.out, ((Below.refl w.heap.size w).alloc (Nat.le_refl _) _).trans (hbel.mono (Nat.le_succ _))⟩

set_option maxRecDepth 20000 in
set_option maxHeartbeats 6400000 in
theorem sCh_any (A : Option Addr) (n c : Nat) (cs : List Ctl) (v : Value) (b : Big) (z : Int) (w : World) (hC : CtlsAt w w.heap.size A n cs) (hv : BigAt w w.heap.size v b) (hn : n ≤ 1048576) (hs : ∀ c ∈ cs, c.name.size ≤ 1048576) (hS : BigS b) (hw : BigW b) :
    Calls Try.prog 35 #[.slice A n c, v, .int .i64 z] w (Res2Post 3 3 (chQ cs b z) ((chA cs b z).map (Value.int .i64)) ((chB cs b z).map (Value.int .i64)) w) := by
  obtain ⟨A1, n1, c1, A2, n2, c2, A4, n4, c4, A5, n5, c5, rfl, h1, h2, h4, h5⟩ := hv
  have HBox : Hid (BoxAt (w.alloc (.cells #[.int .i64 b.roots, .slice A1 n1 c1, .slice A2 n2 c2, .int .i64 b.edges, .slice A4 n4 c4, .slice A5 n5 c5] 40)) w.heap.size 40 (.int .i64 b.roots) (.slice A1 n1 c1) (.slice A2 n2 c2) (.int .i64 b.edges) (.slice A4 n4 c4) (.slice A5 n5 c5)) := Lib.hid (six_new w _ _ _ _ _ _ _)
  have HB0 := Lib.hid ((Below.refl w.heap.size w).alloc (Nat.le_refl _) (.cells #[.int .i64 b.roots, .slice A1 n1 c1, .slice A2 n2 c2, .int .i64 b.edges, .slice A4 n4 c4, .slice A5 n5 c5] 40))
  obtain ⟨W, hW⟩ : ∃ W, w.alloc (.cells #[.int .i64 b.roots, .slice A1 n1 c1, .slice A2 n2 c2, .int .i64 b.edges, .slice A4 n4 c4, .slice A5 n5 c5] 40) = W := ⟨_, rfl⟩
  have hWz : W.heap.size = w.heap.size + 1 := by rw [← hW]; simp
  rw [hW] at HBox HB0
  have HWq := Lib.hid hW
  have hWs : w.heap.size < W.heap.size := by omega
  have hVW : BigAt W W.heap.size (.agg #[.int .i64 b.roots, .slice A1 n1 c1, .slice A2 n2 c2, .int .i64 b.edges, .slice A4 n4 c4, .slice A5 n5 c5]) b := BigAt.wide (BigAt.below ⟨_, _, _, _, _, _, _, _, _, _, _, _, rfl, h1, h2, h4, h5⟩ HB0.out) HB0.out.size
  clear hW hWz
  have C := l2Good_any A n c cs _ b W ((hC.below HB0.out).wide HB0.out.size) hVW hn hs hS hw
  obtain ⟨x0, x1, x2, x3, x4, x5⟩ := HBox.out.get
  have l1 := h1.1
  have l2 := h2.len
  have hM1 : n1 ≤ 1048576 := by have := hS.1; omega
  clear hS hw hVW hs
  cases hq : bigB cs b with
  | false =>
    rw [hq] at C
    have hQ : chQ cs b z = false := by unfold chQ; rw [hq]; rfl
    have HR := Lib.hid (chA_no hQ)
    have HR' := Lib.hid (chB_no hQ)
    rw [hQ]
    clear hq hQ
    go_enter Try.func35, Try.ntmps35
    go_wp2_with fail
    rw [HWq.out]
    go_wp2_with fail
    refine C.mono ?_
    rintro e w1 ⟨rfl, hb⟩
    have hb1 := HB0.out.trans (hb.mono HB0.out.size)
    have hs1 : w.heap.size < w1.heap.size := Nat.lt_of_lt_of_le hWs hb.size
    have HBx1 := HBox.out.below hb hWs
    clear hb C x0 x1 x2 x3 x4 x5
    obtain ⟨x0, x1, x2, x3, x4, x5⟩ := HBx1.get
    go_wp2_with fail
    refine bodyPost_ret (results_tmp3 rfl _ _ _) rfl ?_
    have hbz := hb1.alloc hb1.size (.cells #[] 3)
    exact ⟨.slice (some ⟨w1.heap.size, 0, none⟩) 0 0, .slice (some ⟨w1.heap.size + 1, 0, none⟩) 0 0, rfl, by
      rw [HR.out, HR'.out]
      have e2 := Res.one_empty (w1.alloc (.cells #[] 3)) 3
      rw [World.size_alloc] at e2
      exact ⟨w1.heap.size, w1.heap.size + 1, by omega, hb1.size, by have := hb1.size; omega, (Res.one_empty w1 3).on ((Below.refl _ _).alloc (Nat.le_refl _) _), e2⟩, hbz.alloc hbz.size _⟩
  | true =>
    rw [hq] at C
    have hR := roots_of hq
    have hP := place_eq z b.roots n1 hR.1
    cases hi : inb z (-b.roots) ((n1 : Int) - 1) with
    | false =>
      have hQ : chQ cs b z = false := by unfold chQ; rw [hq, l1, ← hP, hi]; rfl
      have HR := Lib.hid (chA_no hQ)
      have HR' := Lib.hid (chB_no hQ)
      rw [hQ]
      have HIs := Lib.hid (fun w => hi ▸ place_any (.slice A2 n2 c2) (.int .i64 b.edges) (.slice A4 n4 c4) (.slice A5 n5 c5) A1 n1 c1 z b.roots w hM1 hR)
      clear hq hQ hi hP hR
      go_enter Try.func35, Try.ntmps35
      go_wp2_with fail
      rw [HWq.out]
      go_wp2_with fail
      refine C.mono ?_
      rintro e w1 ⟨rfl, hb⟩
      have hb1 := HB0.out.trans (hb.mono HB0.out.size)
      have hs1 : w.heap.size < w1.heap.size := Nat.lt_of_lt_of_le hWs hb.size
      have HBx1 := HBox.out.below hb hWs
      clear hb C x0 x1 x2 x3 x4 x5
      obtain ⟨x0, x1, x2, x3, x4, x5⟩ := HBx1.get
      go_wp2_with fail
      refine (HIs.out _).mono ?_
      rintro e w2 ⟨rfl, hb⟩
      have hb2 := hb1.trans (hb.mono hb1.size)
      have hs2 : w.heap.size < w2.heap.size := Nat.lt_of_lt_of_le hs1 hb.size
      have HBx2 := HBx1.below hb hs1
      clear hb hb1 x0 x1 x2 x3 x4 x5 HBx1 hs1
      obtain ⟨x0, x1, x2, x3, x4, x5⟩ := HBx2.get
      go_wp2_with fail
      refine bodyPost_ret (results_tmp3 rfl _ _ _) rfl ?_
      have hbz := hb2.alloc hb2.size (.cells #[] 3)
      exact ⟨.slice (some ⟨w2.heap.size, 0, none⟩) 0 0, .slice (some ⟨w2.heap.size + 1, 0, none⟩) 0 0, rfl, by
        rw [HR.out, HR'.out]
        have e2 := Res.one_empty (w2.alloc (.cells #[] 3)) 3
        rw [World.size_alloc] at e2
        exact ⟨w2.heap.size, w2.heap.size + 1, by omega, hb2.size, by have := hb2.size; omega, (Res.one_empty w2 3).on ((Below.refl _ _).alloc (Nat.le_refl _) _), e2⟩, hbz.alloc hbz.size _⟩
    | true =>
      have hQ : chQ cs b z = true := by unfold chQ; rw [hq, l1]; rw [← hP, hi]; rfl
      have hA2 := chA_yes hQ
      have hB2 := chB_yes hQ
      have hz1 := size_nodes hq
      have hz2 := sites_of hq
      rw [l1] at hA2 hz1
      rw [l2] at hB2 hz2
      have HA := Lib.hid hA2
      have HB := Lib.hid hB2
      rw [hQ]
      clear hQ hA2 hB2
      have HIs := Lib.hid (fun w => hi ▸ place_any (.slice A2 n2 c2) (.int .i64 b.edges) (.slice A4 n4 c4) (.slice A5 n5 c5) A1 n1 c1 z b.roots w hM1 hR)
      clear hq hi hP hR
      go_enter Try.func35, Try.ntmps35
      go_wp2_with fail
      rw [HWq.out]
      go_wp2_with fail
      refine C.mono ?_
      rintro e w1 ⟨rfl, hb⟩
      have hb1 := HB0.out.trans (hb.mono HB0.out.size)
      have hs1 : w.heap.size < w1.heap.size := Nat.lt_of_lt_of_le hWs hb.size
      have HBx1 := HBox.out.below hb hWs
      clear hb C x0 x1 x2 x3 x4 x5
      obtain ⟨x0, x1, x2, x3, x4, x5⟩ := HBx1.get
      go_wp2_with fail
      refine (HIs.out _).mono ?_
      rintro e w2 ⟨rfl, hb⟩
      have hb2 := hb1.trans (hb.mono hb1.size)
      have hs2 : w.heap.size < w2.heap.size := Nat.lt_of_lt_of_le hs1 hb.size
      have HBx2 := HBx1.below hb hs1
      clear hb hb1 x0 x1 x2 x3 x4 x5 HBx1 hs1
      obtain ⟨x0, x1, x2, x3, x4, x5⟩ := HBx2.get
      go_wp2_with fail
      have HBx2h := Lib.hid HBx2
      have hD2 : Below w2.heap.size w2 w2.drew := (Below.refl _ _).drew
      clear HBx2
      go_region_held3 (fun w' => w'.cell? ⟨w.heap.size, 0, none⟩ = some (.int .i64 b.roots) ∧ w'.cell? ⟨w.heap.size, 1, none⟩ = some (.slice A1 n1 c1) ∧ w'.cell? ⟨w.heap.size, 2, none⟩ = some (.slice A2 n2 c2) ∧ w'.cell? ⟨w.heap.size, 3, none⟩ = some (.int .i64 b.edges) ∧ w'.cell? ⟨w.heap.size, 4, none⟩ = some (.slice A4 n4 c4) ∧ w'.cell? ⟨w.heap.size, 5, none⟩ = some (.slice A5 n5 c5)) (first | exact (HBx3.out.below hb4 hs3).get | exact HBx3.out.get | exact (HBx2h.out.below hD2 hs2).get)
        (first
         | (go_at_call 88; refine (kids_any _ _ _ _ _ A1 n1 c1 b.nodes z w _ h1 hb2.drew hz1).mono ?_; rintro e w3 ⟨v3, rfl, ho3, hb3⟩; have hb23 := hD2.trans (hb3.mono hD2.size); have HBx3 := Lib.hid (HBx2h.out.below hb23 hs2); have hs3 : w.heap.size < w3.heap.size := Nat.lt_of_lt_of_le hs2 hb23.size; have hb03 := hb2.trans (hb23.mono hb2.size))
         | (go_at_call 89; refine (holes_any _ _ _ _ _ A2 n2 c2 b.sites z w _ h2 hb03 (by omega)).mono ?_; rintro e w4 ⟨v4, rfl, ho4, hb4⟩))
      have hb04 := hb03.trans (hb4.mono hb03.size)
      obtain ⟨g3, l3, -, q3, r3⟩ := Res.one ho3
      obtain ⟨g4, l4, -, q4, r4⟩ := Res.one ho4
      have HT := Lib.hid (show Two w4 w.heap.size 3 3 v3 v4 _ _ from ⟨g3, g4, by omega, by have := hb2.size; simp at l3; omega, by have := hb03.size; omega, r3.on hb4, r4⟩)
      clear r3 r4 ho3 ho4 q3 q4 l3 l4 hb3 hb4 hb23 hb03 x0 x1 x2 x3 x4 x5
      go_wp2_with fail
      refine bodyPost_ret (results_tmp3 rfl _ _ _) rfl ?_
      exact ⟨v3, v4, rfl, by rw [HA.out, HB.out]; exact HT.out, hb04⟩
end Go.Proofs.Ytdejbacfgcahlaa.chd

