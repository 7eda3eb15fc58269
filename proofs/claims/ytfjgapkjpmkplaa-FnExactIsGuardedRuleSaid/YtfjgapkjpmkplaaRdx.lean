/- A redex: what it is; impl.childrenFitRedex. -/
import Derived.Test.YtfjgapkjpmkplaaChk
import Derived.Test.YtfjgapkjpmkplaaQf
import Derived.Test.YtfjgapkjpmkplaaQd
import Derived.Test.YtfjgapkjpmkplaaQe
import Derived.Handy
namespace Go.Proofs.Ytfjgapkjpmkplaa.rdx
open kit bg sg opn strs only hb sig isig un over gn nm inn ht gd im pt marks eqs hc hi hw hn rs br bm bw cf lf ib isa lawb lw cl rt chd pts psp idl pl chk
open Go.RowKit
set_option linter.unusedVariables false
set_option linter.unusedSimpArgs false
/-- a test holds for all numbers below k -/
def upto (f : Nat → Bool) : Nat → Bool
  | 0 => true
  | k + 1 => upto f k && f k
theorem upto_step {f : Nat → Bool} {k : Nat} (h : upto f k = true) (hf : f k = true) : upto f (k + 1) = true := by
  show (upto f k && f k) = true
  rw [h, hf]
  rfl
theorem upto_no {f : Nat → Bool} {k : Nat} (hf : f k = false) : ∀ n, k < n → upto f n = false
  | 0, h => absurd h (Nat.not_lt_zero _)
  | n + 1, h => by
    show (upto f n && f n) = false
    by_cases e : k = n
    · rw [← e, hf, Bool.and_false]
    · rw [upto_no hf n (by omega), Bool.false_and]
theorem upto_sel (P : Nat → Bool) : ∀ n, decide ((sel P n).length = 0) = upto (fun i => !P i) n
  | 0 => rfl
  | n + 1 => by
    show _ = (upto (fun i => !P i) n && !P n)
    rw [← upto_sel P n]
    cases h : P n with
    | true =>
      rw [sel_yes h, List.length_append, List.length_singleton]
      simp
    | false =>
      rw [sel_no h]
      simp
def rootB (b : Big) (r : Nat) : Bool := !decide ((sel (kidP b.nodes (-1 - (r : Int))) b.nodes.length).length = 0) && decide ((sel (siteP b.sites (-1 - (r : Int))) b.sites.length).length = 0)
def hole1B (b : Big) (k : Nat) : Bool := decide ((sel (siteP b.sites (k : Int)) b.sites.length).length ≤ 1)
def fitRB (b : Big) : Bool := upto (rootB b) b.roots.toNat && upto (hole1B b) b.nodes.length
def busyB (b : Big) : Bool := upto (fun i => !idleP b i) (b.edges + b.outer.length).toNat
def rdB (b : Big) : Bool := decide (0 < b.roots) && decide (b.inner.length = 0) && busyB b && fitRB b
noncomputable def rdQ (cs : List Ctl) (b : Big) : Bool := bigB cs b && rdB b
theorem root_no1 {b : Big} {r L1 : Nat} (h1 : (sel (kidP b.nodes (-1 - (r : Int))) b.nodes.length).length = L1) (h : L1 = 0) : rootB b r = false := by
  unfold rootB
  rw [h1, decide_eq_true h]
  rfl
theorem root_no2 {b : Big} {r L2 : Nat} (h1 : (sel (siteP b.sites (-1 - (r : Int))) b.sites.length).length = L2) (h : ¬ L2 = 0) : rootB b r = false := by
  unfold rootB
  rw [h1, decide_eq_false h, Bool.and_false]
theorem root_yes {b : Big} {r L1 L2 : Nat} (h1 : (sel (kidP b.nodes (-1 - (r : Int))) b.nodes.length).length = L1) (h2 : (sel (siteP b.sites (-1 - (r : Int))) b.sites.length).length = L2) (h : ¬ L1 = 0) (h' : L2 = 0) : rootB b r = true := by
  unfold rootB
  rw [h1, h2, decide_eq_false h, decide_eq_true h']
  rfl
theorem fit_root {b : Big} {r : Nat} (hr : r < b.roots.toNat) (h : rootB b r = false) : fitRB b = false := by
  unfold fitRB
  rw [upto_no h _ hr]
  rfl
theorem fit_node {b : Big} {k : Nat} (hk : k < b.nodes.length) (h : hole1B b k = false) : fitRB b = false := by
  unfold fitRB
  rw [upto_no h _ hk, Bool.and_false]
theorem kcl_any (v : Value) (b : Big) (z : Int) (w : World) (hv : BigAt w w.heap.size v b) (hzn : b.nodes.length ≤ 8) (hzs : b.sites.length ≤ 4) (L1 L2 : Nat) (h1 : (sel (kidP b.nodes z) b.nodes.length).length = L1) (h2 : (sel (siteP b.sites z) b.sites.length).length = L2) :
    Calls Try.prog 132 #[v, .int .i64 z] w fun e w' => ∃ (A : Option Addr) (c : Nat) (A' : Option Addr) (c' : Nat), e = .returned (.tuple #[.slice A L1 c, .slice A' L2 c']) ∧ Below w.heap.size w w' := by
  refine (kch_any v b z w hv hzn hzs).mono ?_
  rintro e w' ⟨u, v, rfl, ⟨g, g', -, -, -, ⟨A, c, rfl, -, -⟩, ⟨A', c', rfl, -, -⟩⟩, hb⟩
  refine ⟨A, c, A', c', ?_, hb⟩
  rw [List.length_map, List.length_map, h1, h2]
set_option maxRecDepth 20000 in
set_option maxHeartbeats 6400000 in
theorem cfr_any (v : Value) (b : Big) (w : World) (hv : BigAt w w.heap.size v b) (hR : 0 ≤ b.roots ∧ b.roots ≤ 4) (hzn : b.nodes.length ≤ 8) (hzs : b.sites.length ≤ 4) :
    Calls Try.prog 92 #[v] w fun e w' => e = .returned (.bool (fitRB b)) ∧ Below w.heap.size w w' := by
  obtain ⟨A1, n1, c1, A2, n2, c2, A4, n4, c4, A5, n5, c5, rfl, h1, h2, h4, h5⟩ := hv
  have hb0 := (Below.refl w.heap.size w).alloc (Nat.le_refl _) (.cells #[.int .i64 b.roots, .slice A1 n1 c1, .slice A2 n2 c2, .int .i64 b.edges, .slice A4 n4 c4, .slice A5 n5 c5] 39)
  have hbx : BoxAt (w.alloc (.cells #[.int .i64 b.roots, .slice A1 n1 c1, .slice A2 n2 c2, .int .i64 b.edges, .slice A4 n4 c4, .slice A5 n5 c5] 39)) w.heap.size 39 (.int .i64 b.roots) (.slice A1 n1 c1) (.slice A2 n2 c2) (.int .i64 b.edges) (.slice A4 n4 c4) (.slice A5 n5 c5) := six_new w _ _ _ _ _ _ _
  obtain ⟨W, hW⟩ : ∃ W, w.alloc (.cells #[.int .i64 b.roots, .slice A1 n1 c1, .slice A2 n2 c2, .int .i64 b.edges, .slice A4 n4 c4, .slice A5 n5 c5] 39) = W := ⟨_, rfl⟩
  have hWs : w.heap.size < W.heap.size := by rw [← hW]; simp
  rw [hW] at hb0 hbx
  have HWq := Lib.hid hW
  have HB0 := Lib.hid hb0
  have HBox := Lib.hid hbx
  have HVb := Lib.hid (fun (Y : World) (hY : Below w.heap.size w Y) => (BigAt.wide (BigAt.below ⟨_, _, _, _, _, _, _, _, _, _, _, _, rfl, h1, h2, h4, h5⟩ hY) hY.size : BigAt Y Y.heap.size (.agg #[.int .i64 b.roots, .slice A1 n1 c1, .slice A2 n2 c2, .int .i64 b.edges, .slice A4 n4 c4, .slice A5 n5 c5]) b))
  obtain ⟨R, hRR⟩ : ∃ R : Nat, b.roots = R := ⟨b.roots.toNat, by omega⟩
  have hR4 : R ≤ 4 := by omega
  have HRR := Lib.hid hRR
  have HL1 := Lib.hid h1.1
  have hn8 : n1 ≤ 8 := by have := h1.1; omega
  have HZ := Lib.hid (And.intro hzn hzs)
  clear hW hb0 hbx hRR h1 h2 h4 h5 hR hzn hzs
  obtain ⟨x0, x1, x2, x3, x4, x5⟩ := HBox.out.get
  go_enter Try.func92, Try.ntmps92
  go_wp2_with fail
  rw [HWq.out]
  clear x0 x1 x2 x3 x4 x5
  go_loopw [11] (fun i wr => ∃ k : Nat, k ≤ R ∧ i = .int .i64 k ∧ upto (rootB b) k = true ∧ Below W.heap.size W wr) (fun i _ => R - (intOf i).toNat)
  case atStart => exact ⟨0, Nat.zero_le _, rfl, rfl, Below.refl _ _⟩
  case round =>
    obtain ⟨k, hk, rfl, hup, hbel⟩ := hrel
    have hbw := HB0.out.trans (hbel.mono HB0.out.size)
    obtain ⟨x0, x1, x2, x3, x4, x5⟩ := (HBox.out.below hbel hWs).get
    by_cases hlt : k < R
    · have hr0 : (k : Int) < b.roots := by rw [HRR.out]; omega
      have hkr : k < b.roots.toNat := by omega
      obtain ⟨L1, hL1⟩ : ∃ L, (sel (kidP b.nodes (-1 - (k : Int))) b.nodes.length).length = L := ⟨_, rfl⟩
      obtain ⟨L2, hL2⟩ : ∃ L, (sel (siteP b.sites (-1 - (k : Int))) b.sites.length).length = L := ⟨_, rfl⟩
      have HK := Lib.hid (fun (Y : World) (hY : Below w.heap.size w Y) => kcl_any (.agg #[.int .i64 b.roots, .slice A1 n1 c1, .slice A2 n2 c2, .int .i64 b.edges, .slice A4 n4 c4, .slice A5 n5 c5]) b (-1 - (k : Int)) Y (HVb.out Y hY) HZ.out.1 HZ.out.2 L1 L2 hL1 hL2)
      have HS : Hid (∀ w', Below wr.heap.size wr w' → (w'.cell? ⟨w.heap.size, 0, none⟩ = some (.int .i64 b.roots) ∧ w'.cell? ⟨w.heap.size, 1, none⟩ = some (.slice A1 n1 c1) ∧ w'.cell? ⟨w.heap.size, 2, none⟩ = some (.slice A2 n2 c2) ∧ w'.cell? ⟨w.heap.size, 3, none⟩ = some (.int .i64 b.edges) ∧ w'.cell? ⟨w.heap.size, 4, none⟩ = some (.slice A4 n4 c4) ∧ w'.cell? ⟨w.heap.size, 5, none⟩ = some (.slice A5 n5 c5))) := Lib.hid (fun w' hq => (HBox.out.below (hbel.trans (hq.mono hbel.size)) hWs).get)
      have hkD := (Below.refl wr.heap.size wr).drew
      have hwD := hbw.drew
      by_cases a1 : L1 = 0
      · have HF := Lib.hid (fit_root hkr (root_no1 hL1 a1))
        subst a1
        clear hup hkr hL1 hL2
        go_wp2_with fail
        clear x0 x1 x2 x3 x4 x5
        refine rh.go_begin 8 (fun w' => (w'.cell? ⟨w.heap.size, 0, none⟩ = some (.int .i64 b.roots) ∧ w'.cell? ⟨w.heap.size, 1, none⟩ = some (.slice A1 n1 c1) ∧ w'.cell? ⟨w.heap.size, 2, none⟩ = some (.slice A2 n2 c2) ∧ w'.cell? ⟨w.heap.size, 3, none⟩ = some (.int .i64 b.edges) ∧ w'.cell? ⟨w.heap.size, 4, none⟩ = some (.slice A4 n4 c4) ∧ w'.cell? ⟨w.heap.size, 5, none⟩ = some (.slice A5 n5 c5))) (by kernel_rfl) ?_ (fun hHeld => ?_)
        · ((try dsimp only); exact HS.out _ (by go_grown))
        refine rh.go_take (i := 0) (v := ?v1) rfl (by kernel_rfl) (fun _ _ _ h => h) (Or.inl ⟨by rfl, ?hy1⟩) (by assumption) ?rest1
        case hy1 => (intro wS hSw; (try dsimp only at hSw); go_simp; try (with_reducible rfl))
        try simp only [Act.put, List.setIfInBounds_toArray, List.set_cons_zero, List.set_cons_succ]
        refine rh.go_take (i := 1) (v := ?v2) rfl (by kernel_rfl) (fun _ _ _ h => h) (Or.inl ⟨by rfl, ?hy2⟩) (by assumption) ?rest2
        case hy2 => (intro wS hSw; (try dsimp only at hSw); go_simp; try (with_reducible rfl))
        try simp only [Act.put, List.setIfInBounds_toArray, List.set_cons_zero, List.set_cons_succ]
        refine rh.go_next (i := 2) rfl (by kernel_rfl) (fun K2 hK => ?_)
        (go_simp; go_at_call 87; refine (por_any (k : Int) _ (by omega)).mono ?_; rintro e w2 ⟨rfl, rfl⟩; go_wp2_with fail)
        refine hK.out _ _ ?_ (fun hHeld => ?_)
        · ((try dsimp only); exact HS.out _ (by go_grown))
        clear hK K2
        try simp only [Act.put, List.setIfInBounds_toArray, List.set_cons_zero, List.set_cons_succ]
        refine rh.go_next (i := 3) rfl (by kernel_rfl) (fun K2 hK => ?_)
        (go_simp; go_at_call 132; refine (HK.out _ hwD).mono ?_; rintro e w3 ⟨A7, c7, A8, c8, rfl, hb⟩; have hk3 := hkD.trans (hb.mono hkD.size); have hW3 := Lib.hid (hbel.trans (hk3.mono hbel.size)); clear hb; go_wp2_with fail)
        refine hK.out _ _ ?_ (fun hHeld => ?_)
        · ((try dsimp only); exact HS.out _ (by go_grown))
        clear hK K2
        try simp only [Act.put, List.setIfInBounds_toArray, List.set_cons_zero, List.set_cons_succ]
        refine rh.go_take (i := 4) (v := ?v3) rfl (by kernel_rfl) (fun _ _ _ h => h) (Or.inl ⟨by rfl, ?hy3⟩) (by assumption) ?rest3
        case hy3 => (intro wS hSw; (try dsimp only at hSw); go_simp; try (with_reducible rfl))
        try simp only [Act.put, List.setIfInBounds_toArray, List.set_cons_zero, List.set_cons_succ]
        refine rh.go_take (i := 5) (v := ?v4) rfl (by kernel_rfl) (fun _ _ _ h => h) (Or.inl ⟨by rfl, ?hy4⟩) (by assumption) ?rest4
        case hy4 => (intro wS hSw; (try dsimp only at hSw); go_simp; try (with_reducible rfl))
        try simp only [Act.put, List.setIfInBounds_toArray, List.set_cons_zero, List.set_cons_succ]
        refine rh.go_take (i := 6) (v := ?v5) rfl (by kernel_rfl) (fun _ _ _ h => h) (Or.inl ⟨by rfl, ?hy5⟩) (by assumption) ?rest5
        case hy5 => (intro wS hSw; (try dsimp only at hSw); go_simp; try (with_reducible rfl))
        try simp only [Act.put, List.setIfInBounds_toArray, List.set_cons_zero, List.set_cons_succ]
        refine rh.go_next (i := 7) rfl (by kernel_rfl) (fun K2 hK => ?_)
        go_simp
        refine hK.out _ _ ?_ (fun hHeld => ?_)
        · ((try dsimp only); exact HS.out _ (by go_grown))
        clear hK K2
        try simp only [Act.put, List.setIfInBounds_toArray, List.set_cons_zero, List.set_cons_succ]
        refine rh.go_last rfl (by kernel_rfl) (fun K2 hK => ?_)
        go_simp
        refine hK.out _ _ ?_
        refine NoPanic.normal ?_
        clear hK K2
        go_wp2_with fail
        go_ret
        exact ⟨by rw [HF.out]; rfl, HB0.out.trans (hW3.out.mono HB0.out.size)⟩
      · have a1' : ¬ ((L1 : Int) = 0) := by omega
        by_cases a2 : L2 = 0
        · have HU := Lib.hid (upto_step hup (root_yes hL1 hL2 a1 a2))
          subst a2
          clear hup hkr hL1 hL2
          go_wp2_with fail
          clear x0 x1 x2 x3 x4 x5
          refine rh.go_begin 8 (fun w' => (w'.cell? ⟨w.heap.size, 0, none⟩ = some (.int .i64 b.roots) ∧ w'.cell? ⟨w.heap.size, 1, none⟩ = some (.slice A1 n1 c1) ∧ w'.cell? ⟨w.heap.size, 2, none⟩ = some (.slice A2 n2 c2) ∧ w'.cell? ⟨w.heap.size, 3, none⟩ = some (.int .i64 b.edges) ∧ w'.cell? ⟨w.heap.size, 4, none⟩ = some (.slice A4 n4 c4) ∧ w'.cell? ⟨w.heap.size, 5, none⟩ = some (.slice A5 n5 c5))) (by kernel_rfl) ?_ (fun hHeld => ?_)
          · ((try dsimp only); exact HS.out _ (by go_grown))
          refine rh.go_take (i := 0) (v := ?v6) rfl (by kernel_rfl) (fun _ _ _ h => h) (Or.inl ⟨by rfl, ?hy6⟩) (by assumption) ?rest6
          case hy6 => (intro wS hSw; (try dsimp only at hSw); go_simp; try (with_reducible rfl))
          try simp only [Act.put, List.setIfInBounds_toArray, List.set_cons_zero, List.set_cons_succ]
          refine rh.go_take (i := 1) (v := ?v7) rfl (by kernel_rfl) (fun _ _ _ h => h) (Or.inl ⟨by rfl, ?hy7⟩) (by assumption) ?rest7
          case hy7 => (intro wS hSw; (try dsimp only at hSw); go_simp; try (with_reducible rfl))
          try simp only [Act.put, List.setIfInBounds_toArray, List.set_cons_zero, List.set_cons_succ]
          refine rh.go_next (i := 2) rfl (by kernel_rfl) (fun K2 hK => ?_)
          (go_simp; go_at_call 87; refine (por_any (k : Int) _ (by omega)).mono ?_; rintro e w2 ⟨rfl, rfl⟩; go_wp2_with fail)
          refine hK.out _ _ ?_ (fun hHeld => ?_)
          · ((try dsimp only); exact HS.out _ (by go_grown))
          clear hK K2
          try simp only [Act.put, List.setIfInBounds_toArray, List.set_cons_zero, List.set_cons_succ]
          refine rh.go_next (i := 3) rfl (by kernel_rfl) (fun K2 hK => ?_)
          (go_simp; go_at_call 132; refine (HK.out _ hwD).mono ?_; rintro e w3 ⟨A7, c7, A8, c8, rfl, hb⟩; have hk3 := hkD.trans (hb.mono hkD.size); have hW3 := Lib.hid (hbel.trans (hk3.mono hbel.size)); clear hb; go_wp2_with fail)
          refine hK.out _ _ ?_ (fun hHeld => ?_)
          · ((try dsimp only); exact HS.out _ (by go_grown))
          clear hK K2
          try simp only [Act.put, List.setIfInBounds_toArray, List.set_cons_zero, List.set_cons_succ]
          refine rh.go_take (i := 4) (v := ?v8) rfl (by kernel_rfl) (fun _ _ _ h => h) (Or.inl ⟨by rfl, ?hy8⟩) (by assumption) ?rest8
          case hy8 => (intro wS hSw; (try dsimp only at hSw); go_simp; try (with_reducible rfl))
          try simp only [Act.put, List.setIfInBounds_toArray, List.set_cons_zero, List.set_cons_succ]
          refine rh.go_take (i := 5) (v := ?v9) rfl (by kernel_rfl) (fun _ _ _ h => h) (Or.inl ⟨by rfl, ?hy9⟩) (by assumption) ?rest9
          case hy9 => (intro wS hSw; (try dsimp only at hSw); go_simp; try (with_reducible rfl))
          try simp only [Act.put, List.setIfInBounds_toArray, List.set_cons_zero, List.set_cons_succ]
          refine rh.go_take (i := 6) (v := ?v10) rfl (by kernel_rfl) (fun _ _ _ h => h) (Or.inl ⟨by rfl, ?hy10⟩) (by assumption) ?rest10
          case hy10 => (intro wS hSw; (try dsimp only at hSw); go_simp; try (with_reducible rfl))
          try simp only [Act.put, List.setIfInBounds_toArray, List.set_cons_zero, List.set_cons_succ]
          refine rh.go_next (i := 7) rfl (by kernel_rfl) (fun K2 hK => ?_)
          go_simp
          refine hK.out _ _ ?_ (fun hHeld => ?_)
          · ((try dsimp only); exact HS.out _ (by go_grown))
          clear hK K2
          try simp only [Act.put, List.setIfInBounds_toArray, List.set_cons_zero, List.set_cons_succ]
          refine rh.go_last rfl (by kernel_rfl) (fun K2 hK => ?_)
          go_simp
          refine hK.out _ _ ?_
          refine NoPanic.normal ?_
          clear hK K2
          go_wp2_with fail
          go_roundw
          case rel => exact ⟨k + 1, by omega, by go_num, HU.out, hW3.out⟩
          case measure => simp [intOf]; omega
        · have a2' : (0 : Int) < (L2 : Int) := by omega
          have HF := Lib.hid (fit_root hkr (root_no2 hL2 a2))
          clear hup hkr hL1 hL2
          go_wp2_with fail
          clear x0 x1 x2 x3 x4 x5
          refine rh.go_begin 8 (fun w' => (w'.cell? ⟨w.heap.size, 0, none⟩ = some (.int .i64 b.roots) ∧ w'.cell? ⟨w.heap.size, 1, none⟩ = some (.slice A1 n1 c1) ∧ w'.cell? ⟨w.heap.size, 2, none⟩ = some (.slice A2 n2 c2) ∧ w'.cell? ⟨w.heap.size, 3, none⟩ = some (.int .i64 b.edges) ∧ w'.cell? ⟨w.heap.size, 4, none⟩ = some (.slice A4 n4 c4) ∧ w'.cell? ⟨w.heap.size, 5, none⟩ = some (.slice A5 n5 c5))) (by kernel_rfl) ?_ (fun hHeld => ?_)
          · ((try dsimp only); exact HS.out _ (by go_grown))
          refine rh.go_take (i := 0) (v := ?v11) rfl (by kernel_rfl) (fun _ _ _ h => h) (Or.inl ⟨by rfl, ?hy11⟩) (by assumption) ?rest11
          case hy11 => (intro wS hSw; (try dsimp only at hSw); go_simp; try (with_reducible rfl))
          try simp only [Act.put, List.setIfInBounds_toArray, List.set_cons_zero, List.set_cons_succ]
          refine rh.go_take (i := 1) (v := ?v12) rfl (by kernel_rfl) (fun _ _ _ h => h) (Or.inl ⟨by rfl, ?hy12⟩) (by assumption) ?rest12
          case hy12 => (intro wS hSw; (try dsimp only at hSw); go_simp; try (with_reducible rfl))
          try simp only [Act.put, List.setIfInBounds_toArray, List.set_cons_zero, List.set_cons_succ]
          refine rh.go_next (i := 2) rfl (by kernel_rfl) (fun K2 hK => ?_)
          (go_simp; go_at_call 87; refine (por_any (k : Int) _ (by omega)).mono ?_; rintro e w2 ⟨rfl, rfl⟩; go_wp2_with fail)
          refine hK.out _ _ ?_ (fun hHeld => ?_)
          · ((try dsimp only); exact HS.out _ (by go_grown))
          clear hK K2
          try simp only [Act.put, List.setIfInBounds_toArray, List.set_cons_zero, List.set_cons_succ]
          refine rh.go_next (i := 3) rfl (by kernel_rfl) (fun K2 hK => ?_)
          (go_simp; go_at_call 132; refine (HK.out _ hwD).mono ?_; rintro e w3 ⟨A7, c7, A8, c8, rfl, hb⟩; have hk3 := hkD.trans (hb.mono hkD.size); have hW3 := Lib.hid (hbel.trans (hk3.mono hbel.size)); clear hb; go_wp2_with fail)
          refine hK.out _ _ ?_ (fun hHeld => ?_)
          · ((try dsimp only); exact HS.out _ (by go_grown))
          clear hK K2
          try simp only [Act.put, List.setIfInBounds_toArray, List.set_cons_zero, List.set_cons_succ]
          refine rh.go_take (i := 4) (v := ?v13) rfl (by kernel_rfl) (fun _ _ _ h => h) (Or.inl ⟨by rfl, ?hy13⟩) (by assumption) ?rest13
          case hy13 => (intro wS hSw; (try dsimp only at hSw); go_simp; try (with_reducible rfl))
          try simp only [Act.put, List.setIfInBounds_toArray, List.set_cons_zero, List.set_cons_succ]
          refine rh.go_take (i := 5) (v := ?v14) rfl (by kernel_rfl) (fun _ _ _ h => h) (Or.inl ⟨by rfl, ?hy14⟩) (by assumption) ?rest14
          case hy14 => (intro wS hSw; (try dsimp only at hSw); go_simp; try (with_reducible rfl))
          try simp only [Act.put, List.setIfInBounds_toArray, List.set_cons_zero, List.set_cons_succ]
          refine rh.go_take (i := 6) (v := ?v15) rfl (by kernel_rfl) (fun _ _ _ h => h) (Or.inl ⟨by rfl, ?hy15⟩) (by assumption) ?rest15
          case hy15 => (intro wS hSw; (try dsimp only at hSw); go_simp; try (with_reducible rfl))
          try simp only [Act.put, List.setIfInBounds_toArray, List.set_cons_zero, List.set_cons_succ]
          refine rh.go_next (i := 7) rfl (by kernel_rfl) (fun K2 hK => ?_)
          go_simp
          refine hK.out _ _ ?_ (fun hHeld => ?_)
          · ((try dsimp only); exact HS.out _ (by go_grown))
          clear hK K2
          try simp only [Act.put, List.setIfInBounds_toArray, List.set_cons_zero, List.set_cons_succ]
          refine rh.go_last rfl (by kernel_rfl) (fun K2 hK => ?_)
          go_simp
          refine hK.out _ _ ?_
          refine NoPanic.normal ?_
          clear hK K2
          go_wp2_with fail
          go_ret
          exact ⟨by rw [HF.out]; rfl, HB0.out.trans (hW3.out.mono HB0.out.size)⟩
    · have hr0 : ¬ (k : Int) < b.roots := by rw [HRR.out]; omega
      obtain rfl : R = k := by omega
      have HUp := Lib.hid hup
      have HB1 := Lib.hid hbel
      clear hup
      go_wp2_with fail
      clear x0 x1 x2 x3 x4 x5 hr0
      go_loopw [33] (fun i wq => ∃ k : Nat, k ≤ n1 ∧ i = .int .i64 k ∧ upto (hole1B b) k = true ∧ Below W.heap.size W wq) (fun i _ => n1 - (intOf i).toNat)
      case atStart => exact ⟨0, Nat.zero_le _, rfl, rfl, HB1.out⟩
      case round =>
        obtain ⟨k, hk, rfl, hup, hbel⟩ := hrel
        have hbw := HB0.out.trans (hbel.mono HB0.out.size)
        obtain ⟨x0, x1, x2, x3, x4, x5⟩ := (HBox.out.below hbel hWs).get
        by_cases hlt : k < n1
        · obtain ⟨L1, hL1⟩ : ∃ L, (sel (kidP b.nodes (k : Int)) b.nodes.length).length = L := ⟨_, rfl⟩
          obtain ⟨L2, hL2⟩ : ∃ L, (sel (siteP b.sites (k : Int)) b.sites.length).length = L := ⟨_, rfl⟩
          have CK := kcl_any (.agg #[.int .i64 b.roots, .slice A1 n1 c1, .slice A2 n2 c2, .int .i64 b.edges, .slice A4 n4 c4, .slice A5 n5 c5]) b (k : Int) _ (HVb.out _ hbw) HZ.out.1 HZ.out.2 L1 L2 hL1 hL2
          have hN : hole1B b k = decide (L2 ≤ 1) := by unfold hole1B; rw [hL2]
          by_cases a2 : L2 ≤ 1
          · have a2' : ¬ (1 : Int) < (L2 : Int) := by omega
            have HU := Lib.hid (upto_step hup (by rw [hN, decide_eq_true a2]))
            clear hup hN hL1 hL2
            go_wp2_with fail
            refine CK.mono ?_
            rintro e w3 ⟨A7, c7, A8, c8, rfl, hb⟩
            have hW3 := Lib.hid (hbel.trans (hb.mono hbel.size))
            clear hb CK
            go_wp2_with fail
            go_roundw
            case rel => exact ⟨k + 1, by omega, by go_num, HU.out, hW3.out⟩
            case measure => simp [intOf]; omega
          · have a2' : (1 : Int) < (L2 : Int) := by omega
            have HF := Lib.hid (fit_node (by rw [HL1.out]; exact hlt) (by rw [hN, decide_eq_false a2]))
            clear hup hN hL1 hL2
            go_wp2_with fail
            refine CK.mono ?_
            rintro e w3 ⟨A7, c7, A8, c8, rfl, hb⟩
            have hW3 := Lib.hid (hbel.trans (hb.mono hbel.size))
            clear hb CK
            go_wp2_with fail
            go_ret
            exact ⟨by rw [HF.out]; rfl, HB0.out.trans (hW3.out.mono HB0.out.size)⟩
        · obtain rfl : n1 = k := by omega
          have HF : Hid (fitRB b = true) := Lib.hid (by unfold fitRB; rw [HL1.out, hup, HRR.out, Int.toNat_natCast, HUp.out]; rfl)
          clear hup
          go_wp2_with fail
          go_ret
          exact ⟨by rw [HF.out]; rfl, hbw⟩
end Go.Proofs.Ytfjgapkjpmkplaa.rdx
