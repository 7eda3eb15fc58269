/- MergeOf and BarrenOf of spec and impl. -/
import Derived.Test.YtemahmnchcnfeabPl
import Derived.Test.YtemahmnchcnfeabFacts
namespace Go.Proofs.Ytemahmnchcnfeab.mb
open kit bg sg opn strs only hb sig inn ht marks eqs hc hi hw hn rs br bm bw cf lawb lw cl pl
open Go.RowKit
set_option linter.unusedVariables false

def mrgR (z : Int) : Big := if inb z 0 4 = true then placing 1 (List.replicate z.toNat (-1)) else zeroBig
theorem mrgR_no {z : Int} (h : inb z 0 4 = false) : mrgR z = zeroBig := by unfold mrgR; rw [h]; rfl
theorem mrgR_yes {z : Int} (h : inb z 0 4 = true) : mrgR z = placing 1 (List.replicate z.toNat (-1)) := by unfold mrgR; rw [if_pos h]
theorem zero_len : bigMk zeroBig ≤ 1048576 := by decide
theorem mrgR_len (z : Int) : bigMk (mrgR z) ≤ 1048576 := by
  cases h : inb z 0 4 with
  | false => rw [mrgR_no h]; exact zero_len
  | true => rw [mrgR_yes h]; exact placing_len (by rw [List.length_replicate]; have := inb_true h; omega)
def barR (z : Int) : Big := if inb z 0 4 = true then placing z [] else zeroBig
theorem barR_no {z : Int} (h : inb z 0 4 = false) : barR z = zeroBig := by unfold barR; rw [h]; rfl
theorem barR_yes {z : Int} (h : inb z 0 4 = true) : barR z = placing z [] := by unfold barR; rw [if_pos h]
theorem barR_len (z : Int) : bigMk (barR z) ≤ 1048576 := by
  cases h : inb z 0 4 with
  | false => rw [barR_no h]; exact zero_len
  | true => rw [barR_yes h]; exact placing_len (by simp)
theorem made_ints (w : World) (m : Nat) : IntsAt (w.alloc (.cells (madeCells #[.int .i64 0] m) 3)) (w.alloc (.cells (madeCells #[.int .i64 0] m) 3)).heap.size (some ⟨w.heap.size, 0, none⟩) m (List.replicate m 0) :=
  ints_row (World.rowIs_made w (.int .i64 0) m 3) (Nat.le_refl _) (by simp) (by simp) (fun k hk => (iat_of (by rw [List.getElem?_replicate, if_pos hk])).symm)
theorem _root_.Go.Proofs.Ytemahmnchcnfeab.cf.BoxAt.kept {w w' : World} {β : Nat} {t : TypeId} {v0 v1 v2 v3 v4 v5 : Value} {row : Option Nat} (h : BoxAt w β t v0 v1 v2 v3 v4 v5) (hg : w.grownBy w' row) (hne : some β ≠ row) : BoxAt w' β t v0 v1 v2 v3 v4 v5 := World.rowIs.of_block h (hg.block β (World.rowIs.lt h) hne)
theorem _root_.Go.Proofs.Ytemahmnchcnfeab.cf.BoxAt.put2 {w : World} {β : Nat} {t : TypeId} {v0 v1 v2 v3 v4 v5 : Value} (h : BoxAt w β t v0 v1 v2 v3 v4 v5) (u : Value) : BoxAt (w.setCell ⟨β, 2, none⟩ u) β t v0 v1 u v3 v4 v5 := by
  have h6 : (w.setCell ⟨β, 2, none⟩ u).rowIs β t 6 _ := World.rowIs.set h 2 u
  unfold BoxAt
  refine h6.congr ?_
  intro i hi
  match i, hi with
  | 0, _ => rfl
  | 1, _ => rfl
  | 2, _ => rfl
  | 3, _ => rfl
  | 4, _ => rfl
  | 5, _ => rfl
theorem _root_.Go.Proofs.Ytemahmnchcnfeab.cf.BoxAt.else_ {w : World} {β γ k : Nat} {t : TypeId} {v0 v1 v2 v3 v4 v5 : Value} (h : BoxAt w β t v0 v1 v2 v3 v4 v5) (hne : β ≠ γ) (u : Value) : BoxAt (w.setCell ⟨γ, k, none⟩ u) β t v0 v1 v2 v3 v4 v5 := World.rowIs.setOther h (a := ⟨γ, k, none⟩) hne u
theorem owns_set {w : World} {base sz n γ k : Nat} {e : TypeId} {v u : Value} {xs : List Value} (h : w.ownsRow base e sz v n xs) (hne : γ < base) : (w.setCell ⟨γ, k, none⟩ u).ownsRow base e sz v n xs := by
  obtain ⟨h1, h2⟩ := h
  refine ⟨h1, h2.imp id ?_⟩
  rintro ⟨g, cap, cur, e1, hb, hh, r⟩
  exact ⟨g, cap, cur, e1, hb, (Below.heap_setCell _ _ _ _ (by dsimp only; omega)).trans hh, r⟩
theorem app_keep {w wA w3 : World} {base sz n β γ B : Nat} {e t : TypeId} {v : Value} {xs : List Value} {a0 a1 a2 a3 a4 a5 b0 b1 b2 b3 b4 b5 : Value} (hg : wA.grownBy w3 v.ownBlock) (hown : wA.ownsRow base e sz v n xs) (hbo : BoxAt wA β t a0 a1 a2 a3 a4 a5) (hbx : BoxAt wA γ t b0 b1 b2 b3 b4 b5)
    (hB : Below B w wA) (h1 : β < base) (h2 : γ < base) (h3 : B ≤ base) (h4 : B ≤ wA.heap.size) : BoxAt w3 β t a0 a1 a2 a3 a4 a5 ∧ BoxAt w3 γ t b0 b1 b2 b3 b4 b5 ∧ Below B w w3 ∧ wA.heap.size ≤ w3.heap.size :=
  ⟨hbo.kept hg (fun e => by have := (hown.lt _ e.symm).1; omega), hbx.kept hg (fun e => by have := (hown.lt _ e.symm).1; omega), hB.grown hg h4 (fun j hj => by have := (hown.lt j hj).1; omega), hg.size⟩
theorem ints_owned {w : World} {lo n : Nat} {v : Value} {zs : List Int} (h : w.ownsRow lo 3 1 v n (zs.map (Value.int .i64))) : ∃ A c, v = .slice A zs.length c ∧ RowR w lo w.heap.size 3 1 A zs.length c (iat zs) := by
  have hl : zs.length = n := by have := h.1; rw [List.length_map] at this; omega
  obtain ⟨A, c, rfl, hR⟩ := rowR_owns h
  rw [← hl] at hR ⊢
  exact ⟨A, c, rfl, hR.congr (fun x hx => by
    have hx2 : x < zs.length := by omega
    have e : zs[x]? = some zs[x] := List.getElem?_eq_getElem hx2
    rw [List.getElem?_map, e, iat_of e]; rfl)⟩

set_option maxRecDepth 20000 in
set_option maxHeartbeats 1600000 in
theorem iMrg_any (z : Int) (w : World) (hwf : (Lit.int .i64 z).wf = true) :
    Calls Try.prog 44 #[.int .i64 z] w (BigPost (inb z 0 4) (mrgR z) w) := by
  have hb0 := (Below.refl w.heap.size w).alloc (Nat.le_refl _) (.cells #[.int .i64 0, .slice none 0 0, .slice none 0 0, .int .i64 0, .slice none 0 0, .slice none 0 0] 38)
  have HBx0 : Hid (BoxAt (w.alloc (.cells #[.int .i64 0, .slice none 0 0, .slice none 0 0, .int .i64 0, .slice none 0 0, .slice none 0 0] 38)) w.heap.size 38 (.int .i64 0) (.slice none 0 0) (.slice none 0 0) (.int .i64 0) (.slice none 0 0) (.slice none 0 0)) := Lib.hid (six_new w _ _ _ _ _ _ _)
  obtain ⟨W, hW⟩ : ∃ W, w.alloc (.cells #[.int .i64 0, .slice none 0 0, .slice none 0 0, .int .i64 0, .slice none 0 0, .slice none 0 0] 38) = W := ⟨_, rfl⟩
  have hWz : W.heap.size = w.heap.size + 1 := by rw [← hW]; simp
  rw [hW] at hb0 HBx0
  have HWq := Lib.hid hW
  have HB0 := Lib.hid hb0
  have HWz := Lib.hid hWz
  clear hW hb0 hWz
  have CW := win_any z 0 4 W
  cases hq : inb z 0 4 with
  | false =>
    rw [hq] at CW
    have HR := Lib.hid (mrgR_no hq)
    clear hq
    go_enter Try.func44, Try.ntmps44
    go_wp2_with fail
    rw [HWq.out]
    refine CW.mono ?_
    rintro e w1 ⟨rfl, rfl⟩
    clear CW
    obtain ⟨z0, z1, z2, z3, z4, z5⟩ := HBx0.out.get
    have f0 := World.rowIs.frozen HBx0.out 0
    have f1 := World.rowIs.frozen HBx0.out 1
    have f2 := World.rowIs.frozen HBx0.out 2
    have f3 := World.rowIs.frozen HBx0.out 3
    have f4 := World.rowIs.frozen HBx0.out 4
    have f5 := World.rowIs.frozen HBx0.out 5
    go_wp2_with fail
    refine bodyPost_ret (v := .tuple #[.agg #[.int .i64 0, .slice none 0 0, .slice none 0 0, .int .i64 0, .slice none 0 0, .slice none 0 0], .bool false]) (by simp [results, Try.results44, go_sem, z0, z1, z2, z3, z4, z5]) rfl ⟨_, rfl, by rw [HR.out]; exact BigR.zero, sets6_below HB0.out (Nat.le_refl _) _ _ _ _ _ _⟩
  | true =>
    rw [hq] at CW
    have HR := Lib.hid (mrgR_yes hq)
    have hin := inb_true hq
    clear hq
    obtain ⟨m, rfl⟩ : ∃ m : Nat, z = m := ⟨z.toNat, by omega⟩
    have hm4 : m ≤ 4 := by omega
    have hmk := fun W => run_make_row' (P := Try.prog) 24 3 (.int .i64 0) 8 Try.underlying24 int_info rfl .i64 .i64 m (by omega) (by omega) W
    rw [Int.toNat_natCast] at HR
    have hbm := (Below.refl W.heap.size W).alloc (Nat.le_refl _) (.cells (madeCells #[.int .i64 0] m) 3)
    have HC := Lib.hid (placing_any (some ⟨W.heap.size, 0, none⟩) m m (List.replicate m 0) 1 _ (made_ints W m) (by omega) (fun x hx => by have := (List.mem_replicate.1 hx).2; omega))
    rw [show (List.replicate m (0 : Int)).map (fun z => -1 - z) = List.replicate m (-1) by simp] at HC
    rw [← HR.out] at HC
    obtain ⟨R0, hR0⟩ : ∃ r, mrgR (m : Int) = r := ⟨_, rfl⟩
    rw [hR0] at HC ⊢
    have HBm := Lib.hid hbm
    clear hbm hwf hR0 HR
    go_enter Try.func44, Try.ntmps44
    go_wp2_with fail
    rw [HWq.out]
    refine CW.mono ?_
    rintro e w1 ⟨rfl, rfl⟩
    clear CW
    go_wp2_with fail
    clear hmk
    refine HC.out.mono ?_
    rintro e w2 ⟨v, rfl, hr, hb⟩
    have hbm2 := HBm.out.trans (hb.mono HBm.out.size)
    have hb2 := HB0.out.trans (hbm2.mono HB0.out.size)
    have HBx2 := Lib.hid (HBx0.out.on hbm2)
    obtain ⟨B1, d1, B2, d2, B4, d4, B5, d5, rfl⟩ := hr.shape
    have HRr := Lib.hid (hr.wide (lo' := w.heap.size) (Nat.le_trans HB0.out.size HBm.out.size) (Nat.le_refl _))
    have HB2 := Lib.hid hb2
    clear hr hb hbm2 hb2
    obtain ⟨z0, z1, z2, z3, z4, z5⟩ := HBx2.out.get
    have f0 := World.rowIs.frozen HBx2.out 0
    have f1 := World.rowIs.frozen HBx2.out 1
    have f2 := World.rowIs.frozen HBx2.out 2
    have f3 := World.rowIs.frozen HBx2.out 3
    have f4 := World.rowIs.frozen HBx2.out 4
    have f5 := World.rowIs.frozen HBx2.out 5
    go_wp2_with fail
    refine bodyPost_ret (v := .tuple #[.agg #[.int .i64 R0.roots, .slice B1 R0.nodes.length d1, .slice B2 R0.sites.length d2, .int .i64 R0.edges, .slice B4 R0.outer.length d4, .slice B5 R0.inner.length d5], .bool true]) (by simp [results, Try.results44, go_sem, z0, z1, z2, z3, z4, z5]) rfl ⟨_, rfl, (sets6_big HBx2.out HRr.out _ _ _ _ _ _).here, sets6_below HB2.out (Nat.le_refl _) _ _ _ _ _ _⟩

set_option maxRecDepth 20000 in
set_option maxHeartbeats 1600000 in
theorem iBar_any (z : Int) (w : World) (hwf : (Lit.int .i64 z).wf = true) :
    Calls Try.prog 46 #[.int .i64 z] w (BigPost (inb z 0 4) (barR z) w) := by
  have hb0 := (Below.refl w.heap.size w).alloc (Nat.le_refl _) (.cells #[.int .i64 0, .slice none 0 0, .slice none 0 0, .int .i64 0, .slice none 0 0, .slice none 0 0] 38)
  have HBx0 : Hid (BoxAt (w.alloc (.cells #[.int .i64 0, .slice none 0 0, .slice none 0 0, .int .i64 0, .slice none 0 0, .slice none 0 0] 38)) w.heap.size 38 (.int .i64 0) (.slice none 0 0) (.slice none 0 0) (.int .i64 0) (.slice none 0 0) (.slice none 0 0)) := Lib.hid (six_new w _ _ _ _ _ _ _)
  obtain ⟨W, hW⟩ : ∃ W, w.alloc (.cells #[.int .i64 0, .slice none 0 0, .slice none 0 0, .int .i64 0, .slice none 0 0, .slice none 0 0] 38) = W := ⟨_, rfl⟩
  have hWz : W.heap.size = w.heap.size + 1 := by rw [← hW]; simp
  rw [hW] at hb0 HBx0
  have HWq := Lib.hid hW
  have HB0 := Lib.hid hb0
  have HWz := Lib.hid hWz
  clear hW hb0 hWz
  have CW := win_any z 0 4 W
  cases hq : inb z 0 4 with
  | false =>
    rw [hq] at CW
    have HR := Lib.hid (barR_no hq)
    clear hq
    go_enter Try.func46, Try.ntmps46
    go_wp2_with fail
    rw [HWq.out]
    refine CW.mono ?_
    rintro e w1 ⟨rfl, rfl⟩
    clear CW
    obtain ⟨z0, z1, z2, z3, z4, z5⟩ := HBx0.out.get
    have f0 := World.rowIs.frozen HBx0.out 0
    have f1 := World.rowIs.frozen HBx0.out 1
    have f2 := World.rowIs.frozen HBx0.out 2
    have f3 := World.rowIs.frozen HBx0.out 3
    have f4 := World.rowIs.frozen HBx0.out 4
    have f5 := World.rowIs.frozen HBx0.out 5
    go_wp2_with fail
    refine bodyPost_ret (v := .tuple #[.agg #[.int .i64 0, .slice none 0 0, .slice none 0 0, .int .i64 0, .slice none 0 0, .slice none 0 0], .bool false]) (by simp [results, Try.results46, go_sem, z0, z1, z2, z3, z4, z5]) rfl ⟨_, rfl, by rw [HR.out]; exact BigR.zero, sets6_below HB0.out (Nat.le_refl _) _ _ _ _ _ _⟩
  | true =>
    rw [hq] at CW
    have HR := Lib.hid (barR_yes hq)
    have hin := inb_true hq
    clear hq
    have HC := Lib.hid (placing_any none 0 0 [] z W ⟨rfl, fun h => absurd h (by omega)⟩ (by omega) (fun x hx => by cases hx))
    rw [show ([] : List Int).map (fun z => -1 - z) = [] from rfl, ← HR.out] at HC
    obtain ⟨R0, hR0⟩ : ∃ r, barR z = r := ⟨_, rfl⟩
    rw [hR0] at HC ⊢
    clear hwf hR0 HR
    go_enter Try.func46, Try.ntmps46
    go_wp2_with fail
    rw [HWq.out]
    refine CW.mono ?_
    rintro e w1 ⟨rfl, rfl⟩
    clear CW
    go_wp2_with fail
    refine HC.out.mono ?_
    rintro e w2 ⟨v, rfl, hr, hb⟩
    have hb2 := HB0.out.trans (hb.mono HB0.out.size)
    have HBx2 := Lib.hid (HBx0.out.on hb)
    obtain ⟨B1, d1, B2, d2, B4, d4, B5, d5, rfl⟩ := hr.shape
    have HRr := Lib.hid (hr.wide (lo' := w.heap.size) HB0.out.size (Nat.le_refl _))
    have HB2 := Lib.hid hb2
    clear hr hb hb2
    obtain ⟨z0, z1, z2, z3, z4, z5⟩ := HBx2.out.get
    have f0 := World.rowIs.frozen HBx2.out 0
    have f1 := World.rowIs.frozen HBx2.out 1
    have f2 := World.rowIs.frozen HBx2.out 2
    have f3 := World.rowIs.frozen HBx2.out 3
    have f4 := World.rowIs.frozen HBx2.out 4
    have f5 := World.rowIs.frozen HBx2.out 5
    go_wp2_with fail
    refine bodyPost_ret (v := .tuple #[.agg #[.int .i64 R0.roots, .slice B1 R0.nodes.length d1, .slice B2 R0.sites.length d2, .int .i64 R0.edges, .slice B4 R0.outer.length d4, .slice B5 R0.inner.length d5], .bool true]) (by simp [results, Try.results46, go_sem, z0, z1, z2, z3, z4, z5]) rfl ⟨_, rfl, (sets6_big HBx2.out HRr.out _ _ _ _ _ _).here, sets6_below HB2.out (Nat.le_refl _) _ _ _ _ _ _⟩

set_option maxRecDepth 20000 in
set_option maxHeartbeats 1600000 in
theorem sBar_any (z : Int) (w : World) (hwf : (Lit.int .i64 z).wf = true) :
    Calls Try.prog 45 #[.int .i64 z] w (BigPost (inb z 0 4) (barR z) w) := by
  have hb0 := (Below.refl w.heap.size w).alloc (Nat.le_refl _) (.cells #[.int .i64 0, .slice none 0 0, .slice none 0 0, .int .i64 0, .slice none 0 0, .slice none 0 0] 38)
  have HBx0 : Hid (BoxAt (w.alloc (.cells #[.int .i64 0, .slice none 0 0, .slice none 0 0, .int .i64 0, .slice none 0 0, .slice none 0 0] 38)) w.heap.size 38 (.int .i64 0) (.slice none 0 0) (.slice none 0 0) (.int .i64 0) (.slice none 0 0) (.slice none 0 0)) := Lib.hid (six_new w _ _ _ _ _ _ _)
  obtain ⟨W, hW⟩ : ∃ W, w.alloc (.cells #[.int .i64 0, .slice none 0 0, .slice none 0 0, .int .i64 0, .slice none 0 0, .slice none 0 0] 38) = W := ⟨_, rfl⟩
  have hWz : W.heap.size = w.heap.size + 1 := by rw [← hW]; simp
  rw [hW] at hb0 HBx0
  have HWq := Lib.hid hW
  have HB0 := Lib.hid hb0
  have HWz := Lib.hid hWz
  clear hW hb0 hWz
  have CW := in_any z 0 4 W
  cases hq : inb z 0 4 with
  | false =>
    rw [hq] at CW
    have HR := Lib.hid (barR_no hq)
    clear hq
    go_enter Try.func45, Try.ntmps45
    go_wp2_with fail
    rw [HWq.out]
    refine CW.mono ?_
    rintro e w1 ⟨rfl, rfl⟩
    clear CW
    obtain ⟨z0, z1, z2, z3, z4, z5⟩ := HBx0.out.get
    have f0 := World.rowIs.frozen HBx0.out 0
    have f1 := World.rowIs.frozen HBx0.out 1
    have f2 := World.rowIs.frozen HBx0.out 2
    have f3 := World.rowIs.frozen HBx0.out 3
    have f4 := World.rowIs.frozen HBx0.out 4
    have f5 := World.rowIs.frozen HBx0.out 5
    go_wp2_with fail
    refine bodyPost_ret (v := .tuple #[.agg #[.int .i64 0, .slice none 0 0, .slice none 0 0, .int .i64 0, .slice none 0 0, .slice none 0 0], .bool false]) (by simp [results, Try.results45, go_sem, z0, z1, z2, z3, z4, z5]) rfl ⟨_, rfl, by rw [HR.out]; exact BigR.zero, sets6_below HB0.out (Nat.le_refl _) _ _ _ _ _ _⟩
  | true =>
    rw [hq] at CW
    have HR := Lib.hid (barR_yes hq)
    have hin := inb_true hq
    clear hq
    clear hwf
    go_enter Try.func45, Try.ntmps45
    go_wp2_with fail
    rw [HWq.out]
    refine CW.mono ?_
    rintro e w1 ⟨rfl, rfl⟩
    clear CW
    have hbig := fun (a b c d e f : Value) => (sets6_big HBx0.out (placing_big (w := W) (lo := w.heap.size) (hi := W.heap.size) (R := z) (zs := []) (A := none) (c := 0) RowR.nil) a b c d e f).here
    have HBig := Lib.hid hbig
    clear hbig
    obtain ⟨z0, z1, z2, z3, z4, z5⟩ := HBx0.out.get
    have f0 := World.rowIs.frozen HBx0.out 0
    have f1 := World.rowIs.frozen HBx0.out 1
    have f2 := World.rowIs.frozen HBx0.out 2
    have f3 := World.rowIs.frozen HBx0.out 3
    have f4 := World.rowIs.frozen HBx0.out 4
    have f5 := World.rowIs.frozen HBx0.out 5
    go_wp2_with fail
    refine bodyPost_ret (v := .tuple #[.agg #[.int .i64 z, .slice none 0 0, .slice none 0 0, .int .i64 0, .slice none 0 0, .slice none 0 0], .bool true]) (by simp [results, Try.results45, go_sem, z0, z1, z2, z3, z4, z5]) rfl ⟨_, rfl, by rw [HR.out]; exact HBig.out _ _ _ _ _ _, sets6_below HB0.out (Nat.le_refl _) _ _ _ _ _ _⟩

set_option maxRecDepth 20000 in
set_option maxHeartbeats 1600000 in
theorem sMrg_any (z : Int) (w : World) (hwf : (Lit.int .i64 z).wf = true) :
    Calls Try.prog 43 #[.int .i64 z] w (BigPost (inb z 0 4) (mrgR z) w) := by
  obtain ⟨i0, hi, hz0, hz1, hz2⟩ := info_parts int_info
  have HI := Lib.hid (And.intro hi (And.intro hz0 (And.intro hz1 hz2)))
  have hb0 := (Below.refl w.heap.size w).alloc (Nat.le_refl _) (.cells #[.int .i64 0, .slice none 0 0, .slice none 0 0, .int .i64 0, .slice none 0 0, .slice none 0 0] 38)
  have HBx0 : Hid (BoxAt (w.alloc (.cells #[.int .i64 0, .slice none 0 0, .slice none 0 0, .int .i64 0, .slice none 0 0, .slice none 0 0] 38)) w.heap.size 38 (.int .i64 0) (.slice none 0 0) (.slice none 0 0) (.int .i64 0) (.slice none 0 0) (.slice none 0 0)) := Lib.hid (six_new w _ _ _ _ _ _ _)
  obtain ⟨W, hW⟩ : ∃ W, w.alloc (.cells #[.int .i64 0, .slice none 0 0, .slice none 0 0, .int .i64 0, .slice none 0 0, .slice none 0 0] 38) = W := ⟨_, rfl⟩
  have hWz : W.heap.size = w.heap.size + 1 := by rw [← hW]; simp
  rw [hW] at hb0 HBx0
  have HWq := Lib.hid hW
  have HB0 := Lib.hid hb0
  have HWz := Lib.hid hWz
  clear hW hb0 hWz
  have hb1 := (Below.refl W.heap.size W).alloc (Nat.le_refl _) (.cells #[.int .i64 1, .slice none 0 0, .slice none 0 0, .int .i64 0, .slice none 0 0, .slice none 0 0] 38)
  have HBo : Hid (BoxAt (W.alloc (.cells #[.int .i64 1, .slice none 0 0, .slice none 0 0, .int .i64 0, .slice none 0 0, .slice none 0 0] 38)) W.heap.size 38 (.int .i64 1) (.slice none 0 0) (.slice none 0 0) (.int .i64 0) (.slice none 0 0) (.slice none 0 0)) := Lib.hid (six_new W _ _ _ _ _ _ _)
  have HBx1 := Lib.hid (HBx0.out.on hb1)
  obtain ⟨U, hU⟩ : ∃ U, W.alloc (.cells #[.int .i64 1, .slice none 0 0, .slice none 0 0, .int .i64 0, .slice none 0 0, .slice none 0 0] 38) = U := ⟨_, rfl⟩
  have hUz : U.heap.size = w.heap.size + 1 + 1 := by rw [← hU]; simp; exact HWz.out
  rw [hU] at hb1 HBo HBx1
  rw [HWz.out] at HBo
  have HUq := Lib.hid hU
  have HB1 := Lib.hid (HB0.out.trans (hb1.mono HB0.out.size))
  have HUz := Lib.hid hUz
  clear hU hb1 hUz hi hz0 hz1 hz2
  have CW := in_any z 0 4 U
  cases hq : inb z 0 4 with
  | false =>
    rw [hq] at CW
    have HR := Lib.hid (mrgR_no hq)
    clear hq
    go_enter Try.func43, Try.ntmps43
    go_wp2_with fail
    rw [HWq.out, HUq.out]
    refine CW.mono ?_
    rintro e w1 ⟨rfl, rfl⟩
    clear CW
    obtain ⟨z0, z1, z2, z3, z4, z5⟩ := HBx1.out.get
    have f0 := World.rowIs.frozen HBx1.out 0
    have f1 := World.rowIs.frozen HBx1.out 1
    have f2 := World.rowIs.frozen HBx1.out 2
    have f3 := World.rowIs.frozen HBx1.out 3
    have f4 := World.rowIs.frozen HBx1.out 4
    have f5 := World.rowIs.frozen HBx1.out 5
    go_wp2_with fail
    refine bodyPost_ret (v := .tuple #[.agg #[.int .i64 0, .slice none 0 0, .slice none 0 0, .int .i64 0, .slice none 0 0, .slice none 0 0], .bool false]) (by simp [results, Try.results43, go_sem, z0, z1, z2, z3, z4, z5]) rfl ⟨_, rfl, by rw [HR.out]; exact BigR.zero, sets6_below HB1.out (Nat.le_refl _) _ _ _ _ _ _⟩
  | true =>
    rw [hq] at CW
    have HR := Lib.hid (mrgR_yes hq)
    have hin := inb_true hq
    obtain ⟨m, rfl⟩ : ∃ m : Nat, z = m := ⟨z.toNat, by omega⟩
    have hm4 : m ≤ 4 := by omega
    rw [Int.toNat_natCast] at HR
    clear hq hin hwf
    go_enter Try.func43, Try.ntmps43
    go_wp2_with fail
    rw [HWq.out, HUq.out]
    refine CW.mono ?_
    rintro e w1 ⟨rfl, rfl⟩
    clear CW
    go_wp2_with fail
    go_loopw [5] (fun i wr => ∃ (k : Nat) (v : Value), k ≤ m ∧ i = .int .i64 k ∧ wr.ownsRow (w.heap.size + 1 + 1) 3 1 v k ((List.replicate k (-1 : Int)).map (Value.int .i64)) ∧ BoxAt wr (w.heap.size + 1) 38 (.int .i64 1) (.slice none 0 0) v (.int .i64 0) (.slice none 0 0) (.slice none 0 0) ∧ BoxAt wr w.heap.size 38 (.int .i64 0) (.slice none 0 0) (.slice none 0 0) (.int .i64 0) (.slice none 0 0) (.slice none 0 0) ∧ Below w.heap.size w wr ∧ w.heap.size + 1 + 1 ≤ wr.heap.size) (fun i _ => m - (intOf i).toNat)
    case atStart => exact ⟨0, .slice none 0 0, Nat.zero_le _, rfl, World.ownsRow_nil _ _ _ _, HBo.out, HBx1.out, HB1.out, by rw [HUz.out]; exact Nat.le_refl _⟩
    case round =>
      obtain ⟨k, v, hk, rfl, hown, hbo, hbx, hB, hsz⟩ := hrel
      by_cases hlt : k < m
      · obtain ⟨x0, x1, x2, x3, x4, x5⟩ := hbo.get
        have hoA := hown.alloc (.cells #[.int .i64 (-1)] 3)
        have hbA := (Below.refl wr.heap.size wr).alloc (Nat.le_refl _) (.cells #[.int .i64 (-1)] 3)
        have HBoA := Lib.hid (hbo.on hbA)
        have HBxA := Lib.hid (hbx.on hbA)
        have HBA := Lib.hid (hB.alloc (by omega) (.cells #[.int .i64 (-1)] 3))
        obtain ⟨D, hD⟩ : ∃ D, (List.replicate k (-1 : Int)).map (Value.int .i64) = D := ⟨_, rfl⟩
        rw [hD] at hoA hown
        have HD : Hid ((List.replicate (k + 1) (-1 : Int)).map (Value.int .i64) = D ++ [.int .i64 (-1)]) := Lib.hid (by rw [← hD, List.replicate_succ', List.map_append]; rfl)
        have e1 : k + 1 ≤ maxLen := by unfold maxLen; omega
        have e2 : (k + 1) * 8 ≤ 140737488355328 := by omega
        have e3 : w.heap.size + 1 + 1 ≤ (wr.alloc (.cells #[.int .i64 (-1)] 3)).heap.size := by
          rw [World.size_alloc]
          omega
        have e5 : w.heap.size + 1 < w.heap.size + 1 + 1 := by omega
        have e6 : w.heap.size < w.heap.size + 1 + 1 := by omega
        have e7 : w.heap.size ≤ w.heap.size + 1 + 1 := by omega
        have e8 := Nat.le_trans e7 e3
        have e4 : ∀ u ∈ [Value.int .i64 (-1)], u.oneCell' = true := fun u hu => by
          rw [List.mem_singleton.1 hu]; rfl
        clear hbo hbx hB hown hbA hD
        go_wp2_with (at_builtin; refine wpList_append_own _ rfl _ _ 24 rfl (w.heap.size + 1 + 1) 3 i0 (.int .i64 0) 1 8 Try.underlying24 HI.out.1 HI.out.2.1 HI.out.2.2.1 HI.out.2.2.2 rfl (by decide) _ _ _ rfl hoA ⟨wr.heap.size, 0, none⟩ 1 1 [.int .i64 (-1)] rfl rfl (cell_one_new _ _ _) e4 e1 e2 e3 ?_; intro v1 w3 hown1 hgrow1 hnil1; obtain ⟨A1, c1, rfl, -⟩ := rowR_owns hown1; have HT := Lib.hid (app_keep hgrow1 hoA HBoA.out HBxA.out HBA.out e5 e6 e7 e8); have HOw3 := Lib.hid hown1; clear hgrow1 hnil1 hown1 hoA x0 x1 x2 x3 x4 x5; obtain ⟨x0, x1, x2, x3, x4, x5⟩ := HT.out.1.get; have g2 := World.rowIs.frozen HT.out.1 2)
        go_roundw
        case rel => exact ⟨k + 1, _, by omega, by go_num, by rw [HD.out]; exact owns_set HOw3.out (by omega), HT.out.1.put2 _, HT.out.2.1.else_ (by omega) _, HT.out.2.2.1.setCell (p := ⟨w.heap.size + 1, 2, none⟩) (by dsimp only; omega) _, by have := HT.out.2.2.2; rw [World.size_alloc] at this; simp [World.setCell]; omega⟩
        case measure => simp [intOf]; omega
      · obtain rfl : k = m := by omega
        obtain ⟨A', c', rfl, hrow⟩ := ints_owned hown
        have HBig := Lib.hid (placing_big (R := 1) (hrow.wide (lo' := w.heap.size) (by omega) (Nat.le_refl _)))
        have HBx := Lib.hid hbx
        have HB := Lib.hid hB
        have hll : (List.replicate k (-1 : Int)).length = k := List.length_replicate
        rw [hll] at HBig hbo
        obtain ⟨x0, x1, x2, x3, x4, x5⟩ := hbo.get
        clear hown hrow hbo hB hbx
        obtain ⟨z0, z1, z2, z3, z4, z5⟩ := HBx.out.get
        have f0 := World.rowIs.frozen HBx.out 0
        have f1 := World.rowIs.frozen HBx.out 1
        have f2 := World.rowIs.frozen HBx.out 2
        have f3 := World.rowIs.frozen HBx.out 3
        have f4 := World.rowIs.frozen HBx.out 4
        have f5 := World.rowIs.frozen HBx.out 5
        go_wp2_with fail
        refine bodyPost_ret (v := .tuple #[.agg #[.int .i64 1, .slice none 0 0, .slice A' k c', .int .i64 0, .slice none 0 0, .slice none 0 0], .bool true]) (by simp [results, Try.results43, go_sem, z0, z1, z2, z3, z4, z5]) rfl ⟨_, rfl, by rw [HR.out]; exact (sets6_big HBx.out HBig.out _ _ _ _ _ _).here, sets6_below HB.out (Nat.le_refl _) _ _ _ _ _ _⟩
end Go.Proofs.Ytemahmnchcnfeab.mb
