/- impl.numbersBelow, impl.wiresTo; ClosureOf of spec and impl. -/
import Derived.Test.YtemahmnchcnfeabNw
import Derived.Test.YtemahmnchcnfeabSa
namespace Go.Proofs.Ytemahmnchcnfeab.cz
open kit bg sg opn strs only hb sig isig un over gn nm inn ht gd im pt marks eqs hc hi hw hn rs br bm bw cf lf ib lawb lw cl pl mb wb nw sa
open Go.RowKit
set_option linter.unusedVariables false

/-- the numbers below n -/
def nums (n : Nat) : List Int := (List.range n).map fun k : Nat => (k : Int)
theorem nums_at {n k : Nat} (h : k < n) : (nums n)[k]? = some (k : Int) := by unfold nums; rw [List.getElem?_map, List.getElem?_range h]; rfl
theorem nums_len (n : Nat) : (nums n).length = n := by unfold nums; simp
set_option maxHeartbeats 800000 in
theorem below_any (n : Nat) (w : World) (hn : n ≤ 1048576) :
    Calls Try.prog 94 #[.int .i64 (n : Int)] w fun e w' => ∃ g, e = .returned (.slice (some ⟨g, 0, none⟩) n n) ∧ w.heap.size ≤ g ∧ g < w'.heap.size ∧ w'.rowIs g 3 n (iat (nums n)) ∧ Below w.heap.size w w' := by
  have hmk := fun W => run_make_row' (P := Try.prog) 24 3 (.int .i64 0) 8 Try.underlying24 int_info rfl .i64 .i64 n (by omega) (by omega) W
  go_enter Try.func94, Try.ntmps94
  go_wp2_with fail
  clear hmk
  go_loopw [9] (fun i wr => ∃ k : Nat, k ≤ n ∧ i = .int .i64 k ∧ wr.rowIs w.heap.size 3 n (fun j => if j < k then iat (nums n) j else .int .i64 0) ∧ Below w.heap.size w wr) (fun i _ => n - (intOf i).toNat)
  case atStart => exact ⟨0, Nat.zero_le _, rfl, (World.rowIs_made w (.int .i64 0) n 3).congr (fun _ _ => by simp), (Below.refl _ _).alloc (Nat.le_refl _) _⟩
  case round =>
    obtain ⟨k, hk, rfl, hrow, hbel⟩ := hrel
    by_cases hlt : k < n
    · have HA : Hid (iat (nums n) k = .int .i64 (k : Int)) := Lib.hid (iat_of (nums_at hlt))
      have hcell := hrow.cell hlt
      have hfz := hrow.frozen k
      have HRow := Lib.hid (hrow.set k (.int .i64 (k : Int)))
      have HB := Lib.hid (hbel.setCell (p := ⟨w.heap.size, k, none⟩) (Nat.le_refl _) (.int .i64 (k : Int)))
      clear hrow hbel
      go_wp2_with fail
      go_roundw
      case rel =>
        refine ⟨k + 1, by omega, by go_num, HRow.out.congr (fun j hj => ?_), HB.out⟩
        show (if j = k then _ else if j < k then _ else _) = if j < k + 1 then _ else _
        by_cases e : j = k
        · subst e; rw [if_pos rfl, if_pos (by omega), HA.out]
        · rw [if_neg e]
          by_cases e2 : j < k
          · rw [if_pos e2, if_pos (by omega)]
          · rw [if_neg e2, if_neg (by omega)]
      case measure => simp [intOf]; omega
    · obtain rfl : k = n := by omega
      have HRw := Lib.hid (hrow.congr (g := iat (nums k)) (fun j hj => if_pos hj))
      clear hrow
      go_wp2_with fail
      go_ret
      exact ⟨_, rfl, Nat.le_refl _, HRw.out.lt, HRw.out, hbel⟩

/-- names with links -/
def tied (ss : List ByteArray) (zs : List Int) : List Wr := List.zipWith (fun s z => ⟨s, z⟩) ss zs
theorem tied_at {ss : List ByteArray} {zs : List Int} {k : Nat} {s : ByteArray} {z : Int} (h : ss[k]? = some s) (h2 : zs[k]? = some z) : (tied ss zs)[k]? = some ⟨s, z⟩ := by unfold tied; rw [List.getElem?_zipWith, h, h2]
theorem tied_len {ss : List ByteArray} {zs : List Int} (h : zs.length = ss.length) : (tied ss zs).length = ss.length := by unfold tied; simp [h]
set_option maxRecDepth 20000 in
set_option maxHeartbeats 1600000 in
theorem wiresTo_any (A A' : Option Addr) (n c c' : Nat) (ss : List ByteArray) (zs : List Int) (w : World) (h : SR w w.heap.size A n (ss.map Value.string)) (h' : IntsAt w w.heap.size A' n zs) (hn : n ≤ 1048576) :
    Calls Try.prog 107 #[.slice A n c, .slice A' n c'] w fun e w' => ∃ g, e = .returned (.slice (some ⟨g, 0, none⟩) n n) ∧ RowR w' w.heap.size w'.heap.size 111 2 (some ⟨g, 0, none⟩) n n (wic (tied ss zs)) ∧ Below w.heap.size w w' := by
  have hl := h.strlen
  have hl' := h'.len
  have HLn : Hid ((tied ss zs).length = n) := Lib.hid (by rw [tied_len (by omega), hl])
  have hmk : ∀ W : World, (Instr.makeSlice 36 (.int .i64 (n : Int)) (.int .i64 (n : Int))).run Try.prog W = .ok (.slice (some ⟨W.heap.size, 0, none⟩) n n) (W.alloc (.cells (madeCells #[.string ⟨#[]⟩, .int .i64 0] (n * 2)) 111)) := by
    intro W
    obtain ⟨i0, hi, hz0, hz1, hz2⟩ := info_parts wire_info
    have hr := run_make (P := Try.prog) W 36 111 i0 _ Try.underlying36 hi hz0 .i64 .i64 n n (by omega) (Int.le_refl _) (by rw [hz2]; omega) (by omega)
    simp only [Int.toNat_natCast, hz1] at hr
    exact hr
  clear hl hl'
  go_enter Try.func107, Try.ntmps107
  go_wp2_with fail
  clear hmk
  go_loopw [13] (fun i wr => ∃ k : Nat, k ≤ n ∧ i = .int .i64 k ∧ (∃ f, wr.rowIs w.heap.size 111 (n * 2) f ∧ ∀ (j : Nat) c, j < k → (tied ss zs)[j]? = some c → f (j * 2) = .string c.name ∧ f (j * 2 + 1) = .int .i64 c.link) ∧ Below w.heap.size w wr) (fun i _ => n - (intOf i).toNat)
  case atStart => exact ⟨0, Nat.zero_le _, rfl, ⟨_, row_new w _ _ _ (size_madeCells _ _), fun j c hj => absurd hj (Nat.not_lt_zero j)⟩, (Below.refl _ _).alloc (Nat.le_refl _) _⟩
  case round =>
    obtain ⟨k, hk, rfl, ⟨f, hrow, hf⟩, hbel⟩ := hrel
    have hlt0 := hrow.lt
    by_cases hlt : k < n
    · obtain ⟨b, off, x, rfl, hbb, hx, c0⟩ := h.str hlt
      obtain ⟨b2, off2, z, rfl, hbb2, hx2, c1⟩ := h'.get hlt
      have d0 := (hbel.cell (p := ⟨b, off + k, none⟩) hbb).trans c0
      have d1 := (hbel.cell (p := ⟨b2, off2 + k, none⟩) hbb2).trans c1
      have HX := Lib.hid (tied_at hx hx2)
      have HF := Lib.hid hf
      have z0 := hrow.cell (show k * 2 < n * 2 by omega)
      have z1 := hrow.cell (show k * 2 + 1 < n * 2 by omega)
      have f0 := hrow.frozen (k * 2)
      have f1 := hrow.frozen (k * 2 + 1)
      have HR := Lib.hid (put2_row hrow k (.string x) (.int .i64 z))
      have HB := Lib.hid (put2_below hbel (Nat.le_refl _) k (.string x) (.int .i64 z))
      clear hx hx2 c0 c1 hf hrow hbel
      go_wp2_with fail
      go_roundw
      case rel =>
        refine ⟨k + 1, by omega, by go_num, ⟨_, HR.out, fun j y hj hy => ?_⟩, HB.out⟩
        by_cases e : j = k
        · subst e
          rw [HX.out] at hy
          injection hy with hy
          subst hy
          exact put2_new
        · obtain ⟨p0, p1⟩ := put2_old (f := f) (k := k) (j := j) (a := .string x) (b := .int .i64 z) (by omega)
          rw [p0, p1]
          exact HF.out j y (by omega) hy
      case measure => simp [intOf]; omega
    · obtain rfl : k = n := by omega
      have HRw := Lib.hid (show RowR wr w.heap.size wr.heap.size 111 2 (some ⟨w.heap.size, 0, none⟩) k k (wic (tied ss zs)) from RowR.mk (Nat.le_refl _) hlt0 (Nat.le_refl _) hrow (fun x hx => by
        have hk2 : (tied ss zs)[x / 2]? = some ((tied ss zs)[x / 2]'(by rw [HLn.out]; omega)) := List.getElem?_eq_getElem _
        obtain ⟨e0, e1⟩ := hf (x / 2) _ (by omega) hk2
        obtain ⟨g0, g1⟩ := wic_at hk2
        have hm : x % 2 = 0 ∨ x % 2 = 1 := by omega
        rcases hm with e | e
        · rw [show x / 2 * 2 = x by omega] at e0 g0; exact e0.trans g0.symm
        · rw [show x / 2 * 2 + 1 = x by omega] at e1 g1; exact e1.trans g1.symm))
      clear hrow hf
      go_wp2_with fail
      go_ret
      exact ⟨_, rfl, HRw.out, hbel⟩

noncomputable def czR (ss : List ByteArray) : Big := if faceB ss 8 = true then wiring ss.length [] (tied ss (nums ss.length)) else zeroBig
theorem czR_no {ss : List ByteArray} (h : faceB ss 8 = false) : czR ss = zeroBig := by unfold czR; rw [h]; rfl
theorem czR_yes {ss : List ByteArray} (h : faceB ss 8 = true) : czR ss = wiring ss.length [] (tied ss (nums ss.length)) := by unfold czR; rw [if_pos h]
theorem cz_len (ss : List ByteArray) : bigMk (czR ss) ≤ 1048576 := by
  cases h : faceB ss 8 with
  | false => rw [czR_no h]; exact zero_len
  | true => rw [czR_yes h]; exact wiring_len (by simp) (by have := face_le h; rw [tied_len (nums_len _)]; omega)

set_option maxRecDepth 20000 in
set_option maxHeartbeats 1600000 in
theorem iCz_any (A : Option Addr) (n c : Nat) (ss : List ByteArray) (w : World) (h : SR w w.heap.size A n (ss.map Value.string)) (hn : n ≤ 1048576) (hs : ∀ s ∈ ss, s.size ≤ 1048576) (hnil : A = none → c = 0) :
    Calls Try.prog 56 #[.slice A n c] w (BigPost (faceB ss 8) (czR ss) w) := by
  have hb0 := (Below.refl w.heap.size w).alloc (Nat.le_refl _) (.cells #[.int .i64 0, .slice none 0 0, .slice none 0 0, .int .i64 0, .slice none 0 0, .slice none 0 0] 38)
  have HBx0 : Hid (BoxAt (w.alloc (.cells #[.int .i64 0, .slice none 0 0, .slice none 0 0, .int .i64 0, .slice none 0 0, .slice none 0 0] 38)) w.heap.size 38 (.int .i64 0) (.slice none 0 0) (.slice none 0 0) (.int .i64 0) (.slice none 0 0) (.slice none 0 0)) := Lib.hid (six_new w _ _ _ _ _ _ _)
  obtain ⟨W, hW⟩ : ∃ W, w.alloc (.cells #[.int .i64 0, .slice none 0 0, .slice none 0 0, .int .i64 0, .slice none 0 0, .slice none 0 0] 38) = W := ⟨_, rfl⟩
  have hWz : W.heap.size = w.heap.size + 1 := by rw [← hW]; simp
  rw [hW] at hb0 HBx0
  have HWq := Lib.hid hW
  have HB0 := Lib.hid hb0
  have HWz := Lib.hid hWz
  clear hW hb0 hWz
  have hl := h.strlen
  have hW := (h.below HB0.out).wide HB0.out.size
  have CW := isFace_any A n c ss 8 W hW hn hs
  cases hq : faceB ss 8 with
  | false =>
    rw [hq] at CW
    have HR := Lib.hid (czR_no hq)
    clear hq
    go_enter Try.func56, Try.ntmps56
    go_wp2_with fail
    rw [HWq.out]
    refine CW.mono ?_
    rintro e w1 ⟨rfl, rfl⟩
    clear CW
    obtain ⟨z0, z1, z2, z3, z4, z5⟩ := HBx0.out.get
    have f0 := World.rowIs.frozen HBx0.out 0
    have f1 := World.rowIs.frozen HBx0.out 1
    have f2 := World.rowIs.frozen HBx0.out 2
    have f3 := World.rowIs.frozen HBx0.out 3
    have f4 := World.rowIs.frozen HBx0.out 4
    have f5 := World.rowIs.frozen HBx0.out 5
    go_wp2_with fail
    refine bodyPost_ret (v := .tuple #[.agg #[.int .i64 0, .slice none 0 0, .slice none 0 0, .int .i64 0, .slice none 0 0, .slice none 0 0], .bool false]) (by simp [results, Try.results56, go_sem, z0, z1, z2, z3, z4, z5]) rfl ⟨_, rfl, by rw [HR.out]; exact BigR.zero, sets6_below HB0.out (Nat.le_refl _) _ _ _ _ _ _⟩
  | true =>
    rw [hq] at CW
    have hR2 := czR_yes hq
    have hle := face_le hq
    rw [hl] at hR2 hle
    have HR := Lib.hid hR2
    have HL := Lib.hid hl
    have HH := Lib.hid h
    clear hq hs hnil hW h hR2 hl
    go_enter Try.func56, Try.ntmps56
    go_wp2_with fail
    rw [HWq.out]
    refine CW.mono ?_
    rintro e w1 ⟨rfl, rfl⟩
    clear CW
    go_wp2_with fail
    refine (below_any n W hn).mono ?_
    rintro e w2 ⟨g, rfl, hg1, hg2, hrow, hb2⟩
    have hB2 := HB0.out.trans (hb2.mono HB0.out.size)
    have HBx2 := Lib.hid (HBx0.out.on hb2)
    have CT := wiresTo_any A (some ⟨g, 0, none⟩) n c n ss (nums n) w2 ((HH.out.below hB2).wide hB2.size) (ints_row hrow (Nat.le_refl _) hg2 (nums_len n) (fun _ _ => rfl)) hn
    have HB2 := Lib.hid hB2
    clear hrow hb2 hB2
    go_wp2_with fail
    refine CT.mono ?_
    rintro e w3 ⟨g', rfl, hr, hb3⟩
    have HBx3 := Lib.hid (HBx2.out.on hb3)
    have HB3 := Lib.hid (HB2.out.trans (hb3.mono HB2.out.size))
    have HBR := Lib.hid (wiring_big (E := n) (outer := []) (A4 := none) (c4 := 0) RowR.nil (wrs_row (by rw [tied_len (by rw [nums_len, HL.out]), HL.out]) (hr.wide (lo' := w.heap.size) HB2.out.size (Nat.le_refl _))))
    rw [show (tied ss (nums n)).length = n by rw [tied_len (by rw [nums_len, HL.out]), HL.out]] at HBR
    clear hr hb3 CT

    obtain ⟨z0, z1, z2, z3, z4, z5⟩ := HBx3.out.get
    have f0 := World.rowIs.frozen HBx3.out 0
    have f1 := World.rowIs.frozen HBx3.out 1
    have f2 := World.rowIs.frozen HBx3.out 2
    have f3 := World.rowIs.frozen HBx3.out 3
    have f4 := World.rowIs.frozen HBx3.out 4
    have f5 := World.rowIs.frozen HBx3.out 5
    go_wp2_with fail
    have hbig := (sets6_big HBx3.out HBR.out (.int .i64 0) (.slice none 0 0) (.slice none 0 0) (.int .i64 n) (.slice none 0 0) (.slice (some ⟨g', 0, none⟩) n n)).here
    have hbel := sets6_below HB3.out (Nat.le_refl w.heap.size) (.int .i64 0) (.slice none 0 0) (.slice none 0 0) (.int .i64 n) (.slice none 0 0) (.slice (some ⟨g', 0, none⟩) n n)
    unfold sets6 at hbig hbel
    refine bodyPost_ret (v := .tuple #[.agg #[.int .i64 0, .slice none 0 0, .slice none 0 0, .int .i64 n, .slice none 0 0, .slice (some ⟨g', 0, none⟩) n n], .bool true]) (by simp [results, Try.results56, go_sem, z0, z1, z2, z3, z4, z5]) rfl ⟨_, rfl, by rw [HR.out]; exact hbig, hbel⟩
theorem _root_.Go.Proofs.Ytemahmnchcnfeab.cf.BoxAt.put5 {w : World} {β : Nat} {t : TypeId} {v0 v1 v2 v3 v4 v5 : Value} (h : BoxAt w β t v0 v1 v2 v3 v4 v5) (u : Value) : BoxAt (w.setCell ⟨β, 5, none⟩ u) β t v0 v1 v2 v3 v4 u := by
  have h6 : (w.setCell ⟨β, 5, none⟩ u).rowIs β t 6 _ := World.rowIs.set h 5 u
  unfold BoxAt
  refine h6.congr ?_
  intro i hi
  match i, hi with
  | 0, _ => rfl
  | 1, _ => rfl
  | 2, _ => rfl
  | 3, _ => rfl
  | 4, _ => rfl
  | 5, _ => rfl
theorem owns_below {w w' : World} {base sz n : Nat} {e : TypeId} {v : Value} {xs : List Value} (h : w.ownsRow base e sz v n xs) (hb : Below w.heap.size w w') : w'.ownsRow base e sz v n xs := by
  obtain ⟨h1, h2⟩ := h
  refine ⟨h1, h2.imp id ?_⟩
  rintro ⟨g, cap, cur, e1, hbb, hh, r⟩
  exact ⟨g, cap, cur, e1, hbb, (hb.block g (Array.getElem?_eq_some_iff.1 hh).1).trans hh, r⟩
theorem cells_two_new (w : World) (a b : Value) (t : TypeId) : ∀ (j : Nat) u, [a, b][j]? = some u → (w.alloc (.cells #[a, b] t)).cell? ((⟨w.heap.size, 0, none⟩ : Addr).add j) = some u := by
  have hr := row_new w #[a, b] t 2 rfl
  intro j u hu
  rw [cl.add_none]
  match j, hu with
  | 0, hu =>
    simp at hu
    subst hu
    exact (hr.cell (show 0 < 2 by omega) : _)
  | 1, hu =>
    simp at hu
    subst hu
    exact (hr.cell (show 1 < 2 by omega) : _)
  | j + 2, hu => simp at hu
set_option maxRecDepth 20000 in
set_option maxHeartbeats 3200000 in
theorem sCz_any (A : Option Addr) (n c : Nat) (ss : List ByteArray) (w : World) (h : SR w w.heap.size A n (ss.map Value.string)) (hn : n ≤ 1048576) (hs : ∀ s ∈ ss, s.size ≤ 1048576) (hnil : A = none → c = 0) :
    Calls Try.prog 55 #[.slice A n c] w (BigPost (faceB ss 8) (czR ss) w) := by
  obtain ⟨i0, hi, hz0, hz1, hz2⟩ := info_parts wire_info
  have HI := Lib.hid (And.intro hi (And.intro hz0 (And.intro hz1 hz2)))
  have hb0 := (Below.refl w.heap.size w).alloc (Nat.le_refl _) (.cells #[.int .i64 0, .slice none 0 0, .slice none 0 0, .int .i64 0, .slice none 0 0, .slice none 0 0] 38)
  have HBx0 : Hid (BoxAt (w.alloc (.cells #[.int .i64 0, .slice none 0 0, .slice none 0 0, .int .i64 0, .slice none 0 0, .slice none 0 0] 38)) w.heap.size 38 (.int .i64 0) (.slice none 0 0) (.slice none 0 0) (.int .i64 0) (.slice none 0 0) (.slice none 0 0)) := Lib.hid (six_new w _ _ _ _ _ _ _)
  obtain ⟨W, hW⟩ : ∃ W, w.alloc (.cells #[.int .i64 0, .slice none 0 0, .slice none 0 0, .int .i64 0, .slice none 0 0, .slice none 0 0] 38) = W := ⟨_, rfl⟩
  have hWz : W.heap.size = w.heap.size + 1 := by rw [← hW]; simp
  rw [hW] at hb0 HBx0
  have HWq := Lib.hid hW
  have HB0 := Lib.hid hb0
  have HWz := Lib.hid hWz
  clear hW hb0 hWz
  have hb1 := (Below.refl W.heap.size W).alloc (Nat.le_refl _) (.cells #[.int .i64 0, .slice none 0 0, .slice none 0 0, .int .i64 n, .slice none 0 0, .slice none 0 0] 38)
  have HBo : Hid (BoxAt (W.alloc (.cells #[.int .i64 0, .slice none 0 0, .slice none 0 0, .int .i64 n, .slice none 0 0, .slice none 0 0] 38)) W.heap.size 38 (.int .i64 0) (.slice none 0 0) (.slice none 0 0) (.int .i64 n) (.slice none 0 0) (.slice none 0 0)) := Lib.hid (six_new W _ _ _ _ _ _ _)
  have HBx1 := Lib.hid (HBx0.out.on hb1)
  obtain ⟨U, hU⟩ : ∃ U, W.alloc (.cells #[.int .i64 0, .slice none 0 0, .slice none 0 0, .int .i64 n, .slice none 0 0, .slice none 0 0] 38) = U := ⟨_, rfl⟩
  have hUz : U.heap.size = w.heap.size + 1 + 1 := by rw [← hU]; simp; exact HWz.out
  rw [hU] at hb1 HBo HBx1
  rw [HWz.out] at HBo
  have HUq := Lib.hid hU
  have HB1 := Lib.hid (HB0.out.trans (hb1.mono HB0.out.size))
  have HUz := Lib.hid hUz
  have hl := h.strlen
  have HL := Lib.hid hl
  have CW := l3Names_any A n c ss U ((h.below HB1.out).wide HB1.out.size) hn hs
  have hF : faceB ss 16 = (namesB ss && decide ((n : Int) ≤ 16)) := by unfold faceB; rw [hl]
  have hF8 : faceB ss 8 = (namesB ss && decide ((n : Int) ≤ 8)) := by unfold faceB; rw [hl]
  have HH := Lib.hid h
  clear hU hb1 hUz hi hz0 hz1 hz2 h hs
  cases hq : faceB ss 8 with
  | false =>
    have HR := Lib.hid (czR_no hq)
    cases hq2 : faceB ss 16 with
    | false =>
      rw [hq2] at CW
      clear hq hq2 hF hF8 hl
      go_enter Try.func55, Try.ntmps55
      go_wp2_with fail
      rw [HWq.out, HUq.out]
      refine CW.mono ?_
      rintro e w1 ⟨rfl, hb⟩
      have HBx2 := Lib.hid (HBx1.out.on hb)
      have HB2 := Lib.hid (HB1.out.trans (hb.mono HB1.out.size))
      clear CW hb
      obtain ⟨z0, z1, z2, z3, z4, z5⟩ := HBx2.out.get
      have f0 := World.rowIs.frozen HBx2.out 0
      have f1 := World.rowIs.frozen HBx2.out 1
      have f2 := World.rowIs.frozen HBx2.out 2
      have f3 := World.rowIs.frozen HBx2.out 3
      have f4 := World.rowIs.frozen HBx2.out 4
      have f5 := World.rowIs.frozen HBx2.out 5
      go_wp2_with fail
      refine bodyPost_ret (v := .tuple #[.agg #[.int .i64 0, .slice none 0 0, .slice none 0 0, .int .i64 0, .slice none 0 0, .slice none 0 0], .bool false]) (by simp [results, Try.results55, go_sem, z0, z1, z2, z3, z4, z5]) rfl ⟨_, rfl, by rw [HR.out]; exact BigR.zero, sets6_below HB2.out (Nat.le_refl _) _ _ _ _ _ _⟩
    | true =>
      rw [hq2] at CW
      have hgt : (8 : Int) < (n : Int) := by
        rw [hF] at hq2
        rw [hF8] at hq
        simp only [Bool.and_eq_true] at hq2
        rw [hq2.1] at hq
        simp at hq
        exact hq
      clear hq hq2 hF hF8 hl
      go_enter Try.func55, Try.ntmps55
      go_wp2_with fail
      rw [HWq.out, HUq.out]
      refine CW.mono ?_
      rintro e w1 ⟨rfl, hb⟩
      have HBx2 := Lib.hid (HBx1.out.on hb)
      have HB2 := Lib.hid (HB1.out.trans (hb.mono HB1.out.size))
      clear CW hb
      obtain ⟨z0, z1, z2, z3, z4, z5⟩ := HBx2.out.get
      have f0 := World.rowIs.frozen HBx2.out 0
      have f1 := World.rowIs.frozen HBx2.out 1
      have f2 := World.rowIs.frozen HBx2.out 2
      have f3 := World.rowIs.frozen HBx2.out 3
      have f4 := World.rowIs.frozen HBx2.out 4
      have f5 := World.rowIs.frozen HBx2.out 5
      go_wp2_with fail
      refine bodyPost_ret (v := .tuple #[.agg #[.int .i64 0, .slice none 0 0, .slice none 0 0, .int .i64 0, .slice none 0 0, .slice none 0 0], .bool false]) (by simp [results, Try.results55, go_sem, z0, z1, z2, z3, z4, z5]) rfl ⟨_, rfl, by rw [HR.out]; exact BigR.zero, sets6_below HB2.out (Nat.le_refl _) _ _ _ _ _ _⟩
  | true =>
    have hR2 := czR_yes hq
    have hle := face_le hq
    rw [hl] at hR2 hle
    have HR := Lib.hid hR2
    have hq2 : faceB ss 16 = true := by
      rw [hF]
      rw [hF8] at hq
      simp only [Bool.and_eq_true, decide_eq_true_eq] at hq ⊢
      exact ⟨hq.1, by omega⟩
    rw [hq2] at CW
    have hle2 : ¬ ((8 : Int) < (n : Int)) := by omega
    have HT0 : Hid ((tied ss (nums n)).length = n) := Lib.hid (by rw [tied_len (by rw [nums_len, hl]), hl])
    clear hq hq2 hF hF8 hl hR2 hnil
    go_enter Try.func55, Try.ntmps55
    go_wp2_with fail
    rw [HWq.out, HUq.out]
    refine CW.mono ?_
    rintro e w1 ⟨rfl, hb⟩
    have HBx2 := Lib.hid (HBx1.out.on hb)
    have HBo2 := Lib.hid (HBo.out.on hb)
    have HB2 := Lib.hid (HB1.out.trans (hb.mono HB1.out.size))
    have hsz2 : w.heap.size + 1 + 1 ≤ w1.heap.size := by rw [← HUz.out]; exact hb.size
    clear CW hb
    go_wp2_with fail
    go_loopw [5] (fun i wr => ∃ (k : Nat) (v : Value), k ≤ n ∧ i = .int .i64 k ∧ wr.ownsRow (w.heap.size + 1 + 1) 111 2 v k (wcs ((tied ss (nums n)).take k)) ∧ BoxAt wr (w.heap.size + 1) 38 (.int .i64 0) (.slice none 0 0) (.slice none 0 0) (.int .i64 n) (.slice none 0 0) v ∧ BoxAt wr w.heap.size 38 (.int .i64 0) (.slice none 0 0) (.slice none 0 0) (.int .i64 0) (.slice none 0 0) (.slice none 0 0) ∧ Below w.heap.size w wr ∧ w.heap.size + 1 + 1 ≤ wr.heap.size) (fun i _ => n - (intOf i).toNat)
    case atStart => exact ⟨0, .slice none 0 0, Nat.zero_le _, rfl, World.ownsRow_nil _ _ _ _, HBo2.out, HBx2.out, HB2.out, hsz2⟩
    case round =>
      obtain ⟨k, v, hk, rfl, hown, hbo, hbx, hB, hsz⟩ := hrel
      by_cases hlt : k < n
      · obtain ⟨bb, off, x, rfl, hbb, hx, c0'⟩ := HH.out.str hlt
        have d0 := (hB.cell (p := ⟨bb, off + k, none⟩) hbb).trans c0'
        obtain ⟨x0, x1, x2, x3, x4, x5⟩ := hbo.get
        have HTk : Hid (wcs ((tied ss (nums n)).take (k + 1)) = wcs ((tied ss (nums n)).take k) ++ [.string x, .int .i64 (k : Int)]) := Lib.hid (by rw [take_snoc (tied_at hx (nums_at hlt)), wcs_snoc])
        obtain ⟨D, hD⟩ : ∃ D, wcs ((tied ss (nums n)).take k) = D := ⟨_, rfl⟩
        rw [hD] at hown HTk
        have e1 : k + 1 ≤ maxLen := by unfold maxLen; omega
        have e2 : (k + 1) * 24 ≤ 140737488355328 := by omega
        have e4 : ∀ u ∈ [Value.string x, Value.int .i64 (k : Int)], u.oneCell' = true := fun u hu => by
          simp at hu
          rcases hu with rfl | rfl <;> rfl
        have HO := Lib.hid hown
        have HBo' := Lib.hid hbo
        have HBx' := Lib.hid hbx
        have HB' := Lib.hid hB
        have q1 : w.heap.size + 1 < w.heap.size + 1 + 1 := by omega
        have q2 : w.heap.size < w.heap.size + 1 + 1 := by omega
        have q4 : w.heap.size ≤ w.heap.size + 1 + 1 := by omega
        clear hx c0' hD hown hbo hbx hB
        go_wp2_with fail
        have hk0 := (Below.refl wr.heap.size wr).alloc (Nat.le_refl _) (.cells #[.string x, .int .i64 (k : Int)] 111)
        have hkA := hk0.drew
        have HOA := Lib.hid (owns_below HO.out hkA)
        have HBoA := Lib.hid (HBo'.out.on hkA)
        have HBxA := Lib.hid (HBx'.out.on hkA)
        have HBA := Lib.hid (HB'.out.trans (hkA.mono HB'.out.size))
        have e3 : w.heap.size + 1 + 1 ≤ (wr.alloc (.cells #[.string x, .int .i64 (k : Int)] 111)).drew.heap.size := Nat.le_trans hsz hkA.size
        have e6 := HBA.out.size
        have e7 : ∀ (j : Nat) u, [Value.string x, Value.int .i64 (k : Int)][j]? = some u → (wr.alloc (.cells #[.string x, .int .i64 (k : Int)] 111)).drew.cell? ((⟨wr.heap.size, 0, none⟩ : Addr).add j) = some u := fun j u hu => cells_two_new wr _ _ _ j u hu
        obtain ⟨s0, s1, s2, s3, s4, s5⟩ := (HBo'.out.on hk0).get
        clear hkA hk0
        go_region_law (first | (refine step_append_own rfl _ _ 36 rfl (w.heap.size + 1 + 1) 111 i0 (.agg #[.string ⟨#[]⟩, .int .i64 0]) 2 24 Try.underlying36 HI.out.1 HI.out.2.1 HI.out.2.2.1 HI.out.2.2.2 rfl (by decide) _ _ _ (by first | rfl | simp [Act.eval, Act.put]) HOA.out ⟨wr.heap.size, 0, none⟩ 1 1 [.string x, .int .i64 (k : Int)] (by first | rfl | simp [Act.eval, Act.put]) rfl e7 e4 e1 e2 e3 ?_; intro v1 w3 hown1 hgrow1 hnil1; obtain ⟨A1, c1, rfl, -⟩ := rowR_owns hown1; have HT := Lib.hid (app_keep hgrow1 HOA.out HBoA.out HBxA.out HBA.out q1 q2 q4 e6); have HOw3 := Lib.hid hown1; clear hgrow1 hnil1 hown1 x0 x1 x2 x3 x4 x5; obtain ⟨x0, x1, x2, x3, x4, x5⟩ := HT.out.1.get; have g5 := World.rowIs.frozen HT.out.1 5))
        all_goals (go_wp2_with fail)
        all_goals (go_roundw)
        all_goals (first | (exact ⟨k + 1, _, by omega, by go_num, by rw [HTk.out]; exact owns_set HOw3.out (by omega), HT.out.1.put5 _, HT.out.2.1.else_ (by omega) _, HT.out.2.2.1.setCell (p := ⟨w.heap.size + 1, 5, none⟩) (by dsimp only; omega) _, by have := HT.out.2.2.2; simp [World.setCell]; omega⟩) | (simp [intOf]; omega))
      · obtain rfl : k = n := by omega
        rw [List.take_of_length_le (by rw [HT0.out]; exact Nat.le_refl _)] at hown
        obtain ⟨A', c', rfl, hrow⟩ := wrs_owned hown
        have HBig := Lib.hid (wiring_big (E := k) (outer := []) (A4 := none) (c4 := 0) RowR.nil (hrow.wide (lo' := w.heap.size) (by omega) (Nat.le_refl _)))
        have HBx := Lib.hid hbx
        have HB := Lib.hid hB
        rw [HT0.out] at HBig hbo
        obtain ⟨x0, x1, x2, x3, x4, x5⟩ := hbo.get
        clear hown hrow hbo hB hbx
        obtain ⟨z0, z1, z2, z3, z4, z5⟩ := HBx.out.get
        have f0 := World.rowIs.frozen HBx.out 0
        have f1 := World.rowIs.frozen HBx.out 1
        have f2 := World.rowIs.frozen HBx.out 2
        have f3 := World.rowIs.frozen HBx.out 3
        have f4 := World.rowIs.frozen HBx.out 4
        have f5 := World.rowIs.frozen HBx.out 5
        go_wp2_with fail
        have hbig := (sets6_big HBx.out HBig.out (.int .i64 0) (.slice none 0 0) (.slice none 0 0) (.int .i64 k) (.slice none 0 0) (.slice A' k c')).here
        have hbel := sets6_below HB.out (Nat.le_refl w.heap.size) (.int .i64 0) (.slice none 0 0) (.slice none 0 0) (.int .i64 k) (.slice none 0 0) (.slice A' k c')
        unfold sets6 at hbig hbel
        refine bodyPost_ret (v := .tuple #[.agg #[.int .i64 0, .slice none 0 0, .slice none 0 0, .int .i64 k, .slice none 0 0, .slice A' k c'], .bool true]) (by simp [results, Try.results55, go_sem, z0, z1, z2, z3, z4, z5]) rfl ⟨_, rfl, by rw [HR.out]; exact hbig, hbel⟩
end Go.Proofs.Ytemahmnchcnfeab.cz
