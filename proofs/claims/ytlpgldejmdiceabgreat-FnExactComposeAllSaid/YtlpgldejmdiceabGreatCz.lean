/- impl.numbersBelow, impl.wiresTo; ClosureOf of spec and impl. -/
import Derived.Test.YtlpgldejmdiceabGreatNw
import Derived.Test.YtlpgldejmdiceabGreatSa
namespace Go.Proofs.YtlpgldejmdiceabGreat.cz
open kit bg sg opn strs only hb sig isig un over gn nm inn ht gd im pt marks eqs hc hi hw hn rs br bm bw cf lf ib lawb lw cl pl mb wb nw sa
open Go.RowKit
set_option linter.unusedVariables false

/-- the numbers below n -/
def nums (n : Nat) : List Int := (List.range n).map fun k : Nat => (k : Int)
theorem nums_at {n k : Nat} (h : k < n) : (nums n)[k]? = some (k : Int) := by unfold nums; rw [List.getElem?_map, List.getElem?_range h]; rfl
theorem nums_len (n : Nat) : (nums n).length = n := by unfold nums; simp
set_option maxHeartbeats 800000 in
theorem below_any (n : Nat) (w : World) (hn : n ≤ 1048576) :
    Calls Tryz.prog 62 #[.int .i64 (n : Int)] w fun e w' => ∃ g, e = .returned (.slice (some ⟨g, 0, none⟩) n n) ∧ w.heap.size ≤ g ∧ g < w'.heap.size ∧ w'.rowIs g 3 n (iat (nums n)) ∧ Below w.heap.size w w' := by
  have hmk := fun W => run_make_row' (P := Tryz.prog) 27 3 (.int .i64 0) 8 Tryz.underlying27 int_info rfl .i64 .i64 n (by omega) (by omega) W
  go_enter Tryz.func62, Tryz.ntmps62
  go_wp2_with fail
  clear hmk
  go_loopw [9] (fun i wr => ∃ k : Nat, k ≤ n ∧ i = .int .i64 k ∧ wr.rowIs w.heap.size 3 n (fun j => if j < k then iat (nums n) j else .int .i64 0) ∧ Below w.heap.size w wr) (fun i _ => n - (intOf i).toNat)
  case atStart => exact ⟨0, Nat.zero_le _, rfl, (World.rowIs_made w (.int .i64 0) n 3).congr (fun _ _ => by simp), (Below.refl _ _).alloc (Nat.le_refl _) _⟩
  case round =>
    obtain ⟨k, hk, rfl, hrow, hbel⟩ := hrel
    by_cases hlt : k < n
    · have HA : Hid (iat (nums n) k = .int .i64 (k : Int)) := Lib.hid (iat_of (nums_at hlt))
      have hcell := hrow.cell hlt
      have hfz := hrow.frozen k
      have HRow := Lib.hid (hrow.set k (.int .i64 (k : Int)))
      have HB := Lib.hid (hbel.setCell (p := ⟨w.heap.size, k, none⟩) (Nat.le_refl _) (.int .i64 (k : Int)))
      clear hrow hbel
      go_wp2_with fail
      go_roundw
      case rel =>
        refine ⟨k + 1, by omega, by go_num, HRow.out.congr (fun j hj => ?_), HB.out⟩
        show (if j = k then _ else if j < k then _ else _) = if j < k + 1 then _ else _
        by_cases e : j = k
        · subst e; rw [if_pos rfl, if_pos (by omega), HA.out]
        · rw [if_neg e]
          by_cases e2 : j < k
          · rw [if_pos e2, if_pos (by omega)]
          · rw [if_neg e2, if_neg (by omega)]
      case measure => simp [intOf]; omega
    · obtain rfl : k = n := by omega
      have HRw := Lib.hid (hrow.congr (g := iat (nums k)) (fun j hj => if_pos hj))
      clear hrow
      go_wp2_with fail
      go_ret
      exact ⟨_, rfl, Nat.le_refl _, HRw.out.lt, HRw.out, hbel⟩

/-- names with links -/
def tied (ss : List ByteArray) (zs : List Int) : List Wr := List.zipWith (fun s z => ⟨s, z⟩) ss zs
theorem tied_at {ss : List ByteArray} {zs : List Int} {k : Nat} {s : ByteArray} {z : Int} (h : ss[k]? = some s) (h2 : zs[k]? = some z) : (tied ss zs)[k]? = some ⟨s, z⟩ := by unfold tied; rw [List.getElem?_zipWith, h, h2]
theorem tied_len {ss : List ByteArray} {zs : List Int} (h : zs.length = ss.length) : (tied ss zs).length = ss.length := by unfold tied; simp [h]
set_option maxRecDepth 20000 in
set_option maxHeartbeats 1600000 in
theorem wiresTo_any (A A' : Option Addr) (n c c' : Nat) (ss : List ByteArray) (zs : List Int) (w : World) (h : SR w w.heap.size A n (ss.map Value.string)) (h' : IntsAt w w.heap.size A' n zs) (hn : n ≤ 1048576) :
    Calls Tryz.prog 83 #[.slice A n c, .slice A' n c'] w fun e w' => ∃ g, e = .returned (.slice (some ⟨g, 0, none⟩) n n) ∧ RowR w' w.heap.size w'.heap.size 80 2 (some ⟨g, 0, none⟩) n n (wic (tied ss zs)) ∧ Below w.heap.size w w' := by
  have hl := h.strlen
  have hl' := h'.len
  have HLn : Hid ((tied ss zs).length = n) := Lib.hid (by rw [tied_len (by omega), hl])
  have hmk : ∀ W : World, (Instr.makeSlice 29 (.int .i64 (n : Int)) (.int .i64 (n : Int))).run Tryz.prog W = .ok (.slice (some ⟨W.heap.size, 0, none⟩) n n) (W.alloc (.cells (madeCells #[.string ⟨#[]⟩, .int .i64 0] (n * 2)) 80)) := by
    intro W
    obtain ⟨i0, hi, hz0, hz1, hz2⟩ := info_parts wire_info
    have hr := run_make (P := Tryz.prog) W 29 80 i0 _ Tryz.underlying29 hi hz0 .i64 .i64 n n (by omega) (Int.le_refl _) (by rw [hz2]; omega) (by omega)
    simp only [Int.toNat_natCast, hz1] at hr
    exact hr
  clear hl hl'
  go_enter Tryz.func83, Tryz.ntmps83
  go_wp2_with fail
  clear hmk
  go_loopw [13] (fun i wr => ∃ k : Nat, k ≤ n ∧ i = .int .i64 k ∧ (∃ f, wr.rowIs w.heap.size 80 (n * 2) f ∧ ∀ (j : Nat) c, j < k → (tied ss zs)[j]? = some c → f (j * 2) = .string c.name ∧ f (j * 2 + 1) = .int .i64 c.link) ∧ Below w.heap.size w wr) (fun i _ => n - (intOf i).toNat)
  case atStart => exact ⟨0, Nat.zero_le _, rfl, ⟨_, row_new w _ _ _ (size_madeCells _ _), fun j c hj => absurd hj (Nat.not_lt_zero j)⟩, (Below.refl _ _).alloc (Nat.le_refl _) _⟩
  case round =>
    obtain ⟨k, hk, rfl, ⟨f, hrow, hf⟩, hbel⟩ := hrel
    have hlt0 := hrow.lt
    by_cases hlt : k < n
    · obtain ⟨b, off, x, rfl, hbb, hx, c0⟩ := h.str hlt
      obtain ⟨b2, off2, z, rfl, hbb2, hx2, c1⟩ := h'.get hlt
      have d0 := (hbel.cell (p := ⟨b, off + k, none⟩) hbb).trans c0
      have d1 := (hbel.cell (p := ⟨b2, off2 + k, none⟩) hbb2).trans c1
      have HX := Lib.hid (tied_at hx hx2)
      have HF := Lib.hid hf
      have z0 := hrow.cell (show k * 2 < n * 2 by omega)
      have z1 := hrow.cell (show k * 2 + 1 < n * 2 by omega)
      have f0 := hrow.frozen (k * 2)
      have f1 := hrow.frozen (k * 2 + 1)
      have HR := Lib.hid (put2_row hrow k (.string x) (.int .i64 z))
      have HB := Lib.hid (put2_below hbel (Nat.le_refl _) k (.string x) (.int .i64 z))
      clear hx hx2 c0 c1 hf hrow hbel
      go_wp2_with fail
      go_roundw
      case rel =>
        refine ⟨k + 1, by omega, by go_num, ⟨_, HR.out, fun j y hj hy => ?_⟩, HB.out⟩
        by_cases e : j = k
        · subst e
          rw [HX.out] at hy
          injection hy with hy
          subst hy
          exact put2_new
        · obtain ⟨p0, p1⟩ := put2_old (f := f) (k := k) (j := j) (a := .string x) (b := .int .i64 z) (by omega)
          rw [p0, p1]
          exact HF.out j y (by omega) hy
      case measure => simp [intOf]; omega
    · obtain rfl : k = n := by omega
      have HRw := Lib.hid (show RowR wr w.heap.size wr.heap.size 80 2 (some ⟨w.heap.size, 0, none⟩) k k (wic (tied ss zs)) from RowR.mk (Nat.le_refl _) hlt0 (Nat.le_refl _) hrow (fun x hx => by
        have hk2 : (tied ss zs)[x / 2]? = some ((tied ss zs)[x / 2]'(by rw [HLn.out]; omega)) := List.getElem?_eq_getElem _
        obtain ⟨e0, e1⟩ := hf (x / 2) _ (by omega) hk2
        obtain ⟨g0, g1⟩ := wic_at hk2
        have hm : x % 2 = 0 ∨ x % 2 = 1 := by omega
        rcases hm with e | e
        · rw [show x / 2 * 2 = x by omega] at e0 g0; exact e0.trans g0.symm
        · rw [show x / 2 * 2 + 1 = x by omega] at e1 g1; exact e1.trans g1.symm))
      clear hrow hf
      go_wp2_with fail
      go_ret
      exact ⟨_, rfl, HRw.out, hbel⟩

noncomputable def czR (ss : List ByteArray) : Big := if faceB ss 8 = true then wiring ss.length [] (tied ss (nums ss.length)) else zeroBig
theorem czR_no {ss : List ByteArray} (h : faceB ss 8 = false) : czR ss = zeroBig := by unfold czR; rw [h]; rfl
theorem czR_yes {ss : List ByteArray} (h : faceB ss 8 = true) : czR ss = wiring ss.length [] (tied ss (nums ss.length)) := by unfold czR; rw [if_pos h]
theorem cz_len (ss : List ByteArray) : bigMk (czR ss) ≤ 1048576 := by
  cases h : faceB ss 8 with
  | false => rw [czR_no h]; exact zero_len
  | true => rw [czR_yes h]; exact wiring_len (by simp) (by have := face_le h; rw [tied_len (nums_len _)]; omega)

theorem _root_.Go.Proofs.YtlpgldejmdiceabGreat.cf.BoxAt.put5c {w : World} {β : Nat} {t : TypeId} {v0 v1 v2 v3 v4 v5 : Value} (h : BoxAt w β t v0 v1 v2 v3 v4 v5) (u : Value) : BoxAt (w.setCell ⟨β, 5, none⟩ u) β t v0 v1 v2 v3 v4 u := by
  have h6 : (w.setCell ⟨β, 5, none⟩ u).rowIs β t 6 _ := World.rowIs.set h 5 u
  unfold BoxAt
  refine h6.congr ?_
  intro i hi
  match i, hi with
  | 0, _ => rfl
  | 1, _ => rfl
  | 2, _ => rfl
  | 3, _ => rfl
  | 4, _ => rfl
  | 5, _ => rfl
theorem owns_below {w w' : World} {base sz n : Nat} {e : TypeId} {v : Value} {xs : List Value} (h : w.ownsRow base e sz v n xs) (hb : Below w.heap.size w w') : w'.ownsRow base e sz v n xs := by
  obtain ⟨h1, h2⟩ := h
  refine ⟨h1, h2.imp id ?_⟩
  rintro ⟨g, cap, cur, e1, hbb, hh, r⟩
  exact ⟨g, cap, cur, e1, hbb, (hb.block g (Array.getElem?_eq_some_iff.1 hh).1).trans hh, r⟩
theorem cells_two_new (w : World) (a b : Value) (t : TypeId) : ∀ (j : Nat) u, [a, b][j]? = some u → (w.alloc (.cells #[a, b] t)).cell? ((⟨w.heap.size, 0, none⟩ : Addr).add j) = some u := by
  have hr := row_new w #[a, b] t 2 rfl
  intro j u hu
  rw [cl.add_none]
  match j, hu with
  | 0, hu =>
    simp at hu
    subst hu
    exact (hr.cell (show 0 < 2 by omega) : _)
  | 1, hu =>
    simp at hu
    subst hu
    exact (hr.cell (show 1 < 2 by omega) : _)
  | j + 2, hu => simp at hu
end Go.Proofs.YtlpgldejmdiceabGreat.cz
