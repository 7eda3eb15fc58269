/- impl.numbersBelow, impl.wiresTo; ClosureOf of spec and impl. -/
import Derived.Test.YtlpgldejmdiceaaNw
import Derived.Test.YtlpgldejmdiceaaSa
namespace Go.Proofs.Ytlpgldejmdiceaa.cz
open kit bg sg opn strs only hb sig isig un over gn nm inn ht gd im pt marks eqs hc hi hw hn rs br bm bw cf lf ib lawb lw cl pl mb wb nw sa
open Go.RowKit
set_option linter.unusedVariables false

/-- the numbers below n -/
def nums (n : Nat) : List Int := (List.range n).map fun k : Nat => (k : Int)
theorem nums_at {n k : Nat} (h : k < n) : (nums n)[k]? = some (k : Int) := by unfold nums; rw [List.getElem?_map, List.getElem?_range h]; rfl
theorem nums_len (n : Nat) : (nums n).length = n := by unfold nums; simp
set_option maxHeartbeats 800000 in
theorem below_any (n : Nat) (w : World) (hn : n ≤ 1048576) :
    Calls Try.prog 101 #[.int .i64 (n : Int)] w fun e w' => ∃ g, e = .returned (.slice (some ⟨g, 0, none⟩) n n) ∧ w.heap.size ≤ g ∧ g < w'.heap.size ∧ w'.rowIs g 3 n (iat (nums n)) ∧ Below w.heap.size w w' := by
  have hmk := fun W => run_make_row' (P := Try.prog) 38 3 (.int .i64 0) 8 Try.underlying38 int_info rfl .i64 .i64 n (by omega) (by omega) W
  go_enter Try.func101, Try.ntmps101
  go_wp2_with fail
  clear hmk
  go_loopw [9] (fun i wr => ∃ k : Nat, k ≤ n ∧ i = .int .i64 k ∧ wr.rowIs w.heap.size 3 n (fun j => if j < k then iat (nums n) j else .int .i64 0) ∧ Below w.heap.size w wr) (fun i _ => n - (intOf i).toNat)
  case atStart => exact ⟨0, Nat.zero_le _, rfl, (World.rowIs_made w (.int .i64 0) n 3).congr (fun _ _ => by simp), (Below.refl _ _).alloc (Nat.le_refl _) _⟩
  case round =>
    obtain ⟨k, hk, rfl, hrow, hbel⟩ := hrel
    by_cases hlt : k < n
    · have HA : Hid (iat (nums n) k = .int .i64 (k : Int)) := Lib.hid (iat_of (nums_at hlt))
      have hcell := hrow.cell hlt
      have hfz := hrow.frozen k
      have HRow := Lib.hid (hrow.set k (.int .i64 (k : Int)))
      have HB := Lib.hid (hbel.setCell (p := ⟨w.heap.size, k, none⟩) (Nat.le_refl _) (.int .i64 (k : Int)))
      clear hrow hbel
      go_wp2_with fail
      go_roundw
      case rel =>
        refine ⟨k + 1, by omega, by go_num, HRow.out.congr (fun j hj => ?_), HB.out⟩
        show (if j = k then _ else if j < k then _ else _) = if j < k + 1 then _ else _
        by_cases e : j = k
        · subst e; rw [if_pos rfl, if_pos (by omega), HA.out]
        · rw [if_neg e]
          by_cases e2 : j < k
          · rw [if_pos e2, if_pos (by omega)]
          · rw [if_neg e2, if_neg (by omega)]
      case measure => simp [intOf]; omega
    · obtain rfl : k = n := by omega
      have HRw := Lib.hid (hrow.congr (g := iat (nums k)) (fun j hj => if_pos hj))
      clear hrow
      go_wp2_with fail
      go_ret
      exact ⟨_, rfl, Nat.le_refl _, HRw.out.lt, HRw.out, hbel⟩

/-- names with links -/
def tied (ss : List ByteArray) (zs : List Int) : List Wr := List.zipWith (fun s z => ⟨s, z⟩) ss zs
theorem tied_at {ss : List ByteArray} {zs : List Int} {k : Nat} {s : ByteArray} {z : Int} (h : ss[k]? = some s) (h2 : zs[k]? = some z) : (tied ss zs)[k]? = some ⟨s, z⟩ := by unfold tied; rw [List.getElem?_zipWith, h, h2]
theorem tied_len {ss : List ByteArray} {zs : List Int} (h : zs.length = ss.length) : (tied ss zs).length = ss.length := by unfold tied; simp [h]
noncomputable def czR (ss : List ByteArray) : Big := if faceB ss 8 = true then wiring ss.length [] (tied ss (nums ss.length)) else zeroBig
theorem czR_no {ss : List ByteArray} (h : faceB ss 8 = false) : czR ss = zeroBig := by unfold czR; rw [h]; rfl
theorem czR_yes {ss : List ByteArray} (h : faceB ss 8 = true) : czR ss = wiring ss.length [] (tied ss (nums ss.length)) := by unfold czR; rw [if_pos h]
theorem cz_len (ss : List ByteArray) : bigMk (czR ss) ≤ 1048576 := by
  cases h : faceB ss 8 with
  | false => rw [czR_no h]; exact zero_len
  | true => rw [czR_yes h]; exact wiring_len (by simp) (by have := face_le h; rw [tied_len (nums_len _)]; omega)

theorem _root_.Go.Proofs.Ytlpgldejmdiceaa.cf.BoxAt.put5c {w : World} {β : Nat} {t : TypeId} {v0 v1 v2 v3 v4 v5 : Value} (h : BoxAt w β t v0 v1 v2 v3 v4 v5) (u : Value) : BoxAt (w.setCell ⟨β, 5, none⟩ u) β t v0 v1 v2 v3 v4 u := by
  have h6 : (w.setCell ⟨β, 5, none⟩ u).rowIs β t 6 _ := World.rowIs.set h 5 u
  unfold BoxAt
  refine h6.congr ?_
  intro i hi
  match i, hi with
  | 0, _ => rfl
  | 1, _ => rfl
  | 2, _ => rfl
  | 3, _ => rfl
  | 4, _ => rfl
  | 5, _ => rfl
theorem owns_below {w w' : World} {base sz n : Nat} {e : TypeId} {v : Value} {xs : List Value} (h : w.ownsRow base e sz v n xs) (hb : Below w.heap.size w w') : w'.ownsRow base e sz v n xs := by
  obtain ⟨h1, h2⟩ := h
  refine ⟨h1, h2.imp id ?_⟩
  rintro ⟨g, cap, cur, e1, hbb, hh, r⟩
  exact ⟨g, cap, cur, e1, hbb, (hb.block g (Array.getElem?_eq_some_iff.1 hh).1).trans hh, r⟩
theorem cells_two_new (w : World) (a b : Value) (t : TypeId) : ∀ (j : Nat) u, [a, b][j]? = some u → (w.alloc (.cells #[a, b] t)).cell? ((⟨w.heap.size, 0, none⟩ : Addr).add j) = some u := by
  have hr := row_new w #[a, b] t 2 rfl
  intro j u hu
  rw [cl.add_none]
  match j, hu with
  | 0, hu =>
    simp at hu
    subst hu
    exact (hr.cell (show 0 < 2 by omega) : _)
  | 1, hu =>
    simp at hu
    subst hu
    exact (hr.cell (show 1 < 2 by omega) : _)
  | j + 2, hu => simp at hu
end Go.Proofs.Ytlpgldejmdiceaa.cz
