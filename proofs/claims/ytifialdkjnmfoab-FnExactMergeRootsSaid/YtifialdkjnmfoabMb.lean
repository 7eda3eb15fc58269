/- MergeOf and BarrenOf of spec and impl. -/
import Derived.Test.YtifialdkjnmfoabPl
import Derived.Test.YtifialdkjnmfoabFacts
namespace Go.Proofs.Ytifialdkjnmfoab.mb
open kit bg sg opn strs only hb sig inn ht marks eqs hc hi hw hn rs br bm bw cf lawb lw cl pl
open Go.RowKit
set_option linter.unusedVariables false

def mrgR (z : Int) : Big := if inb z 0 4 = true then placing 1 (List.replicate z.toNat (-1)) else zeroBig
theorem mrgR_no {z : Int} (h : inb z 0 4 = false) : mrgR z = zeroBig := by unfold mrgR; rw [h]; rfl
theorem mrgR_yes {z : Int} (h : inb z 0 4 = true) : mrgR z = placing 1 (List.replicate z.toNat (-1)) := by unfold mrgR; rw [if_pos h]
theorem zero_len : bigMk zeroBig ≤ 1048576 := by decide
theorem mrgR_len (z : Int) : bigMk (mrgR z) ≤ 1048576 := by
  cases h : inb z 0 4 with
  | false => rw [mrgR_no h]; exact zero_len
  | true => rw [mrgR_yes h]; exact placing_len (by rw [List.length_replicate]; have := inb_true h; omega)
def barR (z : Int) : Big := if inb z 0 4 = true then placing z [] else zeroBig
theorem barR_no {z : Int} (h : inb z 0 4 = false) : barR z = zeroBig := by unfold barR; rw [h]; rfl
theorem barR_yes {z : Int} (h : inb z 0 4 = true) : barR z = placing z [] := by unfold barR; rw [if_pos h]
theorem barR_len (z : Int) : bigMk (barR z) ≤ 1048576 := by
  cases h : inb z 0 4 with
  | false => rw [barR_no h]; exact zero_len
  | true => rw [barR_yes h]; exact placing_len (by simp)
theorem made_ints (w : World) (m : Nat) : IntsAt (w.alloc (.cells (madeCells #[.int .i64 0] m) 3)) (w.alloc (.cells (madeCells #[.int .i64 0] m) 3)).heap.size (some ⟨w.heap.size, 0, none⟩) m (List.replicate m 0) :=
  ints_row (World.rowIs_made w (.int .i64 0) m 3) (Nat.le_refl _) (by simp) (by simp) (fun k hk => (iat_of (by rw [List.getElem?_replicate, if_pos hk])).symm)
theorem _root_.Go.Proofs.Ytifialdkjnmfoab.cf.BoxAt.kept {w w' : World} {β : Nat} {t : TypeId} {v0 v1 v2 v3 v4 v5 : Value} {row : Option Nat} (h : BoxAt w β t v0 v1 v2 v3 v4 v5) (hg : w.grownBy w' row) (hne : some β ≠ row) : BoxAt w' β t v0 v1 v2 v3 v4 v5 := World.rowIs.of_block h (hg.block β (World.rowIs.lt h) hne)
theorem _root_.Go.Proofs.Ytifialdkjnmfoab.cf.BoxAt.put2 {w : World} {β : Nat} {t : TypeId} {v0 v1 v2 v3 v4 v5 : Value} (h : BoxAt w β t v0 v1 v2 v3 v4 v5) (u : Value) : BoxAt (w.setCell ⟨β, 2, none⟩ u) β t v0 v1 u v3 v4 v5 := by
  have h6 : (w.setCell ⟨β, 2, none⟩ u).rowIs β t 6 _ := World.rowIs.set h 2 u
  unfold BoxAt
  refine h6.congr ?_
  intro i hi
  match i, hi with
  | 0, _ => rfl
  | 1, _ => rfl
  | 2, _ => rfl
  | 3, _ => rfl
  | 4, _ => rfl
  | 5, _ => rfl
theorem _root_.Go.Proofs.Ytifialdkjnmfoab.cf.BoxAt.else_ {w : World} {β γ k : Nat} {t : TypeId} {v0 v1 v2 v3 v4 v5 : Value} (h : BoxAt w β t v0 v1 v2 v3 v4 v5) (hne : β ≠ γ) (u : Value) : BoxAt (w.setCell ⟨γ, k, none⟩ u) β t v0 v1 v2 v3 v4 v5 := World.rowIs.setOther h (a := ⟨γ, k, none⟩) hne u
theorem owns_set {w : World} {base sz n γ k : Nat} {e : TypeId} {v u : Value} {xs : List Value} (h : w.ownsRow base e sz v n xs) (hne : γ < base) : (w.setCell ⟨γ, k, none⟩ u).ownsRow base e sz v n xs := by
  obtain ⟨h1, h2⟩ := h
  refine ⟨h1, h2.imp id ?_⟩
  rintro ⟨g, cap, cur, e1, hb, hh, r⟩
  exact ⟨g, cap, cur, e1, hb, (Below.heap_setCell _ _ _ _ (by dsimp only; omega)).trans hh, r⟩
theorem app_keep {w wA w3 : World} {base sz n β γ B : Nat} {e t : TypeId} {v : Value} {xs : List Value} {a0 a1 a2 a3 a4 a5 b0 b1 b2 b3 b4 b5 : Value} (hg : wA.grownBy w3 v.ownBlock) (hown : wA.ownsRow base e sz v n xs) (hbo : BoxAt wA β t a0 a1 a2 a3 a4 a5) (hbx : BoxAt wA γ t b0 b1 b2 b3 b4 b5)
    (hB : Below B w wA) (h1 : β < base) (h2 : γ < base) (h3 : B ≤ base) (h4 : B ≤ wA.heap.size) : BoxAt w3 β t a0 a1 a2 a3 a4 a5 ∧ BoxAt w3 γ t b0 b1 b2 b3 b4 b5 ∧ Below B w w3 ∧ wA.heap.size ≤ w3.heap.size :=
  ⟨hbo.kept hg (fun e => by have := (hown.lt _ e.symm).1; omega), hbx.kept hg (fun e => by have := (hown.lt _ e.symm).1; omega), hB.grown hg h4 (fun j hj => by have := (hown.lt j hj).1; omega), hg.size⟩
theorem ints_owned {w : World} {lo n : Nat} {v : Value} {zs : List Int} (h : w.ownsRow lo 3 1 v n (zs.map (Value.int .i64))) : ∃ A c, v = .slice A zs.length c ∧ RowR w lo w.heap.size 3 1 A zs.length c (iat zs) := by
  have hl : zs.length = n := by have := h.1; rw [List.length_map] at this; omega
  obtain ⟨A, c, rfl, hR⟩ := rowR_owns h
  rw [← hl] at hR ⊢
  exact ⟨A, c, rfl, hR.congr (fun x hx => by
    have hx2 : x < zs.length := by omega
    have e : zs[x]? = some zs[x] := List.getElem?_eq_getElem hx2
    rw [List.getElem?_map, e, iat_of e]; rfl)⟩

end Go.Proofs.Ytifialdkjnmfoab.mb
