/- SwapOf of spec. -/
import Derived.Test.YtifialdkjnmfoaaPn
namespace Go.Proofs.Ytifialdkjnmfoaa.sw
open kit bg sg opn strs only hb sig inn ht marks eqs hc hi hw hn rs br bm bw cf lawb lw cl pl mb pm has sa pn
open Go.RowKit
set_option linter.unusedVariables false

/-- the swap of m and n -/
def swapped (m n : Nat) : List Int := (List.range (m + n)).map fun k => if k < m then (n : Int) + k else (k : Int) - m
theorem swp_len (m n : Nat) : (swapped m n).length = m + n := by unfold swapped; simp
theorem swp_lo {m n k : Nat} (h : k < m) : (swapped m n)[k]? = some ((n : Int) + k) := by unfold swapped; rw [List.getElem?_map, List.getElem?_range (by omega)]; simp only [Option.map_some, if_pos h]
theorem swp_hi {m n k : Nat} (h : ¬ k < m) (h2 : k < m + n) : (swapped m n)[k]? = some ((k : Int) - m) := by unfold swapped; rw [List.getElem?_map, List.getElem?_range h2]; simp only [Option.map_some, if_neg h]
theorem swp_in {m n : Nat} (h : m + n ≤ 4) : ∀ z ∈ swapped m n, -9 ≤ z ∧ z ≤ 9 := by
  intro z hz
  unfold swapped at hz
  obtain ⟨k, hk, rfl⟩ := List.mem_map.1 hz
  have := List.mem_range.1 hk
  split <;> omega
def swpB (x y : Int) : Bool := inb x 0 4 && inb y 0 (4 - x)
def swpR (x y : Int) : Big := if swpB x y = true then placing (x.toNat + y.toNat : Nat) (turned (swapped x.toNat y.toNat)) else zeroBig
theorem swpR_no {x y : Int} (h : swpB x y = false) : swpR x y = zeroBig := by unfold swpR; rw [h]; rfl
theorem swpR_yes {m n : Nat} (h : swpB (m : Int) (n : Int) = true) : swpR (m : Int) (n : Int) = placing (m + n : Nat) (turned (swapped m n)) := by unfold swpR; rw [if_pos h]; simp only [Int.toNat_natCast]
theorem swp_of {x y : Int} (h : swpB x y = true) : ∃ m n : Nat, x = m ∧ y = n ∧ m + n ≤ 4 := by
  unfold swpB at h
  simp only [Bool.and_eq_true] at h
  have h1 := inb_true h.1
  have h2 := inb_true h.2
  exact ⟨x.toNat, y.toNat, by omega, by omega, by omega⟩
theorem swpR_len (x y : Int) : bigMk (swpR x y) ≤ 1048576 := by
  cases h : swpB x y with
  | false => rw [swpR_no h]; exact zero_len
  | true =>
    obtain ⟨m, n, rfl, rfl, hmn⟩ := swp_of h
    rw [swpR_yes h]
    exact placing_len (by rw [turned_len, swp_len]; omega)

set_option maxRecDepth 20000 in
set_option maxHeartbeats 12800000 in
theorem sSwp_any (x y : Int) (w : World) (hwf : (Lit.int .i64 x).wf = true) (hwf2 : (Lit.int .i64 y).wf = true) :
    Calls Try.prog 47 #[.int .i64 x, .int .i64 y] w (BigPost (swpB x y) (swpR x y) w) := by
  obtain ⟨i0, hi, hz0, hz1, hz2⟩ := info_parts int_info
  have HI := Lib.hid (And.intro hi (And.intro hz0 (And.intro hz1 hz2)))
  have hb0 := (Below.refl w.heap.size w).alloc (Nat.le_refl _) (.cells #[.int .i64 0, .slice none 0 0, .slice none 0 0, .int .i64 0, .slice none 0 0, .slice none 0 0] 39)
  have HBx0 : Hid (BoxAt (w.alloc (.cells #[.int .i64 0, .slice none 0 0, .slice none 0 0, .int .i64 0, .slice none 0 0, .slice none 0 0] 39)) w.heap.size 39 (.int .i64 0) (.slice none 0 0) (.slice none 0 0) (.int .i64 0) (.slice none 0 0) (.slice none 0 0)) := Lib.hid (six_new w _ _ _ _ _ _ _)
  obtain ⟨W, hW⟩ : ∃ W, w.alloc (.cells #[.int .i64 0, .slice none 0 0, .slice none 0 0, .int .i64 0, .slice none 0 0, .slice none 0 0] 39) = W := ⟨_, rfl⟩
  have hWz : W.heap.size = w.heap.size + 1 := by rw [← hW]; simp
  rw [hW] at hb0 HBx0
  have HWq := Lib.hid hW
  have HB0 := Lib.hid hb0
  have HWz := Lib.hid hWz
  clear hW hb0 hWz
  have hb1 := (Below.refl W.heap.size W).alloc (Nat.le_refl _) (.cells #[] 3)
  have HO0 : Hid ((W.alloc (.cells #[] 3)).ownsRow (w.heap.size + 1) 3 1 (.slice (some ⟨w.heap.size + 1, 0, none⟩) 0 0) 0 []) := Lib.hid (by
    have := World.ownsRow_made (base := w.heap.size + 1) (e := 3) (size := 1) W #[] 0 (Nat.le_of_eq HWz.out.symm) (by unfold maxLen; omega) (by simp)
    rw [HWz.out] at this
    simpa using this)
  have HBx1 := Lib.hid (HBx0.out.on hb1)
  obtain ⟨U, hU⟩ : ∃ U, W.alloc (.cells #[] 3) = U := ⟨_, rfl⟩
  have hUz : U.heap.size = w.heap.size + 1 + 1 := by rw [← hU]; simp; exact HWz.out
  rw [hU] at hb1 HBx1 HO0
  have HUq := Lib.hid hU
  have HB1 := Lib.hid (HB0.out.trans (hb1.mono HB0.out.size))
  have HUz := Lib.hid hUz
  clear hU hb1 hUz hi hz0 hz1 hz2
  cases hq1 : inb x 0 4 with
  | false =>
    have CW := in_any x 0 4 U
    rw [hq1] at CW
    have hq : swpB x y = false := by unfold swpB; rw [hq1]; rfl
    have HR := Lib.hid (swpR_no hq)
    rw [hq]
    clear hq hq1 hwf hwf2
    go_enter Try.func47, Try.ntmps47
    go_wp2_with fail
    rw [HWq.out, HUq.out]
    refine CW.mono ?_
    rintro e w1 ⟨rfl, rfl⟩
    clear CW
    obtain ⟨z0, z1, z2, z3, z4, z5⟩ := HBx1.out.get
    have f0 := World.rowIs.frozen HBx1.out 0
    have f1 := World.rowIs.frozen HBx1.out 1
    have f2 := World.rowIs.frozen HBx1.out 2
    have f3 := World.rowIs.frozen HBx1.out 3
    have f4 := World.rowIs.frozen HBx1.out 4
    have f5 := World.rowIs.frozen HBx1.out 5
    go_wp2_with fail
    refine bodyPost_ret (v := .tuple #[.agg #[.int .i64 0, .slice none 0 0, .slice none 0 0, .int .i64 0, .slice none 0 0, .slice none 0 0], .bool false]) (by simp [results, Try.results47, go_sem, z0, z1, z2, z3, z4, z5]) rfl ⟨_, rfl, by rw [HR.out]; exact BigR.zero, by first | exact HB1.out | exact sets6_below HB1.out (Nat.le_refl _) _ _ _ _ _ _⟩
  | true =>
  have hm := inb_true hq1
  obtain ⟨m, rfl⟩ : ∃ m : Nat, x = m := ⟨x.toNat, by omega⟩
  have hm4 : m ≤ 4 := by omega
  have CW := in_any (m : Int) 0 4 U
  rw [hq1] at CW
  have CW2 := in_any y 0 (4 - (m : Int)) U
  have hw4 : IntKind.i64.wrap (4 - (m : Int)) = 4 - (m : Int) := IntWalk.i64_in _ (by omega)
  cases hq2 : inb y 0 (4 - (m : Int)) with
  | false =>
    rw [hq2] at CW2
    have hq : swpB (m : Int) y = false := by unfold swpB; rw [hq2, hq1]; rfl
    have HR := Lib.hid (swpR_no hq)
    rw [hq]
    clear hq hq1 hq2 hwf hwf2 hm
    go_enter Try.func47, Try.ntmps47
    go_wp2_with fail
    rw [HWq.out, HUq.out]
    refine CW.mono ?_
    rintro e w1 ⟨rfl, rfl⟩
    clear CW
    go_wp2_with fail
    refine CW2.mono ?_
    rintro e w1 ⟨rfl, rfl⟩
    clear CW2
    obtain ⟨z0, z1, z2, z3, z4, z5⟩ := HBx1.out.get
    have f0 := World.rowIs.frozen HBx1.out 0
    have f1 := World.rowIs.frozen HBx1.out 1
    have f2 := World.rowIs.frozen HBx1.out 2
    have f3 := World.rowIs.frozen HBx1.out 3
    have f4 := World.rowIs.frozen HBx1.out 4
    have f5 := World.rowIs.frozen HBx1.out 5
    go_wp2_with fail
    refine bodyPost_ret (v := .tuple #[.agg #[.int .i64 0, .slice none 0 0, .slice none 0 0, .int .i64 0, .slice none 0 0, .slice none 0 0], .bool false]) (by simp [results, Try.results47, go_sem, z0, z1, z2, z3, z4, z5]) rfl ⟨_, rfl, by rw [HR.out]; exact BigR.zero, by first | exact HB1.out | exact sets6_below HB1.out (Nat.le_refl _) _ _ _ _ _ _⟩
  | true =>
  rw [hq2] at CW2
  have hn' := inb_true hq2
  obtain ⟨n, rfl⟩ : ∃ n : Nat, y = n := ⟨y.toNat, by omega⟩
  have hmn : m + n ≤ 4 := by omega
  have hq : swpB (m : Int) (n : Int) = true := by unfold swpB; rw [hq2, hq1]; rfl
  have hR := swpR_yes hq
  rw [hq]
  have hwmn : IntKind.i64.wrap ((m : Int) + (n : Int)) = (m : Int) + (n : Int) := IntWalk.i64_in _ (by omega)
  clear hq hq1 hq2 hwf hwf2 hm hn'
  have HLn := Lib.hid (swp_len m n)
  have HC := Lib.hid (fun (A : Option Addr) (c : Nat) (w2 : World) (h2 : IntsAt w2 w2.heap.size A (m + n) (swapped m n)) => hR ▸ l3Perm_any A (m + n) c (swapped m n) w2 h2 (by omega) (swp_in hmn))
  obtain ⟨R0, hR0⟩ : ∃ r, swpR (m : Int) (n : Int) = r := ⟨_, rfl⟩
  rw [hR0] at HC
  have HR0 := Lib.hid hR0
  clear hR hR0
  go_enter Try.func47, Try.ntmps47
  go_wp2_with fail
  rw [HWq.out, HUq.out]
  refine CW.mono ?_
  rintro e w1 ⟨rfl, rfl⟩
  clear CW
  go_wp2_with fail
  refine CW2.mono ?_
  rintro e w1 ⟨rfl, rfl⟩
  clear CW2
  go_wp2_with fail
  try rw [HWz.out]
  go_loopw [6, 7] (fun v i wr => ∃ k : Nat, k ≤ m + n ∧ i = .int .i64 k ∧ wr.ownsRow (w.heap.size + 1) 3 1 v k (((swapped m n).take k).map (Value.int .i64)) ∧ BoxAt wr w.heap.size 39 (.int .i64 0) (.slice none 0 0) (.slice none 0 0) (.int .i64 0) (.slice none 0 0) (.slice none 0 0) ∧ Below w.heap.size w wr ∧ w.heap.size + 1 ≤ wr.heap.size) (fun _ i _ => m + n - (intOf i).toNat)
  case atStart => exact ⟨0, Nat.zero_le _, rfl, HO0.out, HBx1.out, HB1.out, by rw [HUz.out]; omega⟩
  case round =>
    obtain ⟨k, hk, rfl, hown, hbx, hB, hsz⟩ := hrel
    by_cases hlt : k < m + n
    · have hlti : (k : Int) < (m : Int) + (n : Int) := by omega
      have e1 : k + 1 ≤ maxLen := by unfold maxLen; omega
      have e2 : (k + 1) * 8 ≤ 140737488355328 := by omega
      have q2 : w.heap.size < w.heap.size + 1 := by omega
      have q4 : w.heap.size ≤ w.heap.size + 1 := by omega
      by_cases hkm : k < m
      · have hT := swp_lo (n := n) hkm
        have hwr : IntKind.i64.wrap ((n : Int) + (k : Int)) = (n : Int) + (k : Int) := IntWalk.i64_in _ (by omega)
        obtain ⟨y, hy⟩ : ∃ y, (n : Int) + (k : Int) = y := ⟨_, rfl⟩
        rw [hy] at hT hwr
        have HTk : Hid (((swapped m n).take (k + 1)).map (Value.int .i64) = ((swapped m n).take k).map (Value.int .i64) ++ [.int .i64 y]) := Lib.hid (by rw [take_snoc hT, List.map_append]; rfl)
        obtain ⟨D, hD⟩ : ∃ D, ((swapped m n).take k).map (Value.int .i64) = D := ⟨_, rfl⟩
        rw [hD] at hown HTk
        have hoA := hown.alloc (.cells #[.int .i64 y] 3)
        have hbA := (Below.refl wr.heap.size wr).alloc (Nat.le_refl _) (.cells #[.int .i64 y] 3)
        have HBxA := Lib.hid (hbx.on hbA)
        have HBA := Lib.hid (hB.alloc (by omega) (.cells #[.int .i64 y] 3))
        have e3 : w.heap.size + 1 ≤ (wr.alloc (.cells #[.int .i64 y] 3)).heap.size := by
          rw [World.size_alloc]
          omega
        have e8 := Nat.le_trans q4 e3
        have e4 : ∀ u ∈ [Value.int .i64 y], u.oneCell' = true := fun u hu => by
          rw [List.mem_singleton.1 hu]; rfl
        clear hbx hB hown hbA hD hT
        go_wp2_with (at_builtin; refine wpList_append_own _ rfl _ _ 24 rfl (w.heap.size + 1) 3 i0 (.int .i64 0) 1 8 Try.underlying24 HI.out.1 HI.out.2.1 HI.out.2.2.1 HI.out.2.2.2 rfl (by decide) _ _ _ rfl hoA ⟨wr.heap.size, 0, none⟩ 1 1 [.int .i64 y] rfl rfl (cell_one_new _ _ _) e4 e1 e2 e3 ?_; intro v1 w3 hown1 hgrow1 hnil1; obtain ⟨A1, c1, rfl, -⟩ := rowR_owns hown1; have HT := Lib.hid (app_keep hgrow1 hoA HBxA.out HBxA.out HBA.out q2 q2 q4 e8); have HOw3 := Lib.hid hown1; clear hgrow1 hnil1 hown1 hoA)
        try (go_wp2_with fail)
        go_roundw
        case rel => exact ⟨k + 1, by omega, by go_num, by rw [HTk.out]; exact HOw3.out, HT.out.1, HT.out.2.2.1, by have := HT.out.2.2.2; rw [World.size_alloc] at this; omega⟩
        case measure => simp [intOf]; omega
      · have hT := swp_hi hkm hlt
        have hwr : IntKind.i64.wrap ((k : Int) - (m : Int)) = (k : Int) - (m : Int) := IntWalk.i64_in _ (by omega)
        obtain ⟨y, hy⟩ : ∃ y, (k : Int) - (m : Int) = y := ⟨_, rfl⟩
        rw [hy] at hT hwr
        have HTk : Hid (((swapped m n).take (k + 1)).map (Value.int .i64) = ((swapped m n).take k).map (Value.int .i64) ++ [.int .i64 y]) := Lib.hid (by rw [take_snoc hT, List.map_append]; rfl)
        obtain ⟨D, hD⟩ : ∃ D, ((swapped m n).take k).map (Value.int .i64) = D := ⟨_, rfl⟩
        rw [hD] at hown HTk
        have hoA := hown.alloc (.cells #[.int .i64 y] 3)
        have hbA := (Below.refl wr.heap.size wr).alloc (Nat.le_refl _) (.cells #[.int .i64 y] 3)
        have HBxA := Lib.hid (hbx.on hbA)
        have HBA := Lib.hid (hB.alloc (by omega) (.cells #[.int .i64 y] 3))
        have e3 : w.heap.size + 1 ≤ (wr.alloc (.cells #[.int .i64 y] 3)).heap.size := by
          rw [World.size_alloc]
          omega
        have e8 := Nat.le_trans q4 e3
        have e4 : ∀ u ∈ [Value.int .i64 y], u.oneCell' = true := fun u hu => by
          rw [List.mem_singleton.1 hu]; rfl
        clear hbx hB hown hbA hD hT
        go_wp2_with (at_builtin; refine wpList_append_own _ rfl _ _ 24 rfl (w.heap.size + 1) 3 i0 (.int .i64 0) 1 8 Try.underlying24 HI.out.1 HI.out.2.1 HI.out.2.2.1 HI.out.2.2.2 rfl (by decide) _ _ _ rfl hoA ⟨wr.heap.size, 0, none⟩ 1 1 [.int .i64 y] rfl rfl (cell_one_new _ _ _) e4 e1 e2 e3 ?_; intro v1 w3 hown1 hgrow1 hnil1; obtain ⟨A1, c1, rfl, -⟩ := rowR_owns hown1; have HT := Lib.hid (app_keep hgrow1 hoA HBxA.out HBxA.out HBA.out q2 q2 q4 e8); have HOw3 := Lib.hid hown1; clear hgrow1 hnil1 hown1 hoA)
        try (go_wp2_with fail)
        go_roundw
        case rel => exact ⟨k + 1, by omega, by go_num, by rw [HTk.out]; exact HOw3.out, HT.out.1, HT.out.2.2.1, by have := HT.out.2.2.2; rw [World.size_alloc] at this; omega⟩
        case measure => simp [intOf]; omega
    · obtain rfl : k = m + n := by omega
      rw [List.take_of_length_le (by rw [HLn.out]; exact Nat.le_refl _)] at hown
      obtain ⟨A', c', rfl, hrow⟩ := ints_owned hown
      have hIA := intsR_at hrow
      have CC := HC.out A' c' wr (HLn.out ▸ hIA)
      rw [HLn.out]
      have HBx1 := Lib.hid hbx
      have HB1 := Lib.hid hB
      have hnl : ¬ ((m : Int) + (n : Int) < (m : Int) + (n : Int)) := by omega
      clear hown hrow hbx hB hIA HC
      go_wp2_with fail
      refine CC.mono ?_
      rintro e w2 ⟨v, rfl, hr, hb2⟩
      have HBx2 := Lib.hid (HBx1.out.on hb2)
      have HB2 := Lib.hid (HB1.out.trans (hb2.mono HB1.out.size))
      obtain ⟨B1, d1, B2, d2, B4, d4, B5, d5, rfl⟩ := hr.shape
      have HRr := Lib.hid (hr.wide (lo' := w.heap.size) HB1.out.size (Nat.le_refl _))
      clear hr hb2 CC
      obtain ⟨z0, z1, z2, z3, z4, z5⟩ := HBx2.out.get
      have f0 := World.rowIs.frozen HBx2.out 0
      have f1 := World.rowIs.frozen HBx2.out 1
      have f2 := World.rowIs.frozen HBx2.out 2
      have f3 := World.rowIs.frozen HBx2.out 3
      have f4 := World.rowIs.frozen HBx2.out 4
      have f5 := World.rowIs.frozen HBx2.out 5
      go_wp2_with fail
      have hbig := (sets6_big HBx2.out HRr.out (.int .i64 R0.roots) (.slice B1 R0.nodes.length d1) (.slice B2 R0.sites.length d2) (.int .i64 R0.edges) (.slice B4 R0.outer.length d4) (.slice B5 R0.inner.length d5)).here
      have hbel := sets6_below HB2.out (Nat.le_refl w.heap.size) (.int .i64 R0.roots) (.slice B1 R0.nodes.length d1) (.slice B2 R0.sites.length d2) (.int .i64 R0.edges) (.slice B4 R0.outer.length d4) (.slice B5 R0.inner.length d5)
      unfold sets6 at hbig hbel
      refine bodyPost_ret (v := .tuple #[.agg #[.int .i64 R0.roots, .slice B1 R0.nodes.length d1, .slice B2 R0.sites.length d2, .int .i64 R0.edges, .slice B4 R0.outer.length d4, .slice B5 R0.inner.length d5], .bool true]) (by simp [results, Try.results47, go_sem, z0, z1, z2, z3, z4, z5]) rfl ⟨_, rfl, by rw [HR0.out]; exact hbig, hbel⟩
end Go.Proofs.Ytifialdkjnmfoaa.sw
