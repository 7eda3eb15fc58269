/- spec.l3Permutation; PermutationOf of spec and impl. -/
import Derived.Test.YtifialdkjnmfoaaPm
import Derived.Test.YtifialdkjnmfoaaMb
import Derived.Test.YtifialdkjnmfoaaSa
namespace Go.Proofs.Ytifialdkjnmfoaa.pn
open kit bg sg opn strs only hb sig inn ht marks eqs hc hi hw hn rs br bm bw cf lawb lw cl pl mb pm has sa
open Go.RowKit
set_option linter.unusedVariables false

theorem owns_under {w w' : World} {base sz n : Nat} {e : TypeId} {v : Value} {xs : List Value} (h : w.ownsRow base e sz v n xs) (hb : Below w.heap.size w w') : w'.ownsRow base e sz v n xs := by
  obtain ⟨h1, h2⟩ := h
  refine ⟨h1, h2.imp id ?_⟩
  rintro ⟨g, cap, cur, e1, hbb, hh, r⟩
  exact ⟨g, cap, cur, e1, hbb, (hb.block g (Array.getElem?_eq_some_iff.1 hh).1).trans hh, r⟩
/-- the roots that sites are under -/
def turned (zs : List Int) : List Int := zs.map fun z => -1 - z
theorem turned_at {zs : List Int} {k : Nat} {z : Int} (h : zs[k]? = some z) : (turned zs)[k]? = some (-1 - z) := by unfold turned; rw [List.getElem?_map, h]; rfl
theorem turned_len (zs : List Int) : (turned zs).length = zs.length := by unfold turned; simp

set_option maxRecDepth 20000 in
set_option maxHeartbeats 3200000 in
theorem l3Perm_any (A : Option Addr) (n c : Nat) (zs : List Int) (w : World) (h : IntsAt w w.heap.size A n zs) (hn : n ≤ 8) (hz : ∀ z ∈ zs, -9 ≤ z ∧ z ≤ 9) :
    Calls Try.prog 110 #[.slice A n c] w fun e w' => ∃ v, e = .returned v ∧ BigR w' w.heap.size w'.heap.size v (placing n (turned zs)) ∧ Below w.heap.size w w' := by
  obtain ⟨i0, hi, hz0, hz1, hz2⟩ := info_parts int_info
  have HI := Lib.hid (And.intro hi (And.intro hz0 (And.intro hz1 hz2)))
  have hb0 := (Below.refl w.heap.size w).alloc (Nat.le_refl _) (.cells #[.int .i64 0, .slice none 0 0, .slice none 0 0, .int .i64 0, .slice none 0 0, .slice none 0 0] 39)
  have HBx0 : Hid (BoxAt (w.alloc (.cells #[.int .i64 0, .slice none 0 0, .slice none 0 0, .int .i64 0, .slice none 0 0, .slice none 0 0] 39)) w.heap.size 39 (.int .i64 0) (.slice none 0 0) (.slice none 0 0) (.int .i64 0) (.slice none 0 0) (.slice none 0 0)) := Lib.hid (six_new w _ _ _ _ _ _ _)
  obtain ⟨W, hW⟩ : ∃ W, w.alloc (.cells #[.int .i64 0, .slice none 0 0, .slice none 0 0, .int .i64 0, .slice none 0 0, .slice none 0 0] 39) = W := ⟨_, rfl⟩
  have hWz : W.heap.size = w.heap.size + 1 := by rw [← hW]; simp
  rw [hW] at hb0 HBx0
  have HWq := Lib.hid hW
  have HB0 := Lib.hid hb0
  have HWz := Lib.hid hWz
  clear hW hb0 hWz
  have hb1 := (Below.refl W.heap.size W).alloc (Nat.le_refl _) (.cells #[.int .i64 n, .slice none 0 0, .slice none 0 0, .int .i64 0, .slice none 0 0, .slice none 0 0] 39)
  have HBo : Hid (BoxAt (W.alloc (.cells #[.int .i64 n, .slice none 0 0, .slice none 0 0, .int .i64 0, .slice none 0 0, .slice none 0 0] 39)) W.heap.size 39 (.int .i64 n) (.slice none 0 0) (.slice none 0 0) (.int .i64 0) (.slice none 0 0) (.slice none 0 0)) := Lib.hid (six_new W _ _ _ _ _ _ _)
  have HBx1 := Lib.hid (HBx0.out.on hb1)
  obtain ⟨U, hU⟩ : ∃ U, W.alloc (.cells #[.int .i64 n, .slice none 0 0, .slice none 0 0, .int .i64 0, .slice none 0 0, .slice none 0 0] 39) = U := ⟨_, rfl⟩
  have hUz : U.heap.size = w.heap.size + 1 + 1 := by rw [← hU]; simp; exact HWz.out
  rw [hU] at hb1 HBo HBx1
  rw [HWz.out] at HBo
  have HUq := Lib.hid hU
  have HB1 := Lib.hid (HB0.out.trans (hb1.mono HB0.out.size))
  have HUz := Lib.hid hUz
  have HL := Lib.hid h.len
  have HZ := Lib.hid hz
  have HTl : Hid ((turned zs).length = n) := Lib.hid (by rw [turned_len]; exact h.len)
  clear hU hb1 hUz hi hz0 hz1 hz2 hz
  go_enter Try.func110, Try.ntmps110
  go_wp2_with fail
  rw [HWq.out, HUq.out]
  go_loopw [4] (fun i wr => ∃ (k : Nat) (v : Value), k ≤ n ∧ i = .int .i64 k ∧ wr.ownsRow (w.heap.size + 1 + 1) 3 1 v k (((turned zs).take k).map (Value.int .i64)) ∧ BoxAt wr (w.heap.size + 1) 39 (.int .i64 n) (.slice none 0 0) v (.int .i64 0) (.slice none 0 0) (.slice none 0 0) ∧ BoxAt wr w.heap.size 39 (.int .i64 0) (.slice none 0 0) (.slice none 0 0) (.int .i64 0) (.slice none 0 0) (.slice none 0 0) ∧ Below w.heap.size w wr ∧ w.heap.size + 1 + 1 ≤ wr.heap.size) (fun i _ => n - (intOf i).toNat)
  case atStart => exact ⟨0, .slice none 0 0, Nat.zero_le _, rfl, World.ownsRow_nil _ _ _ _, HBo.out, HBx1.out, HB1.out, by rw [HUz.out]; exact Nat.le_refl _⟩
  case round =>
    obtain ⟨k, v, hk, rfl, hown, hbo, hbx, hB, hsz⟩ := hrel
    by_cases hlt : k < n
    · obtain ⟨bb, off, z, rfl, hbb, hx, c0'⟩ := h.get hlt
      have d0 := (hB.cell (p := ⟨bb, off + k, none⟩) hbb).trans c0'
      obtain ⟨x0, x1, x2, x3, x4, x5⟩ := hbo.get
      obtain ⟨hz1, hz2⟩ := HZ.out z (List.mem_of_getElem? hx)
      have hTk := turned_at hx
      have hwr : IntKind.i64.wrap (-1 - z) = -1 - z := IntWalk.i64_in _ (by omega)
      obtain ⟨y, hy⟩ : ∃ y, -1 - z = y := ⟨_, rfl⟩
      rw [hy] at hTk hwr
      have HTk : Hid (((turned zs).take (k + 1)).map (Value.int .i64) = ((turned zs).take k).map (Value.int .i64) ++ [.int .i64 y]) := Lib.hid (by rw [take_snoc hTk, List.map_append]; rfl)
      obtain ⟨D, hD⟩ : ∃ D, ((turned zs).take k).map (Value.int .i64) = D := ⟨_, rfl⟩
      rw [hD] at hown HTk
      have e1 : k + 1 ≤ maxLen := by unfold maxLen; omega
      have e2 : (k + 1) * 8 ≤ 140737488355328 := by omega
      have e4 : ∀ u ∈ [Value.int .i64 y], u.oneCell' = true := fun u hu => by
        rw [List.mem_singleton.1 hu]; rfl
      have HO := Lib.hid hown
      have HBo' := Lib.hid hbo
      have HBx' := Lib.hid hbx
      have HB' := Lib.hid hB
      have q1 : w.heap.size + 1 < w.heap.size + 1 + 1 := by omega
      have q2 : w.heap.size < w.heap.size + 1 + 1 := by omega
      have q4 : w.heap.size ≤ w.heap.size + 1 + 1 := by omega
      clear hx c0' hD hown hbo hbx hB hTk
      go_wp2_with fail
      have hk0 := (Below.refl wr.heap.size wr).alloc (Nat.le_refl _) (.cells #[.int .i64 y] 3)
      have hkA := hk0.drew
      have HOA := Lib.hid (owns_under HO.out hkA)
      have HBoA := Lib.hid (HBo'.out.on hkA)
      have HBxA := Lib.hid (HBx'.out.on hkA)
      have HBA := Lib.hid (HB'.out.trans (hkA.mono HB'.out.size))
      have e3 : w.heap.size + 1 + 1 ≤ (wr.alloc (.cells #[.int .i64 y] 3)).drew.heap.size := Nat.le_trans hsz hkA.size
      have e6 := HBA.out.size
      have e7 : ∀ (j : Nat) u, [Value.int .i64 y][j]? = some u → (wr.alloc (.cells #[.int .i64 y] 3)).drew.cell? ((⟨wr.heap.size, 0, none⟩ : Addr).add j) = some u := fun j u hu => cell_one_new wr _ _ j u hu
      obtain ⟨s0, s1, s2, s3, s4, s5⟩ := (HBo'.out.on hk0).get
      clear hkA hk0
      go_region_law (first | (refine step_append_own rfl _ _ 24 rfl (w.heap.size + 1 + 1) 3 i0 (.int .i64 0) 1 8 Try.underlying24 HI.out.1 HI.out.2.1 HI.out.2.2.1 HI.out.2.2.2 rfl (by decide) _ _ _ (by first | rfl | simp [Act.eval, Act.put]) HOA.out ⟨wr.heap.size, 0, none⟩ 1 1 [.int .i64 y] (by first | rfl | simp [Act.eval, Act.put]) rfl e7 e4 e1 e2 e3 ?_; intro v1 w3 hown1 hgrow1 hnil1; obtain ⟨A1, c1, rfl, -⟩ := rowR_owns hown1; have HT := Lib.hid (app_keep hgrow1 HOA.out HBoA.out HBxA.out HBA.out q1 q2 q4 e6); have HOw3 := Lib.hid hown1; clear hgrow1 hnil1 hown1 x0 x1 x2 x3 x4 x5; obtain ⟨x0, x1, x2, x3, x4, x5⟩ := HT.out.1.get; have g5 := World.rowIs.frozen HT.out.1 2))
      all_goals (go_wp2_with fail)
      all_goals (go_roundw)
      all_goals (first | (exact ⟨k + 1, _, by omega, by go_num, by rw [HTk.out]; exact owns_set HOw3.out (by omega), HT.out.1.put2 _, HT.out.2.1.else_ (by omega) _, HT.out.2.2.1.setCell (p := ⟨w.heap.size + 1, 2, none⟩) (by dsimp only; omega) _, by have := HT.out.2.2.2; simp [World.setCell]; omega⟩) | (simp [intOf]; omega))
    · obtain rfl : k = n := by omega
      rw [List.take_of_length_le (by rw [HTl.out]; exact Nat.le_refl _)] at hown
      obtain ⟨A', c', rfl, hrow⟩ := ints_owned hown
      have HBig := Lib.hid (placing_big (R := k) (hrow.wide (lo' := w.heap.size) (by omega) (Nat.le_refl _)))
      have HBx := Lib.hid hbx
      have HB := Lib.hid hB
      rw [HTl.out] at HBig hbo
      obtain ⟨x0, x1, x2, x3, x4, x5⟩ := hbo.get
      clear hown hrow hbo hB hbx
      obtain ⟨z0, z1, z2, z3, z4, z5⟩ := HBx.out.get
      have f0 := World.rowIs.frozen HBx.out 0
      have f1 := World.rowIs.frozen HBx.out 1
      have f2 := World.rowIs.frozen HBx.out 2
      have f3 := World.rowIs.frozen HBx.out 3
      have f4 := World.rowIs.frozen HBx.out 4
      have f5 := World.rowIs.frozen HBx.out 5
      go_wp2_with fail
      have hbig := (sets6_big HBx.out HBig.out (.int .i64 k) (.slice none 0 0) (.slice A' k c') (.int .i64 0) (.slice none 0 0) (.slice none 0 0)).here
      have hbel := sets6_below HB.out (Nat.le_refl w.heap.size) (.int .i64 k) (.slice none 0 0) (.slice A' k c') (.int .i64 0) (.slice none 0 0) (.slice none 0 0)
      unfold sets6 at hbig hbel
      exact bodyPost_ret (v := .agg #[.int .i64 k, .slice none 0 0, .slice A' k c', .int .i64 0, .slice none 0 0, .slice none 0 0]) (by simp [results, Try.results110, go_sem, z0, z1, z2, z3, z4, z5]) rfl ⟨_, rfl, hbig, hbel⟩

/-- whether a list is a permutation of few numbers -/
noncomputable def prmB (zs : List Int) : Bool := decide (zs.length ≤ 4) && eachB zs zs.length
noncomputable def prmR (zs : List Int) : Big := if prmB zs = true then placing zs.length (turned zs) else zeroBig
theorem prmR_no {zs : List Int} (h : prmB zs = false) : prmR zs = zeroBig := by unfold prmR; rw [h]; rfl
theorem prmR_yes {zs : List Int} (h : prmB zs = true) : prmR zs = placing zs.length (turned zs) := by unfold prmR; rw [if_pos h]
theorem prm_len (zs : List Int) : bigMk (prmR zs) ≤ 1048576 := by
  cases h : prmB zs with
  | false => rw [prmR_no h]; exact zero_len
  | true =>
    rw [prmR_yes h]
    unfold prmB at h
    simp only [Bool.and_eq_true, decide_eq_true_eq] at h
    exact placing_len (by rw [turned_len]; omega)
theorem each_in {zs : List Int} {n : Nat} (h : eachB zs n = true) (h4 : n ≤ 8) : ∀ z ∈ zs, -9 ≤ z ∧ z ≤ 9 := by
  intro z hz
  have he := each_of h
  obtain ⟨k, hk⟩ := List.getElem?_of_mem hz
  by_cases hin : 0 ≤ z ∧ z < n
  · omega
  · have := perm_bad hk he.2 (.inl hin)
    rw [h] at this
    cases this

end Go.Proofs.Ytifialdkjnmfoaa.pn
