/- spec.l3Identity: an identity. -/
import Derived.Test.YtmcdbhlpmlcjpaaSy
namespace Go.Proofs.Ytmcdbhlpmlcjpaa.idn
open kit bg sg opn strs only hb sig isig un over gn nm inn ht gd im pt marks eqs hc hi hw hn rs br bm bw cf lf ib lawb lw cl pl mb wb nw cz ix su asc so sx sy
open Go.RowKit
set_option linter.unusedVariables false
set_option linter.unusedSimpArgs false
theorem flat_big {w : World} {lo hi c2 c4 c5 : Nat} {A2 A4 A5 : Option Addr} {R E : Int} {zs : List Int} {outer : List ByteArray} {inner : List Wr} (h2 : RowR w lo hi 3 1 A2 zs.length c2 (iat zs)) (h4 : RowR w lo hi 9 1 A4 outer.length c4 (at_ outer)) (h5 : RowR w lo hi 93 2 A5 inner.length c5 (wic inner)) :
    BigR w lo hi (.agg #[.int .i64 R, .slice none 0 0, .slice A2 zs.length c2, .int .i64 E, .slice A4 outer.length c4, .slice A5 inner.length c5]) ⟨R, [], zs, E, outer, inner⟩ :=
  ⟨⟨none, 0, A2, c2, A4, c4, A5, c5, fun _ => none, fun _ => 0⟩, rfl, fun k hk => absurd hk (Nat.not_lt_zero k), ⟨RowR.nil, fun k hk => absurd hk (Nat.not_lt_zero k)⟩, h2, h4, h5⟩
/-- the roots of an identity's sites -/
def downs (n : Nat) : List Int := (nums n).map fun z => -1 - z
theorem downs_at {n k : Nat} (h : k < n) : (downs n)[k]? = some (-1 - (k : Int)) := by unfold downs; rw [List.getElem?_map, nums_at h]; rfl
theorem downs_len (n : Nat) : (downs n).length = n := by unfold downs; rw [List.length_map, nums_len]
/-- an identity -/
def idB (n : Nat) (ss : List ByteArray) : Big := ⟨n, [], downs n, 0, ss, tied ss (nums ss.length)⟩
/-- blocks below a bound stay but one -/
def Kp (β B : Nat) (a w : World) : Prop := (∀ j, j < B → j ≠ β → w.heap[j]? = a.heap[j]?) ∧ a.heap.size ≤ w.heap.size
theorem kp_refl (β B : Nat) (a : World) : Kp β B a a := ⟨fun _ _ _ => rfl, Nat.le_refl _⟩
theorem kp_below {β B : Nat} {a w w' : World} (h : Kp β B a w) (hb : Below w.heap.size w w') (hB : B ≤ w.heap.size) : Kp β B a w' := ⟨fun j h1 h2 => (hb.block j (by omega)).trans (h.1 j h1 h2), Nat.le_trans h.2 hb.size⟩
theorem kp_grown {β B : Nat} {a w w' : World} {row : Option Nat} (h : Kp β B a w) (hg : w.grownBy w' row) (hB : B ≤ w.heap.size) (hr : ∀ r, row = some r → B ≤ r) : Kp β B a w' := ⟨fun j h1 h2 => (hg.block j (by omega) (fun e => by have := hr j e.symm; omega)).trans (h.1 j h1 h2), Nat.le_trans h.2 hg.size⟩
theorem kp_set {β B : Nat} {a w : World} (h : Kp β B a w) (o : Nat) (u : Value) : Kp β B a (w.setCell ⟨β, o, none⟩ u) := ⟨fun j h1 h2 => (Below.heap_setCell _ _ _ _ (by dsimp only; exact h2)).trans (h.1 j h1 h2), by simp [World.setCell]; exact h.2⟩
set_option maxRecDepth 20000 in
set_option maxHeartbeats 6400000 in
theorem sid_any (n : Nat) (A : Option Addr) (m c : Nat) (ss : List ByteArray) (w : World) (hn : n ≤ 8) (h : SR w w.heap.size A m (ss.map Value.string)) (hm : m ≤ 1000000) (hnil : A = none → c = 0) :
    Calls Try.prog 43 #[.int .i64 n, .slice A m c] w fun e w' => ∃ v, e = .returned v ∧ BigR w' w.heap.size w'.heap.size v (idB n ss) ∧ Below w.heap.size w w' := by
  obtain ⟨i0, hi, hz0, hz1, hz2⟩ := info_parts wire_info
  have HI := Lib.hid (And.intro hi (And.intro hz0 (And.intro hz1 hz2)))
  obtain ⟨i1, hi', hy0, hy1, hy2⟩ := info_parts int_info
  have HJ := Lib.hid (And.intro hi' (And.intro hy0 (And.intro hy1 hy2)))
  obtain ⟨i2, hi2, hx0, hx1, hx2⟩ := info_parts str_info
  have HG := Lib.hid (And.intro hi2 (And.intro hx0 (And.intro hx1 hx2)))
  have hb0 := (Below.refl w.heap.size w).alloc (Nat.le_refl _) (.cells #[.int .i64 0, .slice none 0 0, .slice none 0 0, .int .i64 0, .slice none 0 0, .slice none 0 0] 28)
  have HBx0 : Hid (BoxAt (w.alloc (.cells #[.int .i64 0, .slice none 0 0, .slice none 0 0, .int .i64 0, .slice none 0 0, .slice none 0 0] 28)) w.heap.size 28 (.int .i64 0) (.slice none 0 0) (.slice none 0 0) (.int .i64 0) (.slice none 0 0) (.slice none 0 0)) := Lib.hid (six_new w _ _ _ _ _ _ _)
  obtain ⟨W, hW⟩ : ∃ W, w.alloc (.cells #[.int .i64 0, .slice none 0 0, .slice none 0 0, .int .i64 0, .slice none 0 0, .slice none 0 0] 28) = W := ⟨_, rfl⟩
  have hWz : W.heap.size = w.heap.size + 1 := by rw [← hW]; simp
  rw [hW] at hb0 HBx0
  have HWq := Lib.hid hW
  have HB0 := Lib.hid hb0
  have HWz := Lib.hid hWz
  have hl := h.strlen
  have HL := Lib.hid hl
  have HH := Lib.hid h
  have hbA := (Below.refl W.heap.size W).alloc (Nat.le_refl _) (.cells #[] 9)
  have HBA := Lib.hid (HB0.out.trans (hbA.mono HB0.out.size))
  have HbA := Lib.hid hbA
  have hoa0 := ownsRow_nil_new W 9 1 W.heap.size (Nat.le_refl _)
  rw [hWz] at hoa0
  have HOA := Lib.hid hoa0
  have HSrc := Lib.hid (sr_src (HH.out.below HBA.out))
  have HZ := Lib.hid (fun e : A = none => And.intro (sr_zero h e) (hnil e))
  have e1 : 0 + m ≤ maxLen := by unfold maxLen; omega
  have e2 : (0 + m) * 16 ≤ 140737488355328 := by omega
  have e3 : w.heap.size + 1 ≤ (W.alloc (.cells #[] 9)).heap.size := by have := hbA.size; omega
  have e5 : ∀ u ∈ ss.map Value.string, u.oneCell' = true := fun u hu => by obtain ⟨s, _, rfl⟩ := List.mem_map.1 hu; rfl
  have e6 : (ss.map Value.string).length = m * 1 := by rw [List.length_map, hl, Nat.mul_one]
  have HT0 : Hid ((tied ss (nums m)).length = m) := Lib.hid (by rw [tied_len (by rw [nums_len, hl]), hl])
  clear hW hb0 hWz hi hz0 hz1 hz2 hi' hy0 hy1 hy2 hi2 hx0 hx1 hx2 h hnil hbA hoa0
  go_enter Try.func43, Try.ntmps43
  go_wp2_with (at_builtin; rw [HWq.out]; refine wpList_append_src _ rfl _ _ 22 rfl (w.heap.size + 1) 9 i2 (.string ⟨#[]⟩) 1 16 Try.underlying22 HG.out.1 HG.out.2.1 HG.out.2.2.1 HG.out.2.2.2 rfl (by decide) _ _ _ rfl HOA.out A m c (ss.map Value.string) rfl HZ.out e6 HSrc.out e5 e1 e2 e3 ?_; intro v1 w2 hown1 hgrow1; have HB2 := Lib.hid (HBA.out.grown hgrow1 (by omega) (fun j hj => by have := (HOA.out.lt j hj).1; omega)); have Hb2 := Lib.hid (HbA.out.grown hgrow1 (by have := HWz.out; omega) (fun j hj => by have := HWz.out; have := (HOA.out.lt j hj).1; omega)); obtain ⟨A4, c4, hv1, hr4⟩ := strs_owned (by have := hown1; rw [Nat.zero_add, List.nil_append] at this; exact this); rw [HL.out] at hv1 hr4; subst hv1; have HR4 := Lib.hid hr4; clear hgrow1 hown1 hr4)
  have HBx2 := Lib.hid (HBx0.out.on Hb2.out)
  have hw2 : w.heap.size < w2.heap.size := by have := HWz.out; have := Hb2.out.size; omega
  have hbU := (Below.refl w2.heap.size w2).alloc (Nat.le_refl _) (.cells #[.int .i64 n, .slice none 0 0, .slice none 0 0, .int .i64 0, .slice A4 m c4, .slice none 0 0] 28)
  have HBo : Hid (BoxAt (w2.alloc (.cells #[.int .i64 n, .slice none 0 0, .slice none 0 0, .int .i64 0, .slice A4 m c4, .slice none 0 0] 28)) w2.heap.size 28 (.int .i64 n) (.slice none 0 0) (.slice none 0 0) (.int .i64 0) (.slice A4 m c4) (.slice none 0 0)) := Lib.hid (six_new w2 _ _ _ _ _ _ _)
  obtain ⟨U, hU⟩ : ∃ U, w2.alloc (.cells #[.int .i64 n, .slice none 0 0, .slice none 0 0, .int .i64 0, .slice A4 m c4, .slice none 0 0] 28) = U := ⟨_, rfl⟩
  have hUz : U.heap.size = w2.heap.size + 1 := by rw [← hU]; simp
  rw [hU] at hbU HBo
  have HUq := Lib.hid hU
  have HBU := Lib.hid hbU
  have HUz := Lib.hid hUz
  obtain ⟨β, hβ⟩ : ∃ β, w2.heap.size = β := ⟨_, rfl⟩
  have Hβ := Lib.hid hβ
  clear hU hbU hUz hβ
  try go_wp2_with fail
  rw [HUq.out]
  go_wp2_with fail
  rw [Hβ.out]
  rw [Hβ.out] at HBo HBU HUz hw2
  go_loopw [6] (fun i wr => ∃ (k : Nat) (v : Value), k ≤ n ∧ i = .int .i64 k ∧ wr.ownsRow (β + 1) 3 1 v k (((downs n).take k).map (Value.int .i64)) ∧ BoxAt wr β 28 (.int .i64 n) (.slice none 0 0) v (.int .i64 0) (.slice A4 m c4) (.slice none 0 0) ∧ Below β w2 wr ∧ β + 1 ≤ wr.heap.size) (fun i _ => n - (intOf i).toNat)
  case atStart => exact ⟨0, .slice none 0 0, Nat.zero_le _, rfl, World.ownsRow_nil _ _ _ _, HBo.out, HBU.out, by have := HUz.out; omega⟩
  case round =>
    obtain ⟨k, v, hk, rfl, hown, hbo, hB, hsz⟩ := hrel
    rename World => wr
    by_cases hlt : k < n
    · obtain ⟨x0, x1, x2, x3, x4, x5⟩ := hbo.get
      have hwr : IntKind.i64.wrap (-1 - (k : Int)) = -1 - (k : Int) := IntWalk.i64_in _ (by omega)
      have hTk := downs_at hlt
      obtain ⟨y, hy⟩ : ∃ y, -1 - (k : Int) = y := ⟨_, rfl⟩
      rw [hy] at hTk hwr
      have HTk : Hid (((downs n).take (k + 1)).map (Value.int .i64) = ((downs n).take k).map (Value.int .i64) ++ [.int .i64 y]) := Lib.hid (by rw [take_snoc hTk, List.map_append]; rfl)
      obtain ⟨D, hD⟩ : ∃ D, ((downs n).take k).map (Value.int .i64) = D := ⟨_, rfl⟩
      rw [hD] at hown HTk
      have f1 : k + 1 ≤ maxLen := by unfold maxLen; omega
      have f2 : (k + 1) * 8 ≤ 140737488355328 := by omega
      have f4 : ∀ u ∈ [Value.int .i64 y], u.oneCell' = true := fun u hu => by rw [List.mem_singleton.1 hu]; rfl
      have HO := Lib.hid hown
      have HBo' := Lib.hid hbo
      have HB' := Lib.hid hB
      clear hTk hD hown hbo hB
      go_wp2_with (at_builtin; go_loud (refine wpList_append_own _ rfl _ _ 25 rfl (β + 1) 3 i1 (.int .i64 0) 1 8 Try.underlying25 HJ.out.1 HJ.out.2.1 HJ.out.2.2.1 HJ.out.2.2.2 rfl (by decide) _ _ _ rfl (HO.out.alloc _) ⟨wr.heap.size, 0, none⟩ 1 1 [.int .i64 y] rfl rfl (cell_one_new _ _ _) f4 f1 f2 (by simp; omega) ?_; intro v1 w3 hown1 hgrow1 hnil1; obtain ⟨Av, cv, rfl, -⟩ := rowR_owns hown1; have hbA := (Below.refl wr.heap.size wr).alloc (Nat.le_refl _) (.cells #[.int .i64 y] 3); have hbo3 := World.rowIs.of_block (HBo'.out.on hbA) (hgrow1.block β (by simp; omega) (fun e => by have := ((HO.out.alloc (.cells #[.int .i64 y] 3)).lt _ e.symm).1; omega)); have HBo3 := Lib.hid (show BoxAt w3 β 28 (.int .i64 n) (.slice none 0 0) v (.int .i64 0) (.slice A4 m c4) (.slice none 0 0) from hbo3); have HB3 := Lib.hid ((HB'.out.trans (hbA.mono (by omega))).grown hgrow1 (by simp; omega) (fun r e => by have := ((HO.out.alloc (.cells #[.int .i64 y] 3)).lt r e).1; omega)); have HO3 := Lib.hid hown1; have hl3 := Nat.le_trans (Nat.le_trans hsz hbA.size) hgrow1.size; clear hgrow1 hnil1 hown1 hbA hbo3 x0 x1 x2 x3 x4 x5; obtain ⟨x0, x1, x2, x3, x4, x5⟩ := HBo3.out.get; have g2 := World.rowIs.frozen HBo3.out 2))
      go_roundw
      case rel => exact ⟨k + 1, _, by omega, by go_num, by rw [HTk.out]; exact owns_set HO3.out (by omega), HBo3.out.put2 _, HB3.out.setCell (p := ⟨β, 2, none⟩) (Nat.le_refl _) _, by simp [World.setCell]; omega⟩
      case measure => simp [intOf]; omega
    · obtain rfl : k = n := by omega
      rw [List.take_of_length_le (by rw [downs_len]; exact Nat.le_refl _)] at hown
      obtain ⟨A2, c2, rfl, hr2⟩ := ints_owned hown
      rw [downs_len] at hr2 hbo
      have HR2 := Lib.hid hr2
      have HBo' := Lib.hid hbo
      have HB' := Lib.hid hB
      obtain ⟨U2, hU2⟩ : ∃ U2, wr = U2 := ⟨_, rfl⟩
      obtain ⟨B, hBq⟩ : ∃ B, U2.heap.size = B := ⟨_, rfl⟩
      rw [hU2] at HR2 HBo' HB' hsz ⊢
      rw [hBq] at HR2 hsz
      have HBq := Lib.hid hBq
      clear hown hbo hB hr2 hU2 hBq
      go_wp2_with fail
      go_loopw [7] (fun i wq => ∃ (j : Nat) (v : Value), j ≤ m ∧ i = .int .i64 j ∧ wq.ownsRow B 93 2 v j (wcs ((tied ss (nums m)).take j)) ∧ BoxAt wq β 28 (.int .i64 k) (.slice none 0 0) (.slice A2 k c2) (.int .i64 0) (.slice A4 m c4) v ∧ Below β w2 wq ∧ Kp β B U2 wq ∧ B ≤ wq.heap.size) (fun i _ => m - (intOf i).toNat)
      case atStart => exact ⟨0, .slice none 0 0, Nat.zero_le _, rfl, World.ownsRow_nil _ _ _ _, HBo'.out, HB'.out, kp_refl _ _ _, by have := HBq.out; omega⟩
      case round =>
        obtain ⟨j, v, hj, rfl, hown, hbo, hB, hkp, hszq⟩ := hrel
        rename World => wq
        by_cases hjm : j < m
        · obtain ⟨b1, o1, x, rfl, hbb, hx, cx⟩ := HH.out.str hjm
          have HBw := Lib.hid (HB2.out.trans (hB.mono (by omega)))
          have d1 := (HBw.out.cell (p := ⟨b1, o1 + j, none⟩) hbb).trans cx
          have HTk : Hid (wcs ((tied ss (nums m)).take (j + 1)) = wcs ((tied ss (nums m)).take j) ++ [.string x, .int .i64 (j : Int)]) := Lib.hid (by rw [take_snoc (tied_at hx (nums_at hjm)), wcs_snoc])
          obtain ⟨D, hD⟩ : ∃ D, wcs ((tied ss (nums m)).take j) = D := ⟨_, rfl⟩
          rw [hD] at hown HTk
          have HO := Lib.hid hown
          have HBj := Lib.hid hbo
          have HB'' := Lib.hid hB
          have HKp := Lib.hid hkp
          have HS : Hid (∀ w', Below wq.heap.size wq w' → w'.cell? ⟨β, 5, none⟩ = some v ∧ w'.cell? ⟨b1, o1 + j, none⟩ = some (.string x)) := Lib.hid (fun w' hq => ⟨(HBj.out.on hq).get.2.2.2.2.2, (hq.cell (p := ⟨b1, o1 + j, none⟩) (by dsimp only; omega)).trans d1⟩)
          have f1 : j + 1 ≤ maxLen := by unfold maxLen; omega
          have f2 : (j + 1) * 24 ≤ 140737488355328 := by omega
          have f4 : ∀ u ∈ [Value.string x, Value.int .i64 (j : Int)], u.oneCell' = true := fun u hu => by
            simp at hu
            rcases hu with rfl | rfl <;> rfl
          have hkD := (Below.refl wq.heap.size wq).drew
          clear hx cx d1 hD hown hbo hB hkp
          go_wp2_with fail
          refine rh.go_begin 11 (fun w' => w'.cell? ⟨β, 5, none⟩ = some v ∧ w'.cell? ⟨b1, o1 + j, none⟩ = some (.string x)) (by kernel_rfl) ?_ (fun hHeld => ?_)
          · ((try dsimp only); exact HS.out _ hkD)
          refine rh.go_take (i := 0) (v := ?v1) rfl (by kernel_rfl) (fun _ _ _ h => h) (Or.inl ⟨by rfl, ?hy1⟩) (by assumption) ?rest1
          case hy1 => (intro wS hSw; (try dsimp only at hSw); go_simp; try (with_reducible rfl))
          try simp only [Act.put, List.setIfInBounds_toArray, List.set_cons_zero, List.set_cons_succ]
          refine rh.go_take (i := 1) (v := ?v2) rfl (by kernel_rfl) (fun _ _ _ h => h) (Or.inl ⟨by rfl, ?hy2⟩) (by assumption) ?rest2
          case hy2 => (intro wS hSw; (try dsimp only at hSw); go_simp; try (with_reducible rfl))
          try simp only [Act.put, List.setIfInBounds_toArray, List.set_cons_zero, List.set_cons_succ]
          refine rh.go_take (i := 2) (v := ?v3) rfl (by kernel_rfl) (fun _ _ _ h => h) (Or.inl ⟨by rfl, ?hy3⟩) (by assumption) ?rest3
          case hy3 => (intro wS hSw; (try dsimp only at hSw); go_simp; try (with_reducible rfl))
          try simp only [Act.put, List.setIfInBounds_toArray, List.set_cons_zero, List.set_cons_succ]
          refine rh.go_take (i := 3) (v := ?v4) rfl (by kernel_rfl) (fun _ _ _ h => h) (Or.inl ⟨by rfl, ?hy4⟩) (by assumption) ?rest4
          case hy4 => (intro wS hSw; (try dsimp only at hSw); go_simp; try (with_reducible rfl))
          try simp only [Act.put, List.setIfInBounds_toArray, List.set_cons_zero, List.set_cons_succ]
          refine rh.go_take (i := 4) (v := ?v5) rfl (by kernel_rfl) (fun _ _ _ h => h) (Or.inl ⟨by rfl, ?hy5⟩) (by assumption) ?rest5
          case hy5 => (intro wS hSw; (try dsimp only at hSw); go_simp; try (with_reducible rfl))
          try simp only [Act.put, List.setIfInBounds_toArray, List.set_cons_zero, List.set_cons_succ]
          refine rh.go_take (i := 5) (v := ?v6) rfl (by kernel_rfl) (fun _ _ _ h => h) (Or.inl ⟨by rfl, ?hy6⟩) (by assumption) ?rest6
          case hy6 => (intro wS hSw; (try dsimp only at hSw); go_simp; try (with_reducible rfl))
          try simp only [Act.put, List.setIfInBounds_toArray, List.set_cons_zero, List.set_cons_succ]
          refine rh.go_take (i := 6) (v := ?v7) rfl (by kernel_rfl) (fun _ _ _ h => h) (Or.inl ⟨by rfl, ?hy7⟩) (by assumption) ?rest7
          case hy7 => (intro wS hSw; (try dsimp only at hSw); go_simp; try (with_reducible rfl))
          try simp only [Act.put, List.setIfInBounds_toArray, List.set_cons_zero, List.set_cons_succ]
          refine rh.go_take (i := 7) (v := ?v8) rfl (by kernel_rfl) (fun _ _ _ h => h) (Or.inl ⟨by rfl, ?hy8⟩) (by assumption) ?rest8
          case hy8 => (intro wS hSw; (try dsimp only at hSw); go_simp; try (with_reducible rfl))
          try simp only [Act.put, List.setIfInBounds_toArray, List.set_cons_zero, List.set_cons_succ]
          refine rh.go_next (i := 8) rfl (by kernel_rfl) (fun K2 hK => ?_)
          go_simp
          have hbA0 := hkD.alloc (Nat.le_refl _) (.cells #[.string x, .int .i64 (j : Int)] 93)
          have e7 := cells_two_new wq (.string x) (.int .i64 (j : Int)) 93
          refine hK.out _ _ ?_ (fun hHeld => ?_)
          · ((try dsimp only); exact HS.out _ hbA0)
          clear hK K2 hHeld
          try simp only [Act.put, List.setIfInBounds_toArray, List.set_cons_zero, List.set_cons_succ]
          have hbA : Below wq.heap.size wq (wq.alloc (.cells #[.string x, .int .i64 (j : Int)] 93)).drew := hbA0
          have e7' : ∀ (t : Nat) u, [Value.string x, Value.int .i64 (j : Int)][t]? = some u → (wq.alloc (.cells #[.string x, .int .i64 (j : Int)] 93)).drew.cell? ((⟨wq.heap.size, 0, none⟩ : Addr).add t) = some u := e7
          have hoA := cz.owns_below HO.out hbA
          obtain ⟨W1, hW1⟩ : ∃ W1, (wq.alloc (.cells #[.string x, .int .i64 (j : Int)] 93)).drew = W1 := ⟨_, rfl⟩
          rw [hW1] at hbA e7' hoA ⊢
          clear hW1 hbA0 e7
          have hboA := HBj.out.on hbA
          have hBA := HB''.out.trans (hbA.mono (by omega))
          have hlA := Nat.le_trans hszq hbA.size
          have hkA := kp_below HKp.out hbA hszq
          refine rh.go_next (i := 9) rfl (by kernel_rfl) (fun K2 hK => ?_)
          refine sa.step_append_own rfl _ _ 26 rfl B 93 i0 (.agg #[.string ⟨#[]⟩, .int .i64 0]) 2 24 Try.underlying26 HI.out.1 HI.out.2.1 HI.out.2.2.1 HI.out.2.2.2 rfl (by decide) _ _ _ (by first | rfl | simp [Act.eval, Act.put]) hoA ⟨wq.heap.size, 0, none⟩ 1 1 [.string x, .int .i64 (j : Int)] (by first | rfl | simp [Act.eval, Act.put]) rfl e7' f4 f1 f2 hlA ?_
          intro v1 W2 own1 grow1 nil1
          obtain ⟨Av, cv, rfl, -⟩ := rowR_owns own1
          have hne : ∀ r, v.ownBlock = some r → B ≤ r := fun r e => (hoA.lt r e).1
          have hbo2 : BoxAt W2 β 28 (.int .i64 k) (.slice none 0 0) (.slice A2 k c2) (.int .i64 0) (.slice A4 m c4) v := World.rowIs.of_block hboA (grow1.block β (by omega) (fun e => by have := hne _ e.symm; omega))
          have hB2 := hBA.grown grow1 (by omega) (fun r e => by have := hne r e; omega)
          have hk2 := kp_grown hkA grow1 hlA hne
          have hcx : W2.cell? ⟨b1, o1 + j, none⟩ = some (.string x) := by
            rw [World.cell?_of_block (w := W1) (grow1.block b1 (by omega) (fun e => by have := hne _ e.symm; omega))]
            exact (HS.out _ hbA).2
          refine hK.out _ _ ?_ (fun hHeld => ?_)
          · ((try dsimp only); exact ⟨hbo2.get.2.2.2.2.2, hcx⟩)
          have hl2 := Nat.le_trans hlA grow1.size
          clear hK K2 grow1 nil1 hcx hboA hBA hoA e7' hkA
          try simp only [Act.put, List.setIfInBounds_toArray, List.set_cons_zero, List.set_cons_succ]
          have g5 := World.rowIs.frozen hbo2 5
          have hx5 := hbo2.get.2.2.2.2.2
          have HO2 := Lib.hid own1
          have HBo2 := Lib.hid hbo2
          have HB2q := Lib.hid hB2
          have HK2 := Lib.hid hk2
          clear own1 hbo2 hB2 hk2
          refine rh.go_take (i := 10) (v := ?v9) rfl (by kernel_rfl) (fun _ _ _ h => h) (Or.inl ⟨by rfl, ?hy9⟩) (by assumption) ?rest9
          case hy9 => (intro wS hSw; (try dsimp only at hSw); go_simp; try (with_reducible rfl))
          try simp only [Act.put, List.setIfInBounds_toArray, List.set_cons_zero, List.set_cons_succ]
          refine rh.go_last rfl (by kernel_rfl) (fun K2 hK => ?_)
          go_simp
          refine hK.out _ _ ?_
          refine NoPanic.normal ?_
          clear hK K2
          go_wp2_with fail
          go_roundw
          case rel => exact ⟨j + 1, _, by omega, by go_num, by rw [HTk.out]; exact owns_set HO2.out (by omega), HBo2.out.put5 _, HB2q.out.setCell (p := ⟨β, 5, none⟩) (Nat.le_refl _) _, kp_set HK2.out _ _, by simp [World.setCell]; omega⟩
          case measure => simp [intOf]; omega
        · obtain rfl : j = m := by omega
          rw [List.take_of_length_le (by rw [HT0.out]; exact Nat.le_refl _)] at hown
          obtain ⟨A', c', rfl, hrow⟩ := wrs_owned hown
          have hBw := HB2.out.trans (hB.mono (by omega))
          have hr2 := (HR2.out.stay (w' := wq) (fun g f q _ _ hg1 hg2 => hkp.1 g hg2 (by omega))).wide (lo' := w.heap.size) (hi' := wq.heap.size) (by omega) hszq
          have hr4 := rowR_here ((HR4.out.wide (lo' := w.heap.size) (Nat.le_succ _) (Nat.le_refl _)).on (by have := hB; rw [← Hβ.out] at this; exact this))
          have hr4 := strs_row HL.out hr4
          have HBig := Lib.hid (flat_big (R := k) (E := 0) (zs := downs k) (by rw [downs_len]; exact hr2) hr4 (hrow.wide (lo' := w.heap.size) (by omega) (Nat.le_refl _)))
          have HBx := Lib.hid (HBx2.out.on (by have := hB; rw [← Hβ.out] at this; exact this))
          have HB := Lib.hid hBw
          rw [HT0.out, downs_len, HL.out] at HBig
          rw [HT0.out] at hbo
          have HBid : Hid (idB k ss = ⟨k, [], downs k, 0, ss, tied ss (nums j)⟩) := Lib.hid (by unfold idB; rw [HL.out])
          obtain ⟨x0, x1, x2, x3, x4, x5⟩ := hbo.get
          clear hown hrow hbo hB hBw hr2 hr4 hkp
          obtain ⟨z0, z1, z2, z3, z4, z5⟩ := HBx.out.get
          have f0 := World.rowIs.frozen HBx.out 0
          have f1 := World.rowIs.frozen HBx.out 1
          have f2 := World.rowIs.frozen HBx.out 2
          have f3 := World.rowIs.frozen HBx.out 3
          have f4 := World.rowIs.frozen HBx.out 4
          have f5 := World.rowIs.frozen HBx.out 5
          go_wp2_with fail
          have hbig := (sets6_big HBx.out HBig.out (.int .i64 k) (.slice none 0 0) (.slice A2 k c2) (.int .i64 0) (.slice A4 j c4) (.slice A' j c')).here
          have hbel := sets6_below HB.out (Nat.le_refl w.heap.size) (.int .i64 k) (.slice none 0 0) (.slice A2 k c2) (.int .i64 0) (.slice A4 j c4) (.slice A' j c')
          unfold sets6 at hbig hbel
          refine bodyPost_ret (v := .agg #[.int .i64 k, .slice none 0 0, .slice A2 k c2, .int .i64 0, .slice A4 j c4, .slice A' j c']) (by simp [results, Try.results43, go_sem, z0, z1, z2, z3, z4, z5]) rfl ⟨_, rfl, by rw [HBid.out]; exact hbig, hbel⟩
end Go.Proofs.Ytmcdbhlpmlcjpaa.idn
