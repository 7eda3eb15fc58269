/- impl.sideBySide: its first closure, slices.Concat of two rows, and its parts. -/
import Derived.Test.YtfjgapkjpmkplaaGreatSd
import Derived.Test.YtfjgapkjpmkplaaGreatUx
import Derived.Test.YtfjgapkjpmkplaaGreatQd
namespace Go.Proofs.YtfjgapkjpmkplaaGreat.sh
open kit bg sg opn strs only hb sig isig un over gn nm inn ht gd im pt marks eqs hc hi hw hn rs br bm bw cf lf ib isa lawb lw cl rt ix tg rl ed tp rtg uw ux nj cg cc rk nk wk ek tm gv lep mrp mri mrs pl ft co sd sf mb sb wb
open Go.RowKit
set_option linter.unusedVariables false
set_option linter.unusedSimpArgs false
set_option maxRecDepth 20000 in
set_option maxHeartbeats 1600000 in
theorem sb1_any (R r : Int) (a1 a2 a3 a4 a5 : Value) (β : Nat) (w : World) (hx : BoxAt w β 36 (.int .i64 R) a1 a2 a3 a4 a5) (hR : 0 ≤ R ∧ R ≤ 4) (hr : 0 ≤ r ∧ r ≤ 4) :
    Calls Tryz.prog 190 #[.int .i64 r, .pointer (some ⟨β, 0, none⟩)] w fun e w' => e = .returned (.int .i64 (-1 - (R + r))) ∧ Below w.heap.size w w' := by
  obtain ⟨hR0, hR1⟩ := hR
  obtain ⟨hr0, hr1⟩ := hr
  have HC := Lib.hid (por_any (R + r) w (by omega))
  have hw1 : wrap64 (R + r) = R + r := by unfold wrap64; omega
  have hb := Below.refl w.heap.size w
  obtain ⟨x0, x1, x2, x3, x4, x5⟩ := hx.get
  go_enter Tryz.func190, Tryz.ntmps190
  go_wp2_with fail
  refine HC.out.mono ?_
  rintro e w1 ⟨rfl, rfl⟩
  go_wp2_with fail
  go_ret
  exact ⟨rfl, hb⟩
theorem wcells_app (xs ys : List Wr) : wcells (xs ++ ys) = wcells xs ++ wcells ys := by
  refine List.ext_getElem? (fun t => ?_)
  by_cases h : t < xs.length * 2
  · rw [List.getElem?_append_left (by rw [wcells_len]; exact h)]
    unfold wcells
    rw [cells_get h, cells_get (by rw [List.length_append]; omega)]
    unfold wic
    rw [List.getElem?_append_left (by omega)]
  · obtain ⟨k, rfl⟩ : ∃ k, t = xs.length * 2 + k := ⟨t - xs.length * 2, by omega⟩
    rw [List.getElem?_append_right (by rw [wcells_len]; omega), wcells_len, Nat.add_sub_cancel_left]
    by_cases h2 : k < ys.length * 2
    · unfold wcells
      rw [cells_get h2, cells_get (by rw [List.length_append]; omega)]
      unfold wic
      rw [show (xs.length * 2 + k) / 2 = xs.length + k / 2 by omega, show (xs.length * 2 + k) % 2 = k % 2 by omega, List.getElem?_append_right (by omega), Nat.add_sub_cancel_left]
    · rw [List.getElem?_eq_none (by rw [wcells_len, List.length_append]; omega), List.getElem?_eq_none (by rw [wcells_len]; omega)]
/-- slices.Concat of two rows of Wires -/
theorem concatW_two {w : World} {Av A B : Option Addr} {cv c d lo hi lo2 hi2 : Nat} {xs ys : List Wr} (hV : SR w w.heap.size Av 2 [.slice A xs.length c, .slice B ys.length d]) (ha : RowR w lo hi 139 2 A xs.length c (wic xs)) (hb : RowR w lo2 hi2 139 2 B ys.length d (wic ys)) (hn : xs.length ≤ 1000) (hm : ys.length ≤ 1000) :
    Calls Tryz.prog 239 #[.slice Av 2 cv] w fun e w' => ∃ A' c', e = .returned (.slice A' (xs.length + ys.length) c') ∧ w'.ownsRow w.heap.size 139 2 (.slice A' (xs.length + ys.length) c') (xs.length + ys.length) (wcells (xs ++ ys)) ∧ Below w.heap.size w w' := by
  have h := concatW_any Av 2 cv (xs.length + ys.length) [.slice A xs.length c, .slice B ys.length d] [wcells xs, wcells ys] w hV
    (partsK_two (row_sr ha) (nil0 ha) (one_cells (one_wic xs)) (row_sr hb) (nil0 hb) (one_cells (one_wic ys))) rfl (by simp [wcells_len]; omega) (by omega) (by omega)
  refine h.mono ?_
  rintro e w' ⟨v, rfl, hown, hbel⟩
  obtain ⟨A', c', rfl, -⟩ := rowR_owns hown
  refine ⟨A', c', rfl, ?_, hbel⟩
  rw [wcells_app]
  have h2 : ([wcells xs, wcells ys] : List (List Value)).flatten = wcells xs ++ wcells ys := by simp
  rw [h2] at hown
  exact hown
theorem icells_eq (xs : List Int) : cellsOf (xs.length * 1) (iat xs) = xs.map (Value.int .i64) := by
  refine List.ext_getElem? (fun t => ?_)
  rw [Nat.mul_one, List.getElem?_map]
  by_cases h : t < xs.length
  · rw [cells_get h, List.getElem?_eq_getElem h]
    rw [iat_of (List.getElem?_eq_getElem h)]
    rfl
  · rw [List.getElem?_eq_none (by rw [cells_len]; omega), List.getElem?_eq_none (by omega)]
    rfl
/-- slices.Concat of two rows of ints -/
theorem concatI_two {w : World} {Av A B : Option Addr} {cv c d lo hi lo2 hi2 : Nat} {xs ys : List Int} (hV : SR w w.heap.size Av 2 [.slice A xs.length c, .slice B ys.length d]) (ha : RowR w lo hi 3 1 A xs.length c (iat xs)) (hb : RowR w lo2 hi2 3 1 B ys.length d (iat ys)) (hn : xs.length ≤ 1000) (hm : ys.length ≤ 1000) :
    Calls Tryz.prog 191 #[.slice Av 2 cv] w fun e w' => ∃ A' c', e = .returned (.slice A' (xs.length + ys.length) c') ∧ RowR w' w.heap.size w'.heap.size 3 1 A' (xs.length + ys.length) c' (iat (xs ++ ys)) ∧ Below w.heap.size w w' := by
  have h := concatI_any Av 2 cv (xs.length + ys.length) [.slice A xs.length c, .slice B ys.length d] [cellsOf (xs.length * 1) (iat xs), cellsOf (ys.length * 1) (iat ys)] w hV
    (partsK_two (row_sr ha) (nil0 ha) (one_cells (fun x _ => one_iat xs x)) (row_sr hb) (nil0 hb) (one_cells (fun x _ => one_iat ys x))) rfl (by simp [cells_len]) (by omega) (by omega)
  refine h.mono ?_
  rintro e w' ⟨v, rfl, hown, hbel⟩
  have h2 : ([cellsOf (xs.length * 1) (iat xs), cellsOf (ys.length * 1) (iat ys)] : List (List Value)).flatten = (xs ++ ys).map (Value.int .i64) := by
    rw [icells_eq, icells_eq, List.map_append]
    simp
  rw [h2] at hown
  obtain ⟨A', c', e2, hr⟩ := ints_owned hown
  rw [List.length_append] at e2 hr
  exact ⟨A', c', by rw [e2], hr, hbel⟩
theorem pl_congr {f g : Int → Int} {b : Big} (h1 : ∀ x ∈ b.nodes, f x.parent = g x.parent) (h2 : ∀ z ∈ b.sites, f z = g z) : plB f b = plB g b := by
  unfold plB
  rw [List.map_congr_left (fun x hx => by rw [h1 x hx]), List.map_congr_left h2]
theorem pc_side {a b : Big} {p : Int} (hR : 0 ≤ b.roots) (hp : -b.roots ≤ p) : toF (fun r => -1 - (a.roots + r)) a.nodes.length p = pcS a b p := by
  unfold toF pcS pcF
  by_cases h : p < 0
  · rw [if_pos h, if_pos h, List.getD_eq_getElem?_getD, rts_get (show (-1 - p).toNat < b.roots.toNat by omega)]
    show -1 - (a.roots + (-1 - p)) = -1 - a.roots - ((-1 - p).toNat : Int)
    omega
  · rw [if_neg h, if_neg h, Int.add_comm]
theorem sd_parts {cs : List Ctl} {a b : Big} (ws : List Wr) (ha : bigB cs a = true) (hb : bigB cs b = true) :
    (⟨a.roots + b.roots, (reB a (fun t => t) (a.edges + b.edges) (sdO a b)).nodes ++ (plB (toF (fun r => -1 - (a.roots + r)) a.nodes.length) (reB b (behF a.edges) (a.edges + b.edges) (sdO a b))).nodes, (reB a (fun t => t) (a.edges + b.edges) (sdO a b)).sites ++ (plB (toF (fun r => -1 - (a.roots + r)) a.nodes.length) (reB b (behF a.edges) (a.edges + b.edges) (sdO a b))).sites, a.edges + b.edges, sdO a b, ws⟩ : Big) = sdB a b ws := by
  have hyb := sizes_of (big_of hb).2.1
  have hpl := par_le hb
  have e : plB (toF (fun r => -1 - (a.roots + r)) a.nodes.length) (reB b (behF a.edges) (a.edges + b.edges) (sdO a b)) = plB (pcS a b) (reB b (behF a.edges) (a.edges + b.edges) (sdO a b)) := by
    refine pl_congr (fun x hx => ?_) (fun z hz => ?_)
    · obtain ⟨y, hy, rfl⟩ := List.mem_map.1 (show x ∈ b.nodes.map _ from hx)
      exact pc_side (by omega) (hpl.1 y hy).1
    · exact pc_side (by omega) (hpl.2 z hz).1
  rw [e]
  unfold reB
  rw [above_eq ha, beh_eq hb]
  rfl
theorem sd_inner {cs : List Ctl} {a b : Big} (ha : bigB cs a = true) (hb : bigB cs b = true) (F : Int → Int) : (reB a (fun t => t) (a.edges + b.edges) (sdO a b)).inner = wnA a b ∧ (plB F (reB b (behF a.edges) (a.edges + b.edges) (sdO a b))).inner = wnB a b := by
  unfold reB
  rw [above_eq ha, beh_eq hb]
  exact ⟨rfl, rfl⟩
theorem rs_tame {cs : List Ctl} {a b : Big} (ha : bigB cs a = true) (hb : bigB cs b = true) (hSa : BigS a) (hSb : BigS b) : Tame (reB b (behF a.edges) (a.edges + b.edges) (sdO a b)) := by
  have hya := sizes_of (big_of ha).2.1
  have hyb := sizes_of (big_of hb).2.1
  have ta := tame_good ha hSa
  have tb := tame_good hb hSb
  have hol := sdO_len a b
  refine tame_rk hb hSb (fun l hl => ?_) (by omega) (by omega) (fun u hu => ?_)
  · rw [reL_beh (by omega) (big_of hb).2.2.1 hl]
    have := lkL_in (z := a.edges) (E := a.edges + b.edges) (ou := sdO a b) hb ⟨by omega, by omega⟩ ⟨by omega, by omega⟩ (by omega) hl
    omega
  · rcases sdO_mem hu with h | h
    · exact ta.on u h
    · exact tb.on u h
end Go.Proofs.YtfjgapkjpmkplaaGreat.sh
