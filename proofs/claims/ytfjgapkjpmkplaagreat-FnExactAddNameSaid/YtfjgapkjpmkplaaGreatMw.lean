/- impl.mergedWires. -/
import Derived.Test.YtfjgapkjpmkplaaGreatSh
import Derived.Test.YtfjgapkjpmkplaaGreatSf
namespace Go.Proofs.YtfjgapkjpmkplaaGreat.mw
open kit bg sg opn strs only hb sig isig un over gn nm inn ht gd im pt marks eqs hc hi hw hn rs br bm bw cf lf ib isa lawb lw cl rt ix tg rl ed tp rtg uw ux nj cg cc rk nk wk ek tm gv lep mrp mri mrs pl ft co sd sf sh mb sb wb
open Go.RowKit
set_option linter.unusedVariables false
set_option linter.unusedSimpArgs false
set_option maxHeartbeats 3200000 in
theorem mw_any {w : World} {A B : Option Addr} {c d lo hi lo2 hi2 : Nat} {xs ys : List Wr} (ha : RowR w lo hi 139 2 A xs.length c (wic xs)) (hb : RowR w lo2 hi2 139 2 B ys.length d (wic ys)) (hx : xs.length ≤ 100) (hy : ys.length ≤ 100) :
    Calls Tryz.prog 192 #[.slice A xs.length c, .slice B ys.length d] w fun e w' => ∃ A' c' ws, e = .returned (.slice A' (xs.length + ys.length) c') ∧ ws.Perm (xs ++ ys) ∧ SortW ws ∧ ws.length = xs.length + ys.length ∧ RowR w' w.heap.size w'.heap.size 139 2 A' (xs.length + ys.length) c' (wic ws) ∧ Below w.heap.size w w' := by
  have hsv := sr_vals2 w [Value.slice A xs.length c, Value.slice B ys.length d] 34
  have hb9a := (Below.refl w.heap.size w).alloc (Nat.le_refl _) (.cells #[Value.slice A xs.length c, Value.slice B ys.length d] 34)
  have C9 := concatW_two (cv := 2) hsv (ha.on hb9a) (hb.on hb9a) (by omega) (by omega)
  have hlo9 := hb9a.size
  have hn9 : xs.length + ys.length ≤ 1000 := by omega
  go_enter Tryz.func192, Tryz.ntmps192
  go_wp2_with fail
  refine C9.mono ?_
  rintro e w9 ⟨A9, c9, rfl, ho9, hb9⟩
  have hb89 := hb9a.trans (hb9.mono hb9a.size)
  have C10 := srt_any A9 (xs.length + ys.length) c9 _ (xs ++ ys) w9 ho9 hn9
  have HO9 := Lib.hid ho9
  clear hsv C9 hb9 ho9
  go_wp2_with fail
  refine C10.mono ?_
  rintro e w10 ⟨rfl, ws, hperm, hsort, ho10, hg10⟩
  have hb8 := hb89.grown hg10 hb89.size (fun j hj => Nat.le_trans hlo9 (HO9.out.lt j hj).1)
  have hwl : ws.length = xs.length + ys.length := by rw [hperm.length_eq, List.length_append]
  obtain ⟨A10, c10, e10, hr10⟩ := rowR_owns ho10
  injection e10 with e10 _ e10'
  subst e10 e10'
  have HRW : Hid (RowR w10 w.heap.size w10.heap.size 139 2 A9 (xs.length + ys.length) c9 (wic ws)) := Lib.hid ((hr10.congr (fun x hx => by
    show ((wcells ws)[x]?).getD undef = wic ws x
    unfold wcells
    rw [cells_get (by rw [hwl]; exact hx)]
    rfl)).wide hlo9 (Nat.le_refl _))
  clear C10 hb89 hlo9 hg10 ho10 hr10 HO9
  go_wp2_with fail
  go_ret
  exact ⟨_, _, ws, rfl, hperm, hsort, hwl, HRW.out, hb8⟩
end Go.Proofs.YtfjgapkjpmkplaaGreat.mw
