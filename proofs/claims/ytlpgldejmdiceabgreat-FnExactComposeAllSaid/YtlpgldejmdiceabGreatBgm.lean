/- The laws' marks in a row of Bigraphs. -/
import Derived.Test.YtlpgldejmdiceabGreatBgs
namespace Go.Proofs.YtlpgldejmdiceabGreat.bgm
open kit bg opn strs only hb sg sig isig un hc hi ht hn hw marks bgs
open Go.RowKit
set_option linter.unusedVariables false

theorem only_row {lo hi g : Nat} {w w' : World} {t : TypeId} {m : Nat} {f : Nat → Value} (h : w.rowIs g t m f) (ho : Only lo hi w w') (hg : g < lo) : w'.rowIs g t m f := h.of_block (ho.block g h.lt (.inl hg))

set_option maxRecDepth 20000 in
set_option maxHeartbeats 6400000 in
theorem markBS_any2 (g H n : Nat) (bs : List Big) (k : Int) (w : World) {f : Nat → Value} {L : Nat → Nat} (hrow : w.rowIs g 31 (n * 6) f) (hL : ∀ j, j ≤ n → g < L j ∧ L j ≤ H) (hH : H ≤ w.heap.size) (hf : ∀ (j : Nat) b, j < n → bs[j]? = some b → BigOwn w (L j) (L (j + 1)) (aggAt f j) b) (hl : bs.length = n) (h0 : 0 < k) (h1 : k + 2 * bgsWt bs ≤ 3200000) (hw1 : bgsWt bs ≤ 1048576) :
    Calls Tryz.prog 14 #[.slice (some ⟨g, 0, none⟩) n n, .int .i64 k] w fun e w' => ∃ r : Int, e = .returned (.int .i64 r) ∧ 0 < r ∧ r ≤ k + 2 * bgsWt bs ∧ Only g H w w' := by
  have hg := hrow.lt
  have HL := Lib.hid hL
  have HF := Lib.hid hf
  have HLen := Lib.hid hl
  have hwt : n + sumBy bigWt bs ≤ 1048576 := by unfold bgsWt at hw1; rw [hl] at hw1; exact hw1
  have HSum : Hid (bgsWt bs = n + sumBy bigWt bs) := Lib.hid (by unfold bgsWt; rw [hl])
  have HWt := Lib.hid hwt
  have hn : n ≤ 1048576 := by omega
  have H1 := Lib.hid h1
  clear hL hf hl hwt hw1
  go_enter Tryz.func14, Tryz.ntmps14
  go_wp2_with fail
  go_loopw [1, 5] (fun q i wr => ∃ (j : Nat) (z : Int), j ≤ n ∧ i = .int .i64 j ∧ q = .int .i64 z ∧ 0 < z ∧ z ≤ k + 2 * j + 2 * sumBy bigWt (bs.take j) ∧ Only g H w wr ∧ (∃ f', wr.rowIs g 31 (n * 6) f' ∧ ∀ j', j' < n → f' (j' * 6 + 1) = f (j' * 6 + 1) ∧ f' (j' * 6 + 2) = f (j' * 6 + 2) ∧ f' (j' * 6 + 4) = f (j' * 6 + 4) ∧ f' (j' * 6 + 5) = f (j' * 6 + 5)) ∧ (∀ i, L j ≤ i → i < w.heap.size → wr.heap[i]? = w.heap[i]?)) (fun _ i _ => n - (intOf i).toNat)
  case atStart => exact ⟨0, k, Nat.zero_le _, rfl, rfl, h0, by simp [sumBy], Only.refl _ _ _, ⟨f, hrow, fun _ _ => ⟨rfl, rfl, rfl, rfl⟩⟩, fun _ _ _ => rfl⟩
  case round =>
    obtain ⟨j, z, hj, rfl, rfl, hz0, hz1, hon, ⟨f', hrow', hhd⟩, hkeep⟩ := hrel
    by_cases hlt : j < n
    · have hx : bs[j]? = some (bs[j]'(by rw [HLen.out]; exact hlt)) := List.getElem?_eq_getElem _
      obtain ⟨x, hxe⟩ : ∃ x, bs[j]'(by rw [HLen.out]; exact hlt) = x := ⟨_, rfl⟩
      rw [hxe] at hx
      have hown := HF.out j x hlt hx
      obtain ⟨hL1, hL2⟩ := HL.out j (by omega)
      obtain ⟨hL3, hL4⟩ := HL.out (j + 1) (by omega)
      have hown2 : BigOwn wr (L j) (L (j + 1)) (aggAt f j) x := hown.blocks (fun i h1 h2 => hkeep i h1 (by omega))
      have HS := Lib.hid (sumBy_snoc bigWt hx)
      have hT2 := sumBy_take bigWt bs (j + 1)
      obtain ⟨g1, g2, g4, g5, ev, o1, ⟨r2, l2, k2⟩, ⟨r4, l4, k4⟩, o5⟩ := hown2
      unfold aggAt at ev
      simp only [Value.agg.injEq, Array.mk.injEq, List.cons.injEq, and_true] at ev
      obtain ⟨-, ev1, ev2, -, ev4, ev5⟩ := ev
      obtain ⟨-, g5', f5, e5, l5, k5, r5, -⟩ := o5
      injection e5 with e5
      injection e5 with e5 _
      subst e5
      obtain ⟨hd1, hd2, hd4, hd5⟩ := hhd j hlt
      rw [ev1] at hd1
      rw [ev2] at hd2
      rw [ev4] at hd4
      rw [ev5] at hd5
      obtain ⟨T, hT⟩ : ∃ T, sumBy bigWt (bs.take j) = T := ⟨_, rfl⟩
      have HTe := Lib.hid hT
      rw [hT] at hz1
      rw [HS.out, hT] at hT2
      have hxw : bigWt x ≤ 1048576 := by have := sumBy_mem bigWt (List.mem_of_getElem? hx); have := HWt.out; omega
      obtain ⟨n1, n2, n3⟩ := nodes_wt hxw
      have hS := bigS_of hxw
      obtain ⟨-, -, s2, s4, -, s5, -⟩ := hS
      have hw5 : 2 * x.nodes.length + sumBy (fun c : Nd => c.links.length) x.nodes + x.sites.length + x.outer.length + 2 * x.inner.length ≤ 2 * bigWt x := by
        unfold bigWt ndsWt wrsWt
        omega
      have hzb : z + 2 + 2 * bigWt x ≤ 3200000 := by
        have e1 := HSum.out
        have e2 := H1.out
        rw [e1] at e2
        push_cast at e2
        omega
      have HZb := Lib.hid hzb
      have HW5 := Lib.hid hw5
      have HO1 := Lib.hid o1
      have HR2 := Lib.hid r2
      have HR4 := Lib.hid r4
      have HR5 := Lib.hid r5
      have HHd := Lib.hid hhd
      have HOn := Lib.hid hon
      have HKp := Lib.hid hkeep
      have z0 := hrow'.cell (show j * 6 < n * 6 by omega)
      have z1 := (hrow'.cell (show j * 6 + 1 < n * 6 by omega)).trans (congrArg some hd1)
      have f0 := hrow'.frozen (j * 6)
      have hsr := hon.size
      -- the element's own blocks; row g lies below them
      have hA1 : Only g (g + 1) wr (wr.setCell ⟨g, j * 6, none⟩ (.int .i64 z)) := Only.set wr (Nat.le_refl _) (Nat.lt_succ_self _) _ _
      have rA : (wr.setCell ⟨g, j * 6, none⟩ (.int .i64 z)).rowIs g 31 (n * 6) (fun i => if i = j * 6 then .int .i64 z else f' i) := hrow'.set (j * 6) _
      have cA1 : (wr.setCell ⟨g, j * 6, none⟩ (.int .i64 z)).cell? ⟨g, j * 6 + 1, none⟩ = some (.slice (some ⟨g1, 0, none⟩) x.nodes.length x.nodes.length) := by
        rw [rA.cell (show j * 6 + 1 < n * 6 by omega), if_neg (by omega), hd1]
      have HoA := Lib.hid (NdsOwn_blocks HO1.out (fun i h1 h2 => hA1.block i (by omega) (by omega)))
      have hszA : (wr.setCell ⟨g, j * 6, none⟩ (.int .i64 z)).heap.size = wr.heap.size := by simp [World.setCell]
      have HrA := Lib.hid rA
      have HA1 := Lib.hid hA1
      have HX := Lib.hid hx
      clear o1 r2 r4 r5 hw5 hzb hhd hon hkeep hrow' hx hown hxe hA1 rA hT
      have hz64 : wrap64 (z + 1) = z + 1 := by unfold wrap64; have := HZb.out; omega
      ((try dsimp only); repeat (first | go_values | go_skip | go_guarded | go_step | go_upon))
      rw [hz64]
      refine (markNS_any (some ⟨g1, 0, none⟩) x.nodes.length x.nodes.length x.nodes (z + 1) _ (L j) (L (j + 1)) HoA.out (by omega) (by omega) (by have := HZb.out; omega) n1).mono ?_
      rintro e w1 ⟨q, rfl, hq, ho1⟩
      have hon1 := (HA1.out.wide (Nat.le_refl _) (by omega)).trans (ho1.wide (Nat.le_of_lt hL1) hL4)
      have rB := only_row HrA.out ho1 hL1
      have cB2 : w1.cell? ⟨g, j * 6 + 2, none⟩ = some (.slice (some ⟨g2, 0, none⟩) x.sites.length x.sites.length) := by
        rw [rB.cell (show j * 6 + 2 < n * 6 by omega), if_neg (by omega), hd2]
      obtain ⟨f2, hr2⟩ := hon1.rows _ _ _ ⟨_, HR2.out⟩
      have HR2' := Lib.hid hr2
      have HQ := Lib.hid hq
      have q1 : 0 < q := by omega
      have q2 : q ≤ 3200000 := by have := HZb.out; have := HW5.out; omega
      have HrB := Lib.hid rB
      have Ho1 := Lib.hid ho1
      have Hon1 := Lib.hid hon1
      clear hq hr2 ho1 hon1 rB z0 z1 f0 cA1
      ((try dsimp only); repeat (first | go_values | go_skip | go_guarded | go_step | go_upon))
      refine (markI_any g2 x.sites.length x.sites.length f2 q _ HR2'.out (Nat.le_refl _) q1 (by omega) (by omega)).mono ?_
      rintro e w2 ⟨rfl, hrm, hgm⟩
      have ho2 := Only.of_grown hgm HR2'.out hrm l2 k2
      have rC := only_row HrB.out ho2 hL1
      have z3 := rC.cell (show j * 6 + 3 < n * 6 by omega)
      have f3 := rC.frozen (j * 6 + 3)
      have rE : (w2.setCell ⟨g, j * 6 + 3, none⟩ (.int .i64 (q + x.sites.length))).rowIs g 31 (n * 6) (fun i => if i = j * 6 + 3 then .int .i64 (q + x.sites.length) else if i = j * 6 then .int .i64 z else f' i) := rC.set (j * 6 + 3) _
      have hE1 : Only g (g + 1) w2 (w2.setCell ⟨g, j * 6 + 3, none⟩ (.int .i64 (q + x.sites.length))) := Only.set w2 (Nat.le_refl _) (Nat.lt_succ_self _) _ _
      have hon3 := (Hon1.out.trans (ho2.wide (Nat.le_of_lt hL1) hL4)).trans (hE1.wide (Nat.le_refl _) (by omega))
      have cE4 : (w2.setCell ⟨g, j * 6 + 3, none⟩ (.int .i64 (q + x.sites.length))).cell? ⟨g, j * 6 + 4, none⟩ = some (.slice (some ⟨g4, 0, none⟩) x.outer.length x.outer.length) := by
        rw [rE.cell (show j * 6 + 4 < n * 6 by omega), if_neg (by omega), if_neg (by omega), hd4]
      obtain ⟨f4, hr4⟩ := hon3.rows _ _ _ ⟨_, HR4.out⟩
      have HR4' := Lib.hid hr4
      have HrE := Lib.hid rE
      have Ho2 := Lib.hid ho2
      have HE1 := Lib.hid hE1
      have Hon3 := Lib.hid hon3
      clear hrm hgm hr4 ho2 rC rE hE1 hon3 cB2
      ((try dsimp only); repeat (first | go_values | go_skip | go_guarded | go_step | go_upon))
      refine (markS_any g4 x.outer.length x.outer.length f4 (q + x.sites.length + 1) _ HR4'.out (Nat.le_refl _) (by omega) (by omega) (by omega)).mono ?_
      rintro e w4 ⟨rfl, hrm, hgm⟩
      have ho4 := Only.of_grown hgm HR4'.out hrm l4 k4
      have rF := only_row HrE.out ho4 hL1
      have cF5 : w4.cell? ⟨g, j * 6 + 5, none⟩ = some (.slice (some ⟨g5, 0, none⟩) x.inner.length x.inner.length) := by
        rw [rF.cell (show j * 6 + 5 < n * 6 by omega), if_neg (by omega), if_neg (by omega), hd5]
      have hon4 := Hon3.out.trans (ho4.wide (Nat.le_of_lt hL1) hL4)
      obtain ⟨f5', hr5⟩ := hon4.rows _ _ _ ⟨_, HR5.out⟩
      have HR5' := Lib.hid hr5
      have HrF := Lib.hid rF
      have Ho4 := Lib.hid ho4
      have Hon4 := Lib.hid hon4
      clear hrm hgm hr5 ho4 rF hon4 cE4 z3 f3
      ((try dsimp only); repeat (first | go_values | go_skip | go_guarded | go_step | go_upon))
      refine (markWS_any g5 x.inner.length x.inner.length f5' (q + x.sites.length + 1 + x.outer.length) _ (L j) (L (j + 1)) HR5'.out l5 k5 (by omega) (by omega) s5).mono ?_
      rintro e w5 ⟨rfl, ho5⟩
      have rG := only_row HrF.out ho5 hL1
      have hon5 := Hon4.out.trans (ho5.wide (Nat.le_of_lt hL1) hL4)
      have HrG := Lib.hid rG
      have Hon5 := Lib.hid hon5
      have Ho5 := Lib.hid ho5
      clear rG hon5 ho5 cF5
      ((try dsimp only); repeat (first | go_values | go_skip | go_guarded | go_step | go_upon))
      go_roundw
      case rel =>
        refine ⟨j + 1, q + x.sites.length + 1 + x.outer.length + 2 * x.inner.length, by omega, by go_num, by go_num, by omega, ?_, HOn.out.trans Hon5.out, ⟨_, HrG.out, fun j' hj' => ?_⟩, fun i h1 h2 => ?_⟩
        · rw [HS.out, HTe.out]
          have := HQ.out
          have := HW5.out
          push_cast
          omega
        · obtain ⟨e1, e2, e4, e5⟩ := HHd.out j' hj'
          refine ⟨?_, ?_, ?_, ?_⟩
          · show (if _ then _ else if _ then _ else _) = _
            rw [if_neg (by omega), if_neg (by omega)]; exact e1
          · show (if _ then _ else if _ then _ else _) = _
            rw [if_neg (by omega), if_neg (by omega)]; exact e2
          · show (if _ then _ else if _ then _ else _) = _
            rw [if_neg (by omega), if_neg (by omega)]; exact e4
          · show (if _ then _ else if _ then _ else _) = _
            rw [if_neg (by omega), if_neg (by omega)]; exact e5
        · have s1 := Ho1.out.size
          have s2' := Ho2.out.size
          have s3 := HE1.out.size
          have s4' := Ho4.out.size
          exact (Ho5.out.block i (by omega) (.inr h1)).trans ((Ho4.out.block i (by omega) (.inr h1)).trans ((HE1.out.block i (by omega) (.inr (by omega))).trans ((Ho2.out.block i (by omega) (.inr h1)).trans ((Ho1.out.block i (by omega) (.inr h1)).trans ((HA1.out.block i (by omega) (.inr (by omega))).trans (HKp.out i (by omega) h2))))))
      case measure => simp [intOf]; omega
    · obtain rfl : j = n := by omega
      have hfull : bs.take j = bs := List.take_of_length_le (by rw [HLen.out]; omega)
      rw [hfull] at hz1
      have HZ := Lib.hid hz1
      clear hz1
      go_wp2_with fail
      go_ret
      exact ⟨z, rfl, hz0, by rw [HSum.out]; have := HZ.out; push_cast; omega, hon⟩

theorem markBS_any (g n : Nat) (bs : List Big) (k : Int) (w : World) (h : BgsK w g n n bs) (hl : bs.length = n) (h0 : 0 < k) (h1 : k + 2 * bgsWt bs ≤ 3200000) (hw1 : bgsWt bs ≤ 1048576) :
    Calls Tryz.prog 14 #[.slice (some ⟨g, 0, none⟩) n n, .int .i64 k] w fun e w' => ∃ r : Int, e = .returned (.int .i64 r) ∧ 0 < r ∧ r ≤ k + 2 * bgsWt bs ∧ Only g w.heap.size w w' := by
  obtain ⟨f, L, hrow, hL, hf⟩ := h
  exact markBS_any2 g w.heap.size n bs k w hrow hL (Nat.le_refl _) hf hl h0 h1 hw1
end Go.Proofs.YtlpgldejmdiceabGreat.bgm
