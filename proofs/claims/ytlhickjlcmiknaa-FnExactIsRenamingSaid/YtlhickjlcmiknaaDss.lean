/- spec.l3Single: each outer name has one point, and there are no edges. -/
import Derived.Test.YtlhickjlcmiknaaDsc
namespace Go.Proofs.Ytlhickjlcmiknaa.dss
open kit bg opn strs only hb sg sig isig un gd inn ht hi cf pt ptm lf ib rs rt pts psp rfo lop dsc
open Go.RowKit
set_option linter.unusedVariables false

theorem ownsP_slice {w : World} {B : Nat} {v : Value} {ps : List Port} (h : OwnsP w B v ps) : ∃ A c, v = .slice A ps.length c := by
  obtain ⟨⟨-, h2⟩, -⟩ := h
  rcases h2 with ⟨rfl, e⟩ | ⟨g, cap, cur, rfl, _⟩
  · exact ⟨none, 0, by rw [e]⟩
  · exact ⟨_, _, rfl⟩
theorem owns_slice {w : World} {B : Nat} {t : TypeId} {v : Value} {xs : List Value} (h : Owns w B t v xs) : ∃ A c, v = .slice A xs.length c := by
  obtain ⟨⟨-, h2⟩, -⟩ := h
  rcases h2 with ⟨rfl, e⟩ | ⟨g, cap, cur, rfl, _⟩
  · exact ⟨none, 0, by rw [e]⟩
  · exact ⟨_, _, rfl⟩
theorem one_no {b : Big} {k : Nat} (hk : k < b.outer.length) (h : ¬ ptsN b (b.edges + (k : Int)) = 1) : sglB b = false := by
  unfold sglB oneB
  rw [Bool.and_eq_false_iff]
  left
  rw [List.all_eq_false]
  exact ⟨k, List.mem_range.2 hk, by simpa using h⟩
theorem one_yes {b : Big} (h : ∀ j : Nat, j < b.outer.length → ptsN b (b.edges + (j : Int)) = 1) : oneB b = true := by
  unfold oneB
  rw [List.all_eq_true]
  intro j hj
  simpa using h j (List.mem_range.1 hj)

set_option maxRecDepth 20000 in
set_option maxHeartbeats 6400000 in
theorem ssg_any (cs : List Ctl) (v : Value) (b : Big) (w : World) (hv : BigAt w w.heap.size v b) (hq : bigB cs b = true) :
    Calls Try.prog 68 #[v] w (Post (sglB b) w) := by
  obtain ⟨A1, n1, c1, A2, n2, c2, A4, n4, c4, A5, n5, c5, rfl, h1, h2, h4, h5⟩ := hv
  have h8 := big8 hq
  have hL3 := links3 hq
  have l1 := h1.1
  have l4 := h4.strlen
  have l5 := h5.1
  rw [l1, l4, l5] at h8
  obtain ⟨h81, ⟨h82, h83⟩, h84, h85⟩ := h8
  have HBox : Hid (BoxAt (w.alloc (.cells #[.int .i64 b.roots, .slice A1 n1 c1, .slice A2 n2 c2, .int .i64 b.edges, .slice A4 n4 c4, .slice A5 n5 c5] 38)) w.heap.size 38 (.int .i64 b.roots) (.slice A1 n1 c1) (.slice A2 n2 c2) (.int .i64 b.edges) (.slice A4 n4 c4) (.slice A5 n5 c5)) := Lib.hid (six_new w _ _ _ _ _ _ _)
  have HB0 := Lib.hid ((Below.refl w.heap.size w).alloc (Nat.le_refl _) (.cells #[.int .i64 b.roots, .slice A1 n1 c1, .slice A2 n2 c2, .int .i64 b.edges, .slice A4 n4 c4, .slice A5 n5 c5] 38))
  obtain ⟨W, hW⟩ : ∃ W, w.alloc (.cells #[.int .i64 b.roots, .slice A1 n1 c1, .slice A2 n2 c2, .int .i64 b.edges, .slice A4 n4 c4, .slice A5 n5 c5] 38) = W := ⟨_, rfl⟩
  have hWz : W.heap.size = w.heap.size + 1 := by rw [← hW]; simp
  rw [hW] at HBox HB0
  have HWq := Lib.hid hW
  have hWs : w.heap.size < W.heap.size := by omega
  have HNo := Lib.hid (fun (k : Nat) (hk : k < n4) (h : ¬ ptsN b (b.edges + (k : Int)) = 1) => one_no (l4.symm ▸ hk) h)
  have HYes := Lib.hid (fun (h : ∀ j : Nat, j < n4 → ptsN b (b.edges + (j : Int)) = 1) => (one_yes (fun j hj => h j (l4 ▸ hj)) : oneB b = true))
  have HPt : Hid (∀ z, ptsN b z = (onL z (ports b.nodes)).length + (ends b.inner z n5).length) := Lib.hid (fun z => by unfold ptsN; rw [l5])
  have HPl : Hid (∀ z, (onL z (ports b.nodes)).length ≤ 24 ∧ (ends b.inner z n5).length ≤ 16) := Lib.hid (fun z => by
    have e1 := onL_len z (ports b.nodes)
    have e2 := prtsTo_len hL3 b.nodes.length
    have e3 : b.nodes.length * 3 ≤ 8 * 3 := Nat.mul_le_mul_right _ (by omega)
    have e4 := ends_len b.inner z n5
    unfold ports at e1 ⊢
    exact ⟨by omega, by omega⟩)
  have HLk := Lib.hid (fun x hx => Nat.le_trans (hL3 x hx) (by omega : 3 ≤ 1048576))
  obtain ⟨x0, x1, x2, x3, x4, x5⟩ := HBox.out.get
  have HSg : Hid (oneB b = true → sglB b = decide (b.edges = 0)) := Lib.hid (fun h => by unfold sglB; rw [h, Bool.true_and])
  clear hW hq hL3 l4 l1 l5
  obtain ⟨E, hE⟩ : ∃ E, b.edges = E := ⟨_, rfl⟩
  rw [hE] at HBox HWq HNo HYes HSg h82 h83 x3 ⊢
  go_enter Try.func68, Try.ntmps68
  go_wp2_with fail
  rw [HWq.out]
  go_wp2_with fail
  clear x0 x1 x2 x3 x4 x5
  go_loopw [3] (fun i wr => ∃ k : Nat, k ≤ n4 ∧ i = .int .i64 (E + (k : Int)) ∧ (∀ j : Nat, j < k → ptsN b (E + (j : Int)) = 1) ∧ Below W.heap.size W wr) (fun i _ => n4 - (intOf i - E).toNat)
  case atStart => exact ⟨0, Nat.zero_le _, by simp, fun j hj => absurd hj (Nat.not_lt_zero j), Below.refl _ _⟩
  case round =>
    obtain ⟨k, hk, rfl, hok, hbel⟩ := hrel
    have HOk := Lib.hid hok
    have HBx := Lib.hid (HBox.out.below hbel hWs)
    have hbw := HB0.out.trans (hbel.mono HB0.out.size)
    have HBw := Lib.hid hbw
    have HBel := Lib.hid hbel
    have hsr : w.heap.size < wr.heap.size := Nat.lt_of_lt_of_le hWs hbel.size
    obtain ⟨x0, x1, x2, x3, x4, x5⟩ := HBx.out.get
    clear hok
    by_cases hlt : k < n4
    · have hlt2 : E + (k : Int) < E + n4 := by omega
      have hpt := HPt.out (E + (k : Int))
      obtain ⟨hpa, hpc⟩ := HPl.out (E + (k : Int))
      obtain ⟨z, hz⟩ : ∃ z, E + (k : Int) = z := ⟨_, rfl⟩
      rw [hz] at hpt hpa hpc hlt2 ⊢
      have HZ := Lib.hid hz
      obtain ⟨P, hP⟩ : ∃ P, onL z (ports b.nodes) = P := ⟨_, rfl⟩
      obtain ⟨Q, hQ⟩ : ∃ Q, ends b.inner z n5 = Q := ⟨_, rfl⟩
      rw [hP, hQ] at hpt
      rw [hP] at hpa
      rw [hQ] at hpc
      have HP := Lib.hid hP
      have HQ := Lib.hid hQ
      obtain ⟨pa, hpa2⟩ : ∃ pa, P.length = pa := ⟨_, rfl⟩
      obtain ⟨pc, hpc2⟩ : ∃ pc, Q.length = pc := ⟨_, rfl⟩
      rw [hpa2, hpc2] at hpt
      rw [hpa2] at hpa
      rw [hpc2] at hpc
      have HPa := Lib.hid hpa2
      have HPc := Lib.hid hpc2
      have HPT := Lib.hid hpt
      clear hz hP hQ hpa2 hpc2 hpt
      have hD2 : Below wr.heap.size wr wr.drew := (Below.refl _ _).drew
      have hw1 : IntKind.i64.wrap (z + 1) = z + 1 := IntWalk.i64_in _ (by have := HZ.out; omega)
      by_cases hone : (pa : Int) + (pc : Int) = 1
      · have HOne := Lib.hid hone
        go_wp2_with fail
        go_region_held3 (fun w' => w'.cell? ⟨w.heap.size, 0, none⟩ = some (.int .i64 b.roots) ∧ w'.cell? ⟨w.heap.size, 1, none⟩ = some (.slice A1 n1 c1) ∧ w'.cell? ⟨w.heap.size, 2, none⟩ = some (.slice A2 n2 c2) ∧ w'.cell? ⟨w.heap.size, 3, none⟩ = some (.int .i64 E) ∧ w'.cell? ⟨w.heap.size, 4, none⟩ = some (.slice A4 n4 c4) ∧ w'.cell? ⟨w.heap.size, 5, none⟩ = some (.slice A5 n5 c5)) (first | exact (HBx3.out.below hb4 hs3).get | exact HBx3.out.get | exact (HBx.out.below hD2 hsr).get)
          (first
           | (go_at_call 63; refine (ports_any _ _ _ _ _ A1 n1 c1 b.nodes z w _ h1 HBw.out.drew h81 HLk.out).mono ?_; rintro e w3 ⟨v3, rfl, ho3, hb3⟩; have hb23 := hD2.trans (hb3.mono hD2.size); have HBx3 := Lib.hid (HBx.out.below hb23 hsr); have hs3 : w.heap.size < w3.heap.size := Nat.lt_of_lt_of_le hsr hb23.size; have hb03 := HBw.out.trans (hb23.mono HBw.out.size); obtain ⟨A3, c3, rfl⟩ := ownsP_slice ho3; rw [HP.out, HPa.out])
           | (go_at_call 64; refine (ends_any _ _ _ _ _ A5 n5 c5 b.inner z w _ h5 hb03 (by omega)).mono ?_; rintro e w4 ⟨v4, rfl, ho4, hb4⟩; obtain ⟨A6, c6, rfl⟩ := owns_slice ho4; rw [List.length_map, HQ.out, HPc.out]))
        have HB4 := Lib.hid (hb23.trans (hb4.mono hb23.size))
        clear hb3 hb4 hb23 hb03 ho3 ho4 x0 x1 x2 x3 x4 x5
        go_wp2_with fail
        go_roundw
        case rel => exact ⟨k + 1, by omega, by rw [← HZ.out]; congr 1; push_cast; omega, fun j hj => by
          by_cases e : j = k
          · subst e
            rw [HZ.out, HPT.out]
            have := HOne.out
            omega
          · exact HOk.out j (by omega), HBel.out.trans (HB4.out.mono HBel.out.size)⟩
        case measure =>
          have hz := HZ.out
          simp [intOf]
          omega
      · have HOne := Lib.hid hone
        have hb1 : (IntKind.i64.wrap ((pa : Int) + (pc : Int)) != 1) = true := by
          rw [show IntKind.i64.wrap ((pa : Int) + (pc : Int)) = (pa : Int) + (pc : Int) from IntWalk.i64_in _ (by omega)]
          simpa using hone
        go_wp2_with fail
        go_region_held3 (fun w' => w'.cell? ⟨w.heap.size, 0, none⟩ = some (.int .i64 b.roots) ∧ w'.cell? ⟨w.heap.size, 1, none⟩ = some (.slice A1 n1 c1) ∧ w'.cell? ⟨w.heap.size, 2, none⟩ = some (.slice A2 n2 c2) ∧ w'.cell? ⟨w.heap.size, 3, none⟩ = some (.int .i64 E) ∧ w'.cell? ⟨w.heap.size, 4, none⟩ = some (.slice A4 n4 c4) ∧ w'.cell? ⟨w.heap.size, 5, none⟩ = some (.slice A5 n5 c5)) (first | exact (HBx3.out.below hb4 hs3).get | exact HBx3.out.get | exact (HBx.out.below hD2 hsr).get)
          (first
           | (go_at_call 63; refine (ports_any _ _ _ _ _ A1 n1 c1 b.nodes z w _ h1 HBw.out.drew h81 HLk.out).mono ?_; rintro e w3 ⟨v3, rfl, ho3, hb3⟩; have hb23 := hD2.trans (hb3.mono hD2.size); have HBx3 := Lib.hid (HBx.out.below hb23 hsr); have hs3 : w.heap.size < w3.heap.size := Nat.lt_of_lt_of_le hsr hb23.size; have hb03 := HBw.out.trans (hb23.mono HBw.out.size); obtain ⟨A3, c3, rfl⟩ := ownsP_slice ho3; rw [HP.out, HPa.out])
           | (go_at_call 64; refine (ends_any _ _ _ _ _ A5 n5 c5 b.inner z w _ h5 hb03 (by omega)).mono ?_; rintro e w4 ⟨v4, rfl, ho4, hb4⟩; obtain ⟨A6, c6, rfl⟩ := owns_slice ho4; rw [List.length_map, HQ.out, HPc.out]))
        have HB4 := Lib.hid (hb23.trans (hb4.mono hb23.size))
        clear hb3 hb4 hb23 hb03 ho3 ho4 x0 x1 x2 x3 x4 x5
        go_wp2_with fail
        go_ret
        exact ⟨by rw [HNo.out k hlt (by rw [HZ.out, HPT.out]; have := HOne.out; omega)]; rfl, HBw.out.trans (HB4.out.mono HBw.out.size)⟩
    · obtain rfl : k = n4 := by omega
      have HS := Lib.hid (HSg.out (HYes.out HOk.out))
      by_cases hE0 : E = 0
      · subst hE0
        go_wp2_with fail
        go_ret
        exact ⟨by rw [HS.out]; rfl, HBw.out⟩
      · go_wp2_with fail
        go_ret
        exact ⟨by rw [HS.out]; simp [hE0], HBw.out⟩
end Go.Proofs.Ytlhickjlcmiknaa.dss
