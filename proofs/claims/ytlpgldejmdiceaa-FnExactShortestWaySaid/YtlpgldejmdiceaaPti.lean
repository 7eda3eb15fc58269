/- spec.l1Put: a number put into a list in ascending order. -/
import Derived.Test.YtlpgldejmdiceaaRea
import Derived.Test.YtlpgldejmdiceaaRhx
import Derived.Test.YtlpgldejmdiceaaSyr
import Derived.Test.YtlpgldejmdiceaaSa
import Derived.BigQuiet
import Derived.Handy
namespace Go.Proofs.Ytlpgldejmdiceaa.pti
open kit bg sg opn strs only hb sig isig un over gn nm inn ht gd im pt marks eqs hc hi hw hn rs br bm bw cf lf ib isa lawb lw cl bgs cz has syx sya rea sa
open Go.RowKit
set_option linter.unusedVariables false
set_option linter.unusedSimpArgs false
section
variable {P : Program} {ops : Array Oper} {md : Region.Mode} {S : World → Prop} {n : Nat} {Q : Exit → Act → World → Prop}
/-- two operations may come up -/
theorem go_two {i j : Nat} {oi oj : Oper} {f : Nat} {listed : Array Bool} {a : Act} {w : World} (hi : ops[i]? = some oi) (hj : ops[j]? = some oj)
    (hB : (decide (i < n) && decide (j < n) && decide (Region.ready md ops listed = [i, j])) = true)
    (h1 : ∀ K' : Act → World → Prop, Shut (∀ a w, S w → (S w → rh.Go_ P md ops Q S n f (listed.setIfInBounds i true) a w) → K' a w) → if Region.wanted oi (yielded ops a.tmps) = true then Oper.wp P oi a w K' Q else K' (a.put oi.dst undef) w)
    (h2 : ∀ K' : Act → World → Prop, Shut (∀ a w, S w → (S w → rh.Go_ P md ops Q S n f (listed.setIfInBounds j true) a w) → K' a w) → if Region.wanted oj (yielded ops a.tmps) = true then Oper.wp P oj a w K' Q else K' (a.put oj.dst undef) w) : rh.Go_ P md ops Q S n (f + 1) listed a w := fun inv => by
  simp only [Bool.and_eq_true, decide_eq_true_eq] at hB
  obtain ⟨⟨hin, hjn⟩, hr⟩ := hB
  refine ⟨fun h0 => (by rw [hr] at h0; cases h0), fun k hk => ?_⟩
  have hk' := hk
  rw [hr] at hk
  rcases List.mem_cons.1 hk with e | hk
  · subst e
    exact wpOp_step hi (fun K' hK => h1 K' (fun a w hS hW => hK a w ⟨fun _ => hS, hW hS (inv.set hk' hin)⟩))
  · obtain rfl : k = j := by simpa using hk
    exact wpOp_step hj (fun K' hK => h2 K' (fun a w hS hW => hK a w ⟨fun _ => hS, hW hS (inv.set hk' hjn)⟩))
end
theorem below_drewN {B : Nat} {a w : World} (h : Below B a w) (n : Nat) : Below B a (w.drewN n) := ⟨h.os, h.tape, h.output, h.size, h.block⟩
theorem owns_keep {w w' : World} {B : Nat} {t : TypeId} {v : Value} {ys : List Value} (h : Owns w B t v ys) (hb : Below w.heap.size w w') : Owns w' B t v ys := by
  refine ⟨?_, h.2⟩
  rcases h.1 with ⟨h1, ⟨e, h2⟩ | ⟨g, cap, cur, e, hg, hh, hr⟩⟩
  · exact ⟨h1, .inl ⟨e, h2⟩⟩
  · exact ⟨h1, .inr ⟨g, cap, cur, e, hg, (hb.block g (lt_of_block hh)).trans hh, hr⟩⟩
theorem take_cells {w : World} {B m g j : Nat} {L : List Int} (h : SR w B (some ⟨g, 0, none⟩) m (L.map (Value.int .i64))) : ∀ (i : Nat) u, ((L.take j).map (Value.int .i64))[i]? = some u → w.cell? ((⟨g, 0, none⟩ : Addr).add i) = some u := by
  intro i u hu
  have hu2 : (L.map (Value.int .i64))[i]? = some u := by
    rw [List.getElem?_map] at hu ⊢
    by_cases e : i < j
    · rwa [List.getElem?_take_of_lt e] at hu
    · rw [List.getElem?_take_eq_none (by omega)] at hu
      cases hu
  exact sr_cells h i u hu2
theorem drop_cells {w : World} {B m g j o : Nat} {L : List Int} (h : SR w B (some ⟨g, 0, none⟩) m (L.map (Value.int .i64))) (ho : j < m → o = j) : ∀ (i : Nat) u, ((L.drop j).map (Value.int .i64))[i]? = some u → w.cell? ((⟨g, o, none⟩ : Addr).add i) = some u := by
  intro i u hu
  have hlen := h.1
  rw [List.length_map] at hlen
  have hi := (List.getElem?_eq_some_iff.1 hu).1
  rw [List.length_map, List.length_drop] at hi
  have e := ho (by omega)
  subst e
  have hu2 : (L.map (Value.int .i64))[o + i]? = some u := by
    rw [List.getElem?_map] at hu ⊢
    rwa [List.getElem?_drop] at hu
  have := sr_cells h (o + i) u hu2
  rw [cl.add_none] at this ⊢
  rwa [Nat.zero_add] at this
theorem strs_one (l : List Int) : ∀ u ∈ l.map (Value.int .i64), u.oneCell' = true := fun u hu => by obtain ⟨s, -, rfl⟩ := List.mem_map.1 hu; rfl
theorem one_one (x : Int) : ∀ u ∈ [Value.int .i64 x], u.oneCell' = true := fun u hu => by simp at hu; subst hu; rfl
/-- a cell in a block of its own stays where another row grows -/
theorem one_keep {w w' : World} {β : Nat} {row : Option Nat} {x : Value} (hc : ∀ (i : Nat) u, [x][i]? = some u → w.cell? ((⟨β, 0, none⟩ : Addr).add i) = some u) (hg : w.grownBy w' row) (hβ : β < w.heap.size) (hne : some β ≠ row) : ∀ (i : Nat) u, [x][i]? = some u → w'.cell? ((⟨β, 0, none⟩ : Addr).add i) = some u := by
  intro i u hu
  have := hc i u hu
  rw [cl.add_none] at this ⊢
  rw [World.cell?_of_block (w := w) (hg.block β hβ hne)]
  exact this
theorem owns_of {w : World} {B B' m j : Nat} {t : TypeId} {v : Value} {x : Int} {L : List Int} (h : w.ownsRow B' t 1 v (0 + j + 1 + (m - j)) ([] ++ (L.take j).map (Value.int .i64) ++ [.int .i64 x] ++ (L.drop j).map (Value.int .i64))) (hB : B ≤ B') (hv : v ≠ .slice none 0 0) (hm : L.length = m) (hj : j ≤ m) : Owns w B t v ((L.take j ++ [x] ++ L.drop j).map (Value.int .i64)) := by
  have e : [] ++ (L.take j).map (Value.int .i64) ++ [Value.int .i64 x] ++ (L.drop j).map (Value.int .i64) = (L.take j ++ [x] ++ L.drop j).map (Value.int .i64) := by simp
  have e2 : 0 + j + 1 + (m - j) = ((L.take j ++ [x] ++ L.drop j).map (Value.int .i64)).length := by simp; omega
  rw [e, e2] at h
  refine ⟨?_, hv⟩
  rcases h with ⟨h1, ⟨e, h2⟩ | ⟨g, cap, cur, e, hg, hr⟩⟩
  · exact ⟨h1, .inl ⟨e, h2⟩⟩
  · exact ⟨h1, .inr ⟨g, cap, cur, e, by omega, hr⟩⟩
theorem wp_name {P : Program} {c : Code} {Q : Exit → Act → World → Prop} {a : Act} {w : World} (h : ∀ W, W = w → Code.wp P c Q a W) : Code.wp P c Q a w := h w rfl
set_option maxRecDepth 20000 in
set_option maxHeartbeats 12800000 in
theorem put_any (v : Value) (L : List Int) (y : Int) (B : Nat) (w : World) (hO : Owns w B 3 v (L.map (Value.int .i64))) (hB : B ≤ w.heap.size) (hl : L.length ≤ 1048575) :
    Calls Try.prog 117 #[v, .int .i64 y] w fun e w' => ∃ v', e = .returned v' ∧ Owns w' B 3 v' ((insI y L).map (Value.int .i64)) ∧ Below w.heap.size w w' := by
  obtain ⟨i0, hi, hz0, hz1, hz2⟩ := info_parts int_info
  have HI := Lib.hid (And.intro hi (And.intro hz0 (And.intro hz1 hz2)))
  have HO := Lib.hid hO
  obtain ⟨g, cp, rfl, hg1, hg2, hmc, hsr⟩ := hO.at
  obtain ⟨m, hm⟩ : ∃ m, L.length = m := ⟨_, rfl⟩
  rw [List.length_map, hm] at hmc hsr
  rw [hm] at hl
  have HM := Lib.hid hm
  have HSr := Lib.hid hsr
  have HBl := Lib.hid hB
  clear hi hz0 hz1 hz2 hm hsr hO hB
  rw [List.length_map, HM.out]
  go_enter Try.func117, Try.ntmps117
  go_wp2_with fail
  go_loopw [5] (fun i wq => ∃ j : Nat, j ≤ m ∧ i = .int .i64 j ∧ (∀ (t : Nat) z, t < j → L[t]? = some z → z < y) ∧ w = wq) (fun i _ => m - (intOf i).toNat)
  case atStart => exact ⟨0, Nat.zero_le _, rfl, fun t z ht => absurd ht (by omega), rfl⟩
  case round =>
    obtain ⟨j, hj, rfl, hall, rfl⟩ := hrel
    have HA := Lib.hid hall
    clear hall
    by_cases hjm : j < m
    · obtain ⟨g', off', z, e, hgg, hy, hcy⟩ := IntsAt.get HSr.out hjm
      injection e with e
      injection e with e1 e2
      subst e1 e2
      rw [Nat.zero_add] at hcy
      have HY := Lib.hid hy
      clear hy
      by_cases hlt2 : z < y
      · have HN : Hid (∀ (t : Nat) u, t < j + 1 → L[t]? = some u → u < y) := Lib.hid fun t u ht hu => by
          by_cases e : t = j
          · subst e
            rw [HY.out] at hu
            injection hu with hu
            subst hu
            exact hlt2
          · exact HA.out t u (by omega) hu
        go_wp2_with fail
        go_roundw
        case rel => exact ⟨j + 1, by omega, by go_num, HN.out, trivial⟩
        case measure => simp [intOf]; omega
      · by_cases heq : z = y
        · subst heq
          have HIs := Lib.hid (ins_same L j HA.out HY.out)
          go_wp2_with fail
          go_ret
          exact ⟨_, rfl, by rw [HIs.out]; have h0 := HO.out; rw [List.length_map, HM.out] at h0; exact h0, Below.refl _ _⟩
        · have hne : (z == y) = false := by rw [beq_eq_false_iff_ne]; exact heq
          have HIn := Lib.hid (ins_put L j HA.out (by have := HM.out; omega) (fun u hu => by rw [HY.out] at hu; injection hu with hu; subst hu; exact ⟨hlt2, heq⟩))
          go_wp2_with fail
          refine wp_name (fun W hW => ?_)
          have hBW : Below w.heap.size w W := by rw [hW]; exact Below.refl _ _
          have hgW := Nat.lt_of_lt_of_le hg2 hBW.size
          have hjc : j ≤ cp := by omega
          have hjm2 : j ≤ m := by omega
          obtain ⟨o, ho1, ho2⟩ : ∃ o : Nat, (cp = j → o = 0) ∧ (¬ cp = j → o = j) := by
            by_cases e : cp = j
            · exact ⟨0, fun _ => rfl, fun h => absurd e h⟩
            · exact ⟨j, fun h => absurd h e, fun _ => rfl⟩
          clear hW
          have hBW2 := hBW
          clear hBW
          refine rh.go_begin 12 (fun _ => True) (by kernel_rfl) ?_ (fun hHeld => ?_)
          · ((try dsimp only); try exact True.intro)
          refine rh.go_take (i := 1) (v := ?v1) rfl (by kernel_rfl) (fun _ _ _ h => h) (Or.inl ⟨by rfl, ?hy1⟩) (by assumption) ?rest1
          case hy1 => (intro wS hSw; (try dsimp only at hSw); go_simp; try (with_reducible rfl))
          try simp only [Act.put, List.setIfInBounds_toArray, List.set_cons_zero, List.set_cons_succ]
          refine rh.go_take (i := 2) (v := ?v2) rfl (by kernel_rfl) (fun _ _ _ h => h) (Or.inl ⟨by rfl, ?hy2⟩) (by assumption) ?rest2
          case hy2 => (intro wS hSw; (try dsimp only at hSw); go_simp; try (with_reducible rfl))
          try simp only [Act.put, List.setIfInBounds_toArray, List.set_cons_zero, List.set_cons_succ]
          refine rh.go_take (i := 3) (v := .slice (some ⟨g, 0, none⟩) j cp) rfl (by kernel_rfl) (fun _ _ _ h => h) (Or.inl ⟨by rfl, ?hyA1⟩) (by assumption) ?restA1
          case hyA1 => (intro wS hSw; (try dsimp only at hSw); go_simp)
          try simp only [Act.put, List.setIfInBounds_toArray, List.set_cons_zero, List.set_cons_succ]
          refine rh.go_take (i := 5) (v := ?v3) rfl (by kernel_rfl) (fun _ _ _ h => h) (Or.inl ⟨by rfl, ?hy3⟩) (by assumption) ?rest3
          case hy3 => (intro wS hSw; (try dsimp only at hSw); go_simp; try (with_reducible rfl))
          try simp only [Act.put, List.setIfInBounds_toArray, List.set_cons_zero, List.set_cons_succ]
          refine rh.go_take (i := 8) (v := ?v4) rfl (by kernel_rfl) (fun _ _ _ h => h) (Or.inl ⟨by rfl, ?hy4⟩) (by assumption) ?rest4
          case hy4 => (intro wS hSw; (try dsimp only at hSw); go_simp; try (with_reducible rfl))
          try simp only [Act.put, List.setIfInBounds_toArray, List.set_cons_zero, List.set_cons_succ]
          refine rh.go_take (i := 9) (v := ?v5) rfl (by kernel_rfl) (fun _ _ _ h => h) (Or.inl ⟨by rfl, ?hy5⟩) (by assumption) ?rest5
          case hy5 => (intro wS hSw; (try dsimp only at hSw); go_simp; try (with_reducible rfl))
          try simp only [Act.put, List.setIfInBounds_toArray, List.set_cons_zero, List.set_cons_succ]
          refine rh.go_take (i := 10) (v := .slice (some ⟨g, o, none⟩) (m - j) (cp - j)) rfl (by kernel_rfl) (fun _ _ _ h => h) (Or.inl ⟨by rfl, ?hyB1⟩) (by assumption) ?restB1
          case hyB1 => (intro wS hSw; (try dsimp only at hSw); go_simp; by_cases e : cp = j <;> simp_all)
          try simp only [Act.put, List.setIfInBounds_toArray, List.set_cons_zero, List.set_cons_succ]
          clear hjc
          have hBD := (Below.refl W.heap.size W).drew
          have HS0 := Lib.hid (fun w' (hq : Below W.heap.size W w') => HSr.out.below (hBW2.trans (hq.mono hBW2.size)))
          have HDr : Hid (j < m → o = j) := Lib.hid (fun h => ho2 (by omega))
          have HTl : Hid ((List.map (Value.int .i64) (L.take j)).length = j * 1) := Lib.hid (by rw [List.length_map, List.length_take, Nat.mul_one]; have := HM.out; omega)
          have HDl : Hid ((List.map (Value.int .i64) (L.drop j)).length = (m - j) * 1) := Lib.hid (by rw [List.length_map, List.length_drop, Nat.mul_one, HM.out])
          have hmn : m ≤ 1048576 := by omega
          refine go_two (i := 0) (j := 6) rfl rfl (by kernel_rfl) (fun K2 hK => ?_) (fun K2 hK => ?_)
          · go_simp
            have hb1 := hBD.alloc (Nat.le_refl _) (.cells #[] 3)
            have ho1 := ownsRow_nil_new W.drew 3 1 W.heap.size (Nat.le_refl _)
            refine hK.out _ _ ?_ (fun hHeld => ?_)
            · (try exact True.intro)
            clear hK K2 hHeld
            try simp only [Act.put, List.setIfInBounds_toArray, List.set_cons_zero, List.set_cons_succ]
            have hz1 : (W.drew.alloc (.cells #[] 3)).heap.size = W.heap.size + 1 := World.size_alloc ..
            try rw [show W.drew.heap.size = W.heap.size from rfl] at ho1
            try rw [show W.drew.heap.size = W.heap.size from rfl]
            rw [show W.drew.alloc (.cells #[] 3) = (W.alloc (.cells #[] 3)).drew from rfl] at ho1 hz1 hb1
            obtain ⟨W1, hW1⟩ : ∃ W1, (W.alloc (.cells #[] 3)).drew = W1 := ⟨_, rfl⟩
            rw [hW1] at ho1 hz1 hb1 ⊢
            clear hW1
            refine go_two (i := 4) (j := 6) rfl rfl (by kernel_rfl) (fun K2 hK => ?_) (fun K2 hK => ?_)
            · refine sa.step_append_own rfl _ _ 38 rfl W.heap.size 3 i0 (.int .i64 0) 1 8 Try.underlying38 HI.out.1 HI.out.2.1 HI.out.2.2.1 HI.out.2.2.2 rfl (by decide) _ _ _ (by first | rfl | simp [Act.eval, Act.put]) ho1 ⟨g, 0, none⟩ j cp ((L.take j).map (Value.int .i64)) (by first | rfl | simp [Act.eval, Act.put]) HTl.out (take_cells (HS0.out _ hb1)) (strs_one _) (by unfold maxLen; omega) (by omega) hb1.size ?_
              intro v1 W2 own1 grow1 nil1
              have hb2 := hb1.grown grow1 hb1.size (fun r e => (ho1.lt r e).1)
              refine hK.out _ _ ?_ (fun hHeld => ?_)
              · (try exact True.intro)
              clear hK K2 hHeld grow1 nil1
              try simp only [Act.put, List.setIfInBounds_toArray, List.set_cons_zero, List.set_cons_succ]
              refine rh.go_next (i := 6) rfl (by kernel_rfl) (fun K2 hK => ?_)
              go_simp
              have own2 := own1.alloc (.cells #[.int .i64 y] 3)
              have hb3 := hb2.alloc hb2.size (.cells #[.int .i64 y] 3)
              have hc3 := cell_one_new W2 (.int .i64 y) 3
              refine hK.out _ _ ?_ (fun hHeld => ?_)
              · (try exact True.intro)
              clear hK K2 hHeld
              try simp only [Act.put, List.setIfInBounds_toArray, List.set_cons_zero, List.set_cons_succ]
              obtain ⟨W3, hW3⟩ : ∃ W3, W2.alloc (.cells #[.int .i64 y] 3) = W3 := ⟨_, rfl⟩
              obtain ⟨β, hβ⟩ : ∃ β, W2.heap.size = β := ⟨_, rfl⟩
              rw [hW3] at own2 hb3 hc3 ⊢
              rw [hβ] at hc3 ⊢
              clear hW3 hβ own1 hb2
              refine rh.go_next (i := 7) rfl (by kernel_rfl) (fun K2 hK => ?_)
              refine sa.step_append_own rfl _ _ 38 rfl W.heap.size 3 i0 (.int .i64 0) 1 8 Try.underlying38 HI.out.1 HI.out.2.1 HI.out.2.2.1 HI.out.2.2.2 rfl (by decide) _ _ _ (by first | rfl | simp [Act.eval, Act.put]) own2 _ 1 1 [.int .i64 y] (by first | rfl | simp [Act.eval, Act.put]) rfl hc3 (one_one y) (by unfold maxLen; omega) (by omega) hb3.size ?_
              intro v2 W4 own4 grow4 nil4
              have hb4 := hb3.grown grow4 hb3.size (fun r e => (own2.lt r e).1)
              refine hK.out _ _ ?_ (fun hHeld => ?_)
              · (try exact True.intro)
              have hv2 : v2 ≠ .slice none 0 0 := fun e => by have := (nil4.1 e).2; omega
              clear hK K2 hHeld grow4 nil4 hc3 own2 hb3
              try simp only [Act.put, List.setIfInBounds_toArray, List.set_cons_zero, List.set_cons_succ]
              refine rh.go_next (i := 11) rfl (by kernel_rfl) (fun K2 hK => ?_)
              refine sa.step_append_own rfl _ _ 38 rfl W.heap.size 3 i0 (.int .i64 0) 1 8 Try.underlying38 HI.out.1 HI.out.2.1 HI.out.2.2.1 HI.out.2.2.2 rfl (by decide) _ _ _ (by first | rfl | simp [Act.eval, Act.put]) own4 ⟨g, o, none⟩ (m - j) (cp - j) ((L.drop j).map (Value.int .i64)) (by first | rfl | simp [Act.eval, Act.put]) HDl.out (drop_cells (HS0.out _ hb4) HDr.out) (strs_one _) (by unfold maxLen; omega) (by omega) hb4.size ?_
              intro v3 W5 own5 grow5 nil5
              have hb5 := hb4.grown grow5 hb4.size (fun r e => (own4.lt r e).1)
              refine hK.out _ _ ?_ (fun hHeld => ?_)
              · (try exact True.intro)
              have hv3 : v3 ≠ .slice none 0 0 := fun e => hv2 (nil5.1 e).1
              clear hK K2 hHeld grow5 nil5 own4 hb4
              try simp only [Act.put, List.setIfInBounds_toArray, List.set_cons_zero, List.set_cons_succ]
              refine rh.go_last rfl (by kernel_rfl) (fun K2 hK => ?_)
              go_simp
              refine hK.out _ _ ?_
              refine NoPanic.normal ?_
              clear hK K2
              have HO5 := Lib.hid own5
              have HB5 := Lib.hid hb5
              clear own5 hb5
              go_wp2_with fail
              go_ret
              exact ⟨v3, rfl, by rw [HIn.out]; exact owns_of HO5.out (Nat.le_trans HBl.out hBW2.size) hv3 HM.out hjm2, hBW2.trans (HB5.out.mono hBW2.size)⟩
            · go_simp
              have own1 := ho1.alloc (.cells #[.int .i64 y] 3)
              have hb2 := hb1.alloc hb1.size (.cells #[.int .i64 y] 3)
              have hc2 := cell_one_new W1 (.int .i64 y) 3
              refine hK.out _ _ ?_ (fun hHeld => ?_)
              · (try exact True.intro)
              clear hK K2 hHeld
              try simp only [Act.put, List.setIfInBounds_toArray, List.set_cons_zero, List.set_cons_succ]
              have hz2 : (W1.alloc (.cells #[.int .i64 y] 3)).heap.size = W1.heap.size + 1 := World.size_alloc ..
              obtain ⟨W2, hW2⟩ : ∃ W2, W1.alloc (.cells #[.int .i64 y] 3) = W2 := ⟨_, rfl⟩
              rw [hW2] at own1 hb2 hc2 hz2 ⊢
              rw [hz1] at hc2 hz2
              clear hW2
              refine rh.go_next (i := 4) rfl (by kernel_rfl) (fun K2 hK => ?_)
              refine sa.step_append_own rfl _ _ 38 rfl W.heap.size 3 i0 (.int .i64 0) 1 8 Try.underlying38 HI.out.1 HI.out.2.1 HI.out.2.2.1 HI.out.2.2.2 rfl (by decide) _ _ _ (by first | rfl | simp [Act.eval, Act.put]) own1 ⟨g, 0, none⟩ j cp ((L.take j).map (Value.int .i64)) (by first | rfl | simp [Act.eval, Act.put]) HTl.out (take_cells (HS0.out _ hb2)) (strs_one _) (by unfold maxLen; omega) (by omega) hb2.size ?_
              intro v1 W3 own2 grow1 nil1
              have hb3 := hb2.grown grow1 hb2.size (fun r e => (own1.lt r e).1)
              have hc3 := one_keep hc2 grow1 (by omega) (by first | (simp [Value.ownBlock]; done) | (simp [Value.ownBlock]; omega))
              refine hK.out _ _ ?_ (fun hHeld => ?_)
              · (try exact True.intro)
              clear hK K2 hHeld grow1 nil1 hc2 own1 hb2
              try simp only [Act.put, List.setIfInBounds_toArray, List.set_cons_zero, List.set_cons_succ]
              refine rh.go_next (i := 7) rfl (by kernel_rfl) (fun K2 hK => ?_)
              refine sa.step_append_own rfl _ _ 38 rfl W.heap.size 3 i0 (.int .i64 0) 1 8 Try.underlying38 HI.out.1 HI.out.2.1 HI.out.2.2.1 HI.out.2.2.2 rfl (by decide) _ _ _ (by first | rfl | simp [Act.eval, Act.put]) own2 _ 1 1 [.int .i64 y] (by first | rfl | simp [Act.eval, Act.put]) rfl hc3 (one_one y) (by unfold maxLen; omega) (by omega) hb3.size ?_
              intro v2 W4 own4 grow4 nil4
              have hb4 := hb3.grown grow4 hb3.size (fun r e => (own2.lt r e).1)
              refine hK.out _ _ ?_ (fun hHeld => ?_)
              · (try exact True.intro)
              have hv2 : v2 ≠ .slice none 0 0 := fun e => by have := (nil4.1 e).2; omega
              clear hK K2 hHeld grow4 nil4 hc3 own2 hb3
              try simp only [Act.put, List.setIfInBounds_toArray, List.set_cons_zero, List.set_cons_succ]
              refine rh.go_next (i := 11) rfl (by kernel_rfl) (fun K2 hK => ?_)
              refine sa.step_append_own rfl _ _ 38 rfl W.heap.size 3 i0 (.int .i64 0) 1 8 Try.underlying38 HI.out.1 HI.out.2.1 HI.out.2.2.1 HI.out.2.2.2 rfl (by decide) _ _ _ (by first | rfl | simp [Act.eval, Act.put]) own4 ⟨g, o, none⟩ (m - j) (cp - j) ((L.drop j).map (Value.int .i64)) (by first | rfl | simp [Act.eval, Act.put]) HDl.out (drop_cells (HS0.out _ hb4) HDr.out) (strs_one _) (by unfold maxLen; omega) (by omega) hb4.size ?_
              intro v3 W5 own5 grow5 nil5
              have hb5 := hb4.grown grow5 hb4.size (fun r e => (own4.lt r e).1)
              refine hK.out _ _ ?_ (fun hHeld => ?_)
              · (try exact True.intro)
              have hv3 : v3 ≠ .slice none 0 0 := fun e => hv2 (nil5.1 e).1
              clear hK K2 hHeld grow5 nil5 own4 hb4
              try simp only [Act.put, List.setIfInBounds_toArray, List.set_cons_zero, List.set_cons_succ]
              refine rh.go_last rfl (by kernel_rfl) (fun K2 hK => ?_)
              go_simp
              refine hK.out _ _ ?_
              refine NoPanic.normal ?_
              clear hK K2
              have HO5 := Lib.hid own5
              have HB5 := Lib.hid hb5
              clear own5 hb5
              go_wp2_with fail
              go_ret
              exact ⟨v3, rfl, by rw [HIn.out]; exact owns_of HO5.out (Nat.le_trans HBl.out hBW2.size) hv3 HM.out hjm2, hBW2.trans (HB5.out.mono hBW2.size)⟩
          · go_simp
            have hb1 := hBD.alloc (Nat.le_refl _) (.cells #[.int .i64 y] 3)
            have hc1 := cell_one_new W.drew (.int .i64 y) 3
            refine hK.out _ _ ?_ (fun hHeld => ?_)
            · (try exact True.intro)
            clear hK K2 hHeld
            try simp only [Act.put, List.setIfInBounds_toArray, List.set_cons_zero, List.set_cons_succ]
            have hz1 : (W.drew.alloc (.cells #[.int .i64 y] 3)).heap.size = W.heap.size + 1 := World.size_alloc ..
            try rw [show W.drew.heap.size = W.heap.size from rfl] at hc1
            try rw [show W.drew.heap.size = W.heap.size from rfl]
            rw [show W.drew.alloc (.cells #[.int .i64 y] 3) = (W.alloc (.cells #[.int .i64 y] 3)).drew from rfl] at hc1 hz1 hb1
            obtain ⟨W1, hW1⟩ : ∃ W1, (W.alloc (.cells #[.int .i64 y] 3)).drew = W1 := ⟨_, rfl⟩
            rw [hW1] at hc1 hz1 hb1 ⊢
            clear hW1
            refine rh.go_next (i := 0) rfl (by kernel_rfl) (fun K2 hK => ?_)
            go_simp
            have own1 := ownsRow_nil_new W1 3 1 W.heap.size hb1.size
            have hb2 := hb1.alloc hb1.size (.cells #[] 3)
            have hc2 : ∀ (i : Nat) u, [Value.int .i64 y][i]? = some u → (W1.alloc (.cells #[] 3)).cell? ((⟨W.heap.size, 0, none⟩ : Addr).add i) = some u := one_keep hc1 (World.grownBy_alloc W1 (.cells #[] 3) none) (by omega) (by simp)
            refine hK.out _ _ ?_ (fun hHeld => ?_)
            · (try exact True.intro)
            clear hK K2 hHeld
            try simp only [Act.put, List.setIfInBounds_toArray, List.set_cons_zero, List.set_cons_succ]
            have hz2 : (W1.alloc (.cells #[] 3)).heap.size = W1.heap.size + 1 := World.size_alloc ..
            obtain ⟨W2, hW2⟩ : ∃ W2, W1.alloc (.cells #[] 3) = W2 := ⟨_, rfl⟩
            rw [hW2] at own1 hb2 hc2 hz2 ⊢
            clear hW2
            refine rh.go_next (i := 4) rfl (by kernel_rfl) (fun K2 hK => ?_)
            refine sa.step_append_own rfl _ _ 38 rfl W.heap.size 3 i0 (.int .i64 0) 1 8 Try.underlying38 HI.out.1 HI.out.2.1 HI.out.2.2.1 HI.out.2.2.2 rfl (by decide) _ _ _ (by first | rfl | simp [Act.eval, Act.put]) own1 ⟨g, 0, none⟩ j cp ((L.take j).map (Value.int .i64)) (by first | rfl | simp [Act.eval, Act.put]) HTl.out (take_cells (HS0.out _ hb2)) (strs_one _) (by unfold maxLen; omega) (by omega) hb2.size ?_
            intro v1 W3 own2 grow1 nil1
            have hb3 := hb2.grown grow1 hb2.size (fun r e => (own1.lt r e).1)
            have hc3 := one_keep hc2 grow1 (by omega) (by first | (simp [Value.ownBlock]; done) | (simp [Value.ownBlock]; omega))
            refine hK.out _ _ ?_ (fun hHeld => ?_)
            · (try exact True.intro)
            clear hK K2 hHeld grow1 nil1 hc2 own1 hb2
            try simp only [Act.put, List.setIfInBounds_toArray, List.set_cons_zero, List.set_cons_succ]
            obtain ⟨β, hβ⟩ : ∃ β, W.heap.size = β := ⟨_, rfl⟩
            refine rh.go_next (i := 7) rfl (by kernel_rfl) (fun K2 hK => ?_)
            refine sa.step_append_own rfl _ _ 38 rfl W.heap.size 3 i0 (.int .i64 0) 1 8 Try.underlying38 HI.out.1 HI.out.2.1 HI.out.2.2.1 HI.out.2.2.2 rfl (by decide) _ _ _ (by first | rfl | simp [Act.eval, Act.put]) own2 _ 1 1 [.int .i64 y] (by first | rfl | simp [Act.eval, Act.put]) rfl hc3 (one_one y) (by unfold maxLen; omega) (by omega) hb3.size ?_
            intro v2 W4 own4 grow4 nil4
            have hb4 := hb3.grown grow4 hb3.size (fun r e => (own2.lt r e).1)
            refine hK.out _ _ ?_ (fun hHeld => ?_)
            · (try exact True.intro)
            have hv2 : v2 ≠ .slice none 0 0 := fun e => by have := (nil4.1 e).2; omega
            clear hK K2 hHeld grow4 nil4 hc3 own2 hb3
            try simp only [Act.put, List.setIfInBounds_toArray, List.set_cons_zero, List.set_cons_succ]
            refine rh.go_next (i := 11) rfl (by kernel_rfl) (fun K2 hK => ?_)
            refine sa.step_append_own rfl _ _ 38 rfl W.heap.size 3 i0 (.int .i64 0) 1 8 Try.underlying38 HI.out.1 HI.out.2.1 HI.out.2.2.1 HI.out.2.2.2 rfl (by decide) _ _ _ (by first | rfl | simp [Act.eval, Act.put]) own4 ⟨g, o, none⟩ (m - j) (cp - j) ((L.drop j).map (Value.int .i64)) (by first | rfl | simp [Act.eval, Act.put]) HDl.out (drop_cells (HS0.out _ hb4) HDr.out) (strs_one _) (by unfold maxLen; omega) (by omega) hb4.size ?_
            intro v3 W5 own5 grow5 nil5
            have hb5 := hb4.grown grow5 hb4.size (fun r e => (own4.lt r e).1)
            refine hK.out _ _ ?_ (fun hHeld => ?_)
            · (try exact True.intro)
            have hv3 : v3 ≠ .slice none 0 0 := fun e => hv2 (nil5.1 e).1
            clear hK K2 hHeld grow5 nil5 own4 hb4
            try simp only [Act.put, List.setIfInBounds_toArray, List.set_cons_zero, List.set_cons_succ]
            refine rh.go_last rfl (by kernel_rfl) (fun K2 hK => ?_)
            go_simp
            refine hK.out _ _ ?_
            refine NoPanic.normal ?_
            clear hK K2
            have HO5 := Lib.hid own5
            have HB5 := Lib.hid hb5
            clear own5 hb5
            go_wp2_with fail
            go_ret
            exact ⟨v3, rfl, by rw [HIn.out]; exact owns_of HO5.out (Nat.le_trans HBl.out hBW2.size) hv3 HM.out hjm2, hBW2.trans (HB5.out.mono hBW2.size)⟩
    · have HIn := Lib.hid (ins_put L j HA.out (by have := HM.out; omega) (fun u hu => absurd (List.getElem?_eq_some_iff.1 hu).1 (by have := HM.out; omega)))
      go_wp2_with fail
      refine wp_name (fun W hW => ?_)
      have hBW : Below w.heap.size w W := by rw [hW]; exact Below.refl _ _
      have hgW := Nat.lt_of_lt_of_le hg2 hBW.size
      have hjc : j ≤ cp := by omega
      have hjm2 : j ≤ m := by omega
      obtain ⟨o, ho1, ho2⟩ : ∃ o : Nat, (cp = j → o = 0) ∧ (¬ cp = j → o = j) := by
        by_cases e : cp = j
        · exact ⟨0, fun _ => rfl, fun h => absurd e h⟩
        · exact ⟨j, fun h => absurd h e, fun _ => rfl⟩
      clear hW
      have hBW2 := hBW
      clear hBW
      refine rh.go_begin 12 (fun _ => True) (by kernel_rfl) ?_ (fun hHeld => ?_)
      · ((try dsimp only); try exact True.intro)
      refine rh.go_take (i := 1) (v := ?v6) rfl (by kernel_rfl) (fun _ _ _ h => h) (Or.inl ⟨by rfl, ?hy6⟩) (by assumption) ?rest6
      case hy6 => (intro wS hSw; (try dsimp only at hSw); go_simp; try (with_reducible rfl))
      try simp only [Act.put, List.setIfInBounds_toArray, List.set_cons_zero, List.set_cons_succ]
      refine rh.go_take (i := 2) (v := ?v7) rfl (by kernel_rfl) (fun _ _ _ h => h) (Or.inl ⟨by rfl, ?hy7⟩) (by assumption) ?rest7
      case hy7 => (intro wS hSw; (try dsimp only at hSw); go_simp; try (with_reducible rfl))
      try simp only [Act.put, List.setIfInBounds_toArray, List.set_cons_zero, List.set_cons_succ]
      refine rh.go_take (i := 3) (v := .slice (some ⟨g, 0, none⟩) j cp) rfl (by kernel_rfl) (fun _ _ _ h => h) (Or.inl ⟨by rfl, ?hyA2⟩) (by assumption) ?restA2
      case hyA2 => (intro wS hSw; (try dsimp only at hSw); go_simp)
      try simp only [Act.put, List.setIfInBounds_toArray, List.set_cons_zero, List.set_cons_succ]
      refine rh.go_take (i := 5) (v := ?v8) rfl (by kernel_rfl) (fun _ _ _ h => h) (Or.inl ⟨by rfl, ?hy8⟩) (by assumption) ?rest8
      case hy8 => (intro wS hSw; (try dsimp only at hSw); go_simp; try (with_reducible rfl))
      try simp only [Act.put, List.setIfInBounds_toArray, List.set_cons_zero, List.set_cons_succ]
      refine rh.go_take (i := 8) (v := ?v9) rfl (by kernel_rfl) (fun _ _ _ h => h) (Or.inl ⟨by rfl, ?hy9⟩) (by assumption) ?rest9
      case hy9 => (intro wS hSw; (try dsimp only at hSw); go_simp; try (with_reducible rfl))
      try simp only [Act.put, List.setIfInBounds_toArray, List.set_cons_zero, List.set_cons_succ]
      refine rh.go_take (i := 9) (v := ?v10) rfl (by kernel_rfl) (fun _ _ _ h => h) (Or.inl ⟨by rfl, ?hy10⟩) (by assumption) ?rest10
      case hy10 => (intro wS hSw; (try dsimp only at hSw); go_simp; try (with_reducible rfl))
      try simp only [Act.put, List.setIfInBounds_toArray, List.set_cons_zero, List.set_cons_succ]
      refine rh.go_take (i := 10) (v := .slice (some ⟨g, o, none⟩) (m - j) (cp - j)) rfl (by kernel_rfl) (fun _ _ _ h => h) (Or.inl ⟨by rfl, ?hyB2⟩) (by assumption) ?restB2
      case hyB2 => (intro wS hSw; (try dsimp only at hSw); go_simp; by_cases e : cp = j <;> simp_all)
      try simp only [Act.put, List.setIfInBounds_toArray, List.set_cons_zero, List.set_cons_succ]
      clear hjc
      have hBD := (Below.refl W.heap.size W).drew
      have HS0 := Lib.hid (fun w' (hq : Below W.heap.size W w') => HSr.out.below (hBW2.trans (hq.mono hBW2.size)))
      have HDr : Hid (j < m → o = j) := Lib.hid (fun h => ho2 (by omega))
      have HTl : Hid ((List.map (Value.int .i64) (L.take j)).length = j * 1) := Lib.hid (by rw [List.length_map, List.length_take, Nat.mul_one]; have := HM.out; omega)
      have HDl : Hid ((List.map (Value.int .i64) (L.drop j)).length = (m - j) * 1) := Lib.hid (by rw [List.length_map, List.length_drop, Nat.mul_one, HM.out])
      have hmn : m ≤ 1048576 := by omega
      refine go_two (i := 0) (j := 6) rfl rfl (by kernel_rfl) (fun K2 hK => ?_) (fun K2 hK => ?_)
      · go_simp
        have hb1 := hBD.alloc (Nat.le_refl _) (.cells #[] 3)
        have ho1 := ownsRow_nil_new W.drew 3 1 W.heap.size (Nat.le_refl _)
        refine hK.out _ _ ?_ (fun hHeld => ?_)
        · (try exact True.intro)
        clear hK K2 hHeld
        try simp only [Act.put, List.setIfInBounds_toArray, List.set_cons_zero, List.set_cons_succ]
        have hz1 : (W.drew.alloc (.cells #[] 3)).heap.size = W.heap.size + 1 := World.size_alloc ..
        try rw [show W.drew.heap.size = W.heap.size from rfl] at ho1
        try rw [show W.drew.heap.size = W.heap.size from rfl]
        rw [show W.drew.alloc (.cells #[] 3) = (W.alloc (.cells #[] 3)).drew from rfl] at ho1 hz1 hb1
        obtain ⟨W1, hW1⟩ : ∃ W1, (W.alloc (.cells #[] 3)).drew = W1 := ⟨_, rfl⟩
        rw [hW1] at ho1 hz1 hb1 ⊢
        clear hW1
        refine go_two (i := 4) (j := 6) rfl rfl (by kernel_rfl) (fun K2 hK => ?_) (fun K2 hK => ?_)
        · refine sa.step_append_own rfl _ _ 38 rfl W.heap.size 3 i0 (.int .i64 0) 1 8 Try.underlying38 HI.out.1 HI.out.2.1 HI.out.2.2.1 HI.out.2.2.2 rfl (by decide) _ _ _ (by first | rfl | simp [Act.eval, Act.put]) ho1 ⟨g, 0, none⟩ j cp ((L.take j).map (Value.int .i64)) (by first | rfl | simp [Act.eval, Act.put]) HTl.out (take_cells (HS0.out _ hb1)) (strs_one _) (by unfold maxLen; omega) (by omega) hb1.size ?_
          intro v1 W2 own1 grow1 nil1
          have hb2 := hb1.grown grow1 hb1.size (fun r e => (ho1.lt r e).1)
          refine hK.out _ _ ?_ (fun hHeld => ?_)
          · (try exact True.intro)
          clear hK K2 hHeld grow1 nil1
          try simp only [Act.put, List.setIfInBounds_toArray, List.set_cons_zero, List.set_cons_succ]
          refine rh.go_next (i := 6) rfl (by kernel_rfl) (fun K2 hK => ?_)
          go_simp
          have own2 := own1.alloc (.cells #[.int .i64 y] 3)
          have hb3 := hb2.alloc hb2.size (.cells #[.int .i64 y] 3)
          have hc3 := cell_one_new W2 (.int .i64 y) 3
          refine hK.out _ _ ?_ (fun hHeld => ?_)
          · (try exact True.intro)
          clear hK K2 hHeld
          try simp only [Act.put, List.setIfInBounds_toArray, List.set_cons_zero, List.set_cons_succ]
          obtain ⟨W3, hW3⟩ : ∃ W3, W2.alloc (.cells #[.int .i64 y] 3) = W3 := ⟨_, rfl⟩
          obtain ⟨β, hβ⟩ : ∃ β, W2.heap.size = β := ⟨_, rfl⟩
          rw [hW3] at own2 hb3 hc3 ⊢
          rw [hβ] at hc3 ⊢
          clear hW3 hβ own1 hb2
          refine rh.go_next (i := 7) rfl (by kernel_rfl) (fun K2 hK => ?_)
          refine sa.step_append_own rfl _ _ 38 rfl W.heap.size 3 i0 (.int .i64 0) 1 8 Try.underlying38 HI.out.1 HI.out.2.1 HI.out.2.2.1 HI.out.2.2.2 rfl (by decide) _ _ _ (by first | rfl | simp [Act.eval, Act.put]) own2 _ 1 1 [.int .i64 y] (by first | rfl | simp [Act.eval, Act.put]) rfl hc3 (one_one y) (by unfold maxLen; omega) (by omega) hb3.size ?_
          intro v2 W4 own4 grow4 nil4
          have hb4 := hb3.grown grow4 hb3.size (fun r e => (own2.lt r e).1)
          refine hK.out _ _ ?_ (fun hHeld => ?_)
          · (try exact True.intro)
          have hv2 : v2 ≠ .slice none 0 0 := fun e => by have := (nil4.1 e).2; omega
          clear hK K2 hHeld grow4 nil4 hc3 own2 hb3
          try simp only [Act.put, List.setIfInBounds_toArray, List.set_cons_zero, List.set_cons_succ]
          refine rh.go_next (i := 11) rfl (by kernel_rfl) (fun K2 hK => ?_)
          refine sa.step_append_own rfl _ _ 38 rfl W.heap.size 3 i0 (.int .i64 0) 1 8 Try.underlying38 HI.out.1 HI.out.2.1 HI.out.2.2.1 HI.out.2.2.2 rfl (by decide) _ _ _ (by first | rfl | simp [Act.eval, Act.put]) own4 ⟨g, o, none⟩ (m - j) (cp - j) ((L.drop j).map (Value.int .i64)) (by first | rfl | simp [Act.eval, Act.put]) HDl.out (drop_cells (HS0.out _ hb4) HDr.out) (strs_one _) (by unfold maxLen; omega) (by omega) hb4.size ?_
          intro v3 W5 own5 grow5 nil5
          have hb5 := hb4.grown grow5 hb4.size (fun r e => (own4.lt r e).1)
          refine hK.out _ _ ?_ (fun hHeld => ?_)
          · (try exact True.intro)
          have hv3 : v3 ≠ .slice none 0 0 := fun e => hv2 (nil5.1 e).1
          clear hK K2 hHeld grow5 nil5 own4 hb4
          try simp only [Act.put, List.setIfInBounds_toArray, List.set_cons_zero, List.set_cons_succ]
          refine rh.go_last rfl (by kernel_rfl) (fun K2 hK => ?_)
          go_simp
          refine hK.out _ _ ?_
          refine NoPanic.normal ?_
          clear hK K2
          have HO5 := Lib.hid own5
          have HB5 := Lib.hid hb5
          clear own5 hb5
          go_wp2_with fail
          go_ret
          exact ⟨v3, rfl, by rw [HIn.out]; exact owns_of HO5.out (Nat.le_trans HBl.out hBW2.size) hv3 HM.out hjm2, hBW2.trans (HB5.out.mono hBW2.size)⟩
        · go_simp
          have own1 := ho1.alloc (.cells #[.int .i64 y] 3)
          have hb2 := hb1.alloc hb1.size (.cells #[.int .i64 y] 3)
          have hc2 := cell_one_new W1 (.int .i64 y) 3
          refine hK.out _ _ ?_ (fun hHeld => ?_)
          · (try exact True.intro)
          clear hK K2 hHeld
          try simp only [Act.put, List.setIfInBounds_toArray, List.set_cons_zero, List.set_cons_succ]
          have hz2 : (W1.alloc (.cells #[.int .i64 y] 3)).heap.size = W1.heap.size + 1 := World.size_alloc ..
          obtain ⟨W2, hW2⟩ : ∃ W2, W1.alloc (.cells #[.int .i64 y] 3) = W2 := ⟨_, rfl⟩
          rw [hW2] at own1 hb2 hc2 hz2 ⊢
          rw [hz1] at hc2 hz2
          clear hW2
          refine rh.go_next (i := 4) rfl (by kernel_rfl) (fun K2 hK => ?_)
          refine sa.step_append_own rfl _ _ 38 rfl W.heap.size 3 i0 (.int .i64 0) 1 8 Try.underlying38 HI.out.1 HI.out.2.1 HI.out.2.2.1 HI.out.2.2.2 rfl (by decide) _ _ _ (by first | rfl | simp [Act.eval, Act.put]) own1 ⟨g, 0, none⟩ j cp ((L.take j).map (Value.int .i64)) (by first | rfl | simp [Act.eval, Act.put]) HTl.out (take_cells (HS0.out _ hb2)) (strs_one _) (by unfold maxLen; omega) (by omega) hb2.size ?_
          intro v1 W3 own2 grow1 nil1
          have hb3 := hb2.grown grow1 hb2.size (fun r e => (own1.lt r e).1)
          have hc3 := one_keep hc2 grow1 (by omega) (by first | (simp [Value.ownBlock]; done) | (simp [Value.ownBlock]; omega))
          refine hK.out _ _ ?_ (fun hHeld => ?_)
          · (try exact True.intro)
          clear hK K2 hHeld grow1 nil1 hc2 own1 hb2
          try simp only [Act.put, List.setIfInBounds_toArray, List.set_cons_zero, List.set_cons_succ]
          refine rh.go_next (i := 7) rfl (by kernel_rfl) (fun K2 hK => ?_)
          refine sa.step_append_own rfl _ _ 38 rfl W.heap.size 3 i0 (.int .i64 0) 1 8 Try.underlying38 HI.out.1 HI.out.2.1 HI.out.2.2.1 HI.out.2.2.2 rfl (by decide) _ _ _ (by first | rfl | simp [Act.eval, Act.put]) own2 _ 1 1 [.int .i64 y] (by first | rfl | simp [Act.eval, Act.put]) rfl hc3 (one_one y) (by unfold maxLen; omega) (by omega) hb3.size ?_
          intro v2 W4 own4 grow4 nil4
          have hb4 := hb3.grown grow4 hb3.size (fun r e => (own2.lt r e).1)
          refine hK.out _ _ ?_ (fun hHeld => ?_)
          · (try exact True.intro)
          have hv2 : v2 ≠ .slice none 0 0 := fun e => by have := (nil4.1 e).2; omega
          clear hK K2 hHeld grow4 nil4 hc3 own2 hb3
          try simp only [Act.put, List.setIfInBounds_toArray, List.set_cons_zero, List.set_cons_succ]
          refine rh.go_next (i := 11) rfl (by kernel_rfl) (fun K2 hK => ?_)
          refine sa.step_append_own rfl _ _ 38 rfl W.heap.size 3 i0 (.int .i64 0) 1 8 Try.underlying38 HI.out.1 HI.out.2.1 HI.out.2.2.1 HI.out.2.2.2 rfl (by decide) _ _ _ (by first | rfl | simp [Act.eval, Act.put]) own4 ⟨g, o, none⟩ (m - j) (cp - j) ((L.drop j).map (Value.int .i64)) (by first | rfl | simp [Act.eval, Act.put]) HDl.out (drop_cells (HS0.out _ hb4) HDr.out) (strs_one _) (by unfold maxLen; omega) (by omega) hb4.size ?_
          intro v3 W5 own5 grow5 nil5
          have hb5 := hb4.grown grow5 hb4.size (fun r e => (own4.lt r e).1)
          refine hK.out _ _ ?_ (fun hHeld => ?_)
          · (try exact True.intro)
          have hv3 : v3 ≠ .slice none 0 0 := fun e => hv2 (nil5.1 e).1
          clear hK K2 hHeld grow5 nil5 own4 hb4
          try simp only [Act.put, List.setIfInBounds_toArray, List.set_cons_zero, List.set_cons_succ]
          refine rh.go_last rfl (by kernel_rfl) (fun K2 hK => ?_)
          go_simp
          refine hK.out _ _ ?_
          refine NoPanic.normal ?_
          clear hK K2
          have HO5 := Lib.hid own5
          have HB5 := Lib.hid hb5
          clear own5 hb5
          go_wp2_with fail
          go_ret
          exact ⟨v3, rfl, by rw [HIn.out]; exact owns_of HO5.out (Nat.le_trans HBl.out hBW2.size) hv3 HM.out hjm2, hBW2.trans (HB5.out.mono hBW2.size)⟩
      · go_simp
        have hb1 := hBD.alloc (Nat.le_refl _) (.cells #[.int .i64 y] 3)
        have hc1 := cell_one_new W.drew (.int .i64 y) 3
        refine hK.out _ _ ?_ (fun hHeld => ?_)
        · (try exact True.intro)
        clear hK K2 hHeld
        try simp only [Act.put, List.setIfInBounds_toArray, List.set_cons_zero, List.set_cons_succ]
        have hz1 : (W.drew.alloc (.cells #[.int .i64 y] 3)).heap.size = W.heap.size + 1 := World.size_alloc ..
        try rw [show W.drew.heap.size = W.heap.size from rfl] at hc1
        try rw [show W.drew.heap.size = W.heap.size from rfl]
        rw [show W.drew.alloc (.cells #[.int .i64 y] 3) = (W.alloc (.cells #[.int .i64 y] 3)).drew from rfl] at hc1 hz1 hb1
        obtain ⟨W1, hW1⟩ : ∃ W1, (W.alloc (.cells #[.int .i64 y] 3)).drew = W1 := ⟨_, rfl⟩
        rw [hW1] at hc1 hz1 hb1 ⊢
        clear hW1
        refine rh.go_next (i := 0) rfl (by kernel_rfl) (fun K2 hK => ?_)
        go_simp
        have own1 := ownsRow_nil_new W1 3 1 W.heap.size hb1.size
        have hb2 := hb1.alloc hb1.size (.cells #[] 3)
        have hc2 : ∀ (i : Nat) u, [Value.int .i64 y][i]? = some u → (W1.alloc (.cells #[] 3)).cell? ((⟨W.heap.size, 0, none⟩ : Addr).add i) = some u := one_keep hc1 (World.grownBy_alloc W1 (.cells #[] 3) none) (by omega) (by simp)
        refine hK.out _ _ ?_ (fun hHeld => ?_)
        · (try exact True.intro)
        clear hK K2 hHeld
        try simp only [Act.put, List.setIfInBounds_toArray, List.set_cons_zero, List.set_cons_succ]
        have hz2 : (W1.alloc (.cells #[] 3)).heap.size = W1.heap.size + 1 := World.size_alloc ..
        obtain ⟨W2, hW2⟩ : ∃ W2, W1.alloc (.cells #[] 3) = W2 := ⟨_, rfl⟩
        rw [hW2] at own1 hb2 hc2 hz2 ⊢
        clear hW2
        refine rh.go_next (i := 4) rfl (by kernel_rfl) (fun K2 hK => ?_)
        refine sa.step_append_own rfl _ _ 38 rfl W.heap.size 3 i0 (.int .i64 0) 1 8 Try.underlying38 HI.out.1 HI.out.2.1 HI.out.2.2.1 HI.out.2.2.2 rfl (by decide) _ _ _ (by first | rfl | simp [Act.eval, Act.put]) own1 ⟨g, 0, none⟩ j cp ((L.take j).map (Value.int .i64)) (by first | rfl | simp [Act.eval, Act.put]) HTl.out (take_cells (HS0.out _ hb2)) (strs_one _) (by unfold maxLen; omega) (by omega) hb2.size ?_
        intro v1 W3 own2 grow1 nil1
        have hb3 := hb2.grown grow1 hb2.size (fun r e => (own1.lt r e).1)
        have hc3 := one_keep hc2 grow1 (by omega) (by first | (simp [Value.ownBlock]; done) | (simp [Value.ownBlock]; omega))
        refine hK.out _ _ ?_ (fun hHeld => ?_)
        · (try exact True.intro)
        clear hK K2 hHeld grow1 nil1 hc2 own1 hb2
        try simp only [Act.put, List.setIfInBounds_toArray, List.set_cons_zero, List.set_cons_succ]
        obtain ⟨β, hβ⟩ : ∃ β, W.heap.size = β := ⟨_, rfl⟩
        refine rh.go_next (i := 7) rfl (by kernel_rfl) (fun K2 hK => ?_)
        refine sa.step_append_own rfl _ _ 38 rfl W.heap.size 3 i0 (.int .i64 0) 1 8 Try.underlying38 HI.out.1 HI.out.2.1 HI.out.2.2.1 HI.out.2.2.2 rfl (by decide) _ _ _ (by first | rfl | simp [Act.eval, Act.put]) own2 _ 1 1 [.int .i64 y] (by first | rfl | simp [Act.eval, Act.put]) rfl hc3 (one_one y) (by unfold maxLen; omega) (by omega) hb3.size ?_
        intro v2 W4 own4 grow4 nil4
        have hb4 := hb3.grown grow4 hb3.size (fun r e => (own2.lt r e).1)
        refine hK.out _ _ ?_ (fun hHeld => ?_)
        · (try exact True.intro)
        have hv2 : v2 ≠ .slice none 0 0 := fun e => by have := (nil4.1 e).2; omega
        clear hK K2 hHeld grow4 nil4 hc3 own2 hb3
        try simp only [Act.put, List.setIfInBounds_toArray, List.set_cons_zero, List.set_cons_succ]
        refine rh.go_next (i := 11) rfl (by kernel_rfl) (fun K2 hK => ?_)
        refine sa.step_append_own rfl _ _ 38 rfl W.heap.size 3 i0 (.int .i64 0) 1 8 Try.underlying38 HI.out.1 HI.out.2.1 HI.out.2.2.1 HI.out.2.2.2 rfl (by decide) _ _ _ (by first | rfl | simp [Act.eval, Act.put]) own4 ⟨g, o, none⟩ (m - j) (cp - j) ((L.drop j).map (Value.int .i64)) (by first | rfl | simp [Act.eval, Act.put]) HDl.out (drop_cells (HS0.out _ hb4) HDr.out) (strs_one _) (by unfold maxLen; omega) (by omega) hb4.size ?_
        intro v3 W5 own5 grow5 nil5
        have hb5 := hb4.grown grow5 hb4.size (fun r e => (own4.lt r e).1)
        refine hK.out _ _ ?_ (fun hHeld => ?_)
        · (try exact True.intro)
        have hv3 : v3 ≠ .slice none 0 0 := fun e => hv2 (nil5.1 e).1
        clear hK K2 hHeld grow5 nil5 own4 hb4
        try simp only [Act.put, List.setIfInBounds_toArray, List.set_cons_zero, List.set_cons_succ]
        refine rh.go_last rfl (by kernel_rfl) (fun K2 hK => ?_)
        go_simp
        refine hK.out _ _ ?_
        refine NoPanic.normal ?_
        clear hK K2
        have HO5 := Lib.hid own5
        have HB5 := Lib.hid hb5
        clear own5 hb5
        go_wp2_with fail
        go_ret
        exact ⟨v3, rfl, by rw [HIn.out]; exact owns_of HO5.out (Nat.le_trans HBl.out hBW2.size) hv3 HM.out hjm2, hBW2.trans (HB5.out.mono hBW2.size)⟩
end Go.Proofs.Ytlpgldejmdiceaa.pti
