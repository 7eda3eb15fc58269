/- The ports of a link: impl.portsOn, walked. -/
import Derived.Test.YtlhickjlcmiknaaQf
import Derived.RangeFuncWrites
import Derived.RangeFuncNested
namespace Go.Proofs.Ytlhickjlcmiknaa.pon
open kit bg opn strs only hb sg sig isig un gd inn ht hi cf pt ptm lf ib rs rt pts ha rp psp
open Go.RowKit
set_option linter.unusedVariables false
attribute [local go_sem] Oper.semAt_some

/-- append to a row of the call's own, inside a fence: and where the new row lies -/
theorem append_at {F : Fence} {n : Nat} {P : Program} (w : World) {ops : Array Oper} {rest : List Oper} {o : Oper} {a : Act} {Q : Exit → Act → World → Prop}
    (hg : o.guard = none) (s x : Operand) (t : TypeId) (hop : o.op = Op.call { callee := Callee.builtin Builtin.append, args := #[s, x], argTypes := #[t, t] })
    (base : Nat) (e : TypeId) (i : TypeInfo) (z : Value) (size bytes : Nat) (h1 : P.underlying t = some (.slice e)) (h2 : P.info? e = some i) (h3 : i.zero = some z) (h4 : i.size = size) (h5 : i.bytes = bytes) (h6 : z.cells.size = size) (h7 : 0 < size)
    (v : Value) (k : Nat) (xs : List Value) (hs : a.eval s = v) (hown : w.ownsRow base e size v k xs) (ad : Addr) (m c : Nat) (news : List Value) (hx : a.eval x = .slice (some ad) m c) (hn : news.length = m * size)
    (hc : ∀ j u, news[j]? = some u → w.cell? (ad.add j) = some u) (h1c : ∀ u ∈ news, u.oneCell' = true) (b1 : k + m ≤ maxLen) (b2 : (k + m) * bytes ≤ 140737488355328) (b3 : base ≤ w.heap.size)
    (hK : ∀ v' w', w'.ownsRow base e size v' (k + m) (xs ++ news) → w.grownBy w' v.ownBlock → (v' = .slice none 0 0 ↔ v = .slice none 0 0 ∧ m = 0) → wpListIn F n P ops Q rest (a.put o.dst v') w') :
    wpListIn F n P ops Q (o :: rest) a w := by
  refine wpListIn_plain hg fun K hK' => ?_
  obtain ⟨v', w', hrun, r1, r2, r3, r4⟩ := run_append_own_at (P := P) w base t o.type e i z size bytes h1 h2 h3 h4 h5 h6 h7 v k xs hown ad m c news hn hc h1c b1 b2 b3
  unfold Oper.wpIn
  refine ⟨?_, ?_⟩
  · simp [Oper.about, hop, resolve, Target.leads, Sem.run_pure]
  · rw [Oper.semAt_plain F _ _ (by rw [hop]; intro c hc'; cases hc')]
    simp [execOp, hop, resolve, invoke, builtin, hs, hx, hrun, Result.andThen]
    exact hK' _ _ (hK v' w' r1 r2 r3)

set_option maxRecDepth 100000 in
set_option maxHeartbeats 6400000 in
theorem pon_any (v : Value) (b : Big) (z : Int) (w : World) (hv : BigAt w w.heap.size v b) (hn1 : b.nodes.length ≤ 1048576) (hlk : ∀ x ∈ b.nodes, x.links.length ≤ 1048576) (hnp : (ports b.nodes).length ≤ 24) :
    Calls Try.prog 66 #[v, .int .i64 z] w fun e w' => ∃ u, e = .returned u ∧ OwnsP w' w.heap.size u (onL z (ports b.nodes)) ∧ Below w.heap.size w w' := by
  obtain ⟨i0, hi0, hz0, hz1, hz2⟩ := info_parts a2_info
  have HI := Lib.hid (And.intro hi0 (And.intro hz0 (And.intro hz1 hz2)))
  clear hi0 hz0 hz1 hz2
  obtain ⟨A1, n1, c1, A2, n2, c2, A4, n4, c4, A5, n5, c5, rfl, h1, h2, h4, h5⟩ := hv
  obtain ⟨W, hW⟩ : ∃ W, (((w.alloc (.cells #[.int .i64 b.roots, .slice A1 n1 c1, .slice A2 n2 c2, .int .i64 b.edges, .slice A4 n4 c4, .slice A5 n5 c5] 38)).alloc (.cells #[.int .i64 z] 3)).alloc (.cells #[] 87)).alloc (.cells #[.slice (some ⟨w.heap.size + 1 + 1, 0, none⟩) 0 0] 50) = W := ⟨_, rfl⟩
  have hWz : W.heap.size = w.heap.size + 4 := by rw [← hW]; simp
  have HB1 : Below w.heap.size w W := by rw [← hW]; exact ((((Below.refl _ w).alloc (Nat.le_refl _) _).alloc (by simp) _).alloc (by simp; omega) _).alloc (by simp; omega) _
  have HBox : Hid (BoxAt W w.heap.size 38 (.int .i64 b.roots) (.slice A1 n1 c1) (.slice A2 n2 c2) (.int .i64 b.edges) (.slice A4 n4 c4) (.slice A5 n5 c5)) := Lib.hid (by
    rw [← hW]
    refine BoxAt.below (six_new w _ _ _ _ _ _ _) (B := w.heap.size + 1) ((((Below.refl _ _).alloc (by simp) _).alloc (by simp) _).alloc (by simp) _) (by omega))
  have bL : Boxed W (w.heap.size + 1) 3 (.int .i64 z) := by
    rw [← hW]
    have := Boxed.new (w.alloc (.cells #[.int .i64 b.roots, .slice A1 n1 c1, .slice A2 n2 c2, .int .i64 b.edges, .slice A4 n4 c4, .slice A5 n5 c5] 38)) 3 (.int .i64 z)
    rw [World.size_alloc] at this
    exact (this.alloc _).alloc _
  have bS : Boxed W (w.heap.size + 3) 50 (.slice (some ⟨w.heap.size + 1 + 1, 0, none⟩) 0 0) := by
    rw [← hW]
    have := Boxed.new (((w.alloc (.cells #[.int .i64 b.roots, .slice A1 n1 c1, .slice A2 n2 c2, .int .i64 b.edges, .slice A4 n4 c4, .slice A5 n5 c5] 38)).alloc (.cells #[.int .i64 z] 3)).alloc (.cells #[] 87)) 50 (.slice (some ⟨w.heap.size + 1 + 1, 0, none⟩) 0 0)
    simpa using this
  have hrw : W.ownsRow (w.heap.size + 2) 87 2 (.slice (some ⟨w.heap.size + 1 + 1, 0, none⟩) 0 0) 0 [] := by
    rw [← hW]
    have := World.ownsRow_made (base := w.heap.size + 2) (e := 87) (size := 2) ((w.alloc (.cells #[.int .i64 b.roots, .slice A1 n1 c1, .slice A2 n2 c2, .int .i64 b.edges, .slice A4 n4 c4, .slice A5 n5 c5] 38)).alloc (.cells #[.int .i64 z] 3)) #[] 0 (by simp) (by unfold maxLen; omega) (by simp)
    simpa using this.alloc (.cells #[.slice (some ⟨w.heap.size + 1 + 1, 0, none⟩) 0 0] 50)
  have HWq := Lib.hid hW
  have l1 := h1.1
  have HLk := Lib.hid hlk
  have HBel := Lib.hid HB1
  have HbL := Lib.hid bL
  have HbS := Lib.hid bS
  have HRow := Lib.hid hrw
  have hN8 := h1.below HB1
  obtain ⟨x0, x1, x2, x3, x4, x5⟩ := HBox.out.get
  rw [l1] at hn1
  clear hW hlk HB1 bL bS hrw h2 h4 h5
  refine callsIn_wide (n := 8) |>.1 ?_
  refine callsIn_of_wp_marks Try.func66 rfl trivial ?_ rfl
  simp only [Try.ntmps66, List.size_toArray, List.length_cons, List.length_nil, Nat.reduceAdd, Nat.reduceSub, Array.replicate_succ, Array.replicate_zero, List.push_toArray, List.append_toArray, List.nil_append, List.cons_append]
  refine wpIn_wide.2 ?_
  go_wp2_with fail
  rw [HWq.out]
  refine ((callsIn_wide (n := 8)).1 (portsOf_in Fence.wide 8 trivial rfl #[.int .i64 b.roots, .slice A1 n1 c1, .slice A2 n2 c2, .int .i64 b.edges, .slice A4 n4 c4, .slice A5 n5 c5] rfl W)).mono ?_
  rintro e W0 ⟨rfl, hw8⟩
  have hbx : Hid (BoxAt W0 W.heap.size 38 (.int .i64 b.roots) (.slice A1 n1 c1) (.slice A2 n2 c2) (.int .i64 b.edges) (.slice A4 n4 c4) (.slice A5 n5 c5)) := Lib.hid (by rw [hw8]; exact six_new W _ _ _ _ _ _ _)
  have hb8 : Below W.heap.size W W0 := by rw [hw8]; exact (Below.refl _ _).alloc (Nat.le_refl _) _
  have hz8 : W0.heap.size = W.heap.size + 1 := by rw [hw8]; simp
  have HbL8 := Lib.hid ((hb8.block _ (by omega)).trans HbL.out)
  have HbS8 := Lib.hid ((hb8.block _ (by omega)).trans HbS.out)
  have HRow8 : Hid (W0.ownsRow (w.heap.size + 2) 87 2 (.slice (some ⟨w.heap.size + 1 + 1, 0, none⟩) 0 0) 0 []) := Lib.hid (by rw [hw8]; exact HRow.out.alloc _)
  have HB8 := Lib.hid (HBel.out.trans (hb8.mono (by omega)))
  have hN9 := h1.below HB8.out
  rw [hWz] at hbx hz8
  clear hw8 hb8 x0 x1 x2 x3 x4 x5 hN8
  go_wp2_with fail
  refine wpIn_wide (n := 8) |>.1 ?_
  refine' wpIn_rangeFunc_ownH rfl (by omega) (gf := 105) (lb := #[.pointer (some ⟨w.heap.size + 4, 0, none⟩)]) rfl trivial (enters_of Try.func105 (by kernel_rfl) rfl)
    (ports_stopsM Fence.wide 7 trivial rfl (by omega) (w.heap.size + 4) w.heap.size A1 n1 c1 b.nodes W0 (by omega) (by omega) (hbx.out.get).2.1 hN9 (by omega) HLk.out) belowK_t (belowK_b (by omega)) (Below.refl _ _) (fun _ => rfl)
    (fun pre W' => (∃ u, Boxed W' (w.heap.size + 1 + 1 + 1) 50 u ∧ W'.ownsRow (w.heap.size + 2) 87 2 u (onL z (pre.map PortOf.val)).length (ptc (onL z (pre.map PortOf.val))) ∧ u ≠ .slice none 0 0) ∧ Below (w.heap.size + 2) W0 W')
    (fun _ _ _ => False)
    (OwnFrom.and (Own.from (holdsRow_own (w.heap.size + 2) (w.heap.size + 1 + 1 + 1) 50 87 2 (fun pre : List (PortOf b.nodes) => (onL z (pre.map PortOf.val)).length) (fun pre => ptc (onL z (pre.map PortOf.val))) (fun _ u => u ≠ .slice none 0 0)) _) (ownFrom_below (by omega) (by omega)))
    (fun _ _ _ _ _ hs _ _ => hs)
    ⟨⟨_, HbS8.out, HRow8.out, by simp⟩, Below.refl _ _⟩
    (fun x a' W' => ∃ q, W'.heap[q]? = some (.cells #[.int .i64 (x.val.1 : Nat), .int .i64 (x.val.2.1 : Nat)] 87) ∧ a' = { tmps := #[.agg #[.int .i64 b.roots, .slice A1 n1 c1, .slice A2 n2 c2, .int .i64 b.edges, .slice A4 n4 c4, .slice A5 n5 c5], .int .i64 z, .pointer (some ⟨w.heap.size, 0, none⟩), .pointer (some ⟨w.heap.size + 1, 0, none⟩), .slice none 0 0, .pointer (some ⟨w.heap.size + 1 + 1 + 1, 0, none⟩), .pointer (some ⟨q, 0, none⟩), .int .i64 x.val.2.2, .slice (some ⟨w.heap.size + 1 + 1, 0, none⟩) 0 0, .agg #[.int .i64 b.roots, .slice A1 n1 c1, .slice A2 n2 c2, .int .i64 b.edges, .slice A4 n4 c4, .slice A5 n5 c5], .func (.func 105) #[] #[.pointer (some ⟨w.heap.size + 4, 0, none⟩)], .agg #[.int .i64 (x.val.1 : Nat), .int .i64 (x.val.2.1 : Nat)], .int .i64 x.val.2.2, undef, undef, undef, undef, undef, undef, undef, undef], defers := [] })
    (fun x a' _ X Y row hs hg hr => by
      obtain ⟨q, hq, e⟩ := hs
      refine ⟨q, (hg.block q (Array.getElem?_eq_some_iff.1 hq).1 (fun e2 => ?_)).trans hq, e⟩
      obtain ⟨-, o, ho, hc⟩ := hr q e2.symm
      rw [hq] at ho
      injection ho with ho
      subst ho
      cases hc)
    ?assign ?body ?done ?stop
  case assign =>
    rintro l pre x W' K ⟨⟨u, hbu, hru, hnn⟩, hB⟩ hK
    have hsz := hB.size
    dsimp only [encP]
    gi_wp2
    exact hK _ _ ((KeepsOthers.alloc _ _).from _) ((Below.refl _ W').alloc (by omega) _) ⟨⟨u, hbu.alloc _, hru.alloc _, hnn⟩, hB.alloc (by omega) _⟩ ⟨W'.heap.size, World.alloc_heap_new _ _, rfl⟩
  case body =>
    rintro l pre x a' W' hl - ⟨⟨u, hbu, hru, hnn⟩, hB⟩ ⟨q, hq, rfl⟩ hlt
    have hsz := hB.size
    have hbs : w.heap.size + 2 ≤ W'.heap.size := by omega
    have c6 := hbu.cell
    have bL' := (hB.block _ (by omega)).trans HbL8.out
    have c7 := Boxed.cell (show Boxed W' (w.heap.size + 1) 3 (.int .i64 z) from bL')
    have hmp : (pre ++ [x]).map PortOf.val = pre.map PortOf.val ++ [x.val] := by simp
    have hol := onL_len z (pre.map PortOf.val)
    rw [List.length_map] at hol
    have hpl : pre.length ≤ 24 := by omega
    obtain ⟨k, j, l2, hx⟩ : ∃ k j l2, x.val = (k, j, l2) := ⟨_, _, _, rfl⟩
    rw [hx] at hq hmp
    rw [hx]
    dsimp only at hq ⊢
    have q0 : W'.cell? ⟨q, 0, none⟩ = some (.int .i64 (k : Nat)) := by simp [World.cell?, hq]
    have q1 : W'.cell? ⟨q, 1, none⟩ = some (.int .i64 (j : Nat)) := by simp [World.cell?, hq]
    have HM := Lib.hid hmp
    have HBb := Lib.hid hB
    clear hmp hB bL' hlt hx
    by_cases heq : l2 = z
    · have hs1 : onL z (pre.map PortOf.val ++ [(k, j, l2)]) = onL z (pre.map PortOf.val) ++ [(k, j, l2)] := onL_yes heq
      obtain ⟨P, hP⟩ : ∃ P, onL z (pre.map PortOf.val) = P := ⟨_, rfl⟩
      rw [hP] at hs1 hol hru
      obtain ⟨m, hm⟩ : ∃ m, P.length = m := ⟨_, rfl⟩
      rw [hm] at hol hru
      obtain ⟨D, hD⟩ : ∃ D, ptc P = D := ⟨_, rfl⟩
      rw [hD] at hru
      have HS1 := Lib.hid hs1
      have HMl := Lib.hid hm
      have HDl := Lib.hid hD
      have HBu := Lib.hid hbu
      clear hs1 hP hm hD hq
      gi_wp2_with (gi_at_builtin; refine append_at _ rfl _ _ 50 rfl (w.heap.size + 2) 87 i0 (.agg #[.int .i64 0, .int .i64 0]) 2 16 Try.underlying50 HI.out.1 HI.out.2.1 HI.out.2.2.1 HI.out.2.2.2 rfl (by decide) _ _ _ rfl (hru.alloc _) ⟨W'.heap.size, 0, none⟩ 1 1 [.int .i64 (k : Int), .int .i64 (j : Int)] rfl rfl (cell_two_new _ _ _ _) (fun x hx => by simp at hx; rcases hx with rfl | rfl <;> rfl) (by unfold maxLen; omega) (by omega) (by simp; omega) ?_; intro v1 w1 hown1 hgrow1 hnil1; clear hnil1; obtain ⟨g', cap', rfl⟩ := ownsRow_succ hown1; obtain ⟨hv1, hv2, hr2, hk2, hb2⟩ := HBu.out.appended (by decide) hru hbs (by omega) hown1 hgrow1; have hc1 := hv1.cell; have hf1 := hv1.frozen)
      refine ⟨hk2.from _, hb2.mono (by omega), ⟨_, hv2, ?_, by simp⟩, HBb.out.trans hb2⟩
      rw [HM.out, HS1.out, ptc_snoc, HDl.out, List.length_append, List.length_singleton, HMl.out]
      exact hr2
    · have hs1 : onL z (pre.map PortOf.val ++ [(k, j, l2)]) = onL z (pre.map PortOf.val) := onL_no heq
      have HS1 := Lib.hid hs1
      have HBu := Lib.hid (And.intro hbu (And.intro hru hnn))
      clear hs1 hbu hru hnn hq hol
      gi_wp2
      refine ⟨KeepsFrom.refl _ _, Below.refl _ _, ⟨u, HBu.out.1, ?_, HBu.out.2.2⟩, HBb.out⟩
      rw [HM.out, HS1.out]
      exact HBu.out.2.1
  case done =>
    rintro D ys W' hD hys ⟨⟨u, hbu, hru, hnn⟩, hB⟩ hK
    have hys' : ys.map PortOf.val = ports b.nodes := hys
    rw [hys'] at hru
    have c6 := hbu.cell
    have hsz := hB.size
    have HK := Lib.hid hK
    have HRu := Lib.hid (And.intro hru hnn)
    have HBb := Lib.hid (HB8.out.trans (hB.mono (by omega)))
    have hDW : w.heap.size ≤ D := by omega
    clear hys hys' hru hnn hB hK hbx
    go_wp2_with fail
    refine ⟨by simp, .inl ⟨_, _, rfl, run_takeDeferred HK.out, ?_⟩⟩
    refine ⟨_, results_tmp rfl _ _ _, ?_⟩
    exact ⟨u, rfl, OwnsP.mono ⟨ownsRow_putObj HRu.out.1 _ HK.out rfl, HRu.out.2⟩ (by omega), HBb.out.trans (belowK_b (w := w) (Nat.le_refl _) _ D _ _ hDW HK.out rfl rfl)⟩
  case stop =>
    rintro D c pre W' _ _ h _
    exact h.elim
end Go.Proofs.Ytlhickjlcmiknaa.pon
