/- The idle links: impl.IdleLinks, walked. -/
import Derived.Test.YtifialdkjnmfoaaIdi
import Derived.Test.YtifialdkjnmfoaaPtm
import Derived.RangeFuncWrites
import Derived.RangeFuncNested
namespace Go.Proofs.Ytifialdkjnmfoaa.idm
open Go.Maps (Keyed)
open kit bg opn strs only over hb sg sig isig un gd inn ht hi cf pt ptm lf ib rs rt pts psp chd idl mapb idi
open Go.RowKit
set_option linter.unusedVariables false
attribute [local go_sem] Oper.semAt_some

theorem wf_port {b : Big} (h : BigW b) {p : Port} (hp : p ∈ ports b.nodes) : (Lit.int .i64 p.2.2).wf = true := by
  obtain ⟨k, x, i, hx, hl⟩ := mem_prtsTo hp
  exact (h.2.2.2.1 x (List.mem_of_getElem? hx)).2.2.2 _ (List.mem_of_getElem? hl)

theorem wf_wire {b : Big} (h : BigW b) {x : Wr} (hx : x ∈ b.inner) : (Lit.int .i64 x.link).wf = true := by
  obtain ⟨-, -, -, -, -, -, -, -, -, hwi⟩ := h
  exact (hwi x hx).2
theorem wf_small : ∀ k : Nat, k < 25 → (Lit.int .i64 (k : Int)).wf = true := by decide

set_option maxRecDepth 100000 in
set_option maxHeartbeats 6400000 in
theorem iIdl_any (A : Option Addr) (n c : Nat) (cs : List Ctl) (v : Value) (b : Big) (w : World) (hC : CtlsAt w w.heap.size A n cs) (hv : BigAt w w.heap.size v b) (hn : n ≤ 1048576) (hs : ∀ c ∈ cs, c.name.size ≤ 1048576) (hS : BigS b) (hw : BigW b) :
    Calls Try.prog 186 #[.slice A n c, v] w (ResPost 3 (bigB cs b) ((idlR cs b).map (Value.int .i64)) w) := by
  obtain ⟨i0, hi0, hz0, hz1, hz2⟩ := info_parts int_info
  have HI := Lib.hid (And.intro hi0 (And.intro hz0 (And.intro hz1 hz2)))
  clear hi0 hz0 hz1 hz2
  obtain ⟨A1, n1, c1, A2, n2, c2, A4, n4, c4, A5, n5, c5, rfl, h1, h2, h4, h5⟩ := hv
  have HBox : Hid (BoxAt (w.alloc (.cells #[.int .i64 b.roots, .slice A1 n1 c1, .slice A2 n2 c2, .int .i64 b.edges, .slice A4 n4 c4, .slice A5 n5 c5] 39)) w.heap.size 39 (.int .i64 b.roots) (.slice A1 n1 c1) (.slice A2 n2 c2) (.int .i64 b.edges) (.slice A4 n4 c4) (.slice A5 n5 c5)) := Lib.hid (six_new w _ _ _ _ _ _ _)
  have HB0 := Lib.hid ((Below.refl w.heap.size w).alloc (Nat.le_refl _) (.cells #[.int .i64 b.roots, .slice A1 n1 c1, .slice A2 n2 c2, .int .i64 b.edges, .slice A4 n4 c4, .slice A5 n5 c5] 39))
  obtain ⟨W, hW⟩ : ∃ W, w.alloc (.cells #[.int .i64 b.roots, .slice A1 n1 c1, .slice A2 n2 c2, .int .i64 b.edges, .slice A4 n4 c4, .slice A5 n5 c5] 39) = W := ⟨_, rfl⟩
  have hWz : W.heap.size = w.heap.size + 1 := by rw [← hW]; simp
  rw [hW] at HBox HB0
  have HWq := Lib.hid hW
  have hWs : w.heap.size < W.heap.size := by omega
  have hVW : BigAt W W.heap.size (.agg #[.int .i64 b.roots, .slice A1 n1 c1, .slice A2 n2 c2, .int .i64 b.edges, .slice A4 n4 c4, .slice A5 n5 c5]) b := BigAt.wide (BigAt.below ⟨_, _, _, _, _, _, _, _, _, _, _, _, rfl, h1, h2, h4, h5⟩ HB0.out) HB0.out.size
  clear hW hWz
  have C := isBig_any A n c cs _ b W ((hC.below HB0.out).wide HB0.out.size) hVW hn hs hS hw
  obtain ⟨x0, x1, x2, x3, x4, x5⟩ := HBox.out.get
  have l1 := h1.1
  have l4 := h4.strlen
  have l5 := h5.1
  have HW := Lib.hid hw
  have HLk := Lib.hid hS.2.1
  clear hS hw hVW hs
  refine callsIn_wide (n := 8) |>.1 ?_
  refine callsIn_of_wp_marks Try.func186 rfl trivial ?_ rfl
  simp only [Try.ntmps186, List.size_toArray, List.length_cons, List.length_nil, Nat.reduceAdd, Nat.reduceSub, Array.replicate_succ, Array.replicate_zero, List.push_toArray, List.append_toArray, List.nil_append, List.cons_append]
  refine wpIn_wide.2 ?_
  cases hq : bigB cs b with
  | false =>
    rw [hq] at C
    have HR := Lib.hid (idlR_no hq)
    clear hq
    go_wp2_with fail
    rw [HWq.out]
    go_wp2_with fail
    refine C.mono ?_
    rintro e w1 ⟨rfl, hb⟩
    have hb1 := HB0.out.trans (hb.mono HB0.out.size)
    clear hb C x0 x1 x2 x3 x4 x5
    go_wp2_with fail
    refine ⟨_, results_tmp2 rfl _ _ _, ?_⟩
    exact ⟨.slice none 0 0, rfl, by rw [HR.out]; exact Res.nil, hb1⟩
  | true =>
    rw [hq] at C
    have h8 := big8 hq
    rw [l1, l4, l5] at h8
    obtain ⟨h81, ⟨h82, h83⟩, h84, h85⟩ := h8
    have hL3 := links3 hq
    have hNp : (ports b.nodes).length ≤ 24 := by
      have h2 := prtsTo_len hL3 b.nodes.length
      have h3 : b.nodes.length * 3 ≤ 8 * 3 := Nat.mul_le_mul_right _ (by omega)
      unfold ports
      omega
    have hR2 := idlR_yes hq
    rw [l4] at hR2
    have HR := Lib.hid hR2
    have hmm := @run_makeMap Try.prog
    clear hq hR2
    go_wp2_with fail
    rw [HWq.out]
    go_wp2_with fail
    refine C.mono ?_
    rintro e w1 ⟨rfl, hb⟩
    have hb1 := HB0.out.trans (hb.mono HB0.out.size)
    have hs1 : w.heap.size < w1.heap.size := Nat.lt_of_lt_of_le hWs hb.size
    have HBx1 := Lib.hid (HBox.out.below hb hWs)
    clear hb C x0 x1 x2 x3 x4 x5
    obtain ⟨x0, x1, x2, x3, x4, x5⟩ := HBx1.out.get
    go_wp2_with fail
    clear hmm
    have hset0 := SetAt.made w1 Try.prog 3 4
    have hbx0 := Boxed.new (w1.alloc (.map #[] 0)) 159 (.map (some w1.heap.size))
    rw [World.size_alloc] at hbx0
    have hb2 := ((Below.refl w1.heap.size w1).alloc (Nat.le_refl _) (.map #[] 0)).alloc (by simp) (.cells #[.map (some w1.heap.size)] 159)
    have hset1 := hset0.kept (World.grownBy_alloc (w1.alloc (.map #[] 0)) (.cells #[.map (some w1.heap.size)] 159) none) (by simp)
    obtain ⟨w2, hw2⟩ : ∃ w2, (w1.alloc (.map #[] 0)).alloc (.cells #[.map (some w1.heap.size)] 159) = w2 := ⟨_, rfl⟩
    have hz2 : w2.heap.size = w1.heap.size + 2 := by rw [← hw2]; simp
    rw [hw2] at hbx0 hb2 hset1 ⊢
    clear hw2 hset0
    refine ((callsIn_wide (n := 8)).1 (portsOf_in Fence.wide 8 trivial rfl #[.int .i64 b.roots, .slice A1 n1 c1, .slice A2 n2 c2, .int .i64 b.edges, .slice A4 n4 c4, .slice A5 n5 c5] rfl w2)).mono ?_
    rintro e w8 ⟨rfl, hw8⟩
    have hbx : Hid (BoxAt w8 w2.heap.size 39 (.int .i64 b.roots) (.slice A1 n1 c1) (.slice A2 n2 c2) (.int .i64 b.edges) (.slice A4 n4 c4) (.slice A5 n5 c5)) := Lib.hid (by rw [hw8]; exact six_new w2 _ _ _ _ _ _ _)
    have hb28 : Below w2.heap.size w2 w8 := by rw [hw8]; exact (Below.refl _ _).alloc (Nat.le_refl _) _
    have hz8 : w8.heap.size = w2.heap.size + 1 := by rw [hw8]; simp
    have hset8 := hset1.below hb28 (by omega)
    have hbx8 : Boxed w8 (w1.heap.size + 1) 159 (.map (some w1.heap.size)) := (hb28.block _ (by omega)).trans hbx0
    have hb18 := hb2.trans (hb28.mono (by omega))
    have hbw8 := hb1.trans (hb18.mono hb1.size)
    have HSet8 := Lib.hid (hset8.congr (S' := Busy [] b.inner 0) (fun l => ⟨fun h => h.elim, fun h => by rcases h with ⟨p, hp, _⟩ | ⟨j, x, hj, _⟩ <;> first | cases hp | omega⟩))
    have HB18 := Lib.hid hb18
    have HBx8 := Lib.hid hbx8
    have hN8 := h1.below hbw8
    have hβ : w2.heap.size < w8.heap.size := by omega
    have hw1s : w.heap.size ≤ w1.heap.size := hb1.size
    rw [hz2] at hbx hβ hz8
    clear hw8 hset1 hset8 hbx0 hbx8 hb2 hb28 x0 x1 x2 x3 x4 x5
    go_wp2_with fail
    refine wpIn_wide (n := 8) |>.1 ?_
    refine' wpIn_rangeFunc_ownG rfl (by omega) (gf := 157) (lb := #[.pointer (some ⟨w1.heap.size + 2, 0, none⟩)]) rfl trivial (enters_of Try.func157 (by kernel_rfl) rfl)
      (ports_stopsM Fence.wide 7 trivial rfl (by omega) (w1.heap.size + 2) w.heap.size A1 n1 c1 b.nodes w8 hβ (by omega) (hbx.out.get).2.1 hN8 (by omega) HLk.out) belowK_t (belowK_b (by omega)) (Below.refl _ _) (fun _ => rfl)
      (fun pre W' => SetAt Try.prog 3 4 W' w1.heap.size pre.length (Busy (pre.map PortOf.val) b.inner 0) ∧ Boxed W' (w1.heap.size + 1) 159 (.map (some w1.heap.size)) ∧ Below w1.heap.size w1 W')
      (fun _ _ _ => False)
      (OwnFrom.and (fun s A B row hs hg hr => hs.kept hg (fun e => by have := (hr _ e.symm).1; omega)) (OwnFrom.and (fun s A B row hs hg hr => hs.kept hg (fun e => by have := (hr _ e.symm).1; omega)) (ownFrom_below (Nat.le_refl _) (by omega))))
      (fun _ _ _ _ _ hs _ _ => hs)
      ⟨by simpa using HSet8.out, HBx8.out, HB18.out⟩ _ ?assign ?body ?done ?stop
    case assign =>
      intro l x W' K hK
      dsimp only [encP]
      gi_wp2
      exact hK
    case body =>
      rintro l pre x W' ⟨hset, hbxw, hB⟩ hlt
      have hsz := hB.size
      have c6 := hbxw.cell
      have HKey := Lib.hid (keyI (wf_port HW.out x.2))
      have HBxw := Lib.hid hbxw
      have HBb := Lib.hid hB
      have hpl : pre.length ≤ 24 := by omega
      obtain ⟨z, hz⟩ : ∃ z, x.val.2.2 = z := ⟨_, rfl⟩
      have HKz : Hid (keyOf Try.prog 3 (.int .i64 z) = some (.int .i64 z)) := Lib.hid (by rw [← hz]; exact HKey.out)
      have HZ := Lib.hid hz
      rw [hz]
      clear hbxw hB HKey hz
      gi_wp2_with (gi_at_mapUpdate; refine wpListIn_store_set _ rfl _ _ _ 159 rfl 3 4 lawI Try.underlying159 Try.underlying4 w1.heap.size pre.length _ rfl hset (by unfold maxLen; omega) _ true _ rfl rfl HKz.out trivial ?_; intro w3 hset3 hg3)
      refine ⟨KeepsFrom.of_grownBy hg3 (fun j e => by injection e with e; omega), (Below.refl W'.heap.size W').mono hsz |>.mono (by omega) |>.grown hg3 (by omega) (fun r e => by injection e with e; omega), ?_, HBxw.out.kept hg3 (by simp), HBb.out.grown hg3 hsz (fun r e => by injection e with e; omega)⟩
      rw [List.length_append, List.length_singleton]
      refine hset3.congr (fun l' => ?_)
      rw [List.map_append]
      constructor
      · rintro (⟨e, -⟩ | ⟨-, h⟩)
        · exact .inl ⟨x.val, by simp, by rw [e, HZ.out]⟩
        · rcases h with ⟨p, hp, e⟩ | ⟨j, y, hj, _⟩
          · exact .inl ⟨p, List.mem_append_left _ hp, e⟩
          · omega
      · rintro (⟨p, hp, e⟩ | ⟨j, y, hj, _⟩)
        · by_cases e2 : l' = .int .i64 z
          · exact .inl ⟨e2, by first | rfl | trivial⟩
          · refine .inr ⟨e2, .inl ⟨p, ?_, e⟩⟩
            rcases List.mem_append.1 hp with h | h
            · exact h
            · exfalso
              have : p = x.val := by simpa using h
              rw [this, HZ.out] at e
              exact e2 e
        · omega
    case done =>
      rintro D ys W' hD hys ⟨hset, hbxw, hB⟩ hK
      have hys' : ys.map PortOf.val = ports b.nodes := hys
      have hlen : ys.length = (ports b.nodes).length := by rw [← hys', List.length_map]
      rw [hys', hlen] at hset
      obtain ⟨np, hnp⟩ : ∃ np, (ports b.nodes).length = np := ⟨_, rfl⟩
      rw [hnp] at hset hNp
      have HSet := Lib.hid hset
      have HBxw := Lib.hid hbxw
      have HBb := Lib.hid hB
      have HK := Lib.hid hK
      have hDl := lt_of_block hK
      have hDw : w1.heap.size + 2 ≤ D := by omega
      obtain ⟨x0, x1, x2, x3, x4, x5⟩ := (HBx1.out.below hB hs1).get
      clear hys hys' hlen hset hbxw hB hK hnp
      go_wp2_with fail
      clear x0 x1 x2 x3 x4 x5
      go_loopw [27] (fun i wr => ∃ k : Nat, k ≤ n5 ∧ i = .int .i64 k ∧ SetAt Try.prog 3 4 wr w1.heap.size (np + k) (Busy (ports b.nodes) b.inner k) ∧ Boxed wr (w1.heap.size + 1) 159 (.map (some w1.heap.size)) ∧ wr.heap[D]? = some (.deferred (some [])) ∧ Below w1.heap.size w1 wr) (fun i _ => n5 - (intOf i).toNat)
      case atStart => exact ⟨0, Nat.zero_le _, rfl, HSet.out, HBxw.out, HK.out, HBb.out⟩
      case round =>
        obtain ⟨k, hk, rfl, hset, hbxw, hK, hB⟩ := hrel
        have hbw := hb1.trans (hB.mono hb1.size)
        have hsz := hB.size
        have hDl := lt_of_block hK
        by_cases hlt : k < n5
        · obtain ⟨b2, off, x, rfl, hbb, hx, c0, c1'⟩ := h5.get hlt
          have d0 := (hbw.cell (p := ⟨b2, off + k * 2, none⟩) hbb).trans c0
          have d1 := (hbw.cell (p := ⟨b2, off + k * 2 + 1, none⟩) hbb).trans c1'
          have hwx : (Lit.int .i64 x.link).wf = true := wf_wire HW.out (List.mem_of_getElem? hx)
          have hset1 := hset.kept (World.grownBy_alloc wr (.cells #[.string x.name, .int .i64 x.link] 87) none) (by simp)
          have hbx1 := hbxw.kept (World.grownBy_alloc wr (.cells #[.string x.name, .int .i64 x.link] 87) none) (by simp)
          have hB1 := hB.alloc hsz (.cells #[.string x.name, .int .i64 x.link] 87)
          have hK1 := (((Below.refl wr.heap.size wr).alloc (Nat.le_refl _) (.cells #[.string x.name, .int .i64 x.link] 87)).block D hDl).trans hK
          have c6 := hbxw.cell
          have hbl := hbxw.lt
          obtain ⟨z, hz⟩ : ∃ z, x.link = z := ⟨_, rfl⟩
          have HX := Lib.hid hx
          have HZ := Lib.hid hz
          rw [hz] at d1 hwx hset1 hbx1 hB1 hK1
          have HKey := Lib.hid (keyI hwx)
          have HS1 := Lib.hid hset1
          have HX1 := Lib.hid hbx1
          have HB1 := Lib.hid hB1
          have HK1 := Lib.hid hK1
          clear hx c0 c1' hz hwx hset hbxw hK hB hset1 hbx1 hB1 hK1
          go_wp2_with (at_mapUpdate; refine wpList_store_set _ rfl _ _ _ 159 rfl 3 4 lawI Try.underlying159 Try.underlying4 w1.heap.size (np + k) _ rfl HS1.out (by unfold maxLen; omega) _ true _ rfl rfl HKey.out trivial ?_; intro w3 hset3 hg3)
          have HS3 := Lib.hid hset3
          have HX3 := Lib.hid (HX1.out.kept hg3 (by simp))
          have HB3 := Lib.hid (HB1.out.grown hg3 (by simp; omega) (fun r e => by injection e with e; omega))
          have HK3 := Lib.hid ((hg3.block D (by simp; omega) (fun e => by injection e with e; omega)).trans HK1.out)
          clear hset3 hg3
          go_wp2_with fail
          go_roundw
          case rel => exact ⟨k + 1, by omega, by go_num, HS3.out.congr (fun l' => by
            constructor
            · rintro (⟨e, -⟩ | ⟨-, h⟩)
              · exact .inr ⟨k, x, by omega, HX.out, by rw [e, HZ.out]⟩
              · rcases h with h | ⟨j, y, hj, hy, e⟩
                · exact .inl h
                · exact .inr ⟨j, y, by omega, hy, e⟩
            · intro h
              by_cases e2 : l' = .int .i64 z
              · exact .inl ⟨e2, by first | rfl | trivial⟩
              · refine .inr ⟨e2, ?_⟩
                rcases h with h | ⟨j, y, hj, hy, e⟩
                · exact .inl h
                · refine .inr ⟨j, y, ?_, hy, e⟩
                  by_cases e3 : j = k
                  · subst e3
                    rw [HX.out] at hy
                    injection hy with hy
                    subst hy
                    rw [HZ.out] at e
                    exact absurd e e2
                  · omega), HX3.out, HK3.out, HB3.out⟩
          case measure => simp [intOf]; omega
        · obtain rfl : n5 = k := by omega
          have HSf := Lib.hid hset
          have HXf := Lib.hid hbxw
          have HKf := Lib.hid hK
          have HBf := Lib.hid hB
          obtain ⟨x0, x1, x2, x3, x4, x5⟩ := (HBx1.out.below hB hs1).get
          have hwwr : w.heap.size < wr.heap.size := by omega
          clear hset hbxw hK hB hbw
          go_wp2_with fail
          clear x0 x1 x2 x3 x4 x5
          rename World => wp
          go_loopw [11, 42] (fun v i wq => ∃ k : Nat, (k : Int) ≤ b.edges + n4 ∧ i = .int .i64 k ∧ Owns wq (w1.heap.size + 2) 3 v ((sel (idleP b) k).map (Value.int .i64)) ∧ SetAt Try.prog 3 4 wq w1.heap.size (np + n5) (Busy (ports b.nodes) b.inner n5) ∧ Boxed wq (w1.heap.size + 1) 159 (.map (some w1.heap.size)) ∧ wq.heap[D]? = some (.deferred (some [])) ∧ Below w1.heap.size w1 wq) (fun _ i _ => (b.edges + n4).toNat - (intOf i).toNat)
          case atStart =>
            exact ⟨0, by omega, rfl, ⟨by
              have := World.ownsRow_made (base := w1.heap.size + 2) (e := 3) (size := 1) wp #[] 0 (by omega) (by unfold maxLen; omega) (by simp)
              simpa [sel] using this, by simp⟩, HSf.out.kept (World.grownBy_alloc wp (.cells #[] 3) none) (by simp), HXf.out.kept (World.grownBy_alloc wp (.cells #[] 3) none) (by simp), (((Below.refl wp.heap.size wp).alloc (Nat.le_refl _) (.cells #[] 3)).block D hDl).trans HKf.out, HBf.out.alloc hsz _⟩
          case round =>
            obtain ⟨k, hk, rfl, ⟨hown, hnn⟩, hset, hbxw, hK, hB⟩ := hrel
            have hbw := hb1.trans (hB.mono hb1.size)
            have hszq := hB.size
            have hDlq := lt_of_block hK
            have hS := busy_iff b (k : Int)
            rw [l5] at hS
            by_cases hlt : (k : Int) < b.edges + n4
            · have hk25 : k < 25 := by omega
              have c6 := hbxw.cell
              have hbl := hbxw.lt
              cases hid : idleB b (k : Int) with
              | false =>
                have hlook := hset.run_true lawI Try.underlying159 Try.underlying4 (zeroB _) (keyI (wf_small k hk25)) trivial (hS.2 hid)
                have hsel := sel_no (P := idleP b) (k := k) hid
                have HOwn := Lib.hid (show Owns wr (w1.heap.size + 2) 3 _ _ from ⟨hown, hnn⟩)
                rw [← hsel] at HOwn
                have HS2 := Lib.hid hset
                have HX2 := Lib.hid hbxw
                have HK2 := Lib.hid hK
                have HB2 := Lib.hid hB
                clear hown hnn hset hbxw hK hB hS hsel hid hbw
                go_wp2_with fail
                go_roundw
                case rel => exact ⟨k + 1, by omega, by go_num, HOwn.out, HS2.out, HX2.out, HK2.out, HB2.out⟩
                case measure => simp [intOf]; omega
              | true =>
                have hlook := hset.run_false lawI Try.underlying159 Try.underlying4 (zeroB _) (keyI (wf_small k hk25)) trivial (fun h => by rw [hS.1 h] at hid; cases hid)
                have hsel := sel_yes (P := idleP b) (k := k) hid
                have hlen := sel_len (idleP b) k
                have hneD : ∀ g, (Value.ownBlock u11 = some g) → g ≠ D := fun g hg e => by
                  rcases hown.2 with ⟨e2, _⟩ | ⟨g2, cap, cur, e2, hbb, hh, _⟩
                  · exact hnn e2
                  · rw [e2] at hg
                    injection hg with hg
                    have hg' : g2 = D := hg.trans e
                    rw [hg', hK] at hh
                    cases hh
                have hln : ((sel (idleP b) k).map (Value.int .i64)).length = (sel (idleP b) k).length := List.length_map _
                rw [hln] at hown
                have HN := Lib.hid hnn
                obtain ⟨L, hL⟩ : ∃ L, (sel (idleP b) k) = L := ⟨_, rfl⟩
                rw [hL] at hown hlen hsel
                have HS0 := Lib.hid hsel
                obtain ⟨m, hm⟩ : ∃ m, L.length = m := ⟨_, rfl⟩
                rw [hm] at hown hlen
                have HM := Lib.hid hm
                obtain ⟨D', hD'⟩ : ∃ D', L.map (Value.int .i64) = D' := ⟨_, rfl⟩
                rw [hD'] at hown
                have HD := Lib.hid hD'
                have HS2 := Lib.hid (hset.kept (World.grownBy_alloc wr (.cells #[.int .i64 (k : Int)] 3) none) (by simp))
                have HX2 := Lib.hid (hbxw.kept (World.grownBy_alloc wr (.cells #[.int .i64 (k : Int)] 3) none) (by simp))
                have HK2 := Lib.hid ((((Below.refl wr.heap.size wr).alloc (Nat.le_refl _) (.cells #[.int .i64 (k : Int)] 3)).block D hDlq).trans hK)
                have HB2 := Lib.hid (hB.alloc hszq (.cells #[.int .i64 (k : Int)] 3))
                have HNe := Lib.hid hneD
                clear hln hnn hsel hL hm hD' hset hbxw hK hB hS hid hbw hneD
                go_wp2_with (at_builtin; refine wpList_append_own _ rfl _ _ 24 rfl (w1.heap.size + 2) 3 i0 (.int .i64 0) 1 8 Try.underlying24 HI.out.1 HI.out.2.1 HI.out.2.2.1 HI.out.2.2.2 rfl (by decide) _ _ _ rfl (hown.alloc _) ⟨wr.heap.size, 0, none⟩ 1 1 [.int .i64 (k : Int)] rfl rfl (cell_one_new _ _ _) (fun x hx => by simp at hx; subst hx; rfl) (by unfold maxLen; omega) (by omega) (by simp; omega) ?_; intro v1 w3 hown1 hgrow1 hnil1)
                have HB3 := Lib.hid (HB2.out.grown hgrow1 (by simp; omega) (fun j hj => by have := (hown.lt j hj).1; omega))
                have HS3 := Lib.hid (HS2.out.kept hgrow1 (fun e => by have := (hown.lt _ e.symm).1; omega))
                have HX3 := Lib.hid (HX2.out.kept hgrow1 (fun e => by have := (hown.lt _ e.symm).1; omega))
                have HK3 := Lib.hid ((hgrow1.block D (by simp; omega) (fun e => HNe.out D (by first | exact e | exact e.symm) rfl)).trans HK2.out)
                have HOwn := Lib.hid hown1
                have HN1 : Hid (v1 ≠ .slice none 0 0) := fun h => HN.out (hnil1.1 h).1
                clear hown1 hgrow1 hnil1 hown
                go_wp2_with fail
                go_roundw
                case rel => exact ⟨k + 1, by omega, by go_num, ⟨by
                  have := HOwn.out
                  rw [HS0.out, List.map_append, HD.out, List.map_cons, List.map_nil, List.length_append, List.length_singleton]
                  have e : D'.length = m := by rw [← HD.out, List.length_map]; exact HM.out
                  rw [e]
                  exact this, HN1.out⟩, HS3.out, HX3.out, HK3.out, HB3.out⟩
                case measure => simp [intOf]; omega
            · have hkE : (b.edges + n4).toNat = k := by omega
              rw [hkE] at HR
              have hres := (Res.of_owns (show Owns wr (w1.heap.size + 2) 3 _ _ from ⟨hown, hnn⟩)).wide (lo' := w.heap.size) (by omega) (Nat.le_refl _)
              have HO := Lib.hid (hres.stay (w' := wr.putObj D (.deferred none)) (fun b f c hr _ _ => World.putObj_heap_other (by
                intro e
                obtain ⟨cc, hh, _⟩ := hr
                rw [e, hK] at hh
                cases hh)))
              have HBq := Lib.hid hbw
              have HKq := Lib.hid hK
              have hDW : w.heap.size ≤ D := by omega
              clear hown hnn hset hbxw hK hB hS hbw hres
              go_wp2_with fail
              refine ⟨by simp, .inl ⟨_, _, rfl, run_takeDeferred HKq.out, ?_⟩⟩
              refine ⟨_, results_tmp2 rfl _ _ _, ?_⟩
              exact ⟨_, rfl, by rw [HR.out]; simpa using HO.out, HBq.out.trans (belowK_b (w := w) (Nat.le_refl _) _ D _ _ hDW HKq.out rfl rfl)⟩
    case stop =>
      rintro D c pre W' _ _ h _
      exact h.elim
end Go.Proofs.Ytifialdkjnmfoaa.idm

