/- One node of a Bigraph: spec.l2Node. -/
import Derived.Test.YtifialdkjnmfoabUn
import Derived.Test.YtifialdkjnmfoabHb
import Derived.Test.YtifialdkjnmfoabOver
namespace Go.Proofs.Ytifialdkjnmfoab.gn
open kit bg sg sig only un hb opn over
open Go.RowKit
set_option linter.unusedVariables false

/-- whether the k-th node is as it must be -/
def nodeB (cs : List Ctl) (b : Big) (k : Nat) (nd : Nd) : Bool := seatB cs b k nd && portsB cs nd && nd.links.all (linkB b)
theorem row3 {w : World} {β : Nat} {t : TypeId} {a b c : Value} (h : w.rowIs β t 3 (fun i => (#[a, b, c][i]?).getD undef)) : w.cell? ⟨β, 0, none⟩ = some a ∧ w.cell? ⟨β, 1, none⟩ = some b ∧ w.cell? ⟨β, 2, none⟩ = some c :=
  ⟨h.cell (by omega), h.cell (by omega), h.cell (by omega)⟩
theorem links_all {b : Big} {ls : List Int} {k : Nat} (h : ∀ (i : Nat) l, i < k → ls[i]? = some l → linkB b l = true) (hk : ls.length ≤ k) : ls.all (linkB b) = true := by
  rw [List.all_eq_true]
  intro l hl
  obtain ⟨i, hi⟩ := List.getElem?_of_mem hl
  exact h i l (by have := (List.getElem?_eq_some_iff.1 hi).1; omega) hi
theorem links_bad {b : Big} {ls : List Int} {i : Nat} {l : Int} (hl : ls[i]? = some l) (h : linkB b l = false) : ls.all (linkB b) = false := by
  rw [List.all_eq_false]
  exact ⟨l, List.mem_of_getElem? hl, by rw [h]; decide⟩

set_option maxRecDepth 100000 in
set_option maxHeartbeats 3200000 in
theorem l2Node_any (A : Option Addr) (n c : Nat) (cs : List Ctl) (A1 : Option Addr) (n1 c1 : Nat) (v2 v5 : Value) (A4 : Option Addr) (n4 c4 : Nat) (b : Big) (k : Nat) (x : Nd) (w0 w : World)
    (hC : CtlsAt w0 w0.heap.size A n cs) (hN : NdsAt w0 w0.heap.size A1 n1 b.nodes) (hb0 : Below w0.heap.size w0 w) (hR : 0 ≤ b.roots ∧ b.roots ≤ 4) (hE : 0 ≤ b.edges ∧ b.edges ≤ 8) (h4 : n4 ≤ 16) (h4' : b.outer.length = n4) (hn1 : n1 ≤ 8) (hn : n ≤ 1048576)
    (hkn : k < n1) (hk : Ctrl cs b.nodes k) (hx : b.nodes[k]? = some x) (hw : NdW x) :
    Calls Try.prog 77 #[.slice A n c, .agg #[.int .i64 b.roots, .slice A1 n1 c1, v2, .int .i64 b.edges, .slice A4 n4 c4, v5], .int .i64 k] w (Post (nodeB cs b k x) w) := by
  obtain ⟨b1, off1, x', rfl, hb1, hx', c0, c1', L, m, cap, c2, hi⟩ := hN.get hkn
  rw [hx] at hx'
  injection hx' with e
  subst e
  obtain ⟨hp1, hp2, hml, hlw⟩ := hw
  have hlen := hi.len
  have hmm : m ≤ 9223372036854775807 := by unfold maxLen at hml; omega
  have hsz0 := hb0.size
  have d0 := (hb0.cell (p := ⟨b1, off1 + k * 3, none⟩) hb1).trans c0
  have d1 := (hb0.cell (p := ⟨b1, off1 + k * 3 + 1, none⟩) hb1).trans c1'
  have d2 := (hb0.cell (p := ⟨b1, off1 + k * 3 + 2, none⟩) hb1).trans c2
  have hb1w : b1 < w.heap.size := by omega
  have hcl := hC.1
  have HBox := Lib.hid ((six_new w (.int .i64 b.roots) (.slice (some ⟨b1, off1, none⟩) n1 c1) v2 (.int .i64 b.edges) (.slice A4 n4 c4) v5 34).alloc (.cells #[.int .i64 x.control, .int .i64 x.parent, .slice L m cap] 103))
  have HX3 := Lib.hid (row_new (w.alloc (.cells #[.int .i64 b.roots, .slice (some ⟨b1, off1, none⟩) n1 c1, v2, .int .i64 b.edges, .slice A4 n4 c4, v5] 34)) #[.int .i64 x.control, .int .i64 x.parent, .slice L m cap] 103 3 rfl)
  have HB0 := Lib.hid (((Below.refl w.heap.size w).alloc (Nat.le_refl _) (.cells #[.int .i64 b.roots, .slice (some ⟨b1, off1, none⟩) n1 c1, v2, .int .i64 b.edges, .slice A4 n4 c4, v5] 34)).alloc (by simp) (.cells #[.int .i64 x.control, .int .i64 x.parent, .slice L m cap] 103))
  have HSz : Hid (((w.alloc (.cells #[.int .i64 b.roots, .slice (some ⟨b1, off1, none⟩) n1 c1, v2, .int .i64 b.edges, .slice A4 n4 c4, v5] 34)).alloc (.cells #[.int .i64 x.control, .int .i64 x.parent, .slice L m cap] 103)).heap.size = w.heap.size + 2) := Lib.hid (by simp)
  have HX := Lib.hid hx
  have HLen := Lib.hid hlen
  have HCl := Lib.hid hcl
  have hnI : IntKind.i64.wrap ((n : Int) - 1) = (n : Int) - 1 := IntWalk.i64_in _ (by omega)
  clear hx c0 c1' c2 hlen hcl
  cases qc : inb x.control 0 ((n : Int) - 1) with
  | false =>
    have HNo := Lib.hid (show nodeB cs b k x = false by unfold nodeB seatB; rw [HCl.out, qc]; rfl)
    have HI := Lib.hid (fun W' => qc ▸ in_any x.control 0 ((n : Int) - 1) W')
    go_enter Try.func77, Try.ntmps77
    go_wp2_with fail
    obtain ⟨W, hW⟩ : ∃ W, ((w.alloc (.cells #[.int .i64 b.roots, .slice (some ⟨b1, off1, none⟩) n1 c1, v2, .int .i64 b.edges, .slice A4 n4 c4, v5] 34)).alloc (.cells #[.int .i64 x.control, .int .i64 x.parent, .slice L m cap] 103)) = W := ⟨_, rfl⟩
    rw [hW] at HBox HX3 HB0 HSz ⊢
    rw [World.size_alloc] at HX3
    obtain ⟨y0, y1, y2⟩ := row3 HX3.out
    have hWb := HB0.out.drew
    clear hW d0 d1 d2
    go_quiet ((go_at_call 74; exact Calls.quiet_of_same ((HI.out _).mono fun _ _ h => ⟨h.1, h.2.symm⟩)))
    go_wp2_with fail
    go_ret
    exact ⟨by rw [HNo.out]; rfl, below_drewN HB0.out _⟩
  | true =>
    have HI := Lib.hid (fun W' => qc ▸ in_any x.control 0 ((n : Int) - 1) W')
    have HU := Lib.hid (fun W' hb => under_any A n c cs (some ⟨b1, off1, none⟩) n1 c1 v2 (.int .i64 b.edges) (.slice A4 n4 c4) v5 b x.parent k w0 W' hC hN hb hR hn1 hn (by omega) hk hp2)
    obtain ⟨k0, k1⟩ := inb_true qc
    obtain ⟨t, ht⟩ : ∃ t : Nat, x.control = t := ⟨x.control.toNat, by omega⟩
    have htn : t < n := by omega
    rw [ht] at d0 HX3 HBox HB0 HSz HI
    have HTt := Lib.hid ht
    clear ht
    cases qu : underB cs b x.parent k with
    | false =>
      rw [qu] at HU
      have HNo := Lib.hid (show nodeB cs b k x = false by unfold nodeB seatB; rw [qu]; simp)
      go_enter Try.func77, Try.ntmps77
      go_wp2_with fail
      obtain ⟨W, hW⟩ : ∃ W, ((w.alloc (.cells #[.int .i64 b.roots, .slice (some ⟨b1, off1, none⟩) n1 c1, v2, .int .i64 b.edges, .slice A4 n4 c4, v5] 34)).alloc (.cells #[.int .i64 (t : Int), .int .i64 x.parent, .slice L m cap] 103)) = W := ⟨_, rfl⟩
      rw [hW] at HBox HX3 HB0 HSz ⊢
      rw [World.size_alloc] at HX3
      obtain ⟨y0, y1, y2⟩ := row3 HX3.out
      obtain ⟨x0, x1, x2, x3, x4, x5⟩ := row6 HBox.out
      simp only [six] at x0 x1 x2 x3 x4 x5
      simp at x0 x1 x2 x3 x4 x5
      have hb1W : w.heap.size + 1 < W.heap.size := by rw [HSz.out]; omega
      have hb0W : w.heap.size < W.heap.size := by omega
      have hWd : Below w0.heap.size w0 W := hb0.trans (HB0.out.mono hsz0)
      have q0 := Over.get y0 hb1W
      have q1 := Over.get y1 hb1W
      have q2 := Over.get y2 hb1W
      have z0 := Over.get x0 hb0W
      have z1 := Over.get x1 hb0W
      have z2 := Over.get x2 hb0W
      have z3 := Over.get x3 hb0W
      have z4 := Over.get x4 hb0W
      have z5 := Over.get x5 hb0W
      have HI2 := Lib.hid (fun y : Over W => over_same (HI.out y.w))
      have HU2 := Lib.hid (fun y : Over W => over_call (HU.out y.w (hWd.trans (y.below.mono hWd.size))))
      clear hW d0 d1 d2 x0 x1 x2 x3 x4 x5 y0 y1 y2
      refine wp_region_over (by kernel_rfl) (by kernel_rfl) ?_
      repeat (go_big_quiet_step (first | (go_at_call 74; exact HI2.out _) | (go_at_call 78; exact HU2.out _)))
      refine wpQuiet_nil ?_
      rintro _ ⟨y, rfl⟩
      have hy := y.below
      obtain ⟨w2, hw2⟩ : ∃ w2, y.w = w2 := ⟨_, rfl⟩
      rw [hw2] at hy ⊢
      clear hw2
      have hb2 := HB0.out.trans (hy.mono HB0.out.size)
      clear hy
      go_wp2_with fail
      go_ret
      exact ⟨by rw [HNo.out]; rfl, hb2⟩
    | true =>
      rw [qu] at HU
      obtain ⟨b2, off2, cy, rfl, hb2, hcy, e0, e1, e2⟩ := hC.get htn
      have HP := Lib.hid (show portsB cs x = ((m : Int) == cy.ports) by
        unfold portsB
        rw [HTt.out, Int.toNat_natCast, hcy, HLen.out])
      have HSeat := Lib.hid (show seatB cs b k x = true by unfold seatB; rw [HCl.out, qc, qu]; rfl)
      have hbb2 := hb2
      clear hcy e0 e2
      cases qp : ((m : Int) == cy.ports) with
      | false =>
        have qp2 : ((m : Int) != cy.ports) = true := by rw [bne, qp]; rfl
        have HNo := Lib.hid (show nodeB cs b k x = false by unfold nodeB; rw [HP.out, qp]; simp)
        go_enter Try.func77, Try.ntmps77
        go_wp2_with fail
        obtain ⟨W, hW⟩ : ∃ W, ((w.alloc (.cells #[.int .i64 b.roots, .slice (some ⟨b1, off1, none⟩) n1 c1, v2, .int .i64 b.edges, .slice A4 n4 c4, v5] 34)).alloc (.cells #[.int .i64 (t : Int), .int .i64 x.parent, .slice L m cap] 103)) = W := ⟨_, rfl⟩
        rw [hW] at HBox HX3 HB0 HSz ⊢
        rw [World.size_alloc] at HX3
        obtain ⟨y0, y1, y2⟩ := row3 HX3.out
        obtain ⟨x0, x1, x2, x3, x4, x5⟩ := row6 HBox.out
        simp only [six] at x0 x1 x2 x3 x4 x5
        simp at x0 x1 x2 x3 x4 x5
        have hb1W : w.heap.size + 1 < W.heap.size := by rw [HSz.out]; omega
        have hb0W : w.heap.size < W.heap.size := by omega
        have hWd : Below w0.heap.size w0 W := hb0.trans (HB0.out.mono hsz0)
        have q0 := Over.get y0 hb1W
        have q1 := Over.get y1 hb1W
        have q2 := Over.get y2 hb1W
        have z0 := Over.get x0 hb0W
        have z1 := Over.get x1 hb0W
        have z2 := Over.get x2 hb0W
        have z3 := Over.get x3 hb0W
        have z4 := Over.get x4 hb0W
        have z5 := Over.get x5 hb0W
        have HI2 := Lib.hid (fun y : Over W => over_same (HI.out y.w))
        have HU2 := Lib.hid (fun y : Over W => over_call (HU.out y.w (hWd.trans (y.below.mono hWd.size))))
        clear hW d0 d1 d2 x0 x1 x2 x3 x4 x5 y0 y1 y2
        have e1W := Over.get ((hWd.cell (p := ⟨b2, off2 + t * 3 + 1, none⟩) hbb2).trans e1) (Nat.lt_of_lt_of_le hbb2 hWd.size)
        clear e1
        refine wp_region_over (by kernel_rfl) (by kernel_rfl) ?_
        repeat (go_big_quiet_step (first | (go_at_call 74; exact HI2.out _) | (go_at_call 78; exact HU2.out _)))
        refine wpQuiet_nil ?_
        rintro _ ⟨y, rfl⟩
        have hy := y.below
        obtain ⟨w2, hw2⟩ : ∃ w2, y.w = w2 := ⟨_, rfl⟩
        rw [hw2] at hy ⊢
        clear hw2
        have hb2 := HB0.out.trans (hy.mono HB0.out.size)
        clear hy
        go_wp2_with fail
        go_ret
        exact ⟨by rw [HNo.out]; rfl, hb2⟩
      | true =>
        have qp2 : ((m : Int) != cy.ports) = false := by rw [bne, qp]; rfl
        go_enter Try.func77, Try.ntmps77
        go_wp2_with fail
        obtain ⟨W, hW⟩ : ∃ W, ((w.alloc (.cells #[.int .i64 b.roots, .slice (some ⟨b1, off1, none⟩) n1 c1, v2, .int .i64 b.edges, .slice A4 n4 c4, v5] 34)).alloc (.cells #[.int .i64 (t : Int), .int .i64 x.parent, .slice L m cap] 103)) = W := ⟨_, rfl⟩
        rw [hW] at HBox HX3 HB0 HSz ⊢
        rw [World.size_alloc] at HX3
        obtain ⟨y0, y1, y2⟩ := row3 HX3.out
        obtain ⟨x0, x1, x2, x3, x4, x5⟩ := row6 HBox.out
        simp only [six] at x0 x1 x2 x3 x4 x5
        simp at x0 x1 x2 x3 x4 x5
        have hb1W : w.heap.size + 1 < W.heap.size := by rw [HSz.out]; omega
        have hb0W : w.heap.size < W.heap.size := by omega
        have hWd : Below w0.heap.size w0 W := hb0.trans (HB0.out.mono hsz0)
        have q0 := Over.get y0 hb1W
        have q1 := Over.get y1 hb1W
        have q2 := Over.get y2 hb1W
        have z0 := Over.get x0 hb0W
        have z1 := Over.get x1 hb0W
        have z2 := Over.get x2 hb0W
        have z3 := Over.get x3 hb0W
        have z4 := Over.get x4 hb0W
        have z5 := Over.get x5 hb0W
        have HI2 := Lib.hid (fun y : Over W => over_same (HI.out y.w))
        have HU2 := Lib.hid (fun y : Over W => over_call (HU.out y.w (hWd.trans (y.below.mono hWd.size))))
        clear hW d0 d1 d2 x0 x1 x2 x3 x4 x5 y0 y1 y2
        have e1W := Over.get ((hWd.cell (p := ⟨b2, off2 + t * 3 + 1, none⟩) hbb2).trans e1) (Nat.lt_of_lt_of_le hbb2 hWd.size)
        clear e1
        refine wp_region_over (by kernel_rfl) (by kernel_rfl) ?_
        repeat (go_big_quiet_step (first | (go_at_call 74; exact HI2.out _) | (go_at_call 78; exact HU2.out _)))
        refine wpQuiet_nil ?_
        rintro _ ⟨y, rfl⟩
        have hy := y.below
        obtain ⟨w2, hw2⟩ : ∃ w2, y.w = w2 := ⟨_, rfl⟩
        rw [hw2] at hy ⊢
        clear hw2
        have hb2 := HB0.out.trans (hy.mono HB0.out.size)
        have HWy := Lib.hid hy
        have HWd := Lib.hid hWd
        have HNd := Lib.hid (show nodeB cs b k x = x.links.all (linkB b) by unfold nodeB; rw [HSeat.out, HP.out, qp]; rfl)
        have HIn := Lib.hid hi
        have hbW0 : w0.heap.size ≤ W.heap.size := hWd.size
        clear hy hWd hi q0 q1 q2 z0 z1 z2 z3 z4 z5 e1W qp qp2 hbb2 hb1 hb2
        go_wp2_with fail
        go_loopw [8] (fun i wr => ∃ j : Nat, j ≤ m ∧ i = .int .i64 j ∧ (∀ (j' : Nat) l, j' < j → x.links[j']? = some l → linkB b l = true) ∧ Below W.heap.size W wr) (fun i _ => m - (intOf i).toNat)
        case atStart => exact ⟨0, Nat.zero_le _, rfl, fun j l hj => absurd hj (Nat.not_lt_zero j), HWy.out⟩
        case round =>
          obtain ⟨j, hj, rfl, hlk, hbel⟩ := hrel
          have HLk := Lib.hid hlk
          obtain ⟨p0, p1, p2⟩ := row3 (HX3.out.of_block (hbel.block _ hb1W))
          obtain ⟨r0, r1, r2, r3, r4, r5⟩ := row6 (HBox.out.of_block (hbel.block _ hb0W))
          simp only [six] at r0 r1 r2 r3 r4 r5
          simp at r0 r1 r2 r3 r4 r5
          have hsr := hbel.size
          have HB := Lib.hid (HB0.out.trans (hbel.mono HB0.out.size))
          have HBel := Lib.hid hbel
          have HWr := Lib.hid (HWd.out.trans (hbel.mono hbW0))
          clear hlk hbel
          by_cases hlt : j < m
          · obtain ⟨bl, offl, l, rfl, hbl, hl, cl⟩ := HIn.out.get hlt
            have cl2 := (HWr.out.cell (p := ⟨bl, offl + j, none⟩) hbl).trans cl
            have HLl := Lib.hid hl
            have hblr : bl < wr.heap.size := by omega
            have g0 := Over.get p0 (show w.heap.size + 1 < wr.heap.size by omega)
            have g1 := Over.get p1 (show w.heap.size + 1 < wr.heap.size by omega)
            have g2 := Over.get p2 (show w.heap.size + 1 < wr.heap.size by omega)
            have s0 := Over.get r0 (show w.heap.size < wr.heap.size by omega)
            have s1 := Over.get r1 (show w.heap.size < wr.heap.size by omega)
            have s2 := Over.get r2 (show w.heap.size < wr.heap.size by omega)
            have s3 := Over.get r3 (show w.heap.size < wr.heap.size by omega)
            have s4 := Over.get r4 (show w.heap.size < wr.heap.size by omega)
            have s5 := Over.get r5 (show w.heap.size < wr.heap.size by omega)
            have sl := Over.get cl2 hblr
            have hLB : linkB b l = inb l 0 (b.edges + n4 - 1) := by unfold linkB; rw [h4']
            cases ql : inb l 0 (b.edges + n4 - 1) with
            | false =>
              have HK := Lib.hid (fun y : Over wr => over_call (ql ▸ lk_any (.int .i64 b.roots) (.slice (some ⟨b1, off1, none⟩) n1 c1) v2 v5 b.edges l A4 n4 c4 y.w hE h4))
              have HNo := Lib.hid (links_bad HLl.out (show linkB b l = false by rw [hLB]; exact ql))
              clear hl cl cl2 hLB ql
              go_wp2_with fail
              clear p0 p1 p2 r0 r1 r2 r3 r4 r5
              refine wp_region_over (by kernel_rfl) (by kernel_rfl) ?_
              repeat (go_big_quiet_step ((go_at_call 79; exact HK.out _)))
              refine wpQuiet_nil ?_
              rintro _ ⟨y, rfl⟩
              have hy := y.below
              obtain ⟨w5, hw5⟩ : ∃ w5, y.w = w5 := ⟨_, rfl⟩
              rw [hw5] at hy ⊢
              clear hw5 g0 g1 g2 s0 s1 s2 s3 s4 s5 sl
              go_wp2_with fail
              go_ret
              exact ⟨by rw [HNd.out, HNo.out]; rfl, HB.out.trans (hy.mono HB.out.size)⟩
            | true =>
              have HK := Lib.hid (fun y : Over wr => over_call (ql ▸ lk_any (.int .i64 b.roots) (.slice (some ⟨b1, off1, none⟩) n1 c1) v2 v5 b.edges l A4 n4 c4 y.w hE h4))
              have HYes := Lib.hid (show linkB b l = true by rw [hLB]; exact ql)
              clear hl cl cl2 hLB ql
              go_wp2_with fail
              clear p0 p1 p2 r0 r1 r2 r3 r4 r5
              refine wp_region_over (by kernel_rfl) (by kernel_rfl) ?_
              repeat (go_big_quiet_step ((go_at_call 79; exact HK.out _)))
              refine wpQuiet_nil ?_
              rintro _ ⟨y, rfl⟩
              have hy := y.below
              obtain ⟨w5, hw5⟩ : ∃ w5, y.w = w5 := ⟨_, rfl⟩
              rw [hw5] at hy ⊢
              clear hw5 g0 g1 g2 s0 s1 s2 s3 s4 s5 sl
              have HW5 := Lib.hid (HBel.out.trans (hy.mono hsr))
              clear hy
              go_wp2_with fail
              go_roundw
              case rel => exact ⟨j + 1, by omega, by go_num, fun j' l' hj' hl' => by
                by_cases e : j' = j
                · subst e; rw [HLl.out] at hl'; injection hl' with e; subst e; exact HYes.out
                · exact HLk.out j' l' (by omega) hl', HW5.out⟩
              case measure => simp [intOf]; omega
          · obtain rfl : j = m := by omega
            have HAll := Lib.hid (links_all HLk.out (by rw [HLen.out]; exact Nat.le_refl _))
            go_wp2_with fail
            go_ret
            exact ⟨by rw [HNd.out, HAll.out]; rfl, HB.out⟩
end Go.Proofs.Ytifialdkjnmfoab.gn
