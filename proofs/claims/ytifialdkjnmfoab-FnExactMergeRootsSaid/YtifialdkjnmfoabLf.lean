/- impl.linksFit. -/
import Derived.Test.YtifialdkjnmfoabIm
import Derived.Test.YtifialdkjnmfoabPt
import Derived.Test.YtifialdkjnmfoabCf
import Derived.RangeFuncWrites
import Derived.RangeFuncNested
namespace Go.Proofs.Ytifialdkjnmfoab.lf
open kit bg sg sig only un hb opn over gn nm inn ht gd im pt cf
open Go.RowKit
set_option linter.unusedVariables false
attribute [local go_sem] Oper.semAt_some

theorem keepsFrom_below {B : Nat} {W W' : World} (h : Below W.heap.size W W') : KeepsFrom B W W' := ⟨h.size, fun k o _ hk _ => (h.block k (lt_of_block hk)).trans hk⟩
theorem set_get {w : World} {a : Addr} {u v : Value} (h : w.cell? a = some u) : (w.setCell a v).cell? a = some v := World.cell?_setCell_same' _ _ _ (by rw [h]; rfl)

/-- whether all nodes have as many links as ports, and all points have links -/
def LinksP (cs : List Ctl) (b : Big) : Prop := (∀ (k : Nat) x, b.nodes[k]? = some x → portsB cs x = true) ∧ (∀ p ∈ ports b.nodes, linkB b p.2.2 = true) ∧ WirOk b b.inner b.inner.length
open Classical in
noncomputable def linksB (cs : List Ctl) (b : Big) : Bool := decide (LinksP cs b)
open Classical in
theorem links_true {cs : List Ctl} {b : Big} (h : LinksP cs b) : linksB cs b = true := by unfold linksB; exact decide_eq_true h
open Classical in
theorem links_false {cs : List Ctl} {b : Big} (h : ¬ LinksP cs b) : linksB cs b = false := by unfold linksB; exact decide_eq_false h
open Classical in
theorem links_of {cs : List Ctl} {b : Big} (h : linksB cs b = true) : LinksP cs b := by unfold linksB at h; exact of_decide_eq_true h

set_option maxRecDepth 100000 in
set_option maxHeartbeats 6400000 in
theorem links_any (A : Option Addr) (n c : Nat) (cs : List Ctl) (A1 A2 A4 A5 : Option Addr) (n1 n2 n4 n5 c1 c2 c4 c5 : Nat) (b : Big) (w0 w : World) (hC : CtlsAt w0 w0.heap.size A n cs) (h1 : NdsAt w0 w0.heap.size A1 n1 b.nodes) (h5 : WrsAt w0 w0.heap.size A5 n5 b.inner)
    (hb0 : Below w0.heap.size w0 w) (hn : n ≤ 1048576) (hE : 0 ≤ b.edges ∧ b.edges ≤ 8) (p4 : n4 ≤ 16) (h4' : b.outer.length = n4) (q2 : n1 ≤ 8) (m5 : n5 ≤ 1048576) (hk : Ctrl cs b.nodes n1) (hlk : ∀ x ∈ b.nodes, x.links.length ≤ 1048576) :
    Calls Try.prog 86 #[.slice A n c, .agg #[.int .i64 b.roots, .slice A1 n1 c1, .slice A2 n2 c2, .int .i64 b.edges, .slice A4 n4 c4, .slice A5 n5 c5]] w (Post (linksB cs b) w) := by
  have HLk := Lib.hid hlk
  have HCl := Lib.hid hC.1
  have HL1 := Lib.hid h1.1
  clear hlk
  refine callsIn_wide (n := 8) |>.1 ?_
  refine callsIn_of_wp_marks Try.func86 rfl trivial ?_ rfl
  simp only [Try.ntmps86, List.size_toArray, List.length_cons, List.length_nil, Nat.reduceAdd, Nat.reduceSub, Array.replicate_succ, Array.replicate_zero, List.push_toArray, List.append_toArray, List.nil_append, List.cons_append]
  refine wpIn_wide.2 ?_
  have hnI : IntKind.i64.wrap ((n : Int) - 1) = (n : Int) - 1 := IntWalk.i64_in _ (by omega)
  have HBox : Hid (BoxAt ((w.alloc (.cells #[.int .i64 b.roots, .slice A1 n1 c1, .slice A2 n2 c2, .int .i64 b.edges, .slice A4 n4 c4, .slice A5 n5 c5] 34)).alloc (.cells #[.bool false] 4)) w.heap.size 34 (.int .i64 b.roots) (.slice A1 n1 c1) (.slice A2 n2 c2) (.int .i64 b.edges) (.slice A4 n4 c4) (.slice A5 n5 c5)) := Lib.hid ((six_new w _ _ _ _ _ _ _).alloc _)
  have HRes := Lib.hid (row_new (w.alloc (.cells #[.int .i64 b.roots, .slice A1 n1 c1, .slice A2 n2 c2, .int .i64 b.edges, .slice A4 n4 c4, .slice A5 n5 c5] 34)) #[.bool false] 4 1 rfl)
  have HB0 := Lib.hid (((Below.refl w.heap.size w).alloc (Nat.le_refl _) (.cells #[.int .i64 b.roots, .slice A1 n1 c1, .slice A2 n2 c2, .int .i64 b.edges, .slice A4 n4 c4, .slice A5 n5 c5] 34)).alloc (by simp) (.cells #[.bool false] 4))
  obtain ⟨W, hW⟩ : ∃ W, (w.alloc (.cells #[.int .i64 b.roots, .slice A1 n1 c1, .slice A2 n2 c2, .int .i64 b.edges, .slice A4 n4 c4, .slice A5 n5 c5] 34)).alloc (.cells #[.bool false] 4) = W := ⟨_, rfl⟩
  have hWz : W.heap.size = w.heap.size + 2 := by rw [← hW]; simp
  rw [hW] at HBox HRes HB0
  rw [World.size_alloc] at HRes
  have HWq := Lib.hid hW
  have HG0 : Hid (Below w0.heap.size w0 W) := Lib.hid (hb0.trans (HB0.out.mono hb0.size))
  have hWs : w.heap.size < W.heap.size := by omega
  have hWs1 : w.heap.size + 1 < W.heap.size := by omega
  have HZ := Lib.hid hWz
  obtain ⟨g, hg⟩ : ∃ g, linksB cs b = g := ⟨_, rfl⟩
  rw [hg]
  have HG := Lib.hid hg
  clear hg hW hb0 hWz
  go_wp2_with fail
  rw [HWq.out]
  go_loopw [12] (fun i wr => ∃ j : Nat, j ≤ n1 ∧ i = .int .i64 j ∧ (∀ (j' : Nat) x, j' < j → b.nodes[j']? = some x → portsB cs x = true) ∧ Below W.heap.size W wr) (fun i _ => n1 - (intOf i).toNat)
  case atStart => exact ⟨0, Nat.zero_le _, rfl, fun j x hj => absurd hj (Nat.not_lt_zero j), Below.refl _ _⟩
  case round =>
    obtain ⟨j, hj, rfl, hnd, hbel⟩ := hrel
    have HNd := Lib.hid hnd
    have hbw := HG0.out.trans (hbel.mono HG0.out.size)
    have HBel := Lib.hid hbel
    have hsr := hbel.size
    clear hnd hbel
    by_cases hlt : j < n1
    · obtain ⟨b1, off1, x, rfl, hb1, hx, d0, d1, L, m, cap, d2, hi⟩ := h1.get hlt
      obtain ⟨k0, k1⟩ := inb_true (hk j x (by omega) hx)
      obtain ⟨t, ht⟩ : ∃ t : Nat, x.control = t := ⟨x.control.toNat, by omega⟩
      have htn : t < n := by have := HCl.out; omega
      obtain ⟨b2, off2, cy, rfl, hb2, hcy, e0, e1, e2⟩ := hC.get htn
      have HP := Lib.hid (show portsB cs x = ((m : Int) == cy.ports) by
        unfold portsB
        rw [ht, Int.toNat_natCast, hcy, hi.len])
      rw [ht] at d0
      have g0 := (hbw.cell (p := ⟨b1, off1 + j * 3, none⟩) hb1).trans d0
      have g1 := (hbw.cell (p := ⟨b1, off1 + j * 3 + 1, none⟩) hb1).trans d1
      have g2 := (hbw.cell (p := ⟨b1, off1 + j * 3 + 2, none⟩) hb1).trans d2
      have f1 := (hbw.cell (p := ⟨b2, off2 + t * 3 + 1, none⟩) hb2).trans e1
      have hb2w : b2 < wr.heap.size := Nat.lt_of_lt_of_le hb2 hbw.size
      have hml : m ≤ 9223372036854775807 := by have := HLk.out x (List.mem_of_getElem? hx); have := hi.len; omega
      have HX := Lib.hid hx
      have HB3 := Lib.hid (HBel.out.alloc HBel.out.size (.cells #[.int .i64 (t : Int), .int .i64 x.parent, .slice L m cap] 103))
      have hr1 : wr.cell? ⟨w.heap.size + 1, 0, none⟩ = some (.bool false) := (HRes.out.of_block (HBel.out.block _ hWs1)).cell (by omega)
      have hr2 := (HRes.out.of_block (HBel.out.block _ hWs1)).frozen 0
      have hrw : w.heap.size + 1 < wr.heap.size := by omega
      clear hx d0 d1 d2 hcy e0 e1 e2 hi ht
      cases qp : ((m : Int) == cy.ports) with
      | false =>
        have qp2 : ((m : Int) != cy.ports) = true := by rw [bne, qp]; rfl
        have HNo := Lib.hid (HG.out.symm.trans (links_false (fun h => by have := h.1 j x HX.out; rw [HP.out, qp] at this; cases this)))
        go_wp2_with fail
        go_quiet (fail)
        go_wp2_with fail
        have hs := set_get (v := .bool false) (((below_drewN ((Below.refl wr.heap.size wr).alloc (Nat.le_refl _) (.cells #[.int .i64 (t : Int), .int .i64 x.parent, .slice L m cap] 103)) nq).cell (p := ⟨w.heap.size + 1, 0, none⟩) hrw).trans hr1)
        refine ⟨.bool false, by simp [results, Try.results86, go_sem, hs], ?_⟩
        refine ⟨by rw [HNo.out], ?_⟩
        exact (HB0.out.trans ((below_drewN HB3.out _).mono HB0.out.size)).setCell (p := ⟨w.heap.size + 1, 0, none⟩) (by dsimp only; omega) _
      | true =>
        have qp2 : ((m : Int) != cy.ports) = false := by rw [bne, qp]; rfl
        have HYes := Lib.hid (HP.out.trans qp)
        go_wp2_with fail
        go_quiet (fail)
        go_wp2_with fail
        go_roundw
        case rel => exact ⟨j + 1, by omega, by go_num, fun j' x' hj' hx' => by
          by_cases e : j' = j
          · subst e; rw [HX.out] at hx'; injection hx' with e; subst e; exact HYes.out
          · exact HNd.out j' x' (by omega) hx', below_drewN HB3.out _⟩
        case measure => simp [intOf]; omega
    · obtain rfl : n1 = j := by omega
      obtain ⟨w7, hw7⟩ : ∃ w7, wr = w7 := ⟨_, rfl⟩
      rw [hw7] at hbw HBel hsr ⊢
      clear hw7
      have HBox7 := Lib.hid (HBox.out.below HBel.out hWs)
      obtain ⟨x0, x1, x2, x3, x4, x5⟩ := HBox7.out.get
      have hR7 := HRes.out.of_block (HBel.out.block _ hWs1)
      go_wp2_with fail
      refine ((callsIn_wide (n := 8)).1 (portsOf_in Fence.wide 8 trivial rfl #[.int .i64 b.roots, .slice A1 n1 c1, .slice A2 n2 c2, .int .i64 b.edges, .slice A4 n4 c4, .slice A5 n5 c5] rfl w7)).mono ?_
      rintro e w8 ⟨rfl, hw8⟩
      have hbx : Hid (BoxAt w8 w7.heap.size 34 (.int .i64 b.roots) (.slice A1 n1 c1) (.slice A2 n2 c2) (.int .i64 b.edges) (.slice A4 n4 c4) (.slice A5 n5 c5)) := Lib.hid (by rw [hw8]; exact six_new w7 _ _ _ _ _ _ _)
      have hb78 : Below w7.heap.size w7 w8 := by rw [hw8]; exact (Below.refl _ _).alloc (Nat.le_refl _) _
      have hz8 : w8.heap.size = w7.heap.size + 1 := by rw [hw8]; simp
      have hβ : w7.heap.size < w8.heap.size := by omega
      have HB8 := Lib.hid (HBel.out.trans (hb78.mono hsr))
      have hbw8 := hbw.trans (hb78.mono hbw.size)
      have HBox8 := Lib.hid (HBox7.out.below hb78 (by omega))
      have HR8 := Lib.hid (hR7.of_block (hb78.block _ (by omega)))
      have hN8 := (h1.below hbw8).wide hbw8.size
      have hN18 : w.heap.size + 1 < w8.heap.size := by omega
      have HZ8 := Lib.hid hz8
      clear hw8 hb78 hz8 x0 x1 x2 x3 x4 x5 hR7 hbw
      go_wp2_with fail
      refine wpIn_wide (n := 8) |>.1 ?_
      refine' wpIn_rangeFunc_ownG rfl (by omega) (gf := 116) (lb := #[.pointer (some ⟨w7.heap.size, 0, none⟩)]) rfl trivial (enters_of Try.func116 (by kernel_rfl) rfl)
        (ports_stops Fence.wide 7 trivial rfl (by omega) w7.heap.size w8.heap.size A1 n1 c1 b.nodes w8 hβ (Nat.le_refl _) (hbx.out.get).2.1 hN8 (by omega) HLk.out) belowK_t (belowK_b (Nat.le_refl _)) (Below.refl _ _) (fun _ => rfl)
        (fun pre W' => (∀ p ∈ pre, linkB b p.2.2 = true) ∧ Below w8.heap.size w8 W')
        (fun c pre W' => (c = .ret ∧ ∃ p ∈ pre, linkB b p.2.2 = false) ∧ W'.cell? ⟨w.heap.size + 1, 0, none⟩ = some (.bool false) ∧ Below w.heap.size w W')
        (OwnFrom.and (ownFrom_pure _ _) (ownFrom_below (Nat.le_refl _) (Nat.le_refl _)))
        (fun c => OwnFrom.and (ownFrom_pure _ _) (OwnFrom.and (fun s A B row hs hg hr => cell_kept hs hg (fun r e => (hr r e).2)) (ownFrom_below (Nat.le_refl _) (by omega))))
        ⟨by simp, Below.refl _ _⟩ _ ?assign ?body ?done ?stop
      case assign =>
        intro l x W' K hK
        dsimp only [encP]
        gi_wp2
        exact hK
      case body =>
        rintro l pre x W' ⟨hpre, hB8⟩ hlt
        have hsz := hB8.size
        obtain ⟨x0, x1, x2, x3, x4, x5⟩ := (HBox8.out.below hB8 (by omega)).get
        have hr := HR8.out.of_block (hB8.block _ hN18)
        have hr1 : W'.cell? ⟨w.heap.size + 1, 0, none⟩ = some (.bool false) := hr.cell (by omega)
        have hr2 := hr.frozen 0
        have CK := fun W2 => ilk_any (.int .i64 b.roots) (.slice A1 n1 c1) (.slice A2 n2 c2) (.slice A5 n5 c5) b.edges x.2.2 A4 n4 c4 W2 hE p4
        have HLB := Lib.hid (show linkB b x.2.2 = inb x.2.2 0 (b.edges + n4 - 1) by unfold linkB; rw [h4'])
        have HB8' := Lib.hid hB8
        have HPre := Lib.hid hpre
        clear hr hpre hB8
        cases qu : inb x.2.2 0 (b.edges + n4 - 1) with
        | false =>
          rw [qu] at CK
          have HNo := Lib.hid (HLB.out.trans qu)
          clear qu
          gi_wp2
          refine ⟨trivial, (CallsIn.inRound l (callsIn_wide.2 (CK _))).mono ?_⟩
          rintro e W3 ⟨rfl, hb3⟩
          have hc3 := (hb3.cell (p := ⟨w.heap.size + 1, 0, none⟩) (by dsimp only; omega)).trans hr1
          have hf3 := (hb3.frozen (p := ⟨w.heap.size + 1, 0, none⟩) (by dsimp only; omega)).trans hr2
          have HB3 := Lib.hid (HB0.out.trans ((HB8.out.trans ((HB8'.out.trans (hb3.mono hsz)).mono HB8.out.size)).mono HB0.out.size))
          have HK3 : Hid (KeepsFrom w8.heap.size W' W3) := Lib.hid (keepsFrom_below hb3)
          clear hb3 CK x0 x1 x2 x3 x4 x5 hr1 hr2
          gi_wp2
          exact ⟨HK3.out.trans ((KeepsOthers.setCell _ _ _).from _), ⟨rfl, x, by simp, HNo.out⟩, set_get hc3, HB3.out.setCell (p := ⟨w.heap.size + 1, 0, none⟩) (by dsimp only; omega) _⟩
        | true =>
          rw [qu] at CK
          have HYes := Lib.hid (HLB.out.trans qu)
          clear qu
          gi_wp2
          refine ⟨trivial, (CallsIn.inRound l (callsIn_wide.2 (CK _))).mono ?_⟩
          rintro e W3 ⟨rfl, hb3⟩
          have HB3 := Lib.hid hb3
          clear hb3 CK x0 x1 x2 x3 x4 x5 hr1 hr2
          gi_wp2
          exact ⟨keepsFrom_below HB3.out, HB3.out.mono hsz, ⟨fun p hp => by
            rcases List.mem_append.1 hp with h | h
            · exact HPre.out p h
            · obtain rfl := List.mem_singleton.1 h
              exact HYes.out, HB8'.out.trans (HB3.out.mono hsz)⟩⟩
      case done =>
        rintro D ys W' hD rfl ⟨hall, hB8⟩ hK
        have hsz := hB8.size
        have hDl := lt_of_block hK
        have hBoxW := HBox8.out.below hB8 (by omega)
        obtain ⟨x0, x1, x2, x3, x4, x5⟩ := hBoxW.get
        have hr := HR8.out.of_block (hB8.block _ hN18)
        have hr1 : W'.cell? ⟨w.heap.size + 1, 0, none⟩ = some (.bool false) := hr.cell (by omega)
        have hr2 := hr.frozen 0
        have CK := contains_any w.heap.size (.int .i64 b.roots) (.slice A1 n1 c1) (.slice A2 n2 c2) (.slice A5 n5 c5) A4 n4 c4 A5 n5 c5 b b.inner w0 W' hBoxW hE p4 h4' h5 (hbw8.trans (hB8.mono hbw8.size)) m5
        have HAll := Lib.hid hall
        have HKD := Lib.hid hK
        have HBw := Lib.hid (HB0.out.trans ((HB8.out.trans (hB8.mono HB8.out.size)).mono HB0.out.size))
        obtain ⟨qw, hqw⟩ : ∃ qw, wirB b b.inner = qw := ⟨_, rfl⟩
        rw [hqw] at CK
        have HQw := Lib.hid hqw
        clear hr hall hK hBoxW hqw hB8
        go_wp2_with fail
        refine CK.mono ?_
        rintro e W3 ⟨rfl, hb3⟩
        have hc3 := (hb3.cell (p := ⟨w.heap.size + 1, 0, none⟩) (by dsimp only; omega)).trans hr1
        have hf3 := (hb3.frozen (p := ⟨w.heap.size + 1, 0, none⟩) (by dsimp only; omega)).trans hr2
        have HK3 := Lib.hid ((hb3.block D hDl).trans HKD.out)
        have HB3 := Lib.hid (HBw.out.trans (hb3.mono HBw.out.size))
        have HRs : Hid (g = qw) := by
          refine Lib.hid (HG.out.symm.trans ?_)
          cases qw with
          | true => exact links_true ⟨fun k x hx => HNd.out k x (by have := (List.getElem?_eq_some_iff.1 hx).1; have := HL1.out; omega) hx, HAll.out, wir_of HQw.out⟩
          | false => exact links_false (fun h => by have := wir_true h.2.2; rw [HQw.out] at this; cases this)
        have hDw : w.heap.size ≤ D := by omega
        have hne : D ≠ w.heap.size + 1 := by omega
        clear hb3 CK x0 x1 x2 x3 x4 x5 hr1 hr2
        go_wp2_with fail
        have hcell := set_get (v := .bool qw) hc3
        have hKD : (W3.setCell ⟨w.heap.size + 1, 0, none⟩ (.bool qw)).heap[D]? = some (.deferred (some [])) := (Below.heap_setCell _ _ _ _ hne).trans HK3.out
        have hcell2 := cell_kept hcell (grownBy_putObj' _ D (.deferred none)) (fun r e => by cases e; exact ⟨_, hKD, rfl⟩)
        refine ⟨by simp, .inl ⟨_, _, rfl, run_takeDeferred hKD, ?_⟩⟩
        refine ⟨.bool qw, by simp [results, Try.results86, go_sem, hcell2], ?_⟩
        refine ⟨by rw [HRs.out], ?_⟩
        exact (HB3.out.setCell (p := ⟨w.heap.size + 1, 0, none⟩) (by dsimp only; omega) _).trans (belowK_b (w := w) (Nat.le_refl _) _ D _ _ hDw hKD rfl rfl)
      case stop =>
        rintro D c pre W' hD hpre ⟨⟨rfl, p, hp, hl⟩, hc, hB⟩ hK
        have HNo := Lib.hid (HG.out.symm.trans (links_false (fun h => by rw [h.2.1 p (hpre.subset hp)] at hl; cases hl)))
        have hcell2 := cell_kept hc (grownBy_putObj' _ D (.deferred none)) (fun r e => by cases e; exact ⟨_, hK, rfl⟩)
        clear hpre hp hl
        gi_wp2
        refine ⟨by simp, .inl ⟨_, _, rfl, run_takeDeferred hK, ?_⟩⟩
        refine ⟨.bool false, by simp [results, Try.results86, go_sem, hcell2], ?_⟩
        refine ⟨by rw [HNo.out], ?_⟩
        exact hB.trans (belowK_b (w := w) (Nat.le_refl _) _ D _ _ (by omega) hK rfl rfl)
end Go.Proofs.Ytifialdkjnmfoab.lf
