/- impl.RenumberNodes. -/
import Derived.Test.YtebmhfkpmcflfaaRz
import Derived.Test.YtebmhfkpmcflfaaQh
import Derived.Test.YtebmhfkpmcflfaaQe
import Derived.Handy
namespace Go.Proofs.Ytebmhfkpmcflfaa.ri
open kit bg sg opn strs only hb sig isig un over gn nm inn ht gd im pt marks eqs hc hi hw hn rs br bm bw cf lf ib isa lawb lw cl rt chd pts psp idl has pm sb wb mb rl ed rnp lep rnm tp rn gv tm rz mrp
open Go.RowKit
set_option linter.unusedVariables false
set_option linter.unusedSimpArgs false
theorem _root_.Go.Proofs.Ytebmhfkpmcflfaa.cf.BoxAt.put1 {w : World} {β : Nat} {t : TypeId} {v0 v1 v2 v3 v4 v5 : Value} (h : BoxAt w β t v0 v1 v2 v3 v4 v5) (u : Value) : BoxAt (w.setCell ⟨β, 1, none⟩ u) β t v0 u v2 v3 v4 v5 := by
  have h6 : (w.setCell ⟨β, 1, none⟩ u).rowIs β t 6 _ := World.rowIs.set h 1 u
  unfold BoxAt
  refine h6.congr ?_
  intro i hi
  match i, hi with
  | 0, _ => rfl
  | 1, _ => rfl
  | 2, _ => rfl
  | 3, _ => rfl
  | 4, _ => rfl
  | 5, _ => rfl
/-- with other sites -/
def sbB (b : Big) (ts es S : List Int) : Big := ⟨b.roots, (rnB b ts es).nodes, S, b.edges, b.outer, (rnB b ts es).inner⟩
theorem rnm_laid {lo : Nat} {wr : World} {b : Big} {ts es S : List Int} {n1 g1 n2 n4 n5 : Nat} {LA : Nat → Option Addr} {LC : Nat → Nat} {B2 B4 B5 : Option Addr} {e2 e4 e5 : Nat} (h : RnMid lo wr b ts es n1 g1 n1 LA LC) (hT : EachP ts b.nodes.length) (l1 : b.nodes.length = n1) (l2 : S.length = n2) (l4 : b.outer.length = n4) (l5 : b.inner.length = n5) (hlo : lo ≤ g1)
    (h2 : RowR wr lo wr.heap.size 3 1 B2 n2 e2 (iat S)) (h2n : ∀ i, i < n1 → LA i ≠ none → LA i ≠ B2) (h4 : RowR wr lo wr.heap.size 9 1 B4 n4 e4 (at_ b.outer)) (h5 : RowR wr lo wr.heap.size 120 2 B5 n5 e5 (wic (rnB b ts es).inner)) :
    Laid wr lo wr.heap.size ⟨some ⟨g1, 0, none⟩, n1, B2, e2, B4, e4, B5, e5, fun j => LA (ts.idxOf (j : Int)), fun j => LC (ts.idxOf (j : Int))⟩ (sbB b ts es S) := by
  subst l1 l2 l4 l5
  have k1 : (sbB b ts es S).nodes.length = b.nodes.length := by simp [sbB, rnB]
  have k5 : (sbB b ts es S).inner.length = b.inner.length := by simp [sbB, rnB]
  refine ⟨?_, ⟨?_, ?_⟩, ?_, h4, ?_⟩
  · intro k hk hno
    rw [k1] at hk ⊢
    have hi := each_lt hT hk
    refine ⟨h2n _ hi hno, fun j hj hjk e => ?_⟩
    have hj2 := each_lt hT hj
    have e : LA (ts.idxOf (j : Int)) = LA (ts.idxOf (k : Int)) := e
    have hd : ts.idxOf (j : Int) ≠ ts.idxOf (k : Int) := fun e2 => by
      have g1 := idx_get (hT.1 j hj)
      have g2 := idx_get (hT.1 k hk)
      rw [e2, g2] at g1
      injection g1 with g1
      omega
    rcases Nat.lt_or_gt_of_ne hd with hl | hl
    · exact h.ne _ _ hl hi hno e
    · have hno2 : LA (ts.idxOf (j : Int)) ≠ none := by rw [e]; exact hno
      exact h.ne _ _ hl hj2 hno2 e.symm
  · rw [k1]
    refine .inr ⟨g1, _, rfl, hlo, h.r1.lt, Nat.le_refl _, h.r1, fun x hx => ?_⟩
    have hj : x / 3 < b.nodes.length := by omega
    have hi := each_lt hT hj
    obtain ⟨r1, r2, r3⟩ := rn_links (es := es) hT hj
    show nrv b ts LA LC b.nodes.length x = ndc _ (lnOf (rnB b ts es).nodes) (ctOf (rnB b ts es).nodes) (paOf (rnB b ts es).nodes) x
    unfold nrv ndc
    have hln : lnOf (rnB b ts es).nodes (x / 3) = lnOf b.nodes (ts.idxOf ((x / 3 : Nat) : Int)) := by unfold lnOf; rw [r1, List.length_map]
    rw [if_pos hi, r2, r3, hln]
  · intro j hj
    rw [k1] at hj
    have hi := each_lt hT hj
    obtain ⟨r1, -, -⟩ := rn_links (es := es) hT hj
    have hln : lnOf (rnB b ts es).nodes j = lnOf b.nodes (ts.idxOf (j : Int)) := by unfold lnOf; rw [r1, List.length_map]
    show RowR wr lo wr.heap.size 3 1 (LA (ts.idxOf (j : Int))) (lnOf (rnB b ts es).nodes j) (LC (ts.idxOf (j : Int))) (iat (linksOf (rnB b ts es).nodes j))
    rw [hln, r1]
    exact h.lnk _ hi
  · exact h2
  · rw [k5]; exact h5
theorem sb_done (b : Big) (ts es : List Int) : mixS (mvP ts) b.sites.length (sbB b ts es b.sites) = rnB b ts es := by
  unfold mixS sbB rnB
  congr 1
  refine List.ext_getElem? (fun i => ?_)
  rw [List.getElem?_mapIdx, List.getElem?_map]
  cases hx : b.sites[i]? with
  | none => rfl
  | some x =>
    have hi := (List.getElem?_eq_some_iff.1 hx).1
    simp only [Option.map_some]
    rw [if_pos hi]
set_option maxHeartbeats 800000 in
theorem place_any (At : Option Addr) (nt ct : Nat) (ts : List Int) (p : Int) (β : Nat) (w : World) (B : Nat) (h : IntsAt w B At nt ts) (hc : w.cell? ⟨β, 0, none⟩ = some (.slice At nt ct)) (hp : p < nt) (hn : nt ≤ 1048576) (hp0 : -8 ≤ p) :
    Calls Try.prog 76 #[.int .i64 p, .pointer (some ⟨β, 0, none⟩)] w fun e w' => e = .returned (.int .i64 (mvP ts p)) ∧ w = w' := by
  by_cases h0 : p < 0
  · have HE := Lib.hid (mvP_neg (ts := ts) h0)
    rw [HE.out]
    go_enter Try.func76, Try.ntmps76
    go_wp2_with fail
    go_ret
    exact ⟨rfl, rfl⟩
  · obtain ⟨k, rfl⟩ : ∃ k : Nat, p = k := ⟨p.toNat, by omega⟩
    obtain ⟨b, off, z, rfl, hb, hz, cz⟩ := h.get (show k < nt by omega)
    have HE := Lib.hid (mvP_get (ts := ts) h0 (by rw [Int.toNat_natCast]; exact hz))
    rw [HE.out]
    clear hz
    go_enter Try.func76, Try.ntmps76
    go_wp2_with fail
    go_ret
    exact ⟨rfl, rfl⟩
set_option maxHeartbeats 800000 in
theorem edge_any (v0 v1 v2 v4 v5 : Value) (E : Int) (Ae : Option Addr) (ne ce : Nat) (es : List Int) (l : Int) (β5 β7 : Nat) (w : World) (B : Nat) (h : IntsAt w B Ae ne es) (hx : BoxAt w β5 34 v0 v1 v2 (.int .i64 E) v4 v5) (hc : w.cell? ⟨β7, 0, none⟩ = some (.slice Ae ne ce)) (hE : E = ne) (hn : ne ≤ 8) (hl : 0 ≤ l ∧ l ≤ 100) :
    Calls Try.prog 78 #[.int .i64 l, .pointer (some ⟨β5, 0, none⟩), .pointer (some ⟨β7, 0, none⟩)] w fun e w' => e = .returned (.int .i64 (tieF E es l)) ∧ w = w' := by
  obtain ⟨hl0, hl1⟩ := hl
  subst hE
  obtain ⟨x0, x1, x2, x3, x4, x5⟩ := hx.get
  by_cases h0 : (ne : Int) ≤ l
  · have HE := Lib.hid (tieF_out (es := es) h0)
    rw [HE.out]
    go_enter Try.func78, Try.ntmps78
    go_wp2_with fail
    go_ret
    exact ⟨rfl, rfl⟩
  · obtain ⟨k, rfl⟩ : ∃ k : Nat, l = k := ⟨l.toNat, by omega⟩
    obtain ⟨b, off, z, rfl, hb, hz, cz⟩ := h.get (show k < ne by omega)
    have HE := Lib.hid (tieF_get (es := es) h0 (by rw [Int.toNat_natCast]; exact hz))
    rw [HE.out]
    clear hz
    go_enter Try.func78, Try.ntmps78
    go_wp2_with fail
    go_ret
    exact ⟨rfl, rfl⟩
theorem edge_two (v0 v1 v2 v4 v5 : Value) (E : Int) (Ae : Option Addr) (ne ce : Nat) (es : List Int) (l : Int) (β5 β7 : Nat) (w : World) (B : Nat) (h : IntsAt w B Ae ne es) (hx : BoxAt w β5 34 v0 v1 v2 (.int .i64 E) v4 v5) (hc : w.cell? ⟨β7, 0, none⟩ = some (.slice Ae ne ce)) (hE : E = ne) (hn : ne ≤ 8) (hl : 0 ≤ l ∧ l ≤ 100) :
    Calls Try.prog 78 (#[.int .i64 l] ++ #[.pointer (some ⟨β5, 0, none⟩), .pointer (some ⟨β7, 0, none⟩)]) w fun e w' => e = .returned (.int .i64 (tieF E es l)) ∧ Below w.heap.size w w' := by
  rw [show (#[.int .i64 l] ++ #[.pointer (some ⟨β5, 0, none⟩), .pointer (some ⟨β7, 0, none⟩)] : Array Value) = #[.int .i64 l, .pointer (some ⟨β5, 0, none⟩), .pointer (some ⟨β7, 0, none⟩)] from rfl]
  exact (edge_any v0 v1 v2 v4 v5 E Ae ne ce es l β5 β7 w B h hx hc hE hn hl).mono (fun _ _ ⟨a, b⟩ => ⟨a, b ▸ Below.refl _ _⟩)
theorem one_cell (w : World) (u : Value) (t : TypeId) : (w.alloc (.cells #[u] t)).cell? ⟨w.heap.size, 0, none⟩ = some u := ((row_new w #[u] t 1 rfl).cell (show 0 < 1 by omega) : _)
set_option maxRecDepth 20000 in
set_option maxHeartbeats 12800000 in
theorem iRz_any (A : Option Addr) (n c : Nat) (cs : List Ctl) (v : Value) (b : Big) (At : Option Addr) (nt ct : Nat) (ts : List Int) (Ae : Option Addr) (ne ce : Nat) (es : List Int) (w : World) (hC : CtlsAt w w.heap.size A n cs) (hn : n ≤ 1048576) (hs : ∀ c ∈ cs, c.name.size ≤ 1048576) (hv : BigAt w w.heap.size v b) (hS : BigS b) (hw : BigW b) (hN : NilV v) (ht : IntsAt w w.heap.size At nt ts) (hnt : nt ≤ 1048576) (hwt : ∀ z ∈ ts, (Lit.int .i64 z).wf = true) (h0t : At = none → ct = 0) (he : IntsAt w w.heap.size Ae ne es) (hne : ne ≤ 1048576) (hwe : ∀ z ∈ es, (Lit.int .i64 z).wf = true) (h0e : Ae = none → ce = 0) :
    Calls Try.prog 22 #[.slice A n c, v, .slice At nt ct, .slice Ae ne ce] w (BigPost (rzQ cs b ts es) (rzR cs b ts es) w) := by
  have hNb := hN
  obtain ⟨A1, n1, c1, A2, n2, c2, A4, n4, c4, A5, n5, c5, rfl, h1, h2, h4, h5⟩ := hv
  have hb1 := (Below.refl w.heap.size w).alloc (Nat.le_refl _) (.cells #[.int .i64 b.roots, .slice A1 n1 c1, .slice A2 n2 c2, .int .i64 b.edges, .slice A4 n4 c4, .slice A5 n5 c5] 34)
  have HBox1 : BoxAt (w.alloc (.cells #[.int .i64 b.roots, .slice A1 n1 c1, .slice A2 n2 c2, .int .i64 b.edges, .slice A4 n4 c4, .slice A5 n5 c5] 34)) w.heap.size 34 (.int .i64 b.roots) (.slice A1 n1 c1) (.slice A2 n2 c2) (.int .i64 b.edges) (.slice A4 n4 c4) (.slice A5 n5 c5) := six_new w _ _ _ _ _ _ _
  obtain ⟨U1, hU1⟩ : ∃ U, w.alloc (.cells #[.int .i64 b.roots, .slice A1 n1 c1, .slice A2 n2 c2, .int .i64 b.edges, .slice A4 n4 c4, .slice A5 n5 c5] 34) = U := ⟨_, rfl⟩
  have hz1 : U1.heap.size = w.heap.size + 1 := by rw [← hU1, World.size_alloc]
  rw [hU1] at hb1 HBox1
  have hb2 := (Below.refl U1.heap.size U1).alloc (Nat.le_refl _) (.cells #[.slice At nt ct] 24)
  have hcT := one_cell U1 (.slice At nt ct) 24
  obtain ⟨U2, hU2⟩ : ∃ U, U1.alloc (.cells #[.slice At nt ct] 24) = U := ⟨_, rfl⟩
  have hz2 : U2.heap.size = w.heap.size + 1 + 1 := by rw [← hU2, World.size_alloc, hz1]
  rw [hU2] at hb2 hcT
  have hb3 := (Below.refl U2.heap.size U2).alloc (Nat.le_refl _) (.cells #[.slice Ae ne ce] 24)
  have hcE := one_cell U2 (.slice Ae ne ce) 24
  obtain ⟨U3, hU3⟩ : ∃ U, U2.alloc (.cells #[.slice Ae ne ce] 24) = U := ⟨_, rfl⟩
  have hz3 : U3.heap.size = w.heap.size + 1 + 1 + 1 := by rw [← hU3, World.size_alloc, hz2]
  rw [hU3] at hb3 hcE
  have hb4 := (Below.refl U3.heap.size U3).alloc (Nat.le_refl _) (.cells #[.int .i64 0, .slice none 0 0, .slice none 0 0, .int .i64 0, .slice none 0 0, .slice none 0 0] 34)
  have HBx4 : BoxAt (U3.alloc (.cells #[.int .i64 0, .slice none 0 0, .slice none 0 0, .int .i64 0, .slice none 0 0, .slice none 0 0] 34)) U3.heap.size 34 (.int .i64 0) (.slice none 0 0) (.slice none 0 0) (.int .i64 0) (.slice none 0 0) (.slice none 0 0) := six_new U3 _ _ _ _ _ _ _
  obtain ⟨W, hW⟩ : ∃ U, U3.alloc (.cells #[.int .i64 0, .slice none 0 0, .slice none 0 0, .int .i64 0, .slice none 0 0, .slice none 0 0] 34) = U := ⟨_, rfl⟩
  have hz4 : W.heap.size = w.heap.size + 1 + 1 + 1 + 1 := by rw [← hW, World.size_alloc, hz3]
  rw [hW] at hb4 HBx4
  have HB0 := Lib.hid (((hb1.trans (hb2.mono hb1.size)).trans ((hb3.trans (hb4.mono hb3.size)).mono (by omega))))
  have hcT' := (hb4.cell (p := ⟨U1.heap.size, 0, none⟩) (by dsimp only; omega)).trans ((hb3.cell (p := ⟨U1.heap.size, 0, none⟩) (by dsimp only; omega)).trans hcT)
  have hcE' := (hb4.cell (p := ⟨U2.heap.size, 0, none⟩) (by dsimp only; omega)).trans hcE
  rw [hz1] at hcT'
  rw [hz2] at hcE'
  rw [hz3] at HBx4
  have HcT := Lib.hid hcT'
  have HcE := Lib.hid hcE'
  have HBox := Lib.hid (((HBox1.on hb2).on hb3).on hb4)
  have HBx0 := Lib.hid HBx4
  have HQ1 := Lib.hid hU1
  have HQ2 := Lib.hid hU2
  have HQ3 := Lib.hid hU3
  have HQ4 := Lib.hid hW
  have HWz := Lib.hid hz4
  have hVW : BigAt W W.heap.size (.agg #[.int .i64 b.roots, .slice A1 n1 c1, .slice A2 n2 c2, .int .i64 b.edges, .slice A4 n4 c4, .slice A5 n5 c5]) b := BigAt.wide (BigAt.below ⟨_, _, _, _, _, _, _, _, _, _, _, _, rfl, h1, h2, h4, h5⟩ HB0.out) HB0.out.size
  have C := isBig_any A n c cs _ b W ((hC.below HB0.out).wide HB0.out.size) hVW hn hs hS hw
  clear hb1 hb2 hb3 hb4 HBox1 HBx4 hcT hcE hcT' hcE' hU1 hU2 hU3 hW hz1 hz2 hz3 hVW hN
  obtain ⟨x0, x1, x2, x3, x4, x5⟩ := HBox.out.get
  cases hq : bigB cs b with
  | false =>
    rw [hq] at C
    have HR := Lib.hid (rz_no (cs := cs) (b := b) (ts := ts) (es := es) (by unfold rzP; rw [hq]; rfl))
    rw [HR.out.1, HR.out.2]
    clear hq hs hz4 hwt hwe
    go_enter Try.func22, Try.ntmps22
    go_wp2_with fail
    rw [HQ1.out, HQ2.out, HQ3.out, HQ4.out]
    go_wp2_with fail
    refine C.mono ?_
    rintro e w1 ⟨rfl, hb⟩
    have hb1 := HB0.out.trans (hb.mono HB0.out.size)
    have HBx1 := Lib.hid (HBx0.out.on hb)
    clear hb C x0 x1 x2 x3 x4 x5
    obtain ⟨z0, z1, z2, z3, z4, z5⟩ := HBx1.out.get
    have f0 := World.rowIs.frozen HBx1.out 0
    have f1 := World.rowIs.frozen HBx1.out 1
    have f2 := World.rowIs.frozen HBx1.out 2
    have f3 := World.rowIs.frozen HBx1.out 3
    have f4 := World.rowIs.frozen HBx1.out 4
    have f5 := World.rowIs.frozen HBx1.out 5
    go_wp2_with fail
    refine bodyPost_ret (v := .tuple #[.agg #[.int .i64 0, .slice none 0 0, .slice none 0 0, .int .i64 0, .slice none 0 0, .slice none 0 0], .bool false]) (by simp [results, Try.results22, go_sem, z0, z1, z2, z3, z4, z5]) rfl ⟨_, rfl, BigR.zero, sets6_below hb1 (by omega) _ _ _ _ _ _⟩
  | true =>
    rw [hq] at C
    have hz := sizes_of (big_of hq).2.1
    have hE0 : b.edges = ((b.edges.toNat : Nat) : Int) := by omega
    have l1 : b.nodes.length = n1 := h1.1
    have HT := Lib.hid (fun (Y : World) (hY : Below w.heap.size w Y) => isPermuted_any At nt ct ts n1 Y ((ht.below hY).wide hY.size) hnt (by omega) hwt)
    have HE := Lib.hid (fun (Y : World) (hY : Below w.heap.size w Y) => isPermuted_any Ae ne ce es b.edges.toNat Y ((he.below hY).wide hY.size) hne (by omega) hwe)
    rw [← hE0] at HE
    cases hq2 : eachB ts n1 with
    | false =>
      rw [hq2] at HT
      have HR := Lib.hid (rz_no (cs := cs) (b := b) (ts := ts) (es := es) (by unfold rzP; rw [hq, l1, hq2]; rfl))
      rw [HR.out.1, HR.out.2]
      clear hq hq2 hs hz hE0 HE hwt hwe hz4
      go_enter Try.func22, Try.ntmps22
      go_wp2_with fail
      rw [HQ1.out, HQ2.out, HQ3.out, HQ4.out]
      go_wp2_with fail
      refine C.mono ?_
      rintro e w1 ⟨rfl, hb⟩
      have hb1 := HB0.out.trans (hb.mono HB0.out.size)
      have HBx1 := Lib.hid (HBx0.out.on hb)
      have hct := (hb.cell (p := ⟨w.heap.size + 1, 0, none⟩) (by dsimp only; rw [HWz.out]; omega)).trans HcT.out
      have C2 := HT.out w1 hb1
      have HBox1 := Lib.hid (HBox.out.on hb)
      clear hb C x0 x1 x2 x3 x4 x5
      obtain ⟨x0, x1, x2, x3, x4, x5⟩ := HBox1.out.get
      go_wp2_with fail
      refine C2.mono ?_
      rintro e w2 ⟨rfl, hb⟩
      have hb2 := hb1.trans (hb.mono hb1.size)
      have HBx2 := Lib.hid (HBx1.out.on hb)
      clear x0 x1 x2 x3 x4 x5 C2 hb hct
      obtain ⟨z0, z1, z2, z3, z4, z5⟩ := HBx2.out.get
      have f0 := World.rowIs.frozen HBx2.out 0
      have f1 := World.rowIs.frozen HBx2.out 1
      have f2 := World.rowIs.frozen HBx2.out 2
      have f3 := World.rowIs.frozen HBx2.out 3
      have f4 := World.rowIs.frozen HBx2.out 4
      have f5 := World.rowIs.frozen HBx2.out 5
      go_wp2_with fail
      refine bodyPost_ret (v := .tuple #[.agg #[.int .i64 0, .slice none 0 0, .slice none 0 0, .int .i64 0, .slice none 0 0, .slice none 0 0], .bool false]) (by simp [results, Try.results22, go_sem, z0, z1, z2, z3, z4, z5]) rfl ⟨_, rfl, BigR.zero, sets6_below hb2 (by omega) _ _ _ _ _ _⟩
    | true =>
      rw [hq2] at HT
      cases hq3 : eachB es b.edges.toNat with
      | false =>
        rw [hq3] at HE
        have HR := Lib.hid (rz_no (cs := cs) (b := b) (ts := ts) (es := es) (by unfold rzP; rw [hq, l1, hq2, hq3]; rfl))
        rw [HR.out.1, HR.out.2]
        clear hq hq2 hq3 hs hz hE0 hwt hwe hz4
        go_enter Try.func22, Try.ntmps22
        go_wp2_with fail
        rw [HQ1.out, HQ2.out, HQ3.out, HQ4.out]
        go_wp2_with fail
        refine C.mono ?_
        rintro e w1 ⟨rfl, hb⟩
        have hb1 := HB0.out.trans (hb.mono HB0.out.size)
        have HBx1 := Lib.hid (HBx0.out.on hb)
        have hct := (hb.cell (p := ⟨w.heap.size + 1, 0, none⟩) (by dsimp only; rw [HWz.out]; omega)).trans HcT.out
        have HcE1 := Lib.hid ((hb.cell (p := ⟨w.heap.size + 1 + 1, 0, none⟩) (by dsimp only; rw [HWz.out]; omega)).trans HcE.out)
        have C2 := HT.out w1 hb1
        have HBox1 := Lib.hid (HBox.out.on hb)
        have hsz1 : w.heap.size + 1 + 1 + 1 + 1 ≤ w1.heap.size := by rw [← HWz.out]; exact hb.size
        clear hb C x0 x1 x2 x3 x4 x5
        obtain ⟨x0, x1, x2, x3, x4, x5⟩ := HBox1.out.get
        go_wp2_with fail
        refine C2.mono ?_
        rintro e w2 ⟨rfl, hb⟩
        have hb2 := hb1.trans (hb.mono hb1.size)
        have HBx2 := Lib.hid (HBx1.out.on hb)
        have hce := (hb.cell (p := ⟨w.heap.size + 1 + 1, 0, none⟩) (by dsimp only; omega)).trans HcE1.out
        have C3 := HE.out w2 hb2
        have HBox2 := Lib.hid (HBox1.out.on hb)
        clear x0 x1 x2 x3 x4 x5 C2 hb hct
        obtain ⟨x0, x1, x2, x3, x4, x5⟩ := HBox2.out.get
        go_wp2_with fail
        refine C3.mono ?_
        rintro e w3 ⟨rfl, hb⟩
        have hb3 := hb2.trans (hb.mono hb2.size)
        have HBx3 := Lib.hid (HBx2.out.on hb)
        clear x0 x1 x2 x3 x4 x5 C3 hb hce
        obtain ⟨z0, z1, z2, z3, z4, z5⟩ := HBx3.out.get
        have f0 := World.rowIs.frozen HBx3.out 0
        have f1 := World.rowIs.frozen HBx3.out 1
        have f2 := World.rowIs.frozen HBx3.out 2
        have f3 := World.rowIs.frozen HBx3.out 3
        have f4 := World.rowIs.frozen HBx3.out 4
        have f5 := World.rowIs.frozen HBx3.out 5
        go_wp2_with fail
        refine bodyPost_ret (v := .tuple #[.agg #[.int .i64 0, .slice none 0 0, .slice none 0 0, .int .i64 0, .slice none 0 0, .slice none 0 0], .bool false]) (by simp [results, Try.results22, go_sem, z0, z1, z2, z3, z4, z5]) rfl ⟨_, rfl, BigR.zero, sets6_below hb3 (by omega) _ _ _ _ _ _⟩
      | true =>
        rw [hq3] at HE
        have hTP : EachP ts b.nodes.length := by rw [l1]; exact each_of hq2
        have hEP := each_of hq3
        have hTa := rn_tame (tame_good hq hS) hz.2.2.1 hTP hEP (by omega)
        have HR := Lib.hid (rz_yes (cs := cs) (b := b) (ts := ts) (es := es) (by unfold rzP; rw [hq, l1, hq2, hq3]; rfl))
        have HGv := Lib.hid (fun (v2 : Value) (Y : World) (hY : Below w.heap.size w Y) (hr : BigR Y w.heap.size Y.heap.size v2 (rnB b ts es)) => ifb_any A n c cs v2 (rnB b ts es) w Y hC hY hn hs hr hTa.S hTa.W)
        have hEn : b.edges = (ne : Int) := by have := hEP.2; have := he.len; omega
        have hnn : nt = n1 := by have := hTP.2; have := ht.len; omega
        have hl := fun (x : Nd) (hx : x ∈ b.nodes) (l : Int) (h : l ∈ x.links) => big_link hq hx h
        have hwl := fun (x : Wr) (hx : x ∈ b.inner) => big_wire hq hx
        have HRl := Lib.hid (fun (Y : World) (hY : Below W.heap.size W Y) => relinked_any 78 #[.pointer (some ⟨w.heap.size, 0, none⟩), .pointer (some ⟨w.heap.size + 1 + 1, 0, none⟩)] (tieF b.edges es) (fun l => 0 ≤ l ∧ l ≤ 100) (.agg #[.int .i64 b.roots, .slice A1 n1 c1, .slice A2 n2 c2, .int .i64 b.edges, .slice A4 n4 c4, .slice A5 n5 c5]) b Y (enters_of Try.func78 (by kernel_rfl) rfl) (fun l Z hl0 hZ => edge_two _ _ _ _ _ b.edges Ae ne ce es l w.heap.size (w.heap.size + 1 + 1) Z _ (he.below (HB0.out.trans ((hY.trans (hZ.mono hY.size)).mono HB0.out.size))) ((HBox.out.on hY).on hZ) (((hY.trans (hZ.mono hY.size)).cell (p := ⟨w.heap.size + 1 + 1, 0, none⟩) (by dsimp only; omega)).trans HcE.out) hEn (by omega) hl0) (BigAt.wide (BigAt.below ⟨_, _, _, _, _, _, _, _, _, _, _, _, rfl, h1, h2, h4, h5⟩ (HB0.out.trans (hY.mono HB0.out.size))) (HB0.out.trans (hY.mono HB0.out.size)).size) hS hNb hl hwl)
        subst hnn
        have HGs := Lib.hid (good_sites hq)
        have HPl : Hid (∀ (p : Int) (Y : World), (-8 ≤ p ∧ p < nt) → Below W.heap.size W Y → Calls Try.prog 76 #[.int .i64 p, .pointer (some ⟨w.heap.size + 1, 0, none⟩)] Y fun e w' => e = .returned (.int .i64 (mvP ts p)) ∧ Y = w') := Lib.hid (fun p Y hp hY => place_any At nt ct ts p (w.heap.size + 1) Y _ (ht.below (HB0.out.trans (hY.mono HB0.out.size))) ((hY.cell (p := ⟨w.heap.size + 1, 0, none⟩) (by dsimp only; omega)).trans HcT.out) hp.2 hnt hp.1)
        have HTi := Lib.hid ht
        have HTP := Lib.hid hTP
        have HL1 := Lib.hid h1.1
        have HL2 := Lib.hid h2.len
        have HLe := Lib.hid (show (relB (tieF b.edges es) b).roots = b.roots ∧ (relB (tieF b.edges es) b).nodes.length = nt ∧ (relB (tieF b.edges es) b).sites.length = n2 ∧ (relB (tieF b.edges es) b).edges = b.edges ∧ (relB (tieF b.edges es) b).outer.length = n4 ∧ (relB (tieF b.edges es) b).inner.length = n5 from ⟨rfl, by simp only [relB, List.length_map]; exact h1.1, h2.len, rfl, h4.strlen, by simp only [relB, List.length_map]; exact h5.1⟩)
        have HL4 := Lib.hid h4.strlen
        have HL5 := Lib.hid h5.1
        have hn8 : nt ≤ 8 := by omega
        have hn2 : n2 ≤ 4 := by have := h2.len; omega
        have hmk := fun Y => run_make3 Y nt hnt
        obtain ⟨Lb, hLb⟩ : ∃ Lb, giveR cs (rnB b ts es) = Lb := ⟨_, rfl⟩
        obtain ⟨q4, hq4⟩ : ∃ q4, bigB cs (rnB b ts es) = q4 := ⟨_, rfl⟩
        rw [HR.out.1, HR.out.2, hLb, hq4]
        rw [hLb, hq4] at HGv
        clear hLb hq4
        clear hq hq2 hq3 hs hz hE0 hwt hwe hTa hTP hEP hC hn hS hw hNb h1 h2 h4 h5 hEn l1 hl hwl ht he
        go_enter Try.func22, Try.ntmps22
        go_wp2_with fail
        rw [HQ1.out, HQ2.out, HQ3.out, HQ4.out]
        go_wp2_with fail
        refine C.mono ?_
        rintro e w1 ⟨rfl, hb⟩
        have HW1 := Lib.hid hb
        have hb1 := HB0.out.trans (hb.mono HB0.out.size)
        have HBx1 := Lib.hid (HBx0.out.on hb)
        have hct := (hb.cell (p := ⟨w.heap.size + 1, 0, none⟩) (by dsimp only; rw [HWz.out]; omega)).trans HcT.out
        have C2 := HT.out w1 hb1
        have HBox1 := Lib.hid (HBox.out.on hb)
        clear hb C x0 x1 x2 x3 x4 x5
        obtain ⟨x0, x1, x2, x3, x4, x5⟩ := HBox1.out.get
        go_wp2_with fail
        refine C2.mono ?_
        rintro e w2 ⟨rfl, hb⟩
        have HW2 := Lib.hid (HW1.out.trans (hb.mono HW1.out.size))
        have hb2 := hb1.trans (hb.mono hb1.size)
        have HBx2 := Lib.hid (HBx1.out.on hb)
        have hce := (HW2.out.cell (p := ⟨w.heap.size + 1 + 1, 0, none⟩) (by dsimp only; rw [HWz.out]; omega)).trans HcE.out
        have C3 := HE.out w2 hb2
        have HBox2 := Lib.hid (HBox1.out.on hb)
        clear x0 x1 x2 x3 x4 x5 C2 hb hct
        obtain ⟨x0, x1, x2, x3, x4, x5⟩ := HBox2.out.get
        go_wp2_with fail
        refine C3.mono ?_
        rintro e w3 ⟨rfl, hb⟩
        have HW3 := Lib.hid (HW2.out.trans (hb.mono HW2.out.size))
        have HBx3 := Lib.hid (HBx2.out.on hb)
        have HBox3 := Lib.hid (HBox2.out.on hb)
        have HC4 := Lib.hid (HRl.out w3 HW3.out)
        clear x0 x1 x2 x3 x4 x5 C3 hb hce hb1 hb2
        obtain ⟨x0, x1, x2, x3, x4, x5⟩ := HBox3.out.get
        go_wp2_with fail
        refine HC4.out.mono ?_
        rintro e w4 ⟨v4, rfl, hr, hb⟩
        obtain ⟨P, rfl, hL⟩ := laid_of hr
        obtain ⟨B1, e1, B2, e2, B4, e4, B5, e5, LA, LC⟩ := P
        obtain ⟨d0, d1, d2, d3, d4, d5⟩ := HLe.out
        rw [d0, d1, d2, d3, d4, d5]
        clear d0 d1 d2 d3 d4 d5
        dsimp only
        have HW4 := Lib.hid (HW3.out.trans (hb.mono HW3.out.size))
        have HL4w := Lib.hid (hL.wide (lo' := W.heap.size) HW3.out.size (Nat.le_refl _))
        have hbX := (Below.refl w4.heap.size w4).alloc (Nat.le_refl _) (.cells #[.int .i64 b.roots, .slice B1 nt e1, .slice B2 n2 e2, .int .i64 b.edges, .slice B4 n4 e4, .slice B5 n5 e5] 34)
        have HX : BoxAt (w4.alloc (.cells #[.int .i64 b.roots, .slice B1 nt e1, .slice B2 n2 e2, .int .i64 b.edges, .slice B4 n4 e4, .slice B5 n5 e5] 34)) w4.heap.size 34 (.int .i64 b.roots) (.slice B1 nt e1) (.slice B2 n2 e2) (.int .i64 b.edges) (.slice B4 n4 e4) (.slice B5 n5 e5) := six_new w4 _ _ _ _ _ _ _
        have hbY := (Below.refl (w4.alloc (.cells #[.int .i64 b.roots, .slice B1 nt e1, .slice B2 n2 e2, .int .i64 b.edges, .slice B4 n4 e4, .slice B5 n5 e5] 34)).heap.size (w4.alloc (.cells #[.int .i64 b.roots, .slice B1 nt e1, .slice B2 n2 e2, .int .i64 b.edges, .slice B4 n4 e4, .slice B5 n5 e5] 34))).alloc (Nat.le_refl _) (.cells (madeCells #[.int .i64 0, .int .i64 0, .slice none 0 0] (nt * 3)) 91)
        have hmade := made_new (w4.alloc (.cells #[.int .i64 b.roots, .slice B1 nt e1, .slice B2 n2 e2, .int .i64 b.edges, .slice B4 n4 e4, .slice B5 n5 e5] 34)) nt
        have hsz4 : (w4.alloc (.cells #[.int .i64 b.roots, .slice B1 nt e1, .slice B2 n2 e2, .int .i64 b.edges, .slice B4 n4 e4, .slice B5 n5 e5] 34)).heap.size = w4.heap.size + 1 := World.size_alloc ..
        rw [hsz4] at hmade
        have HMz := Lib.hid hmade
        have HX2 := HX.on hbY
        have HBXY := Lib.hid (hbX.trans (hbY.mono hbX.size))
        have HXY := Lib.hid HX2
        obtain ⟨y0, y1, y2, y3, y4, y5⟩ := ((HBox3.out.on hb).on hbX).get
        obtain ⟨z0, z1, z2, z3, z4, z5⟩ := HX2.get
        clear hr hb hL HX HX2 hbX hbY hmade hsz4 x0 x1 x2 x3 x4 x5
        go_wp2_with fail
        clear y0 y1 y2 y3 y4 y5 z0 z1 z2 z3 z4 z5 hmk
        obtain ⟨β, hβ⟩ : ∃ β, w4.heap.size = β := ⟨_, rfl⟩
        obtain ⟨W5, hW5⟩ : ∃ W5, ((w4.alloc (.cells #[.int .i64 b.roots, .slice B1 nt e1, .slice B2 n2 e2, .int .i64 b.edges, .slice B4 n4 e4, .slice B5 n5 e5] 34)).alloc (.cells (madeCells #[.int .i64 0, .int .i64 0, .slice none 0 0] (nt * 3)) 91)) = W5 := ⟨_, rfl⟩
        have HLw := Lib.hid (HL4w.out.on HBXY.out)
        have HW5 := Lib.hid (HW4.out.trans (HBXY.out.mono HW4.out.size))
        have hWβ := HW4.out.size
        rw [hW5] at HMz HXY HLw HW5 ⊢
        rw [hβ] at HMz HXY HLw hWβ ⊢
        clear hβ hW5 HQ1 HQ2 HQ3 HQ4 HBXY HL4w
        have hWz := HWz.out
        go_loopw [48] (fun i wr => ∃ k : Nat, k ≤ nt ∧ i = .int .i64 k ∧ RnMid W.heap.size wr b ts es nt (β + 1) k LA LC ∧ Below (β + 1) W5 wr) (fun i _ => nt - (intOf i).toNat)
        case atStart => exact ⟨0, Nat.zero_le _, rfl, RnMid.zero HMz.out, Below.refl _ _⟩
        case round =>
          obtain ⟨k, hk, rfl, hM, hbel⟩ := hrel
          rename World => wr
          have hLr := HLw.out.stay (w' := wr) (fun g f m t _ _ hg => hbel.block g (by omega))
          have hWr : Below W.heap.size W wr := HW5.out.trans (hbel.mono (by omega))
          have hβr := hM.r1.lt
          by_cases hlt : k < nt
          · obtain ⟨x, hx⟩ : ∃ x, b.nodes[k]? = some x := ⟨_, List.getElem?_eq_getElem (show k < b.nodes.length by rw [HL1.out]; exact hlt)⟩
            have hx' : (relB (tieF b.edges es) b).nodes[k]? = some ⟨x.control, x.parent, x.links.map (tieF b.edges es)⟩ := by
              show (b.nodes.map _)[k]? = _
              rw [List.getElem?_map, hx]
              rfl
            obtain ⟨g1, f1, eA, hg2, -, r2, hk3, ec, ep, el, -⟩ := hLr.node hx'
            have eA' : B1 = some ⟨g1, 0, none⟩ := eA
            subst eA'
            dsimp only at r2 hk3 ec ep el
            have p0 := r2.cell (show k * 3 < e1 * 3 by omega)
            have p1 := r2.cell (show k * 3 + 1 < e1 * 3 by omega)
            have p2 := r2.cell (show k * 3 + 2 < e1 * 3 by omega)
            rw [ec] at p0
            rw [ep] at p1
            rw [el] at p2
            have hLk := hLr.2.1.2 k (by rw [HLe.out.2.1]; exact hlt)
            have hAp := hLr.1 k (by rw [HLe.out.2.1]; exact hlt)
            dsimp only at hLk hAp
            have hlnk : lnOf (relB (tieF b.edges es) b).nodes k = (x.links.map (tieF b.edges es)).length := by unfold lnOf; rw [linksOf_at hx']
            rw [hlnk, linksOf_at hx'] at hLk
            dsimp only at hLk
            obtain ⟨ln, hln⟩ : ∃ ln, (x.links.map (tieF b.edges es)).length = ln := ⟨_, rfl⟩
            have HLn : Hid (ln = x.links.length) := Lib.hid (by rw [← hln, List.length_map])
            rw [hln] at p2 hLk
            obtain ⟨bt, offt, t, rfl, hbt, hzt, czt⟩ := HTi.out.get hlt
            have htr := each_in HTP.out hzt
            obtain ⟨tn, rfl⟩ : ∃ tn : Nat, t = tn := ⟨t.toNat, by omega⟩
            have htn : tn < nt := by have := HL1.out; omega
            have hxp := HGs.out.1 k x hx
            have hxd := HGs.out.2.1 k x hx
            have hX := (Below.refl wr.heap.size wr).alloc (Nat.le_refl _) (.cells #[.int .i64 x.control, .int .i64 x.parent, .slice (LA k) ln (LC k)] 91)
            have hrow := row_new wr #[.int .i64 x.control, .int .i64 x.parent, .slice (LA k) ln (LC k)] 91 3 rfl
            have hpc : (wr.alloc (.cells #[.int .i64 x.control, .int .i64 x.parent, .slice (LA k) ln (LC k)] 91)).cell? ⟨wr.heap.size, 1, none⟩ = some (.int .i64 x.parent) := (hrow.cell (show 1 < 3 by omega) : _)
            obtain ⟨T, hT⟩ : ∃ T, mvP ts x.parent = T := ⟨_, rfl⟩
            have CT := Lib.hid (hT ▸ HPl.out x.parent _ (And.intro (by have := HGs.out.2.2.2.2.1; omega) (by omega)) (hWr.trans (hX.mono hWr.size)))
            have HX1 := Lib.hid hX
            have HRow := Lib.hid hrow
            have HM := Lib.hid hM
            have HLk := Lib.hid hLk
            have HAp := Lib.hid hAp
            have HBel := Lib.hid hbel
            have HWr := Lib.hid hWr
            have HXx := Lib.hid hx
            have HTk := Lib.hid hzt
            have HTT := Lib.hid hT
            have HCz := Lib.hid czt
            have hwr5 := hbel.size
            clear hLr hx hx' eA r2 ec ep el hLk hAp hlnk hln hzt htr hxp hxd hX hrow hT hM hbel hWr czt
            go_wp2_with fail
            refine CT.out.mono ?_
            rintro e w6 ⟨rfl, rfl⟩
            obtain ⟨X, hX⟩ : ∃ X, wr.alloc (.cells #[.int .i64 x.control, .int .i64 x.parent, .slice (LA k) ln (LC k)] 91) = X := ⟨_, rfl⟩
            obtain ⟨γ, hγ⟩ : ∃ γ, wr.heap.size = γ := ⟨_, rfl⟩
            rw [hX] at HX1 HRow ⊢
            have hXz : X.heap.size = wr.heap.size + 1 := by rw [← hX, World.size_alloc]
            have hrow := HRow.out
            rw [hγ] at hrow hXz ⊢
            have hf1 := World.rowIs.frozen hrow 1
            have hcX : X.cell? ⟨γ, 1, none⟩ = some (.int .i64 x.parent) := (hrow.cell (show 1 < 3 by omega) : _)
            clear p0 p1 p2 hpc hX CT
            go_wp2_with fail
            obtain ⟨X2, hX2⟩ : ∃ X2, X.setCell ⟨γ, 1, none⟩ (.int .i64 T) = X2 := ⟨_, rfl⟩
            have hrow2 := hrow.set 1 (.int .i64 T)
            have hbX2 := HX1.out.setCell (p := ⟨γ, 1, none⟩) (by dsimp only; omega) (.int .i64 T)
            rw [hX2] at hrow2 hbX2 ⊢
            have n0 : X2.cell? ⟨γ, 0, none⟩ = some (.int .i64 x.control) := (hrow2.cell (show 0 < 3 by omega) : _)
            have n1' : X2.cell? ⟨γ, 1, none⟩ = some (.int .i64 T) := (hrow2.cell (show 1 < 3 by omega) : _)
            have n2' : X2.cell? ⟨γ, 2, none⟩ = some (.slice (LA k) ln (LC k)) := (hrow2.cell (show 2 < 3 by omega) : _)
            have hWX := HWr.out.trans (hbX2.mono HWr.out.size)
            have hct := (hWX.cell (p := ⟨w.heap.size + 1, 0, none⟩) (by dsimp only; omega)).trans HcT.out
            have hcz := ((HB0.out.trans (hWX.mono HB0.out.size)).cell (p := ⟨bt, offt + k, none⟩) hbt).trans HCz.out
            have HM2 := Lib.hid (HM.out.on hbX2)
            have g0 := World.rowIs.frozen HM2.out.r1 (tn * 3)
            have g1' := World.rowIs.frozen HM2.out.r1 (tn * 3 + 1)
            have g2' := World.rowIs.frozen HM2.out.r1 (tn * 3 + 2)
            have HB2 := Lib.hid hbX2
            clear hf1 hcX hrow hrow2 hbX2 hWX hX2 HRow
            go_still_tail 7, (by kernel_rfl)
            change wpList _ _ _ _ _ X2.drew
            have hnx := (HM2.out.on (Below.refl X2.heap.size X2).drew).next HTP.out HXx.out HTk.out HL1.out HLn.out (A := LA k) (c := LC k) (rowR_here (HLk.out.on (HB2.out.drew))) (fun j hj hno => (HAp.out hno).2 j (by rw [HLe.out.2.1]; omega) (by omega))
            rw [Int.toNat_natCast, HTT.out] at hnx
            have HNx := Lib.hid hnx
            have r1' := HM2.out.r1
            have a0 := (r1'.of_block (w' := X2.drew) rfl).cell (show tn * 3 < nt * 3 by omega)
            have a1 := (r1'.of_block (w' := X2.drew) rfl).cell (show tn * 3 + 1 < nt * 3 by omega)
            have a2 := (r1'.of_block (w' := X2.drew) rfl).cell (show tn * 3 + 2 < nt * 3 by omega)
            have m0 := (r1'.of_block (w' := X2.drew) rfl).frozen (tn * 3)
            have m1 := (r1'.of_block (w' := X2.drew) rfl).frozen (tn * 3 + 1)
            have m2 := (r1'.of_block (w' := X2.drew) rfl).frozen (tn * 3 + 2)
            have HB3 := Lib.hid HB2.out.drew
            obtain ⟨X3, hX3⟩ : ∃ X3, X2.drew = X3 := ⟨_, rfl⟩
            rw [hX3] at HNx a0 a1 a2 m0 m1 m2 HB3 ⊢
            clear hnx r1' hX3 HB2 n0 n1' n2' hct hcz g0 g1' g2'
            go_wp2_with fail
            go_roundw
            case rel =>
              have e1' : (fun j => if j = k then LA k else LA j) = LA := by funext j; by_cases h : j = k <;> simp [h]
              have e2' : (fun j => if j = k then LC k else LC j) = LC := by funext j; by_cases h : j = k <;> simp [h]
              have h := HNx.out
              rw [e1', e2'] at h
              exact ⟨k + 1, by omega, by go_num, h, (((HBel.out.trans ((HB3.out).mono (by omega))).setCell (p := ⟨β + 1, tn * 3, none⟩) (Nat.le_refl _) _).setCell (p := ⟨β + 1, tn * 3 + 1, none⟩) (Nat.le_refl _) _).setCell (p := ⟨β + 1, tn * 3 + 2, none⟩) (Nat.le_refl _) _⟩
            case measure => simp [intOf]; omega
          · obtain rfl : nt = k := by omega
            have HBw := HXY.out.below hbel (show β < β + 1 by omega)
            have hf1 := World.rowIs.frozen HBw 1
            have HBp := HBw.put1 (.slice (some ⟨β + 1, 0, none⟩) nt nt)
            have hl2 := rowR_here (row_other_set (off := 1) (u := .slice (some ⟨β + 1, 0, none⟩) nt nt) hLr.2.2.1 HBw (by decide))
            have hl4 := rowR_here (row_other_set (off := 1) (u := .slice (some ⟨β + 1, 0, none⟩) nt nt) hLr.2.2.2.1 HBw (by decide))
            have hl5 := rowR_here (row_other_set (off := 1) (u := .slice (some ⟨β + 1, 0, none⟩) nt nt) hLr.2.2.2.2 HBw (by decide))
            rw [HLe.out.2.2.1] at hl2
            rw [HLe.out.2.2.2.2.1] at hl4
            rw [HLe.out.2.2.2.2.2] at hl5
            have hLs := rnm_laid (ts := ts) (es := es) (S := b.sites) (hM.box (o := 1) (u := .slice (some ⟨β + 1, 0, none⟩) nt nt) HBw) HTP.out HL1.out HL2.out HL4.out HL5.out (by omega) hl2 (fun i hi hno => (hLr.1 i (by rw [HLe.out.2.1]; exact hi) hno).1) hl4 hl5
            have hbX := hWr.setCell (p := ⟨β, 1, none⟩) hWβ (.slice (some ⟨β + 1, 0, none⟩) nt nt)
            have HLs := Lib.hid hLs
            have HBpp := Lib.hid HBp
            have HbX := Lib.hid hbX
            obtain ⟨y0, y1, y2, y3, y4, y5⟩ := HBw.get
            obtain ⟨z0, z1, z2, z3, z4, z5⟩ := HBp.get
            clear hl2 hl4 hl5 hLs hLr hM hbel hWr HBw HBp hbX
            go_wp2_with fail
            clear y0 y1 y2 y3 y4 y5 z0 z1 z2 z3 z4 z5 hf1
            obtain ⟨X3, hX3⟩ : ∃ X3, wr.setCell ⟨β, 1, none⟩ (.slice (some ⟨β + 1, 0, none⟩) nt nt) = X3 := ⟨_, rfl⟩
            rw [hX3] at HLs HBpp HbX ⊢
            obtain ⟨H2, hH2⟩ : ∃ H2, X3.heap.size = H2 := ⟨_, rfl⟩
            rw [hH2] at HLs
            clear hX3 hH2
            go_loopw [71] (fun i wr => ∃ k : Nat, k ≤ n2 ∧ i = .int .i64 k ∧ Laid wr W.heap.size H2 ⟨some ⟨β + 1, 0, none⟩, nt, B2, e2, B4, e4, B5, e5, fun j => LA (ts.idxOf (j : Int)), fun j => LC (ts.idxOf (j : Int))⟩ (mixS (mvP ts) k (sbB b ts es b.sites)) ∧ BoxAt wr β 34 (.int .i64 b.roots) (.slice (some ⟨β + 1, 0, none⟩) nt nt) (.slice B2 n2 e2) (.int .i64 b.edges) (.slice B4 n4 e4) (.slice B5 n5 e5) ∧ Below W.heap.size W wr) (fun i _ => n2 - (intOf i).toNat)
            case atStart => exact ⟨0, Nat.zero_le _, rfl, by rw [mixS_zero]; exact HLs.out, HBpp.out, HbX.out⟩
            case round =>
              obtain ⟨k, hk, rfl, hL, hbo, hbel⟩ := hrel
              rename World => X
              have hXW := hbel.size
              by_cases hlt : k < n2
              · obtain ⟨x, hx⟩ : ∃ x, b.sites[k]? = some x := ⟨_, List.getElem?_eq_getElem (show k < b.sites.length by rw [HL2.out]; exact hlt)⟩
                have hx' : (sbB b ts es b.sites).sites[k]? = some x := hx
                have hxr := HGs.out.2.2.1 k x hx
                have hl1 := HL1.out
                have hro := HGs.out.2.2.2.2.1
                obtain ⟨g1, f2, eA, hg2, r2, hjc, hf2, hst⟩ := st_parts hL (mixS_get (F := mvP ts) hx') hbo
                have eA' : B2 = some ⟨g1, 0, none⟩ := eA
                subst eA'
                dsimp only at r2 hjc
                have q2 := r2.cell hjc
                rw [hf2] at q2
                have hg1s := World.rowIs.lt r2
                obtain ⟨T, hT⟩ : ∃ T, mvP ts x = T := ⟨_, rfl⟩
                have CT := fun Y (hY : Below X.heap.size X Y) => hT ▸ HPl.out x Y (And.intro (by omega) (by omega)) (hbel.trans (hY.mono hXW))
                have HSt := Lib.hid (fun w' hq => hst w' hq T)
                have HR2 := Lib.hid r2
                have HF2 := Lib.hid hf2
                have hkD := (Below.refl X.heap.size X).drew
                have HBe := Lib.hid hbel
                have HNx : Hid (setS (mixS (mvP ts) k (sbB b ts es b.sites)) k T = mixS (mvP ts) (k + 1) (sbB b ts es b.sites)) := Lib.hid (by rw [← hT]; exact mixS_next (F := mvP ts) hx')
                have HS2 : Hid (∀ w', Below X.heap.size X w' → w'.cell? ⟨β, 2, none⟩ = some (.slice (some ⟨g1, 0, none⟩) n2 e2)) := Lib.hid (fun w' hq => (hbo.on hq).get.2.2.1)
                clear hT hst hx hx' r2 hf2 hxr hL hbo hbel eA hl1 hro
                go_wp2_with fail
                clear q2
                refine rh.go_begin 7 (fun w' => w'.cell? ⟨β, 2, none⟩ = some (.slice (some ⟨g1, 0, none⟩) n2 e2)) (by kernel_rfl) ?_ (fun hHeld => ?_)
                · ((try dsimp only); exact HS2.out _ (by go_grown))
                refine rh.go_take (i := 0) (v := ?v1) rfl (by kernel_rfl) (fun _ _ _ h => h) (Or.inl ⟨by rfl, ?hy1⟩) (by assumption) ?rest1
                case hy1 => (intro wS hSw; (try dsimp only at hSw); go_simp; try (with_reducible rfl))
                try simp only [Act.put, List.setIfInBounds_toArray, List.set_cons_zero, List.set_cons_succ]
                refine rh.go_take (i := 1) (v := ?v2) rfl (by kernel_rfl) (fun _ _ _ h => h) (Or.inl ⟨by rfl, ?hy2⟩) (by assumption) ?rest2
                case hy2 => (intro wS hSw; (try dsimp only at hSw); go_simp; try (with_reducible rfl))
                try simp only [Act.put, List.setIfInBounds_toArray, List.set_cons_zero, List.set_cons_succ]
                refine rh.go_take (i := 2) (v := ?v3) rfl (by kernel_rfl) (fun _ _ _ h => h) (Or.inl ⟨by rfl, ?hy3⟩) (by assumption) ?rest3
                case hy3 => (intro wS hSw; (try dsimp only at hSw); go_simp; try (with_reducible rfl))
                try simp only [Act.put, List.setIfInBounds_toArray, List.set_cons_zero, List.set_cons_succ]
                refine rh.go_take (i := 3) (v := ?v4) rfl (by kernel_rfl) (fun _ _ _ h => h) (Or.inl ⟨by rfl, ?hy4⟩) (by assumption) ?rest4
                case hy4 => (intro wS hSw; (try dsimp only at hSw); go_simp; try (with_reducible rfl))
                try simp only [Act.put, List.setIfInBounds_toArray, List.set_cons_zero, List.set_cons_succ]
                refine rh.go_take (i := 4) (v := ?v5) rfl (by kernel_rfl) (fun _ _ _ h => h) (Or.inl ⟨by rfl, ?hy5⟩) (by assumption) ?rest5
                case hy5 => (intro wS hSw; (try dsimp only at hSw); go_simp; try (with_reducible rfl))
                try simp only [Act.put, List.setIfInBounds_toArray, List.set_cons_zero, List.set_cons_succ]
                refine rh.go_next (i := 5) rfl (by kernel_rfl) (fun K2 hK => ?_)
                (go_simp; go_at_call 76; refine (CT _ hkD).mono ?_; rintro e w5 ⟨rfl, rfl⟩; have HK2 := Lib.hid hkD; go_wp2_with fail)
                refine hK.out _ _ ?_ (fun hHeld => ?_)
                · ((try dsimp only); exact HS2.out _ (by go_grown))
                clear hK K2
                try simp only [Act.put, List.setIfInBounds_toArray, List.set_cons_zero, List.set_cons_succ]
                refine rh.go_take (i := 6) (v := ?v6) rfl (by kernel_rfl) (fun _ _ _ h => h) (Or.inl ⟨by rfl, ?hy6⟩) (by assumption) ?rest6
                case hy6 => (intro wS hSw; (try dsimp only at hSw); go_simp; try (with_reducible rfl))
                try simp only [Act.put, List.setIfInBounds_toArray, List.set_cons_zero, List.set_cons_succ]
                have r5 := World.rowIs.of_block HR2.out (HK2.out.block g1 hg1s)
                have q5 := r5.cell hjc
                rw [HF2.out] at q5
                have f5 := World.rowIs.frozen r5 k
                refine rh.go_last rfl (by kernel_rfl) (fun K2 hK => ?_)
                go_simp
                refine hK.out _ _ ?_
                refine NoPanic.normal ?_
                clear hK K2
                go_wp2_with fail
                go_roundw
                case rel =>
                  have hs := HSt.out _ HK2.out
                  rw [HNx.out] at hs
                  exact ⟨k + 1, by omega, by go_num, hs.1, hs.2, (HBe.out.trans (HK2.out.mono hXW)).setCell (p := ⟨g1, k, none⟩) hg2 _⟩
                case measure => simp [intOf]; omega
              · obtain rfl : n2 = k := by omega
                have hB := HB0.out.trans (hbel.mono HB0.out.size)
                have hWw := HB0.out.size
                have HBig : Hid (BigR X w.heap.size X.heap.size (.agg #[.int .i64 b.roots, .slice (some ⟨β + 1, 0, none⟩) nt nt, .slice B2 n2 e2, .int .i64 b.edges, .slice B4 n4 e4, .slice B5 n5 e5]) (rnB b ts es)) := Lib.hid (by
                  have h := (hL.here.wide (show w.heap.size ≤ W.heap.size from hWw) (Nat.le_refl _))
                  have hm := sb_done b ts es
                  rw [HL2.out] at hm
                  rw [hm] at h
                  have hb := h.big
                  dsimp only at hb
                  rw [show (rnB b ts es).nodes.length = nt by (simp only [rnB, List.length_map, List.length_range]; exact HL1.out), show (rnB b ts es).sites.length = n2 by (simp only [rnB, List.length_map]; exact HL2.out), show (rnB b ts es).outer.length = n4 from HL4.out, show (rnB b ts es).inner.length = n5 by (simp only [rnB, List.length_map]; exact HL5.out)] at hb
                  exact hb)
                have HBl := Lib.hid hB
                have HBx5 := Lib.hid (HBx0.out.below hbel (show w.heap.size + 1 + 1 + 1 < W.heap.size by omega))
                have HG := Lib.hid (HGv.out _ X hB HBig.out)
                obtain ⟨y0, y1, y2, y3, y4, y5⟩ := hbo.get
                clear hL hbo hbel hB HRl HPl
                go_wp2_with fail
                refine HG.out.mono ?_
                rintro e w9 ⟨v4, rfl, hr, hb⟩
                obtain ⟨D1, g1, D2, g2, D4, g4, D5, g5, rfl⟩ := hr.shape
                have HB4 := Lib.hid (HBl.out.trans (hb.mono HBl.out.size))
                have HRZ := Lib.hid hr
                have HBxY := Lib.hid (HBx5.out.on hb)
                clear hr hb y0 y1 y2 y3 y4 y5
                obtain ⟨z0, z1, z2, z3, z4, z5⟩ := HBxY.out.get
                have f0 := World.rowIs.frozen HBxY.out 0
                have f1 := World.rowIs.frozen HBxY.out 1
                have f2 := World.rowIs.frozen HBxY.out 2
                have f3 := World.rowIs.frozen HBxY.out 3
                have f4 := World.rowIs.frozen HBxY.out 4
                have f5 := World.rowIs.frozen HBxY.out 5
                go_wp2_with fail
                have hbig := (sets6_big HBxY.out HRZ.out (.int .i64 Lb.roots) (.slice D1 Lb.nodes.length g1) (.slice D2 Lb.sites.length g2) (.int .i64 Lb.edges) (.slice D4 Lb.outer.length g4) (.slice D5 Lb.inner.length g5)).here
                have hbel := sets6_below HB4.out (show w.heap.size ≤ w.heap.size + 1 + 1 + 1 by omega) (.int .i64 Lb.roots) (.slice D1 Lb.nodes.length g1) (.slice D2 Lb.sites.length g2) (.int .i64 Lb.edges) (.slice D4 Lb.outer.length g4) (.slice D5 Lb.inner.length g5)
                unfold sets6 at hbig hbel
                refine bodyPost_ret (v := .tuple #[.agg #[.int .i64 Lb.roots, .slice D1 Lb.nodes.length g1, .slice D2 Lb.sites.length g2, .int .i64 Lb.edges, .slice D4 Lb.outer.length g4, .slice D5 Lb.inner.length g5], .bool q4]) (by simp [results, Try.results22, go_sem, z0, z1, z2, z3, z4, z5]) rfl ⟨_, rfl, hbig, hbel⟩
end Go.Proofs.Ytebmhfkpmcflfaa.ri
