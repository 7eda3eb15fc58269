/- LinkParts: impl's way, walked. -/
import Derived.Test.YtfjgapkjpmkplaaLpi
namespace Go.Proofs.Ytfjgapkjpmkplaa.lpm
open Go.Maps (Keyed)
open kit bg opn strs only over hb sg sig isig un gd inn ht hi cf pt ptm lf im ib rs rt pts psp chd mapb idi idm lpx abv has idl lps lpi
open Go.RowKit
set_option linter.unusedVariables false
set_option linter.unusedSimpArgs false
attribute [local go_sem] Oper.semAt_some

/-- the first node with a port of a link -/
def fst (ps : List Port) (z : Int) : Option Nat := (ps.find? (fun p => decide (p.2.2 = z))).map (·.1)
theorem fst_snoc_some {ps : List Port} {p : Port} {z : Int} {f : Nat} (h : fst ps z = some f) : fst (ps ++ [p]) z = some f := by
  unfold fst at h ⊢
  rw [List.find?_append]
  obtain ⟨q, hq, rfl⟩ := Option.map_eq_some_iff.1 h
  rw [hq]; rfl
theorem fst_snoc_new {ps : List Port} {p : Port} (h : fst ps p.2.2 = none) : fst (ps ++ [p]) p.2.2 = some p.1 := by
  unfold fst at h ⊢
  rw [List.find?_append, Option.map_eq_none_iff.1 h]
  simp
theorem fst_snoc_other {ps : List Port} {p : Port} {z : Int} (h : p.2.2 ≠ z) : fst (ps ++ [p]) z = fst ps z := by
  unfold fst
  rw [List.find?_append]
  simp [h]
theorem fst_mem {ps : List Port} {z : Int} {f : Nat} (h : fst ps z = some f) : ∃ p ∈ ps, p.1 = f ∧ p.2.2 = z := by
  unfold fst at h
  obtain ⟨q, hq, e⟩ := Option.map_eq_some_iff.1 h
  exact ⟨q, List.mem_of_find?_eq_some hq, e, by have := List.find?_some (p := fun p : Port => decide (p.2.2 = z)) hq; exact of_decide_eq_true this⟩
def numM (g : Int → Option Nat) : Lit → Option Int
  | .int .i64 z => (g z).map (fun k => (k : Int))
  | _ => none
theorem numM_int (g : Int → Option Nat) (z : Int) : numM g (.int .i64 z) = (g z).map (fun k => (k : Int)) := by simp [numM]
theorem numM_put {ps : List Port} {p : Port} (h : fst ps p.2.2 = none) (l : Lit) : putM (numM (fst ps)) (.int .i64 p.2.2) (p.1 : Int) l = numM (fst (ps ++ [p])) l := by
  by_cases e : l = .int .i64 p.2.2
  · subst e
    rw [putM_same]
    rw [numM_int, fst_snoc_new h]; rfl
  · rw [putM_other e]
    cases l with
    | int k z =>
      cases k <;> first | rfl | skip
      rw [numM_int, numM_int, fst_snoc_other (fun e2 => e (by rw [e2]))]
    | _ => rfl
theorem numM_same {ps : List Port} {p : Port} {f : Nat} (h : fst ps p.2.2 = some f) (l : Lit) : numM (fst ps) l = numM (fst (ps ++ [p])) l := by
  cases l with
  | int k z =>
    cases k <;> first | rfl | skip
    rw [numM_int, numM_int]
    by_cases e : p.2.2 = z
    · subst e; rw [h, fst_snoc_some h]
    · rw [fst_snoc_other e]
  | _ => rfl
/-- what holds behind some ports -/
def Seen (ns : List Nd) (ps : List Port) (o : Nat → Nat) : Prop := Part (Meet ns) ns.length o ∧ ∀ p ∈ ps, ∃ f, fst ps p.2.2 = some f ∧ o p.1 = o f
theorem seen_nil (ns : List Nd) : Seen ns [] (fun x => x) := ⟨Part.zero, fun p hp => by cases hp⟩
theorem seen_new {ns : List Nd} {ps : List Port} {p : Port} {o : Nat → Nat} (h : Seen ns ps o) (hn : fst ps p.2.2 = none) : Seen ns (ps ++ [p]) o := by
  refine ⟨h.1, fun q hq => ?_⟩
  rcases List.mem_append.1 hq with hq | hq
  · obtain ⟨f, h1, h2⟩ := h.2 q hq
    exact ⟨f, fst_snoc_some h1, h2⟩
  · obtain rfl : q = p := by simpa using hq
    exact ⟨q.1, fst_snoc_new hn, rfl⟩
theorem port_node {ns : List Nd} {p : Port} (h : p ∈ ports ns) : p.1 < ns.length ∧ p.2.2 ∈ lks ns p.1 := by
  unfold ports at h
  obtain ⟨k, x, i, hk, hx, hl⟩ : ∃ (k : Nat) (x : Nd) (i : Nat), p.1 = k ∧ ns[k]? = some x ∧ x.links[i]? = some p.2.2 := by
    generalize ns.length = m at h
    induction m with
    | zero => cases h
    | succ m ih =>
      cases hx : ns[m]? with
      | none =>
        rw [prtsTo, hx] at h
        exact ih (by simpa using h)
      | some x =>
        rw [prtsTo, hx] at h
        rcases List.mem_append.1 h with h | h
        · exact ih h
        · obtain ⟨i, hi, rfl⟩ := mem_prts h
          have e : x.links[i]? = some (x.links[i]) := List.getElem?_eq_getElem hi
          exact ⟨m, x, i, rfl, hx, by simp [List.getD, e]⟩
  rw [hk]
  exact ⟨(List.getElem?_eq_some_iff.1 hx).1, by rw [lks_some hx]; exact List.mem_of_getElem? hl⟩
theorem seen_old {ns : List Nd} {ps : List Port} {p : Port} {o : Nat → Nat} {f : Nat} (h : Seen ns ps o) (hs : ∀ q ∈ ps, q ∈ ports ns) (hp : p ∈ ports ns) (hf : fst ps p.2.2 = some f) : Meet ns f p.1 ∧ Seen ns (ps ++ [p]) (joinO o f p.1) := by
  obtain ⟨q, hq, rfl, hl⟩ := fst_mem hf
  obtain ⟨a1, a2⟩ := port_node (hs q hq)
  obtain ⟨b1, b2⟩ := port_node hp
  have hm : Meet ns q.1 p.1 := meet_mk a1 b1 a2 (by rw [hl]; exact b2)
  refine ⟨hm, join_part (meet_symm ns) h.1 a1 b1 (Conn.one hm), fun r hr => ?_⟩
  rcases List.mem_append.1 hr with hr | hr
  · obtain ⟨f2, h1, h2⟩ := h.2 r hr
    exact ⟨f2, fst_snoc_some h1, join_same h2⟩
  · obtain rfl : r = p := by simpa using hr
    exact ⟨q.1, fst_snoc_some hf, (join_both q.1 r.1).symm⟩
theorem seen_all {ns : List Nd} {o : Nat → Nat} (h : Seen ns (ports ns) o) : IsParts ns o := by
  refine ⟨h.1, fun x y hm => ?_⟩
  obtain ⟨l, h1, h2⟩ := meet_get hm
  have key : ∀ z, z < ns.length → l ∈ lks ns z → ∃ p ∈ ports ns, p.1 = z ∧ p.2.2 = l := fun z hz hl => by
    have hx : ns[z]? = some (ns[z]'hz) := List.getElem?_eq_getElem _
    rw [lks_some hx] at hl
    obtain ⟨i, hi⟩ := List.getElem?_of_mem hl
    exact ⟨_, part_mem hx hi, rfl, rfl⟩
  obtain ⟨p, hp, rfl, e1⟩ := key x hm.1 h1
  obtain ⟨q, hq, rfl, e2⟩ := key y hm.2.1 h2
  obtain ⟨f, f1, f2⟩ := h.2 p hp
  obtain ⟨f', g1, g2⟩ := h.2 q hq
  rw [e1] at f1
  rw [e2, f1] at g1
  injection g1 with g1
  rw [f2, g2, g1]

set_option maxRecDepth 100000 in
set_option maxHeartbeats 6400000 in
theorem iLp_any (A : Option Addr) (n c : Nat) (cs : List Ctl) (v : Value) (b : Big) (w : World) (hC : CtlsAt w w.heap.size A n cs) (hv : BigAt w w.heap.size v b) (hn : n ≤ 1048576) (hs : ∀ c ∈ cs, c.name.size ≤ 1048576) (hS : BigS b) (hw : BigW b) :
    Calls Try.prog 24 #[.slice A n c, v] w (ResPost 3 (bigB cs b) ((lpR cs b).map (Value.int .i64)) w) := by
  obtain ⟨i0, hi0, hz0, hz1, hz2⟩ := info_parts int_info
  have HI := Lib.hid (And.intro hi0 (And.intro hz0 (And.intro hz1 hz2)))
  clear hi0 hz0 hz1 hz2
  obtain ⟨A1, n1, c1, A2, n2, c2, A4, n4, c4, A5, n5, c5, rfl, h1, h2, h4, h5⟩ := hv
  have HBox : Hid (BoxAt (w.alloc (.cells #[.int .i64 b.roots, .slice A1 n1 c1, .slice A2 n2 c2, .int .i64 b.edges, .slice A4 n4 c4, .slice A5 n5 c5] 39)) w.heap.size 39 (.int .i64 b.roots) (.slice A1 n1 c1) (.slice A2 n2 c2) (.int .i64 b.edges) (.slice A4 n4 c4) (.slice A5 n5 c5)) := Lib.hid (six_new w _ _ _ _ _ _ _)
  have HB0 := Lib.hid ((Below.refl w.heap.size w).alloc (Nat.le_refl _) (.cells #[.int .i64 b.roots, .slice A1 n1 c1, .slice A2 n2 c2, .int .i64 b.edges, .slice A4 n4 c4, .slice A5 n5 c5] 39))
  obtain ⟨W, hW⟩ : ∃ W, w.alloc (.cells #[.int .i64 b.roots, .slice A1 n1 c1, .slice A2 n2 c2, .int .i64 b.edges, .slice A4 n4 c4, .slice A5 n5 c5] 39) = W := ⟨_, rfl⟩
  have hWz : W.heap.size = w.heap.size + 1 := by rw [← hW]; simp
  rw [hW] at HBox HB0
  have HWq := Lib.hid hW
  have hWs : w.heap.size < W.heap.size := by omega
  have hVW : BigAt W W.heap.size (.agg #[.int .i64 b.roots, .slice A1 n1 c1, .slice A2 n2 c2, .int .i64 b.edges, .slice A4 n4 c4, .slice A5 n5 c5]) b := BigAt.wide (BigAt.below ⟨_, _, _, _, _, _, _, _, _, _, _, _, rfl, h1, h2, h4, h5⟩ HB0.out) HB0.out.size
  clear hW hWz
  have C := isBig_any A n c cs _ b W ((hC.below HB0.out).wide HB0.out.size) hVW hn hs hS hw
  obtain ⟨x0, x1, x2, x3, x4, x5⟩ := HBox.out.get
  have l1 := h1.1
  have HL := Lib.hid l1
  have HW := Lib.hid hw
  have HLk := Lib.hid hS.2.1
  clear hS hw hVW hs
  refine callsIn_wide (n := 8) |>.1 ?_
  refine callsIn_of_wp_marks Try.func24 rfl trivial ?_ rfl
  simp only [Try.ntmps24, List.size_toArray, List.length_cons, List.length_nil, Nat.reduceAdd, Nat.reduceSub, Array.replicate_succ, Array.replicate_zero, List.push_toArray, List.append_toArray, List.nil_append, List.cons_append]
  refine wpIn_wide.2 ?_
  cases hq : bigB cs b with
  | false =>
    rw [hq] at C
    have HR := Lib.hid (no_len hq)
    clear hq
    go_wp2_with fail
    rw [HWq.out]
    go_wp2_with fail
    refine C.mono ?_
    rintro e w1 ⟨rfl, hb⟩
    have hb1 := HB0.out.trans (hb.mono HB0.out.size)
    clear hb C x0 x1 x2 x3 x4 x5
    go_wp2_with fail
    refine ⟨_, results_tmp2 rfl _ _ _, ?_⟩
    exact ⟨.slice none 0 0, rfl, by rw [HR.out]; exact Res.nil, hb1⟩
  | true =>
    rw [hq] at C
    have h8 := big8 hq
    rw [l1] at h8
    obtain ⟨h81, -⟩ := h8
    have hL3 := links3 hq
    have hNp : (ports b.nodes).length ≤ 24 := by
      have h2 := prtsTo_len hL3 b.nodes.length
      have h3 : b.nodes.length * 3 ≤ 8 * 3 := Nat.mul_le_mul_right _ (by omega)
      unfold ports
      omega
    have HQ := Lib.hid hq
    clear hq
    go_wp2_with fail
    rw [HWq.out]
    go_wp2_with fail
    refine C.mono ?_
    rintro e w1 ⟨rfl, hb⟩
    have hb1 := HB0.out.trans (hb.mono HB0.out.size)
    have hs1 : w.heap.size < w1.heap.size := Nat.lt_of_lt_of_le hWs hb.size
    have HBx1 := Lib.hid (HBox.out.below hb hWs)
    clear hb C x0 x1 x2 x3 x4 x5
    obtain ⟨x0, x1, x2, x3, x4, x5⟩ := HBx1.out.get
    go_wp2_with fail
    clear x0 x1 x2 x3 x4 x5
    have bS : Boxed ((w1.alloc (.cells #[] 3)).alloc (.cells #[.slice (some ⟨w1.heap.size, 0, none⟩) 0 0] 24)) (w1.heap.size + 1) 24 (.slice (some ⟨w1.heap.size, 0, none⟩) 0 0) := by
      have := Boxed.new (w1.alloc (.cells #[] 3)) 24 (.slice (some ⟨w1.heap.size, 0, none⟩) 0 0)
      simpa using this
    have hrw : ((w1.alloc (.cells #[] 3)).alloc (.cells #[.slice (some ⟨w1.heap.size, 0, none⟩) 0 0] 24)).ownsRow w1.heap.size 3 1 (.slice (some ⟨w1.heap.size, 0, none⟩) 0 0) 0 [] := by
      have := World.ownsRow_made (base := w1.heap.size) (e := 3) (size := 1) w1 #[] 0 (by simp) (by unfold maxLen; omega) (by simp)
      simpa using this.alloc (.cells #[.slice (some ⟨w1.heap.size, 0, none⟩) 0 0] 24)
    have HBS := Lib.hid bS
    have HRw := Lib.hid hrw
    have HBs := Lib.hid (((Below.refl w1.heap.size w1).alloc (Nat.le_refl _) (.cells #[] 3)).alloc (by simp) (.cells #[.slice (some ⟨w1.heap.size, 0, none⟩) 0 0] 24))
    clear bS hrw
    go_loopw [21] (fun i wr => ∃ k : Nat, k ≤ n1 ∧ i = .int .i64 k ∧ (∃ u, Boxed wr (w1.heap.size + 1) 24 u ∧ wr.ownsRow w1.heap.size 3 1 u k ((numL (fun x => x) k).map (Value.int .i64)) ∧ u ≠ .slice none 0 0) ∧ Below w1.heap.size w1 wr) (fun i _ => n1 - (intOf i).toNat)
    case atStart => exact ⟨0, Nat.zero_le _, rfl, ⟨_, HBS.out, HRw.out, by simp⟩, HBs.out⟩
    case round =>
      obtain ⟨k, hk, rfl, ⟨u, hbu, hru, hnn⟩, hbel⟩ := hrel
      have hsz := hbel.size
      have c6 := hbu.cell
      have f6 := hbu.frozen
      by_cases hlt : k < n1
      · have HBu := Lib.hid hbu
        have HNn := Lib.hid hnn
        have HBl := Lib.hid hbel
        obtain ⟨D, hD⟩ : ∃ D, (numL (fun x => x) k).map (Value.int .i64) = D := ⟨_, rfl⟩
        rw [hD] at hru
        have HD := Lib.hid hD
        clear hbu hnn hbel hD
        go_wp2_with (at_builtin; refine wpList_append_own _ rfl _ _ 24 rfl w1.heap.size 3 i0 (.int .i64 0) 1 8 Try.underlying24 HI.out.1 HI.out.2.1 HI.out.2.2.1 HI.out.2.2.2 rfl (by decide) _ _ _ rfl (hru.alloc _) ⟨wr.heap.size, 0, none⟩ 1 1 [.int .i64 k] rfl rfl (cell_one_new _ _ _) (fun x hx => by simp at hx; subst hx; rfl) (by unfold maxLen; omega) (by omega) (by simp; omega) ?_; intro v1 w5 hown1 hgrow1 hnil1; obtain ⟨g', cap', rfl⟩ := ownsRow_succ hown1; obtain ⟨hv1, hv2, hr2, hk2, hb2⟩ := HBu.out.appended (by decide) hru hsz (by omega) hown1 hgrow1; have hc1 := hv1.cell; have hf1 := hv1.frozen)
        have HV2 := Lib.hid hv2
        have HR2 := Lib.hid hr2
        have HB2 := Lib.hid (HBl.out.trans hb2)
        clear hown1 hgrow1 hnil1 hv1 hv2 hr2 hk2 hb2 hru
        go_wp2_with fail
        go_roundw
        case rel => exact ⟨k + 1, by omega, by go_num, ⟨_, HV2.out, by
          have := HR2.out
          rw [numL_succ, List.map_append, HD.out]
          exact this, by simp⟩, HB2.out⟩
        case measure => simp [intOf]; omega
      · obtain rfl : k = n1 := by omega
        have hln : ((numL (fun x => x) k).map (Value.int .i64)).length = k := by rw [List.length_map, numL_len]
        obtain ⟨g, cp, rfl, hg, hcp, hrow⟩ := numRow_of (B := w1.heap.size) (n := k) (o := fun x => x) (v := u) (w := wr) ⟨by rw [hln]; exact hru, hnn⟩
        have hgl := hrow.lt
        have hbl := hbu.lt
        have HBu := Lib.hid hbu
        have HRow := Lib.hid hrow
        have HBel := Lib.hid hbel
        have hgb : g ≠ w1.heap.size + 1 := fun e => by
          obtain ⟨f, hr, -⟩ := hrow
          obtain ⟨cc, hh, -, -⟩ := hr
          rw [e, hbu] at hh
          injection hh with hh
          injection hh with _ ht
          exact absurd ht (by decide)
        obtain ⟨x0, x1, x2, x3, x4, x5⟩ := (HBx1.out.below hbel hs1).get
        have hwq : w.heap.size < wr.heap.size := by omega
        clear hbu hru hnn hrow hbel c6 f6 hln
        rename World => wq
        have hmm := @run_makeMap Try.prog
        go_wp2_with fail
        clear hmm x0 x1 x2 x3 x4 x5
        have hnum0 := NumAt.made wq Try.prog 3 3
        have hbx0 := Boxed.new (wq.alloc (.map #[] 0)) 100 (.map (some wq.heap.size))
        rw [World.size_alloc] at hbx0
        have hb2 := ((Below.refl wq.heap.size wq).alloc (Nat.le_refl _) (.map #[] 0)).alloc (by simp) (.cells #[.map (some wq.heap.size)] 100)
        have hnum1 := hnum0.kept (World.grownBy_alloc (wq.alloc (.map #[] 0)) (.cells #[.map (some wq.heap.size)] 100) none) (by simp)
        obtain ⟨w2, hw2⟩ : ∃ w2, (wq.alloc (.map #[] 0)).alloc (.cells #[.map (some wq.heap.size)] 100) = w2 := ⟨_, rfl⟩
        have hz2 : w2.heap.size = wq.heap.size + 2 := by rw [← hw2]; simp
        rw [hw2] at hbx0 hb2 hnum1 ⊢
        clear hw2 hnum0
        refine ((callsIn_wide (n := 8)).1 (portsOf_in Fence.wide 8 trivial rfl #[.int .i64 b.roots, .slice A1 k c1, .slice A2 n2 c2, .int .i64 b.edges, .slice A4 n4 c4, .slice A5 n5 c5] rfl w2)).mono ?_
        rintro e w8 ⟨rfl, hw8⟩
        have hbx : Hid (BoxAt w8 w2.heap.size 39 (.int .i64 b.roots) (.slice A1 k c1) (.slice A2 n2 c2) (.int .i64 b.edges) (.slice A4 n4 c4) (.slice A5 n5 c5)) := Lib.hid (by rw [hw8]; exact six_new w2 _ _ _ _ _ _ _)
        have hb28 : Below w2.heap.size w2 w8 := by rw [hw8]; exact (Below.refl _ _).alloc (Nat.le_refl _) _
        have hz8 : w8.heap.size = w2.heap.size + 1 := by rw [hw8]; simp
        have hbq8 := hb2.trans (hb28.mono (by omega))
        have HMb8 : Hid (Boxed w8 (wq.heap.size + 1) 100 (.map (some wq.heap.size))) := Lib.hid ((hb28.block _ (by omega)).trans hbx0)
        have HPb8 : Hid (Boxed w8 (w1.heap.size + 1) 24 (.slice (some ⟨g, 0, none⟩) k cp)) := Lib.hid ((hbq8.block _ (by omega)).trans HBu.out)
        have HRow8 := Lib.hid (HRow.out.on hbq8)
        have HNum8 := Lib.hid ((hnum1.below hb28 (by omega)).congr (M' := numM (fst [])) (fun l => by
          cases l with
          | int q z => cases q <;> first | rfl | (rw [numM_int]; rfl)
          | _ => rfl))
        have HB8 := Lib.hid (HBel.out.trans (hbq8.mono HBel.out.size))
        have hN8 := h1.below (hb1.trans (HB8.out.mono hb1.size))
        have hβ : w2.heap.size < w8.heap.size := by omega
        have hw1s : w.heap.size ≤ w1.heap.size := hb1.size
        rw [hz2] at hbx hβ hz8
        clear hw8 hnum1 hbx0 hb2 hb28 hbq8
        go_wp2_with fail
        refine wpIn_wide (n := 8) |>.1 ?_
        refine' wpIn_rangeFunc_ownH rfl (by omega) (gf := 117) (lb := #[.pointer (some ⟨wq.heap.size + 2, 0, none⟩)]) rfl trivial (enters_of Try.func117 (by kernel_rfl) rfl)
          (ports_stopsM Fence.wide 7 trivial rfl (by omega) (wq.heap.size + 2) w.heap.size A1 k c1 b.nodes w8 (by omega) (by omega) (hbx.out.get).2.1 hN8 (by omega) HLk.out) belowK_t (belowK_b (by omega)) (Below.refl _ _) (fun _ => rfl)
          (fun pre W' => (∃ o, NumRow W' g cp k o ∧ Seen b.nodes (pre.map PortOf.val) o) ∧ NumAt Try.prog 3 3 W' wq.heap.size pre.length (numM (fst (pre.map PortOf.val))) ∧ Boxed W' (wq.heap.size + 1) 100 (.map (some wq.heap.size)) ∧ Boxed W' (w1.heap.size + 1) 24 (.slice (some ⟨g, 0, none⟩) k cp) ∧ Below w1.heap.size w1 W')
          (fun _ _ _ => False)
          (OwnFrom.and (fun s A B row hs hg hr => by
            obtain ⟨o, ⟨f, h1, h2⟩, h3⟩ := hs
            exact ⟨o, ⟨f, h1.of_block (hg.block g h1.lt (fun e => by have := (hr _ e.symm).1; omega)), h2⟩, h3⟩) (OwnFrom.and (fun s A B row hs hg hr => hs.kept hg (fun e => by have := (hr _ e.symm).1; omega)) (OwnFrom.and (fun s A B row hs hg hr => hs.kept hg (fun e => by have := (hr _ e.symm).1; omega)) (OwnFrom.and (fun s A B row hs hg hr => hs.kept hg (fun e => by have := (hr _ e.symm).1; omega)) (ownFrom_below (Nat.le_refl _) (by omega))))))
          (fun _ _ _ _ _ hs _ _ => hs)
          ⟨⟨_, HRow8.out, by simpa using seen_nil b.nodes⟩, by simpa using HNum8.out, HMb8.out, HPb8.out, HB8.out⟩
          (fun x a' W' => ∃ q, W'.heap[q]? = some (.cells #[.int .i64 (x.val.1 : Nat), .int .i64 (x.val.2.1 : Nat)] 104) ∧ a' = { tmps := #[.slice A n c, .agg #[.int .i64 b.roots, .slice A1 k c1, .slice A2 n2 c2, .int .i64 b.edges, .slice A4 n4 c4, .slice A5 n5 c5], undef, .pointer (some ⟨w.heap.size, 0, none⟩), .slice none 0 0, .bool false, .pointer (some ⟨w1.heap.size + 1, 0, none⟩), u7, .pointer (some ⟨wq.heap.size + 1, 0, none⟩), .pointer (some ⟨q, 0, none⟩), .int .i64 x.val.2.2, undef, undef, .slice A n c, .agg #[.int .i64 b.roots, .slice A1 k c1, .slice A2 n2 c2, .int .i64 b.edges, .slice A4 n4 c4, .slice A5 n5 c5], .bool true, .bool false, .slice (some ⟨w1.heap.size, 0, none⟩) 0 0, .pointer (some ⟨w.heap.size, 1, none⟩), .slice A1 k c1, .int .i64 k, .int .i64 k, .bool false, u23, u24, u25, u26, u27, u28, .map (some wq.heap.size), .agg #[.int .i64 b.roots, .slice A1 k c1, .slice A2 n2 c2, .int .i64 b.edges, .slice A4 n4 c4, .slice A5 n5 c5], .func (.func 117) #[] #[.pointer (some ⟨wq.heap.size + 2, 0, none⟩)], .agg #[.int .i64 (x.val.1 : Nat), .int .i64 (x.val.2.1 : Nat)], .int .i64 x.val.2.2, undef, undef, undef, undef, undef, undef, undef, undef, undef, undef, undef, undef, undef, undef, undef, undef, undef, undef], defers := [] })
          (fun x a' _ X Y row hs hg hr => by
            obtain ⟨q, hq, e⟩ := hs
            refine ⟨q, (hg.block q (Array.getElem?_eq_some_iff.1 hq).1 (fun e2 => ?_)).trans hq, e⟩
            obtain ⟨-, o, ho, hc⟩ := hr q e2.symm
            rw [hq] at ho
            injection ho with ho
            subst ho
            cases hc)
          ?assign ?body ?done ?stop
        case assign =>
          rintro l pre x W' K ⟨hseen, hnum, hmb, hpb, hB⟩ hK
          have hsz := hB.size
          dsimp only [encP]
          gi_wp2
          exact hK _ _ ((KeepsOthers.alloc _ _).from _) ((Below.refl _ W').alloc (by omega) _) ⟨(by
            obtain ⟨o, h1, h2⟩ := hseen
            exact ⟨o, h1.on ((Below.refl _ _).alloc (Nat.le_refl _) _), h2⟩), hnum.kept (World.grownBy_alloc W' _ none) (by simp), hmb.alloc _, hpb.alloc _, hB.alloc (by omega) _⟩ ⟨W'.heap.size, World.alloc_heap_new _ _, rfl⟩
        case body =>
          rintro l pre x a' W' hl - ⟨⟨o, hrow, hseen⟩, hnum, hmb, hpb, hB⟩ ⟨q, hq, rfl⟩ hlt
          have hsz := hB.size
          have cM := hmb.cell
          have cP := hpb.cell
          have hmp : (pre ++ [x]).map PortOf.val = pre.map PortOf.val ++ [x.val] := by simp
          have hpl : pre.length ≤ 24 := by omega
          have hxm : PortOf.val x ∈ ports b.nodes := x.2
          obtain ⟨hk1, hk2⟩ := port_node hxm
          have hsub : ∀ p ∈ pre.map PortOf.val, p ∈ ports b.nodes := fun p hp => by
            obtain ⟨y, _, rfl⟩ := List.mem_map.1 hp
            exact y.2
          obtain ⟨hpx, hpx2⟩ : ∃ p, x.val = p := ⟨_, rfl⟩
          have HX := Lib.hid hpx2
          rw [hpx2] at hq hmp hk1 hk2 hxm ⊢
          obtain ⟨kk, jj, l2⟩ := hpx
          dsimp only at hq hk1 hk2 ⊢
          have HKey : Hid (keyOf Try.prog 3 (.int .i64 l2) = some (.int .i64 l2)) := Lib.hid (keyI (wf_port (p := (kk, jj, l2)) HW.out hxm))
          have q0 : W'.cell? ⟨q, 0, none⟩ = some (.int .i64 (kk : Nat)) := by simp [World.cell?, hq]
          have q1 : W'.cell? ⟨q, 1, none⟩ = some (.int .i64 (jj : Nat)) := by simp [World.cell?, hq]
          obtain ⟨pv, hpv⟩ : ∃ pv, pre.map PortOf.val = pv := ⟨_, rfl⟩
          rw [hpv] at hseen hnum hmp hsub
          have hkk : kk < k := by rw [← HL.out]; exact hk1
          have HNum := Lib.hid hnum
          have HMp := Lib.hid hmp
          have HSn := Lib.hid hseen
          have HRo := Lib.hid hrow
          have HMb := Lib.hid hmb
          have HPb := Lib.hid hpb
          have HBb := Lib.hid hB
          have HSub := Lib.hid hsub
          have HXm := Lib.hid hxm
          clear hnum hmp hseen hrow hmb hpb hB hsub hxm hq hpv hk1 hk2
          cases hf : fst pv l2 with
          | none =>
            have HF := Lib.hid hf
            have HMn : Hid (numM (fst pv) (.int .i64 l2) = none) := Lib.hid (by rw [numM_int, hf]; rfl)
            clear hf
            gi_wp2_with (first | (gi_at_lookup; refine wpListIn_look_none _ rfl _ _ 100 rfl 3 3 lawI Try.underlying100 Try.underlying3 (zeroI _) wq.heap.size pre.length _ rfl HNum.out _ _ rfl HKey.out trivial HMn.out ?_; intro c0) | (gi_at_mapUpdate; refine wpListIn_store_num _ rfl _ _ _ 100 rfl 3 3 lawI Try.underlying100 Try.underlying3 wq.heap.size pre.length _ rfl HNum.out (by unfold maxLen; omega) _ (kk : Int) _ rfl rfl (wf_small kk (by omega)) HKey.out trivial ?_; intro w3 hnum3 hg3))
            refine ⟨KeepsFrom.of_grownBy hg3 (fun j e => by injection e with e; omega), ((Below.refl w.heap.size W').grown hg3 (by omega) (fun r e => by injection e with e; omega)), ⟨o, ?_, ?_⟩, ?_, HMb.out.kept hg3 (by simp), HPb.out.kept hg3 (fun e => by injection e with e; omega), HBb.out.grown hg3 hsz (fun r e => by injection e with e; omega)⟩
            · obtain ⟨f, h1, h2⟩ := HRo.out
              exact ⟨f, h1.of_block (hg3.block g h1.lt (fun e => by injection e with e; omega)), h2⟩
            · rw [HMp.out]; exact seen_new HSn.out HF.out
            · rw [HMp.out, List.length_append, List.length_singleton]
              exact hnum3.congr (fun l => numM_put (p := (kk, jj, l2)) HF.out l)
          | some f =>
            have HF := Lib.hid hf
            have HMn : Hid (numM (fst pv) (.int .i64 l2) = some (f : Int)) := Lib.hid (by rw [numM_int, hf]; rfl)
            obtain ⟨hmm, hsn⟩ := seen_old HSn.out HSub.out HXm.out HF.out
            have hff : f < k := by rw [← HL.out]; exact hmm.1
            have HSn2 := Lib.hid hsn
            have CJ := join_any g k cp o f kk W' HRo.out hcp hff hkk h81 (fun z hz => HSn.out.1.le z (by rw [HL.out]; exact hz))
            clear hf hmm hsn
            gi_wp2_with (first | (gi_at_lookup; refine wpListIn_look_some _ rfl _ _ 100 rfl 3 3 lawI Try.underlying100 Try.underlying3 (zeroI _) wq.heap.size pre.length _ rfl HNum.out _ _ rfl HKey.out trivial _ HMn.out ?_))
            refine ⟨trivial, CallsIn.inRound l ((callsIn_wide (n := 5)).2 (CJ.mono ?_))⟩
            rintro e w3 ⟨⟨v3, rfl⟩, hrow3, hg3⟩
            clear CJ
            gi_wp2
            refine ⟨KeepsFrom.of_grownBy hg3 (fun j e => by injection e with e; omega), ((Below.refl w.heap.size W').grown hg3 (by omega) (fun r e => by injection e with e; omega)), ⟨_, hrow3, ?_⟩, ?_, HMb.out.kept hg3 (fun e => by injection e with e; omega), HPb.out.kept hg3 (fun e => by injection e with e; exact hgb e.symm), HBb.out.grown hg3 hsz (fun r e => by injection e with e; omega)⟩
            · rw [HMp.out]; exact HSn2.out
            · rw [HMp.out, List.length_append, List.length_singleton]
              exact ((HNum.out.kept hg3 (fun e => by injection e with e; omega)).more (Nat.le_succ _)).congr (fun l => numM_same (p := (kk, jj, l2)) HF.out l)
        case done =>
          rintro D ys W' hD hys ⟨⟨o, hrow, hseen⟩, hnum, hmb, hpb, hB⟩ hK
          have hys' : ys.map PortOf.val = ports b.nodes := hys
          rw [hys'] at hseen
          have cP := hpb.cell
          have hsz := hB.size
          have HK := Lib.hid hK
          have HBb := Lib.hid (hb1.trans (hB.mono hb1.size))
          have hDW : w.heap.size ≤ D := by omega
          have hgD : g ≠ D := by omega
          have HRo := Lib.hid hrow
          have HSn := Lib.hid hseen
          clear hys hys' hrow hseen hnum hmb hB hK hbx hpb
          go_wp2_with fail
          refine ⟨by simp, .inl ⟨_, _, rfl, run_takeDeferred HK.out, ?_⟩⟩
          refine ⟨_, results_tmp2 rfl _ _ _, ?_⟩
          refine ⟨_, rfl, ?_, HBb.out.trans (belowK_b (w := w) (Nat.le_refl _) _ D _ _ hDW HK.out rfl rfl)⟩
          rw [lpR_yes HQ.out (seen_all HSn.out), HL.out]
          refine res_num (o := o) ?_ hcp (by omega) (Nat.lt_of_lt_of_le HRo.out.lt (grownBy_putObj' W' D _).size)
          obtain ⟨f, h1, h2⟩ := HRo.out
          exact ⟨f, h1.of_block ((grownBy_putObj' W' D _).block g h1.lt (fun e => by injection e with e; exact hgD e)), h2⟩
        case stop =>
          rintro D c pre W' _ _ h _
          exact h.elim
end Go.Proofs.Ytfjgapkjpmkplaa.lpm
