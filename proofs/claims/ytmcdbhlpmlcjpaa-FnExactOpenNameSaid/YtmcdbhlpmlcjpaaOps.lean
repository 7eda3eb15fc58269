/- spec.OpenName. -/
import Derived.Test.YtmcdbhlpmlcjpaaOpi
namespace Go.Proofs.Ytmcdbhlpmlcjpaa.ops
open kit bg sg opn strs only hb sig isig un over gn nm inn ht gd im pt marks eqs hc hi hw hn rs br bm bw cf lf ib isa lawb lw cl rt ix tg rl ed tp rtg rta nl dl lo jo joi jos co gv tm ek wk rk rn rnm tp mb sb wb nd op opi
open Go.RowKit
set_option linter.unusedVariables false
set_option linter.unusedSimpArgs false
/-- a row appended, with memory or without -/
theorem wpList_append_sr {P : Program} (w : World) {ops : Array Oper} {rest : List Oper} {o : Oper} {a : Act} {Q : Exit → Act → World → Prop} (hgd : o.guard = none) (s x : Operand) (t : TypeId)
    (ho : o.op = .call { callee := .builtin .append, args := #[s, x], argTypes := #[t, t] })
    (base : Nat) (e : TypeId) (i : TypeInfo) (z : Value) (bytes : Nat) (ht : P.underlying t = some (.slice e)) (hi : P.info? e = some i) (hz : i.zero = some z)
    (hsize : i.size = 1) (hby : i.bytes = bytes) (hzs : z.cells.size = 1)
    (v : Value) (n : Nat) (xs : List Value) (hs : a.eval s = v) (hown : w.ownsRow base e 1 v n xs)
    (A : Option Addr) (m c : Nat) (news : List Value) (hx : a.eval x = .slice A m c) (hsr : SR w w.heap.size A m news) (h0 : A = none → c = 0) (h1 : ∀ u ∈ news, u.oneCell' = true)
    (h63 : n + m ≤ maxLen) (hbytes : (n + m) * bytes ≤ 140737488355328) (hbase : base ≤ w.heap.size) (w0 : World) (hB : Below base w0 w)
    (h : ∀ v' w', w'.ownsRow base e 1 v' (n + m) (xs ++ news) → Below base w0 w' → w.heap.size ≤ w'.heap.size → wpList P ops Q rest (a.put o.dst v') w') : wpList P ops Q (o :: rest) a w := by
  cases A with
  | none =>
    obtain rfl : c = 0 := h0 rfl
    obtain rfl : m = 0 := by
      by_cases e : m = 0
      · exact e
      · obtain ⟨b2, off2, e2, _⟩ := hsr.2 (by omega)
        cases e2
    have hx0 : news = [] := List.length_eq_zero_iff.1 hsr.1
    subst hx0
    refine wpList_append_own_none hgd s x t ho base e i 1 ht hi v n xs hs hown hx ?_
    exact h v w (by rw [List.append_nil]; exact hown) hB (Nat.le_refl _)
  | some A =>
    refine wpList_append_own w hgd s x t ho base e i z 1 bytes ht hi hz hsize hby hzs (by decide) v n xs hs hown A m c news hx (by rw [hsr.1, Nat.mul_one]) (sr_cells hsr) h1 h63 hbytes hbase (fun v' w' o' g' n' => ?_)
    exact h v' w' o' (hB.grown g' hbase (fun j hj => (hown.lt j hj).1)) g'.size
theorem ints_some {w : World} {lo n : Nat} {v : Value} {zs : List Int} (h : w.ownsRow lo 3 1 v n (zs.map (Value.int .i64))) (hne : v ≠ .slice none 0 0) : ∃ g c, v = .slice (some ⟨g, 0, none⟩) n c ∧ ∀ (j : Nat) u, (zs.map (Value.int .i64))[j]? = some u → w.cell? ((⟨g, 0, none⟩ : Addr).add j) = some u := by
  have h0 := h
  rcases h.2 with ⟨e, _⟩ | ⟨g, cap, cur, rfl, _⟩
  · exact absurd e hne
  · exact ⟨g, cap, rfl, World.ownsRow.cells h0 rfl⟩
set_option maxRecDepth 20000 in
set_option maxHeartbeats 12800000 in
theorem sOp_any (A : Option Addr) (n c : Nat) (cs : List Ctl) (v : Value) (b : Big) (e : Int) (s : ByteArray) (w : World) (hC : CtlsAt w w.heap.size A n cs) (hn : n ≤ 1048576) (hs : ∀ c ∈ cs, c.name.size ≤ 1048576) (hv : BigAt w w.heap.size v b) (hS : BigS b) (hw : BigW b) (hN : NilV v) (hze : (Lit.int .i64 e).wf = true) (hfs : s.size ≤ 1048576) :
    Calls Try.prog 33 #[.slice A n c, v, .int .i64 e, .string s] w (BigPost (opQ cs b e s) (opR cs b e s) w) := by
  have hNb := hN
  obtain ⟨A1, n1, c1, A2, n2, c2, A4, n4, c4, A5, n5, c5, rfl, h1, h2, h4, h5⟩ := hv
  have hnil := hN.get
  have hbx := (Below.refl w.heap.size w).alloc (Nat.le_refl _) (.cells #[.int .i64 b.roots, .slice A1 n1 c1, .slice A2 n2 c2, .int .i64 b.edges, .slice A4 n4 c4, .slice A5 n5 c5] 28)
  have HBoxI : Hid (BoxAt (w.alloc (.cells #[.int .i64 b.roots, .slice A1 n1 c1, .slice A2 n2 c2, .int .i64 b.edges, .slice A4 n4 c4, .slice A5 n5 c5] 28)) w.heap.size 28 (.int .i64 b.roots) (.slice A1 n1 c1) (.slice A2 n2 c2) (.int .i64 b.edges) (.slice A4 n4 c4) (.slice A5 n5 c5)) := Lib.hid (six_new w _ _ _ _ _ _ _)
  obtain ⟨W0, hW0⟩ : ∃ W, w.alloc (.cells #[.int .i64 b.roots, .slice A1 n1 c1, .slice A2 n2 c2, .int .i64 b.edges, .slice A4 n4 c4, .slice A5 n5 c5] 28) = W := ⟨_, rfl⟩
  have hWz0 : W0.heap.size = w.heap.size + 1 := by rw [← hW0]; simp
  rw [hW0] at hbx HBoxI
  have hb0 := (Below.refl W0.heap.size W0).alloc (Nat.le_refl _) (.cells #[.int .i64 0, .slice none 0 0, .slice none 0 0, .int .i64 0, .slice none 0 0, .slice none 0 0] 28)
  have HBx0 : Hid (BoxAt (W0.alloc (.cells #[.int .i64 0, .slice none 0 0, .slice none 0 0, .int .i64 0, .slice none 0 0, .slice none 0 0] 28)) W0.heap.size 28 (.int .i64 0) (.slice none 0 0) (.slice none 0 0) (.int .i64 0) (.slice none 0 0) (.slice none 0 0)) := Lib.hid (six_new W0 _ _ _ _ _ _ _)
  have HBox := Lib.hid (HBoxI.out.on hb0)
  obtain ⟨W, hW⟩ : ∃ W, W0.alloc (.cells #[.int .i64 0, .slice none 0 0, .slice none 0 0, .int .i64 0, .slice none 0 0, .slice none 0 0] 28) = W := ⟨_, rfl⟩
  have hWz : W.heap.size = w.heap.size + 1 + 1 := by rw [← hW]; simp; exact hWz0
  rw [hW] at hb0 HBx0 HBox
  rw [hWz0] at HBx0
  have HWq0 := Lib.hid hW0
  have HWq := Lib.hid hW
  have HB0 := Lib.hid (hbx.trans (hb0.mono hbx.size))
  have HWz := Lib.hid hWz
  have hVW : BigAt W W.heap.size (.agg #[.int .i64 b.roots, .slice A1 n1 c1, .slice A2 n2 c2, .int .i64 b.edges, .slice A4 n4 c4, .slice A5 n5 c5]) b := BigAt.wide (BigAt.below ⟨_, _, _, _, _, _, _, _, _, _, _, _, rfl, h1, h2, h4, h5⟩ HB0.out) HB0.out.size
  clear hW0 hW hb0 hWz hWz0 hbx HBoxI hN
  have C := l2Good_any A n c cs _ b W ((hC.below HB0.out).wide HB0.out.size) hVW hn hs hS hw
  have hsW : w.heap.size + 1 + 1 ≤ W.heap.size := by rw [HWz.out]; exact Nat.le_refl _
  have h4n : n4 ≤ 1048576 := by have := hS.2.2.2.1; rw [h4.strlen] at this; exact this
  have C2 := Lib.hid (fun (Y : World) (hY : Below w.heap.size w Y) => l2At_any A4 n4 c4 b.outer s Y _ (h4.below hY) h4n)
  obtain ⟨x0, x1, x2, x3, x4, x5⟩ := HBox.out.get
  clear hVW
  cases hq : bigB cs b with
  | false =>
    rw [hq] at C
    have HR := Lib.hid (op_no (cs := cs) (b := b) (e := e) (s := s) (by unfold opP; rw [hq]; rfl))
    rw [HR.out.1, HR.out.2]
    clear hq hs
    go_enter Try.func33, Try.ntmps33
    go_wp2_with fail
    rw [HWq0.out, HWq.out]
    go_wp2_with fail
    refine C.mono ?_
    rintro e1 w1 ⟨rfl, hb⟩
    have hb1 := HB0.out.trans (hb.mono HB0.out.size)
    have HBx1 := Lib.hid (HBx0.out.on hb)
    have HBox1 := Lib.hid (HBox.out.on hb)
    have hsz1 : w.heap.size + 1 + 1 ≤ w1.heap.size := Nat.le_trans hsW hb.size
    clear hb C x0 x1 x2 x3 x4 x5
    obtain ⟨z0, z1, z2, z3, z4, z5⟩ := HBx1.out.get
    have f0 := World.rowIs.frozen HBx1.out 0
    have f1 := World.rowIs.frozen HBx1.out 1
    have f2 := World.rowIs.frozen HBx1.out 2
    have f3 := World.rowIs.frozen HBx1.out 3
    have f4 := World.rowIs.frozen HBx1.out 4
    have f5 := World.rowIs.frozen HBx1.out 5
    go_wp2_with fail
    refine bodyPost_ret (v := .tuple #[.agg #[.int .i64 0, .slice none 0 0, .slice none 0 0, .int .i64 0, .slice none 0 0, .slice none 0 0], .bool false]) (by simp [results, Try.results33, go_sem, z0, z1, z2, z3, z4, z5]) rfl ⟨_, rfl, BigR.zero, sets6_below hb1 (by omega) _ _ _ _ _ _⟩
  | true =>
    rw [hq] at C
    have hz := sizes_of (big_of hq).2.1
    have hwE : wrap64 (b.edges - 1) = b.edges - 1 := by unfold wrap64; omega
    have CW := fun Y => in_any e 0 (b.edges - 1) Y
    cases hi : inb e 0 (b.edges - 1) with
    | false =>
      rw [hi] at CW
      have HR := Lib.hid (op_no (cs := cs) (b := b) (e := e) (s := s) (by unfold opP; rw [hi]; simp))
      rw [HR.out.1, HR.out.2]
      clear hq hi hs
      go_enter Try.func33, Try.ntmps33
      go_wp2_with fail
      rw [HWq0.out, HWq.out]
      go_wp2_with fail
      refine C.mono ?_
      rintro e1 w1 ⟨rfl, hb⟩
      have hb1 := HB0.out.trans (hb.mono HB0.out.size)
      have HBx1 := Lib.hid (HBx0.out.on hb)
      have HBox1 := Lib.hid (HBox.out.on hb)
      have hsz1 : w.heap.size + 1 + 1 ≤ w1.heap.size := Nat.le_trans hsW hb.size
      clear hb C x0 x1 x2 x3 x4 x5
      obtain ⟨x0, x1, x2, x3, x4, x5⟩ := HBox1.out.get
      go_wp2_with fail
      refine (CW _).mono ?_
      rintro e2 w2 ⟨rfl, rfl⟩
      clear x0 x1 x2 x3 x4 x5 CW
      obtain ⟨z0, z1, z2, z3, z4, z5⟩ := HBx1.out.get
      have f0 := World.rowIs.frozen HBx1.out 0
      have f1 := World.rowIs.frozen HBx1.out 1
      have f2 := World.rowIs.frozen HBx1.out 2
      have f3 := World.rowIs.frozen HBx1.out 3
      have f4 := World.rowIs.frozen HBx1.out 4
      have f5 := World.rowIs.frozen HBx1.out 5
      go_wp2_with fail
      refine bodyPost_ret (v := .tuple #[.agg #[.int .i64 0, .slice none 0 0, .slice none 0 0, .int .i64 0, .slice none 0 0, .slice none 0 0], .bool false]) (by simp [results, Try.results33, go_sem, z0, z1, z2, z3, z4, z5]) rfl ⟨_, rfl, BigR.zero, sets6_below hb1 (by omega) _ _ _ _ _ _⟩
    | true =>
      rw [hi] at CW
      rcases ixF_cases b.outer s with ⟨hix, hno⟩ | ⟨j, hix, hjs, -⟩
      · rw [hix] at C2
        have hin : inB b.outer s = false := in_no hno
        have HR := Lib.hid (op_yes (cs := cs) (b := b) (e := e) (s := s) (by unfold opP; rw [hq, hi, hin]; rfl))
        obtain ⟨he, he'⟩ : 0 ≤ e ∧ e < b.edges := by have := inb_true hi; omega
        have hTa := op_tame hq hS hfs ⟨he, he'⟩
        obtain ⟨E, hE⟩ : ∃ E : Nat, b.edges = E := ⟨b.edges.toNat, by omega⟩
        have hE8 : E ≤ 8 := by omega
        have HEe := Lib.hid hE
        have hn16 : n4 ≤ 16 := by have := h4.strlen; omega
        have HSo : Hid (∀ (A' : Option Addr) (c' : Nat) (Y : World), SR Y Y.heap.size A' (n4 + 1) ((b.outer ++ [s]).map Value.string) → Calls Try.prog 83 #[.slice A' (n4 + 1) c'] Y fun e w' => ∃ A'' c'', e = .returned (.slice A'' (opO b s).length c'') ∧ RowR w' Y.heap.size w'.heap.size 9 1 A'' (opO b s).length c'' (at_ (opO b s)) ∧ Below Y.heap.size Y w') := Lib.hid (fun A' c' Y h => so.l2Sorted_any A' (n4 + 1) c' (b.outer ++ [s]) Y h (by omega))
        have HOl : Hid ((opO b s).length ≤ 17) := Lib.hid (by have := opO_len b s; omega)
        have HRl := Lib.hid (fun (Ak : Option Addr) (nk ck : Nat) (Ao : Option Addr) (co : Nat) (Y : World) (hY : Below w.heap.size w Y) (hk : IntsAt Y Y.heap.size Ak nk (opT b e s)) (hnk : nk = E + n4) (hou : SR Y Y.heap.size Ao (opO b s).length ((opO b s).map Value.string)) (h0o : Ao = none → co = 0) =>
          rel_any (.agg #[.int .i64 b.roots, .slice A1 n1 c1, .slice A2 n2 c2, .int .i64 b.edges, .slice A4 n4 c4, .slice A5 n5 c5]) cs b Ak nk ck (opT b e s) (b.edges - 1) Ao (opO b s).length co (opO b s) Y (BigAt.wide (BigAt.below ⟨_, _, _, _, _, _, _, _, _, _, _, _, rfl, h1, h2, h4, h5⟩ hY) hY.size) hNb hq hk (by omega) (by have := h4.strlen; omega) hou (by have := HOl.out; omega) h0o)
        have HGv := Lib.hid (fun (v2 : Value) (Y : World) (hY : Below w.heap.size w Y) (hr : BigR Y w.heap.size Y.heap.size v2 (rkB b (opT b e s) (b.edges - 1) (opO b s))) => give_any A n c cs v2 (opB b e s) w Y hC hY hn hs hr hTa.S hTa.W)
        have HNd := Lib.hid (fun (A' : Option Addr) (c' : Nat) (Y : World) (hY : Below w.heap.size w Y) (hou : SR Y Y.heap.size A' (opO b s).length ((opO b s).map Value.string)) => nmd_any A4 A' n4 c4 (opO b s).length c' b.outer (opO b s) (b.edges - 1) Y ((h4.below hY).wide hY.size) hou (by omega) (by have := HOl.out; omega) (by omega))
        obtain ⟨Lb, hLb⟩ : ∃ Lb, giveR cs (opB b e s) = Lb := ⟨_, rfl⟩
        obtain ⟨q4, hq4⟩ : ∃ q4, bigB cs (opB b e s) = q4 := ⟨_, rfl⟩
        rw [HR.out.1, HR.out.2, hLb, hq4]
        rw [hLb, hq4] at HGv
        have HTl : Hid ((opT b e s).length = E + n4) := Lib.hid (by rw [opT_len, hE, Int.toNat_natCast, h4.strlen])
        have HTt : Hid ((opL b e s E).map (Value.int .i64) ++ (nmdL (b.edges - 1) (opO b s) b.outer).map (Value.int .i64) = (opT b e s).map (Value.int .i64)) := Lib.hid (by rw [← List.map_append]; unfold opT; rw [hE, Int.toNat_natCast])
        have HNl : Hid ((nmdL (b.edges - 1) (opO b s) b.outer).length = n4) := Lib.hid (by rw [nmd_len, h4.strlen])
        obtain ⟨i0, hi0, hz0, hz1, hz2⟩ := info_parts str_info
        have HI := Lib.hid (And.intro hi0 (And.intro hz0 (And.intro hz1 hz2)))
        have HO := Lib.hid h4
        have hnl4 := hnil.2.2.1
        clear hLb hq4 HR hTa hz he he' hE hi0 hz0 hz1 hz2 hq hi hin hs hS hw hNb hnil h1 h2 h4 h5 hC hix hno
        go_enter Try.func33, Try.ntmps33
        go_wp2_with fail
        rw [HWq0.out, HWq.out]
        go_wp2_with fail
        refine C.mono ?_
        rintro e1 w1 ⟨rfl, hb⟩
        have hb1 := HB0.out.trans (hb.mono HB0.out.size)
        have HBx1 := Lib.hid (HBx0.out.on hb)
        have HBox1 := Lib.hid (HBox.out.on hb)
        have hsz1 : w.heap.size + 1 + 1 ≤ w1.heap.size := Nat.le_trans hsW hb.size
        clear hb C x0 x1 x2 x3 x4 x5
        obtain ⟨x0, x1, x2, x3, x4, x5⟩ := HBox1.out.get
        go_wp2_with fail
        refine (CW _).mono ?_
        rintro e2 w2 ⟨rfl, rfl⟩
        go_wp2_with fail
        refine (C2.out w1 hb1).mono ?_
        rintro e2 w2 ⟨rfl, rfl⟩
        have hb10 := hb1.alloc hb1.size (.cells #[] 9)
        have hnl := ownsRow_nil_new w1 9 1 w1.heap.size (Nat.le_refl _)
        have hsr0 := ((HO.out.below hb10).wide hb10.size)
        have hq0 := (Below.refl w1.heap.size w1).alloc (Nat.le_refl _) (.cells #[] 9)
        obtain ⟨y0, y1, y2, y3, y4, y5⟩ := (HBox1.out.on hq0).get
        have hln : (b.outer ++ [s]).length = n4 + 1 := by rw [List.length_append, HO.out.strlen]; rfl
        have HLn := Lib.hid hln
        clear hln
        go_wp2_with (at_builtin; first
          | (refine wpList_append_sr _ rfl _ _ 22 rfl w1.heap.size 9 i0 (.string ⟨#[]⟩) 16 Try.underlying22 HI.out.1 HI.out.2.1 HI.out.2.2.1 HI.out.2.2.2 rfl _ _ _ rfl hnl A4 n4 c4 (b.outer.map Value.string) rfl hsr0 hnl4 (so.strs_one _) (by unfold maxLen; omega) (by omega) hq0.size w1 hq0 ?_; intro v1 w4 own1 hbq1 hsq1; have hcc := cell_one_new w4 (.string s) 9; clear hnl hsr0 x0 x1 x2 x3 x4 x5 y0 y1 y2 y3 y4 y5)
          | (refine wpList_append_own _ rfl _ _ 22 rfl w1.heap.size 9 i0 (.string ⟨#[]⟩) 1 16 Try.underlying22 HI.out.1 HI.out.2.1 HI.out.2.2.1 HI.out.2.2.2 rfl (by decide) _ _ _ rfl (own1.alloc _) ⟨w4.heap.size, 0, none⟩ 1 1 [.string s] rfl rfl hcc (so.one_one s) (by unfold maxLen; omega) (by omega) (hbq1.alloc hbq1.size (.cells #[.string s] 9)).size ?_; intro v2 w5 own2 grow2 nil2; have hbq2 := (hbq1.alloc hbq1.size (.cells #[.string s] 9)).grown grow2 (hbq1.alloc hbq1.size (.cells #[.string s] 9)).size (fun r e => (own1.lt r e).1); rw [Nat.zero_add, List.nil_append, show b.outer.map Value.string ++ [Value.string s] = (b.outer ++ [s]).map Value.string from by rw [List.map_append]; rfl] at own2; obtain ⟨A', c', rfl, hr2⟩ := wb.strs_owned own2; rw [HLn.out]; have HR2 := Lib.hid (strsR_at (rowR_here hr2)); rw [HLn.out] at HR2; clear own1 own2 grow2 nil2 hcc hr2))
        refine (HSo.out A' c' w5 HR2.out).mono ?_
        rintro e6 w6 ⟨A6, c6, rfl, hr6, hb6⟩
        have HQ6 := Lib.hid (hbq2.trans (hb6.mono hbq2.size))
        have HR6 := Lib.hid hr6
        clear hb6 hr6
        go_wp2_with fail
        have HB6 := Lib.hid (hb1.trans (HQ6.out.mono hb1.size))
        have HBox6 := Lib.hid (HBox1.out.on HQ6.out)
        have HBx6 := Lib.hid (HBx1.out.on HQ6.out)
        have hz6 := HQ6.out.size
        have HCa := Lib.hid (fun (Y : World) (hY : Below w6.heap.size w6 Y) => l2At_any A6 (opO b s).length c6 (opO b s) s Y _ (strsR_at (rowR_here (HR6.out.on hY))) (by have := HOl.out; omega))
        obtain ⟨i1, hi0, hi1, hi2, hi3⟩ := info_parts int_info
        have HJ := Lib.hid (And.intro hi0 (And.intro hi1 (And.intro hi2 hi3)))
        obtain ⟨r, hr⟩ : ∃ r, ixF (opO b s) s = r := ⟨_, rfl⟩
        have hrr := ixF_in (opO b s) s
        have HRr := Lib.hid hr
        rw [hr] at HCa hrr
        have HHr : Hid (-1 ≤ r ∧ r ≤ 17) := Lib.hid (by have := HOl.out; omega)
        clear hi0 hi1 hi2 hi3 hr hrr hbq2 hq0 hb10 hsq1 hbq1 hb1
        go_loopw [11, 12] (fun l i wr => ∃ (k : Nat) (v : Value), k ≤ E ∧ i = .int .i64 k ∧ v = l ∧ wr.ownsRow w6.heap.size 3 1 v k ((opL b e s k).map (Value.int .i64)) ∧ Below w6.heap.size w6 wr) (fun _ i _ => E - (intOf i).toNat)
        case atStart => exact ⟨0, _, Nat.zero_le _, rfl, rfl, ownsRow_nil_new w6 3 1 w6.heap.size (Nat.le_refl _), (Below.refl _ _).alloc (Nat.le_refl _) _⟩
        case round =>
          obtain ⟨k, v, hk, rfl, rfl, hown, hbel⟩ := hrel
          rename World => wr
          have hwU := hbel.size
          obtain ⟨x0, x1, x2, x3, x4, x5⟩ := (HBox6.out.on hbel).get
          by_cases hlt : k < E
          · have hlb : (k : Int) < b.edges := by rw [HEe.out]; omega
            obtain ⟨D, hD⟩ : ∃ D, (opL b e s k).map (Value.int .i64) = D := ⟨_, rfl⟩
            by_cases h1 : (k : Int) < e
            · skip
              have HT := Lib.hid (show (opL b e s (k + 1)).map (Value.int .i64) = D ++ [.int .i64 ((k : Int))] by rw [op_snoc, List.map_append, hD, show opE b e s k = (k : Int) from by unfold opE; exact if_pos h1]; rfl)
              rw [hD] at hown
              clear hD
              go_wp2_with (at_builtin; refine wpList_append_own _ rfl _ _ 25 rfl w6.heap.size 3 i1 (.int .i64 0) 1 8 Try.underlying25 HJ.out.1 HJ.out.2.1 HJ.out.2.2.1 HJ.out.2.2.2 rfl (by decide) _ _ _ rfl (hown.alloc _) ⟨wr.heap.size, 0, none⟩ 1 1 [.int .i64 ((k : Int))] rfl rfl (cell_one_new _ _ _) (fun x hx => by simp at hx; subst hx; rfl) (by unfold maxLen; omega) (by omega) (by simp; omega) ?_; intro v1 w5 hown1 hgrow1 hnil1; have hb1 := Lib.hid ((hbel.alloc (by omega) (.cells #[.int .i64 ((k : Int))] 3)).grown hgrow1 (by simp; omega) (fun j hj => (hown.lt j hj).1)); have HOwn := Lib.hid hown1; clear hown1 hgrow1 hnil1 hown x0 x1 x2 x3 x4 x5)
              go_wp2_with fail
              go_roundw
              case rel => exact ⟨k + 1, _, by omega, by go_num, rfl, by rw [HT.out]; exact HOwn.out, hb1.out⟩
              case measure => simp [intOf]; omega
            by_cases h2 : (k : Int) = e
            · have h2' : ((k : Int) == e) = true := by simp; omega
              have HT := Lib.hid (show (opL b e s (k + 1)).map (Value.int .i64) = D ++ [.int .i64 (b.edges - 1 + r)] by rw [op_snoc, List.map_append, hD, show opE b e s k = b.edges - 1 + r from by unfold opE; rw [if_neg h1, if_pos h2, HRr.out]]; rfl)
              have CA := HCa.out wr.drew hbel.drew
              rw [hD] at hown
              have HS4 : Hid (∀ w', Below w6.heap.size w6 w' → w'.cell? ⟨w.heap.size, 3, none⟩ = some (.int .i64 b.edges)) := Lib.hid (fun w' hq => (HBox6.out.on hq).get.2.2.2.1)
              have e1' : k + 1 ≤ maxLen := by unfold maxLen; omega
              have e2' : (k + 1) * 8 ≤ 140737488355328 := by omega
              have e4' : ∀ u ∈ [Value.int .i64 (b.edges - 1 + r)], u.oneCell' = true := fun u hu => by simp at hu; subst hu; rfl
              have hHr := HHr.out
              have hEe := HEe.out
              have hw1 : IntKind.i64.wrap (b.edges - 1) = b.edges - 1 := IntWalk.i64_in _ (by omega)
              have hw2 : IntKind.i64.wrap (b.edges - 1 + r) = b.edges - 1 + r := IntWalk.i64_in _ (by omega)
              clear hEe hHr
              have hkD2 := hbel.drew
              have hkW := ((Below.refl wr.heap.size wr).drew).alloc (Nat.le_refl _) (.cells #[.int .i64 (b.edges - 1 + r)] 3)
              have hkA := hkD2.alloc hkD2.size (.cells #[.int .i64 (b.edges - 1 + r)] 3)
              have HOA := Lib.hid (mg.own_on hown hkW)
              have e3' : w6.heap.size ≤ (wr.drew.alloc (.cells #[.int .i64 (b.edges - 1 + r)] 3)).heap.size := hkA.size
              have HGr := Lib.hid (fun (w1 : World) (hg1 : (wr.drew.alloc (.cells #[.int .i64 (b.edges - 1 + r)] 3)).grownBy w1 v.ownBlock) => hkA.grown hg1 hkA.size (fun j hj => by have := (hown.lt j hj).1; omega))
              clear hD hown hkA hkW
              go_wp2_with fail
              clear x0 x1 x2 x3 x4 x5
              refine rh.go_begin 10 (fun w' => w'.cell? ⟨w.heap.size, 3, none⟩ = some (.int .i64 b.edges)) (by kernel_rfl) ?_ (fun hHeld => ?_)
              · ((try dsimp only); exact HS4.out _ (by go_grown))
              refine rh.go_take (i := 0) (v := ?v1) rfl (by kernel_rfl) (fun _ _ _ h => h) (Or.inl ⟨by rfl, ?hy1⟩) (by assumption) ?rest1
              case hy1 => (intro wS hSw; (try dsimp only at hSw); go_simp; try (with_reducible rfl))
              try simp only [Act.put, List.setIfInBounds_toArray, List.set_cons_zero, List.set_cons_succ]
              refine rh.go_take (i := 1) (v := ?v2) rfl (by kernel_rfl) (fun _ _ _ h => h) (Or.inl ⟨by rfl, ?hy2⟩) (by assumption) ?rest2
              case hy2 => (intro wS hSw; (try dsimp only at hSw); go_simp; try (with_reducible rfl))
              try simp only [Act.put, List.setIfInBounds_toArray, List.set_cons_zero, List.set_cons_succ]
              refine rh.go_take (i := 2) (v := ?v3) rfl (by kernel_rfl) (fun _ _ _ h => h) (Or.inl ⟨by rfl, ?hy3⟩) (by assumption) ?rest3
              case hy3 => (intro wS hSw; (try dsimp only at hSw); go_simp; try (with_reducible rfl))
              try simp only [Act.put, List.setIfInBounds_toArray, List.set_cons_zero, List.set_cons_succ]
              refine rh.go_take (i := 3) (v := ?v4) rfl (by kernel_rfl) (fun _ _ _ h => h) (Or.inl ⟨by rfl, ?hy4⟩) (by assumption) ?rest4
              case hy4 => (intro wS hSw; (try dsimp only at hSw); go_simp; try (with_reducible rfl))
              try simp only [Act.put, List.setIfInBounds_toArray, List.set_cons_zero, List.set_cons_succ]
              refine rh.go_take (i := 4) (v := ?v5) rfl (by kernel_rfl) (fun _ _ _ h => h) (Or.inl ⟨by rfl, ?hy5⟩) (by assumption) ?rest5
              case hy5 => (intro wS hSw; (try dsimp only at hSw); go_simp; try (with_reducible rfl))
              try simp only [Act.put, List.setIfInBounds_toArray, List.set_cons_zero, List.set_cons_succ]
              refine rh.go_take (i := 5) (v := ?v6) rfl (by kernel_rfl) (fun _ _ _ h => h) (Or.inl ⟨by rfl, ?hy6⟩) (by assumption) ?rest6
              case hy6 => (intro wS hSw; (try dsimp only at hSw); go_simp; try (with_reducible rfl))
              try simp only [Act.put, List.setIfInBounds_toArray, List.set_cons_zero, List.set_cons_succ]
              try rw [hw1]
              refine rh.go_next (i := 6) rfl (by kernel_rfl) (fun K2 hK => ?_)
              (go_simp; go_at_call 82; refine CA.mono ?_; rintro e w2 ⟨rfl, rfl⟩; go_wp2_with fail)
              refine hK.out _ _ ?_ (fun hHeld => ?_)
              · ((try dsimp only); exact HS4.out _ (by go_grown))
              clear hK K2
              try simp only [Act.put, List.setIfInBounds_toArray, List.set_cons_zero, List.set_cons_succ]
              try rw [hw1]
              refine rh.go_take (i := 7) (v := ?v7) rfl (by kernel_rfl) (fun _ _ _ h => h) (Or.inl ⟨by rfl, ?hy7⟩) (by assumption) ?rest7
              case hy7 => (intro wS hSw; (try dsimp only at hSw); go_simp; try (with_reducible rfl))
              try simp only [Act.put, List.setIfInBounds_toArray, List.set_cons_zero, List.set_cons_succ]
              try rw [hw2]
              refine rh.go_next (i := 8) rfl (by kernel_rfl) (fun K2 hK => ?_)
              go_simp
              refine hK.out _ _ ?_ (fun hHeld => ?_)
              · ((try dsimp only); exact HS4.out _ (by go_grown))
              clear hK K2
              try simp only [Act.put, List.setIfInBounds_toArray, List.set_cons_zero, List.set_cons_succ]
              refine rh.go_next (i := 9) rfl (by kernel_rfl) (fun K2 hK => ?_)
              (refine sa.step_append_own rfl _ _ 25 rfl w6.heap.size 3 i1 (.int .i64 0) 1 8 Try.underlying25 HJ.out.1 HJ.out.2.1 HJ.out.2.2.1 HJ.out.2.2.2 rfl (by decide) _ _ _ (by first | rfl | simp [Act.eval, Act.put]) HOA.out ⟨wr.drew.heap.size, 0, none⟩ 1 1 [.int .i64 (b.edges - 1 + r)] (by first | rfl | simp [Act.eval, Act.put]) rfl (cell_one_new _ _ _) e4' e1' e2' e3' ?_; intro v1 w5 hown1 hgrow1 hnil1; have HOw5 := Lib.hid hown1; have hq5 := HGr.out _ hgrow1; clear hgrow1 hnil1 hown1; (try go_simp))
              refine hK.out _ _ ?_ (fun hHeld => ?_)
              · ((try dsimp only); exact HS4.out _ (by go_grown))
              clear hK K2
              try simp only [Act.put, List.setIfInBounds_toArray, List.set_cons_zero, List.set_cons_succ]
              refine rh.go_last rfl (by kernel_rfl) (fun K2 hK => ?_)
              go_simp
              refine hK.out _ _ ?_
              refine NoPanic.normal ?_
              clear hK K2
              go_wp2_with fail
              go_roundw
              case rel => exact ⟨k + 1, _, by omega, by go_num, rfl, by rw [HT.out]; exact HOw5.out, hq5⟩
              case measure => simp [intOf]; omega
            · have h2' : ((k : Int) == e) = false := by simp; omega
              have hwk : wrap64 ((k : Int) - 1) = (k : Int) - 1 := by unfold wrap64; omega
              have HT := Lib.hid (show (opL b e s (k + 1)).map (Value.int .i64) = D ++ [.int .i64 ((k : Int) - 1)] by rw [op_snoc, List.map_append, hD, show opE b e s k = (k : Int) - 1 from by unfold opE; rw [if_neg h1, if_neg h2]]; rfl)
              rw [hD] at hown
              clear hD
              go_wp2_with (at_builtin; refine wpList_append_own _ rfl _ _ 25 rfl w6.heap.size 3 i1 (.int .i64 0) 1 8 Try.underlying25 HJ.out.1 HJ.out.2.1 HJ.out.2.2.1 HJ.out.2.2.2 rfl (by decide) _ _ _ rfl (hown.alloc _) ⟨wr.heap.size, 0, none⟩ 1 1 [.int .i64 ((k : Int) - 1)] rfl rfl (cell_one_new _ _ _) (fun x hx => by simp at hx; subst hx; rfl) (by unfold maxLen; omega) (by omega) (by simp; omega) ?_; intro v1 w5 hown1 hgrow1 hnil1; have hb1 := Lib.hid ((hbel.alloc (by omega) (.cells #[.int .i64 ((k : Int) - 1)] 3)).grown hgrow1 (by simp; omega) (fun j hj => (hown.lt j hj).1)); have HOwn := Lib.hid hown1; clear hown1 hgrow1 hnil1 hown x0 x1 x2 x3 x4 x5)
              go_wp2_with fail
              go_roundw
              case rel => exact ⟨k + 1, _, by omega, by go_num, rfl, by rw [HT.out]; exact HOwn.out, hb1.out⟩
              case measure => simp [intOf]; omega
          · obtain rfl : E = k := by omega
            have hlb : ¬ (E : Int) < b.edges := by rw [HEe.out]; omega
            have HBx7 := Lib.hid (HBx6.out)
            have HS6 : Hid (∀ w', Below w6.heap.size w6 w' → (w'.cell? ⟨w.heap.size, 0, none⟩ = some (.int .i64 b.roots) ∧ w'.cell? ⟨w.heap.size, 1, none⟩ = some (.slice A1 n1 c1) ∧ w'.cell? ⟨w.heap.size, 2, none⟩ = some (.slice A2 n2 c2) ∧ w'.cell? ⟨w.heap.size, 3, none⟩ = some (.int .i64 b.edges) ∧ w'.cell? ⟨w.heap.size, 4, none⟩ = some (.slice A4 n4 c4) ∧ w'.cell? ⟨w.heap.size, 5, none⟩ = some (.slice A5 n5 c5))) := Lib.hid (fun w' hq => (HBox6.out.on hq).get)
            have hkD := hbel.drew
            have hwD := HB6.out.trans (hkD.mono HB6.out.size)
            have HwkD := Lib.hid ((Below.refl wr.heap.size wr).drew)
            have HOw := Lib.hid hown
            have hEe := HEe.out
            have hw1 : IntKind.i64.wrap (b.edges - 1) = b.edges - 1 := IntWalk.i64_in _ (by omega)
            have e1' : E + n4 ≤ maxLen := by unfold maxLen; omega
            have e2' : (E + n4) * 8 ≤ 140737488355328 := by omega
            clear hEe hown
            go_wp2_with fail
            clear x0 x1 x2 x3 x4 x5
            refine rh.go_begin 20 (fun w' => (w'.cell? ⟨w.heap.size, 0, none⟩ = some (.int .i64 b.roots) ∧ w'.cell? ⟨w.heap.size, 1, none⟩ = some (.slice A1 n1 c1) ∧ w'.cell? ⟨w.heap.size, 2, none⟩ = some (.slice A2 n2 c2) ∧ w'.cell? ⟨w.heap.size, 3, none⟩ = some (.int .i64 b.edges) ∧ w'.cell? ⟨w.heap.size, 4, none⟩ = some (.slice A4 n4 c4) ∧ w'.cell? ⟨w.heap.size, 5, none⟩ = some (.slice A5 n5 c5))) (by kernel_rfl) ?_ (fun hHeld => ?_)
            · ((try dsimp only); exact HS6.out _ (by go_grown))
            refine rh.go_take (i := 0) (v := ?v8) rfl (by kernel_rfl) (fun _ _ _ h => h) (Or.inl ⟨by rfl, ?hy8⟩) (by assumption) ?rest8
            case hy8 => (intro wS hSw; (try dsimp only at hSw); go_simp; try (with_reducible rfl))
            try simp only [Act.put, List.setIfInBounds_toArray, List.set_cons_zero, List.set_cons_succ]
            refine rh.go_take (i := 1) (v := ?v9) rfl (by kernel_rfl) (fun _ _ _ h => h) (Or.inl ⟨by rfl, ?hy9⟩) (by assumption) ?rest9
            case hy9 => (intro wS hSw; (try dsimp only at hSw); go_simp; try (with_reducible rfl))
            try simp only [Act.put, List.setIfInBounds_toArray, List.set_cons_zero, List.set_cons_succ]
            refine rh.go_take (i := 2) (v := ?v10) rfl (by kernel_rfl) (fun _ _ _ h => h) (Or.inl ⟨by rfl, ?hy10⟩) (by assumption) ?rest10
            case hy10 => (intro wS hSw; (try dsimp only at hSw); go_simp; try (with_reducible rfl))
            try simp only [Act.put, List.setIfInBounds_toArray, List.set_cons_zero, List.set_cons_succ]
            refine rh.go_take (i := 3) (v := ?v11) rfl (by kernel_rfl) (fun _ _ _ h => h) (Or.inl ⟨by rfl, ?hy11⟩) (by assumption) ?rest11
            case hy11 => (intro wS hSw; (try dsimp only at hSw); go_simp; try (with_reducible rfl))
            try simp only [Act.put, List.setIfInBounds_toArray, List.set_cons_zero, List.set_cons_succ]
            refine rh.go_take (i := 4) (v := ?v12) rfl (by kernel_rfl) (fun _ _ _ h => h) (Or.inl ⟨by rfl, ?hy12⟩) (by assumption) ?rest12
            case hy12 => (intro wS hSw; (try dsimp only at hSw); go_simp; try (with_reducible rfl))
            try simp only [Act.put, List.setIfInBounds_toArray, List.set_cons_zero, List.set_cons_succ]
            refine rh.go_take (i := 5) (v := ?v13) rfl (by kernel_rfl) (fun _ _ _ h => h) (Or.inl ⟨by rfl, ?hy13⟩) (by assumption) ?rest13
            case hy13 => (intro wS hSw; (try dsimp only at hSw); go_simp; try (with_reducible rfl))
            try simp only [Act.put, List.setIfInBounds_toArray, List.set_cons_zero, List.set_cons_succ]
            refine rh.go_take (i := 6) (v := ?v14) rfl (by kernel_rfl) (fun _ _ _ h => h) (Or.inl ⟨by rfl, ?hy14⟩) (by assumption) ?rest14
            case hy14 => (intro wS hSw; (try dsimp only at hSw); go_simp; try (with_reducible rfl))
            try simp only [Act.put, List.setIfInBounds_toArray, List.set_cons_zero, List.set_cons_succ]
            refine rh.go_take (i := 7) (v := .int .i64 (b.edges - 1)) rfl (by kernel_rfl) (fun _ _ _ h => h) (Or.inl ⟨by rfl, ?hyQ7⟩) (by assumption) ?restQ7
            case hyQ7 => (intro wS hSw; (try dsimp only at hSw); go_simp; try rw [hw1])
            try simp only [Act.put, List.setIfInBounds_toArray, List.set_cons_zero, List.set_cons_succ]
            refine rh.go_take (i := 8) (v := ?v15) rfl (by kernel_rfl) (fun _ _ _ h => h) (Or.inl ⟨by rfl, ?hy15⟩) (by assumption) ?rest15
            case hy15 => (intro wS hSw; (try dsimp only at hSw); go_simp; try (with_reducible rfl))
            try simp only [Act.put, List.setIfInBounds_toArray, List.set_cons_zero, List.set_cons_succ]
            refine rh.go_take (i := 11) (v := ?v16) rfl (by kernel_rfl) (fun _ _ _ h => h) (Or.inl ⟨by rfl, ?hy16⟩) (by assumption) ?rest16
            case hy16 => (intro wS hSw; (try dsimp only at hSw); go_simp; try (with_reducible rfl))
            try simp only [Act.put, List.setIfInBounds_toArray, List.set_cons_zero, List.set_cons_succ]
            refine rh.go_take (i := 12) (v := ?v17) rfl (by kernel_rfl) (fun _ _ _ h => h) (Or.inl ⟨by rfl, ?hy17⟩) (by assumption) ?rest17
            case hy17 => (intro wS hSw; (try dsimp only at hSw); go_simp; try (with_reducible rfl))
            try simp only [Act.put, List.setIfInBounds_toArray, List.set_cons_zero, List.set_cons_succ]
            refine rh.go_take (i := 13) (v := .int .i64 (b.edges - 1)) rfl (by kernel_rfl) (fun _ _ _ h => h) (Or.inl ⟨by rfl, ?hyQ13⟩) (by assumption) ?restQ13
            case hyQ13 => (intro wS hSw; (try dsimp only at hSw); go_simp; try rw [hw1])
            try simp only [Act.put, List.setIfInBounds_toArray, List.set_cons_zero, List.set_cons_succ]
            refine rh.go_take (i := 14) (v := ?v18) rfl (by kernel_rfl) (fun _ _ _ h => h) (Or.inl ⟨by rfl, ?hy18⟩) (by assumption) ?rest18
            case hy18 => (intro wS hSw; (try dsimp only at hSw); go_simp; try (with_reducible rfl))
            try simp only [Act.put, List.setIfInBounds_toArray, List.set_cons_zero, List.set_cons_succ]
            refine rh.go_next (i := 9) rfl (by kernel_rfl) (fun K2 hK => ?_)
            (go_simp; go_at_call 86; refine (HNd.out A6 c6 _ hwD (strsR_at (rowR_here (HR6.out.on hkD)))).mono ?_; rintro e9 w9 ⟨v9, rfl, hr9, hne9, hb⟩; have hk9 := hkD.trans (hb.mono hkD.size); have hkw9 := HwkD.out.trans (hb.mono HwkD.out.size); obtain ⟨g9, c9, rfl, hce9⟩ := ints_some hr9 hne9; have HOw9 := Lib.hid (mg.own_on HOw.out hkw9); clear hb hr9 hne9 hkw9; go_wp2_with fail)
            refine hK.out _ _ ?_ (fun hHeld => ?_)
            · ((try dsimp only); exact HS6.out _ (by go_grown))
            clear hK K2
            try simp only [Act.put, List.setIfInBounds_toArray, List.set_cons_zero, List.set_cons_succ]
            refine rh.go_next (i := 10) rfl (by kernel_rfl) (fun K2 hK => ?_)
            (refine sa.step_append_own rfl _ _ 25 rfl w6.heap.size 3 i1 (.int .i64 0) 1 8 Try.underlying25 HJ.out.1 HJ.out.2.1 HJ.out.2.2.1 HJ.out.2.2.2 rfl (by decide) _ _ _ (by first | rfl | simp [Act.eval, Act.put]) HOw9.out ⟨g9, 0, none⟩ n4 c9 ((nmdL (b.edges - 1) (opO b s) b.outer).map (Value.int .i64)) (by first | rfl | simp [Act.eval, Act.put]) (by rw [List.length_map, HNl.out, Nat.mul_one]) hce9 (fun u hu => by obtain ⟨z, -, rfl⟩ := List.mem_map.1 hu; rfl) e1' e2' hk9.size ?_; intro v10 w10 own10 grow10 nil10; have hk10 := hk9.grown grow10 hk9.size (fun j hj => (HOw9.out.lt j hj).1); rw [HTt.out] at own10; obtain ⟨A10, c10, rfl, hr10⟩ := ints_owned own10; have HI10 := Lib.hid (intsR_at hr10); rw [HTl.out] at HI10; rw [HTl.out]; clear own10 grow10 nil10 hr10 hce9; (try go_simp))
            refine hK.out _ _ ?_ (fun hHeld => ?_)
            · ((try dsimp only); exact HS6.out _ (by go_grown))
            clear hK K2
            try simp only [Act.put, List.setIfInBounds_toArray, List.set_cons_zero, List.set_cons_succ]
            have hw10 := HB6.out.trans (hk10.mono HB6.out.size)
            refine rh.go_next (i := 15) rfl (by kernel_rfl) (fun K2 hK => ?_)
            (go_simp; go_at_call 85; refine (HRl.out A10 (E + n4) c10 A6 c6 w10 hw10 HI10.out rfl (strsR_at (rowR_here (HR6.out.on hk10))) (rowR_nil0 HR6.out)).mono ?_; rintro e11 w11 ⟨v11, rfl, hr11, hb⟩; have hk11 := hk10.trans (hb.mono hk10.size); have HR11 := Lib.hid hr11; clear hb hr11; go_wp2_with fail)
            refine hK.out _ _ ?_ (fun hHeld => ?_)
            · ((try dsimp only); exact HS6.out _ (by go_grown))
            clear hK K2
            try simp only [Act.put, List.setIfInBounds_toArray, List.set_cons_zero, List.set_cons_succ]
            have hw11 := HB6.out.trans (hk11.mono HB6.out.size)
            refine rh.go_next (i := 16) rfl (by kernel_rfl) (fun K2 hK => ?_)
            (go_simp; go_at_call 84; refine (HGv.out v11 w11 hw11 (HR11.out.wide hw10.size (Nat.le_refl _))).mono ?_; rintro e12 w12 ⟨v12, rfl, hr12, hb⟩; obtain ⟨D1, g1, D2, g2, D4, g4, D5, g5, rfl⟩ := hr12.shape; have hk12 := hk11.trans (hb.mono hk11.size); have HR12 := Lib.hid hr12; have HK12 := Lib.hid hk12; clear hb hr12; go_wp2_with fail)
            refine hK.out _ _ ?_ (fun hHeld => ?_)
            · ((try dsimp only); exact HS6.out _ (by go_grown))
            clear hK K2
            try simp only [Act.put, List.setIfInBounds_toArray, List.set_cons_zero, List.set_cons_succ]
            have HBx8 := Lib.hid (HBx6.out.on HK12.out)
            have HBox8 := Lib.hid (HBox6.out.on HK12.out)
            obtain ⟨z0, z1, z2, z3, z4, z5⟩ := HBx8.out.get
            have f0 := World.rowIs.frozen HBx8.out 0
            have f1 := World.rowIs.frozen HBx8.out 1
            have f2 := World.rowIs.frozen HBx8.out 2
            have f3 := World.rowIs.frozen HBx8.out 3
            have f4 := World.rowIs.frozen HBx8.out 4
            have f5 := World.rowIs.frozen HBx8.out 5
            refine rh.go_take (i := 17) (v := ?v19) rfl (by kernel_rfl) (fun _ _ _ h => h) (Or.inl ⟨by rfl, ?hy19⟩) (by assumption) ?rest19
            case hy19 => (intro wS hSw; (try dsimp only at hSw); go_simp; try (with_reducible rfl))
            try simp only [Act.put, List.setIfInBounds_toArray, List.set_cons_zero, List.set_cons_succ]
            refine rh.go_take (i := 18) (v := ?v20) rfl (by kernel_rfl) (fun _ _ _ h => h) (Or.inl ⟨by rfl, ?hy20⟩) (by assumption) ?rest20
            case hy20 => (intro wS hSw; (try dsimp only at hSw); go_simp; try (with_reducible rfl))
            try simp only [Act.put, List.setIfInBounds_toArray, List.set_cons_zero, List.set_cons_succ]
            refine rh.go_next (i := 19) rfl (by kernel_rfl) (fun K2 hK => ?_)
            go_simp
            refine hK.out _ _ ?_ (fun hHeld => ?_)
            · ((try dsimp only); exact (show BoxAt (sets6 w12 (w.heap.size + 1) (.int .i64 Lb.roots) (.slice D1 Lb.nodes.length g1) (.slice D2 Lb.sites.length g2) (.int .i64 Lb.edges) (.slice D4 Lb.outer.length g4) (.slice D5 Lb.inner.length g5)) w.heap.size 28 (.int .i64 b.roots) (.slice A1 n1 c1) (.slice A2 n2 c2) (.int .i64 b.edges) (.slice A4 n4 c4) (.slice A5 n5 c5) from World.rowIs.of_block HBox8.out (sets6_block _ _ _ _ _ _ (by omega))).get)
            clear hK K2
            try simp only [Act.put, List.setIfInBounds_toArray, List.set_cons_zero, List.set_cons_succ]
            refine rh.go_last rfl (by kernel_rfl) (fun K2 hK => ?_)
            go_simp
            refine hK.out _ _ ?_
            refine NoPanic.normal ?_
            clear hK K2
            have HB12 := Lib.hid (HB6.out.trans (HK12.out.mono HB6.out.size))
            go_wp2_with fail
            have hbig := (sets6_big HBx8.out HR12.out (.int .i64 Lb.roots) (.slice D1 Lb.nodes.length g1) (.slice D2 Lb.sites.length g2) (.int .i64 Lb.edges) (.slice D4 Lb.outer.length g4) (.slice D5 Lb.inner.length g5)).here
            have hbel := sets6_below HB12.out (Nat.le_succ _) (.int .i64 Lb.roots) (.slice D1 Lb.nodes.length g1) (.slice D2 Lb.sites.length g2) (.int .i64 Lb.edges) (.slice D4 Lb.outer.length g4) (.slice D5 Lb.inner.length g5)
            unfold sets6 at hbig hbel
            refine bodyPost_ret (v := .tuple #[.agg #[.int .i64 Lb.roots, .slice D1 Lb.nodes.length g1, .slice D2 Lb.sites.length g2, .int .i64 Lb.edges, .slice D4 Lb.outer.length g4, .slice D5 Lb.inner.length g5], .bool q4]) (by simp [results, Try.results33, go_sem, z0, z1, z2, z3, z4, z5]) rfl ⟨_, rfl, hbig, hbel⟩
      · rw [hix] at C2
        have hin : inB b.outer s = true := in_yes (List.mem_of_getElem? hjs)
        have HR := Lib.hid (op_no (cs := cs) (b := b) (e := e) (s := s) (by unfold opP; rw [hin]; simp))
        rw [HR.out.1, HR.out.2]
        clear hq hi hs hix hjs
        go_enter Try.func33, Try.ntmps33
        go_wp2_with fail
        rw [HWq0.out, HWq.out]
        go_wp2_with fail
        refine C.mono ?_
        rintro e1 w1 ⟨rfl, hb⟩
        have hb1 := HB0.out.trans (hb.mono HB0.out.size)
        have HBx1 := Lib.hid (HBx0.out.on hb)
        have HBox1 := Lib.hid (HBox.out.on hb)
        have hsz1 : w.heap.size + 1 + 1 ≤ w1.heap.size := Nat.le_trans hsW hb.size
        clear hb C x0 x1 x2 x3 x4 x5
        obtain ⟨x0, x1, x2, x3, x4, x5⟩ := HBox1.out.get
        go_wp2_with fail
        refine (CW _).mono ?_
        rintro e2 w2 ⟨rfl, rfl⟩
        go_wp2_with fail
        refine (C2.out w1 hb1).mono ?_
        rintro e2 w2 ⟨rfl, rfl⟩
        clear x0 x1 x2 x3 x4 x5 CW
        obtain ⟨z0, z1, z2, z3, z4, z5⟩ := HBx1.out.get
        have f0 := World.rowIs.frozen HBx1.out 0
        have f1 := World.rowIs.frozen HBx1.out 1
        have f2 := World.rowIs.frozen HBx1.out 2
        have f3 := World.rowIs.frozen HBx1.out 3
        have f4 := World.rowIs.frozen HBx1.out 4
        have f5 := World.rowIs.frozen HBx1.out 5
        go_wp2_with fail
        refine bodyPost_ret (v := .tuple #[.agg #[.int .i64 0, .slice none 0 0, .slice none 0 0, .int .i64 0, .slice none 0 0, .slice none 0 0], .bool false]) (by simp [results, Try.results33, go_sem, z0, z1, z2, z3, z4, z5]) rfl ⟨_, rfl, BigR.zero, sets6_below hb1 (by omega) _ _ _ _ _ _⟩
end Go.Proofs.Ytmcdbhlpmlcjpaa.ops
