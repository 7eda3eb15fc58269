/- spec.AddName. -/
import Derived.Test.YtfjgapkjpmkplaaGreatAd
import Derived.Test.YtfjgapkjpmkplaaGreatSo
namespace Go.Proofs.YtfjgapkjpmkplaaGreat.ads
open kit bg sg opn strs only hb sig isig un over gn nm inn ht gd im pt marks eqs hc hi hw hn rs br bm bw cf lf ib isa lawb lw cl rt ix tg rl ed tp rtg nl lo jo co gv tm ek wk rk rn rnm tp mb sb wb nd sd ad
open Go.RowKit
set_option linter.unusedVariables false
set_option linter.unusedSimpArgs false
/-- a row appended, with memory or without -/
theorem wpList_append_sr {P : Program} (w : World) {ops : Array Oper} {rest : List Oper} {o : Oper} {a : Act} {Q : Exit → Act → World → Prop} (hgd : o.guard = none) (s x : Operand) (t : TypeId)
    (ho : o.op = .call { callee := .builtin .append, args := #[s, x], argTypes := #[t, t] })
    (base : Nat) (e : TypeId) (i : TypeInfo) (z : Value) (bytes : Nat) (ht : P.underlying t = some (.slice e)) (hi : P.info? e = some i) (hz : i.zero = some z)
    (hsize : i.size = 1) (hby : i.bytes = bytes) (hzs : z.cells.size = 1)
    (v : Value) (n : Nat) (xs : List Value) (hs : a.eval s = v) (hown : w.ownsRow base e 1 v n xs)
    (A : Option Addr) (m c : Nat) (news : List Value) (hx : a.eval x = .slice A m c) (hsr : SR w w.heap.size A m news) (h0 : A = none → c = 0) (h1 : ∀ u ∈ news, u.oneCell' = true)
    (h63 : n + m ≤ maxLen) (hbytes : (n + m) * bytes ≤ 140737488355328) (hbase : base ≤ w.heap.size) (w0 : World) (hB : Below base w0 w)
    (h : ∀ v' w', w'.ownsRow base e 1 v' (n + m) (xs ++ news) → Below base w0 w' → w.heap.size ≤ w'.heap.size → wpList P ops Q rest (a.put o.dst v') w') : wpList P ops Q (o :: rest) a w := by
  cases A with
  | none =>
    obtain rfl : c = 0 := h0 rfl
    obtain rfl : m = 0 := by
      by_cases e : m = 0
      · exact e
      · obtain ⟨b2, off2, e2, _⟩ := hsr.2 (by omega)
        cases e2
    have hx0 : news = [] := List.length_eq_zero_iff.1 hsr.1
    subst hx0
    refine wpList_append_own_none hgd s x t ho base e i 1 ht hi v n xs hs hown hx ?_
    exact h v w (by rw [List.append_nil]; exact hown) hB (Nat.le_refl _)
  | some A =>
    refine wpList_append_own w hgd s x t ho base e i z 1 bytes ht hi hz hsize hby hzs (by decide) v n xs hs hown A m c news hx (by rw [hsr.1, Nat.mul_one]) (sr_cells hsr) h1 h63 hbytes hbase (fun v' w' o' g' n' => ?_)
    exact h v' w' o' (hB.grown g' hbase (fun j hj => (hown.lt j hj).1)) g'.size
theorem rowR_nil0 {w : World} {lo hi n c sz : Nat} {t : TypeId} {A : Option Addr} {M : Nat → Value} (h : RowR w lo hi t sz A n c M) : A = none → c = 0 := fun e => by
  rcases h with ⟨-, h, -⟩ | ⟨g, f, h, -⟩
  · exact h
  · rw [e] at h
    cases h
theorem ap_one {xs : List ByteArray} {s : ByteArray} (h : s ∉ xs) : apB xs [s] = true := ap_of (fun x hx h1 => h (by rw [← List.mem_singleton.1 h1]; exact hx))
theorem ap_has {xs : List ByteArray} {s : ByteArray} (h : s ∈ xs) : apB xs [s] = false := ap_not h (List.mem_singleton.2 rfl)
theorem adO_len (b : Big) (s : ByteArray) : (adO b s).length ≤ b.outer.length + 1 := by
  have := su.sortU_len (b.outer ++ [s])
  rw [List.length_append] at this
  exact this
set_option maxRecDepth 20000 in
set_option maxHeartbeats 6400000 in
theorem sAd_any (A : Option Addr) (n c : Nat) (cs : List Ctl) (v : Value) (b : Big) (s : ByteArray) (w : World) (hC : CtlsAt w w.heap.size A n cs) (hn : n ≤ 1048576) (hs : ∀ c ∈ cs, c.name.size ≤ 1048576) (hv : BigAt w w.heap.size v b) (hS : BigS b) (hw : BigW b) (hN : NilV v) (hfs : s.size ≤ 1048576) :
    Calls Tryz.prog 50 #[.slice A n c, v, .string s] w (BigPost (adQ cs b s) (adR cs b s) w) := by
  have hNb := hN
  obtain ⟨A1, n1, c1, A2, n2, c2, A4, n4, c4, A5, n5, c5, rfl, h1, h2, h4, h5⟩ := hv
  have hnil := hN.get
  have hbx := (Below.refl w.heap.size w).alloc (Nat.le_refl _) (.cells #[.int .i64 b.roots, .slice A1 n1 c1, .slice A2 n2 c2, .int .i64 b.edges, .slice A4 n4 c4, .slice A5 n5 c5] 36)
  have HBoxI : Hid (BoxAt (w.alloc (.cells #[.int .i64 b.roots, .slice A1 n1 c1, .slice A2 n2 c2, .int .i64 b.edges, .slice A4 n4 c4, .slice A5 n5 c5] 36)) w.heap.size 36 (.int .i64 b.roots) (.slice A1 n1 c1) (.slice A2 n2 c2) (.int .i64 b.edges) (.slice A4 n4 c4) (.slice A5 n5 c5)) := Lib.hid (six_new w _ _ _ _ _ _ _)
  obtain ⟨W0, hW0⟩ : ∃ W, w.alloc (.cells #[.int .i64 b.roots, .slice A1 n1 c1, .slice A2 n2 c2, .int .i64 b.edges, .slice A4 n4 c4, .slice A5 n5 c5] 36) = W := ⟨_, rfl⟩
  have hWz0 : W0.heap.size = w.heap.size + 1 := by rw [← hW0]; simp
  rw [hW0] at hbx HBoxI
  have hb0 := (Below.refl W0.heap.size W0).alloc (Nat.le_refl _) (.cells #[.int .i64 0, .slice none 0 0, .slice none 0 0, .int .i64 0, .slice none 0 0, .slice none 0 0] 36)
  have HBx0 : Hid (BoxAt (W0.alloc (.cells #[.int .i64 0, .slice none 0 0, .slice none 0 0, .int .i64 0, .slice none 0 0, .slice none 0 0] 36)) W0.heap.size 36 (.int .i64 0) (.slice none 0 0) (.slice none 0 0) (.int .i64 0) (.slice none 0 0) (.slice none 0 0)) := Lib.hid (six_new W0 _ _ _ _ _ _ _)
  have HBox := Lib.hid (HBoxI.out.on hb0)
  obtain ⟨W, hW⟩ : ∃ W, W0.alloc (.cells #[.int .i64 0, .slice none 0 0, .slice none 0 0, .int .i64 0, .slice none 0 0, .slice none 0 0] 36) = W := ⟨_, rfl⟩
  have hWz : W.heap.size = w.heap.size + 1 + 1 := by rw [← hW]; simp; exact hWz0
  rw [hW] at hb0 HBx0 HBox
  rw [hWz0] at HBx0
  have HWq0 := Lib.hid hW0
  have HWq := Lib.hid hW
  have HB0 := Lib.hid (hbx.trans (hb0.mono hbx.size))
  have HWz := Lib.hid hWz
  have hVW : BigAt W W.heap.size (.agg #[.int .i64 b.roots, .slice A1 n1 c1, .slice A2 n2 c2, .int .i64 b.edges, .slice A4 n4 c4, .slice A5 n5 c5]) b := BigAt.wide (BigAt.below ⟨_, _, _, _, _, _, _, _, _, _, _, _, rfl, h1, h2, h4, h5⟩ HB0.out) HB0.out.size
  clear hW0 hW hb0 hWz hWz0 hbx HBoxI hN
  have C := l2Good_any A n c cs _ b W ((hC.below HB0.out).wide HB0.out.size) hVW hn hs hS hw
  have hsW : w.heap.size + 1 + 1 ≤ W.heap.size := by rw [HWz.out]; exact Nat.le_refl _
  have h4n : n4 ≤ 1048576 := by have := hS.2.2.2.1; rw [h4.strlen] at this; exact this
  have C2 := Lib.hid (fun (Y : World) (hY : Below w.heap.size w Y) => l2At_any A4 n4 c4 b.outer s Y _ (h4.below hY) h4n)
  obtain ⟨x0, x1, x2, x3, x4, x5⟩ := HBox.out.get
  clear hVW
  cases hq : bigB cs b with
  | false =>
    rw [hq] at C
    have HR := Lib.hid (ad_no (cs := cs) (b := b) (s := s) (by unfold adP; rw [hq]; rfl))
    rw [HR.out.1, HR.out.2]
    clear hq hs
    go_enter Tryz.func50, Tryz.ntmps50
    go_wp2_with fail
    rw [HWq0.out, HWq.out]
    go_wp2_with fail
    refine C.mono ?_
    rintro e1 w1 ⟨rfl, hb⟩
    have hb1 := HB0.out.trans (hb.mono HB0.out.size)
    have HBx1 := Lib.hid (HBx0.out.on hb)
    have HBox1 := Lib.hid (HBox.out.on hb)
    have hsz1 : w.heap.size + 1 + 1 ≤ w1.heap.size := Nat.le_trans hsW hb.size
    clear hb C x0 x1 x2 x3 x4 x5
    obtain ⟨z0, z1, z2, z3, z4, z5⟩ := HBx1.out.get
    have f0 := World.rowIs.frozen HBx1.out 0
    have f1 := World.rowIs.frozen HBx1.out 1
    have f2 := World.rowIs.frozen HBx1.out 2
    have f3 := World.rowIs.frozen HBx1.out 3
    have f4 := World.rowIs.frozen HBx1.out 4
    have f5 := World.rowIs.frozen HBx1.out 5
    go_wp2_with fail
    refine bodyPost_ret (v := .tuple #[.agg #[.int .i64 0, .slice none 0 0, .slice none 0 0, .int .i64 0, .slice none 0 0, .slice none 0 0], .bool false]) (by simp [results, Tryz.results50, go_sem, z0, z1, z2, z3, z4, z5]) rfl ⟨_, rfl, BigR.zero, sets6_below hb1 (by omega) _ _ _ _ _ _⟩
  | true =>
    rw [hq] at C
    rcases ixF_cases b.outer s with ⟨hix, hno⟩ | ⟨j, hix, hjs, -⟩
    · rw [hix] at C2
      have HR := Lib.hid (ad_yes (cs := cs) (b := b) (s := s) (by unfold adP; rw [hq, ap_one hno]; rfl))
      have hz := sizes_of (big_of hq).2.1
      have hTa := ad_tame hq hS hfs
      have hn16 : n4 ≤ 16 := by have := h4.strlen; omega
      have HSo : Hid (∀ (A' : Option Addr) (c' : Nat) (Y : World), SR Y Y.heap.size A' (n4 + 1) ((b.outer ++ [s]).map Value.string) → Calls Tryz.prog 120 #[.slice A' (n4 + 1) c'] Y fun e w' => ∃ A'' c'', e = .returned (.slice A'' (adO b s).length c'') ∧ RowR w' Y.heap.size w'.heap.size 9 1 A'' (adO b s).length c'' (at_ (adO b s)) ∧ Below Y.heap.size Y w') := Lib.hid (fun A' c' Y h => so.l2Sorted_any A' (n4 + 1) c' (b.outer ++ [s]) Y h (by omega))
      have HOl : Hid ((adO b s).length ≤ 17) := Lib.hid (by have := adO_len b s; omega)
      have HOu := Lib.hid (fun (Ao : Option Addr) (co : Nat) (Y : World) (hY : Below w.heap.size w Y) (hou : SR Y Y.heap.size Ao (adO b s).length ((adO b s).map Value.string)) (h0o : Ao = none → co = 0) =>
        ou_any (.agg #[.int .i64 b.roots, .slice A1 n1 c1, .slice A2 n2 c2, .int .i64 b.edges, .slice A4 n4 c4, .slice A5 n5 c5]) cs b A4 n4 c4 b.outer Ao (adO b s).length co (adO b s) Y (BigAt.wide (BigAt.below ⟨_, _, _, _, _, _, _, _, _, _, _, _, rfl, h1, h2, h4, h5⟩ hY) hY.size) hNb hq ((h4.below hY).wide hY.size) rfl hou (by have := HOl.out; omega) h0o)
      have HGv := Lib.hid (fun (v2 : Value) (Y : World) (hY : Below w.heap.size w Y) (hr : BigR Y w.heap.size Y.heap.size v2 (adB b s)) => give_any A n c cs v2 (adB b s) w Y hC hY hn hs hr hTa.S hTa.W)
      rw [show ouB b b.outer (adO b s) = adB b s from rfl] at HOu
      obtain ⟨Mb, hMb⟩ : ∃ Mb, adB b s = Mb := ⟨_, rfl⟩
      rw [hMb] at HOu HGv HR
      obtain ⟨Lb, hLb⟩ : ∃ Lb, giveR cs Mb = Lb := ⟨_, rfl⟩
      obtain ⟨q4, hq4⟩ : ∃ q4, bigB cs Mb = q4 := ⟨_, rfl⟩
      rw [HR.out.1, HR.out.2, hLb, hq4]
      rw [hLb, hq4] at HGv
      obtain ⟨OU, hOU⟩ : ∃ OU, adO b s = OU := ⟨_, rfl⟩
      rw [hOU] at HSo HOl HOu
      obtain ⟨i0, hi0, hz0, hz1, hz2⟩ := info_parts str_info
      have HI := Lib.hid (And.intro hi0 (And.intro hz0 (And.intro hz1 hz2)))
      have HO := Lib.hid h4
      have hnl4 := hnil.2.2.1
      clear hLb hq4 HR hTa hz hi0 hz0 hz1 hz2 hq hs hS hw hNb hnil h1 h2 h4 h5 hC hix hno hMb hOU
      go_enter Tryz.func50, Tryz.ntmps50
      go_wp2_with fail
      rw [HWq0.out, HWq.out]
      go_wp2_with fail
      refine C.mono ?_
      rintro e1 w1 ⟨rfl, hb⟩
      have hb1 := HB0.out.trans (hb.mono HB0.out.size)
      have HBx1 := Lib.hid (HBx0.out.on hb)
      have HBox1 := Lib.hid (HBox.out.on hb)
      have hsz1 : w.heap.size + 1 + 1 ≤ w1.heap.size := Nat.le_trans hsW hb.size
      clear hb C x0 x1 x2 x3 x4 x5
      obtain ⟨x0, x1, x2, x3, x4, x5⟩ := HBox1.out.get
      go_wp2_with fail
      refine (C2.out w1 hb1).mono ?_
      rintro e2 w2 ⟨rfl, rfl⟩
      have hb10 := hb1.alloc hb1.size (.cells #[] 9)
      have hnl := ownsRow_nil_new w1 9 1 w1.heap.size (Nat.le_refl _)
      have hsr0 := ((HO.out.below hb10).wide hb10.size)
      have hq0 := (Below.refl w1.heap.size w1).alloc (Nat.le_refl _) (.cells #[] 9)
      obtain ⟨y0, y1, y2, y3, y4, y5⟩ := (HBox1.out.on hq0).get
      have hln : (b.outer ++ [s]).length = n4 + 1 := by rw [List.length_append, HO.out.strlen]; rfl
      have HLn := Lib.hid hln
      clear hln
      go_wp2_with (at_builtin; first
        | (refine wpList_append_sr _ rfl _ _ 25 rfl w1.heap.size 9 i0 (.string ⟨#[]⟩) 16 Tryz.underlying25 HI.out.1 HI.out.2.1 HI.out.2.2.1 HI.out.2.2.2 rfl _ _ _ rfl hnl A4 n4 c4 (b.outer.map Value.string) rfl hsr0 hnl4 (so.strs_one _) (by unfold maxLen; omega) (by omega) hq0.size w1 hq0 ?_; intro v1 w4 own1 hbq1 hsq1; have hcc := cell_one_new w4 (.string s) 9; clear hnl hsr0 x0 x1 x2 x3 x4 x5 y0 y1 y2 y3 y4 y5)
        | (refine wpList_append_own _ rfl _ _ 25 rfl w1.heap.size 9 i0 (.string ⟨#[]⟩) 1 16 Tryz.underlying25 HI.out.1 HI.out.2.1 HI.out.2.2.1 HI.out.2.2.2 rfl (by decide) _ _ _ rfl (own1.alloc _) ⟨w4.heap.size, 0, none⟩ 1 1 [.string s] rfl rfl hcc (so.one_one s) (by unfold maxLen; omega) (by omega) (hbq1.alloc hbq1.size (.cells #[.string s] 9)).size ?_; intro v2 w5 own2 grow2 nil2; have hbq2 := (hbq1.alloc hbq1.size (.cells #[.string s] 9)).grown grow2 (hbq1.alloc hbq1.size (.cells #[.string s] 9)).size (fun r e => (own1.lt r e).1); rw [Nat.zero_add, List.nil_append, show b.outer.map Value.string ++ [Value.string s] = (b.outer ++ [s]).map Value.string from by rw [List.map_append]; rfl] at own2; obtain ⟨A', c', rfl, hr2⟩ := wb.strs_owned own2; rw [HLn.out]; have HR2 := Lib.hid (strsR_at (rowR_here hr2)); rw [HLn.out] at HR2; clear own1 own2 grow2 nil2 hcc hr2))

      refine (HSo.out A' c' w5 HR2.out).mono ?_
      rintro e6 w6 ⟨A6, c6, rfl, hr6, hb6⟩
      have HQ6 := Lib.hid (hbq2.trans (hb6.mono hbq2.size))
      have HR6 := Lib.hid hr6
      have HB6 := Lib.hid (hb1.trans (HQ6.out.mono hb1.size))
      have HBox6 := Lib.hid (HBox1.out.on HQ6.out)
      have HBx6 := Lib.hid (HBx1.out.on HQ6.out)
      have C7 := HOu.out A6 c6 w6 HB6.out (strsR_at (rowR_here HR6.out)) (rowR_nil0 HR6.out)
      clear hb6 hr6 hbq2
      obtain ⟨x0, x1, x2, x3, x4, x5⟩ := HBox6.out.get
      go_wp2_with fail
      refine C7.mono ?_
      rintro e7 w7 ⟨v7, rfl, hr7, hb7⟩
      have HB7 := Lib.hid (HB6.out.trans (hb7.mono HB6.out.size))
      have HBx7 := Lib.hid (HBx6.out.on hb7)
      have C8 := HGv.out v7 w7 HB7.out (hr7.wide HB6.out.size (Nat.le_refl _))
      clear hr7 hb7 C7 x0 x1 x2 x3 x4 x5
      go_wp2_with fail
      refine C8.mono ?_
      rintro e8 w8 ⟨v8, rfl, hr8, hb8⟩
      obtain ⟨D1, g1, D2, g2, D4, g4, D5, g5, rfl⟩ := hr8.shape
      have HB8 := Lib.hid (HB7.out.trans (hb8.mono HB7.out.size))
      have HBx8 := Lib.hid (HBx7.out.on hb8)
      have HR8 := Lib.hid hr8
      clear hr8 hb8 C8
      obtain ⟨z0, z1, z2, z3, z4, z5⟩ := HBx8.out.get
      have f0 := World.rowIs.frozen HBx8.out 0
      have f1 := World.rowIs.frozen HBx8.out 1
      have f2 := World.rowIs.frozen HBx8.out 2
      have f3 := World.rowIs.frozen HBx8.out 3
      have f4 := World.rowIs.frozen HBx8.out 4
      have f5 := World.rowIs.frozen HBx8.out 5
      go_wp2_with fail
      have hbig := (sets6_big HBx8.out HR8.out (.int .i64 Lb.roots) (.slice D1 Lb.nodes.length g1) (.slice D2 Lb.sites.length g2) (.int .i64 Lb.edges) (.slice D4 Lb.outer.length g4) (.slice D5 Lb.inner.length g5)).here
      have hbel := sets6_below HB8.out (Nat.le_succ _) (.int .i64 Lb.roots) (.slice D1 Lb.nodes.length g1) (.slice D2 Lb.sites.length g2) (.int .i64 Lb.edges) (.slice D4 Lb.outer.length g4) (.slice D5 Lb.inner.length g5)
      unfold sets6 at hbig hbel
      refine bodyPost_ret (v := .tuple #[.agg #[.int .i64 Lb.roots, .slice D1 Lb.nodes.length g1, .slice D2 Lb.sites.length g2, .int .i64 Lb.edges, .slice D4 Lb.outer.length g4, .slice D5 Lb.inner.length g5], .bool q4]) (by simp [results, Tryz.results50, go_sem, z0, z1, z2, z3, z4, z5]) rfl ⟨_, rfl, hbig, hbel⟩
    · rw [hix] at C2
      have HR := Lib.hid (ad_no (cs := cs) (b := b) (s := s) (by unfold adP; rw [hq, ap_has (List.mem_of_getElem? hjs)]; rfl))
      rw [HR.out.1, HR.out.2]
      clear hq hs hix hjs
      go_enter Tryz.func50, Tryz.ntmps50
      go_wp2_with fail
      rw [HWq0.out, HWq.out]
      go_wp2_with fail
      refine C.mono ?_
      rintro e1 w1 ⟨rfl, hb⟩
      have hb1 := HB0.out.trans (hb.mono HB0.out.size)
      have HBx1 := Lib.hid (HBx0.out.on hb)
      have HBox1 := Lib.hid (HBox.out.on hb)
      have hsz1 : w.heap.size + 1 + 1 ≤ w1.heap.size := Nat.le_trans hsW hb.size
      clear hb C x0 x1 x2 x3 x4 x5
      obtain ⟨x0, x1, x2, x3, x4, x5⟩ := HBox1.out.get
      go_wp2_with fail
      refine (C2.out w1 hb1).mono ?_
      rintro e2 w2 ⟨rfl, rfl⟩
      clear x0 x1 x2 x3 x4 x5
      obtain ⟨z0, z1, z2, z3, z4, z5⟩ := HBx1.out.get
      have f0 := World.rowIs.frozen HBx1.out 0
      have f1 := World.rowIs.frozen HBx1.out 1
      have f2 := World.rowIs.frozen HBx1.out 2
      have f3 := World.rowIs.frozen HBx1.out 3
      have f4 := World.rowIs.frozen HBx1.out 4
      have f5 := World.rowIs.frozen HBx1.out 5
      go_wp2_with fail
      refine bodyPost_ret (v := .tuple #[.agg #[.int .i64 0, .slice none 0 0, .slice none 0 0, .int .i64 0, .slice none 0 0, .slice none 0 0], .bool false]) (by simp [results, Tryz.results50, go_sem, z0, z1, z2, z3, z4, z5]) rfl ⟨_, rfl, BigR.zero, sets6_below hb1 (by omega) _ _ _ _ _ _⟩
end Go.Proofs.YtfjgapkjpmkplaaGreat.ads
