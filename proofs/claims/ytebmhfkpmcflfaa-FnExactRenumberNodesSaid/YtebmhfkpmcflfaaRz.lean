/- RenumberNodes: what it makes; spec.RenumberNodes. -/
import Derived.Test.YtebmhfkpmcflfaaQg
import Derived.Test.YtebmhfkpmcflfaaGv
import Derived.Test.YtebmhfkpmcflfaaTm
namespace Go.Proofs.Ytebmhfkpmcflfaa.rz
open kit bg sg opn strs only hb sig isig un over gn nm inn ht gd im pt marks eqs hc hi hw hn rs br bm bw cf lf ib isa lawb lw cl rt chd pts psp idl has pm sb wb mb rl ed rnp lep rnm tp rn gv tm
open Go.RowKit
set_option linter.unusedVariables false
noncomputable def rzP (cs : List Ctl) (b : Big) (ts es : List Int) : Bool := bigB cs b && eachB ts b.nodes.length && eachB es b.edges.toNat
noncomputable def rzQ (cs : List Ctl) (b : Big) (ts es : List Int) : Bool := rzP cs b ts es && bigB cs (rnB b ts es)
noncomputable def rzR (cs : List Ctl) (b : Big) (ts es : List Int) : Big := if rzP cs b ts es = true then giveR cs (rnB b ts es) else zeroBig
section
variable {cs : List Ctl} {b : Big} {ts es : List Int}
theorem rz_no (h : rzP cs b ts es = false) : rzQ cs b ts es = false ∧ rzR cs b ts es = zeroBig := by
  unfold rzQ rzR
  rw [h]
  exact ⟨rfl, if_neg (by decide)⟩
theorem rz_yes (h : rzP cs b ts es = true) : rzQ cs b ts es = bigB cs (rnB b ts es) ∧ rzR cs b ts es = giveR cs (rnB b ts es) := by
  unfold rzQ rzR
  rw [h]
  exact ⟨rfl, if_pos rfl⟩
theorem rz_len (cs : List Ctl) (b : Big) (ts es : List Int) : bigMk (rzR cs b ts es) ≤ 1048576 := by
  unfold rzR
  split
  · exact give_len (fun h => big_mk h)
  · exact zero_len
theorem get_in {ts : List Int} {n : Nat} (hT : EachP ts n) (hn : n ≤ 100) (k : Nat) : -1000 ≤ (ts[k]?).getD 0 ∧ (ts[k]?).getD 0 ≤ 1000 := by
  cases hk : ts[k]? with
  | none => exact ⟨by decide, by decide⟩
  | some z =>
    have := each_in hT hk
    show -1000 ≤ z ∧ z ≤ 1000
    omega
theorem mvP_in {n : Nat} {p : Int} (hT : EachP ts n) (hn : n ≤ 100) (hp : -1000 ≤ p ∧ p ≤ 1000) : -1000 ≤ mvP ts p ∧ mvP ts p ≤ 1000 := by
  unfold mvP
  split
  · exact hp
  · exact get_in hT hn _
theorem tieF_in {n : Nat} {E p : Int} (hT : EachP es n) (hn : n ≤ 100) (hp : -1000 ≤ p ∧ p ≤ 1000) : -1000 ≤ tieF E es p ∧ tieF E es p ≤ 1000 := by
  unfold tieF
  split
  · exact hp
  · exact get_in hT hn _
theorem rn_tame (hb : Tame b) (hn : b.nodes.length ≤ 8) (hT : EachP ts b.nodes.length) {E : Nat} (hE : EachP es E) (hEn : E ≤ 100) : Tame (rnB b ts es) where
  r := hb.r
  e := hb.e
  n := by show ((List.range b.nodes.length).map (rnAt b ts es)).length ≤ 1000; rw [List.length_map, List.length_range]; omega
  nd := by
    intro x hx
    obtain ⟨j, -, rfl⟩ := List.mem_map.1 hx
    unfold rnAt
    split
    · next y hy =>
      obtain ⟨h1, h2, h3, h4⟩ := hb.nd y (List.mem_of_getElem? hy)
      refine ⟨h1, mvP_in hT (by omega) h2, by show (y.links.map _).length ≤ 1000; rw [List.length_map]; exact h3, fun l hl => ?_⟩
      obtain ⟨l0, hl0, rfl⟩ := List.mem_map.1 hl
      exact tieF_in hE hEn (h4 l0 hl0)
    · exact ⟨by decide, by decide, by decide, fun l hl => by cases hl⟩
  s := by show (b.sites.map _).length ≤ 1000; rw [List.length_map]; exact hb.s
  st := by
    intro z hz
    obtain ⟨y, hy, rfl⟩ := List.mem_map.1 hz
    exact mvP_in hT (by omega) (hb.st y hy)
  o := hb.o
  on := hb.on
  i := by show (b.inner.map _).length ≤ 1000; rw [List.length_map]; exact hb.i
  iw := by
    intro x hx
    obtain ⟨y, hy, rfl⟩ := List.mem_map.1 hx
    have h := hb.iw y hy
    exact ⟨h.1, tieF_in hE hEn h.2⟩
end
set_option maxRecDepth 20000 in
set_option maxHeartbeats 6400000 in
theorem sRz_any (A : Option Addr) (n c : Nat) (cs : List Ctl) (v : Value) (b : Big) (At : Option Addr) (nt ct : Nat) (ts : List Int) (Ae : Option Addr) (ne ce : Nat) (es : List Int) (w : World) (hC : CtlsAt w w.heap.size A n cs) (hn : n ≤ 1048576) (hs : ∀ c ∈ cs, c.name.size ≤ 1048576) (hv : BigAt w w.heap.size v b) (hS : BigS b) (hw : BigW b) (hN : NilV v) (ht : IntsAt w w.heap.size At nt ts) (hnt : nt ≤ 1048576) (hwt : ∀ z ∈ ts, (Lit.int .i64 z).wf = true) (h0t : At = none → ct = 0) (he : IntsAt w w.heap.size Ae ne es) (hne : ne ≤ 1048576) (hwe : ∀ z ∈ es, (Lit.int .i64 z).wf = true) (h0e : Ae = none → ce = 0) :
    Calls Try.prog 18 #[.slice A n c, v, .slice At nt ct, .slice Ae ne ce] w (BigPost (rzQ cs b ts es) (rzR cs b ts es) w) := by
  have hNb := hN
  obtain ⟨A1, n1, c1, A2, n2, c2, A4, n4, c4, A5, n5, c5, rfl, h1, h2, h4, h5⟩ := hv
  have hnil := hN.get
  have hbx := (Below.refl w.heap.size w).alloc (Nat.le_refl _) (.cells #[.int .i64 b.roots, .slice A1 n1 c1, .slice A2 n2 c2, .int .i64 b.edges, .slice A4 n4 c4, .slice A5 n5 c5] 34)
  have HBoxI : Hid (BoxAt (w.alloc (.cells #[.int .i64 b.roots, .slice A1 n1 c1, .slice A2 n2 c2, .int .i64 b.edges, .slice A4 n4 c4, .slice A5 n5 c5] 34)) w.heap.size 34 (.int .i64 b.roots) (.slice A1 n1 c1) (.slice A2 n2 c2) (.int .i64 b.edges) (.slice A4 n4 c4) (.slice A5 n5 c5)) := Lib.hid (six_new w _ _ _ _ _ _ _)
  obtain ⟨W0, hW0⟩ : ∃ W, w.alloc (.cells #[.int .i64 b.roots, .slice A1 n1 c1, .slice A2 n2 c2, .int .i64 b.edges, .slice A4 n4 c4, .slice A5 n5 c5] 34) = W := ⟨_, rfl⟩
  have hWz0 : W0.heap.size = w.heap.size + 1 := by rw [← hW0]; simp
  rw [hW0] at hbx HBoxI
  have hb0 := (Below.refl W0.heap.size W0).alloc (Nat.le_refl _) (.cells #[.int .i64 0, .slice none 0 0, .slice none 0 0, .int .i64 0, .slice none 0 0, .slice none 0 0] 34)
  have HBx0 : Hid (BoxAt (W0.alloc (.cells #[.int .i64 0, .slice none 0 0, .slice none 0 0, .int .i64 0, .slice none 0 0, .slice none 0 0] 34)) W0.heap.size 34 (.int .i64 0) (.slice none 0 0) (.slice none 0 0) (.int .i64 0) (.slice none 0 0) (.slice none 0 0)) := Lib.hid (six_new W0 _ _ _ _ _ _ _)
  have HBox := Lib.hid (HBoxI.out.on hb0)
  obtain ⟨W, hW⟩ : ∃ W, W0.alloc (.cells #[.int .i64 0, .slice none 0 0, .slice none 0 0, .int .i64 0, .slice none 0 0, .slice none 0 0] 34) = W := ⟨_, rfl⟩
  have hWz : W.heap.size = w.heap.size + 1 + 1 := by rw [← hW]; simp; exact hWz0
  rw [hW] at hb0 HBx0 HBox
  rw [hWz0] at HBx0
  have HWq0 := Lib.hid hW0
  have HWq := Lib.hid hW
  have HB0 := Lib.hid (hbx.trans (hb0.mono hbx.size))
  have HWz := Lib.hid hWz
  have hVW : BigAt W W.heap.size (.agg #[.int .i64 b.roots, .slice A1 n1 c1, .slice A2 n2 c2, .int .i64 b.edges, .slice A4 n4 c4, .slice A5 n5 c5]) b := BigAt.wide (BigAt.below ⟨_, _, _, _, _, _, _, _, _, _, _, _, rfl, h1, h2, h4, h5⟩ HB0.out) HB0.out.size
  clear hW0 hW hb0 hWz hWz0 hbx HBoxI hN
  have C := l2Good_any A n c cs _ b W ((hC.below HB0.out).wide HB0.out.size) hVW hn hs hS hw
  have hsW : w.heap.size + 1 + 1 ≤ W.heap.size := by rw [HWz.out]; exact Nat.le_refl _
  obtain ⟨x0, x1, x2, x3, x4, x5⟩ := HBox.out.get
  clear hVW
  cases hq : bigB cs b with
  | false =>
    rw [hq] at C
    have HR := Lib.hid (rz_no (cs := cs) (b := b) (ts := ts) (es := es) (by unfold rzP; rw [hq]; rfl))
    rw [HR.out.1, HR.out.2]
    clear hq hs
    go_enter Try.func18, Try.ntmps18
    go_wp2_with fail
    rw [HWq0.out, HWq.out]
    go_wp2_with fail
    refine C.mono ?_
    rintro e w1 ⟨rfl, hb⟩
    have hb1 := HB0.out.trans (hb.mono HB0.out.size)
    have HBx1 := Lib.hid (HBx0.out.on hb)
    clear hb C x0 x1 x2 x3 x4 x5
    obtain ⟨z0, z1, z2, z3, z4, z5⟩ := HBx1.out.get
    have f0 := World.rowIs.frozen HBx1.out 0
    have f1 := World.rowIs.frozen HBx1.out 1
    have f2 := World.rowIs.frozen HBx1.out 2
    have f3 := World.rowIs.frozen HBx1.out 3
    have f4 := World.rowIs.frozen HBx1.out 4
    have f5 := World.rowIs.frozen HBx1.out 5
    go_wp2_with fail
    refine bodyPost_ret (v := .tuple #[.agg #[.int .i64 0, .slice none 0 0, .slice none 0 0, .int .i64 0, .slice none 0 0, .slice none 0 0], .bool false]) (by simp [results, Try.results18, go_sem, z0, z1, z2, z3, z4, z5]) rfl ⟨_, rfl, BigR.zero, sets6_below hb1 (by omega) _ _ _ _ _ _⟩
  | true =>
    rw [hq] at C
    have hz := sizes_of (big_of hq).2.1
    have hE0 : b.edges = ((b.edges.toNat : Nat) : Int) := by omega
    have l1 : b.nodes.length = n1 := h1.1
    have HT := Lib.hid (fun (Y : World) (hY : Below w.heap.size w Y) => l2Each_any At nt ct ts n1 Y _ (ht.below hY) hnt (by omega))
    have HE := Lib.hid (fun (Y : World) (hY : Below w.heap.size w Y) => l2Each_any Ae ne ce es b.edges.toNat Y _ (he.below hY) hne (by omega))
    rw [← hE0] at HE
    cases hq2 : eachB ts n1 with
    | false =>
      rw [hq2] at HT
      have HR := Lib.hid (rz_no (cs := cs) (b := b) (ts := ts) (es := es) (by unfold rzP; rw [hq, l1, hq2]; rfl))
      rw [HR.out.1, HR.out.2]
      clear hq hq2 hs hz hE0 HE hwt hwe
      go_enter Try.func18, Try.ntmps18
      go_wp2_with fail
      rw [HWq0.out, HWq.out]
      go_wp2_with fail
      refine C.mono ?_
      rintro e w1 ⟨rfl, hb⟩
      have hb1 := HB0.out.trans (hb.mono HB0.out.size)
      have HBx1 := Lib.hid (HBx0.out.on hb)
      have HBox1 := Lib.hid (HBox.out.on hb)
      have C2 := HT.out w1 hb1
      clear hb C x0 x1 x2 x3 x4 x5
      obtain ⟨x0, x1, x2, x3, x4, x5⟩ := HBox1.out.get
      go_wp2_with fail
      refine C2.mono ?_
      rintro e w2 ⟨rfl, rfl⟩
      clear x0 x1 x2 x3 x4 x5 C2
      obtain ⟨z0, z1, z2, z3, z4, z5⟩ := HBx1.out.get
      have f0 := World.rowIs.frozen HBx1.out 0
      have f1 := World.rowIs.frozen HBx1.out 1
      have f2 := World.rowIs.frozen HBx1.out 2
      have f3 := World.rowIs.frozen HBx1.out 3
      have f4 := World.rowIs.frozen HBx1.out 4
      have f5 := World.rowIs.frozen HBx1.out 5
      go_wp2_with fail
      refine bodyPost_ret (v := .tuple #[.agg #[.int .i64 0, .slice none 0 0, .slice none 0 0, .int .i64 0, .slice none 0 0, .slice none 0 0], .bool false]) (by simp [results, Try.results18, go_sem, z0, z1, z2, z3, z4, z5]) rfl ⟨_, rfl, BigR.zero, sets6_below hb1 (by omega) _ _ _ _ _ _⟩
    | true =>
      rw [hq2] at HT
      cases hq3 : eachB es b.edges.toNat with
      | false =>
        rw [hq3] at HE
        have HR := Lib.hid (rz_no (cs := cs) (b := b) (ts := ts) (es := es) (by unfold rzP; rw [hq, l1, hq2, hq3]; rfl))
        rw [HR.out.1, HR.out.2]
        clear hq hq2 hq3 hs hz hE0 hwt hwe
        go_enter Try.func18, Try.ntmps18
        go_wp2_with fail
        rw [HWq0.out, HWq.out]
        go_wp2_with fail
        refine C.mono ?_
        rintro e w1 ⟨rfl, hb⟩
        have hb1 := HB0.out.trans (hb.mono HB0.out.size)
        have HBx1 := Lib.hid (HBx0.out.on hb)
        have HBox1 := Lib.hid (HBox.out.on hb)
        have C2 := HT.out w1 hb1
        have C3 := HE.out w1 hb1
        clear hb C x0 x1 x2 x3 x4 x5
        obtain ⟨x0, x1, x2, x3, x4, x5⟩ := HBox1.out.get
        go_wp2_with fail
        refine C2.mono ?_
        rintro e w2 ⟨rfl, rfl⟩
        go_wp2_with fail
        refine C3.mono ?_
        rintro e w2 ⟨rfl, rfl⟩
        clear x0 x1 x2 x3 x4 x5 C2 C3
        obtain ⟨z0, z1, z2, z3, z4, z5⟩ := HBx1.out.get
        have f0 := World.rowIs.frozen HBx1.out 0
        have f1 := World.rowIs.frozen HBx1.out 1
        have f2 := World.rowIs.frozen HBx1.out 2
        have f3 := World.rowIs.frozen HBx1.out 3
        have f4 := World.rowIs.frozen HBx1.out 4
        have f5 := World.rowIs.frozen HBx1.out 5
        go_wp2_with fail
        refine bodyPost_ret (v := .tuple #[.agg #[.int .i64 0, .slice none 0 0, .slice none 0 0, .int .i64 0, .slice none 0 0, .slice none 0 0], .bool false]) (by simp [results, Try.results18, go_sem, z0, z1, z2, z3, z4, z5]) rfl ⟨_, rfl, BigR.zero, sets6_below hb1 (by omega) _ _ _ _ _ _⟩
      | true =>
        rw [hq3] at HE
        have hTP : EachP ts b.nodes.length := by rw [l1]; exact each_of hq2
        have hTa := rn_tame (tame_good hq hS) hz.2.2.1 hTP (each_of hq3) (by omega)
        have HR := Lib.hid (rz_yes (cs := cs) (b := b) (ts := ts) (es := es) (by unfold rzP; rw [hq, l1, hq2, hq3]; rfl))
        have HGv := Lib.hid (fun (v2 : Value) (Y : World) (hY : Below w.heap.size w Y) (hr : BigR Y w.heap.size Y.heap.size v2 (rnB b ts es)) => give_any A n c cs v2 (rnB b ts es) w Y hC hY hn hs hr hTa.S hTa.W)
        have HRn := Lib.hid (fun (Y : World) (hY : Below w.heap.size w Y) => rn_any (.agg #[.int .i64 b.roots, .slice A1 n1 c1, .slice A2 n2 c2, .int .i64 b.edges, .slice A4 n4 c4, .slice A5 n5 c5]) cs b At nt ct ts Ae ne ce es Y (BigAt.wide (BigAt.below ⟨_, _, _, _, _, _, _, _, _, _, _, _, rfl, h1, h2, h4, h5⟩ hY) hY.size) hNb hq ((ht.below hY).wide hY.size) ((he.below hY).wide hY.size) hTP (by have := (each_of hq3).2; have := he.len; omega))
        obtain ⟨Lb, hLb⟩ : ∃ Lb, giveR cs (rnB b ts es) = Lb := ⟨_, rfl⟩
        obtain ⟨q4, hq4⟩ : ∃ q4, bigB cs (rnB b ts es) = q4 := ⟨_, rfl⟩
        rw [HR.out.1, HR.out.2, hLb, hq4]
        rw [hLb, hq4] at HGv
        clear hLb hq4
        clear hq hq2 hq3 hs hz hE0 hwt hwe hTa hTP hC hn hS hw hNb hnil h1 h2 h4 h5
        go_enter Try.func18, Try.ntmps18
        go_wp2_with fail
        rw [HWq0.out, HWq.out]
        go_wp2_with fail
        refine C.mono ?_
        rintro e w1 ⟨rfl, hb⟩
        have HB1 := Lib.hid (HB0.out.trans (hb.mono HB0.out.size))
        have HBx1 := Lib.hid (HBx0.out.on hb)
        have HBox1 := Lib.hid (HBox.out.on hb)
        have C2 := HT.out w1 HB1.out
        have C3 := HE.out w1 HB1.out
        have HC := Lib.hid (HRn.out w1 HB1.out)
        clear hb C x0 x1 x2 x3 x4 x5
        obtain ⟨x0, x1, x2, x3, x4, x5⟩ := HBox1.out.get
        go_wp2_with fail
        refine C2.mono ?_
        rintro e w2 ⟨rfl, rfl⟩
        go_wp2_with fail
        refine C3.mono ?_
        rintro e w2 ⟨rfl, rfl⟩
        clear C2 C3
        go_wp2_with fail
        refine HC.out.mono ?_
        rintro e w3 ⟨v3, rfl, hr, hb⟩
        have HB3 := Lib.hid (HB1.out.trans (hb.mono HB1.out.size))
        have HG := Lib.hid (HGv.out v3 w3 HB3.out (hr.wide HB1.out.size (Nat.le_refl _)))
        have HBx3 := Lib.hid (HBx1.out.on hb)
        clear hr hb x0 x1 x2 x3 x4 x5
        go_wp2_with fail
        refine HG.out.mono ?_
        rintro e w4 ⟨v4, rfl, hr, hb⟩
        obtain ⟨D1, g1, D2, g2, D4, g4, D5, g5, rfl⟩ := hr.shape
        have HB4 := Lib.hid (HB3.out.trans (hb.mono HB3.out.size))
        have HRZ := Lib.hid hr
        have HBxY := Lib.hid (HBx3.out.on hb)
        clear hr hb
        obtain ⟨z0, z1, z2, z3, z4, z5⟩ := HBxY.out.get
        have f0 := World.rowIs.frozen HBxY.out 0
        have f1 := World.rowIs.frozen HBxY.out 1
        have f2 := World.rowIs.frozen HBxY.out 2
        have f3 := World.rowIs.frozen HBxY.out 3
        have f4 := World.rowIs.frozen HBxY.out 4
        have f5 := World.rowIs.frozen HBxY.out 5
        go_wp2_with fail
        have hbig := (sets6_big HBxY.out HRZ.out (.int .i64 Lb.roots) (.slice D1 Lb.nodes.length g1) (.slice D2 Lb.sites.length g2) (.int .i64 Lb.edges) (.slice D4 Lb.outer.length g4) (.slice D5 Lb.inner.length g5)).here
        have hbel := sets6_below HB4.out (Nat.le_succ _) (.int .i64 Lb.roots) (.slice D1 Lb.nodes.length g1) (.slice D2 Lb.sites.length g2) (.int .i64 Lb.edges) (.slice D4 Lb.outer.length g4) (.slice D5 Lb.inner.length g5)
        unfold sets6 at hbig hbel
        refine bodyPost_ret (v := .tuple #[.agg #[.int .i64 Lb.roots, .slice D1 Lb.nodes.length g1, .slice D2 Lb.sites.length g2, .int .i64 Lb.edges, .slice D4 Lb.outer.length g4, .slice D5 Lb.inner.length g5], .bool q4]) (by simp [results, Try.results18, go_sem, z0, z1, z2, z3, z4, z5]) rfl ⟨_, rfl, hbig, hbel⟩
end Go.Proofs.Ytebmhfkpmcflfaa.rz
