/- AtomOf of spec and impl. -/
import Derived.Test.YtmcdbhlpmlcjpaaAt
namespace Go.Proofs.Ytmcdbhlpmlcjpaa.au
open kit bg sg opn strs only hb sig isig un over gn nm inn ht gd im pt marks eqs hc hi hw hn rs br bm bw cf lf ib lawb lw cl pl mb wb nw cz ix su asc so sx sy sz atm
open Go.RowKit
set_option linter.unusedVariables false
set_option linter.unusedSimpArgs false
noncomputable def atR (cs : List Ctl) (z : Int) (ss : List ByteArray) : Big := if atQ cs z ss = true then atB z ss [] else zeroBig
theorem atR_no {cs : List Ctl} {z : Int} {ss : List ByteArray} (h : atQ cs z ss = false) : atR cs z ss = zeroBig := by unfold atR; rw [h]; rfl
theorem atR_yes {cs : List Ctl} {z : Int} {ss : List ByteArray} (h : atQ cs z ss = true) : atR cs z ss = atB z ss [] := by unfold atR; rw [if_pos h]
theorem at_few {cs : List Ctl} {z : Int} {ss : List ByteArray} (h : atQ cs z ss = true) : ss.length ≤ 3 := by
  unfold atQ at h
  simp only [Bool.and_eq_true] at h
  obtain ⟨⟨⟨h1, h2⟩, h3⟩, -⟩ := h
  have hz := inb_true h2
  obtain ⟨k, rfl⟩ : ∃ k : Nat, z = (k : Int) := ⟨z.toNat, by omega⟩
  have hk : k < cs.length := by omega
  have hx : cs[k]? = some cs[k] := List.getElem?_eq_getElem hk
  have hb := (sig_of h1).1 k _ hx
  rw [ctlAt_of hx] at h3
  unfold ctlB at hb
  simp only [Bool.and_eq_true] at hb
  have := inb_true hb.1.2
  have h4 : (ss.length : Int) = cs[k].ports := eq_of_beq h3
  omega
theorem atB_len (z : Int) {ss : List ByteArray} {st : List Int} (h : ss.length ≤ 3) (h2 : st.length ≤ 4) : bigMk (atB z ss st) ≤ 1048576 := by
  have h3 := sortU_len ss
  have h4 := idx_len (sortU ss) ss
  unfold atB bigMk ndMk
  simp [sumBy, h4]
  omega
theorem at_len (cs : List Ctl) (z : Int) (ss : List ByteArray) : bigMk (atR cs z ss) ≤ 1048576 := by
  cases h : atQ cs z ss with
  | false => rw [atR_no h]; exact zero_len
  | true => rw [atR_yes h]; exact atB_len z (at_few h) (by simp)
set_option maxRecDepth 20000 in
set_option maxHeartbeats 3200000 in
theorem sAt_any (A : Option Addr) (n c : Nat) (cs : List Ctl) (z : Int) (A' : Option Addr) (m c' : Nat) (ss : List ByteArray) (w : World) (hC : CtlsAt w w.heap.size A n cs) (hn : n ≤ 1048576) (hcs : ∀ c ∈ cs, c.name.size ≤ 1048576) (hwz : (Lit.int .i64 z).wf = true) (h : SR w w.heap.size A' m (ss.map Value.string)) (hm : m ≤ 1048576) (hs : ∀ s ∈ ss, s.size ≤ 1048576) (hnil : A' = none → c' = 0) :
    Calls Try.prog 27 #[.slice A n c, .int .i64 z, .slice A' m c'] w (BigPost (atQ cs z ss) (atR cs z ss) w) := by
  have hb0 := (Below.refl w.heap.size w).alloc (Nat.le_refl _) (.cells #[.int .i64 0, .slice none 0 0, .slice none 0 0, .int .i64 0, .slice none 0 0, .slice none 0 0] 28)
  have HBx0 : Hid (BoxAt (w.alloc (.cells #[.int .i64 0, .slice none 0 0, .slice none 0 0, .int .i64 0, .slice none 0 0, .slice none 0 0] 28)) w.heap.size 28 (.int .i64 0) (.slice none 0 0) (.slice none 0 0) (.int .i64 0) (.slice none 0 0) (.slice none 0 0)) := Lib.hid (six_new w _ _ _ _ _ _ _)
  obtain ⟨W, hW⟩ : ∃ W, w.alloc (.cells #[.int .i64 0, .slice none 0 0, .slice none 0 0, .int .i64 0, .slice none 0 0, .slice none 0 0] 28) = W := ⟨_, rfl⟩
  have hWz : W.heap.size = w.heap.size + 1 := by rw [← hW]; simp
  rw [hW] at hb0 HBx0
  have HWq := Lib.hid hW
  have HB0 := Lib.hid hb0
  have HWz := Lib.hid hWz
  clear hW hb0 hWz
  have HL := Lib.hid h.strlen
  have HH := Lib.hid h
  have C1 := l3Ion_any A n c cs z A' m c' ss W ((hC.below HB0.out).wide HB0.out.size) hn hcs ((h.below HB0.out).wide HB0.out.size) hm hs
  clear hC hcs hwz h hs hnil
  cases hq : atQ cs z ss with
  | false =>
    rw [hq] at C1
    have HR := Lib.hid (atR_no hq)
    clear hq
    go_enter Try.func27, Try.ntmps27
    go_wp2_with fail
    rw [HWq.out]
    refine C1.mono ?_
    rintro e w1 ⟨rfl, hb⟩
    have HBx1 := Lib.hid (HBx0.out.on hb)
    have HB1 := Lib.hid (HB0.out.trans (hb.mono HB0.out.size))
    clear C1 hb
    obtain ⟨z0, z1, z2, z3, z4, z5⟩ := HBx1.out.get
    have f0 := World.rowIs.frozen HBx1.out 0
    have f1 := World.rowIs.frozen HBx1.out 1
    have f2 := World.rowIs.frozen HBx1.out 2
    have f3 := World.rowIs.frozen HBx1.out 3
    have f4 := World.rowIs.frozen HBx1.out 4
    have f5 := World.rowIs.frozen HBx1.out 5
    go_wp2_with fail
    refine bodyPost_ret (v := .tuple #[.agg #[.int .i64 0, .slice none 0 0, .slice none 0 0, .int .i64 0, .slice none 0 0, .slice none 0 0], .bool false]) (by simp [results, Try.results27, go_sem, z0, z1, z2, z3, z4, z5]) rfl ⟨_, rfl, by rw [HR.out]; exact BigR.zero, sets6_below HB1.out (Nat.le_refl _) _ _ _ _ _ _⟩
  | true =>
    rw [hq] at C1
    have HR := Lib.hid (atR_yes hq)
    have hfew := at_few hq
    rw [HL.out] at hfew
    clear hq
    go_enter Try.func27, Try.ntmps27
    go_wp2_with fail
    rw [HWq.out]
    refine C1.mono ?_
    rintro e w1 ⟨rfl, hb⟩
    have HBx1 := Lib.hid (HBx0.out.on hb)
    have HB1 := Lib.hid (HB0.out.trans (hb.mono HB0.out.size))
    clear C1 hb
    go_wp2_with fail
    refine (sat_any z A' m c' ss w1 ((HH.out.below HB1.out).wide HB1.out.size) (by omega)).mono ?_
    rintro e w4 ⟨v4, rfl, hr, hb⟩
    obtain ⟨Lb, hLb⟩ : ∃ B, atB z ss [] = B := ⟨_, rfl⟩
    rw [hLb] at hr HR
    clear hLb
    obtain ⟨D1, g1, D2, g2, D4, g4, D5, g5, rfl⟩ := hr.shape
    have HBx4 := Lib.hid (HBx1.out.on hb)
    have HB4 := Lib.hid (HB1.out.trans (hb.mono HB1.out.size))
    have HR4 := Lib.hid (hr.wide (lo' := w.heap.size) HB1.out.size (Nat.le_refl _))
    clear hr hb
    obtain ⟨z0, z1, z2, z3, z4, z5⟩ := HBx4.out.get
    have f0 := World.rowIs.frozen HBx4.out 0
    have f1 := World.rowIs.frozen HBx4.out 1
    have f2 := World.rowIs.frozen HBx4.out 2
    have f3 := World.rowIs.frozen HBx4.out 3
    have f4 := World.rowIs.frozen HBx4.out 4
    have f5 := World.rowIs.frozen HBx4.out 5
    go_wp2_with fail
    have hbig := (sets6_big HBx4.out HR4.out (.int .i64 Lb.roots) (.slice D1 Lb.nodes.length g1) (.slice D2 Lb.sites.length g2) (.int .i64 Lb.edges) (.slice D4 Lb.outer.length g4) (.slice D5 Lb.inner.length g5)).here
    have hbel := sets6_below HB4.out (Nat.le_refl _) (.int .i64 Lb.roots) (.slice D1 Lb.nodes.length g1) (.slice D2 Lb.sites.length g2) (.int .i64 Lb.edges) (.slice D4 Lb.outer.length g4) (.slice D5 Lb.inner.length g5)
    unfold sets6 at hbig hbel
    refine bodyPost_ret (v := .tuple #[.agg #[.int .i64 Lb.roots, .slice D1 Lb.nodes.length g1, .slice D2 Lb.sites.length g2, .int .i64 Lb.edges, .slice D4 Lb.outer.length g4, .slice D5 Lb.inner.length g5], .bool true]) (by simp [results, Try.results27, go_sem, z0, z1, z2, z3, z4, z5]) rfl ⟨_, rfl, by rw [HR.out]; exact hbig, hbel⟩
set_option maxRecDepth 20000 in
set_option maxHeartbeats 6400000 in
theorem iAt_any (A : Option Addr) (n c : Nat) (cs : List Ctl) (z : Int) (A' : Option Addr) (m c' : Nat) (ss : List ByteArray) (w : World) (hC : CtlsAt w w.heap.size A n cs) (hn : n ≤ 1048576) (hcs : ∀ c ∈ cs, c.name.size ≤ 1048576) (hwz : (Lit.int .i64 z).wf = true) (h : SR w w.heap.size A' m (ss.map Value.string)) (hm : m ≤ 1048576) (hs : ∀ s ∈ ss, s.size ≤ 1048576) (hnil : A' = none → c' = 0) :
    Calls Try.prog 28 #[.slice A n c, .int .i64 z, .slice A' m c'] w (BigPost (atQ cs z ss) (atR cs z ss) w) := by
  have hb0 := (Below.refl w.heap.size w).alloc (Nat.le_refl _) (.cells #[.int .i64 0, .slice none 0 0, .slice none 0 0, .int .i64 0, .slice none 0 0, .slice none 0 0] 28)
  have HBx0 : Hid (BoxAt (w.alloc (.cells #[.int .i64 0, .slice none 0 0, .slice none 0 0, .int .i64 0, .slice none 0 0, .slice none 0 0] 28)) w.heap.size 28 (.int .i64 0) (.slice none 0 0) (.slice none 0 0) (.int .i64 0) (.slice none 0 0) (.slice none 0 0)) := Lib.hid (six_new w _ _ _ _ _ _ _)
  obtain ⟨W, hW⟩ : ∃ W, w.alloc (.cells #[.int .i64 0, .slice none 0 0, .slice none 0 0, .int .i64 0, .slice none 0 0, .slice none 0 0] 28) = W := ⟨_, rfl⟩
  have hWz : W.heap.size = w.heap.size + 1 := by rw [← hW]; simp
  rw [hW] at hb0 HBx0
  have HWq := Lib.hid hW
  have HB0 := Lib.hid hb0
  have HWz := Lib.hid hWz
  clear hW hb0 hWz
  have HL := Lib.hid h.strlen
  have HH := Lib.hid h
  have HCl := Lib.hid hC.1
  have HC := Lib.hid hC
  have HS := Lib.hid hs
  have C1 := isSig_any A n c cs W _ ((hC.below HB0.out).wide HB0.out.size) (Nat.le_refl _) hn hcs
  clear hC hcs hwz h hs hnil
  cases h1 : sigB cs with
  | false =>
    rw [h1] at C1
    have hq := at_no1 (z := z) (ss := ss) h1
    have HR := Lib.hid (atR_no hq)
    rw [hq]
    clear h1 hq
    go_enter Try.func28, Try.ntmps28
    go_wp2_with fail
    rw [HWq.out]
    refine C1.mono ?_
    rintro e w1 ⟨rfl, hb⟩
    have HBx1 := Lib.hid (HBx0.out.on hb)
    have HB1 := Lib.hid (HB0.out.trans (hb.mono HB0.out.size))
    clear C1 hb
    obtain ⟨z0, z1, z2, z3, z4, z5⟩ := HBx1.out.get
    have f0 := World.rowIs.frozen HBx1.out 0
    have f1 := World.rowIs.frozen HBx1.out 1
    have f2 := World.rowIs.frozen HBx1.out 2
    have f3 := World.rowIs.frozen HBx1.out 3
    have f4 := World.rowIs.frozen HBx1.out 4
    have f5 := World.rowIs.frozen HBx1.out 5
    go_wp2_with fail
    refine bodyPost_ret (v := .tuple #[.agg #[.int .i64 0, .slice none 0 0, .slice none 0 0, .int .i64 0, .slice none 0 0, .slice none 0 0], .bool false]) (by simp [results, Try.results28, go_sem, z0, z1, z2, z3, z4, z5]) rfl ⟨_, rfl, by rw [HR.out]; exact BigR.zero, sets6_below HB1.out (Nat.le_refl _) _ _ _ _ _ _⟩
  | true =>
    rw [h1] at C1
    have hn1 := inb_true (sig_of h1).2.2
    rw [HCl.out] at hn1
    have hwr : IntKind.i64.wrap ((n : Int) - 1) = (n : Int) - 1 := IntWalk.i64_in _ (by omega)
    have H1 := Lib.hid h1
    clear h1
    have C2 := fun W => win_any z 0 ((n : Int) - 1) W
    cases h2 : inb z 0 ((n : Int) - 1) with
    | false =>
      have hq := at_no2 (cs := cs) (z := z) (ss := ss) (by rw [HCl.out]; exact h2)
      have HR := Lib.hid (atR_no hq)
      rw [hq]
      rw [h2] at C2
      have HC2 := Lib.hid C2
      clear h2 C2 hq
      go_enter Try.func28, Try.ntmps28
      go_wp2_with fail
      rw [HWq.out]
      refine C1.mono ?_
      rintro e w1 ⟨rfl, hb⟩
      have HBx1 := Lib.hid (HBx0.out.on hb)
      have HB1 := Lib.hid (HB0.out.trans (hb.mono HB0.out.size))
      clear C1 hb
      go_wp2_with fail
      refine (HC2.out w1).mono ?_
      rintro e w2 ⟨rfl, rfl⟩
      obtain ⟨z0, z1, z2, z3, z4, z5⟩ := HBx1.out.get
      have f0 := World.rowIs.frozen HBx1.out 0
      have f1 := World.rowIs.frozen HBx1.out 1
      have f2 := World.rowIs.frozen HBx1.out 2
      have f3 := World.rowIs.frozen HBx1.out 3
      have f4 := World.rowIs.frozen HBx1.out 4
      have f5 := World.rowIs.frozen HBx1.out 5
      go_wp2_with fail
      refine bodyPost_ret (v := .tuple #[.agg #[.int .i64 0, .slice none 0 0, .slice none 0 0, .int .i64 0, .slice none 0 0, .slice none 0 0], .bool false]) (by simp [results, Try.results28, go_sem, z0, z1, z2, z3, z4, z5]) rfl ⟨_, rfl, by rw [HR.out]; exact BigR.zero, sets6_below HB1.out (Nat.le_refl _) _ _ _ _ _ _⟩
    | true =>
      have hz := inb_true h2
      have H2 : Hid (inb z 0 ((cs.length : Int) - 1) = true) := Lib.hid (by rw [HCl.out]; exact h2)
      rw [h2] at C2
      have HC2 := Lib.hid C2
      clear h2 C2
      obtain ⟨k, rfl⟩ : ∃ k : Nat, z = (k : Int) := ⟨z.toNat, by omega⟩
      have hkn : k < n := by omega
      obtain ⟨b, off, x, rfl, hbb, hx, q0, q1, q2⟩ := HC.out.get hkn
      have HX := Lib.hid (ctlAt_of hx)
      have hpx : x.ports ≤ 3 := by
        have hb := (sig_of H1.out).1 k _ hx
        unfold ctlB at hb
        simp only [Bool.and_eq_true] at hb
        have := inb_true hb.1.2
        omega
      have HQ1 := Lib.hid (fun (Y : World) (hY : Below w.heap.size w Y) => (hY.cell (p := ⟨b, off + k * 3 + 1, none⟩) hbb).trans q1)
      clear hx q0 q1 q2 hz
      cases h3 : ((m : Int) == x.ports) with
      | false =>
        have h3' : ((m : Int) != x.ports) = true := by rw [bne, h3]; rfl
        have hq := at_no3 (cs := cs) (z := (k : Int)) (ss := ss) (by rw [HL.out, HX.out]; exact h3)
        have HR := Lib.hid (atR_no hq)
        rw [hq]
        clear hq
        go_enter Try.func28, Try.ntmps28
        go_wp2_with fail
        rw [HWq.out]
        refine C1.mono ?_
        rintro e w1 ⟨rfl, hb⟩
        have HBx1 := Lib.hid (HBx0.out.on hb)
        have HB1 := Lib.hid (HB0.out.trans (hb.mono HB0.out.size))
        clear C1 hb
        have hq := HQ1.out w1 HB1.out
        go_wp2_with fail
        refine (HC2.out w1).mono ?_
        rintro e w2 ⟨rfl, rfl⟩
        obtain ⟨z0, z1, z2, z3, z4, z5⟩ := HBx1.out.get
        have f0 := World.rowIs.frozen HBx1.out 0
        have f1 := World.rowIs.frozen HBx1.out 1
        have f2 := World.rowIs.frozen HBx1.out 2
        have f3 := World.rowIs.frozen HBx1.out 3
        have f4 := World.rowIs.frozen HBx1.out 4
        have f5 := World.rowIs.frozen HBx1.out 5
        go_wp2_with fail
        refine bodyPost_ret (v := .tuple #[.agg #[.int .i64 0, .slice none 0 0, .slice none 0 0, .int .i64 0, .slice none 0 0, .slice none 0 0], .bool false]) (by simp [results, Try.results28, go_sem, z0, z1, z2, z3, z4, z5]) rfl ⟨_, rfl, by rw [HR.out]; exact BigR.zero, sets6_below HB1.out (Nat.le_refl _) _ _ _ _ _ _⟩
      | true =>
        have h3' : ((m : Int) != x.ports) = false := by rw [bne, h3]; rfl
        have H3 : Hid (((ss.length : Int) == (ctlAt cs (k : Int)).ports) = true) := Lib.hid (by rw [HL.out, HX.out]; exact h3)
        have hm3 : m ≤ 3 := by have : (m : Int) = x.ports := eq_of_beq h3; omega
        have HN : Hid (namesB (sortU ss) = allB ss) := Lib.hid (all_sort ss)
        have HCA := Lib.hid (fun (Y : World) (hY : Below w.heap.size w Y) => asc_any A' m c' ss Y ((HH.out.below hY).wide hY.size) hm)
        cases h4 : allB ss with
        | false =>
          have hq := at_no4 (cs := cs) (z := (k : Int)) (ss := ss) h4
          have HR := Lib.hid (atR_no hq)
          rw [hq]
          rw [h4] at HN
          clear h4 hq
          go_enter Try.func28, Try.ntmps28
          go_wp2_with fail
          rw [HWq.out]
          refine C1.mono ?_
          rintro e w1 ⟨rfl, hb⟩
          have HBx1 := Lib.hid (HBx0.out.on hb)
          have HB1 := Lib.hid (HB0.out.trans (hb.mono HB0.out.size))
          clear C1 hb
          have hq := HQ1.out w1 HB1.out
          go_wp2_with fail
          refine (HC2.out w1).mono ?_
          rintro e w2 ⟨rfl, rfl⟩
          go_wp2_with fail
          refine (HCA.out w1 HB1.out).mono ?_
          rintro e w2 ⟨A4, c4, rfl, hr4, hb⟩
          have HBx2 := Lib.hid (HBx1.out.on hb)
          have HB2 := Lib.hid (HB1.out.trans (hb.mono HB1.out.size))
          have CN := areNames_any A4 (sortU ss).length c4 (sortU ss) w2 _ (strsR_at hr4) (by have := sortU_len ss; have := HL.out; omega) (fun s hs => HS.out s (sortU_mem.1 hs))
          rw [HN.out] at CN
          clear hr4 hb
          go_wp2_with fail
          refine CN.mono ?_
          rintro e w3 ⟨rfl, rfl⟩
          clear CN
          obtain ⟨z0, z1, z2, z3, z4, z5⟩ := HBx2.out.get
          have f0 := World.rowIs.frozen HBx2.out 0
          have f1 := World.rowIs.frozen HBx2.out 1
          have f2 := World.rowIs.frozen HBx2.out 2
          have f3 := World.rowIs.frozen HBx2.out 3
          have f4 := World.rowIs.frozen HBx2.out 4
          have f5 := World.rowIs.frozen HBx2.out 5
          go_wp2_with fail
          refine bodyPost_ret (v := .tuple #[.agg #[.int .i64 0, .slice none 0 0, .slice none 0 0, .int .i64 0, .slice none 0 0, .slice none 0 0], .bool false]) (by simp [results, Try.results28, go_sem, z0, z1, z2, z3, z4, z5]) rfl ⟨_, rfl, by rw [HR.out]; exact BigR.zero, sets6_below HB2.out (Nat.le_refl _) _ _ _ _ _ _⟩
        | true =>
          have hq := at_yes H1.out H2.out H3.out h4
          have HR := Lib.hid (atR_yes hq)
          rw [hq]
          rw [h4] at HN
          clear h4 hq
          go_enter Try.func28, Try.ntmps28
          go_wp2_with fail
          rw [HWq.out]
          refine C1.mono ?_
          rintro e w1 ⟨rfl, hb⟩
          have HBx1 := Lib.hid (HBx0.out.on hb)
          have HB1 := Lib.hid (HB0.out.trans (hb.mono HB0.out.size))
          clear C1 hb
          have hq := HQ1.out w1 HB1.out
          go_wp2_with fail
          refine (HC2.out w1).mono ?_
          rintro e w2 ⟨rfl, rfl⟩
          go_wp2_with fail
          refine (HCA.out w1 HB1.out).mono ?_
          rintro e w2 ⟨A4, c4, rfl, hr4, hb⟩
          have HBx2 := Lib.hid (HBx1.out.on hb)
          have HB2 := Lib.hid (HB1.out.trans (hb.mono HB1.out.size))
          have HR4 := Lib.hid (hr4.wide (lo' := w.heap.size) HB1.out.size (Nat.le_refl _))
          have hsl : (sortU ss).length ≤ 1048576 := by have := sortU_len ss; have := HL.out; omega
          have CN := areNames_any A4 (sortU ss).length c4 (sortU ss) w2 _ (strsR_at hr4) hsl (fun s hs => HS.out s (sortU_mem.1 hs))
          rw [HN.out] at CN
          clear hr4 hb
          go_wp2_with fail
          refine CN.mono ?_
          rintro e w3 ⟨rfl, rfl⟩
          clear CN
          go_wp2_with fail
          refine (por_any 0 w2 (by omega)).mono ?_
          rintro e w3 ⟨rfl, rfl⟩
          rw [show (-1 - 0 : Int) = -1 from rfl]
          have CI := idxs_any A4 A' (sortU ss).length c4 m c' (sortU ss) ss w2 (strsR_at HR4.out) ((HH.out.below HB2.out).wide HB2.out.size) hsl hm
          obtain ⟨sl, hsl'⟩ : ∃ sl, (sortU ss).length = sl := ⟨_, rfl⟩
          have HSq := Lib.hid hsl'
          rw [hsl'] at CI hsl ⊢
          clear hsl'
          go_wp2_with fail
          refine CI.mono ?_
          rintro e w5 ⟨g, rfl, hg1, hg2, hrow, hb⟩
          clear CI
          have HBx5 := Lib.hid (HBx2.out.on hb)
          have HB5 := Lib.hid (HB2.out.trans (hb.mono HB2.out.size))
          have HR5 := Lib.hid (HR4.out.on hb)
          have HRL := Lib.hid (show RowR w5 w.heap.size w5.heap.size 3 1 (some ⟨g, 0, none⟩) m m (iat (idxL (sortU ss) ss)) from RowR.mk (by have := HB2.out.size; omega) hg2 (Nat.le_refl _) (by rw [Nat.mul_one]; exact hrow) (fun _ _ => rfl))
          have hbN1 := (Below.refl w5.heap.size w5).alloc (Nat.le_refl _) (.cells #[.int .i64 k, .int .i64 (-1), .slice (some ⟨g, 0, none⟩) m m] 86)
          obtain ⟨y0, y1, y2⟩ := row3 (row_new w5 #[.int .i64 k, .int .i64 (-1), .slice (some ⟨g, 0, none⟩) m m] 86 3 rfl)
          have hbN := hbN1.alloc hbN1.size (.cells #[.int .i64 k, .int .i64 (-1), .slice (some ⟨g, 0, none⟩) m m] 86)
          have hN2 := node_row (w5.alloc (.cells #[.int .i64 k, .int .i64 (-1), .slice (some ⟨g, 0, none⟩) m m] 86)) (.int .i64 k) (.int .i64 (-1)) (.slice (some ⟨g, 0, none⟩) m m)
          have HBxN := Lib.hid (HBx5.out.on hbN)
          have HBN := Lib.hid (HB5.out.trans (hbN.mono HB5.out.size))
          have hsz5 := HB5.out.size
          have hbg0 := at_big (c2 := 0) (A2 := none) (st := []) (hN2.wide (lo' := w.heap.size) (by simp; omega) (Nat.le_refl _)) (rowR_here (HRL.out.on hbN)) RowR.nil (rowR_here (HR5.out.on hbN)) rfl rfl HL.out (fun h => h)
          rw [HSq.out, show (w5.alloc (.cells #[.int .i64 k, .int .i64 (-1), .slice (some ⟨g, 0, none⟩) m m] 86)).heap.size = w5.heap.size + 1 from World.size_alloc ..] at hbg0
          have HBig := Lib.hid hbg0
          clear hrow hb hbN1 hbN hN2 hbg0
          obtain ⟨z0, z1, z2, z3, z4, z5⟩ := HBxN.out.get
          have f0 := World.rowIs.frozen HBxN.out 0
          have f1 := World.rowIs.frozen HBxN.out 1
          have f2 := World.rowIs.frozen HBxN.out 2
          have f3 := World.rowIs.frozen HBxN.out 3
          have f4 := World.rowIs.frozen HBxN.out 4
          have f5 := World.rowIs.frozen HBxN.out 5
          go_wp2_with fail
          have hbig := (sets6_big HBxN.out HBig.out (.int .i64 1) (.slice (some ⟨w5.heap.size + 1, 0, none⟩) 1 1) (.slice none 0 0) (.int .i64 0) (.slice A4 sl c4) (.slice none 0 0)).here
          have hbel := sets6_below HBN.out (Nat.le_refl w.heap.size) (.int .i64 1) (.slice (some ⟨w5.heap.size + 1, 0, none⟩) 1 1) (.slice none 0 0) (.int .i64 0) (.slice A4 sl c4) (.slice none 0 0)
          unfold sets6 at hbig hbel
          refine bodyPost_ret (v := .tuple #[.agg #[.int .i64 1, .slice (some ⟨w5.heap.size + 1, 0, none⟩) 1 1, .slice none 0 0, .int .i64 0, .slice A4 sl c4, .slice none 0 0], .bool true]) (by simp [results, Try.results28, go_sem, z0, z1, z2, z3, z4, z5]) rfl ⟨_, rfl, by rw [HR.out]; exact hbig, hbel⟩
end Go.Proofs.Ytmcdbhlpmlcjpaa.au
