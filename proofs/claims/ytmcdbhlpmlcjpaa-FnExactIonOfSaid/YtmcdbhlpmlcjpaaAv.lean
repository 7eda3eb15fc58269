/- IonOf of spec and impl. -/
import Derived.Test.YtmcdbhlpmlcjpaaAu
namespace Go.Proofs.Ytmcdbhlpmlcjpaa.av
open kit bg sg opn strs only hb sig isig un over gn nm inn ht gd im pt marks eqs hc hi hw hn rs br bm bw cf lf ib lawb lw cl pl mb wb nw cz ix su asc so sx sy sz atm au
open Go.RowKit
set_option linter.unusedVariables false
set_option linter.unusedSimpArgs false
noncomputable def ioQ (cs : List Ctl) (z : Int) (ss : List ByteArray) : Bool := atQ cs z ss && !((ctlAt cs z).kind == 2)
noncomputable def ioR (cs : List Ctl) (z : Int) (ss : List ByteArray) : Big := if ioQ cs z ss = true then atB z ss [0] else zeroBig
theorem ioR_no {cs : List Ctl} {z : Int} {ss : List ByteArray} (h : ioQ cs z ss = false) : ioR cs z ss = zeroBig := by unfold ioR; rw [h]; rfl
theorem ioR_yes {cs : List Ctl} {z : Int} {ss : List ByteArray} (h : ioQ cs z ss = true) : ioR cs z ss = atB z ss [0] := by unfold ioR; rw [if_pos h]
theorem io_no1 {cs : List Ctl} {z : Int} {ss : List ByteArray} (h : atQ cs z ss = false) : ioQ cs z ss = false := by unfold ioQ; rw [h]; rfl
theorem io_no2 {cs : List Ctl} {z : Int} {ss : List ByteArray} (h : ((ctlAt cs z).kind == 2) = true) : ioQ cs z ss = false := by unfold ioQ; rw [h, Bool.not_true, Bool.and_false]
theorem io_yes {cs : List Ctl} {z : Int} {ss : List ByteArray} (h : atQ cs z ss = true) (h2 : ((ctlAt cs z).kind == 2) = false) : ioQ cs z ss = true := by unfold ioQ; rw [h, h2]; rfl
theorem io_len (cs : List Ctl) (z : Int) (ss : List ByteArray) : bigMk (ioR cs z ss) ≤ 1048576 := by
  cases h : ioQ cs z ss with
  | false => rw [ioR_no h]; exact zero_len
  | true =>
    rw [ioR_yes h]
    unfold ioQ at h
    simp only [Bool.and_eq_true] at h
    exact atB_len z (at_few h.1) (by simp)
theorem at_k {cs : List Ctl} {z : Int} {ss : List ByteArray} (h : atQ cs z ss = true) : ∃ k : Nat, z = (k : Int) ∧ k < cs.length := by
  unfold atQ at h
  simp only [Bool.and_eq_true] at h
  have := inb_true h.1.1.2
  exact ⟨z.toNat, by omega, by omega⟩
/-- an atom with a site -/
theorem at_sites {w : World} {lo hi : Nat} {v : Value} {z : Int} {ss : List ByteArray} (h : BigR w lo hi v (atB z ss [])) : ∃ A1 c1 A2 c2 A4 c4 A5 c5, v = .agg #[.int .i64 1, .slice A1 1 c1, .slice A2 0 c2, .int .i64 0, .slice A4 (sortU ss).length c4, .slice A5 0 c5] ∧
    ∀ (w' : World) (hi' g : Nat), (∀ j, lo ≤ j → j < hi → w'.heap[j]? = w.heap[j]?) → lo ≤ g → hi ≤ g → g < hi' → w'.rowIs g 3 1 (iat [0]) → BigR w' lo hi' (.agg #[.int .i64 1, .slice A1 1 c1, .slice (some ⟨g, 0, none⟩) 1 1, .int .i64 0, .slice A4 (sortU ss).length c4, .slice A5 0 c5]) (atB z ss [0]) := by
  obtain ⟨P, e, hap, hnd, h2, h4, h5⟩ := h
  refine ⟨P.A1, P.c1, P.A2, P.c2, P.A4, P.c4, P.A5, P.c5, e, fun w' hi' g hk hlg hg1 hg2 hr => ?_⟩
  refine ⟨⟨P.A1, P.c1, some ⟨g, 0, none⟩, 1, P.A4, P.c4, P.A5, P.c5, P.LA, P.LC⟩, rfl, fun k hk1 hk2 => ⟨fun e => ?_, (hap k hk1 hk2).2⟩, ⟨?_, fun k hk1 => ?_⟩, ?_, ?_, ?_⟩
  · rcases hnd.2 k hk1 with ⟨e3, _⟩ | ⟨g3, _, e3, _, b2, _⟩
    · exact hk2 e3
    · have e : P.LA k = some ⟨g, 0, none⟩ := e
      rw [e] at e3
      injection e3 with e3
      injection e3 with e3
      omega
  · exact (hnd.1.stay (w' := w') (fun j f m _ _ a b => hk j a b)).wide (Nat.le_refl _) (by omega)
  · exact ((hnd.2 k hk1).stay (w' := w') (fun j f m _ _ a b => hk j a b)).wide (Nat.le_refl _) (by omega)
  · exact RowR.mk hlg hg2 (Nat.le_refl _) (by rw [Nat.mul_one]; exact hr) (fun _ _ => rfl)
  · exact (h4.stay (w' := w') (fun j f m _ _ a b => hk j a b)).wide (Nat.le_refl _) (by omega)
  · exact (h5.stay (w' := w') (fun j f m _ _ a b => hk j a b)).wide (Nat.le_refl _) (by omega)
set_option maxRecDepth 20000 in
set_option maxHeartbeats 6400000 in
theorem iIo_any (A : Option Addr) (n c : Nat) (cs : List Ctl) (z : Int) (A' : Option Addr) (m c' : Nat) (ss : List ByteArray) (w : World) (hC : CtlsAt w w.heap.size A n cs) (hn : n ≤ 1048576) (hcs : ∀ c ∈ cs, c.name.size ≤ 1048576) (hwz : (Lit.int .i64 z).wf = true) (h : SR w w.heap.size A' m (ss.map Value.string)) (hm : m ≤ 1048576) (hs : ∀ s ∈ ss, s.size ≤ 1048576) (hnil : A' = none → c' = 0) :
    Calls Try.prog 24 #[.slice A n c, .int .i64 z, .slice A' m c'] w (BigPost (ioQ cs z ss) (ioR cs z ss) w) := by
  have hb0 := (Below.refl w.heap.size w).alloc (Nat.le_refl _) (.cells #[.int .i64 0, .slice none 0 0, .slice none 0 0, .int .i64 0, .slice none 0 0, .slice none 0 0] 28)
  have HBx0 : Hid (BoxAt (w.alloc (.cells #[.int .i64 0, .slice none 0 0, .slice none 0 0, .int .i64 0, .slice none 0 0, .slice none 0 0] 28)) w.heap.size 28 (.int .i64 0) (.slice none 0 0) (.slice none 0 0) (.int .i64 0) (.slice none 0 0) (.slice none 0 0)) := Lib.hid (six_new w _ _ _ _ _ _ _)
  obtain ⟨W, hW⟩ : ∃ W, w.alloc (.cells #[.int .i64 0, .slice none 0 0, .slice none 0 0, .int .i64 0, .slice none 0 0, .slice none 0 0] 28) = W := ⟨_, rfl⟩
  have hWz : W.heap.size = w.heap.size + 1 := by rw [← hW]; simp
  rw [hW] at hb0 HBx0
  have HWq := Lib.hid hW
  have HB0 := Lib.hid hb0
  have HWz := Lib.hid hWz
  clear hW hb0 hWz
  have HL := Lib.hid h.strlen
  have HCl := Lib.hid hC.1
  have HC := Lib.hid hC
  have C1 := iAt_any A n c cs z A' m c' ss W ((hC.below HB0.out).wide HB0.out.size) hn hcs hwz ((h.below HB0.out).wide HB0.out.size) hm hs hnil
  clear hC hcs hwz h hs hnil
  cases hq : atQ cs z ss with
  | false =>
    rw [hq] at C1
    have hq2 := io_no1 hq
    have HR := Lib.hid (ioR_no hq2)
    have HRz := Lib.hid (atR_no hq)
    rw [hq2]
    clear hq hq2
    go_enter Try.func24, Try.ntmps24
    go_wp2_with fail
    rw [HWq.out]
    refine C1.mono ?_
    rintro e w1 ⟨v, rfl, hr, hb⟩
    rw [HRz.out] at hr
    obtain ⟨D1, g1, D2, g2, D4, g4, D5, g5, rfl⟩ := hr.shape
    dsimp only [zeroBig, List.length_nil]
    have hbX := hb.alloc hb.size (.cells #[.int .i64 0, .slice D1 0 g1, .slice D2 0 g2, .int .i64 0, .slice D4 0 g4, .slice D5 0 g5] 28)
    have HBx1 := Lib.hid (HBx0.out.on hbX)
    have HB1 := Lib.hid (HB0.out.trans (hbX.mono HB0.out.size))
    clear C1 hb hbX hr
    obtain ⟨z0, z1, z2, z3, z4, z5⟩ := HBx1.out.get
    have f0 := World.rowIs.frozen HBx1.out 0
    have f1 := World.rowIs.frozen HBx1.out 1
    have f2 := World.rowIs.frozen HBx1.out 2
    have f3 := World.rowIs.frozen HBx1.out 3
    have f4 := World.rowIs.frozen HBx1.out 4
    have f5 := World.rowIs.frozen HBx1.out 5
    go_wp2_with fail
    refine bodyPost_ret (v := .tuple #[.agg #[.int .i64 0, .slice none 0 0, .slice none 0 0, .int .i64 0, .slice none 0 0, .slice none 0 0], .bool false]) (by simp [results, Try.results24, go_sem, z0, z1, z2, z3, z4, z5]) rfl ⟨_, rfl, by rw [HR.out]; exact BigR.zero, sets6_below HB1.out (Nat.le_refl _) _ _ _ _ _ _⟩
  | true =>
    rw [hq] at C1
    have HRz := Lib.hid (atR_yes hq)
    have HQ := Lib.hid hq
    obtain ⟨k, rfl, hkn⟩ := at_k hq
    rw [HCl.out] at hkn
    clear hq
    obtain ⟨b, off, x, rfl, hbb, hx, q0, q1, q2⟩ := HC.out.get hkn
    have HX := Lib.hid (ctlAt_of hx)
    have HQ2 := Lib.hid (fun (Y : World) (hY : Below w.heap.size w Y) => (hY.cell (p := ⟨b, off + k * 3 + 2, none⟩) hbb).trans q2)
    clear hx q0 q1 q2
    cases h3 : (x.kind == 2) with
    | true =>
      have hq2 := io_no2 (cs := cs) (z := (k : Int)) (ss := ss) (by rw [HX.out]; exact h3)
      have HR := Lib.hid (ioR_no hq2)
      rw [hq2]
      clear hq2
      go_enter Try.func24, Try.ntmps24
      go_wp2_with fail
      rw [HWq.out]
      refine C1.mono ?_
      rintro e w1 ⟨v, rfl, hr, hb⟩
      rw [HRz.out] at hr
      obtain ⟨p1, q1, p2, q2, p4, q4, p5, q5, rfl, -⟩ := at_sites hr
      obtain ⟨sl, hsl'⟩ : ∃ sl, (sortU ss).length = sl := ⟨_, rfl⟩
      rw [hsl']
      clear hsl'
      have hbX := hb.alloc hb.size (.cells #[.int .i64 1, .slice p1 1 q1, .slice p2 0 q2, .int .i64 0, .slice p4 sl q4, .slice p5 0 q5] 28)
      have HBx1 := Lib.hid (HBx0.out.on hbX)
      have HB1 := Lib.hid (HB0.out.trans (hbX.mono HB0.out.size))
      have hq := HQ2.out _ HB1.out
      clear C1 hb hbX hr
      obtain ⟨z0, z1, z2, z3, z4, z5⟩ := HBx1.out.get
      have f0 := World.rowIs.frozen HBx1.out 0
      have f1 := World.rowIs.frozen HBx1.out 1
      have f2 := World.rowIs.frozen HBx1.out 2
      have f3 := World.rowIs.frozen HBx1.out 3
      have f4 := World.rowIs.frozen HBx1.out 4
      have f5 := World.rowIs.frozen HBx1.out 5
      go_wp2_with fail
      refine bodyPost_ret (v := .tuple #[.agg #[.int .i64 0, .slice none 0 0, .slice none 0 0, .int .i64 0, .slice none 0 0, .slice none 0 0], .bool false]) (by simp [results, Try.results24, go_sem, z0, z1, z2, z3, z4, z5]) rfl ⟨_, rfl, by rw [HR.out]; exact BigR.zero, sets6_below HB1.out (Nat.le_refl _) _ _ _ _ _ _⟩
    | false =>
      have hq2 := io_yes HQ.out (by rw [HX.out]; exact h3)
      have HR := Lib.hid (ioR_yes hq2)
      rw [hq2]
      clear hq2
      go_enter Try.func24, Try.ntmps24
      go_wp2_with fail
      rw [HWq.out]
      refine C1.mono ?_
      rintro e w1 ⟨v, rfl, hr, hb⟩
      rw [HRz.out] at hr
      obtain ⟨p1, q1, p2, q2, p4, q4, p5, q5, rfl, hst⟩ := at_sites hr
      obtain ⟨sl, hsl'⟩ : ∃ sl, (sortU ss).length = sl := ⟨_, rfl⟩
      rw [hsl'] at hst ⊢
      clear hsl'
      have hz1 := hb.size
      have hWz := HWz.out
      have hb1 := Below.refl w1.heap.size w1
      have hbX := hb1.alloc (Nat.le_refl _) (.cells #[.int .i64 1, .slice p1 1 q1, .slice p2 0 q2, .int .i64 0, .slice p4 sl q4, .slice p5 0 q5] 28)
      have hz2 : (w1.alloc (.cells #[.int .i64 1, .slice p1 1 q1, .slice (some ⟨w1.heap.size + 1, 0, none⟩) 1 1, .int .i64 0, .slice p4 sl q4, .slice p5 0 q5] 28)).heap.size = w1.heap.size + 1 := World.size_alloc ..
      have hbY := hb1.alloc (Nat.le_refl _) (.cells #[.int .i64 1, .slice p1 1 q1, .slice (some ⟨w1.heap.size + 1, 0, none⟩) 1 1, .int .i64 0, .slice p4 sl q4, .slice p5 0 q5] 28)
      have hbX4 := hbY.alloc hbY.size (.cells #[.int .i64 0] 3)
      have hbo4 := (show BoxAt (w1.alloc (.cells #[.int .i64 1, .slice p1 1 q1, .slice (some ⟨w1.heap.size + 1, 0, none⟩) 1 1, .int .i64 0, .slice p4 sl q4, .slice p5 0 q5] 28)) w1.heap.size 28 (.int .i64 1) (.slice p1 1 q1) (.slice (some ⟨w1.heap.size + 1, 0, none⟩) 1 1) (.int .i64 0) (.slice p4 sl q4) (.slice p5 0 q5) from six_new w1 _ _ _ _ _ _ _).on ((Below.refl (w1.alloc (.cells #[.int .i64 1, .slice p1 1 q1, .slice (some ⟨w1.heap.size + 1, 0, none⟩) 1 1, .int .i64 0, .slice p4 sl q4, .slice p5 0 q5] 28)).heap.size (w1.alloc (.cells #[.int .i64 1, .slice p1 1 q1, .slice (some ⟨w1.heap.size + 1, 0, none⟩) 1 1, .int .i64 0, .slice p4 sl q4, .slice p5 0 q5] 28))).alloc (Nat.le_refl _) (.cells #[.int .i64 0] 3))
      have hr3 := row_new (w1.alloc (.cells #[.int .i64 1, .slice p1 1 q1, .slice (some ⟨w1.heap.size + 1, 0, none⟩) 1 1, .int .i64 0, .slice p4 sl q4, .slice p5 0 q5] 28)) #[.int .i64 0] 3 1 rfl
      rw [hz2] at hr3
      have hr4 : ((w1.alloc (.cells #[.int .i64 1, .slice p1 1 q1, .slice (some ⟨w1.heap.size + 1, 0, none⟩) 1 1, .int .i64 0, .slice p4 sl q4, .slice p5 0 q5] 28)).alloc (.cells #[.int .i64 0] 3)).rowIs (w1.heap.size + 1) 3 1 (iat [0]) := hr3.congr (fun i hi => by
        have : i = 0 := by omega
        subst this; rfl)
      have hz4 : ((w1.alloc (.cells #[.int .i64 1, .slice p1 1 q1, .slice (some ⟨w1.heap.size + 1, 0, none⟩) 1 1, .int .i64 0, .slice p4 sl q4, .slice p5 0 q5] 28)).alloc (.cells #[.int .i64 0] 3)).heap.size = w1.heap.size + 1 + 1 := by simp
      have hBig := hst ((w1.alloc (.cells #[.int .i64 1, .slice p1 1 q1, .slice (some ⟨w1.heap.size + 1, 0, none⟩) 1 1, .int .i64 0, .slice p4 sl q4, .slice p5 0 q5] 28)).alloc (.cells #[.int .i64 0] 3)) (w1.heap.size + 1 + 1) (w1.heap.size + 1) (fun j _ hj => hbX4.block j hj) (by omega) (by omega) (by omega) hr4
      have HBig := Lib.hid (hBig.wide (lo' := w.heap.size) (by omega) (Nat.le_refl _))
      have HBX := Lib.hid ((HBx0.out.on (hb.trans (hbX4.mono hb.size))))
      have HBB := Lib.hid (HB0.out.trans ((hb.trans (hbX4.mono hb.size)).mono HB0.out.size))
      have hq := HQ2.out _ (HB0.out.trans ((hb.trans (hbX.mono hb.size)).mono HB0.out.size))
      obtain ⟨x0, x1, x2, x3, x4, x5⟩ := hbo4.get
      clear C1 hb hr hst hBig hr3 hr4 hbX4 hbY hbX hbo4 hb1
      obtain ⟨z0, z1, z2, z3, z4, z5⟩ := HBX.out.get
      have f0 := World.rowIs.frozen HBX.out 0
      have f1 := World.rowIs.frozen HBX.out 1
      have f2 := World.rowIs.frozen HBX.out 2
      have f3 := World.rowIs.frozen HBX.out 3
      have f4 := World.rowIs.frozen HBX.out 4
      have f5 := World.rowIs.frozen HBX.out 5
      go_wp2_with fail
      have hbig := (sets6_big HBX.out HBig.out (.int .i64 1) (.slice p1 1 q1) (.slice (some ⟨w1.heap.size + 1, 0, none⟩) 1 1) (.int .i64 0) (.slice p4 sl q4) (.slice p5 0 q5)).here
      have hbel := sets6_below HBB.out (Nat.le_refl w.heap.size) (.int .i64 1) (.slice p1 1 q1) (.slice (some ⟨w1.heap.size + 1, 0, none⟩) 1 1) (.int .i64 0) (.slice p4 sl q4) (.slice p5 0 q5)
      unfold sets6 at hbig hbel
      refine bodyPost_ret (v := .tuple #[.agg #[.int .i64 1, .slice p1 1 q1, .slice (some ⟨w1.heap.size + 1, 0, none⟩) 1 1, .int .i64 0, .slice p4 sl q4, .slice p5 0 q5], .bool true]) (by simp [results, Try.results24, go_sem, z0, z1, z2, z3, z4, z5]) rfl ⟨_, rfl, by rw [HR.out]; exact hbig, hbel⟩
set_option maxRecDepth 20000 in
set_option maxHeartbeats 6400000 in
theorem sIo_any (A : Option Addr) (n c : Nat) (cs : List Ctl) (z : Int) (A' : Option Addr) (m c' : Nat) (ss : List ByteArray) (w : World) (hC : CtlsAt w w.heap.size A n cs) (hn : n ≤ 1048576) (hcs : ∀ c ∈ cs, c.name.size ≤ 1048576) (hwz : (Lit.int .i64 z).wf = true) (h : SR w w.heap.size A' m (ss.map Value.string)) (hm : m ≤ 1048576) (hs : ∀ s ∈ ss, s.size ≤ 1048576) (hnil : A' = none → c' = 0) :
    Calls Try.prog 22 #[.slice A n c, .int .i64 z, .slice A' m c'] w (BigPost (ioQ cs z ss) (ioR cs z ss) w) := by
  have hb0 := (Below.refl w.heap.size w).alloc (Nat.le_refl _) (.cells #[.int .i64 0, .slice none 0 0, .slice none 0 0, .int .i64 0, .slice none 0 0, .slice none 0 0] 28)
  have HBx0 : Hid (BoxAt (w.alloc (.cells #[.int .i64 0, .slice none 0 0, .slice none 0 0, .int .i64 0, .slice none 0 0, .slice none 0 0] 28)) w.heap.size 28 (.int .i64 0) (.slice none 0 0) (.slice none 0 0) (.int .i64 0) (.slice none 0 0) (.slice none 0 0)) := Lib.hid (six_new w _ _ _ _ _ _ _)
  obtain ⟨W, hW⟩ : ∃ W, w.alloc (.cells #[.int .i64 0, .slice none 0 0, .slice none 0 0, .int .i64 0, .slice none 0 0, .slice none 0 0] 28) = W := ⟨_, rfl⟩
  have hWz : W.heap.size = w.heap.size + 1 := by rw [← hW]; simp
  rw [hW] at hb0 HBx0
  have HWq := Lib.hid hW
  have HB0 := Lib.hid hb0
  have HWz := Lib.hid hWz
  clear hW hb0 hWz
  have HL := Lib.hid h.strlen
  have HCl := Lib.hid hC.1
  have HC := Lib.hid hC
  have HH := Lib.hid h
  have C1 := l3Ion_any A n c cs z A' m c' ss W ((hC.below HB0.out).wide HB0.out.size) hn hcs ((h.below HB0.out).wide HB0.out.size) hm hs
  clear hC hcs hwz h hs hnil
  cases hq : atQ cs z ss with
  | false =>
    rw [hq] at C1
    have hq2 := io_no1 hq
    have HR := Lib.hid (ioR_no hq2)
    rw [hq2]
    clear hq hq2
    go_enter Try.func22, Try.ntmps22
    go_wp2_with fail
    rw [HWq.out]
    refine C1.mono ?_
    rintro e w1 ⟨rfl, hb⟩
    have HBx1 := Lib.hid (HBx0.out.on hb)
    have HB1 := Lib.hid (HB0.out.trans (hb.mono HB0.out.size))
    clear C1 hb
    obtain ⟨z0, z1, z2, z3, z4, z5⟩ := HBx1.out.get
    have f0 := World.rowIs.frozen HBx1.out 0
    have f1 := World.rowIs.frozen HBx1.out 1
    have f2 := World.rowIs.frozen HBx1.out 2
    have f3 := World.rowIs.frozen HBx1.out 3
    have f4 := World.rowIs.frozen HBx1.out 4
    have f5 := World.rowIs.frozen HBx1.out 5
    go_wp2_with fail
    refine bodyPost_ret (v := .tuple #[.agg #[.int .i64 0, .slice none 0 0, .slice none 0 0, .int .i64 0, .slice none 0 0, .slice none 0 0], .bool false]) (by simp [results, Try.results22, go_sem, z0, z1, z2, z3, z4, z5]) rfl ⟨_, rfl, by rw [HR.out]; exact BigR.zero, sets6_below HB1.out (Nat.le_refl _) _ _ _ _ _ _⟩
  | true =>
    rw [hq] at C1
    have hfew := at_few hq
    rw [HL.out] at hfew
    have HQ := Lib.hid hq
    obtain ⟨k, rfl, hkn⟩ := at_k hq
    rw [HCl.out] at hkn
    clear hq
    obtain ⟨b, off, x, rfl, hbb, hx, q0, q1, q2⟩ := HC.out.get hkn
    have HX := Lib.hid (ctlAt_of hx)
    have HQ2 := Lib.hid (fun (Y : World) (hY : Below w.heap.size w Y) => (hY.cell (p := ⟨b, off + k * 3 + 2, none⟩) hbb).trans q2)
    clear hx q0 q1 q2
    cases h3 : (x.kind == 2) with
    | true =>
      have hq2 := io_no2 (cs := cs) (z := (k : Int)) (ss := ss) (by rw [HX.out]; exact h3)
      have HR := Lib.hid (ioR_no hq2)
      rw [hq2]
      clear hq2
      go_enter Try.func22, Try.ntmps22
      go_wp2_with fail
      rw [HWq.out]
      refine C1.mono ?_
      rintro e w1 ⟨rfl, hb⟩
      have HBx1 := Lib.hid (HBx0.out.on hb)
      have HB1 := Lib.hid (HB0.out.trans (hb.mono HB0.out.size))
      have hq := HQ2.out _ HB1.out
      clear C1 hb
      obtain ⟨z0, z1, z2, z3, z4, z5⟩ := HBx1.out.get
      have f0 := World.rowIs.frozen HBx1.out 0
      have f1 := World.rowIs.frozen HBx1.out 1
      have f2 := World.rowIs.frozen HBx1.out 2
      have f3 := World.rowIs.frozen HBx1.out 3
      have f4 := World.rowIs.frozen HBx1.out 4
      have f5 := World.rowIs.frozen HBx1.out 5
      go_wp2_with fail
      refine bodyPost_ret (v := .tuple #[.agg #[.int .i64 0, .slice none 0 0, .slice none 0 0, .int .i64 0, .slice none 0 0, .slice none 0 0], .bool false]) (by simp [results, Try.results22, go_sem, z0, z1, z2, z3, z4, z5]) rfl ⟨_, rfl, by rw [HR.out]; exact BigR.zero, sets6_below HB1.out (Nat.le_refl _) _ _ _ _ _ _⟩
    | false =>
      have hq2 := io_yes HQ.out (by rw [HX.out]; exact h3)
      have HR := Lib.hid (ioR_yes hq2)
      rw [hq2]
      clear hq2
      go_enter Try.func22, Try.ntmps22
      go_wp2_with fail
      rw [HWq.out]
      refine C1.mono ?_
      rintro e w0 ⟨rfl, hb0⟩
      have HB1 := Lib.hid (HB0.out.trans (hb0.mono HB0.out.size))
      have hq := HQ2.out _ HB1.out
      go_wp2_with fail
      refine (sat_any (k : Int) A' m c' ss w0 ((HH.out.below HB1.out).wide HB1.out.size) (by omega)).mono ?_
      rintro e w1 ⟨v, rfl, hr, hbA⟩
      have hb := hb0.trans (hbA.mono hb0.size)
      have hr := hr.wide (lo' := W.heap.size) hb0.size (Nat.le_refl _)
      clear hb0 hbA hq
      obtain ⟨p1, q1, p2, q2, p4, q4, p5, q5, rfl, hst⟩ := at_sites hr
      obtain ⟨sl, hsl'⟩ : ∃ sl, (sortU ss).length = sl := ⟨_, rfl⟩
      rw [hsl'] at hst ⊢
      clear hsl'
      have hz1 := hb.size
      have hWz := HWz.out
      have hb1 := Below.refl w1.heap.size w1
      have hz2 : (w1.alloc (.cells #[.int .i64 1, .slice p1 1 q1, .slice (some ⟨w1.heap.size + 1, 0, none⟩) 1 1, .int .i64 0, .slice p4 sl q4, .slice p5 0 q5] 28)).heap.size = w1.heap.size + 1 := World.size_alloc ..
      have hbY := hb1.alloc (Nat.le_refl _) (.cells #[.int .i64 1, .slice p1 1 q1, .slice (some ⟨w1.heap.size + 1, 0, none⟩) 1 1, .int .i64 0, .slice p4 sl q4, .slice p5 0 q5] 28)
      have hbX4 := hbY.alloc hbY.size (.cells #[.int .i64 0] 3)
      have hbo4 := (show BoxAt (w1.alloc (.cells #[.int .i64 1, .slice p1 1 q1, .slice (some ⟨w1.heap.size + 1, 0, none⟩) 1 1, .int .i64 0, .slice p4 sl q4, .slice p5 0 q5] 28)) w1.heap.size 28 (.int .i64 1) (.slice p1 1 q1) (.slice (some ⟨w1.heap.size + 1, 0, none⟩) 1 1) (.int .i64 0) (.slice p4 sl q4) (.slice p5 0 q5) from six_new w1 _ _ _ _ _ _ _).on ((Below.refl (w1.alloc (.cells #[.int .i64 1, .slice p1 1 q1, .slice (some ⟨w1.heap.size + 1, 0, none⟩) 1 1, .int .i64 0, .slice p4 sl q4, .slice p5 0 q5] 28)).heap.size (w1.alloc (.cells #[.int .i64 1, .slice p1 1 q1, .slice (some ⟨w1.heap.size + 1, 0, none⟩) 1 1, .int .i64 0, .slice p4 sl q4, .slice p5 0 q5] 28))).alloc (Nat.le_refl _) (.cells #[.int .i64 0] 3))
      have hr3 := row_new (w1.alloc (.cells #[.int .i64 1, .slice p1 1 q1, .slice (some ⟨w1.heap.size + 1, 0, none⟩) 1 1, .int .i64 0, .slice p4 sl q4, .slice p5 0 q5] 28)) #[.int .i64 0] 3 1 rfl
      rw [hz2] at hr3
      have hr4 : ((w1.alloc (.cells #[.int .i64 1, .slice p1 1 q1, .slice (some ⟨w1.heap.size + 1, 0, none⟩) 1 1, .int .i64 0, .slice p4 sl q4, .slice p5 0 q5] 28)).alloc (.cells #[.int .i64 0] 3)).rowIs (w1.heap.size + 1) 3 1 (iat [0]) := hr3.congr (fun i hi => by
        have : i = 0 := by omega
        subst this; rfl)
      have hz4 : ((w1.alloc (.cells #[.int .i64 1, .slice p1 1 q1, .slice (some ⟨w1.heap.size + 1, 0, none⟩) 1 1, .int .i64 0, .slice p4 sl q4, .slice p5 0 q5] 28)).alloc (.cells #[.int .i64 0] 3)).heap.size = w1.heap.size + 1 + 1 := by simp
      have hBig := hst ((w1.alloc (.cells #[.int .i64 1, .slice p1 1 q1, .slice (some ⟨w1.heap.size + 1, 0, none⟩) 1 1, .int .i64 0, .slice p4 sl q4, .slice p5 0 q5] 28)).alloc (.cells #[.int .i64 0] 3)) (w1.heap.size + 1 + 1) (w1.heap.size + 1) (fun j _ hj => hbX4.block j hj) (by omega) (by omega) (by omega) hr4
      have HBig := Lib.hid (hBig.wide (lo' := w.heap.size) (by omega) (Nat.le_refl _))
      have HBX := Lib.hid ((HBx0.out.on (hb.trans (hbX4.mono hb.size))))
      have HBB := Lib.hid (HB0.out.trans ((hb.trans (hbX4.mono hb.size)).mono HB0.out.size))
      obtain ⟨x0, x1, x2, x3, x4, x5⟩ := hbo4.get
      clear C1 hb hr hst hBig hr3 hr4 hbX4 hbY hbo4 hb1
      obtain ⟨z0, z1, z2, z3, z4, z5⟩ := HBX.out.get
      have f0 := World.rowIs.frozen HBX.out 0
      have f1 := World.rowIs.frozen HBX.out 1
      have f2 := World.rowIs.frozen HBX.out 2
      have f3 := World.rowIs.frozen HBX.out 3
      have f4 := World.rowIs.frozen HBX.out 4
      have f5 := World.rowIs.frozen HBX.out 5
      go_wp2_with fail
      have hbig := (sets6_big HBX.out HBig.out (.int .i64 1) (.slice p1 1 q1) (.slice (some ⟨w1.heap.size + 1, 0, none⟩) 1 1) (.int .i64 0) (.slice p4 sl q4) (.slice p5 0 q5)).here
      have hbel := sets6_below HBB.out (Nat.le_refl w.heap.size) (.int .i64 1) (.slice p1 1 q1) (.slice (some ⟨w1.heap.size + 1, 0, none⟩) 1 1) (.int .i64 0) (.slice p4 sl q4) (.slice p5 0 q5)
      unfold sets6 at hbig hbel
      refine bodyPost_ret (v := .tuple #[.agg #[.int .i64 1, .slice p1 1 q1, .slice (some ⟨w1.heap.size + 1, 0, none⟩) 1 1, .int .i64 0, .slice p4 sl q4, .slice p5 0 q5], .bool true]) (by simp [results, Try.results22, go_sem, z0, z1, z2, z3, z4, z5]) rfl ⟨_, rfl, by rw [HR.out]; exact hbig, hbel⟩
end Go.Proofs.Ytmcdbhlpmlcjpaa.av
