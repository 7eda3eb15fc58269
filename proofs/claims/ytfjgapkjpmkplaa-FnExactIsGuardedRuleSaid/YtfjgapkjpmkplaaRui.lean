/- Valid Rules: spec.l9Good, spec.IsRule, impl.IsRule. -/
import Derived.Test.YtfjgapkjpmkplaaRub
import Derived.Test.YtfjgapkjpmkplaaCfg
import Derived.Test.YtfjgapkjpmkplaaRdi
import Derived.Test.YtfjgapkjpmkplaaRds
import Derived.Test.YtfjgapkjpmkplaaSmn
namespace Go.Proofs.Ytfjgapkjpmkplaa.rui
open kit bg sg opn strs only hb sig isig un over gn nm inn ht gd im pt marks eqs hc hi hw hn rs br bm bw cf lf ib isa lawb lw cl rt chd pts psp idl idm pl chk rdx rdi rds rub cfg smn
open Go.RowKit
set_option linter.unusedVariables false
set_option linter.unusedSimpArgs false
theorem get13 {w : World} {β : Nat} {t : TypeId} {a0 a1 a2 a3 a4 a5 a6 a7 a8 a9 a10 a11 a12 : Value} (h : BoxN w β t [a0, a1, a2, a3, a4, a5, a6, a7, a8, a9, a10, a11, a12]) :
    w.cell? ⟨β, 0, none⟩ = some a0 ∧ w.cell? ⟨β, 1, none⟩ = some a1 ∧ w.cell? ⟨β, 2, none⟩ = some a2 ∧ w.cell? ⟨β, 3, none⟩ = some a3 ∧ w.cell? ⟨β, 4, none⟩ = some a4 ∧ w.cell? ⟨β, 5, none⟩ = some a5 ∧ w.cell? ⟨β, 6, none⟩ = some a6 ∧ w.cell? ⟨β, 7, none⟩ = some a7 ∧ w.cell? ⟨β, 8, none⟩ = some a8 ∧ w.cell? ⟨β, 9, none⟩ = some a9 ∧ w.cell? ⟨β, 10, none⟩ = some a10 ∧ w.cell? ⟨β, 11, none⟩ = some a11 ∧ w.cell? ⟨β, 12, none⟩ = some a12 :=
  ⟨h.cell rfl, h.cell rfl, h.cell rfl, h.cell rfl, h.cell rfl, h.cell rfl, h.cell rfl, h.cell rfl, h.cell rfl, h.cell rfl, h.cell rfl, h.cell rfl, h.cell rfl⟩

set_option maxRecDepth 20000 in
set_option maxHeartbeats 1600000 in
theorem l8r_any (A : Option Addr) (n c : Nat) (cs : List Ctl) (v : Value) (b : Big) (w : World) (hC : CtlsAt w w.heap.size A n cs) (hv : BigAt w w.heap.size v b) (hn : n ≤ 1048576) (hs : ∀ c ∈ cs, c.name.size ≤ 1048576) (hS : BigS b) (hw : BigW b) :
    Calls Try.prog 88 #[.slice A n c, v] w (Post (rdQ cs b) w) := by
  have HV := Lib.hid (fun (Y : World) (hY : Below w.heap.size w Y) => (hv.below hY).wide hY.size)
  have HVc := Lib.hid (fun (Y : World) (hY : Below w.heap.size w Y) => l2Good_any A n c cs v b Y ((hC.below hY).wide hY.size) (HV.out Y hY) hn hs hS hw)
  have HSo := Lib.hid (fun (hg : bigB cs b = true) (Y : World) (hY : Below w.heap.size w Y) => sol_any cs v b Y (HV.out Y hY) hg)
  obtain ⟨A1, n1, c1, A2, n2, c2, A4, n4, c4, A5, n5, c5, rfl, -⟩ := hv
  have HBox : BoxAt (w.alloc (.cells #[.int .i64 b.roots, .slice A1 n1 c1, .slice A2 n2 c2, .int .i64 b.edges, .slice A4 n4 c4, .slice A5 n5 c5] 39)) w.heap.size 39 (.int .i64 b.roots) (.slice A1 n1 c1) (.slice A2 n2 c2) (.int .i64 b.edges) (.slice A4 n4 c4) (.slice A5 n5 c5) := six_new w _ _ _ _ _ _ _
  have hB := (Below.refl w.heap.size w).alloc (Nat.le_refl _) (.cells #[.int .i64 b.roots, .slice A1 n1 c1, .slice A2 n2 c2, .int .i64 b.edges, .slice A4 n4 c4, .slice A5 n5 c5] 39)
  obtain ⟨W, hW⟩ : ∃ W, w.alloc (.cells #[.int .i64 b.roots, .slice A1 n1 c1, .slice A2 n2 c2, .int .i64 b.edges, .slice A4 n4 c4, .slice A5 n5 c5] 39) = W := ⟨_, rfl⟩
  rw [hW] at HBox hB
  have HBox := Lib.hid HBox
  have HB := Lib.hid hB
  have HWq := Lib.hid hW
  have C1 := HVc.out W HB.out
  obtain ⟨q, hq⟩ : ∃ q, bigB cs b = q := ⟨_, rfl⟩
  have HQ := Lib.hid hq
  obtain ⟨q2, hq2⟩ : ∃ q, rdB b = q := ⟨_, rfl⟩
  have HQ2 := Lib.hid hq2
  obtain ⟨g, hg⟩ : ∃ g, rdQ cs b = g := ⟨_, rfl⟩
  have HG := Lib.hid hg
  rw [hq] at C1
  rw [hg]
  rw [hq2] at HSo
  clear hq hg hq2 hC hn hs hS hw hW hB
  obtain ⟨x0, x1, x2, x3, x4, x5⟩ := HBox.out.get
  go_enter Try.func88, Try.ntmps88
  go_wp2_with fail
  rw [HWq.out]
  go_wp2_with fail
  refine C1.mono ?_
  rintro e w1 ⟨rfl, hb⟩
  have hb1 := HB.out.trans (hb.mono HB.out.size)
  have HBx := HBox.out.on hb
  clear C1 hb x0 x1 x2 x3 x4 x5
  cases q with
  | false =>
    have hgf : g = false := by rw [← HG.out]; unfold rdQ; rw [HQ.out]; rfl
    subst hgf
    go_wp2_with fail
    go_ret
    exact ⟨rfl, hb1⟩
  | true =>
    have hgf : q2 = g := by rw [← HG.out, ← HQ2.out]; unfold rdQ; rw [HQ.out]; rfl
    subst hgf
    have C2 := HSo.out HQ.out w1 hb1
    obtain ⟨x0, x1, x2, x3, x4, x5⟩ := HBx.get
    go_wp2_with fail
    refine C2.mono ?_
    rintro e w2 ⟨rfl, hb2⟩
    have hk2 := hb1.trans (hb2.mono hb1.size)
    clear C2 hb1 hb2 x0 x1 x2 x3 x4 x5
    go_wp2_with fail
    go_ret
    exact ⟨rfl, hk2⟩

theorem copyB_no {r : Rul} {k : Nat} {z : Int} (h : r.copies[k]? = some z) (hz : inb z 0 ((r.redex.sites.length : Int) - 1) = false) : copyB r = false := by
  unfold copyB
  refine Bool.eq_false_iff.2 (fun ha => ?_)
  have := List.all_eq_true.1 ha z (List.mem_of_getElem? h)
  rw [hz] at this
  cases this
theorem copyB_yes {r : Rul} (h : ∀ (j : Nat) z, j < r.copies.length → r.copies[j]? = some z → inb z 0 ((r.redex.sites.length : Int) - 1) = true) : copyB r = true := by
  unfold copyB
  refine List.all_eq_true.2 (fun z hz => ?_)
  obtain ⟨j, hj⟩ := List.getElem?_of_mem hz
  exact h j z (List.getElem?_eq_some_iff.1 hj).1 hj

set_option maxRecDepth 20000 in
set_option maxHeartbeats 1600000 in
theorem l9c_any (v : Value) (r : Rul) (w : World) (hv : RulAt w w.heap.size v r) (hS : RulS r) :
    Calls Try.prog 90 #[v] w (Post (copyB r && decide (r.copies.length = r.reactum.sites.length)) w) := by
  obtain ⟨A1, n1, c1, A2, n2, c2, A4, n4, c4, A5, n5, c5, B1, m1, d1, B2, m2, d2, B4, m4, d4, B5, m5, d5, C7, n7, c7, rfl, h1, h2, h3⟩ := hv
  have HBox : BoxN (w.alloc (.cells #[.int .i64 r.redex.roots, .slice A1 n1 c1, .slice A2 n2 c2, .int .i64 r.redex.edges, .slice A4 n4 c4, .slice A5 n5 c5, .int .i64 r.reactum.roots, .slice B1 m1 d1, .slice B2 m2 d2, .int .i64 r.reactum.edges, .slice B4 m4 d4, .slice B5 m5 d5, .slice C7 n7 c7] 41)) w.heap.size 41 [.int .i64 r.redex.roots, .slice A1 n1 c1, .slice A2 n2 c2, .int .i64 r.redex.edges, .slice A4 n4 c4, .slice A5 n5 c5, .int .i64 r.reactum.roots, .slice B1 m1 d1, .slice B2 m2 d2, .int .i64 r.reactum.edges, .slice B4 m4 d4, .slice B5 m5 d5, .slice C7 n7 c7] := BoxN.new w #[.int .i64 r.redex.roots, .slice A1 n1 c1, .slice A2 n2 c2, .int .i64 r.redex.edges, .slice A4 n4 c4, .slice A5 n5 c5, .int .i64 r.reactum.roots, .slice B1 m1 d1, .slice B2 m2 d2, .int .i64 r.reactum.edges, .slice B4 m4 d4, .slice B5 m5 d5, .slice C7 n7 c7] 41
  have hB0 := (Below.refl w.heap.size w).alloc (Nat.le_refl _) (.cells #[.int .i64 r.redex.roots, .slice A1 n1 c1, .slice A2 n2 c2, .int .i64 r.redex.edges, .slice A4 n4 c4, .slice A5 n5 c5, .int .i64 r.reactum.roots, .slice B1 m1 d1, .slice B2 m2 d2, .int .i64 r.reactum.edges, .slice B4 m4 d4, .slice B5 m5 d5, .slice C7 n7 c7] 41)
  obtain ⟨W, hW⟩ : ∃ W, w.alloc (.cells #[.int .i64 r.redex.roots, .slice A1 n1 c1, .slice A2 n2 c2, .int .i64 r.redex.edges, .slice A4 n4 c4, .slice A5 n5 c5, .int .i64 r.reactum.roots, .slice B1 m1 d1, .slice B2 m2 d2, .int .i64 r.reactum.edges, .slice B4 m4 d4, .slice B5 m5 d5, .slice C7 n7 c7] 41) = W := ⟨_, rfl⟩
  have hWs : w.heap.size < W.heap.size := by rw [← hW]; simp
  rw [hW] at HBox hB0
  have HBox := Lib.hid HBox
  have HB0 := Lib.hid hB0
  have HWq := Lib.hid hW
  have HV1 := Lib.hid (fun (Y : World) (hY : Below w.heap.size w Y) => (h1.below hY).wide hY.size)
  have HV2 := Lib.hid (fun (Y : World) (hY : Below w.heap.size w Y) => (h2.below hY).wide hY.size)
  have HV3 := Lib.hid (fun (Y : World) (hY : Below w.heap.size w Y) => (h3.below hY).wide hY.size)
  clear hB0 hW
  have hS1 := hS.1.2.2.1
  have hS2 := hS.2.1.2.2.1
  have hS3 := hS.2.2
  have l1 : r.redex.sites.length = n2 := by obtain ⟨a1, a2, a3, a4, a5, a6, a7, a8, a9, a10, a11, a12, e, -, q, -⟩ := h1; simp at e; obtain ⟨-, ⟨-, e2, -⟩, -⟩ := e; rw [e2]; exact q.len
  have l2 : r.reactum.sites.length = m2 := by obtain ⟨a1, a2, a3, a4, a5, a6, a7, a8, a9, a10, a11, a12, e, -, q, -⟩ := h2; simp at e; obtain ⟨-, ⟨-, e2, -⟩, -⟩ := e; rw [e2]; exact q.len
  have l3 : r.copies.length = n7 := h3.len
  have HI3 := Lib.hid h3
  rw [l1] at hS1
  rw [l2] at hS2
  rw [l3] at hS3
  have HL1 := Lib.hid l1
  have HL2 := Lib.hid l2
  have HL3 := Lib.hid l3
  obtain ⟨g, hg⟩ : ∃ g, (copyB r && decide (r.copies.length = r.reactum.sites.length)) = g := ⟨_, rfl⟩
  rw [hg]
  have HG := Lib.hid hg
  clear hg l1 l2 l3 h1 h2 h3 hS
  obtain ⟨x0, x1, x2, x3, x4, x5, x6, x7, x8, x9, x10, x11, x12⟩ := get13 HBox.out
  go_enter Try.func90, Try.ntmps90
  go_wp2_with fail
  rw [HWq.out]
  go_wp2_with fail
  clear x0 x1 x2 x3 x4 x5 x6 x7 x8 x9 x10 x11 x12
  go_loopw [3] (fun i wr => ∃ k : Nat, k ≤ n7 ∧ i = .int .i64 k ∧ (∀ (j : Nat) z, j < k → r.copies[j]? = some z → inb z 0 ((r.redex.sites.length : Int) - 1) = true) ∧ Below W.heap.size W wr) (fun i _ => n7 - (intOf i).toNat)
  case atStart => exact ⟨0, Nat.zero_le _, rfl, fun j x hj => absurd hj (Nat.not_lt_zero j), Below.refl _ _⟩
  case round =>
    obtain ⟨k, hk, rfl, hall, hb⟩ := hrel
    have HA := Lib.hid hall
    clear hall
    obtain ⟨x0, x1, x2, x3, x4, x5, x6, x7, x8, x9, x10, x11, x12⟩ := get13 (HBox.out.on hb)
    have hk1 := HB0.out.trans (hb.mono HB0.out.size)
    by_cases hlt : k < n7
    · obtain ⟨b1, o1, z, rfl, hb1, hz, cz⟩ := (HV3.out wr hk1).get hlt
      have HZ := Lib.hid hz
      clear hz
      obtain ⟨q, hq⟩ : ∃ q, inb z 0 ((n2 : Int) - 1) = q := ⟨_, rfl⟩
      have HCI := Lib.hid (fun Y => hq ▸ in_any z 0 ((n2 : Int) - 1) Y)
      have HQ := Lib.hid hq
      clear hq
      cases q with
      | true =>
        go_wp2_with fail
        go_quiet ((go_at_call 102; exact (HCI.out _).mono (fun e w'' h => ⟨h.1, _, h.2.symm⟩)))
        go_wp2_with fail
        go_roundw
        case rel => exact ⟨k + 1, by omega, by go_num, fun j x' hj hx' => by
          by_cases e : j = k
          · subst e; rw [HZ.out] at hx'; injection hx' with e1; subst e1; rw [HL1.out]; exact HQ.out
          · exact HA.out j x' (by omega) hx', below_drewN hb _⟩
        case measure => simp [intOf]; omega
      | false =>
        have HN : Hid (g = false) := Lib.hid (by rw [← HG.out, copyB_no HZ.out (by rw [HL1.out]; exact HQ.out)]; rfl)
        go_wp2_with fail
        go_quiet ((go_at_call 102; exact (HCI.out _).mono (fun e w'' h => ⟨h.1, _, h.2.symm⟩)))
        go_wp2_with fail
        go_ret
        exact ⟨by rw [HN.out]; rfl, below_drewN hk1 _⟩
    · obtain rfl : k = n7 := by omega
      have HN : Hid (decide ((k : Int) = m2) = g) := Lib.hid (by
        rw [← HG.out, copyB_yes (by rw [HL3.out]; exact HA.out), HL3.out, HL2.out]
        simp [Int.natCast_inj])
      go_wp2_with fail
      go_ret
      exact ⟨by rw [← HN.out]; first | rfl | simp, hk1⟩

set_option maxRecDepth 20000 in
set_option maxHeartbeats 3200000 in
theorem l9g_any (A : Option Addr) (n c : Nat) (cs : List Ctl) (v : Value) (r : Rul) (w : World) (hC : CtlsAt w w.heap.size A n cs) (hv : RulAt w w.heap.size v r) (hn : n ≤ 1048576) (hs : ∀ c ∈ cs, c.name.size ≤ 1048576) (hS : RulS r) (hw : RulW r) :
    Calls Try.prog 38 #[.slice A n c, v] w (Post (rulB cs r) w) := by
  have HV := Lib.hid (fun (Y : World) (hY : Below w.heap.size w Y) => (hv.below hY).wide hY.size)
  obtain ⟨A1, n1, c1, A2, n2, c2, A4, n4, c4, A5, n5, c5, B1, m1, d1, B2, m2, d2, B4, m4, d4, B5, m5, d5, C7, n7, c7, rfl, h1, h2, h3⟩ := hv
  have HBox : BoxN (w.alloc (.cells #[.int .i64 r.redex.roots, .slice A1 n1 c1, .slice A2 n2 c2, .int .i64 r.redex.edges, .slice A4 n4 c4, .slice A5 n5 c5, .int .i64 r.reactum.roots, .slice B1 m1 d1, .slice B2 m2 d2, .int .i64 r.reactum.edges, .slice B4 m4 d4, .slice B5 m5 d5, .slice C7 n7 c7] 41)) w.heap.size 41 [.int .i64 r.redex.roots, .slice A1 n1 c1, .slice A2 n2 c2, .int .i64 r.redex.edges, .slice A4 n4 c4, .slice A5 n5 c5, .int .i64 r.reactum.roots, .slice B1 m1 d1, .slice B2 m2 d2, .int .i64 r.reactum.edges, .slice B4 m4 d4, .slice B5 m5 d5, .slice C7 n7 c7] := BoxN.new w #[.int .i64 r.redex.roots, .slice A1 n1 c1, .slice A2 n2 c2, .int .i64 r.redex.edges, .slice A4 n4 c4, .slice A5 n5 c5, .int .i64 r.reactum.roots, .slice B1 m1 d1, .slice B2 m2 d2, .int .i64 r.reactum.edges, .slice B4 m4 d4, .slice B5 m5 d5, .slice C7 n7 c7] 41
  have hB0 := (Below.refl w.heap.size w).alloc (Nat.le_refl _) (.cells #[.int .i64 r.redex.roots, .slice A1 n1 c1, .slice A2 n2 c2, .int .i64 r.redex.edges, .slice A4 n4 c4, .slice A5 n5 c5, .int .i64 r.reactum.roots, .slice B1 m1 d1, .slice B2 m2 d2, .int .i64 r.reactum.edges, .slice B4 m4 d4, .slice B5 m5 d5, .slice C7 n7 c7] 41)
  obtain ⟨W, hW⟩ : ∃ W, w.alloc (.cells #[.int .i64 r.redex.roots, .slice A1 n1 c1, .slice A2 n2 c2, .int .i64 r.redex.edges, .slice A4 n4 c4, .slice A5 n5 c5, .int .i64 r.reactum.roots, .slice B1 m1 d1, .slice B2 m2 d2, .int .i64 r.reactum.edges, .slice B4 m4 d4, .slice B5 m5 d5, .slice C7 n7 c7] 41) = W := ⟨_, rfl⟩
  have hWs : w.heap.size < W.heap.size := by rw [← hW]; simp
  rw [hW] at HBox hB0
  have HBox := Lib.hid HBox
  have HB0 := Lib.hid hB0
  have HWq := Lib.hid hW
  have HV1 := Lib.hid (fun (Y : World) (hY : Below w.heap.size w Y) => (h1.below hY).wide hY.size)
  have HV2 := Lib.hid (fun (Y : World) (hY : Below w.heap.size w Y) => (h2.below hY).wide hY.size)
  have HV3 := Lib.hid (fun (Y : World) (hY : Below w.heap.size w Y) => (h3.below hY).wide hY.size)
  clear hB0 hW
  have HC1 := Lib.hid (fun (Y : World) (hY : Below w.heap.size w Y) => l8r_any A n c cs _ r.redex Y ((hC.below hY).wide hY.size) (HV1.out Y hY) hn hs hS.1 hw.1)
  have HC2 := Lib.hid (fun (Y : World) (hY : Below w.heap.size w Y) => l2Good_any A n c cs _ r.reactum Y ((hC.below hY).wide hY.size) (HV2.out Y hY) hn hs hS.2.1 hw.2.1)
  have HC4 := Lib.hid (fun (Y : World) (hY : Below w.heap.size w Y) => l9c_any _ r Y (HV.out Y hY) hS)
  have h1' := h1
  have h2' := h2
  obtain ⟨_, _, _, _, _, _, _, _, _, _, _, _, e1, -, -, s1, -⟩ := h1'
  obtain ⟨_, _, _, _, _, _, _, _, _, _, _, _, e2, -, -, s2, s3⟩ := h2'
  simp only [Value.agg.injEq, Array.mk.injEq, List.cons.injEq, Value.slice.injEq, and_true, true_and] at e1 e2
  obtain ⟨-, -, ⟨rfl, rfl, rfl⟩, -⟩ := e1
  obtain ⟨-, -, ⟨rfl, rfl, rfl⟩, ⟨rfl, rfl, rfl⟩⟩ := e2
  have k4 : n4 ≤ 1048576 := by have := s1.strlen; have := hS.1.2.2.2.1; omega
  have k5 : m4 ≤ 1048576 := by have := s2.strlen; have := hS.2.1.2.2.2.1; omega
  have HSt := Lib.hid (fun (Y : World) (hY : Below w.heap.size w Y) => sameN_any A4 n4 c4 r.redex.outer B4 m4 d4 r.reactum.outer Y _ _ (s1.below hY) (s2.below hY) hY.size hY.size k4 k5)
  have HL5 := Lib.hid s3.1
  have hL5m : m5 ≤ 1048576 := by have := s3.1; have := hS.2.1.2.2.2.2.2.1; omega
  obtain ⟨q1, hq1⟩ : ∃ q, rdQ cs r.redex = q := ⟨_, rfl⟩
  obtain ⟨q2, hq2⟩ : ∃ q, bigB cs r.reactum = q := ⟨_, rfl⟩
  obtain ⟨q4, hq4⟩ : ∃ q, decide (r.redex.outer = r.reactum.outer) = q := ⟨_, rfl⟩
  obtain ⟨q5, hq5⟩ : ∃ q, (copyB r && decide (r.copies.length = r.reactum.sites.length)) = q := ⟨_, rfl⟩
  obtain ⟨R1, hR1⟩ : ∃ R, r.redex.roots = R := ⟨_, rfl⟩
  obtain ⟨R2, hR2⟩ : ∃ R, r.reactum.roots = R := ⟨_, rfl⟩
  obtain ⟨g, hg⟩ : ∃ g, rulB cs r = g := ⟨_, rfl⟩
  have HQ1 := Lib.hid hq1
  have HQ2 := Lib.hid hq2
  have HQ4 := Lib.hid hq4
  have HQ5 := Lib.hid hq5
  have HR1 := Lib.hid hR1
  have HR2 := Lib.hid hR2
  have HG := Lib.hid hg
  rw [hq1] at HC1
  rw [hq2] at HC2
  rw [hq4] at HSt
  rw [hq5] at HC4
  rw [hg]
  rw [hR1, hR2] at HBox HWq HC4 ⊢
  rw [hR1] at HC1
  rw [hR2] at HC2
  clear hq1 hq2 hq4 hq5 hg hR1 hR2 hC hn hs hS hw h1 h2 h3 s1 s2 s3 k4 k5 HV HV1 HV2 HV3
  obtain ⟨x0, x1, x2, x3, x4, x5, x6, x7, x8, x9, x10, x11, x12⟩ := get13 HBox.out
  go_enter Try.func38, Try.ntmps38
  go_wp2_with fail
  rw [HWq.out]
  go_wp2_with fail
  refine (HC1.out W HB0.out).mono ?_
  rintro e w1 ⟨rfl, hb⟩
  have hb1 := HB0.out.trans (hb.mono HB0.out.size)
  have HBx := HBox.out.on hb
  clear hb x0 x1 x2 x3 x4 x5 x6 x7 x8 x9 x10 x11 x12
  cases q1 with
  | false =>
    have hgf : g = false := by rw [← HG.out]; exact rul_no (fun h => by rw [HQ1.out] at h; exact Bool.noConfusion h.1)
    subst hgf
    go_wp2_with fail
    go_ret
    exact ⟨rfl, hb1⟩
  | true =>
    obtain ⟨x0, x1, x2, x3, x4, x5, x6, x7, x8, x9, x10, x11, x12⟩ := get13 HBx
    go_wp2_with fail
    refine (HC2.out w1 hb1).mono ?_
    rintro e w2 ⟨rfl, hb⟩
    have hb1 := hb1.trans (hb.mono hb1.size)
    have HBx := HBx.on hb
    clear hb x0 x1 x2 x3 x4 x5 x6 x7 x8 x9 x10 x11 x12
    cases q2 with
    | false =>
      have hgf : g = false := by rw [← HG.out]; exact rul_no (fun h => by rw [HQ2.out] at h; exact Bool.noConfusion h.2.1)
      subst hgf
      go_wp2_with fail
      go_ret
      exact ⟨rfl, hb1⟩
    | true =>
      obtain ⟨x0, x1, x2, x3, x4, x5, x6, x7, x8, x9, x10, x11, x12⟩ := get13 HBx
      by_cases a5 : m5 = 0
      · by_cases aR : R1 = R2
        · subst a5 aR
          go_wp2_with fail
          refine (HSt.out w2 hb1).mono ?_
          rintro e w3 ⟨rfl, hb⟩
          have hb1 := hb1.trans (hb.mono hb1.size)
          have HBx := HBx.on hb
          clear hb x0 x1 x2 x3 x4 x5 x6 x7 x8 x9 x10 x11 x12
          cases q4 with
          | false =>
            have hgf : g = false := by rw [← HG.out]; exact rul_no (fun h => by have := h.2.2.2.2.1; rw [decide_eq_true this] at HQ4; exact Bool.noConfusion HQ4.out)
            subst hgf
            go_wp2_with fail
            go_ret
            exact ⟨rfl, hb1⟩
          | true =>
            obtain ⟨x0, x1, x2, x3, x4, x5, x6, x7, x8, x9, x10, x11, x12⟩ := get13 HBx
            have hgf : q5 = g := by
              rw [← HG.out, ← HQ5.out]
              unfold rulB
              rw [HQ1.out, HQ2.out, HQ4.out, HL5.out, HR1.out, HR2.out, Bool.and_comm (copyB r)]
              simp
            subst hgf
            go_wp2_with fail
            refine (HC4.out w3 hb1).mono ?_
            rintro e w4 ⟨rfl, hb⟩
            have hb1 := hb1.trans (hb.mono hb1.size)
            clear hb x0 x1 x2 x3 x4 x5 x6 x7 x8 x9 x10 x11 x12
            go_wp2_with fail
            go_ret
            exact ⟨rfl, hb1⟩
        · have aR' : (R1 == R2) = false := by simpa using aR
          subst a5
          have hgf : g = false := by rw [← HG.out]; exact rul_no (fun h => by have := h.2.2.2.1; rw [HR1.out, HR2.out] at this; exact aR this)
          subst hgf
          go_wp2_with fail
          go_ret
          exact ⟨rfl, hb1⟩
      · have a5' : ¬ ((m5 : Int) = 0) := by omega
        have hgf : g = false := by rw [← HG.out]; exact rul_no (fun h => by have := h.2.2.1; rw [HL5.out] at this; exact a5 this)
        subst hgf
        go_wp2_with fail
        go_ret
        exact ⟨rfl, hb1⟩
theorem sRu_any (A : Option Addr) (n c : Nat) (cs : List Ctl) (v : Value) (r : Rul) (w : World) (hC : CtlsAt w w.heap.size A n cs) (hv : RulAt w w.heap.size v r) (hn : n ≤ 1048576) (hs : ∀ c ∈ cs, c.name.size ≤ 1048576) (hS : RulS r) (hw : RulW r) :
    Calls Try.prog 10 #[.slice A n c, v] w (Post (rulB cs r) w) := by
  have C := l9g_any A n c cs v r w hC hv hn hs hS hw
  have HV := Lib.hid (fun (Y : World) (hY : Below w.heap.size w Y) => l9g_any A n c cs v r Y ((hC.below hY).wide hY.size) ((hv.below hY).wide hY.size) hn hs hS hw)
  obtain ⟨A1, n1, c1, A2, n2, c2, A4, n4, c4, A5, n5, c5, B1, m1, d1, B2, m2, d2, B4, m4, d4, B5, m5, d5, C7, n7, c7, rfl, h1, h2, h3⟩ := hv
  have HBox : BoxN (w.alloc (.cells #[.int .i64 r.redex.roots, .slice A1 n1 c1, .slice A2 n2 c2, .int .i64 r.redex.edges, .slice A4 n4 c4, .slice A5 n5 c5, .int .i64 r.reactum.roots, .slice B1 m1 d1, .slice B2 m2 d2, .int .i64 r.reactum.edges, .slice B4 m4 d4, .slice B5 m5 d5, .slice C7 n7 c7] 41)) w.heap.size 41 [.int .i64 r.redex.roots, .slice A1 n1 c1, .slice A2 n2 c2, .int .i64 r.redex.edges, .slice A4 n4 c4, .slice A5 n5 c5, .int .i64 r.reactum.roots, .slice B1 m1 d1, .slice B2 m2 d2, .int .i64 r.reactum.edges, .slice B4 m4 d4, .slice B5 m5 d5, .slice C7 n7 c7] := BoxN.new w #[.int .i64 r.redex.roots, .slice A1 n1 c1, .slice A2 n2 c2, .int .i64 r.redex.edges, .slice A4 n4 c4, .slice A5 n5 c5, .int .i64 r.reactum.roots, .slice B1 m1 d1, .slice B2 m2 d2, .int .i64 r.reactum.edges, .slice B4 m4 d4, .slice B5 m5 d5, .slice C7 n7 c7] 41
  have hB0 := (Below.refl w.heap.size w).alloc (Nat.le_refl _) (.cells #[.int .i64 r.redex.roots, .slice A1 n1 c1, .slice A2 n2 c2, .int .i64 r.redex.edges, .slice A4 n4 c4, .slice A5 n5 c5, .int .i64 r.reactum.roots, .slice B1 m1 d1, .slice B2 m2 d2, .int .i64 r.reactum.edges, .slice B4 m4 d4, .slice B5 m5 d5, .slice C7 n7 c7] 41)
  obtain ⟨W, hW⟩ : ∃ W, w.alloc (.cells #[.int .i64 r.redex.roots, .slice A1 n1 c1, .slice A2 n2 c2, .int .i64 r.redex.edges, .slice A4 n4 c4, .slice A5 n5 c5, .int .i64 r.reactum.roots, .slice B1 m1 d1, .slice B2 m2 d2, .int .i64 r.reactum.edges, .slice B4 m4 d4, .slice B5 m5 d5, .slice C7 n7 c7] 41) = W := ⟨_, rfl⟩
  have hWs : w.heap.size < W.heap.size := by rw [← hW]; simp
  rw [hW] at HBox hB0
  have HBox := Lib.hid HBox
  have HB0 := Lib.hid hB0
  have HWq := Lib.hid hW
  have HV1 := Lib.hid (fun (Y : World) (hY : Below w.heap.size w Y) => (h1.below hY).wide hY.size)
  have HV2 := Lib.hid (fun (Y : World) (hY : Below w.heap.size w Y) => (h2.below hY).wide hY.size)
  have HV3 := Lib.hid (fun (Y : World) (hY : Below w.heap.size w Y) => (h3.below hY).wide hY.size)
  clear hB0 hW
  clear h1 h2 h3 hC hn hs hS hw C HV1 HV2 HV3
  obtain ⟨g, hg⟩ : ∃ g, rulB cs r = g := ⟨_, rfl⟩
  rw [hg] at HV ⊢
  clear hg
  obtain ⟨x0, x1, x2, x3, x4, x5, x6, x7, x8, x9, x10, x11, x12⟩ := get13 HBox.out
  go_enter Try.func10, Try.ntmps10
  go_wp2_with fail
  rw [HWq.out]
  go_wp2_with fail
  refine (HV.out W HB0.out).mono ?_
  rintro e w1 ⟨rfl, hb⟩
  have hb1 := HB0.out.trans (hb.mono HB0.out.size)
  clear hb x0 x1 x2 x3 x4 x5 x6 x7 x8 x9 x10 x11 x12
  go_wp2_with fail
  go_ret
  exact ⟨rfl, hb1⟩
/-! ### impl -/
set_option maxRecDepth 20000 in
set_option maxHeartbeats 800000 in
theorem rcl_any (β : Nat) (r : Rul) (A1 A2 A4 A5 B1 B2 B4 B5 C7 : Option Addr) (n1 c1 n2 c2 n4 c4 n5 c5 m1 d1 m2 d2 m4 d4 m5 d5 n7 c7 : Nat) (R1 R2 x : Int) (w : World) (hbx : BoxN w β 41 [.int .i64 R1, .slice A1 n1 c1, .slice A2 n2 c2, .int .i64 r.redex.edges, .slice A4 n4 c4, .slice A5 n5 c5, .int .i64 R2, .slice B1 m1 d1, .slice B2 m2 d2, .int .i64 r.reactum.edges, .slice B4 m4 d4, .slice B5 m5 d5, .slice C7 n7 c7]) (h2 : n2 ≤ 1048576) :
    Calls Try.prog 45 #[.int .i64 x, .pointer (some ⟨β, 0, none⟩)] w (Post (!inb x 0 ((n2 : Int) - 1)) w) := by
  have hβ := hbx.lt
  obtain ⟨x0, x1, x2, x3, x4, x5, x6, x7, x8, x9, x10, x11, x12⟩ := get13 hbx
  have hb := Below.refl w.heap.size w
  cases hq : inb x 0 ((n2 : Int) - 1) with
  | true =>
    go_enter Try.func45, Try.ntmps45
    go_wp2_with (go_at_call 46; refine (win_any _ _ _ _).mono ?_; rintro e w' ⟨rfl, rfl⟩)
    go_ret
    exact ⟨rfl, hb⟩
  | false =>
    go_enter Try.func45, Try.ntmps45
    go_wp2_with (go_at_call 46; refine (win_any _ _ _ _).mono ?_; rintro e w' ⟨rfl, rfl⟩)
    go_ret
    exact ⟨rfl, hb⟩
theorem copyB_any (r : Rul) : (r.copies.any fun x => !inb x 0 ((r.redex.sites.length : Int) - 1)) = !copyB r := by
  unfold copyB
  rw [List.not_all_eq_any_not]
set_option maxRecDepth 20000 in
set_option maxHeartbeats 3200000 in
theorem iRu_any (A : Option Addr) (n c : Nat) (cs : List Ctl) (v : Value) (r : Rul) (w : World) (hC : CtlsAt w w.heap.size A n cs) (hv : RulAt w w.heap.size v r) (hn : n ≤ 1048576) (hs : ∀ c ∈ cs, c.name.size ≤ 1048576) (hS : RulS r) (hw : RulW r) :
    Calls Try.prog 13 #[.slice A n c, v] w (Post (rulB cs r) w) := by
  obtain ⟨A1, n1, c1, A2, n2, c2, A4, n4, c4, A5, n5, c5, B1, m1, d1, B2, m2, d2, B4, m4, d4, B5, m5, d5, C7, n7, c7, rfl, h1, h2, h3⟩ := hv
  have HBox : BoxN (w.alloc (.cells #[.int .i64 r.redex.roots, .slice A1 n1 c1, .slice A2 n2 c2, .int .i64 r.redex.edges, .slice A4 n4 c4, .slice A5 n5 c5, .int .i64 r.reactum.roots, .slice B1 m1 d1, .slice B2 m2 d2, .int .i64 r.reactum.edges, .slice B4 m4 d4, .slice B5 m5 d5, .slice C7 n7 c7] 41)) w.heap.size 41 [.int .i64 r.redex.roots, .slice A1 n1 c1, .slice A2 n2 c2, .int .i64 r.redex.edges, .slice A4 n4 c4, .slice A5 n5 c5, .int .i64 r.reactum.roots, .slice B1 m1 d1, .slice B2 m2 d2, .int .i64 r.reactum.edges, .slice B4 m4 d4, .slice B5 m5 d5, .slice C7 n7 c7] := BoxN.new w #[.int .i64 r.redex.roots, .slice A1 n1 c1, .slice A2 n2 c2, .int .i64 r.redex.edges, .slice A4 n4 c4, .slice A5 n5 c5, .int .i64 r.reactum.roots, .slice B1 m1 d1, .slice B2 m2 d2, .int .i64 r.reactum.edges, .slice B4 m4 d4, .slice B5 m5 d5, .slice C7 n7 c7] 41
  have hB0 := (Below.refl w.heap.size w).alloc (Nat.le_refl _) (.cells #[.int .i64 r.redex.roots, .slice A1 n1 c1, .slice A2 n2 c2, .int .i64 r.redex.edges, .slice A4 n4 c4, .slice A5 n5 c5, .int .i64 r.reactum.roots, .slice B1 m1 d1, .slice B2 m2 d2, .int .i64 r.reactum.edges, .slice B4 m4 d4, .slice B5 m5 d5, .slice C7 n7 c7] 41)
  obtain ⟨W, hW⟩ : ∃ W, w.alloc (.cells #[.int .i64 r.redex.roots, .slice A1 n1 c1, .slice A2 n2 c2, .int .i64 r.redex.edges, .slice A4 n4 c4, .slice A5 n5 c5, .int .i64 r.reactum.roots, .slice B1 m1 d1, .slice B2 m2 d2, .int .i64 r.reactum.edges, .slice B4 m4 d4, .slice B5 m5 d5, .slice C7 n7 c7] 41) = W := ⟨_, rfl⟩
  have hWs : w.heap.size < W.heap.size := by rw [← hW]; simp
  rw [hW] at HBox hB0
  have HBox := Lib.hid HBox
  have HB0 := Lib.hid hB0
  have HWq := Lib.hid hW
  have HV1 := Lib.hid (fun (Y : World) (hY : Below w.heap.size w Y) => (h1.below hY).wide hY.size)
  have HV2 := Lib.hid (fun (Y : World) (hY : Below w.heap.size w Y) => (h2.below hY).wide hY.size)
  have HV3 := Lib.hid (fun (Y : World) (hY : Below w.heap.size w Y) => (h3.below hY).wide hY.size)
  clear hB0 hW
  have HC1 := Lib.hid (fun (Y : World) (hY : Below w.heap.size w Y) => iRd_any A n c cs _ r.redex Y ((hC.below hY).wide hY.size) (HV1.out Y hY) hn hs hS.1 hw.1)
  have HC2 := Lib.hid (fun (Y : World) (hY : Below w.heap.size w Y) => isBig_any A n c cs _ r.reactum Y ((hC.below hY).wide hY.size) (HV2.out Y hY) hn hs hS.2.1 hw.2.1)
  have h1' := h1
  have h2' := h2
  obtain ⟨_, _, _, _, _, _, _, _, _, _, _, _, e1, -, z1, s1, -⟩ := h1'
  obtain ⟨_, _, _, _, _, _, _, _, _, _, _, _, e2, -, z2, s2, s3⟩ := h2'
  simp only [Value.agg.injEq, Array.mk.injEq, List.cons.injEq, Value.slice.injEq, and_true, true_and] at e1 e2
  obtain ⟨-, ⟨rfl, rfl, rfl⟩, ⟨rfl, rfl, rfl⟩, -⟩ := e1
  obtain ⟨-, ⟨rfl, rfl, rfl⟩, ⟨rfl, rfl, rfl⟩, ⟨rfl, rfl, rfl⟩⟩ := e2
  have k4 : n4 ≤ 1048576 := by have := s1.strlen; have := hS.1.2.2.2.1; omega
  have k5 : m4 ≤ 1048576 := by have := s2.strlen; have := hS.2.1.2.2.2.1; omega
  have HSt := Lib.hid (fun (Y : World) (hY : Below w.heap.size w Y) => eqStr_any A4 n4 c4 r.redex.outer B4 m4 d4 r.reactum.outer Y _ _ (s1.below hY) (s2.below hY) hY.size hY.size k4 k5)
  have HL5 := Lib.hid s3.1
  have HL1 := Lib.hid z1.len
  have HL2 := Lib.hid z2.len
  have HL7 := Lib.hid h3.len
  have hL5m : m5 ≤ 1048576 := by have := s3.1; have := hS.2.1.2.2.2.2.2.1; omega
  have hL1m : n2 ≤ 1048576 := by have := z1.len; have := hS.1.2.2.1; omega
  have hL2m : m2 ≤ 1048576 := by have := z2.len; have := hS.2.1.2.2.1; omega
  have hL7m : n7 ≤ 1048576 := by have := h3.len; have := hS.2.2; omega
  obtain ⟨q1, hq1⟩ : ∃ q, rdQ cs r.redex = q := ⟨_, rfl⟩
  obtain ⟨q2, hq2⟩ : ∃ q, bigB cs r.reactum = q := ⟨_, rfl⟩
  obtain ⟨q4, hq4⟩ : ∃ q, decide (r.redex.outer = r.reactum.outer) = q := ⟨_, rfl⟩
  obtain ⟨R1, hR1⟩ : ∃ R, r.redex.roots = R := ⟨_, rfl⟩
  obtain ⟨R2, hR2⟩ : ∃ R, r.reactum.roots = R := ⟨_, rfl⟩
  obtain ⟨g, hg⟩ : ∃ g, rulB cs r = g := ⟨_, rfl⟩
  have HQ1 := Lib.hid hq1
  have HQ2 := Lib.hid hq2
  have HQ4 := Lib.hid hq4
  have HR1 := Lib.hid hR1
  have HR2 := Lib.hid hR2
  have HG := Lib.hid hg
  rw [hq1] at HC1
  rw [hq2] at HC2
  rw [hq4] at HSt
  rw [hg]
  rw [hR1, hR2] at HBox HWq ⊢
  rw [hR1] at HC1
  rw [hR2] at HC2
  have HF := Lib.hid (fun (Y : World) (hY : Below w.heap.size w Y) (hB : BoxN Y w.heap.size 41 [.int .i64 R1, .slice A1 n1 c1, .slice A2 n2 c2, .int .i64 r.redex.edges, .slice A4 n4 c4, .slice A5 n5 c5, .int .i64 R2, .slice B1 m1 d1, .slice B2 m2 d2, .int .i64 r.reactum.edges, .slice B4 m4 d4, .slice B5 m5 d5, .slice C7 n7 c7]) =>
    cfi_any 45 #[.pointer (some ⟨w.heap.size, 0, none⟩)] (fun x => !inb x 0 ((n2 : Int) - 1)) (enters_of Try.func45 (by kernel_rfl) rfl) C7 n7 c7 r.copies w Y
      (fun x Z _ hZ => by simpa using rcl_any w.heap.size r A1 A2 A4 A5 B1 B2 B4 B5 C7 n1 c1 n2 c2 n4 c4 n5 c5 m1 d1 m2 d2 m4 d4 m5 d5 n7 c7 R1 R2 x Z (hB.on hZ) hL1m) h3 hY hL7m)
  have hany : (r.copies.any fun x => !inb x 0 ((n2 : Int) - 1)) = !copyB r := by rw [← copyB_any, HL1.out]
  obtain ⟨q5, hq5⟩ : ∃ q, copyB r = q := ⟨_, rfl⟩
  rw [hany, hq5] at HF
  have HQ5 := Lib.hid hq5
  clear hq1 hq2 hq4 hq5 hg hR1 hR2 hC hn hs hS hw h1 h2 h3 s1 s2 s3 z1 z2 k4 k5 HV1 HV2 HV3 hany
  obtain ⟨x0, x1, x2, x3, x4, x5, x6, x7, x8, x9, x10, x11, x12⟩ := get13 HBox.out
  go_enter Try.func13, Try.ntmps13
  go_wp2_with fail
  rw [HWq.out]
  go_wp2_with fail
  refine (HC1.out W HB0.out).mono ?_
  rintro e w1 ⟨rfl, hb⟩
  have hb1 := HB0.out.trans (hb.mono HB0.out.size)
  have HBx := HBox.out.on hb
  clear hb x0 x1 x2 x3 x4 x5 x6 x7 x8 x9 x10 x11 x12
  obtain ⟨x0, x1, x2, x3, x4, x5, x6, x7, x8, x9, x10, x11, x12⟩ := get13 HBx
  cases q1 with
  | false =>
    have hgf : g = false := by rw [← HG.out]; exact rul_no (fun h => by rw [HQ1.out] at h; exact Bool.noConfusion h.1)
    subst hgf
    go_wp2_with fail
    go_ret
    exact ⟨rfl, hb1⟩
  | true =>
    go_wp2_with fail
    refine (HC2.out w1 hb1).mono ?_
    rintro e w2 ⟨rfl, hb⟩
    have hb1 := hb1.trans (hb.mono hb1.size)
    have HBx := HBx.on hb
    clear hb x0 x1 x2 x3 x4 x5 x6 x7 x8 x9 x10 x11 x12
    obtain ⟨x0, x1, x2, x3, x4, x5, x6, x7, x8, x9, x10, x11, x12⟩ := get13 HBx
    cases q2 with
    | false =>
      have hgf : g = false := by rw [← HG.out]; exact rul_no (fun h => by rw [HQ2.out] at h; exact Bool.noConfusion h.2.1)
      subst hgf
      go_wp2_with fail
      go_ret
      exact ⟨rfl, hb1⟩
    | true =>
      by_cases a5 : m5 = 0
      · by_cases aR : R1 = R2
        · subst a5 aR
          go_wp2_with fail
          refine (HSt.out w2 hb1).mono ?_
          rintro e w3 ⟨rfl, hb⟩
          have hb1 := hb1.trans (hb.mono hb1.size)
          have HBx := HBx.on hb
          clear hb x0 x1 x2 x3 x4 x5 x6 x7 x8 x9 x10 x11 x12
          obtain ⟨x0, x1, x2, x3, x4, x5, x6, x7, x8, x9, x10, x11, x12⟩ := get13 HBx
          cases q4 with
          | false =>
            have hgf : g = false := by rw [← HG.out]; exact rul_no (fun h => by have := h.2.2.2.2.1; rw [decide_eq_true this] at HQ4; exact Bool.noConfusion HQ4.out)
            subst hgf
            go_wp2_with fail
            go_ret
            exact ⟨rfl, hb1⟩
          | true =>
            by_cases a7 : n7 = m2
            · have hgf : q5 = g := by
                rw [← HG.out, ← HQ5.out]
                exact (rul_mk HQ1.out HQ2.out HL5.out (by rw [HR1.out, HR2.out]) (of_decide_eq_true HQ4.out) (by rw [HL7.out, HL2.out, a7])).symm
              subst a7
              subst hgf
              go_wp2_with fail
              refine (HF.out w3 hb1 HBx).mono ?_
              rintro e w4 ⟨rfl, hb⟩
              have hb1 := hb1.trans (hb.mono hb1.size)
              clear hb x0 x1 x2 x3 x4 x5 x6 x7 x8 x9 x10 x11 x12
              go_wp2_with fail
              go_ret
              exact ⟨by simp, hb1⟩
            · have a7' : ¬ ((n7 : Int) = m2) := by omega
              have hgf : g = false := by rw [← HG.out]; exact rul_no (fun h => by have := h.2.2.2.2.2.1; rw [HL7.out, HL2.out] at this; exact a7 this)
              subst hgf
              go_wp2_with fail
              go_ret
              exact ⟨rfl, hb1⟩
        · have aR' : (R1 == R2) = false := by simpa using aR
          subst a5
          have hgf : g = false := by rw [← HG.out]; exact rul_no (fun h => by have := h.2.2.2.1; rw [HR1.out, HR2.out] at this; exact aR this)
          subst hgf
          go_wp2_with fail
          go_ret
          exact ⟨rfl, hb1⟩
      · have a5' : 0 < m5 := by omega
        have hgf : g = false := by rw [← HG.out]; exact rul_no (fun h => by have := h.2.2.1; rw [HL5.out] at this; exact a5 this)
        subst hgf
        go_wp2_with fail
        go_ret
        exact ⟨rfl, hb1⟩
end Go.Proofs.Ytfjgapkjpmkplaa.rui
