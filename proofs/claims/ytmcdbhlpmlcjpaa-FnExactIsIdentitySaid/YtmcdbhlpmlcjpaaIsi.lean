/- IsIdentity of spec and impl. -/
import Derived.Test.YtmcdbhlpmlcjpaaSme
import Derived.Test.YtmcdbhlpmlcjpaaQc
import Derived.Test.YtmcdbhlpmlcjpaaQb
import Derived.Test.YtmcdbhlpmlcjpaaQe
namespace Go.Proofs.Ytmcdbhlpmlcjpaa.isi
open kit bg sg opn strs only hb sig isig un over gn nm inn ht gd im pt marks eqs hc hi hw hn rs br bm bw cf lf ib isa lawb lw cl pl mb wb nw cz ix su sx idn idz eqx sme
open Go.RowKit
set_option linter.unusedVariables false
set_option linter.unusedSimpArgs false
noncomputable def isiQ (cs : List Ctl) (b : Big) : Bool := bigB cs b && iidQ b.nodes.length b.edges b.sites b.roots.toNat b.outer b.inner
theorem isi_no {cs : List Ctl} {b : Big} (h : bigB cs b = false) : isiQ cs b = false := by unfold isiQ; rw [h]; rfl
theorem isi_is {cs : List Ctl} {b : Big} (h : bigB cs b = true) : isiQ cs b = iidQ b.nodes.length b.edges b.sites b.roots.toNat b.outer b.inner := by unfold isiQ; rw [h]; rfl
theorem big_faces {cs : List Ctl} {b : Big} (h : bigB cs b = true) : (∃ R : Nat, b.roots = R ∧ R ≤ 4) ∧ (0 ≤ b.edges ∧ b.edges ≤ 8) ∧ NamesP b.outer ∧ b.outer.length ≤ 16 := by
  have hs := sizes_of (big_of h).2.1
  refine ⟨⟨b.roots.toNat, ?_, ?_⟩, hs.2.1, (big_of h).2.2.1, ?_⟩ <;> omega
theorem idq_big {R : Nat} {ou : List ByteArray} (h : R ≤ 4) (hn : NamesP ou) (hl : ou.length ≤ 16) : idQ (R : Int) ou = true :=
  id_yes (inb_mk ⟨by omega, by omega⟩) (by unfold faceB; rw [names_true hn, decide_eq_true (by omega)]; rfl)
theorem id_rows {w : World} {lo hi R m : Nat} {v : Value} {ou : List ByteArray} (h : BigR w lo hi v (idB R ou)) (hm : ou.length = m) : ∃ A1 c1 A2 c2 A4 c4 A5 c5, v = .agg #[.int .i64 R, .slice A1 0 c1, .slice A2 R c2, .int .i64 0, .slice A4 m c4, .slice A5 m c5] ∧ IntsAt w hi A2 R (downs R) ∧ SR w hi A4 m (ou.map Value.string) ∧ WrsAt w hi A5 m (tied ou (nums ou.length)) := by
  obtain ⟨P, e, -, -, h2, h4, h5⟩ := h
  have e1 : (idB R ou).sites.length = R := downs_len R
  have e2 : (idB R ou).inner.length = m := by show (tied ou (nums ou.length)).length = m; rw [tied_len (nums_len _), hm]
  rw [e1] at e h2
  rw [e2] at e h5
  subst hm
  exact ⟨P.A1, P.c1, P.A2, P.c2, P.A4, P.c4, P.A5, P.c5, e, intsR_at' h2 (downs_len R), strsR_at h4, wrsR_at h5 (tied_len (nums_len _))⟩
set_option maxRecDepth 20000 in
set_option maxHeartbeats 3200000 in
theorem iIsi_any (A : Option Addr) (n c : Nat) (cs : List Ctl) (v : Value) (b : Big) (w : World) (hC : CtlsAt w w.heap.size A n cs) (hv : BigAt w w.heap.size v b) (hNil : NilV v) (hn : n ≤ 1048576) (hs : ∀ c ∈ cs, c.name.size ≤ 1048576) (hS : BigS b) (hw : BigW b) :
    Calls Try.prog 32 #[.slice A n c, v] w (Post (isiQ cs b) w) := by
  obtain ⟨A1, n1, c1, A2, n2, c2, A4, n4, c4, A5, n5, c5, rfl, h1, h2, h4, h5⟩ := hv
  have HBox : Hid (BoxAt (w.alloc (.cells #[.int .i64 b.roots, .slice A1 n1 c1, .slice A2 n2 c2, .int .i64 b.edges, .slice A4 n4 c4, .slice A5 n5 c5] 28)) w.heap.size 28 (.int .i64 b.roots) (.slice A1 n1 c1) (.slice A2 n2 c2) (.int .i64 b.edges) (.slice A4 n4 c4) (.slice A5 n5 c5)) := Lib.hid (six_new w _ _ _ _ _ _ _)
  have HB0 := Lib.hid ((Below.refl w.heap.size w).alloc (Nat.le_refl _) (.cells #[.int .i64 b.roots, .slice A1 n1 c1, .slice A2 n2 c2, .int .i64 b.edges, .slice A4 n4 c4, .slice A5 n5 c5] 28))
  obtain ⟨W, hW⟩ : ∃ W, w.alloc (.cells #[.int .i64 b.roots, .slice A1 n1 c1, .slice A2 n2 c2, .int .i64 b.edges, .slice A4 n4 c4, .slice A5 n5 c5] 28) = W := ⟨_, rfl⟩
  have hWz : W.heap.size = w.heap.size + 1 := by rw [← hW]; simp
  rw [hW] at HBox HB0
  have HWq := Lib.hid hW
  have hWs : w.heap.size < W.heap.size := by omega
  have hVW : BigAt W W.heap.size (.agg #[.int .i64 b.roots, .slice A1 n1 c1, .slice A2 n2 c2, .int .i64 b.edges, .slice A4 n4 c4, .slice A5 n5 c5]) b := BigAt.wide (BigAt.below ⟨_, _, _, _, _, _, _, _, _, _, _, _, rfl, h1, h2, h4, h5⟩ HB0.out) HB0.out.size
  clear hW hWz
  have HNl := Lib.hid hNil.get.2.2.1
  have C := isBig_any A n c cs _ b W ((hC.below HB0.out).wide HB0.out.size) hVW hn hs hS hw
  have l1 := h1.1
  have HL4 := Lib.hid h4.strlen
  have HL5 := Lib.hid h5.1
  have HL2 := Lib.hid h2.len
  have H2 := Lib.hid h2
  have H4 := Lib.hid h4
  have H5 := Lib.hid h5
  obtain ⟨x0, x1, x2, x3, x4, x5⟩ := HBox.out.get
  cases hq : bigB cs b with
  | false =>
    rw [hq] at C
    rw [isi_no hq]
    clear hq hVW h1 h2 h4 h5 hS hw
    go_enter Try.func32, Try.ntmps32
    go_wp2_with fail
    rw [HWq.out]
    go_wp2_with fail
    refine C.mono ?_
    rintro e w1 ⟨rfl, hb⟩
    have hb1 := HB0.out.trans (hb.mono HB0.out.size)
    clear x0 x1 x2 x3 x4 x5 C hb
    go_wp2_with fail
    go_ret
    exact ⟨rfl, hb1⟩
  | true =>
    rw [hq] at C
    rw [isi_is hq, l1]
    obtain ⟨⟨R, hR, hR4⟩, ⟨hE0, hE8⟩, hNp, hl16⟩ := big_faces hq
    have hsz := sizes_of (big_of hq).2.1
    have hs5 : n5 ≤ 16 := by have := HL5.out; omega
    have hs2 : n2 ≤ 4 := by have := HL2.out; omega
    rw [HL4.out] at hl16
    have HNp := Lib.hid hNp
    rw [hR, Int.toNat_natCast]
    rw [hR] at HBox HWq C x0
    have HWf := Lib.hid hR
    clear hq hVW h1 h2 h4 h5 hS hw hNp hR hsz
    have hwR : (Lit.int .i64 (R : Int)).wf = true := by
      have : ∀ k : Nat, k < 5 → (Lit.int .i64 (k : Int)).wf = true := by decide
      exact this R (by omega)
    by_cases hN : n1 = 0
    · subst hN
      by_cases hE : b.edges = 0
      · rw [hE] at HBox HWq C x3 ⊢
        go_enter Try.func32, Try.ntmps32
        go_wp2_with fail
        rw [HWq.out]
        go_wp2_with fail
        refine C.mono ?_
        rintro e w1 ⟨rfl, hb⟩
        have HB1 := Lib.hid (HB0.out.trans (hb.mono HB0.out.size))
        have HBox1 := Lib.hid (HBox.out.below hb hWs)
        have hw1s : w.heap.size < w1.heap.size := Nat.lt_of_lt_of_le hWs hb.size
        clear x0 x1 x2 x3 x4 x5 C hb
        obtain ⟨x0, x1, x2, x3, x4, x5⟩ := HBox1.out.get
        have CI := iId_any (R : Int) A4 n4 c4 b.outer w1 hwR ((H4.out.below HB1.out).wide HB1.out.size) (by omega) (fun s hs => by
          obtain ⟨k, hk⟩ := List.getElem?_of_mem hs
          have := (HNp.out).1 k s hk
          unfold nameB at this
          simp only [Bool.and_eq_true] at this
          have := inb_true this.2
          omega) HNl.out
        rw [idq_big hR4 HNp.out (by rw [HL4.out]; exact hl16)] at CI
        have HRid : Hid (idR (R : Int) b.outer = idB R b.outer) := Lib.hid (by rw [idR_yes (idq_big hR4 HNp.out (by rw [HL4.out]; exact hl16)), Int.toNat_natCast])
        go_wp2_with fail
        refine CI.mono ?_
        rintro e w2 ⟨v2, rfl, hr, hb⟩
        rw [HRid.out] at hr
        obtain ⟨p1, q1, B2, d2, B4, d4, B5, d5, rfl, k2, k4, k5⟩ := id_rows hr HL4.out
        have HB2 := Lib.hid (HB1.out.trans (hb.mono HB1.out.size))
        have hbX := (Below.refl w2.heap.size w2).alloc (Nat.le_refl _) (.cells #[.int .i64 R, .slice p1 0 q1, .slice B2 R d2, .int .i64 0, .slice B4 n4 d4, .slice B5 n4 d5] 28)
        have HBoxY : Hid (BoxAt (w2.alloc (.cells #[.int .i64 R, .slice p1 0 q1, .slice B2 R d2, .int .i64 0, .slice B4 n4 d4, .slice B5 n4 d5] 28)) w2.heap.size 28 (.int .i64 R) (.slice p1 0 q1) (.slice B2 R d2) (.int .i64 0) (.slice B4 n4 d4) (.slice B5 n4 d5)) := Lib.hid (six_new w2 _ _ _ _ _ _ _)
        have HBox2 := Lib.hid ((HBox1.out.on hb).on hbX)
        have HBX := Lib.hid (HB2.out.trans (hbX.mono HB2.out.size))
        have K2 := Lib.hid (k2.below hbX)
        have K5 := Lib.hid (k5.below hbX)
        obtain ⟨X, hX⟩ : ∃ X, w2.alloc (.cells #[.int .i64 R, .slice p1 0 q1, .slice B2 R d2, .int .i64 0, .slice B4 n4 d4, .slice B5 n4 d5] 28) = X := ⟨_, rfl⟩
        have hXz : w2.heap.size ≤ X.heap.size := by rw [← hX]; simp
        rw [hX] at HBoxY HBox2 HBX K2 K5
        have HXq := Lib.hid hX
        have CE := eqInt_any A2 n2 c2 b.sites B2 R d2 (downs R) X _ _ (H2.out.below HBX.out) K2.out HBX.out.size hXz (by omega) (by omega)
        clear x0 x1 x2 x3 x4 x5 CI hr hb k2 k4 k5 hbX hX
        obtain ⟨x0, x1, x2, x3, x4, x5⟩ := HBox2.out.get
        obtain ⟨y0, y1, y2, y3, y4, y5⟩ := HBoxY.out.get
        rw [← HXq.out] at x0 x1 x2 x3 x4 x5 y0 y1 y2 y3 y4 y5
        go_wp2_with fail
        rw [HXq.out]
        cases hz : decide (b.sites = downs R) with
        | false =>
          have HZn := Lib.hid (iid_no3 (n1 := 0) (E := 0) (ou := b.outer) (ws := b.inner) hz)
          rw [hz] at CE
          refine CE.mono ?_
          rintro e w3 ⟨rfl, hb3⟩
          have hb := HBX.out.trans (hb3.mono HBX.out.size)
          clear CE x0 x1 x2 x3 x4 x5 y0 y1 y2 y3 y4 y5
          go_wp2_with fail
          go_ret
          exact ⟨by rw [HZn.out]; rfl, hb⟩
        | true =>
          rw [hz] at CE
          refine CE.mono ?_
          rintro e w3 ⟨rfl, hb3⟩
          have HB3 := Lib.hid (HBX.out.trans (hb3.mono HBX.out.size))
          have HBox3 := Lib.hid (HBox2.out.on hb3)
          have HBoxZ := Lib.hid (HBoxY.out.on hb3)
          have CF := eqWr_any A5 n5 c5 b.inner B5 n4 d5 (tied b.outer (nums b.outer.length)) w3 _ _ (H5.out.below HB3.out) (K5.out.below (hb3.mono hXz)) HB3.out.size (Nat.le_trans hXz hb3.size) (by omega) (by omega)
          clear CE x0 x1 x2 x3 x4 x5 y0 y1 y2 y3 y4 y5 hb3
          obtain ⟨x0, x1, x2, x3, x4, x5⟩ := HBox3.out.get
          obtain ⟨y0, y1, y2, y3, y4, y5⟩ := HBoxZ.out.get
          have HF : Hid (iidQ 0 0 b.sites R b.outer b.inner = decide (b.inner = tied b.outer (nums b.outer.length))) := Lib.hid (by unfold iidQ; rw [hz]; rfl)
          obtain ⟨q, hq⟩ : ∃ q, decide (b.inner = tied b.outer (nums b.outer.length)) = q := ⟨_, rfl⟩
          rw [hq] at CF HF
          clear hq
          go_wp2_with fail
          refine CF.mono ?_
          rintro e w4 ⟨rfl, hb4⟩
          have hb := HB3.out.trans (hb4.mono HB3.out.size)
          clear CF x0 x1 x2 x3 x4 x5 y0 y1 y2 y3 y4 y5
          cases q with
          | false =>
            go_wp2_with fail
            go_ret
            exact ⟨by rw [HF.out]; rfl, hb⟩
          | true =>
            go_wp2_with fail
            go_ret
            exact ⟨by rw [HF.out]; rfl, hb⟩
      · rw [iid_no1 hE]
        have hEb : 0 < b.edges := by omega
        go_enter Try.func32, Try.ntmps32
        go_wp2_with fail
        rw [HWq.out]
        go_wp2_with fail
        refine C.mono ?_
        rintro e w1 ⟨rfl, hb⟩
        have hb1 := HB0.out.trans (hb.mono HB0.out.size)
        have HBox1 := Lib.hid (HBox.out.below hb hWs)
        clear x0 x1 x2 x3 x4 x5 C hb
        obtain ⟨x0, x1, x2, x3, x4, x5⟩ := HBox1.out.get
        go_wp2_with fail
        go_ret
        exact ⟨rfl, hb1⟩
    · rw [iid_no2 hN]
      have hNb : (0 : Int) < (n1 : Int) := by omega
      go_enter Try.func32, Try.ntmps32
      go_wp2_with fail
      rw [HWq.out]
      go_wp2_with fail
      refine C.mono ?_
      rintro e w1 ⟨rfl, hb⟩
      have hb1 := HB0.out.trans (hb.mono HB0.out.size)
      have HBox1 := Lib.hid (HBox.out.below hb hWs)
      clear x0 x1 x2 x3 x4 x5 C hb
      obtain ⟨x0, x1, x2, x3, x4, x5⟩ := HBox1.out.get
      go_wp2_with fail
      go_ret
      exact ⟨rfl, hb1⟩
set_option maxRecDepth 20000 in
set_option maxHeartbeats 6400000 in
theorem sIsi_any (A : Option Addr) (n c : Nat) (cs : List Ctl) (v : Value) (b : Big) (w : World) (hC : CtlsAt w w.heap.size A n cs) (hv : BigAt w w.heap.size v b) (hNil : NilV v) (hn : n ≤ 1048576) (hs : ∀ c ∈ cs, c.name.size ≤ 1048576) (hS : BigS b) (hw : BigW b) :
    Calls Try.prog 30 #[.slice A n c, v] w (Post (isiQ cs b) w) := by
  have hnil := hNil
  obtain ⟨A1, n1, c1, A2, n2, c2, A4, n4, c4, A5, n5, c5, rfl, h1, h2, h4, h5⟩ := hv
  have HBox : Hid (BoxAt (w.alloc (.cells #[.int .i64 b.roots, .slice A1 n1 c1, .slice A2 n2 c2, .int .i64 b.edges, .slice A4 n4 c4, .slice A5 n5 c5] 28)) w.heap.size 28 (.int .i64 b.roots) (.slice A1 n1 c1) (.slice A2 n2 c2) (.int .i64 b.edges) (.slice A4 n4 c4) (.slice A5 n5 c5)) := Lib.hid (six_new w _ _ _ _ _ _ _)
  have HB0 := Lib.hid ((Below.refl w.heap.size w).alloc (Nat.le_refl _) (.cells #[.int .i64 b.roots, .slice A1 n1 c1, .slice A2 n2 c2, .int .i64 b.edges, .slice A4 n4 c4, .slice A5 n5 c5] 28))
  obtain ⟨W, hW⟩ : ∃ W, w.alloc (.cells #[.int .i64 b.roots, .slice A1 n1 c1, .slice A2 n2 c2, .int .i64 b.edges, .slice A4 n4 c4, .slice A5 n5 c5] 28) = W := ⟨_, rfl⟩
  have hWz : W.heap.size = w.heap.size + 1 := by rw [← hW]; simp
  rw [hW] at HBox HB0
  have HWq := Lib.hid hW
  have hWs : w.heap.size < W.heap.size := by omega
  have hVW : BigAt W W.heap.size (.agg #[.int .i64 b.roots, .slice A1 n1 c1, .slice A2 n2 c2, .int .i64 b.edges, .slice A4 n4 c4, .slice A5 n5 c5]) b := BigAt.wide (BigAt.below ⟨_, _, _, _, _, _, _, _, _, _, _, _, rfl, h1, h2, h4, h5⟩ HB0.out) HB0.out.size
  clear hW hWz
  have HNl := Lib.hid hnil.get.2.2.1
  have C := Lib.hid (fun (Y : World) (hY : Below w.heap.size w Y) => l2Good_any A n c cs (.agg #[.int .i64 b.roots, .slice A1 n1 c1, .slice A2 n2 c2, .int .i64 b.edges, .slice A4 n4 c4, .slice A5 n5 c5]) b Y ((hC.below hY).wide hY.size) (BigAt.wide (BigAt.below ⟨_, _, _, _, _, _, _, _, _, _, _, _, rfl, h1, h2, h4, h5⟩ hY) hY.size) hn hs hS hw)
  have l1 := h1.1
  have HL4 := Lib.hid h4.strlen
  have HL5 := Lib.hid h5.1
  have HL2 := Lib.hid h2.len
  have H2 := Lib.hid h2
  have H4 := Lib.hid h4
  have H5 := Lib.hid h5
  have HS : Hid (∀ w', Below W.heap.size W w' → w'.cell? ⟨w.heap.size, 0, none⟩ = some (.int .i64 b.roots) ∧ w'.cell? ⟨w.heap.size, 1, none⟩ = some (.slice A1 n1 c1) ∧ w'.cell? ⟨w.heap.size, 2, none⟩ = some (.slice A2 n2 c2) ∧ w'.cell? ⟨w.heap.size, 3, none⟩ = some (.int .i64 b.edges) ∧ w'.cell? ⟨w.heap.size, 4, none⟩ = some (.slice A4 n4 c4) ∧ w'.cell? ⟨w.heap.size, 5, none⟩ = some (.slice A5 n5 c5)) := Lib.hid (fun w' hq => (HBox.out.on hq).get)
  have hkD := (Below.refl W.heap.size W).drew
  have hwD := HB0.out.drew
  cases hq : bigB cs b with
  | false =>
    rw [hq] at C
    rw [isi_no hq]
    clear hq hVW h1 h2 h4 h5 hS hw hnil hNil
    go_enter Try.func30, Try.ntmps30
    go_wp2_with fail
    rw [HWq.out]
    refine rh.go_begin 12 (fun w' => w'.cell? ⟨w.heap.size, 0, none⟩ = some (.int .i64 b.roots) ∧ w'.cell? ⟨w.heap.size, 1, none⟩ = some (.slice A1 n1 c1) ∧ w'.cell? ⟨w.heap.size, 2, none⟩ = some (.slice A2 n2 c2) ∧ w'.cell? ⟨w.heap.size, 3, none⟩ = some (.int .i64 b.edges) ∧ w'.cell? ⟨w.heap.size, 4, none⟩ = some (.slice A4 n4 c4) ∧ w'.cell? ⟨w.heap.size, 5, none⟩ = some (.slice A5 n5 c5)) (by kernel_rfl) ?_ (fun hHeld => ?_)
    · ((try dsimp only); exact HS.out _ hkD)
    refine rh.go_take (i := 0) (v := ?v1) rfl (by kernel_rfl) (fun _ _ _ h => h) (Or.inl ⟨by rfl, ?hy1⟩) (by assumption) ?rest1
    case hy1 => (intro wS hSw; (try dsimp only at hSw); go_simp; try (with_reducible rfl))
    try simp only [Act.put, List.setIfInBounds_toArray, List.set_cons_zero, List.set_cons_succ]
    refine rh.go_take (i := 1) (v := ?v2) rfl (by kernel_rfl) (fun _ _ _ h => h) (Or.inl ⟨by rfl, ?hy2⟩) (by assumption) ?rest2
    case hy2 => (intro wS hSw; (try dsimp only at hSw); go_simp; try (with_reducible rfl))
    try simp only [Act.put, List.setIfInBounds_toArray, List.set_cons_zero, List.set_cons_succ]
    refine rh.go_next (i := 2) rfl (by kernel_rfl) (fun K2 hK => ?_)
    (go_simp; go_at_call 74; refine (C.out W.drew hwD).mono ?_; rintro e w1 ⟨rfl, hb⟩; have hk1 := hkD.trans (hb.mono hkD.size); have hw1 := hwD.trans (hb.mono hwD.size); clear hb; go_wp2_with fail)
    refine hK.out _ _ ?_ (fun hHeld => ?_)
    · ((try dsimp only); exact HS.out _ hk1)
    clear hK K2
    try simp only [Act.put, List.setIfInBounds_toArray, List.set_cons_zero, List.set_cons_succ]
    refine rh.go_take (i := 3) (v := ?v3) rfl (by kernel_rfl) (fun _ _ _ h => h) (Or.inl ⟨by rfl, ?hy3⟩) (by assumption) ?rest3
    case hy3 => (intro wS hSw; (try dsimp only at hSw); go_simp; try (with_reducible rfl))
    try simp only [Act.put, List.setIfInBounds_toArray, List.set_cons_zero, List.set_cons_succ]
    have hHeld0 := HS.out _ hk1
    refine rh.go_take (i := 4) (v := undef) rfl (by kernel_rfl) (fun _ _ _ h => h) (Or.inr ⟨by rfl, rfl⟩) (by assumption) ?sk4
    try simp only [Act.put, List.setIfInBounds_toArray, List.set_cons_zero, List.set_cons_succ]
    refine rh.go_take (i := 5) (v := undef) rfl (by kernel_rfl) (fun _ _ _ h => h) (Or.inr ⟨by rfl, rfl⟩) (by assumption) ?sk5
    try simp only [Act.put, List.setIfInBounds_toArray, List.set_cons_zero, List.set_cons_succ]
    refine rh.go_take (i := 6) (v := undef) rfl (by kernel_rfl) (fun _ _ _ h => h) (Or.inr ⟨by rfl, rfl⟩) (by assumption) ?sk6
    try simp only [Act.put, List.setIfInBounds_toArray, List.set_cons_zero, List.set_cons_succ]
    refine rh.go_take (i := 7) (v := undef) rfl (by kernel_rfl) (fun _ _ _ h => h) (Or.inr ⟨by rfl, rfl⟩) (by assumption) ?sk7
    try simp only [Act.put, List.setIfInBounds_toArray, List.set_cons_zero, List.set_cons_succ]
    refine rh.go_take (i := 8) (v := undef) rfl (by kernel_rfl) (fun _ _ _ h => h) (Or.inr ⟨by rfl, rfl⟩) (by assumption) ?sk8
    try simp only [Act.put, List.setIfInBounds_toArray, List.set_cons_zero, List.set_cons_succ]
    refine rh.go_next (i := 9) rfl (by kernel_rfl) (fun K2 hK => ?_)
    go_simp
    refine hK.out _ _ ?_ (fun hHeld => ?_)
    · ((try dsimp only); exact hHeld0)
    clear hK K2 hHeld
    try simp only [Act.put, List.setIfInBounds_toArray, List.set_cons_zero, List.set_cons_succ]
    refine rh.go_next (i := 10) rfl (by kernel_rfl) (fun K2 hK => ?_)
    go_simp
    refine hK.out _ _ ?_ (fun hHeld => ?_)
    · ((try dsimp only); exact hHeld0)
    clear hK K2 hHeld
    try simp only [Act.put, List.setIfInBounds_toArray, List.set_cons_zero, List.set_cons_succ]
    have hHeld1 := HS.out _ hk1
    refine rh.go_take (i := 11) (v := ?v4) rfl (by kernel_rfl) (fun _ _ _ h => h) (Or.inl ⟨by rfl, ?hy4⟩) (by assumption) ?rest4
    case hy4 => (intro wS hSw; (try dsimp only at hSw); go_simp; try (with_reducible rfl))
    try simp only [Act.put, List.setIfInBounds_toArray, List.set_cons_zero, List.set_cons_succ]
    refine rh.go_last rfl (by kernel_rfl) (fun K2 hK => ?_)
    go_simp
    refine hK.out _ _ ?_
    refine NoPanic.normal ?_
    clear hK K2
    go_wp2_with fail
    go_ret
    exact ⟨rfl, hw1⟩
  | true =>
    rw [hq] at C
    obtain ⟨⟨R, hR, hR4⟩, ⟨hE0, hE8⟩, hNp, hl16⟩ := big_faces hq
    have hsz := sizes_of (big_of hq).2.1
    have hs5 : n5 ≤ 16 := by have := HL5.out; omega
    have hs2 : n2 ≤ 4 := by have := HL2.out; omega
    have hs1 : n1 ≤ 8 := by omega
    rw [HL4.out] at hl16
    have HIs : Hid (isiQ cs b = iidQ n1 b.edges b.sites R b.outer b.inner) := Lib.hid (by rw [isi_is hq, l1, hR, Int.toNat_natCast])
    obtain ⟨q, hqq⟩ : ∃ q, iidQ n1 b.edges b.sites R b.outer b.inner = q := ⟨_, rfl⟩
    have HSm := Lib.hid (fun (p1 B2 B4 B5 : Option Addr) (q1 d2 d4 d5 : Nat) (Y : World) (hY : Below w.heap.size w Y) (k2 : IntsAt Y Y.heap.size B2 R (downs R)) (k4 : SR Y Y.heap.size B4 n4 (b.outer.map Value.string)) (k5 : WrsAt Y Y.heap.size B5 n4 (tied b.outer (nums b.outer.length))) => hqq ▸ same_any A1 A2 A4 A5 p1 B2 B4 B5 R n1 c1 n2 c2 n4 c4 n5 c5 q1 d2 d4 d5 b.edges b.sites b.outer b.inner w Y H2.out H4.out H5.out hY k2 k4 k5 (by omega) (by omega) (by omega) (by omega) (by omega))
    rw [hqq] at HIs
    rw [HIs.out]
    rw [hR] at HBox HWq C HS
    rw [hR]
    clear hq hVW h1 h2 h4 h5 hS hw hNp hR hsz hqq hnil hNil
    go_enter Try.func30, Try.ntmps30
    go_wp2_with fail
    rw [HWq.out]
    refine rh.go_begin 12 (fun w' => w'.cell? ⟨w.heap.size, 0, none⟩ = some (.int .i64 (R : Int)) ∧ w'.cell? ⟨w.heap.size, 1, none⟩ = some (.slice A1 n1 c1) ∧ w'.cell? ⟨w.heap.size, 2, none⟩ = some (.slice A2 n2 c2) ∧ w'.cell? ⟨w.heap.size, 3, none⟩ = some (.int .i64 b.edges) ∧ w'.cell? ⟨w.heap.size, 4, none⟩ = some (.slice A4 n4 c4) ∧ w'.cell? ⟨w.heap.size, 5, none⟩ = some (.slice A5 n5 c5)) (by kernel_rfl) ?_ (fun hHeld => ?_)
    · ((try dsimp only); exact HS.out _ hkD)
    refine rh.go_take (i := 0) (v := ?v5) rfl (by kernel_rfl) (fun _ _ _ h => h) (Or.inl ⟨by rfl, ?hy5⟩) (by assumption) ?rest5
    case hy5 => (intro wS hSw; (try dsimp only at hSw); go_simp; try (with_reducible rfl))
    try simp only [Act.put, List.setIfInBounds_toArray, List.set_cons_zero, List.set_cons_succ]
    refine rh.go_take (i := 1) (v := ?v6) rfl (by kernel_rfl) (fun _ _ _ h => h) (Or.inl ⟨by rfl, ?hy6⟩) (by assumption) ?rest6
    case hy6 => (intro wS hSw; (try dsimp only at hSw); go_simp; try (with_reducible rfl))
    try simp only [Act.put, List.setIfInBounds_toArray, List.set_cons_zero, List.set_cons_succ]
    refine rh.go_next (i := 2) rfl (by kernel_rfl) (fun K2 hK => ?_)
    (go_simp; go_at_call 74; refine (C.out W.drew hwD).mono ?_; rintro e w1 ⟨rfl, hb⟩; have hk1 := hkD.trans (hb.mono hkD.size); have hw1 := hwD.trans (hb.mono hwD.size); clear hb; go_wp2_with fail)
    refine hK.out _ _ ?_ (fun hHeld => ?_)
    · ((try dsimp only); exact HS.out _ hk1)
    clear hK K2
    try simp only [Act.put, List.setIfInBounds_toArray, List.set_cons_zero, List.set_cons_succ]
    refine rh.go_take (i := 3) (v := ?v7) rfl (by kernel_rfl) (fun _ _ _ h => h) (Or.inl ⟨by rfl, ?hy7⟩) (by assumption) ?rest7
    case hy7 => (intro wS hSw; (try dsimp only at hSw); go_simp; try (with_reducible rfl))
    try simp only [Act.put, List.setIfInBounds_toArray, List.set_cons_zero, List.set_cons_succ]
    refine rh.go_take (i := 4) (v := ?v8) rfl (by kernel_rfl) (fun _ _ _ h => h) (Or.inl ⟨by rfl, ?hy8⟩) (by assumption) ?rest8
    case hy8 => (intro wS hSw; (try dsimp only at hSw); go_simp; try (with_reducible rfl))
    try simp only [Act.put, List.setIfInBounds_toArray, List.set_cons_zero, List.set_cons_succ]
    refine rh.go_take (i := 5) (v := ?v9) rfl (by kernel_rfl) (fun _ _ _ h => h) (Or.inl ⟨by rfl, ?hy9⟩) (by assumption) ?rest9
    case hy9 => (intro wS hSw; (try dsimp only at hSw); go_simp; try (with_reducible rfl))
    try simp only [Act.put, List.setIfInBounds_toArray, List.set_cons_zero, List.set_cons_succ]
    refine rh.go_take (i := 6) (v := ?v10) rfl (by kernel_rfl) (fun _ _ _ h => h) (Or.inl ⟨by rfl, ?hy10⟩) (by assumption) ?rest10
    case hy10 => (intro wS hSw; (try dsimp only at hSw); go_simp; try (with_reducible rfl))
    try simp only [Act.put, List.setIfInBounds_toArray, List.set_cons_zero, List.set_cons_succ]
    refine rh.go_take (i := 7) (v := ?v11) rfl (by kernel_rfl) (fun _ _ _ h => h) (Or.inl ⟨by rfl, ?hy11⟩) (by assumption) ?rest11
    case hy11 => (intro wS hSw; (try dsimp only at hSw); go_simp; try (with_reducible rfl))
    try simp only [Act.put, List.setIfInBounds_toArray, List.set_cons_zero, List.set_cons_succ]
    refine rh.go_take (i := 8) (v := ?v12) rfl (by kernel_rfl) (fun _ _ _ h => h) (Or.inl ⟨by rfl, ?hy12⟩) (by assumption) ?rest12
    case hy12 => (intro wS hSw; (try dsimp only at hSw); go_simp; try (with_reducible rfl))
    try simp only [Act.put, List.setIfInBounds_toArray, List.set_cons_zero, List.set_cons_succ]
    refine rh.go_next (i := 9) rfl (by kernel_rfl) (fun K2 hK => ?_)
    (go_simp; go_at_call 43; refine (sid_any R A4 n4 c4 b.outer w1 (by omega) ((H4.out.below hw1).wide hw1.size) (by omega) HNl.out).mono ?_; rintro e w2 ⟨v2, rfl, hr, hb⟩; obtain ⟨p1, q1, B2, d2, B4, d4, B5, d5, rfl, k2, k4, k5⟩ := id_rows hr HL4.out; have hk2 := hk1.trans (hb.mono hk1.size); have hw2 := hw1.trans (hb.mono hw1.size); clear hb hr; go_wp2_with fail)
    refine hK.out _ _ ?_ (fun hHeld => ?_)
    · ((try dsimp only); exact HS.out _ hk2)
    clear hK K2
    try simp only [Act.put, List.setIfInBounds_toArray, List.set_cons_zero, List.set_cons_succ]
    refine rh.go_next (i := 10) rfl (by kernel_rfl) (fun K2 hK => ?_)
    (go_simp; go_at_call 75; refine (HSm.out p1 B2 B4 B5 q1 d2 d4 d5 w2 hw2 k2 k4 k5).mono ?_; rintro e w3 ⟨rfl, hb⟩; have hk3 := hk2.trans (hb.mono hk2.size); have hw3 := hw2.trans (hb.mono hw2.size); clear hb; go_wp2_with fail)
    refine hK.out _ _ ?_ (fun hHeld => ?_)
    · ((try dsimp only); exact HS.out _ hk3)
    clear hK K2
    try simp only [Act.put, List.setIfInBounds_toArray, List.set_cons_zero, List.set_cons_succ]
    refine rh.go_take (i := 11) (v := ?v13) rfl (by kernel_rfl) (fun _ _ _ h => h) (Or.inl ⟨by rfl, ?hy13⟩) (by assumption) ?rest13
    case hy13 => (intro wS hSw; (try dsimp only at hSw); go_simp; try (with_reducible rfl))
    try simp only [Act.put, List.setIfInBounds_toArray, List.set_cons_zero, List.set_cons_succ]
    refine rh.go_last rfl (by kernel_rfl) (fun K2 hK => ?_)
    go_simp
    refine hK.out _ _ ?_
    refine NoPanic.normal ?_
    clear hK K2
    cases q with
    | false =>
      go_wp2_with fail
      go_ret
      exact ⟨rfl, hw3⟩
    | true =>
      go_wp2_with fail
      go_ret
      exact ⟨rfl, hw3⟩
end Go.Proofs.Ytmcdbhlpmlcjpaa.isi
