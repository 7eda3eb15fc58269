/- Valid guarded Rules: spec.IsGuardedRule, impl.IsGuardedRule. -/
import Derived.Test.YtfjgapkjpmkplaaGdt
namespace Go.Proofs.Ytfjgapkjpmkplaa.gdi
open kit bg sg opn strs only hb sig isig un over gn nm inn ht gd im pt marks eqs hc hi hw hn rs br bm bw cf lf ib isa lawb lw cl rt chd pts psp idl idm pl chk rdx rdi rds rub cfg smn rui ruh rut gdb gdh gde gdt
open Go.RowKit
set_option linter.unusedVariables false
set_option linter.unusedSimpArgs false
theorem grd_no1 {cs : List Ctl} {x : Grd} (h : inb x.whr 1 3 = false) : grdB cs x = false := by unfold grdB; rw [h]; rfl
theorem grd_yes {cs : List Ctl} {x : Grd} (h : inb x.whr 1 3 = true) : grdB cs x = rdQ cs x.pat := by unfold grdB; rw [h]; rfl
theorem grd_no2 {cs : List Ctl} {x : Grd} (h : rdQ cs x.pat = false) : grdB cs x = false := by unfold grdB; rw [h, Bool.and_false]
theorem grd_yes2 {cs : List Ctl} {x : Grd} (h : rdQ cs x.pat = true) : grdB cs x = inb x.whr 1 3 := by unfold grdB; rw [h, Bool.and_true]
set_option maxRecDepth 20000 in
set_option maxHeartbeats 1600000 in
theorem sGd_any (A : Option Addr) (n c : Nat) (cs : List Ctl) (v : Value) (x : Grd) (w : World) (hC : CtlsAt w w.heap.size A n cs) (hv : GrdAt w w.heap.size v x) (hn : n ≤ 1048576) (hs : ∀ c ∈ cs, c.name.size ≤ 1048576) (hS : BigS x.pat) (hw : BigW x.pat) :
    Calls Try.prog 101 #[.slice A n c, v] w (Post (grdB cs x) w) := by
  obtain ⟨A1, n1, c1, A2, n2, c2, A4, n4, c4, A5, n5, c5, rfl, h1⟩ := hv
  have HBox : BoxN (w.alloc (.cells #[.int .i64 x.whr, .bool x.no, .int .i64 x.pat.roots, .slice A1 n1 c1, .slice A2 n2 c2, .int .i64 x.pat.edges, .slice A4 n4 c4, .slice A5 n5 c5] 89)) w.heap.size 89 [.int .i64 x.whr, .bool x.no, .int .i64 x.pat.roots, .slice A1 n1 c1, .slice A2 n2 c2, .int .i64 x.pat.edges, .slice A4 n4 c4, .slice A5 n5 c5] := BoxN.new w #[.int .i64 x.whr, .bool x.no, .int .i64 x.pat.roots, .slice A1 n1 c1, .slice A2 n2 c2, .int .i64 x.pat.edges, .slice A4 n4 c4, .slice A5 n5 c5] 89
  have hB0 := (Below.refl w.heap.size w).alloc (Nat.le_refl _) (.cells #[.int .i64 x.whr, .bool x.no, .int .i64 x.pat.roots, .slice A1 n1 c1, .slice A2 n2 c2, .int .i64 x.pat.edges, .slice A4 n4 c4, .slice A5 n5 c5] 89)
  obtain ⟨W, hW⟩ : ∃ W, w.alloc (.cells #[.int .i64 x.whr, .bool x.no, .int .i64 x.pat.roots, .slice A1 n1 c1, .slice A2 n2 c2, .int .i64 x.pat.edges, .slice A4 n4 c4, .slice A5 n5 c5] 89) = W := ⟨_, rfl⟩
  rw [hW] at HBox hB0
  have HBox := Lib.hid HBox
  have HB0 := Lib.hid hB0
  have HWq := Lib.hid hW
  have HV1 := Lib.hid (fun (Y : World) (hY : Below w.heap.size w Y) => (h1.below hY).wide hY.size)
  clear hB0 hW h1
  obtain ⟨x0, x1, x2, x3, x4, x5, x6, x7⟩ := get8 HBox.out
  have C := l8r_any A n c cs _ x.pat W ((hC.below HB0.out).wide HB0.out.size) (HV1.out W HB0.out) hn hs hS hw
  cases hq : inb x.whr 1 3 with
  | false =>
    have HN := Lib.hid (grd_no1 (cs := cs) hq)
    clear C hC hn hs hS hw HV1
    go_enter Try.func101, Try.ntmps101
    go_wp2_with fail
    rw [HWq.out]
    go_wp2_with (go_at_call 102; refine (in_any _ _ _ _).mono ?_; rintro e w' ⟨rfl, rfl⟩)
    go_ret
    exact ⟨by rw [HN.out]; rfl, HB0.out⟩
  | true =>
    obtain ⟨q, hq2⟩ : ∃ q, rdQ cs x.pat = q := ⟨_, rfl⟩
    rw [hq2] at C
    have HN := Lib.hid ((grd_yes (cs := cs) hq).trans hq2)
    clear hq2 hC hn hs hS hw HV1
    go_enter Try.func101, Try.ntmps101
    go_wp2_with fail
    rw [HWq.out]
    go_wp2_with (go_at_call 102; refine (in_any _ _ _ _).mono ?_; rintro e w' ⟨rfl, rfl⟩)
    refine C.mono ?_
    rintro e w1 ⟨rfl, hb⟩
    have hk := HB0.out.trans (hb.mono HB0.out.size)
    clear hb C x0 x1 x2 x3 x4 x5 x6 x7
    go_wp2_with fail
    go_ret
    exact ⟨by rw [HN.out]; rfl, hk⟩
set_option maxRecDepth 20000 in
set_option maxHeartbeats 1600000 in
theorem iGd_any (A : Option Addr) (n c : Nat) (cs : List Ctl) (v : Value) (x : Grd) (w : World) (hC : CtlsAt w w.heap.size A n cs) (hv : GrdAt w w.heap.size v x) (hn : n ≤ 1048576) (hs : ∀ c ∈ cs, c.name.size ≤ 1048576) (hS : BigS x.pat) (hw : BigW x.pat) :
    Calls Try.prog 53 #[.slice A n c, v] w (Post (grdB cs x) w) := by
  obtain ⟨A1, n1, c1, A2, n2, c2, A4, n4, c4, A5, n5, c5, rfl, h1⟩ := hv
  have HBox : BoxN (w.alloc (.cells #[.int .i64 x.whr, .bool x.no, .int .i64 x.pat.roots, .slice A1 n1 c1, .slice A2 n2 c2, .int .i64 x.pat.edges, .slice A4 n4 c4, .slice A5 n5 c5] 89)) w.heap.size 89 [.int .i64 x.whr, .bool x.no, .int .i64 x.pat.roots, .slice A1 n1 c1, .slice A2 n2 c2, .int .i64 x.pat.edges, .slice A4 n4 c4, .slice A5 n5 c5] := BoxN.new w #[.int .i64 x.whr, .bool x.no, .int .i64 x.pat.roots, .slice A1 n1 c1, .slice A2 n2 c2, .int .i64 x.pat.edges, .slice A4 n4 c4, .slice A5 n5 c5] 89
  have hB0 := (Below.refl w.heap.size w).alloc (Nat.le_refl _) (.cells #[.int .i64 x.whr, .bool x.no, .int .i64 x.pat.roots, .slice A1 n1 c1, .slice A2 n2 c2, .int .i64 x.pat.edges, .slice A4 n4 c4, .slice A5 n5 c5] 89)
  obtain ⟨W, hW⟩ : ∃ W, w.alloc (.cells #[.int .i64 x.whr, .bool x.no, .int .i64 x.pat.roots, .slice A1 n1 c1, .slice A2 n2 c2, .int .i64 x.pat.edges, .slice A4 n4 c4, .slice A5 n5 c5] 89) = W := ⟨_, rfl⟩
  rw [hW] at HBox hB0
  have HBox := Lib.hid HBox
  have HB0 := Lib.hid hB0
  have HWq := Lib.hid hW
  have HV1 := Lib.hid (fun (Y : World) (hY : Below w.heap.size w Y) => (h1.below hY).wide hY.size)
  clear hB0 hW h1
  obtain ⟨x0, x1, x2, x3, x4, x5, x6, x7⟩ := get8 HBox.out
  have C := iRd_any A n c cs _ x.pat W ((hC.below HB0.out).wide HB0.out.size) (HV1.out W HB0.out) hn hs hS hw
  obtain ⟨q, hq2⟩ : ∃ q, rdQ cs x.pat = q := ⟨_, rfl⟩
  have HQ2 := Lib.hid hq2
  obtain ⟨t, ht⟩ : ∃ q, bigB cs x.pat = q := ⟨_, rfl⟩
  rw [hq2, ht] at C
  clear hq2 ht hC hn hs hS hw HV1
  cases q with
  | false =>
    have HN := Lib.hid (grd_no2 HQ2.out)
    go_enter Try.func53, Try.ntmps53
    go_wp2_with fail
    rw [HWq.out]
    go_wp2_with fail
    refine C.mono ?_
    rintro e w1 ⟨rfl, hb⟩
    have hk := HB0.out.trans (hb.mono HB0.out.size)
    have HBx := HBox.out.on hb
    clear hb C x0 x1 x2 x3 x4 x5 x6 x7
    obtain ⟨x0, x1, x2, x3, x4, x5, x6, x7⟩ := get8 HBx
    go_wp2_with fail
    go_ret
    exact ⟨by rw [HN.out]; rfl, hk⟩
  | true =>
    have HN := Lib.hid (grd_yes2 HQ2.out)
    cases hq : inb x.whr 1 3 <;>
    · rw [hq] at HN
      go_enter Try.func53, Try.ntmps53
      go_wp2_with fail
      rw [HWq.out]
      go_wp2_with fail
      refine C.mono ?_
      rintro e w1 ⟨rfl, hb⟩
      have hk := HB0.out.trans (hb.mono HB0.out.size)
      have HBx := HBox.out.on hb
      clear hb C x0 x1 x2 x3 x4 x5 x6 x7
      obtain ⟨x0, x1, x2, x3, x4, x5, x6, x7⟩ := get8 HBx
      go_wp2_with (go_at_call 46; refine (win_any _ _ _ _).mono ?_; rintro e w' ⟨rfl, rfl⟩)
      go_ret
      exact ⟨by rw [HN.out]; rfl, hk⟩

/-! ### slices.ContainsFunc at Guards -/
set_option maxRecDepth 20000 in
set_option maxHeartbeats 1600000 in
theorem gfiI_any (F : FuncId) (lb : Array Value) (P : Grd → Bool) (eg : ∀ args w, (callFunc F args).run Try.prog w = .ok (.enter F args) w) (Ax : Option Addr) (nx cx : Nat) (xs : List Grd) (w0 w : World)
    (hG : ∀ (x : Grd) (v : Value) (Y : World), x ∈ xs → Below w.heap.size w Y → GrdAt Y Y.heap.size v x → Calls Try.prog F (#[v] ++ lb) Y (Post (P x) Y))
    (hx : GrdsAt w0 w0.heap.size Ax nx xs) (hb0 : Below w0.heap.size w0 w) (hn : nx ≤ 1048576) :
    Calls Try.prog 104 #[.slice Ax nx cx, .func (.func F) #[] lb] w (FoundP P xs w) := by
  have HL := Lib.hid (show xs.length = nx from hx.1)
  have HG := Lib.hid hG
  clear hG
  go_enter Try.func104, Try.ntmps104
  go_wp2_with fail
  go_loopw [5, 8] (fun _ i wr => ∃ k : Nat, k ≤ nx ∧ i = .int .i64 k ∧ (∀ (j : Nat) x, j < k → xs[j]? = some x → P x = false) ∧ Below w.heap.size w wr) (fun _ i _ => nx - (intOf i).toNat)
  case atStart => exact ⟨0, Nat.zero_le _, rfl, fun j x hj => absurd hj (Nat.not_lt_zero j), Below.refl _ _⟩
  case round =>
    obtain ⟨k, hk, rfl, hok, hbel⟩ := hrel
    have HOk := Lib.hid hok
    have HBel := Lib.hid hbel
    have hbw := hb0.trans (hbel.mono hb0.size)
    clear hok hbel
    by_cases hlt : k < nx
    · obtain ⟨g, off, x, rfl, hbb, hx2, A1, n1, c1, A2, n2, c2, A4, n4, c4, A5, n5, c5, e0, e1, e2, e3, e4, e5, e6, e7, hv⟩ := hx.get hlt
      have d0 := (hbw.cell (p := ⟨g, off + k * 8, none⟩) hbb).trans e0
      have d1 := (hbw.cell (p := ⟨g, off + k * 8 + 1, none⟩) hbb).trans e1
      have d2 := (hbw.cell (p := ⟨g, off + k * 8 + 2, none⟩) hbb).trans e2
      have d3 := (hbw.cell (p := ⟨g, off + k * 8 + 3, none⟩) hbb).trans e3
      have d4 := (hbw.cell (p := ⟨g, off + k * 8 + 4, none⟩) hbb).trans e4
      have d5 := (hbw.cell (p := ⟨g, off + k * 8 + 5, none⟩) hbb).trans e5
      have d6 := (hbw.cell (p := ⟨g, off + k * 8 + 6, none⟩) hbb).trans e6
      have d7 := (hbw.cell (p := ⟨g, off + k * 8 + 7, none⟩) hbb).trans e7
      have CK := HG.out x _ wr (List.mem_of_getElem? hx2) HBel.out ((hv.below hbw).wide hbw.size)
      have HX := Lib.hid hx2
      obtain ⟨q, hq⟩ : ∃ q, P x = q := ⟨_, rfl⟩
      have HQ := Lib.hid hq
      rw [hq] at CK
      clear hx2 hq e0 e1 e2 e3 e4 e5 e6 e7 hv
      cases q with
      | true =>
        go_wp2_with (go_at_fn F; refine CK.mono ?_; rintro e w3 ⟨rfl, hb3⟩; have HB3 := Lib.hid (HBel.out.trans (hb3.mono HBel.out.size)); clear CK hb3)
        go_wp2_with fail
        go_ret
        exact .inl ⟨k, rfl, ⟨x, HX.out, HQ.out⟩, HB3.out⟩
      | false =>
        go_wp2_with (go_at_fn F; refine CK.mono ?_; rintro e w3 ⟨rfl, hb3⟩; have HB3 := Lib.hid (HBel.out.trans (hb3.mono HBel.out.size)); clear CK hb3)
        go_wp2_with fail
        go_roundw
        case rel => exact ⟨k + 1, by omega, by go_num, fun j' x' hj' hx' => by
          by_cases e : j' = k
          · subst e; rw [HX.out] at hx'; injection hx' with e; subst e; exact HQ.out
          · exact HOk.out j' x' (by omega) hx', HB3.out⟩
        case measure => simp [intOf]; omega
    · obtain rfl : k = nx := by omega
      go_wp2_with fail
      go_ret
      exact .inr ⟨rfl, by rw [HL.out]; exact HOk.out, HBel.out⟩
set_option maxHeartbeats 800000 in
theorem gfi_any (F : FuncId) (lb : Array Value) (P : Grd → Bool) (eg : ∀ args w, (callFunc F args).run Try.prog w = .ok (.enter F args) w) (Ax : Option Addr) (nx cx : Nat) (xs : List Grd) (w0 w : World)
    (hG : ∀ (x : Grd) (v : Value) (Y : World), x ∈ xs → Below w.heap.size w Y → GrdAt Y Y.heap.size v x → Calls Try.prog F (#[v] ++ lb) Y (Post (P x) Y))
    (hx : GrdsAt w0 w0.heap.size Ax nx xs) (hb0 : Below w0.heap.size w0 w) (hn : nx ≤ 1048576) :
    Calls Try.prog 51 #[.slice Ax nx cx, .func (.func F) #[] lb] w (Post (xs.any P) w) := by
  have C := Lib.hid (gfiI_any F lb P eg Ax nx cx xs w0 w hG hx hb0 hn)
  obtain ⟨q, hq⟩ : ∃ q, xs.any P = q := ⟨_, rfl⟩
  rw [hq]
  have HQ := Lib.hid hq
  clear hq hG
  go_enter Try.func51, Try.ntmps51
  go_wp2_with fail
  refine C.out.mono ?_
  rintro e w1 (⟨k, rfl, ⟨x, hx2, hl⟩, hb⟩ | ⟨rfl, hok, hb⟩)
  · have HY := Lib.hid (HQ.out.symm.trans (found_any hx2 hl))
    clear hx2 hl
    go_wp2_with fail
    go_ret
    exact ⟨by rw [HY.out]; rfl, hb⟩
  · have HN := Lib.hid (HQ.out.symm.trans (found_none hok))
    clear hok
    go_wp2_with fail
    go_ret
    exact ⟨by rw [HN.out]; rfl, hb⟩
set_option maxRecDepth 20000 in
set_option maxHeartbeats 800000 in
theorem gcl_any (β : Nat) (A : Option Addr) (n c : Nat) (cs : List Ctl) (v : Value) (x : Grd) (w : World) (hβ : w.cell? ⟨β, 0, none⟩ = some (.slice A n c)) (hlt : β < w.heap.size) (hC : CtlsAt w w.heap.size A n cs) (hv : GrdAt w w.heap.size v x) (hn : n ≤ 1048576) (hs : ∀ c ∈ cs, c.name.size ≤ 1048576) (hS : BigS x.pat) (hw : BigW x.pat) :
    Calls Try.prog 52 #[v, .pointer (some ⟨β, 0, none⟩)] w (Post (!grdB cs x) w) := by
  have HC := Lib.hid (fun (Y : World) (hY : Below w.heap.size w Y) => iGd_any A n c cs v x Y ((hC.below hY).wide hY.size) ((hv.below hY).wide hY.size) hn hs hS hw)
  obtain ⟨A1, n1, c1, A2, n2, c2, A4, n4, c4, A5, n5, c5, rfl, h1⟩ := hv
  have HBox : BoxN (w.alloc (.cells #[.int .i64 x.whr, .bool x.no, .int .i64 x.pat.roots, .slice A1 n1 c1, .slice A2 n2 c2, .int .i64 x.pat.edges, .slice A4 n4 c4, .slice A5 n5 c5] 89)) w.heap.size 89 [.int .i64 x.whr, .bool x.no, .int .i64 x.pat.roots, .slice A1 n1 c1, .slice A2 n2 c2, .int .i64 x.pat.edges, .slice A4 n4 c4, .slice A5 n5 c5] := BoxN.new w #[.int .i64 x.whr, .bool x.no, .int .i64 x.pat.roots, .slice A1 n1 c1, .slice A2 n2 c2, .int .i64 x.pat.edges, .slice A4 n4 c4, .slice A5 n5 c5] 89
  have hB0 := (Below.refl w.heap.size w).alloc (Nat.le_refl _) (.cells #[.int .i64 x.whr, .bool x.no, .int .i64 x.pat.roots, .slice A1 n1 c1, .slice A2 n2 c2, .int .i64 x.pat.edges, .slice A4 n4 c4, .slice A5 n5 c5] 89)
  obtain ⟨W, hW⟩ : ∃ W, w.alloc (.cells #[.int .i64 x.whr, .bool x.no, .int .i64 x.pat.roots, .slice A1 n1 c1, .slice A2 n2 c2, .int .i64 x.pat.edges, .slice A4 n4 c4, .slice A5 n5 c5] 89) = W := ⟨_, rfl⟩
  rw [hW] at HBox hB0
  have HBox := Lib.hid HBox
  have HB0 := Lib.hid hB0
  have HWq := Lib.hid hW
  have HV1 := Lib.hid (fun (Y : World) (hY : Below w.heap.size w Y) => (h1.below hY).wide hY.size)
  clear hB0 hW h1
  obtain ⟨x0, x1, x2, x3, x4, x5, x6, x7⟩ := get8 HBox.out
  have hβ2 := (HB0.out.cell (p := ⟨β, 0, none⟩) hlt).trans hβ
  have C := HC.out W HB0.out
  obtain ⟨q, hq⟩ : ∃ q, grdB cs x = q := ⟨_, rfl⟩
  rw [hq] at C ⊢
  clear hq hC hn hs hS hw HV1 HC
  go_enter Try.func52, Try.ntmps52
  go_wp2_with fail
  rw [HWq.out]
  go_wp2_with fail
  refine C.mono ?_
  rintro e w1 ⟨rfl, hb⟩
  have hk := HB0.out.trans (hb.mono HB0.out.size)
  clear hb C x0 x1 x2 x3 x4 x5 x6 x7
  go_wp2_with fail
  go_ret
  exact ⟨rfl, hk⟩

/-! ### guarded Rules -/
theorem gru_all {cs : List Ctl} {r : GRul} (h : ∀ (j : Nat) x, j < r.guards.length → r.guards[j]? = some x → grdB cs x = true) : r.guards.all (grdB cs) = true := by
  refine List.all_eq_true.2 (fun x hx => ?_)
  obtain ⟨j, hj⟩ := List.getElem?_of_mem hx
  exact h j x (List.getElem?_eq_some_iff.1 hj).1 hj
theorem gru_no {cs : List Ctl} {r : GRul} {k : Nat} {x : Grd} (hx : r.guards[k]? = some x) (h : grdB cs x = false) : gruB cs r = false := by
  have : r.guards.all (grdB cs) = false := Bool.eq_false_iff.2 (fun ha => by
    have := List.all_eq_true.1 ha x (List.mem_of_getElem? hx)
    rw [h] at this
    cases this)
  unfold gruB
  rw [this, Bool.and_false]
theorem gru_any {cs : List Ctl} {r : GRul} : (r.guards.any fun x => !grdB cs x) = !(r.guards.all (grdB cs)) := by rw [List.not_all_eq_any_not]
set_option maxRecDepth 20000 in
set_option maxHeartbeats 3200000 in
theorem l9gr_any (A : Option Addr) (n c : Nat) (cs : List Ctl) (v : Value) (r : GRul) (w : World) (hC : CtlsAt w w.heap.size A n cs) (hv : GRulAt w w.heap.size v r) (hn : n ≤ 1048576) (hs : ∀ c ∈ cs, c.name.size ≤ 1048576) (hS : GRulS r) (hw : GRulW r) :
    Calls Try.prog 49 #[.slice A n c, v] w (Post (gruB cs r) w) := by
  obtain ⟨a0, a1, a2, a3, a4, a5, a6, a7, a8, a9, a10, a11, a12, G, m, d, rfl, h1, h2⟩ := hv
  have HBox : BoxN (w.alloc (.cells #[a0, a1, a2, a3, a4, a5, a6, a7, a8, a9, a10, a11, a12, .slice G m d, .int .i64 r.prio] 53)) w.heap.size 53 [a0, a1, a2, a3, a4, a5, a6, a7, a8, a9, a10, a11, a12, .slice G m d, .int .i64 r.prio] := BoxN.new w #[a0, a1, a2, a3, a4, a5, a6, a7, a8, a9, a10, a11, a12, .slice G m d, .int .i64 r.prio] 53
  have hB0 := (Below.refl w.heap.size w).alloc (Nat.le_refl _) (.cells #[a0, a1, a2, a3, a4, a5, a6, a7, a8, a9, a10, a11, a12, .slice G m d, .int .i64 r.prio] 53)
  obtain ⟨W, hW⟩ : ∃ W, w.alloc (.cells #[a0, a1, a2, a3, a4, a5, a6, a7, a8, a9, a10, a11, a12, .slice G m d, .int .i64 r.prio] 53) = W := ⟨_, rfl⟩
  rw [hW] at HBox hB0
  have HBox := Lib.hid HBox
  have HB0 := Lib.hid hB0
  have HWq := Lib.hid hW
  have HV1 := Lib.hid (fun (Y : World) (hY : Below w.heap.size w Y) => (h1.below hY).wide hY.size)
  have HV2 := Lib.hid (fun (Y : World) (hY : Below w.heap.size w Y) => (h2.below hY).wide hY.size)
  have HG := Lib.hid (fun (x : Grd) (v : Value) (Y : World) (hx : x ∈ r.guards) (hY : Below w.heap.size w Y) (hv : GrdAt Y Y.heap.size v x) => sGd_any A n c cs v x Y ((hC.below hY).wide hY.size) hv hn hs (hS.2.2 x hx) (hw.2.1.2 x hx).2)
  have HR := Lib.hid (fun (Y : World) (hY : Below w.heap.size w Y) => l9g_any A n c cs _ r.rule Y ((hC.below hY).wide hY.size) (HV1.out Y hY) hn hs hS.1 hw.1)
  have hL := h2.1
  have hm : m ≤ 1048576 := by have := hS.2.1; omega
  have HL := Lib.hid hL
  obtain ⟨q1, hq1⟩ : ∃ q, rulB cs r.rule = q := ⟨_, rfl⟩
  have HQ1 := Lib.hid hq1
  rw [hq1] at HR
  obtain ⟨g, hg⟩ : ∃ g, gruB cs r = g := ⟨_, rfl⟩
  have HGq := Lib.hid hg
  rw [hg]
  have HBw := Lib.hid HB0.out
  clear hq1 hg hC hn hs hS hw h1 h2 HV1 hB0 hW hL
  obtain ⟨x0, x1, x2, x3, x4, x5, x6, x7, x8, x9, x10, x11, x12, x13, x14⟩ := get15 HBox.out
  go_enter Try.func49, Try.ntmps49
  go_wp2_with fail
  rw [HWq.out]
  clear x0 x1 x2 x3 x4 x5 x6 x7 x8 x9 x10 x11 x12 x13 x14
  go_loopw [5] (fun i wr => ∃ k : Nat, k ≤ m ∧ i = .int .i64 k ∧ (∀ (j : Nat) x, j < k → r.guards[j]? = some x → grdB cs x = true) ∧ Below W.heap.size W wr) (fun i _ => m - (intOf i).toNat)
  case atStart => exact ⟨0, Nat.zero_le _, rfl, fun j x hj => absurd hj (Nat.not_lt_zero j), Below.refl _ _⟩
  case round =>
    obtain ⟨k, hk, rfl, hall, hb⟩ := hrel
    have HA := Lib.hid hall
    clear hall
    have hk1 := HB0.out.trans (hb.mono HB0.out.size)
    obtain ⟨x0, x1, x2, x3, x4, x5, x6, x7, x8, x9, x10, x11, x12, x13, x14⟩ := get15 (HBox.out.on hb)
    by_cases hlt : k < m
    · obtain ⟨g', off, x, rfl, hbb, hx, A1, n1, c1, A2, n2, c2, A4, n4, c4, A5, n5, c5, d0, d1, d2, d3, d4, d5, d6, d7, hv⟩ := (HV2.out wr hk1).get hlt
      have C := HG.out x _ wr (List.mem_of_getElem? hx) hk1 hv
      have HX := Lib.hid hx
      obtain ⟨q, hq⟩ : ∃ q, grdB cs x = q := ⟨_, rfl⟩
      have HQ := Lib.hid hq
      rw [hq] at C
      clear hx hv hq
      cases q with
      | true =>
        go_wp2_with fail
        refine C.mono ?_
        rintro e w3 ⟨rfl, hb3⟩
        have hb4 := hb.trans (hb3.mono hb.size)
        clear hb3 C x0 x1 x2 x3 x4 x5 x6 x7 x8 x9 x10 x11 x12 x13 x14 d0 d1 d2 d3 d4 d5 d6 d7
        go_wp2_with fail
        go_roundw
        case rel => exact ⟨k + 1, by omega, by go_num, fun j x' hj hx' => by
          by_cases e : j = k
          · subst e; rw [HX.out] at hx'; injection hx' with e1; subst e1; exact HQ.out
          · exact HA.out j x' (by omega) hx', hb4⟩
        case measure => simp [intOf]; omega
      | false =>
        have HN : Hid (g = false) := Lib.hid (by rw [← HGq.out]; exact gru_no HX.out HQ.out)
        go_wp2_with fail
        refine C.mono ?_
        rintro e w3 ⟨rfl, hb3⟩
        have hk3 := hk1.trans (hb3.mono hk1.size)
        clear hb3 C x0 x1 x2 x3 x4 x5 x6 x7 x8 x9 x10 x11 x12 x13 x14 d0 d1 d2 d3 d4 d5 d6 d7
        go_wp2_with fail
        go_ret
        exact ⟨by rw [HN.out]; rfl, hk3⟩
    · obtain rfl : k = m := by omega
      have hga : r.guards.all (grdB cs) = true := gru_all (by rw [HL.out]; exact HA.out)
      have C := HR.out wr hk1
      have HGa := Lib.hid hga
      clear hga
      cases q1 with
      | false =>
        have HN : Hid (g = false) := Lib.hid (by rw [← HGq.out]; unfold gruB; rw [HQ1.out]; rfl)
        go_wp2_with fail
        refine C.mono ?_
        rintro e w3 ⟨rfl, hb3⟩
        have hk3 := hk1.trans (hb3.mono hk1.size)
        have HBx := (HBox.out.on hb).on hb3
        clear hb3 C x0 x1 x2 x3 x4 x5 x6 x7 x8 x9 x10 x11 x12 x13 x14
        obtain ⟨x0, x1, x2, x3, x4, x5, x6, x7, x8, x9, x10, x11, x12, x13, x14⟩ := get15 HBx
        go_wp2_with fail
        go_ret
        exact ⟨by rw [HN.out]; rfl, hk3⟩
      | true =>
        by_cases h4 : k ≤ 4
        · cases hq : inb r.prio 0 9 <;>
          · have HN : Hid (g = inb r.prio 0 9) := Lib.hid (by rw [← HGq.out]; unfold gruB; rw [HQ1.out, HGa.out, HL.out, decide_eq_true h4, Bool.and_true]; rfl)
            rw [hq] at HN
            have h4' : (k : Int) ≤ 4 := by omega
            go_wp2_with fail
            refine C.mono ?_
            rintro e w3 ⟨rfl, hb3⟩
            have hk3 := hk1.trans (hb3.mono hk1.size)
            have HBx := (HBox.out.on hb).on hb3
            clear hb3 C x0 x1 x2 x3 x4 x5 x6 x7 x8 x9 x10 x11 x12 x13 x14
            obtain ⟨x0, x1, x2, x3, x4, x5, x6, x7, x8, x9, x10, x11, x12, x13, x14⟩ := get15 HBx
            go_wp2_with (go_at_call 102; refine (in_any _ _ _ _).mono ?_; rintro e w' ⟨rfl, rfl⟩)
            go_ret
            exact ⟨by rw [HN.out]; rfl, hk3⟩
        · have HN : Hid (g = false) := Lib.hid (by rw [← HGq.out]; unfold gruB; rw [HL.out, decide_eq_false h4, Bool.and_false, Bool.false_and, Bool.false_and])
          have h4' : ¬ (k : Int) ≤ 4 := by omega
          go_wp2_with fail
          refine C.mono ?_
          rintro e w3 ⟨rfl, hb3⟩
          have hk3 := hk1.trans (hb3.mono hk1.size)
          have HBx := (HBox.out.on hb).on hb3
          clear hb3 C x0 x1 x2 x3 x4 x5 x6 x7 x8 x9 x10 x11 x12 x13 x14
          obtain ⟨x0, x1, x2, x3, x4, x5, x6, x7, x8, x9, x10, x11, x12, x13, x14⟩ := get15 HBx
          go_wp2_with fail
          go_ret
          exact ⟨by rw [HN.out]; rfl, hk3⟩
set_option maxRecDepth 20000 in
set_option maxHeartbeats 1600000 in
theorem sGr_any (A : Option Addr) (n c : Nat) (cs : List Ctl) (v : Value) (r : GRul) (w : World) (hC : CtlsAt w w.heap.size A n cs) (hv : GRulAt w w.heap.size v r) (hn : n ≤ 1048576) (hs : ∀ c ∈ cs, c.name.size ≤ 1048576) (hS : GRulS r) (hw : GRulW r) :
    Calls Try.prog 17 #[.slice A n c, v] w (Post (gruB cs r) w) := by
  have HV := Lib.hid (fun (Y : World) (hY : Below w.heap.size w Y) => l9gr_any A n c cs v r Y ((hC.below hY).wide hY.size) ((hv.below hY).wide hY.size) hn hs hS hw)
  obtain ⟨a0, a1, a2, a3, a4, a5, a6, a7, a8, a9, a10, a11, a12, G, m, d, rfl, h1, h2⟩ := hv
  have HBox : BoxN (w.alloc (.cells #[a0, a1, a2, a3, a4, a5, a6, a7, a8, a9, a10, a11, a12, .slice G m d, .int .i64 r.prio] 53)) w.heap.size 53 [a0, a1, a2, a3, a4, a5, a6, a7, a8, a9, a10, a11, a12, .slice G m d, .int .i64 r.prio] := BoxN.new w #[a0, a1, a2, a3, a4, a5, a6, a7, a8, a9, a10, a11, a12, .slice G m d, .int .i64 r.prio] 53
  have hB0 := (Below.refl w.heap.size w).alloc (Nat.le_refl _) (.cells #[a0, a1, a2, a3, a4, a5, a6, a7, a8, a9, a10, a11, a12, .slice G m d, .int .i64 r.prio] 53)
  obtain ⟨W, hW⟩ : ∃ W, w.alloc (.cells #[a0, a1, a2, a3, a4, a5, a6, a7, a8, a9, a10, a11, a12, .slice G m d, .int .i64 r.prio] 53) = W := ⟨_, rfl⟩
  rw [hW] at HBox hB0
  have HBox := Lib.hid HBox
  have HB0 := Lib.hid hB0
  have HWq := Lib.hid hW
  have HV1 := Lib.hid (fun (Y : World) (hY : Below w.heap.size w Y) => (h1.below hY).wide hY.size)
  have HV2 := Lib.hid (fun (Y : World) (hY : Below w.heap.size w Y) => (h2.below hY).wide hY.size)
  clear h1 h2 hC hn hs hS hw HV1 HV2 hB0 hW
  obtain ⟨g, hg⟩ : ∃ g, gruB cs r = g := ⟨_, rfl⟩
  rw [hg] at HV ⊢
  clear hg
  obtain ⟨x0, x1, x2, x3, x4, x5, x6, x7, x8, x9, x10, x11, x12, x13, x14⟩ := get15 HBox.out
  go_enter Try.func17, Try.ntmps17
  go_wp2_with fail
  rw [HWq.out]
  go_wp2_with fail
  refine (HV.out W HB0.out).mono ?_
  rintro e w1 ⟨rfl, hb⟩
  have hb1 := HB0.out.trans (hb.mono HB0.out.size)
  clear hb x0 x1 x2 x3 x4 x5 x6 x7 x8 x9 x10 x11 x12 x13 x14
  go_wp2_with fail
  go_ret
  exact ⟨rfl, hb1⟩

set_option maxRecDepth 20000 in
set_option maxHeartbeats 3200000 in
theorem iGr_any (A : Option Addr) (n c : Nat) (cs : List Ctl) (v : Value) (r : GRul) (w : World) (hC : CtlsAt w w.heap.size A n cs) (hv : GRulAt w w.heap.size v r) (hn : n ≤ 1048576) (hs : ∀ c ∈ cs, c.name.size ≤ 1048576) (hS : GRulS r) (hw : GRulW r) :
    Calls Try.prog 19 #[.slice A n c, v] w (Post (gruB cs r) w) := by
  obtain ⟨a0, a1, a2, a3, a4, a5, a6, a7, a8, a9, a10, a11, a12, G, m, d, rfl, h1, h2⟩ := hv
  have hb0 := (Below.refl w.heap.size w).alloc (Nat.le_refl _) (.cells #[.slice A n c] 34)
  have hcS : BoxN (w.alloc (.cells #[.slice A n c] 34)) w.heap.size 34 [.slice A n c] := BoxN.new w #[.slice A n c] 34
  obtain ⟨U, hU⟩ : ∃ U, w.alloc (.cells #[.slice A n c] 34) = U := ⟨_, rfl⟩
  have hUz : U.heap.size = w.heap.size + 1 := by rw [← hU]; simp
  rw [hU] at hb0 hcS
  have HBox : BoxN (U.alloc (.cells #[a0, a1, a2, a3, a4, a5, a6, a7, a8, a9, a10, a11, a12, .slice G m d, .int .i64 r.prio] 53)) U.heap.size 53 [a0, a1, a2, a3, a4, a5, a6, a7, a8, a9, a10, a11, a12, .slice G m d, .int .i64 r.prio] := BoxN.new U #[a0, a1, a2, a3, a4, a5, a6, a7, a8, a9, a10, a11, a12, .slice G m d, .int .i64 r.prio] 53
  have hb1 := (Below.refl U.heap.size U).alloc (Nat.le_refl _) (.cells #[a0, a1, a2, a3, a4, a5, a6, a7, a8, a9, a10, a11, a12, .slice G m d, .int .i64 r.prio] 53)
  obtain ⟨W, hW⟩ : ∃ W, U.alloc (.cells #[a0, a1, a2, a3, a4, a5, a6, a7, a8, a9, a10, a11, a12, .slice G m d, .int .i64 r.prio] 53) = W := ⟨_, rfl⟩
  rw [hW] at HBox hb1
  rw [hUz] at HBox
  have HBox := Lib.hid HBox
  have HcS := Lib.hid (hcS.on hb1)
  have HB0 := Lib.hid (hb0.trans (hb1.mono hb0.size))
  have HUq := Lib.hid hU
  have HWq := Lib.hid hW
  have HR := Lib.hid (fun (Y : World) (hY : Below w.heap.size w Y) => iRu_any A n c cs _ r.rule Y ((hC.below hY).wide hY.size) ((h1.below hY).wide hY.size) hn hs hS.1 hw.1)
  have hL := h2.1
  have hm : m ≤ 1048576 := by have := hS.2.1; omega
  have HL := Lib.hid hL
  obtain ⟨qa, hqa⟩ : ∃ q, r.guards.all (grdB cs) = q := ⟨_, rfl⟩
  have HQa := Lib.hid hqa
  have HF := Lib.hid (fun (Y : World) (hY : Below w.heap.size w Y) (hc : BoxN Y w.heap.size 34 [.slice A n c]) =>
    show Calls Try.prog 51 #[.slice G m d, .func (.func 52) #[] #[.pointer (some ⟨w.heap.size, 0, none⟩)]] Y (Post (!qa) Y) from by
      rw [← hqa, ← gru_any]
      exact gfi_any 52 #[.pointer (some ⟨w.heap.size, 0, none⟩)] (fun x => !grdB cs x) (enters_of Try.func52 (by kernel_rfl) rfl) G m d r.guards w Y
        (fun x v Z hx hZ hv => by
          have hwZ := hY.trans (hZ.mono hY.size)
          have hcZ := hc.on hZ
          simpa using gcl_any w.heap.size A n c cs v x Z (hcZ.cell rfl) hcZ.lt ((hC.below hwZ).wide hwZ.size) hv hn hs (hS.2.2 x hx) (hw.2.1.2 x hx).2) h2 hY hm)
  obtain ⟨q1, hq1⟩ : ∃ q, rulB cs r.rule = q := ⟨_, rfl⟩
  have HQ1 := Lib.hid hq1
  rw [hq1] at HR
  obtain ⟨g, hg⟩ : ∃ g, gruB cs r = g := ⟨_, rfl⟩
  have HGq := Lib.hid hg
  rw [hg]
  have HCx := Lib.hid (fun (Y : World) (hY : Below W.heap.size W Y) => And.intro (get15 (HBox.out.on hY)) ((HcS.out.on hY).cell (i := 0) rfl))
  clear hq1 hqa hg hC hn hs hS hw h1 h2 hb0 hb1 hU hW hcS hUz hL
  obtain ⟨⟨x0, x1, x2, x3, x4, x5, x6, x7, x8, x9, x10, x11, x12, x13, x14⟩, s0⟩ := HCx.out W (Below.refl _ _)
  have C := HR.out W HB0.out
  cases q1 with
  | false =>
    have HN : Hid (g = false) := Lib.hid (by rw [← HGq.out]; unfold gruB; rw [HQ1.out]; rfl)
    go_enter Try.func19, Try.ntmps19
    go_wp2_with fail
    rw [HUq.out, HWq.out]
    go_wp2_with fail
    refine C.mono ?_
    rintro e w1 ⟨rfl, hb⟩
    have hk := HB0.out.trans (hb.mono HB0.out.size)
    obtain ⟨⟨y0, y1, y2, y3, y4, y5, y6, y7, y8, y9, y10, y11, y12, y13, y14⟩, s1⟩ := HCx.out w1 hb
    clear hb C x0 x1 x2 x3 x4 x5 x6 x7 x8 x9 x10 x11 x12 x13 x14 s0
    go_wp2_with fail
    go_ret
    exact ⟨by rw [HN.out]; rfl, hk⟩
  | true =>
    by_cases h4 : m ≤ 4
    · cases hq : inb r.prio 0 9 with
      | false =>
        have HN : Hid (g = false) := Lib.hid (by rw [← HGq.out]; unfold gruB; rw [hq, Bool.and_false, Bool.false_and])
        have h4' : (m : Int) ≤ 4 := by omega
        go_enter Try.func19, Try.ntmps19
        go_wp2_with fail
        rw [HUq.out, HWq.out]
        go_wp2_with fail
        refine C.mono ?_
        rintro e w1 ⟨rfl, hb⟩
        have hk := HB0.out.trans (hb.mono HB0.out.size)
        obtain ⟨⟨y0, y1, y2, y3, y4, y5, y6, y7, y8, y9, y10, y11, y12, y13, y14⟩, s1⟩ := HCx.out w1 hb
        clear hb C x0 x1 x2 x3 x4 x5 x6 x7 x8 x9 x10 x11 x12 x13 x14 s0
        go_wp2_with (go_at_call 46; refine (win_any _ _ _ _).mono ?_; rintro e w' ⟨rfl, rfl⟩)
        go_ret
        exact ⟨by rw [HN.out]; rfl, hk⟩
      | true =>
        have HN : Hid (g = qa) := Lib.hid (by rw [← HGq.out, ← HQa.out]; unfold gruB; rw [HQ1.out, HL.out, decide_eq_true h4, hq]; rfl)
        have h4' : (m : Int) ≤ 4 := by omega
        go_enter Try.func19, Try.ntmps19
        go_wp2_with fail
        rw [HUq.out, HWq.out]
        go_wp2_with fail
        refine C.mono ?_
        rintro e w1 ⟨rfl, hb⟩
        have hk := HB0.out.trans (hb.mono HB0.out.size)
        have HcY := HcS.out.on hb
        obtain ⟨⟨y0, y1, y2, y3, y4, y5, y6, y7, y8, y9, y10, y11, y12, y13, y14⟩, s1⟩ := HCx.out w1 hb
        clear hb C x0 x1 x2 x3 x4 x5 x6 x7 x8 x9 x10 x11 x12 x13 x14 s0
        go_wp2_with (go_at_call 46; refine (win_any _ _ _ _).mono ?_; rintro e w' ⟨rfl, rfl⟩)
        refine (HF.out w1 hk HcY).mono ?_
        rintro e w2 ⟨rfl, hb⟩
        have hk2 := hk.trans (hb.mono hk.size)
        clear hb
        go_wp2_with fail
        go_ret
        exact ⟨by rw [HN.out]; simp, hk2⟩
    · have HN : Hid (g = false) := Lib.hid (by rw [← HGq.out]; unfold gruB; rw [HL.out, decide_eq_false h4, Bool.and_false, Bool.false_and, Bool.false_and])
      have h4' : ¬ (m : Int) ≤ 4 := by omega
      go_enter Try.func19, Try.ntmps19
      go_wp2_with fail
      rw [HUq.out, HWq.out]
      go_wp2_with fail
      refine C.mono ?_
      rintro e w1 ⟨rfl, hb⟩
      have hk := HB0.out.trans (hb.mono HB0.out.size)
      obtain ⟨⟨y0, y1, y2, y3, y4, y5, y6, y7, y8, y9, y10, y11, y12, y13, y14⟩, s1⟩ := HCx.out w1 hb
      clear hb C x0 x1 x2 x3 x4 x5 x6 x7 x8 x9 x10 x11 x12 x13 x14 s0
      go_wp2_with fail
      go_ret
      exact ⟨by rw [HN.out]; rfl, hk⟩
end Go.Proofs.Ytfjgapkjpmkplaa.gdi
