/- impl.composed's closures. -/
import Derived.Test.YtlpgldejmdiceabGreatUx
import Derived.Test.YtlpgldejmdiceabGreatQe
namespace Go.Proofs.YtlpgldejmdiceabGreat.uc
open kit bg sg opn strs only hb sig isig un over gn nm inn ht gd im pt marks eqs hc hi hw hn rs br bm bw cf lf ib isa lawb lw cl rt ix tg rl ed tp rtg uw ux oc
open Go.RowKit
set_option linter.unusedVariables false
set_option linter.unusedSimpArgs false
set_option maxRecDepth 20000 in
set_option maxHeartbeats 1600000 in
theorem cm2_any (a0 a3 : Value) (A1 : Option Addr) (n1 c1 : Nat) (A2 : Option Addr) (n2 c2 : Nat) (A4 : Option Addr) (n4 c4 : Nat) (A5 : Option Addr) (n5 c5 : Nat) (zs : List Int) (r : Int) (β : Nat) (w : World) (hx : BoxAt w β 31 a0 (.slice A1 n1 c1) (.slice A2 n2 c2) a3 (.slice A4 n4 c4) (.slice A5 n5 c5)) (h2 : IntsAt w w.heap.size A2 n2 zs) (hr : 0 ≤ r ∧ r < n2) (hn : n2 ≤ 1048576) :
    Calls Tryz.prog 97 #[.int .i64 r, .pointer (some ⟨β, 0, none⟩)] w fun e w' => e = .returned (.int .i64 (zs.getD r.toNat 0)) ∧ Below w.heap.size w w' := by
  obtain ⟨k, rfl⟩ : ∃ k : Nat, r = k := ⟨r.toNat, by omega⟩
  obtain ⟨b2, o2, z, rfl, hb2, hz, cz⟩ := h2.get (show k < n2 by omega)
  have HZ : Hid (zs.getD (k : Int).toNat 0 = z) := Lib.hid (by rw [Int.toNat_natCast, List.getD_eq_getElem?_getD, hz]; rfl)
  rw [HZ.out]
  have hkn : k < n2 := by omega
  obtain ⟨x0, x1, x2, x3, x4, x5⟩ := hx.get
  clear h2 hz hr
  go_enter Tryz.func97, Tryz.ntmps97
  go_wp2_with fail
  go_ret
  exact ⟨rfl, Below.refl _ _⟩
set_option maxRecDepth 20000 in
set_option maxHeartbeats 6400000 in
theorem cm1_any (a b : Big) (A1 : Option Addr) (n1 c1 : Nat) (A2 : Option Addr) (n2 c2 : Nat) (A4 : Option Addr) (n4 c4 : Nat) (A5 : Option Addr) (n5 c5 : Nat) (b0 b1 b2 b3 : Value) (B4 : Option Addr) (m4 d4 : Nat) (y5 : Value) (u : Tgt) (γ βa βb δ : Nat) (w : World)
    (hf : w.cell? ⟨γ, 0, none⟩ = some (.func (.func 115) #[] #[.pointer (some ⟨δ, 0, none⟩)])) (hγ : γ < w.heap.size) (hd : w.cell? ⟨δ, 0, none⟩ = some (.int .i64 a.edges)) (hδ : δ < w.heap.size)
    (hv : BigAt w w.heap.size (.agg #[.int .i64 a.roots, .slice A1 n1 c1, .slice A2 n2 c2, .int .i64 a.edges, .slice A4 n4 c4, .slice A5 n5 c5]) a) (hxa : BoxAt w βa 31 (.int .i64 a.roots) (.slice A1 n1 c1) (.slice A2 n2 c2) (.int .i64 a.edges) (.slice A4 n4 c4) (.slice A5 n5 c5)) (hxb : BoxAt w βb 31 b0 b1 b2 b3 (.slice B4 m4 d4) y5) (hsb : SR w w.heap.size B4 m4 (b.outer.map Value.string))
    (hEa : 0 ≤ a.edges ∧ a.edges ≤ 8) (hoa : a.outer.length ≤ 16) (hin : a.inner.length = b.outer.length) (hla : ∀ x ∈ a.inner, 0 ≤ x.link ∧ x.link < a.edges + a.outer.length) (hm : m4 ≤ 16) (hu : -1000 ≤ u.edge ∧ u.edge ≤ 1000) (hun : isE u = false → u.name ∈ b.outer) :
    Calls Tryz.prog 92 #[tgV u, .pointer (some ⟨γ, 0, none⟩), .pointer (some ⟨βa, 0, none⟩), .pointer (some ⟨βb, 0, none⟩)] w fun e w' => e = .returned (tgV (cmF a b u)) ∧ Below w.heap.size w w' := by
  obtain ⟨ue, un⟩ := u
  obtain ⟨A1', n1', c1', A2', n2', c2', A4', n4', c4', A5', n5', c5', e, -, -, -, h5⟩ := id hv
  injection e with e
  simp at e
  obtain ⟨⟨rfl, rfl, rfl⟩, ⟨rfl, rfl, rfl⟩, ⟨rfl, rfl, rfl⟩, rfl, rfl, rfl⟩ := e
  have hb1 := (Below.refl w.heap.size w).alloc (Nat.le_refl _) (.cells #[.int .i64 ue, .string un] 119)
  obtain ⟨U, hU⟩ : ∃ U, w.alloc (.cells #[.int .i64 ue, .string un] 119) = U := ⟨_, rfl⟩
  have hUz : U.heap.size = w.heap.size + 1 := by rw [← hU, World.size_alloc]
  have hTu : TwoAt U w.heap.size ⟨ue, un⟩ := by rw [← hU]; exact two_new w ⟨ue, un⟩
  rw [hU] at hb1
  have hb2 := (Below.refl U.heap.size U).alloc (Nat.le_refl _) (.cells #[.int .i64 0, .string ⟨#[]⟩] 119)
  have hTz := two_new U ⟨0, ⟨#[]⟩⟩
  obtain ⟨V, hV⟩ : ∃ V, U.alloc (.cells #[.int .i64 0, .string ⟨#[]⟩] 119) = V := ⟨_, rfl⟩
  have hVz : V.heap.size = w.heap.size + 2 := by rw [← hV, World.size_alloc, hUz]
  dsimp only at hTz
  rw [hV] at hb2 hTz
  rw [hUz] at hTz
  have hTv := hTu.on hb2
  have hbV := hb1.trans (hb2.mono hb1.size)
  have CE := isE_any ⟨ue, un⟩ V
  have HUq := Lib.hid hU
  have HVq := Lib.hid hV
  have HTv := Lib.hid hTv
  have HTz := Lib.hid hTz
  have HbV := Lib.hid hbV
  obtain ⟨r0, r1⟩ := hTv.get
  dsimp only at r0 r1 hu hun
  obtain ⟨hu0, hu1⟩ := hu
  obtain ⟨hE0, hE1⟩ := hEa
  unfold tgV at CE
  dsimp only at CE
  have Hf := Lib.hid hf
  have Hd := Lib.hid hd
  have HXa := Lib.hid hxa
  have HXb := Lib.hid hxb
  have HSb := Lib.hid hsb
  have HV := Lib.hid hv
  have H5 := Lib.hid h5
  clear hU hV hb1 hb2 hTu hTv hTz hbV hf hd hxa hxb hsb hv h5
  rw [← HVq.out, ← HUq.out] at r0 r1
  cases hE : isE ⟨ue, un⟩ with
  | true =>
    rw [hE] at CE
    have CB := Lib.hid (fun (Y : World) (hY : Below w.heap.size w Y) => beh1_any a.edges ⟨ue, un⟩ δ Y ((hY.cell (p := ⟨δ, 0, none⟩) hδ).trans Hd.out) (Nat.lt_of_lt_of_le hδ hY.size) (by omega) (by dsimp only; omega))
    have HF : Hid (cmF a b ⟨ue, un⟩ = ⟨ue + a.edges, un⟩) := Lib.hid (cmF_edge hE)
    rw [show behF a.edges ⟨ue, un⟩ = ⟨ue + a.edges, un⟩ from behF_edge hE] at CB
    rw [HF.out]
    unfold tgV at CB ⊢
    dsimp only at CB ⊢
    clear hla hin
    go_enter Tryz.func92, Tryz.ntmps92
    go_wp2_with fail
    rw [HUq.out, HVq.out]
    refine CE.mono ?_
    rintro e1 w1 ⟨rfl, hb⟩
    have hw1 := HbV.out.trans (hb.mono HbV.out.size)
    have HB1 := Lib.hid hw1
    have hf1 := (hw1.cell (p := ⟨γ, 0, none⟩) hγ).trans Hf.out
    obtain ⟨q0, q1⟩ := (HTv.out.on hb).get
    have HT1 := Lib.hid (HTz.out.on hb)
    have CB1 := CB.out w1 hw1
    dsimp only at q0 q1
    clear CE r0 r1 hb hw1
    go_wp2_with fail
    refine CB1.mono ?_
    rintro e2 w2 ⟨rfl, hb⟩
    have HT2 := (HT1.out.on hb).put (u := ⟨ue + a.edges, un⟩)
    obtain ⟨p0, p1⟩ := (HT1.out.on hb).get
    obtain ⟨f0, f1⟩ := (HT1.out.on hb).fz
    have HB2 := Lib.hid (HB1.out.trans (hb.mono HB1.out.size))
    have HZ := Lib.hid HT2.get
    dsimp only at p0 p1
    clear CB1 q0 q1 hf1 hb HT2
    go_wp2_with fail
    obtain ⟨z0, z1⟩ := HZ.out
    try dsimp only at z0 z1
    exact bodyPost_ret (v := .agg #[.int .i64 (ue + a.edges), .string un]) (by simp [results, Tryz.results92, go_sem, z0, z1]) rfl ⟨rfl, (HB2.out.setCell (p := ⟨w.heap.size + 1, 0, none⟩) (Nat.le_succ _) _).setCell (p := ⟨w.heap.size + 1, 1, none⟩) (Nat.le_succ _) _⟩
  | false =>
    rw [hE] at CE
    have hmem : un ∈ b.outer := hun hE
    rcases ixF_cases b.outer un with ⟨_, hno⟩ | ⟨k, hk, hks, _⟩
    · exact absurd hmem hno
    have hkb := (List.getElem?_eq_some_iff.1 hks).1
    have hkn : k < n5 := by rw [← H5.out.1, hin]; exact hkb
    obtain ⟨b5, o5, x, rfl, hb5, hx, cx0, cx1⟩ := H5.out.get hkn
    have hxl := hla x (List.mem_of_getElem? hx)
    have HF : Hid (cmF a b ⟨ue, un⟩ = tgOf a x.link) := Lib.hid (by
      rw [cmF_name hE]
      show tgOf a (inL a (ixF b.outer un).toNat) = _
      rw [hk, Int.toNat_natCast, inL_at hx])
    rw [HF.out]
    obtain ⟨T, hT⟩ : ∃ T, tgOf a x.link = T := ⟨_, rfl⟩
    have CT := Lib.hid (fun (Y : World) (hY : Below w.heap.size w Y) => tof_any (.agg #[.int .i64 a.roots, .slice A1 n1 c1, .slice A2 n2 c2, .int .i64 a.edges, .slice A4 n4 c4, .slice (some ⟨b5, o5, none⟩) n5 c5]) a x.link w Y HV.out hY hxl ⟨hE0, hE1⟩ hoa)
    have CI := Lib.hid (fun (Y : World) (hY : Below w.heap.size w Y) => index_any B4 m4 d4 b.outer un Y _ (HSb.out.below hY) (by omega))
    rw [hT] at CT ⊢
    rw [hk] at CI
    have hs1 : HSb.out.strlen = HSb.out.strlen := rfl
    have hkm : (k : Nat) < m4 := by have := HSb.out.strlen; omega
    have HC5 := Lib.hid (And.intro hb5 cx1)
    have hn5 : n5 ≤ 16 := by rw [← H5.out.1, hin, HSb.out.strlen]; exact hm
    obtain ⟨te, tn⟩ := T
    unfold tgV at CT ⊢
    dsimp only at CT ⊢
    clear hla hin hmem hks hkb hx cx0 cx1 hT hk hun hs1
    go_enter Tryz.func92, Tryz.ntmps92
    go_wp2_with fail
    rw [HUq.out, HVq.out]
    refine CE.mono ?_
    rintro e1 w1 ⟨rfl, hb⟩
    have hw1 := HbV.out.trans (hb.mono HbV.out.size)
    have HB1 := Lib.hid hw1
    have HT1 := Lib.hid (HTz.out.on hb)
    have HTu1 := Lib.hid (HTv.out.on hb)
    have hs1 := hw1.size
    have hsV : V.heap.size ≤ w1.heap.size := hb.size
    have HS : Hid (∀ w', Below w1.heap.size w1 w' → (w'.cell? ⟨βa, 0, none⟩ = some (.int .i64 a.roots) ∧ w'.cell? ⟨βa, 1, none⟩ = some (.slice A1 n1 c1) ∧ w'.cell? ⟨βa, 2, none⟩ = some (.slice A2 n2 c2) ∧ w'.cell? ⟨βa, 3, none⟩ = some (.int .i64 a.edges) ∧ w'.cell? ⟨βa, 4, none⟩ = some (.slice A4 n4 c4) ∧ w'.cell? ⟨βa, 5, none⟩ = some (.slice (some ⟨b5, o5, none⟩) n5 c5) ∧ w'.cell? ⟨βb, 4, none⟩ = some (.slice B4 m4 d4) ∧ w'.cell? ⟨w.heap.size, 1, none⟩ = some (.string un) ∧ w'.cell? ⟨b5, o5 + k * 2 + 1, none⟩ = some (.int .i64 x.link))) := Lib.hid (fun w' hq => by
      have hwq := HB1.out.trans (hq.mono HB1.out.size)
      obtain ⟨g0, g1, g2, g3, g4, g5⟩ := (HXa.out.below hwq (World.rowIs.lt HXa.out)).get
      exact ⟨g0, g1, g2, g3, g4, g5, (HXb.out.below hwq (World.rowIs.lt HXb.out)).get.2.2.2.2.1, (HTu1.out.on hq).get.2, (hwq.cell (p := ⟨b5, o5 + k * 2 + 1, none⟩) HC5.out.1).trans HC5.out.2⟩)
    obtain ⟨q0, q1⟩ := HTu1.out.get
    dsimp only at q0 q1
    have hkD := (Below.refl w1.heap.size w1).drew
    have hwD := HB1.out.drew
    clear CE r0 r1 hb hw1
    go_wp2_with fail
    clear q0 q1
    refine rh.go_begin 12 (fun w' => (w'.cell? ⟨βa, 0, none⟩ = some (.int .i64 a.roots) ∧ w'.cell? ⟨βa, 1, none⟩ = some (.slice A1 n1 c1) ∧ w'.cell? ⟨βa, 2, none⟩ = some (.slice A2 n2 c2) ∧ w'.cell? ⟨βa, 3, none⟩ = some (.int .i64 a.edges) ∧ w'.cell? ⟨βa, 4, none⟩ = some (.slice A4 n4 c4) ∧ w'.cell? ⟨βa, 5, none⟩ = some (.slice (some ⟨b5, o5, none⟩) n5 c5) ∧ w'.cell? ⟨βb, 4, none⟩ = some (.slice B4 m4 d4) ∧ w'.cell? ⟨w.heap.size, 1, none⟩ = some (.string un) ∧ w'.cell? ⟨b5, o5 + k * 2 + 1, none⟩ = some (.int .i64 x.link))) (by kernel_rfl) ?_ (fun hHeld => ?_)
    · ((try dsimp only); exact HS.out _ (by go_grown))
    refine rh.go_take (i := 0) (v := ?v1) rfl (by kernel_rfl) (fun _ _ _ h => h) (Or.inl ⟨by rfl, ?hy1⟩) (by assumption) ?rest1
    case hy1 => (intro wS hSw; (try dsimp only at hSw); go_simp; try (with_reducible rfl))
    try simp only [Act.put, List.setIfInBounds_toArray, List.set_cons_zero, List.set_cons_succ]
    refine rh.go_take (i := 1) (v := ?v2) rfl (by kernel_rfl) (fun _ _ _ h => h) (Or.inl ⟨by rfl, ?hy2⟩) (by assumption) ?rest2
    case hy2 => (intro wS hSw; (try dsimp only at hSw); go_simp; try (with_reducible rfl))
    try simp only [Act.put, List.setIfInBounds_toArray, List.set_cons_zero, List.set_cons_succ]
    refine rh.go_take (i := 2) (v := ?v3) rfl (by kernel_rfl) (fun _ _ _ h => h) (Or.inl ⟨by rfl, ?hy3⟩) (by assumption) ?rest3
    case hy3 => (intro wS hSw; (try dsimp only at hSw); go_simp; try (with_reducible rfl))
    try simp only [Act.put, List.setIfInBounds_toArray, List.set_cons_zero, List.set_cons_succ]
    refine rh.go_take (i := 3) (v := ?v4) rfl (by kernel_rfl) (fun _ _ _ h => h) (Or.inl ⟨by rfl, ?hy4⟩) (by assumption) ?rest4
    case hy4 => (intro wS hSw; (try dsimp only at hSw); go_simp; try (with_reducible rfl))
    try simp only [Act.put, List.setIfInBounds_toArray, List.set_cons_zero, List.set_cons_succ]
    refine rh.go_take (i := 4) (v := ?v5) rfl (by kernel_rfl) (fun _ _ _ h => h) (Or.inl ⟨by rfl, ?hy5⟩) (by assumption) ?rest5
    case hy5 => (intro wS hSw; (try dsimp only at hSw); go_simp; try (with_reducible rfl))
    try simp only [Act.put, List.setIfInBounds_toArray, List.set_cons_zero, List.set_cons_succ]
    refine rh.go_take (i := 5) (v := ?v6) rfl (by kernel_rfl) (fun _ _ _ h => h) (Or.inl ⟨by rfl, ?hy6⟩) (by assumption) ?rest6
    case hy6 => (intro wS hSw; (try dsimp only at hSw); go_simp; try (with_reducible rfl))
    try simp only [Act.put, List.setIfInBounds_toArray, List.set_cons_zero, List.set_cons_succ]
    refine rh.go_take (i := 6) (v := ?v7) rfl (by kernel_rfl) (fun _ _ _ h => h) (Or.inl ⟨by rfl, ?hy7⟩) (by assumption) ?rest7
    case hy7 => (intro wS hSw; (try dsimp only at hSw); go_simp; try (with_reducible rfl))
    try simp only [Act.put, List.setIfInBounds_toArray, List.set_cons_zero, List.set_cons_succ]
    refine rh.go_next (i := 7) rfl (by kernel_rfl) (fun K2 hK => ?_)
    (go_simp; go_at_call 95; refine (CI.out _ hwD).mono ?_; rintro e2 w2 ⟨rfl, rfl⟩; go_wp2_with fail)
    refine hK.out _ _ ?_ (fun hHeld => ?_)
    · ((try dsimp only); exact HS.out _ (by go_grown))
    clear hK K2
    try simp only [Act.put, List.setIfInBounds_toArray, List.set_cons_zero, List.set_cons_succ]
    refine rh.go_take (i := 8) (v := ?v8) rfl (by kernel_rfl) (fun _ _ _ h => h) (Or.inl ⟨by rfl, ?hy8⟩) (by assumption) ?rest8
    case hy8 => (intro wS hSw; (try dsimp only at hSw); go_simp; try (with_reducible rfl))
    try simp only [Act.put, List.setIfInBounds_toArray, List.set_cons_zero, List.set_cons_succ]
    refine rh.go_take (i := 9) (v := ?v9) rfl (by kernel_rfl) (fun _ _ _ h => h) (Or.inl ⟨by rfl, ?hy9⟩) (by assumption) ?rest9
    case hy9 => (intro wS hSw; (try dsimp only at hSw); go_simp; try (with_reducible rfl))
    try simp only [Act.put, List.setIfInBounds_toArray, List.set_cons_zero, List.set_cons_succ]
    refine rh.go_take (i := 10) (v := ?v10) rfl (by kernel_rfl) (fun _ _ _ h => h) (Or.inl ⟨by rfl, ?hy10⟩) (by assumption) ?rest10
    case hy10 => (intro wS hSw; (try dsimp only at hSw); go_simp; try (with_reducible rfl))
    try simp only [Act.put, List.setIfInBounds_toArray, List.set_cons_zero, List.set_cons_succ]
    refine rh.go_next (i := 11) rfl (by kernel_rfl) (fun K2 hK => ?_)
    (go_simp; go_at_call 94; refine (CT.out _ hwD).mono ?_; rintro e2 w2 ⟨rfl, hb⟩; have hk2 := hkD.trans (hb.mono hkD.size); have HK2 := Lib.hid hk2; clear hb; go_wp2_with fail)
    refine hK.out _ _ ?_ (fun hHeld => ?_)
    · ((try dsimp only); exact HS.out _ (by go_grown))
    clear hK K2
    try simp only [Act.put, List.setIfInBounds_toArray, List.set_cons_zero, List.set_cons_succ]
    have HT2 := (HT1.out.on HK2.out).put (u := ⟨te, tn⟩)
    obtain ⟨p0, p1⟩ := (HT1.out.on HK2.out).get
    obtain ⟨f0, f1⟩ := (HT1.out.on HK2.out).fz
    dsimp only at p0 p1
    have HB2 := Lib.hid (HB1.out.trans (HK2.out.mono HB1.out.size))
    have HZ := Lib.hid HT2.get
    clear HT2
    refine rh.go_last rfl (by kernel_rfl) (fun K2 hK => ?_)
    go_simp
    refine hK.out _ _ ?_
    refine NoPanic.normal ?_
    clear hK K2
    go_wp2_with fail
    obtain ⟨z0, z1⟩ := HZ.out
    try dsimp only at z0 z1
    exact bodyPost_ret (v := .agg #[.int .i64 te, .string tn]) (by simp [results, Tryz.results92, go_sem, z0, z1]) rfl ⟨rfl, (HB2.out.setCell (p := ⟨w.heap.size + 1, 0, none⟩) (Nat.le_succ _) _).setCell (p := ⟨w.heap.size + 1, 1, none⟩) (Nat.le_succ _) _⟩
end Go.Proofs.YtlpgldejmdiceabGreat.uc
