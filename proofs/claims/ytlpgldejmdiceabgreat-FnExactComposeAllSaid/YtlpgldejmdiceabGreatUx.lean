/- impl.unchanged and impl.behindEdges with its closure. -/
import Derived.Test.YtlpgldejmdiceabGreatUw
import Derived.Test.YtlpgldejmdiceabGreatOc
import Derived.Test.YtlpgldejmdiceabGreatRta
namespace Go.Proofs.YtlpgldejmdiceabGreat.ux
open kit bg sg opn strs only hb sig isig un over gn nm inn ht gd im pt marks eqs hc hi hw hn rs br bm bw cf lf ib isa lawb lw cl rt ix tg rl ed tp rtg uw oc
open Go.RowKit
set_option linter.unusedVariables false
set_option linter.unusedSimpArgs false
theorem unc_any (t : Tgt) (w : World) : Calls Tryz.prog 90 #[tgV t] w fun e w' => e = .returned (tgV t) ∧ Below w.heap.size w w' := by
  have hb1 := (Below.refl w.heap.size w).alloc (Nat.le_refl _) (.cells #[.int .i64 t.edge, .string t.name] 119)
  have hb2 := hb1.alloc hb1.size (.cells #[.int .i64 t.edge, .string t.name] 119)
  obtain ⟨z0, z1⟩ := (two_new (w.alloc (.cells #[.int .i64 t.edge, .string t.name] 119)) t).get
  clear hb1
  obtain ⟨te, tn⟩ := t
  unfold tgV
  dsimp only at z0 z1 hb2 ⊢
  go_enter Tryz.func90, Tryz.ntmps90
  go_wp2_with fail
  first
  | (go_ret; exact ⟨rfl, Below.refl _ _⟩)
  | exact bodyPost_ret (v := .agg #[.int .i64 te, .string tn]) (by simp [results, Tryz.results90, go_sem, z0, z1]) rfl ⟨rfl, hb2⟩
theorem beh_any (k : Int) (w : World) : Calls Tryz.prog 91 #[.int .i64 k] w fun e w' => e = .returned (.func (.func 115) #[] #[.pointer (some ⟨w.heap.size, 0, none⟩)]) ∧ w'.cell? ⟨w.heap.size, 0, none⟩ = some (.int .i64 k) ∧ w.heap.size < w'.heap.size ∧ Below w.heap.size w w' := by
  have hb1 := (Below.refl w.heap.size w).alloc (Nat.le_refl _) (.cells #[.int .i64 k] 3)
  have hc := rta.one_cell w (.int .i64 k) 3
  obtain ⟨U, hU⟩ : ∃ U, w.alloc (.cells #[.int .i64 k] 3) = U := ⟨_, rfl⟩
  have hUz : U.heap.size = w.heap.size + 1 := by rw [← hU, World.size_alloc]
  rw [hU] at hb1 hc
  have HR := Lib.hid (And.intro hc (And.intro (show w.heap.size < U.heap.size by omega) hb1))
  have HU := Lib.hid hU
  clear hb1 hc hU hUz
  go_enter Tryz.func91, Tryz.ntmps91
  go_wp2_with fail
  rw [HU.out]
  (try go_wp2_with fail)
  go_ret
  exact ⟨rfl, HR.out⟩
set_option maxRecDepth 20000 in
set_option maxHeartbeats 1600000 in
theorem beh1_any (k : Int) (u : Tgt) (γ : Nat) (w : World) (hk : w.cell? ⟨γ, 0, none⟩ = some (.int .i64 k)) (hγ : γ < w.heap.size) (hkk : -1000 ≤ k ∧ k ≤ 1000) (hu : -1000 ≤ u.edge ∧ u.edge ≤ 1000) :
    Calls Tryz.prog 115 #[tgV u, .pointer (some ⟨γ, 0, none⟩)] w fun e' w' => e' = .returned (tgV (behF k u)) ∧ Below w.heap.size w w' := by
  obtain ⟨ue, un⟩ := u
  obtain ⟨hk0, hk1⟩ := hkk
  have hb1 := (Below.refl w.heap.size w).alloc (Nat.le_refl _) (.cells #[.int .i64 ue, .string un] 119)
  obtain ⟨U, hU⟩ : ∃ U, w.alloc (.cells #[.int .i64 ue, .string un] 119) = U := ⟨_, rfl⟩
  have hUz : U.heap.size = w.heap.size + 1 := by rw [← hU, World.size_alloc]
  have hTu : TwoAt U w.heap.size ⟨ue, un⟩ := by rw [← hU]; exact two_new w ⟨ue, un⟩
  rw [hU] at hb1
  have hb2 := (Below.refl U.heap.size U).alloc (Nat.le_refl _) (.cells #[.int .i64 0, .string ⟨#[]⟩] 119)
  have hTz := two_new U ⟨0, ⟨#[]⟩⟩
  obtain ⟨V, hV⟩ : ∃ V, U.alloc (.cells #[.int .i64 0, .string ⟨#[]⟩] 119) = V := ⟨_, rfl⟩
  have hVz : V.heap.size = w.heap.size + 2 := by rw [← hV, World.size_alloc, hUz]
  dsimp only at hTz
  rw [hV] at hb2 hTz
  rw [hUz] at hTz
  have hTv := hTu.on hb2
  have hbV := hb1.trans (hb2.mono hb1.size)
  have CE := isE_any ⟨ue, un⟩ V
  have hce := (hbV.cell (p := ⟨γ, 0, none⟩) hγ).trans hk
  have HUq := Lib.hid hU
  have HVq := Lib.hid hV
  have HTv := Lib.hid hTv
  have HTz := Lib.hid hTz
  have HbV := Lib.hid hbV
  obtain ⟨r0, r1⟩ := hTv.get
  dsimp only at r0 r1 hu
  obtain ⟨hu0, hu1⟩ := hu
  unfold tgV at CE
  dsimp only at CE
  have X : Hid (V.cell? ⟨γ, 0, none⟩ = some (.int .i64 k)) := Lib.hid hce
  clear hU hV hb1 hb2 hTu hTv hTz hbV hk hce
  rw [← HVq.out, ← HUq.out] at r0 r1
  cases hE : isE ⟨ue, un⟩ with
  | false =>
    rw [hE] at CE
    rw [behF_name hE]
    unfold tgV
    dsimp only
    go_enter Tryz.func115, Tryz.ntmps115
    go_wp2_with fail
    rw [HUq.out, HVq.out]
    refine CE.mono ?_
    rintro e1 w1 ⟨rfl, hb⟩
    have HT1 := (HTz.out.on hb).put (u := ⟨ue, un⟩)
    have HU1 := (HTv.out.on hb)
    obtain ⟨q0, q1⟩ := HU1.get
    obtain ⟨p0, p1⟩ := (HTz.out.on hb).get
    obtain ⟨f0, f1⟩ := (HTz.out.on hb).fz
    have HB1 := Lib.hid (HbV.out.trans (hb.mono HbV.out.size))
    have HZ := Lib.hid HT1.get
    dsimp only at q0 q1 p0 p1
    clear CE r0 r1 HU1 HT1 hb
    go_wp2_with fail
    obtain ⟨z0, z1⟩ := HZ.out
    try dsimp only at z0 z1
    exact bodyPost_ret (v := .agg #[.int .i64 ue, .string un]) (by simp [results, Tryz.results115, go_sem, z0, z1]) rfl ⟨rfl, (HB1.out.setCell (p := ⟨w.heap.size + 1, 0, none⟩) (Nat.le_succ _) _).setCell (p := ⟨w.heap.size + 1, 1, none⟩) (Nat.le_succ _) _⟩
  | true =>
    rw [hE] at CE
    rw [behF_edge hE]
    have hw1 : wrap64 (ue + k) = ue + k := by unfold wrap64; omega
    unfold tgV
    dsimp only
    go_enter Tryz.func115, Tryz.ntmps115
    go_wp2_with fail
    rw [HUq.out, HVq.out]
    refine CE.mono ?_
    rintro e1 w1 ⟨rfl, hb⟩
    have HUe := two_edge (HTv.out.on hb) (ue + k)
    have HZe := two_far (HTz.out.on hb) (show w.heap.size + 1 ≠ w.heap.size by omega) (.int .i64 (ue + k))
    have HT1 := HZe.put (u := ⟨ue + k, un⟩)
    obtain ⟨q0, q1⟩ := (HTv.out.on hb).get
    obtain ⟨g0, g1⟩ := (HTv.out.on hb).fz
    obtain ⟨q2, q3⟩ := HUe.get
    obtain ⟨p0, p1⟩ := HZe.get
    obtain ⟨f0, f1⟩ := HZe.fz
    have hce1 := (hb.cell (p := ⟨γ, 0, none⟩) (by dsimp only; omega)).trans X.out
    have HB1 := Lib.hid ((HbV.out.trans (hb.mono HbV.out.size)).setCell (p := ⟨w.heap.size, 0, none⟩) (Nat.le_refl _) (.int .i64 (ue + k)))
    have HZ := Lib.hid HT1.get
    dsimp only at q0 q1 q2 q3 p0 p1
    clear CE r0 r1 HT1 HUe HZe hb
    go_wp2_with fail
    obtain ⟨z0, z1⟩ := HZ.out
    try dsimp only at z0 z1
    exact bodyPost_ret (v := .agg #[.int .i64 (ue + k), .string un]) (by simp [results, Tryz.results115, go_sem, z0, z1]) rfl ⟨rfl, (HB1.out.setCell (p := ⟨w.heap.size + 1, 0, none⟩) (Nat.le_succ _) _).setCell (p := ⟨w.heap.size + 1, 1, none⟩) (Nat.le_succ _) _⟩
end Go.Proofs.YtlpgldejmdiceabGreat.ux
