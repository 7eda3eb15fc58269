/- impl.RenameOuter: its closure. -/
import Derived.Test.YtlhickjlcmiknaaGreatRox
import Derived.Test.YtlhickjlcmiknaaGreatIx
import Derived.Test.YtlhickjlcmiknaaGreatQe
namespace Go.Proofs.YtlhickjlcmiknaaGreat.roc
open kit bg sg opn strs only hb sig isig un over gn nm inn ht gd im pt marks eqs hc hi hw hn rs br bm bw cf lf ib isa lawb lw cl rt ix tg rl ed tp rtg lo nl lep rnp pm pl mb sb wb jo ek wk rk gv tm idl psp co uw rox
open Go.RowKit
set_option linter.unusedVariables false
set_option linter.unusedSimpArgs false
noncomputable def rxF (E : Int) (nm sr : List ByteArray) (l : Int) : Int := if l < E then l else E + ixF sr ((nm[(l - E).toNat]?).getD noS)
theorem rxF_ou (b : Big) (nm sr : List ByteArray) (l : Int) : rxF b.edges nm sr l = ouF b nm sr l := rfl
set_option maxRecDepth 20000 in
set_option maxHeartbeats 3200000 in
theorem rn1_any (E : Int) (nm sr : List ByteArray) (An As : Option Addr) (nn cn ns cs : Nat) (l : Int) (βb βs βn : Nat) (w : World) (hE : w.cell? ⟨βb, 3, none⟩ = some (.int .i64 E)) (hb : βb < w.heap.size) (hs : w.cell? ⟨βs, 0, none⟩ = some (.slice As ns cs)) (hs' : βs < w.heap.size) (hn : w.cell? ⟨βn, 0, none⟩ = some (.slice An nn cn)) (hn' : βn < w.heap.size)
    (hS : SR w w.heap.size As ns (sr.map Value.string)) (hN : SR w w.heap.size An nn (nm.map Value.string)) (hE0 : 0 ≤ E ∧ E ≤ 8) (hnn : nn ≤ 16) (hns : ns ≤ 16) (hl : 0 ≤ l ∧ l < E + nn) :
    Calls Tryz.prog 89 #[.int .i64 l, .pointer (some ⟨βb, 0, none⟩), .pointer (some ⟨βs, 0, none⟩), .pointer (some ⟨βn, 0, none⟩)] w fun e w' => e = .returned (.int .i64 (rxF E nm sr l)) ∧ Below w.heap.size w w' := by
  obtain ⟨hE1, hE2⟩ := hE0
  obtain ⟨hl0, hl1⟩ := hl
  by_cases h0 : l < E
  · have HE : Hid (rxF E nm sr l = l) := Lib.hid (if_pos h0)
    rw [HE.out]
    have hr := Below.refl w.heap.size w
    clear hs hn hS hN
    go_enter Tryz.func89, Tryz.ntmps89
    go_wp2_with fail
    go_ret
    exact ⟨rfl, hr⟩
  · obtain ⟨k, hk⟩ : ∃ k : Nat, l - E = k := ⟨(l - E).toNat, by omega⟩
    have hkn : k < nn := by omega
    obtain ⟨bn, off, u, rfl, hbn, hu, cu⟩ := hN.str hkn
    have HF : Hid (rxF E nm sr l = E + ixF sr u) := Lib.hid (by
      unfold rxF
      rw [if_neg h0, hk, Int.toNat_natCast, hu]
      rfl)
    rw [HF.out]
    have hx := ixF_in sr u
    have hsl := hS.strlen
    obtain ⟨x, hx'⟩ : ∃ x, ixF sr u = x := ⟨_, rfl⟩
    have CI := Lib.hid (fun (Y : World) (hY : Below w.heap.size w Y) => index_any As ns cs sr u Y _ (hS.below hY) (by omega))
    rw [hx'] at CI hx ⊢
    have hw1 : IntKind.i64.wrap (l - E) = (k : Int) := by rw [hk]; exact IntWalk.i64_in _ (by omega)
    have hw2 : IntKind.i64.wrap (E + x) = E + x := IntWalk.i64_in _ (by omega)
    have HS : Hid (∀ w', Below w.heap.size w w' → (w'.cell? ⟨βb, 3, none⟩ = some (.int .i64 E) ∧ w'.cell? ⟨βs, 0, none⟩ = some (.slice As ns cs) ∧ w'.cell? ⟨βn, 0, none⟩ = some (.slice (some ⟨bn, off, none⟩) nn cn) ∧ w'.cell? ⟨bn, off + k, none⟩ = some (.string u))) := Lib.hid (fun w' hq => ⟨(hq.cell (p := ⟨βb, 3, none⟩) hb).trans hE, (hq.cell (p := ⟨βs, 0, none⟩) hs').trans hs, (hq.cell (p := ⟨βn, 0, none⟩) hn').trans hn, (hq.cell (p := ⟨bn, off + k, none⟩) hbn).trans cu⟩)
    have hk0 := (Below.refl w.heap.size w).drew
    have HK := Lib.hid hk0
    clear hx' hs hn hS hN hx hsl hu cu HF hk
    go_enter Tryz.func89, Tryz.ntmps89
    go_wp2_with fail
    clear hE
    refine rh.go_begin 12 (fun w' => (w'.cell? ⟨βb, 3, none⟩ = some (.int .i64 E) ∧ w'.cell? ⟨βs, 0, none⟩ = some (.slice As ns cs) ∧ w'.cell? ⟨βn, 0, none⟩ = some (.slice (some ⟨bn, off, none⟩) nn cn) ∧ w'.cell? ⟨bn, off + k, none⟩ = some (.string u))) (by kernel_rfl) ?_ (fun hHeld => ?_)
    · ((try dsimp only); exact HS.out _ (by go_grown))
    refine rh.go_take (i := 0) (v := ?v1) rfl (by kernel_rfl) (fun _ _ _ h => h) (Or.inl ⟨by rfl, ?hy1⟩) (by assumption) ?rest1
    case hy1 => (intro wS hSw; (try dsimp only at hSw); go_simp; try (with_reducible rfl))
    try simp only [Act.put, List.setIfInBounds_toArray, List.set_cons_zero, List.set_cons_succ]
    refine rh.go_take (i := 1) (v := ?v2) rfl (by kernel_rfl) (fun _ _ _ h => h) (Or.inl ⟨by rfl, ?hy2⟩) (by assumption) ?rest2
    case hy2 => (intro wS hSw; (try dsimp only at hSw); go_simp; try (with_reducible rfl))
    try simp only [Act.put, List.setIfInBounds_toArray, List.set_cons_zero, List.set_cons_succ]
    refine rh.go_take (i := 2) (v := ?v3) rfl (by kernel_rfl) (fun _ _ _ h => h) (Or.inl ⟨by rfl, ?hy3⟩) (by assumption) ?rest3
    case hy3 => (intro wS hSw; (try dsimp only at hSw); go_simp; try (with_reducible rfl))
    try simp only [Act.put, List.setIfInBounds_toArray, List.set_cons_zero, List.set_cons_succ]
    refine rh.go_take (i := 3) (v := ?v4) rfl (by kernel_rfl) (fun _ _ _ h => h) (Or.inl ⟨by rfl, ?hy4⟩) (by assumption) ?rest4
    case hy4 => (intro wS hSw; (try dsimp only at hSw); go_simp; try (with_reducible rfl))
    try simp only [Act.put, List.setIfInBounds_toArray, List.set_cons_zero, List.set_cons_succ]
    refine rh.go_take (i := 4) (v := ?v5) rfl (by kernel_rfl) (fun _ _ _ h => h) (Or.inl ⟨by rfl, ?hy5⟩) (by assumption) ?rest5
    case hy5 => (intro wS hSw; (try dsimp only at hSw); go_simp; try (with_reducible rfl))
    try simp only [Act.put, List.setIfInBounds_toArray, List.set_cons_zero, List.set_cons_succ]
    refine rh.go_take (i := 5) (v := ?v6) rfl (by kernel_rfl) (fun _ _ _ h => h) (Or.inl ⟨by rfl, ?hy6⟩) (by assumption) ?rest6
    case hy6 => (intro wS hSw; (try dsimp only at hSw); go_simp; try (with_reducible rfl))
    try simp only [Act.put, List.setIfInBounds_toArray, List.set_cons_zero, List.set_cons_succ]
    refine rh.go_take (i := 6) (v := ?v7) rfl (by kernel_rfl) (fun _ _ _ h => h) (Or.inl ⟨by rfl, ?hy7⟩) (by assumption) ?rest7
    case hy7 => (intro wS hSw; (try dsimp only at hSw); go_simp; try (with_reducible rfl))
    try simp only [Act.put, List.setIfInBounds_toArray, List.set_cons_zero, List.set_cons_succ]
    refine rh.go_take (i := 7) (v := .int .i64 (k : Int)) rfl (by kernel_rfl) (fun _ _ _ h => h) (Or.inl ⟨by rfl, ?hyQ7⟩) (by assumption) ?restQ7
    case hyQ7 => (intro wS hSw; (try dsimp only at hSw); go_simp; try rw [hw1])
    try simp only [Act.put, List.setIfInBounds_toArray, List.set_cons_zero, List.set_cons_succ]
    refine rh.go_take (i := 8) (v := ?v8) rfl (by kernel_rfl) (fun _ _ _ h => h) (Or.inl ⟨by rfl, ?hy8⟩) (by assumption) ?rest8
    case hy8 => (intro wS hSw; (try dsimp only at hSw); go_simp; try (with_reducible rfl))
    try simp only [Act.put, List.setIfInBounds_toArray, List.set_cons_zero, List.set_cons_succ]
    refine rh.go_take (i := 9) (v := ?v9) rfl (by kernel_rfl) (fun _ _ _ h => h) (Or.inl ⟨by rfl, ?hy9⟩) (by assumption) ?rest9
    case hy9 => (intro wS hSw; (try dsimp only at hSw); go_simp; try (with_reducible rfl))
    try simp only [Act.put, List.setIfInBounds_toArray, List.set_cons_zero, List.set_cons_succ]
    refine rh.go_next (i := 10) rfl (by kernel_rfl) (fun K2 hK => ?_)
    (go_simp; go_at_call 85; refine (CI.out _ HK.out).mono ?_; rintro e2 w2 ⟨rfl, rfl⟩; go_wp2_with fail)
    refine hK.out _ _ ?_ (fun hHeld => ?_)
    · ((try dsimp only); exact HS.out _ (by go_grown))
    clear hK K2
    try simp only [Act.put, List.setIfInBounds_toArray, List.set_cons_zero, List.set_cons_succ]
    refine rh.go_take (i := 11) (v := .int .i64 (E + x)) rfl (by kernel_rfl) (fun _ _ _ h => h) (Or.inl ⟨by rfl, ?hyQ11⟩) (by assumption) ?restQ11
    case hyQ11 => (intro wS hSw; (try dsimp only at hSw); go_simp; try rw [hw2])
    try simp only [Act.put, List.setIfInBounds_toArray, List.set_cons_zero, List.set_cons_succ]
    refine rh.go_last rfl (by kernel_rfl) (fun K2 hK => ?_)
    go_simp
    refine hK.out _ _ ?_
    refine NoPanic.normal ?_
    clear hK K2
    go_wp2_with fail
    go_ret
    exact ⟨rfl, HK.out⟩
end Go.Proofs.YtlhickjlcmiknaaGreat.roc
