/- Ways: spec.l10Has, spec.l10Way, impl.isWay; IsWay of spec and impl. -/
import Derived.Test.YtlpgldejmdiceaaSye
import Derived.Test.YtlpgldejmdiceaaSyk
import Derived.Test.YtlpgldejmdiceaaTre
namespace Go.Proofs.Ytlpgldejmdiceaa.syf
open kit bg sg opn strs only hb sig isig un over gn nm inn ht gd im pt marks eqs hc hi hw hn rs br bm bw cf lf ib isa lawb lw cl bgs cz syx sya syh syi syc syg syb syk syl sye has tre
open Go.RowKit
set_option linter.unusedVariables false
set_option linter.unusedSimpArgs false
set_option maxRecDepth 20000 in
set_option maxHeartbeats 3200000 in
theorem has_any (A1 A2 : Option Addr) (n1 c1 n2 c2 : Nat) (ts : List Tri) (s : Tri) (w : World) (h : TriAt w w.heap.size A2 n2 ts) (hn2 : n2 ≤ 1048576) :
    Calls Try.prog 105 #[.agg #[.slice A1 n1 c1, .slice A2 n2 c2], triV s] w fun e w' => e = .returned (.bool (decide (s ∈ ts))) ∧ Below w.heap.size w w' := by
  have HL := Lib.hid h.1
  unfold triV
  have hb0 := ((Below.refl w.heap.size w).alloc (Nat.le_refl _) (.cells #[.slice A1 n1 c1, .slice A2 n2 c2] 32)).alloc (by simp) (.cells #[.int .i64 s.1, .int .i64 s.2.1, .int .i64 s.2.2] 76)
  have hBx := (BoxN.new w #[.slice A1 n1 c1, .slice A2 n2 c2] 32).below ((Below.refl _ _).alloc (Nat.le_refl _) (.cells #[.int .i64 s.1, .int .i64 s.2.1, .int .i64 s.2.2] 76)) (by simp)
  have hBs := BoxN.new (w.alloc (.cells #[.slice A1 n1 c1, .slice A2 n2 c2] 32)) #[.int .i64 s.1, .int .i64 s.2.1, .int .i64 s.2.2] 76
  rw [World.size_alloc] at hBs
  obtain ⟨W, hW⟩ : ∃ W, (w.alloc (.cells #[.slice A1 n1 c1, .slice A2 n2 c2] 32)).alloc (.cells #[.int .i64 s.1, .int .i64 s.2.1, .int .i64 s.2.2] 76) = W := ⟨_, rfl⟩
  rw [hW] at hBx hb0 hBs
  have HB0 := Lib.hid hb0
  have HBx := Lib.hid hBx
  have HBs := Lib.hid hBs
  have HWq := Lib.hid hW
  have HT := Lib.hid ((h.below hb0).wide hb0.size)
  obtain ⟨V, hV⟩ : ∃ V, decide (s ∈ ts) = V := ⟨_, rfl⟩
  rw [hV]
  have HV := Lib.hid hV
  clear hW hb0 hBx hBs h hV
  go_enter Try.func105, Try.ntmps105
  go_wp2_with fail
  rw [HWq.out]
  go_loopw [5] (fun i wr => ∃ k : Nat, k ≤ n2 ∧ i = .int .i64 k ∧ (∀ (j : Nat) u, j < k → ts[j]? = some u → u ≠ s) ∧ Dr W wr) (fun i _ => n2 - (intOf i).toNat)
  case atStart => exact ⟨0, Nat.zero_le _, rfl, fun j u hj => absurd hj (Nat.not_lt_zero j), Dr.refl _⟩
  case round =>
    obtain ⟨k, hk, rfl, hok, hd⟩ := hrel
    have HOk := Lib.hid hok
    have HD := Lib.hid hd
    obtain ⟨x0', x1'⟩ := box2 HBx.out
    obtain ⟨z0', z1', z2'⟩ := box3 HBs.out
    have x0 := (hd.cell _).trans x0'
    have x1 := (hd.cell _).trans x1'
    have z0 := (hd.cell _).trans z0'
    have z1 := (hd.cell _).trans z1'
    have z2 := (hd.cell _).trans z2'
    clear x0' x1' z0' z1' z2' hok
    by_cases hlt : k < n2
    · obtain ⟨g, off, u, rfl, hbb, hx, e0, e1, e2⟩ := HT.out.get hlt
      have d0 := (hd.cell _).trans e0
      have d1 := (hd.cell _).trans e1
      have d2 := (hd.cell _).trans e2
      have HX := Lib.hid hx
      clear hx e0 e1 e2 hd
      by_cases he : u = s
      · have HY : Hid (V = true) := Lib.hid (by rw [← HV.out]; exact decide_eq_true (by rw [← he]; exact List.mem_of_getElem? HX.out))
        subst he
        have hEq := eq3_any u.1 u.2.1 u.2.2 u.1 u.2.1 u.2.2 true (by simp)
        go_wp2_with fail
        go_quiet (fail)
        go_wp2_with fail
        go_ret
        exact ⟨by rw [HY.out]; rfl, HB0.out.trans ((((HD.out.more _).below _)).mono HB0.out.size)⟩
      · have HE := Lib.hid he
        have hne : ¬ (u.1 = s.1 ∧ u.2.1 = s.2.1 ∧ u.2.2 = s.2.2) := fun h => he (Prod.ext h.1 (Prod.ext h.2.1 h.2.2))
        have hnb : ((u.1 == s.1 && (u.2.1 == s.2.1 && u.2.2 == s.2.2)) = false) := by
          cases hq : (u.1 == s.1 && (u.2.1 == s.2.1 && u.2.2 == s.2.2)) with
          | false => rfl
          | true => simp only [Bool.and_eq_true, beq_iff_eq] at hq; exact absurd hq hne
        have hs1 : ∀ v : Bool, v = (u.1 == s.1 && (u.2.1 == s.2.1 && u.2.2 == s.2.2)) → v = false := fun v h => h.trans hnb
        clear he hs1
        obtain ⟨u0, u1, u2⟩ := u
        obtain ⟨t0, t1, t2⟩ := s
        simp only at hne hnb d0 d1 d2 z0 z1 z2
        have hEq := eq3_any u0 u1 u2 t0 t1 t2 false hnb
        clear hnb hne
        go_wp2_with fail
        go_quiet (fail)
        go_wp2_with fail
        go_roundw
        case rel => exact ⟨k + 1, by omega, by go_num, fun j u' hj hu' => by
          by_cases e : j = k
          · subst e; rw [HX.out] at hu'; injection hu' with e; rw [← e]; exact HE.out
          · exact HOk.out j u' (by omega) hu', by first | exact HD.out.more _ | exact HD.out⟩
        case measure => simp [intOf]; omega
    · obtain rfl : k = n2 := by omega
      have HF : Hid (V = false) := Lib.hid (by
        rw [← HV.out]
        refine decide_eq_false (fun hm => ?_)
        obtain ⟨j, hj⟩ := List.getElem?_of_mem hm
        exact HOk.out j s (by have := (List.getElem?_eq_some_iff.1 hj).1; have := HL.out; omega) hj rfl)
      go_wp2_with fail
      go_ret
      exact ⟨by rw [HF.out]; rfl, HB0.out.trans ((HD.out.below _).mono HB0.out.size)⟩
end Go.Proofs.Ytlpgldejmdiceaa.syf
