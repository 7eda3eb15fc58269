/- impl.namesWithout: a copy without one of the names. -/
import Derived.Test.YtebmhfkpmcflfaaNl
namespace Go.Proofs.Ytebmhfkpmcflfaa.dl
open kit bg sg opn strs only hb sig inn ht marks eqs hc hi hw hn rs br bm bw cf lawb lw cl wb ix nl
open Go.RowKit
set_option linter.unusedVariables false
theorem zero_str (w : World) : (zeroValue 9).run Try.prog w = .ok (.string ⟨#[]⟩) w := by kernel_rfl
set_option maxRecDepth 20000 in
set_option maxHeartbeats 3200000 in
theorem del_any (A : Option Addr) (n c : Nat) (ss : List ByteArray) (s : ByteArray) (β lo : Nat) (w : World) (h : RowR w lo w.heap.size 9 1 A n c (at_ ss)) (hl : ss.length = n) (h0 : A = none → c = 0) (hn : n ≤ 1048576) (hβ : β < lo) (hc : w.cell? ⟨β, 0, none⟩ = some (.string s)) (hlo : lo ≤ w.heap.size) :
    Calls Try.prog 165 #[.slice A n c, .func (.func 166) #[] #[.pointer (some ⟨β, 0, none⟩)]] w fun e w' => ∃ A' c', e = .returned (.slice A' (lessL ss s).length c') ∧ RowR w' lo w'.heap.size 9 1 A' (lessL ss s).length c' (at_ (lessL ss s)) ∧ Below lo w w' := by
  have hsr : SR w w.heap.size A n (ss.map Value.string) := by subst hl; exact strsR_at h
  have CI := idx_any A n c ss s β w _ hsr hn hc
  rcases ixF_cases ss s with ⟨hix, hnot⟩ | ⟨k0, hix, hk0, hmin⟩
  · rw [hix] at CI
    have HA := Lib.hid (less_all hnot)
    have HR := Lib.hid h
    have HL := Lib.hid hl
    clear h hsr hix hnot hc
    go_enter Try.func165, Try.ntmps165
    go_wp2_with fail
    refine CI.mono ?_
    rintro e w1 ⟨rfl, rfl⟩
    clear CI
    go_wp2_with fail
    go_ret
    exact ⟨A, c, by rw [HA.out, HL.out]; rfl, by rw [HA.out, HL.out]; exact HR.out, Below.refl _ _⟩
  · rw [hix] at CI
    have hkl := (List.getElem?_eq_some_iff.1 hk0).1
    have hkn : k0 < n := by omega
    have hneg : ((k0 : Int) == -1) = false := by rw [beq_eq_false_iff_ne]; omega
    rcases h with ⟨-, -, hz⟩ | ⟨g, f, rfl, hg1, hg2, hnc, hrow, hf⟩
    · omega
    have HF := Lib.hid (fun (x : Nat) (hx : x < n) => hf x (by omega))
    have HL := Lib.hid hl
    have HC := Lib.hid (fun (u : ByteArray) (Y : World) (hY : Below lo w Y) => is_any s u β Y ((hY.cell (p := ⟨β, 0, none⟩) hβ).trans hc))
    have HRow := Lib.hid hrow
    have hst : Hid (lessL (ss.take (k0 + 1)) s = ss.take k0) := Lib.hid (by
      rw [take_snoc' hk0, less_out rfl, less_all]
      intro hm
      obtain ⟨j, hj⟩ := List.getElem?_of_mem hm
      have hjl := (List.getElem?_eq_some_iff.1 hj).1
      rw [List.length_take] at hjl
      rw [List.getElem?_take_of_lt (by omega)] at hj
      exact hmin j s (by omega) hj rfl)
    have hlk : (ss.take k0).length = k0 := by rw [List.length_take]; omega
    have HM : Hid ((lessL (ss.take (k0 + 1)) s).length = k0) := Lib.hid (by rw [hst.out, hlk])
    clear hf hsr hix hk0 hmin hc hrow h0
    go_enter Try.func165, Try.ntmps165
    go_wp2_with fail
    refine CI.mono ?_
    rintro e w1 ⟨rfl, rfl⟩
    clear CI
    go_wp2_with fail
    go_loopw [5, 6] (fun vi vj wr => ∃ (j m : Nat) (f' : Nat → Value), j ≤ n ∧ vj = .int .i64 j ∧ vi = .int .i64 m ∧ m = (lessL (ss.take j) s).length ∧ m < j ∧ wr.rowIs g 9 (c * 1) f' ∧ (∀ x, x < m → f' x = at_ (lessL (ss.take j) s) x) ∧ (∀ x, j ≤ x → x < n → f' x = at_ ss x) ∧ Below lo w wr) (fun _ vj _ => n - (intOf vj).toNat)
    case atStart =>
      refine ⟨k0 + 1, k0, f, by omega, by go_num, rfl, HM.out.symm, by omega, HRow.out, fun x hx => ?_, fun x _ hx => HF.out x hx, Below.refl _ _⟩
      rw [HF.out x (by omega), hst.out]
      have e : ss[x]? = some (ss[x]'(by omega)) := List.getElem?_eq_getElem _
      rw [at_of e, at_of (by rw [List.getElem?_take_of_lt hx]; exact e)]
    case round =>
      obtain ⟨j, m, f', hj, rfl, rfl, hm, hmj, hr, hk1, hk2, hbel⟩ := hrel
      by_cases hlt : j < n
      · obtain ⟨x, hx⟩ : ∃ x, ss[j]? = some x := ⟨_, List.getElem?_eq_getElem (show j < ss.length by omega)⟩
        have hcj := hr.cell (show j < c * 1 by omega)
        rw [hk2 j (Nat.le_refl _) hlt, at_of hx] at hcj
        have CU := HC.out x wr hbel
        have htk := take_snoc' hx
        have hcm := hr.cell (show m < c * 1 by omega)
        have hfm := hr.frozen m
        obtain ⟨um, hum⟩ : ∃ um, f' m = um := ⟨_, rfl⟩
        rw [hum] at hcm
        cases heq : (x.toList == s.toList) with
        | true =>
          rw [heq] at CU
          have HT := Lib.hid (show lessL (ss.take (j + 1)) s = lessL (ss.take j) s by rw [htk, less_out (str_eq heq)])
          have HRr := Lib.hid hr
          have HK1 := Lib.hid hk1
          have HK2 := Lib.hid hk2
          have HB := Lib.hid hbel
          have HMm := Lib.hid hm
          clear htk hx hr hk1 hk2 hbel hm hcm hfm hum
          go_wp2_with fail
          refine CU.mono ?_
          rintro e w1 ⟨rfl, rfl⟩
          clear CU
          go_wp2_with fail
          go_roundw
          case rel => exact ⟨j + 1, m, f', by omega, by go_num, rfl, by rw [HT.out]; exact HMm.out, by omega, HRr.out, by rw [HT.out]; exact HK1.out, fun x h1 h2 => HK2.out x (by omega) h2, HB.out⟩
          case measure => simp [intOf]; omega
        | false =>
          rw [heq] at CU
          have HT := Lib.hid (show lessL (ss.take (j + 1)) s = lessL (ss.take j) s ++ [x] by rw [htk, less_in (str_ne heq)])
          have HRr := Lib.hid hr
          have HK1 := Lib.hid hk1
          have HK2 := Lib.hid hk2
          have HB := Lib.hid hbel
          have HMm := Lib.hid hm
          clear htk hx hr hk1 hk2 hbel hm hum
          go_wp2_with fail
          refine CU.mono ?_
          rintro e w1 ⟨rfl, rfl⟩
          clear CU
          go_wp2_with fail
          go_roundw
          case rel =>
            refine ⟨j + 1, m + 1, _, by omega, by go_num, by go_num, by rw [HT.out, List.length_append, ← HMm.out]; rfl, by omega, HRr.out.set m (.string x), fun y hy => ?_, fun y h1 h2 => ?_, HB.out.setCell (p := ⟨g, m, none⟩) hg1 _⟩
            · show (if y = m then _ else f' y) = _
              rw [HT.out]
              by_cases e : y = m
              · subst e
                rw [if_pos rfl, at_of (by rw [List.getElem?_append_right (by rw [← HMm.out]; exact Nat.le_refl _), ← HMm.out, Nat.sub_self]; rfl)]
              · have hy2 : y < m := by omega
                rw [if_neg e, HK1.out y hy2]
                have e2 : (lessL (ss.take j) s)[y]? = some ((lessL (ss.take j) s)[y]'(by rw [← HMm.out]; exact hy2)) := List.getElem?_eq_getElem _
                rw [at_of e2, at_of (by rw [List.getElem?_append_left (by rw [← HMm.out]; exact hy2)]; exact e2)]
            · show (if y = m then _ else f' y) = _
              rw [if_neg (by omega), HK2.out y (by omega) h2]
          case measure => simp [intOf]; omega
      · obtain rfl : n = j := by omega
        have hcl : ∀ ty, (Builtin.clear_ #[25] ty #[.slice (some ⟨g, m, none⟩) (n - m) (c - m)]).run Try.prog wr = .ok (.tuple #[]) (wr.setCells g m (List.replicate (n - m) (.string ⟨#[]⟩))) :=
          fun ty => Lib.run_clear_slice wr 25 9 ty (.string ⟨#[]⟩) Try.underlying25 zero_str rfl rfl g m (n - m) (c - m) (by omega) (fun i hi => by rw [hr.cell (show m + i < c * 1 by omega)]; rfl) (fun i hi => hr.frozen (m + i))
        rw [List.take_of_length_le (by omega)] at hm hk1
        have HMm := Lib.hid hm
        have HK1 := Lib.hid hk1
        have HRr := Lib.hid (rowIs_setCells (List.replicate (n - m) (.string ⟨#[]⟩)) m wr f' hr)
        have HB := Lib.hid (below_setCells hg1 (List.replicate (n - m) (.string ⟨#[]⟩)) m wr hbel)
        clear hr hk1 hk2 hbel hm
        go_wp2_with (simp only [hcl])
        go_ret
        refine ⟨some ⟨g, 0, none⟩, c, by rw [← HMm.out]; rfl, ?_, HB.out⟩
        rw [← HMm.out]
        refine RowR.mk hg1 HRr.out.lt (by omega) HRr.out (fun x hx => ?_)
        show (if m ≤ x ∧ _ then _ else f' x) = _
        rw [if_neg (by omega), HK1.out x (by omega)]
set_option maxHeartbeats 800000 in
theorem nwo_any (A : Option Addr) (n c : Nat) (ss : List ByteArray) (s : ByteArray) (w : World) (h : SR w w.heap.size A n (ss.map Value.string)) (hn : n ≤ 1048576) (h0 : A = none → c = 0) :
    Calls Try.prog 94 #[.slice A n c, .string s] w fun e w' => ∃ A' c', e = .returned (.slice A' (lessL ss s).length c') ∧ RowR w' w.heap.size w'.heap.size 9 1 A' (lessL ss s).length c' (at_ (lessL ss s)) ∧ Below w.heap.size w w' := by
  have HL := Lib.hid h.strlen
  have hb1 := (Below.refl w.heap.size w).alloc (Nat.le_refl _) (.cells #[.string s] 9)
  have hcs : (w.alloc (.cells #[.string s] 9)).cell? ⟨w.heap.size, 0, none⟩ = some (.string s) := ((row_new w #[.string s] 9 1 rfl).cell (show 0 < 1 by omega) : _)
  have CC := Lib.hid (cloneS_any A n c ss (w.alloc (.cells #[.string s] 9)) ((h.below hb1).wide hb1.size) hn h0)
  obtain ⟨U, hU⟩ : ∃ U, w.alloc (.cells #[.string s] 9) = U := ⟨_, rfl⟩
  have hUz : U.heap.size = w.heap.size + 1 := by rw [← hU, World.size_alloc]
  have HU := Lib.hid hU
  rw [hU] at hb1 hcs CC
  have HB1 := Lib.hid hb1
  have HCs := Lib.hid hcs
  clear hU hb1 hcs h
  go_enter Try.func94, Try.ntmps94
  go_wp2_with fail
  rw [HU.out]
  refine CC.out.mono ?_
  rintro e w1 ⟨A', c', rfl, hr, hz, hb⟩
  have HD := Lib.hid (del_any A' n c' ss s w.heap.size U.heap.size w1 hr HL.out hz hn (by omega) ((hb.cell (p := ⟨w.heap.size, 0, none⟩) (by dsimp only; omega)).trans HCs.out) hb.size)
  have HB2 := Lib.hid hb
  clear CC hr hz hb
  go_wp2_with fail
  refine HD.out.mono ?_
  rintro e w2 ⟨A2, c2, rfl, hr, hb⟩
  have HB3 := Lib.hid (HB1.out.trans ((HB2.out.trans hb).mono HB1.out.size))
  have HR := Lib.hid (hr.wide (lo' := w.heap.size) HB1.out.size (Nat.le_refl _))
  clear HD hr hb
  go_wp2_with fail
  go_ret
  exact ⟨_, _, rfl, HR.out, HB3.out⟩
end Go.Proofs.Ytebmhfkpmcflfaa.dl
