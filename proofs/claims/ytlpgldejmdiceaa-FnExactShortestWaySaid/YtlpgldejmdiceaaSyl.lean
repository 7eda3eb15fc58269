/- Lists of states: slices.Index with its place, impl.isSelection, impl.areStates, spec.l1Rising, spec.l10Goals. -/
import Derived.Test.YtlpgldejmdiceaaSyg
namespace Go.Proofs.Ytlpgldejmdiceaa.syl
open kit bg sg opn strs only hb sig isig un over gn nm inn ht gd im pt marks eqs hc hi hw hn rs br bm bw cf lf ib isa lawb lw cl bgs cz syx sya syh syi syc syg
open Go.RowKit
set_option linter.unusedVariables false
set_option linter.unusedSimpArgs false

def IxQ (zs : List Int) (z : Int) (w : World) (e : Ending) (w' : World) : Prop :=
  ((∃ a : Nat, e = .returned (.int .i64 a) ∧ zs[a]? = some z ∧ ∀ j, j < a → zs[j]? ≠ some z) ∨ (e = .returned (.int .i64 (-1)) ∧ z ∉ zs)) ∧ w = w'
set_option maxHeartbeats 800000 in
theorem indexQ_any (A : Option Addr) (n c : Nat) (zs : List Int) (z : Int) (w : World) (B : Nat) (h : IntsAt w B A n zs) (hn : n ≤ 1048576) :
    Calls Try.prog 119 #[.slice A n c, .int .i64 z] w (IxQ zs z w) := by
  have HL := Lib.hid h.len
  go_enter Try.func119, Try.ntmps119
  go_wp2_with fail
  go_loopw [5, 8] (fun _ i wr => ∃ k : Nat, k ≤ n ∧ i = .int .i64 k ∧ (∀ (j : Nat), j < k → zs[j]? ≠ some z) ∧ w = wr) (fun _ i _ => n - (intOf i).toNat)
  case atStart => exact ⟨0, Nat.zero_le _, rfl, fun j hj => absurd hj (by omega), rfl⟩
  case round =>
    obtain ⟨k, hk, rfl, hno, rfl⟩ := hrel
    have HNo := Lib.hid hno
    clear hno
    by_cases hlt : k < n
    · obtain ⟨b, off, u, rfl, hb, hx, hc⟩ := IntsAt.get h hlt
      have HX := Lib.hid hx
      by_cases heq : u = z
      · have HY := Lib.hid (heq ▸ hx)
        clear hx
        go_wp2_with fail
        go_ret
        exact ⟨.inl ⟨k, rfl, HY.out, HNo.out⟩, rfl⟩
      · have HN : Hid (∀ (j : Nat), j < k + 1 → zs[j]? ≠ some z) := Lib.hid fun j hj hv => by
          by_cases e : j = k
          · subst e
            rw [hx] at hv
            injection hv with hv
            exact heq hv
          · exact HNo.out j (by omega) hv
        clear hx
        go_wp2_with fail
        go_roundw
        case rel => exact ⟨k + 1, by omega, by go_num, HN.out, by first | trivial | rfl⟩
        case measure => simp [intOf]; omega
    · have HF : Hid (z ∉ zs) := Lib.hid (fun hm => by
        obtain ⟨j, hj⟩ := List.getElem?_of_mem hm
        exact HNo.out j (by have := (List.getElem?_eq_some_iff.1 hj).1; have := HL.out; omega) hj)
      obtain rfl : k = n := by omega
      go_wp2_with fail
      go_ret
      exact ⟨.inr ⟨rfl, HF.out⟩, rfl⟩

set_option maxRecDepth 20000 in
set_option maxHeartbeats 1600000 in
theorem sel_any (A A' : Option Addr) (n c m : Nat) (l f : List Int) (w : World) (B : Nat) (h : IntsAt w B A n l) (h' : IntsAt w B A' m f) (hn : n ≤ 1048576) (hm : m ≤ 1048576) :
    Calls Try.prog 81 #[.slice A n c, .slice A' m m] w fun e w' => e = .returned (.bool (l.isSublist f)) ∧ w = w' := by
  have HL := Lib.hid h.len
  obtain ⟨G, hG⟩ : ∃ G, l.isSublist f = G := ⟨_, rfl⟩
  rw [hG]
  have HG := Lib.hid hG
  clear hG
  go_enter Try.func81, Try.ntmps81
  go_wp2_with fail
  go_loopw [1, 6, 7, 10] (fun v _ _ i wr => ∃ (k : Nat) (A2 : Option Addr) (m2 : Nat) (f2 : List Int), k ≤ n ∧ i = .int .i64 k ∧ v = .slice A2 m2 m2 ∧ m2 ≤ 1048576 ∧ IntsAt w B A2 m2 f2 ∧ (l.drop k).isSublist f2 = G ∧ w = wr) (fun _ _ _ i _ => n - (intOf i).toNat)
  case atStart => exact ⟨0, A', m, f, Nat.zero_le _, rfl, rfl, hm, h', HG.out, rfl⟩
  case round =>
    obtain ⟨k, A2, m2, f2, hk, rfl, rfl, hm2, hf2, hsub, rfl⟩ := hrel
    have HSub := Lib.hid hsub
    clear hsub
    by_cases hlt : k < n
    · obtain ⟨b, off, u, rfl, hb, hx, hc⟩ := IntsAt.get h hlt
      have HD : Hid (l.drop k = u :: l.drop (k + 1)) := Lib.hid (by
        obtain ⟨hkl, hke⟩ := List.getElem?_eq_some_iff.1 hx
        rw [List.drop_eq_getElem_cons hkl, hke])
      have C := indexQ_any A2 m2 m2 f2 u w B hf2 hm2
      have HF2 := Lib.hid hf2
      clear hx hf2
      go_wp2_with fail
      refine C.mono ?_
      rintro e w1 ⟨⟨a, rfl, ha, han⟩ | ⟨rfl, hno⟩, rfl⟩
      · have hsel := HSub.out
        rw [HD.out, sel_cons ha han] at hsel
        have ham : a < m2 := by have := (List.getElem?_eq_some_iff.1 ha).1; have := HF2.out.len; omega
        have HS := Lib.hid hsel
        have hwr : IntKind.i64.wrap ((a : Int) + 1) = ((a + 1 : Nat) : Int) := by rw [IntWalk.i64_in _ (by omega)]; omega
        have hF := HF2.out
        obtain ⟨b2, off2, u2, rfl, hb2, -, -⟩ := IntsAt.get HF2.out ham
        have hcut : IntsAt w B (some ⟨b2, off2 + (a + 1), none⟩) (m2 - (a + 1)) (f2.drop (a + 1)) := by
          refine ⟨by have := hF.len; simp; omega, fun hz => ⟨b2, off2 + (a + 1), rfl, hb2, fun j v hj => ?_⟩⟩
          obtain ⟨b3, off3, e3, hb3, hc3⟩ := hF.2 (by omega)
          injection e3 with e3
          injection e3 with eb eo
          subst eb eo
          rw [List.getElem?_map, List.getElem?_drop] at hj
          have := hc3 (a + 1 + j) v (by rw [List.getElem?_map]; exact hj)
          rw [← this]
          congr 2
          omega
        have HCut := Lib.hid hcut
        clear ha han hsel C hF hcut
        by_cases hend : a + 1 = m2
        · have hF0 : Hid (f2.drop (a + 1) = []) := Lib.hid (List.drop_eq_nil_of_le (by have := HF2.out.len; omega))
          subst hend
          go_wp2_with fail
          go_roundw
          case rel => exact ⟨k + 1, _, 0, [], by omega, by go_num, rfl, by omega, ⟨rfl, fun h => absurd h (by omega)⟩, by rw [← hF0.out]; exact HS.out, by first | trivial | rfl⟩
          case measure => simp [intOf]; omega
        · have hlt2 : a + 1 < m2 := by omega
          go_wp2_with fail
          go_roundw
          case rel => exact ⟨k + 1, _, m2 - (a + 1), f2.drop (a + 1), by omega, by go_num, rfl, by omega, HCut.out, HS.out, by first | trivial | rfl⟩
          case measure => simp [intOf]; omega
      · have hsel := HSub.out
        rw [HD.out, sel_none hno] at hsel
        have HS := Lib.hid hsel
        clear hno hsel C
        go_wp2_with fail
        go_ret
        exact ⟨by rw [← HS.out]; rfl, rfl⟩
    · obtain rfl : k = n := by omega
      have hsel := HSub.out
      rw [List.drop_eq_nil_of_le (by have := HL.out; omega)] at hsel
      have HS : Hid (G = true) := Lib.hid (by rw [← hsel]; cases f2 <;> rfl)
      clear hsel
      go_wp2_with fail
      go_ret
      exact ⟨by rw [HS.out]; rfl, rfl⟩

set_option maxRecDepth 20000 in
set_option maxHeartbeats 1600000 in
theorem areSt_any (A1 A2 : Option Addr) (n1 c1 n2 c2 : Nat) (Ag : Option Addr) (n c : Nat) (gs : List Int) (w : World) (h : IntsAt w w.heap.size Ag n gs) (hn1 : n1 ≤ 1048576) (hn : n ≤ 1048576) :
    Calls Try.prog 69 #[.agg #[.slice A1 n1 c1, .slice A2 n2 c2], .slice Ag n c] w fun e w' => e = .returned (.bool (golB n1 gs)) ∧ Below w.heap.size w w' := by
  have HB0 := Lib.hid ((Below.refl w.heap.size w).alloc (Nat.le_refl _) (.cells #[.slice A1 n1 c1, .slice A2 n2 c2] 32))
  obtain ⟨x0, x1⟩ := box2 (BoxN.new w #[.slice A1 n1 c1, .slice A2 n2 c2] 32)
  obtain ⟨W, hW⟩ : ∃ W, w.alloc (.cells #[.slice A1 n1 c1, .slice A2 n2 c2] 32) = W := ⟨_, rfl⟩
  rw [hW] at x0 x1 HB0
  have HWq := Lib.hid hW
  have HG := Lib.hid h
  rw [← sel_ris]
  clear hW h
  go_enter Try.func69, Try.ntmps69
  go_wp2_with fail
  rw [HWq.out]
  go_wp2_with fail
  refine (below_any n1 W hn1).mono ?_
  rintro e w1 ⟨g, rfl, hg1, hg2, hrow, hb⟩
  have hb1 := HB0.out.trans (hb.mono HB0.out.size)
  have hI : IntsAt w1 w1.heap.size (some ⟨g, 0, none⟩) n1 (nums n1) := by
    refine ⟨by rw [List.length_map, nums_len], fun _ => ⟨g, 0, rfl, hg2, fun k u hk => ?_⟩⟩
    rw [List.getElem?_map] at hk
    obtain ⟨z, hz, rfl⟩ := Option.map_eq_some_iff.1 hk
    have hlt := (List.getElem?_eq_some_iff.1 hz).1
    rw [nums_len] at hlt
    rw [Nat.zero_add, hrow.cell hlt, iat_of hz]
  have C := sel_any Ag (some ⟨g, 0, none⟩) n c n1 gs (nums n1) w1 w1.heap.size ((HG.out.below hb1).wide hb1.size) hI hn hn1
  clear hI hrow hb x0 x1
  go_wp2_with fail
  refine C.mono ?_
  rintro e w2 ⟨rfl, rfl⟩
  clear C
  go_wp2_with fail
  go_ret
  exact ⟨rfl, hb1⟩

theorem ris_no {n : Nat} {gs : List Int} {k : Nat} {z : Int} (hz : gs[k]? = some z) (h : inb z 0 (n - 1) = false) : risAt n gs k = false := by unfold risAt; rw [hz]; simp [h]
theorem ris_zero {n : Nat} {gs : List Int} {z : Int} (hz : gs[0]? = some z) (h : inb z 0 (n - 1) = true) : risAt n gs 0 = true := by unfold risAt; rw [hz]; simp [h]
theorem ris_succ {n : Nat} {gs : List Int} {k : Nat} {p z : Int} (hz : gs[k + 1]? = some z) (hp : gs[k]? = some p) (h : inb z 0 (n - 1) = true) : risAt n gs (k + 1) = decide (p < z) := by unfold risAt; rw [hz]; simp [h, hp]
theorem gol_no {n : Nat} {gs : List Int} {k : Nat} {z : Int} (hz : gs[k]? = some z) (h : risAt n gs k = false) : golB n gs = false := golB_no (List.getElem?_eq_some_iff.1 hz).1 h

set_option maxRecDepth 20000 in
set_option maxHeartbeats 3200000 in
theorem rising_any (A : Option Addr) (n c n1 : Nat) (gs : List Int) (w : World) (B : Nat) (h : IntsAt w B A n gs) (hn1 : n1 ≤ 1048576) (hn : n ≤ 1048576) :
    Calls Try.prog 110 #[.slice A n c, .int .i64 0, .int .i64 ((n1 : Int) - 1)] w fun e w' => e = .returned (.bool (golB n1 gs)) ∧ Dr w w' := by
  have HL := Lib.hid h.len
  obtain ⟨G, hG⟩ : ∃ G, golB n1 gs = G := ⟨_, rfl⟩
  rw [hG]
  have HG := Lib.hid hG
  clear hG
  go_enter Try.func110, Try.ntmps110
  go_wp2_with fail
  go_loopw [7] (fun i wr => ∃ k : Nat, k ≤ n ∧ i = .int .i64 k ∧ (∀ j, j < k → risAt n1 gs j = true) ∧ Dr w wr) (fun i _ => n - (intOf i).toNat)
  case atStart => exact ⟨0, Nat.zero_le _, rfl, fun j hj => absurd hj (by omega), Dr.refl _⟩
  case round =>
    obtain ⟨k, hk, rfl, hok, hd⟩ := hrel
    have HOk := Lib.hid hok
    have HD := Lib.hid hd
    clear hok hd
    by_cases hlt : k < n
    · obtain ⟨b, off, z, rfl, hb, hx, hc⟩ := IntsAt.get h hlt
      have d0 := (HD.out.cell _).trans hc
      have HX := Lib.hid hx
      cases hp1 : inb z 0 ((n1 : Int) - 1) with
      | false =>
        have HF : Hid (G = false) := Lib.hid (by rw [← HG.out]; exact gol_no HX.out (ris_no HX.out hp1))
        have HI := Lib.hid (fun W' => hp1 ▸ in_any z 0 ((n1 : Int) - 1) W')
        clear hp1 hx hc
        go_wp2_with fail
        go_quiet ((go_at_call 92; exact Calls.quiet_of_same ((HI.out _).mono fun _ _ h => ⟨h.1, h.2.symm⟩)))
        go_wp2_with fail
        go_ret
        exact ⟨by rw [HF.out]; rfl, HD.out.more _⟩
      | true =>
        have HI := Lib.hid (fun W' => hp1 ▸ in_any z 0 ((n1 : Int) - 1) W')
        have HP := Lib.hid hp1
        clear hp1 hx hc
        cases k with
        | zero =>
          have HY := Lib.hid (ris_zero HX.out HP.out)
          rw [Nat.add_zero] at d0
          go_wp2_with fail
          go_quiet ((go_at_call 92; exact Calls.quiet_of_same ((HI.out _).mono fun _ _ h => ⟨h.1, h.2.symm⟩)))
          go_wp2_with fail
          go_roundw
          case rel => exact ⟨1, by omega, by go_num, fun j hj => by rw [show j = 0 by omega]; exact HY.out, by first | exact HD.out.more _ | exact HD.out⟩
          case measure => simp [intOf]; omega
        | succ k =>
          obtain ⟨b', off', p, eA, hb', hxp, hc'⟩ := IntsAt.get h (show k < n by omega)
          injection eA with eA
          injection eA with eg eo
          subst eg eo
          have d1 := (HD.out.cell _).trans hc'
          have hw1 : IntKind.i64.wrap (((k + 1 : Nat) : Int) - 1) = (k : Int) := by rw [IntWalk.i64_in _ (by omega)]; omega
          have hk1 : (0 : Int) < ((k + 1 : Nat) : Int) := by omega
          have HY := Lib.hid (ris_succ HX.out hxp HP.out)
          clear hxp hc'
          by_cases hl : p < z
          · have HT := Lib.hid (HY.out.trans (decide_eq_true hl))
            have hl' : ¬ z ≤ p := by omega
            go_wp2_with fail
            go_quiet ((go_at_call 92; exact Calls.quiet_of_same ((HI.out _).mono fun _ _ h => ⟨h.1, h.2.symm⟩)))
            go_wp2_with fail
            go_roundw
            case rel => exact ⟨k + 1 + 1, by omega, by go_num, fun j hj => by
              by_cases e : j = k + 1
              · rw [e]; exact HT.out
              · exact HOk.out j (by omega), by first | exact HD.out.more _ | exact HD.out⟩
            case measure => simp [intOf]; omega
          · have HF : Hid (G = false) := Lib.hid (by rw [← HG.out]; exact gol_no HX.out (HY.out.trans (decide_eq_false hl)))
            have hl' : z ≤ p := by omega
            go_wp2_with fail
            go_quiet ((go_at_call 92; exact Calls.quiet_of_same ((HI.out _).mono fun _ _ h => ⟨h.1, h.2.symm⟩)))
            go_wp2_with fail
            go_ret
            exact ⟨by rw [HF.out]; rfl, HD.out.more _⟩
    · obtain rfl : k = n := by omega
      have HT : Hid (G = true) := Lib.hid (by rw [← HG.out]; exact golB_yes (by rw [HL.out]; exact HOk.out))
      go_wp2_with fail
      go_ret
      exact ⟨by rw [HT.out]; rfl, HD.out⟩

set_option maxRecDepth 20000 in
set_option maxHeartbeats 1600000 in
theorem goals_any (A1 A2 : Option Addr) (n1 c1 n2 c2 : Nat) (Ag : Option Addr) (n c : Nat) (gs : List Int) (w : World) (h : IntsAt w w.heap.size Ag n gs) (hn1 : n1 ≤ 1048576) (hn : n ≤ 1048576) :
    Calls Try.prog 66 #[.agg #[.slice A1 n1 c1, .slice A2 n2 c2], .slice Ag n c] w fun e w' => e = .returned (.bool (golB n1 gs)) ∧ Below w.heap.size w w' := by
  have hb0 := ((Below.refl w.heap.size w).alloc (Nat.le_refl _) (.cells #[.slice A1 n1 c1, .slice A2 n2 c2] 32))
  obtain ⟨x0, x1⟩ := box2 (BoxN.new w #[.slice A1 n1 c1, .slice A2 n2 c2] 32)
  obtain ⟨W, hW⟩ : ∃ W, w.alloc (.cells #[.slice A1 n1 c1, .slice A2 n2 c2] 32) = W := ⟨_, rfl⟩
  rw [hW] at x0 x1 hb0
  have HWq := Lib.hid hW
  have HB0 := Lib.hid hb0
  have C := rising_any Ag n c n1 gs W W.heap.size ((h.below hb0).wide hb0.size) hn1 hn
  have hwr : IntKind.i64.wrap ((n1 : Int) - 1) = (n1 : Int) - 1 := IntWalk.i64_in _ (by omega)
  clear hW h hb0
  go_enter Try.func66, Try.ntmps66
  go_wp2_with fail
  rw [HWq.out]
  go_wp2_with fail
  refine C.mono ?_
  rintro e w1 ⟨rfl, hd⟩
  have hb1 := HB0.out.trans ((hd.below _).mono HB0.out.size)
  clear C hd
  go_wp2_with fail
  go_ret
  exact ⟨rfl, hb1⟩
end Go.Proofs.Ytlpgldejmdiceaa.syl
