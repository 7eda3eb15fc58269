/- Rankings: spec.l10Ranking, slices.Min, impl.isRankOver. -/
import Derived.Test.YtlpgldejmdiceaaSyt
import Derived.Test.YtlpgldejmdiceaaSym
namespace Go.Proofs.Ytlpgldejmdiceaa.syu
open kit bg sg opn strs only hb sig isig un over gn nm inn ht gd im pt marks eqs hc hi hw hn rs br bm bw cf lf ib isa lawb lw cl bgs cz syx sya syh syi syc syg syb syk syl syt sym has
open Go.RowKit
set_option linter.unusedVariables false
set_option linter.unusedSimpArgs false
def overB (rs : List Int) (r : Int) (out : List Tri) : Bool := decide (out ≠ []) && out.all (fun s => inb (rs.getD s.2.2.toNat 0) 0 (r - 1))
def rkAt (ts : List Tri) (gs rs : List Int) (i : Nat) : Bool :=
  match rs[i]? with
  | none => true
  | some r => decide (-1 ≤ r) && (decide (r < 0) || hasB gs i || overB rs r (outOf ts i))
def rankB (n : Nat) (ts : List Tri) (gs rs : List Int) : Bool := decide (rs.length = n) && (List.range rs.length).all (rkAt ts gs rs)
theorem rank_no {n : Nat} {ts : List Tri} {gs rs : List Int} {i : Nat} {r : Int} (hr : rs[i]? = some r) (h : rkAt ts gs rs i = false) : rankB n ts gs rs = false := by
  unfold rankB
  have : (List.range rs.length).all (rkAt ts gs rs) = false := by
    rw [List.all_eq_false]
    exact ⟨i, List.mem_range.2 (List.getElem?_eq_some_iff.1 hr).1, by simp [h]⟩
  rw [this, Bool.and_false]
theorem rank_len {n : Nat} {ts : List Tri} {gs rs : List Int} (h : ¬ rs.length = n) : rankB n ts gs rs = false := by unfold rankB; rw [decide_eq_false h]; rfl
theorem rank_yes {n : Nat} {ts : List Tri} {gs rs : List Int} (h : rs.length = n) (h2 : ∀ i, i < rs.length → rkAt ts gs rs i = true) : rankB n ts gs rs = true := by
  unfold rankB
  rw [decide_eq_true h, List.all_eq_true.2 (fun x hx => h2 x (List.mem_range.1 hx))]
  rfl
theorem rk_low {ts : List Tri} {gs rs : List Int} {i : Nat} {r : Int} (hr : rs[i]? = some r) (h : r < -1) : rkAt ts gs rs i = false := by unfold rkAt; rw [hr]; simp; omega
theorem rk_none {ts : List Tri} {gs rs : List Int} {i : Nat} {r : Int} (hr : rs[i]? = some r) (h : r = -1) : rkAt ts gs rs i = true := by subst h; unfold rkAt; rw [hr]; simp
theorem rk_goal {ts : List Tri} {gs rs : List Int} {i : Nat} {r : Int} (hr : rs[i]? = some r) (h : 0 ≤ r) (h2 : hasB gs i = true) : rkAt ts gs rs i = true := by unfold rkAt; rw [hr]; simp [h2]; omega
theorem rk_over {ts : List Tri} {gs rs : List Int} {i : Nat} {r : Int} (hr : rs[i]? = some r) (h : 0 ≤ r) (h2 : hasB gs i = false) : rkAt ts gs rs i = overB rs r (outOf ts i) := by
  unfold rkAt
  rw [hr]
  simp only [h2, decide_eq_true (show -1 ≤ r by omega), decide_eq_false (show ¬ r < 0 by omega), Bool.true_and, Bool.false_or]
theorem over_no {rs : List Int} {r : Int} {out : List Tri} {j : Nat} {s : Tri} (hs : out[j]? = some s) (h : inb (rs.getD s.2.2.toNat 0) 0 (r - 1) = false) : overB rs r out = false := by
  unfold overB
  have : out.all (fun s => inb (rs.getD s.2.2.toNat 0) 0 (r - 1)) = false := by
    rw [List.all_eq_false]
    exact ⟨s, List.mem_of_getElem? hs, by rw [h]; simp⟩
  rw [this, Bool.and_false]
theorem over_yes {rs : List Int} {r : Int} {out : List Tri} (h : ∀ (j : Nat) s, j < out.length → out[j]? = some s → inb (rs.getD s.2.2.toNat 0) 0 (r - 1) = true) : overB rs r out = decide (out ≠ []) := by
  unfold overB
  rw [List.all_eq_true.2 (fun x hx => by
    obtain ⟨j, hj⟩ := List.getElem?_of_mem hx
    exact h j x (List.getElem?_eq_some_iff.1 hj).1 hj), Bool.and_true]
theorem getD_of {rs : List Int} {t : Nat} {q : Int} (h : rs[t]? = some q) : rs.getD t 0 = q := by simp [List.getD, h]
theorem out_mem {ts : List Tri} {z : Int} {s : Tri} (h : s ∈ outOf ts z) : s ∈ ts := (List.mem_filter.1 h).1

set_option maxRecDepth 20000 in
set_option maxHeartbeats 6400000 in
theorem lrank_any (A1 A2 : Option Addr) (n1 c1 n2 c2 : Nat) (ts : List Tri) (Ag : Option Addr) (ng cg : Nat) (gs : List Int) (Ar : Option Addr) (nr cr : Nat) (rs : List Int) (w : World) (h : TriAt w w.heap.size A2 n2 ts) (hg : IntsAt w w.heap.size Ag ng gs) (hr : IntsAt w w.heap.size Ar nr rs) (hn1 : n1 ≤ 1048576) (hn2 : n2 ≤ 1048576) (hng : ng ≤ 1048576) (hnr : nr ≤ 1048576) (hmem : ∀ s ∈ ts, 0 ≤ s.2.2 ∧ s.2.2 < n1) (hwf : ∀ z ∈ rs, (Lit.int .i64 z).wf = true) :
    Calls Try.prog 85 #[.agg #[.slice A1 n1 c1, .slice A2 n2 c2], .slice Ag ng cg, .slice Ar nr cr] w fun e w' => e = .returned (.bool (rankB n1 ts gs rs)) ∧ Below w.heap.size w w' := by
  have HLr := Lib.hid hr.len
  have hb0 := (Below.refl w.heap.size w).alloc (Nat.le_refl _) (.cells #[.slice A1 n1 c1, .slice A2 n2 c2] 32)
  have hBx := BoxN.new w #[.slice A1 n1 c1, .slice A2 n2 c2] 32
  obtain ⟨W, hW⟩ : ∃ W, w.alloc (.cells #[.slice A1 n1 c1, .slice A2 n2 c2] 32) = W := ⟨_, rfl⟩
  rw [hW] at hBx hb0
  have HB0 := Lib.hid hb0
  have HBx := Lib.hid hBx
  have HWq := Lib.hid hW
  have hWs := hBx.lt
  have HT := Lib.hid ((h.below hb0).wide hb0.size)
  have HG := Lib.hid ((hg.below hb0).wide hb0.size)
  have HR := Lib.hid ((hr.below hb0).wide hb0.size)
  have HMem := Lib.hid hmem
  have HWf := Lib.hid hwf
  obtain ⟨V, hV⟩ : ∃ V, rankB n1 ts gs rs = V := ⟨_, rfl⟩
  rw [hV]
  have HV := Lib.hid hV
  obtain ⟨x0, x1⟩ := box2 hBx
  clear hW hb0 hBx h hg hr hV hmem hwf
  by_cases hnn : nr = n1
  · subst hnn
    go_enter Try.func85, Try.ntmps85
    go_wp2_with fail
    rw [HWq.out]
    try go_wp2_with fail
    clear x0 x1
    go_loopw [7, 8, 9] (fun i _ _ wr => ∃ k : Nat, k ≤ nr ∧ i = .int .i64 k ∧ (∀ j, j < k → rkAt ts gs rs j = true) ∧ Below W.heap.size W wr) (fun i _ _ _ => nr - (intOf i).toNat)
    case atStart => exact ⟨0, Nat.zero_le _, rfl, fun j hj => absurd hj (Nat.not_lt_zero j), Below.refl _ _⟩
    case round =>
      obtain ⟨k, hk, rfl, hok, hbel⟩ := hrel
      have HOk := Lib.hid hok
      have HBel := Lib.hid hbel
      clear hok
      by_cases hlt : k < nr
      · obtain ⟨b, off, r, rfl, hb, hx, e0⟩ := IntsAt.get (HR.out.below hbel) hlt
        have HX := Lib.hid hx
        have hwr := HWf.out r (List.mem_of_getElem? hx)
        have hrb := bounds_i64 hwr
        obtain ⟨x0, x1⟩ := box2 (HBx.out.below hbel hWs)
        have hnext : ∀ {c : Bool}, rkAt ts gs rs k = true → ∀ j, j < k + 1 → rkAt ts gs rs j = true := fun h j hj => by
          by_cases e : j = k
          · rw [e]; exact h
          · exact HOk.out j (by omega)
        have HNx := Lib.hid (@hnext true)
        clear hx hbel hwr hnext
        by_cases hlow : r < -1
        · have HF := Lib.hid (HV.out.symm.trans (rank_no HX.out (rk_low HX.out hlow)))
          go_wp2_with fail
          go_ret
          exact ⟨by rw [HF.out]; rfl, HB0.out.trans (HBel.out.mono HB0.out.size)⟩
        · by_cases hneg : r < 0
          · have HN := Lib.hid (HNx.out (rk_none HX.out (by omega)))
            go_wp2_with fail
            go_roundw
            case rel => exact ⟨k + 1, by omega, by go_num, HN.out, HBel.out⟩
            case measure => simp [intOf]; omega
          · have CH := l1Has_any Ag ng cg gs (k : Int) wr _ (HG.out.below HBel.out) hng
            cases hh : hasB gs (k : Int) with
            | true =>
              have HN := Lib.hid (HNx.out (rk_goal HX.out (by omega) hh))
              rw [hh] at CH
              clear hh
              go_wp2_with fail
              refine CH.mono ?_
              rintro e w2 ⟨rfl, rfl⟩
              clear CH
              go_wp2_with fail
              go_roundw
              case rel => exact ⟨k + 1, by omega, by go_num, HN.out, HBel.out⟩
              case measure => simp [intOf]; omega
            | false =>
              have HO := Lib.hid (rk_over (ts := ts) HX.out (show 0 ≤ r by omega) hh)
              rw [hh] at CH
              have CF := lfrom_any A1 A2 nr c1 n2 c2 ts (k : Int) wr ((HT.out.below HBel.out).wide HBel.out.size) hn2
              have hr1 : IntKind.i64.wrap (r - 1) = r - 1 := IntWalk.i64_in _ (by omega)
              have hml := out_len ts (k : Int)
              have HOm := Lib.hid (fun (s : Tri) (hs : s ∈ outOf ts (k : Int)) => HMem.out s (out_mem hs))
              obtain ⟨out, hout⟩ : ∃ out, outOf ts (k : Int) = out := ⟨_, rfl⟩
              rw [hout] at CF HO hml HOm
              obtain ⟨m, hm⟩ : ∃ m, out.length = m := ⟨_, rfl⟩
              rw [hm] at CF hml
              have HM := Lib.hid hm
              have hm2 : m ≤ 1048576 := by have := HT.out.1; omega
              clear hh hout hm hml
              go_wp2_with fail
              refine CH.mono ?_
              rintro e w2 ⟨rfl, rfl⟩
              clear CH
              go_wp2_with fail
              refine CF.mono ?_
              rintro e w3 ⟨g, c, rfl, hat, hb⟩
              have HB3 := Lib.hid (HBel.out.trans (hb.mono HBel.out.size))
              have HAt := Lib.hid hat
              clear CF hat hb x0 x1 e0
              go_wp2_with fail
              go_loopw [9] (fun i wq => ∃ j : Nat, j ≤ m ∧ i = .int .i64 j ∧ (∀ (t : Nat) s, t < j → out[t]? = some s → inb (rs.getD s.2.2.toNat 0) 0 (r - 1) = true) ∧ Dr w3 wq) (fun i _ => m - (intOf i).toNat)
              case atStart => exact ⟨0, Nat.zero_le _, rfl, fun t s ht => absurd ht (Nat.not_lt_zero t), Dr.refl _⟩
              case round =>
                obtain ⟨j, hj, rfl, hin, hd⟩ := hrel
                have HIn := Lib.hid hin
                have HD := Lib.hid hd
                clear hin
                by_cases hlt2 : j < m
                · obtain ⟨g', off', s, eA, hgg, hs, f0, f1, f2⟩ := HAt.out.get hlt2
                  injection eA with eA
                  injection eA with eg eo
                  subst eg eo
                  obtain ⟨hs1, hs2⟩ := HOm.out s (List.mem_of_getElem? hs)
                  obtain ⟨t, ht⟩ : ∃ t : Nat, s.2.2 = t := ⟨s.2.2.toNat, by omega⟩
                  have htn : t < nr := by omega
                  obtain ⟨b', off2, q, eB, hb', hq, q0⟩ := IntsAt.get (HR.out.below HB3.out) htn
                  injection eB with eB
                  injection eB with eg2 eo2
                  subst eg2 eo2
                  obtain ⟨b'', off3, r', eC, hb'', hr', r0⟩ := IntsAt.get (HR.out.below HB3.out) hlt
                  injection eC with eC
                  injection eC with eg3 eo3
                  subst eg3 eo3
                  rw [HX.out] at hr'
                  injection hr' with hr'
                  subst hr'
                  rw [ht] at f2
                  rw [Nat.zero_add] at f0 f1 f2
                  have p0 := (hd.cell _).trans f0
                  have p1 := (hd.cell _).trans f1
                  have p2 := (hd.cell _).trans f2
                  have p3 := (hd.cell _).trans q0
                  have p4 := (hd.cell _).trans r0
                  have HS := Lib.hid hs
                  have HGq : Hid (rs.getD s.2.2.toNat 0 = q) := Lib.hid (by rw [ht, Int.toNat_natCast]; exact getD_of hq)
                  clear hs hq f0 f1 f2 q0 r0 hs1 hs2 ht hd
                  cases hi : inb q 0 (r - 1) with
                  | true =>
                    have HY := Lib.hid hi
                    have HI := Lib.hid (fun W' => hi ▸ in_any q 0 (r - 1) W')
                    clear hi
                    go_wp2_with fail
                    go_quiet ((go_at_call 92; with_reducible exact Calls.quiet_of_same ((HI.out _).mono fun _ _ h => ⟨h.1, h.2.symm⟩)))
                    go_wp2_with fail
                    go_roundw
                    case rel => exact ⟨j + 1, by omega, by go_num, fun t' s' ht' hs' => by
                      by_cases e : t' = j
                      · subst e; rw [HS.out] at hs'; injection hs' with e; subst e; rw [HGq.out]; exact HY.out
                      · exact HIn.out t' s' (by omega) hs', by first | exact HD.out.more _ | exact HD.out⟩
                    case measure => simp [intOf]; omega
                  | false =>
                    have HF := Lib.hid (HV.out.symm.trans (rank_no HX.out (HO.out.trans (over_no HS.out (by rw [HGq.out]; exact hi)))))
                    have HI := Lib.hid (fun W' => hi ▸ in_any q 0 (r - 1) W')
                    clear hi
                    go_wp2_with fail
                    go_quiet ((go_at_call 92; with_reducible exact Calls.quiet_of_same ((HI.out _).mono fun _ _ h => ⟨h.1, h.2.symm⟩)))
                    go_wp2_with fail
                    go_ret
                    exact ⟨by rw [HF.out]; rfl, HB0.out.trans ((HB3.out.trans (((HD.out.more _).below _).mono HB3.out.size)).mono HB0.out.size)⟩
                · obtain rfl : j = m := by omega
                  have HY := Lib.hid (HO.out.trans (over_yes (by rw [HM.out]; exact HIn.out)))
                  by_cases hj0 : j = 0
                  · have HF := Lib.hid (HV.out.symm.trans (rank_no HX.out (HY.out.trans (decide_eq_false (by
                      have := HM.out
                      rw [hj0] at this
                      simp [List.eq_nil_of_length_eq_zero this])))))
                    subst hj0
                    go_wp2_with fail
                    go_ret
                    exact ⟨by rw [HF.out]; rfl, HB0.out.trans ((HB3.out.trans ((HD.out.below _).mono HB3.out.size)).mono HB0.out.size)⟩
                  · have HN := Lib.hid (HNx.out (HY.out.trans (decide_eq_true (fun e => hj0 (by rw [← HM.out, e]; rfl)))))
                    have hj1 : ¬ (j : Int) = 0 := by omega
                    go_wp2_with fail
                    go_roundw
                    case rel => exact ⟨k + 1, by omega, by go_num, HN.out, HB3.out.trans ((HD.out.below _).mono HB3.out.size)⟩
                    case measure => simp [intOf]; omega
      · obtain rfl : k = nr := by omega
        have HF := Lib.hid (HV.out.symm.trans (rank_yes HLr.out (by rw [HLr.out]; exact HOk.out)))
        go_wp2_with fail
        go_ret
        exact ⟨by rw [HF.out]; rfl, HB0.out.trans (HBel.out.mono HB0.out.size)⟩
  · have HF := Lib.hid (HV.out.symm.trans (rank_len (by rw [HLr.out]; exact hnn)))
    have hne : ¬ (nr : Int) = (n1 : Int) := by omega
    go_enter Try.func85, Try.ntmps85
    go_wp2_with fail
    rw [HWq.out]
    try go_wp2_with fail
    go_ret
    exact ⟨by rw [HF.out]; rfl, HB0.out⟩
end Go.Proofs.Ytlpgldejmdiceaa.syu
