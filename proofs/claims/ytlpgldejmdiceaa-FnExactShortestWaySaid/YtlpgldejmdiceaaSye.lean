/- slices.BinarySearchFunc at triples with compareSteps; ways: spec.l10Has, spec.l10Way, impl.isWay. -/
import Derived.Test.YtlpgldejmdiceaaSyl
import Derived.Test.YtlpgldejmdiceaaSyb
namespace Go.Proofs.Ytlpgldejmdiceaa.sye
open kit bg sg opn strs only hb sig isig un over gn nm inn ht gd im pt marks eqs hc hi hw hn rs br bm bw cf lf ib isa lawb lw cl bgs cz syx sya syh syi syc syg syb  syl
open Go.RowKit
set_option linter.unusedVariables false
set_option linter.unusedSimpArgs false
open has
/-- a way from a state -/
def wayB (ts : List Tri) : Int → List Tri → Bool
  | _, [] => true
  | z, s :: r => decide (s ∈ ts) && decide (s.1 = z) && wayB ts s.2.2 r
def endOf : Int → List Tri → Int
  | z, [] => z
  | _, s :: r => endOf s.2.2 r
theorem way_no1 {ts r : List Tri} {z : Int} {s : Tri} (h : s ∉ ts) : wayB ts z (s :: r) = false := by unfold wayB; simp [h]
theorem way_no2 {ts r : List Tri} {z : Int} {s : Tri} (h : ¬ s.1 = z) : wayB ts z (s :: r) = false := by unfold wayB; simp [h]
theorem way_yes {ts r : List Tri} {z : Int} {s : Tri} (h : s ∈ ts) (h' : s.1 = z) : wayB ts z (s :: r) = wayB ts s.2.2 r := by rw [wayB]; simp [h, h']

def cutP (ts : List Tri) (t : Tri) (lo hi : Nat) : Prop := (∀ (k : Nat) a, k < lo → ts[k]? = some a → lt3 a t = true) ∧ ∀ (k : Nat) a, hi ≤ k → ts[k]? = some a → lt3 a t = false
theorem cut_found {ts : List Tri} {t : Tri} {m : Nat} (hp : ts.Pairwise (fun a b => lt3 a b = true)) (h : cutP ts t m m) : t ∈ ts ↔ ts[m]? = some t := by
  constructor
  · intro hm
    obtain ⟨k, hk⟩ := List.getElem?_of_mem hm
    rcases Nat.lt_trichotomy k m with h1 | h1 | h1
    · have := h.1 k t h1 hk
      rw [lt3_irrefl] at this
      cases this
    · rw [← h1]; exact hk
    · obtain ⟨hkl, hke⟩ := List.getElem?_eq_some_iff.1 hk
      have hml : m < ts.length := by omega
      have h2 := h.2 m _ (Nat.le_refl _) (List.getElem?_eq_getElem hml)
      have h3 := List.pairwise_iff_getElem.1 hp m k hml hkl h1
      rw [hke, h2] at h3
      cases h3
  · exact fun h => List.mem_of_getElem? h
theorem pw_at {ts : List Tri} (hp : ts.Pairwise (fun a b => lt3 a b = true)) {i j : Nat} {a b : Tri} (h : i < j) (ha : ts[i]? = some a) (hb : ts[j]? = some b) : lt3 a b = true := by
  obtain ⟨h1, e1⟩ := List.getElem?_eq_some_iff.1 ha
  obtain ⟨h2, e2⟩ := List.getElem?_eq_some_iff.1 hb
  rw [← e1, ← e2]
  exact List.pairwise_iff_getElem.1 hp i j h1 h2 h
theorem cut_lo {ts : List Tri} (hp : ts.Pairwise (fun a b => lt3 a b = true)) {t y : Tri} {lo hi m : Nat} (h : cutP ts t lo hi) (hy : ts[m]? = some y) (hl : lt3 y t = true) : cutP ts t (m + 1) hi := by
  refine ⟨fun k a hk ha => ?_, h.2⟩
  by_cases e : k = m
  · subst e; rw [hy] at ha; injection ha with ha; rw [← ha]; exact hl
  · exact lt3_trans (pw_at hp (by omega) ha hy) hl
theorem cut_hi {ts : List Tri} (hp : ts.Pairwise (fun a b => lt3 a b = true)) {t y : Tri} {lo hi m : Nat} (h : cutP ts t lo hi) (hy : ts[m]? = some y) (hl : lt3 y t = false) : cutP ts t lo m := by
  refine ⟨h.1, fun k a hk ha => ?_⟩
  by_cases e : k = m
  · subst e; rw [hy] at ha; injection ha with ha; rw [← ha]; exact hl
  · cases hq : lt3 a t with
    | false => rfl
    | true => rw [← hl]; exact (lt3_trans (pw_at hp (by omega) hy ha) hq).symm

set_option maxRecDepth 20000 in
set_option maxHeartbeats 6400000 in
theorem bsf_any (A : Option Addr) (n c : Nat) (ts : List Tri) (t : Tri) (w : World) (h : TriAt w w.heap.size A n ts) (hn : n ≤ 1048576) (hp : ts.Pairwise (fun a b => lt3 a b = true)) :
    Calls Try.prog 107 #[.slice A n c, triV t, .func (.func 108) #[] #[]] w fun e w' => (∃ m : Nat, e = .returned (.tuple #[.int .i64 m, .bool (decide (t ∈ ts))])) ∧ Below w.heap.size w w' := by
  have HL := Lib.hid h.1
  have HP := Lib.hid hp
  unfold triV
  have hb0 := (Below.refl w.heap.size w).alloc (Nat.le_refl _) (.cells #[.int .i64 t.1, .int .i64 t.2.1, .int .i64 t.2.2] 76)
  have hBt := BoxN.new w #[.int .i64 t.1, .int .i64 t.2.1, .int .i64 t.2.2] 76
  obtain ⟨W, hW⟩ : ∃ W, w.alloc (.cells #[.int .i64 t.1, .int .i64 t.2.1, .int .i64 t.2.2] 76) = W := ⟨_, rfl⟩
  rw [hW] at hb0 hBt
  have HWq := Lib.hid hW
  have HB0 := Lib.hid hb0
  have HBt := Lib.hid hBt
  have hWs := hBt.lt
  have HT := Lib.hid ((h.below hb0).wide hb0.size)
  clear hW hb0 hBt h hp
  go_enter Try.func107, Try.ntmps107
  go_wp2_with fail
  rw [HWq.out]
  try go_wp2_with fail
  go_loopg [9, 10, 11] n (fun g s9 s10 _ wr => ∃ lo hi : Nat, s9 = .int .i64 lo ∧ s10 = .int .i64 hi ∧ lo ≤ hi ∧ hi ≤ n ∧ hi - lo ≤ g ∧ Below W.heap.size W wr ∧ Hid (cutP ts t lo hi))
  case atStart => exact ⟨0, n, rfl, rfl, Nat.zero_le _, Nat.le_refl _, by omega, Below.refl _ _, Lib.hid ⟨fun k a hk => absurd hk (Nat.not_lt_zero _), fun k a h1 h2 => by have := (List.getElem?_eq_some_iff.1 h2).1; have := HL.out; omega⟩⟩
  case round =>
    obtain ⟨lo, hi, rfl, rfl, hlh, hin, hg, hbel, I⟩ := hrel
    have HBel := Lib.hid hbel
    obtain ⟨z0, z1, z2⟩ := box3 (HBt.out.below hbel hWs)
    have q0 := Over.get z0 (Nat.lt_of_lt_of_le hWs hbel.size)
    have q1 := Over.get z1 (Nat.lt_of_lt_of_le hWs hbel.size)
    have q2 := Over.get z2 (Nat.lt_of_lt_of_le hWs hbel.size)
    clear z0 z1 z2
    by_cases hlt : lo < hi
    · obtain ⟨b, off, y, rfl, hb, hy, e0, e1, e2⟩ := (HT.out.below hbel).get (show (lo + hi) / 2 < n by omega)
      have Y := Lib.hid hy
      have hbw : b < wr.heap.size := Nat.lt_of_lt_of_le hb hbel.size
      have r0 := Over.get e0 hbw
      have r1 := Over.get e1 hbw
      have r2 := Over.get e2 hbw
      have HC := Lib.hid (fun Y => cmpSt_any y t Y)
      unfold triV at HC
      clear hy e0 e1 e2 hbel
      cases hl : lt3 y t with
      | true =>
        have hz : cmp3 y t < 0 := cmp3_lt.2 hl
        have HLt := Lib.hid hl
        have HK := Lib.hid (fun y' : Over wr => over_call (HC.out y'.w))
        obtain ⟨z, hz2⟩ : ∃ z, cmp3 y t = z := ⟨_, rfl⟩
        rw [hz2] at hz HK
        clear hl hz2
        go_wp2_with fail
        refine wp_region_over (by kernel_rfl) (by kernel_rfl) ?_
        repeat (go_big_quiet_step (first | (go_at_call 108; exact HK.out _) | (go_at_fn 108; exact HK.out _)))
        refine wpQuiet_nil ?_
        rintro _ ⟨y', rfl⟩
        have hy := y'.below
        obtain ⟨w9, hw9⟩ : ∃ w9, y'.w = w9 := ⟨_, rfl⟩
        rw [hw9] at hy ⊢
        clear hw9 q0 q1 q2 r0 r1 r2
        have hb9 := HBel.out.trans (hy.mono HBel.out.size)
        clear hy
        go_wp2_with fail
        go_roundg (hi - ((lo + hi) / 2 + 1))
        case measure => omega
        case rel => exact ⟨(lo + hi) / 2 + 1, hi, by rw [show ((lo : Int) + (hi : Int)) / 2 + 1 = (((lo + hi) / 2 + 1 : Nat) : Int) by omega], rfl, by omega, hin, Nat.le_refl _, hb9, Lib.hid (cut_lo HP.out I.out Y.out HLt.out)⟩
      | false =>
        have hz : ¬ cmp3 y t < 0 := fun h => by rw [cmp3_lt.1 h] at hl; cases hl
        have HLt := Lib.hid hl
        have HK := Lib.hid (fun y' : Over wr => over_call (HC.out y'.w))
        obtain ⟨z, hz2⟩ : ∃ z, cmp3 y t = z := ⟨_, rfl⟩
        rw [hz2] at hz HK
        have hz' : (0 : Int) ≤ z := by omega
        clear hl hz2 hz
        go_wp2_with fail
        refine wp_region_over (by kernel_rfl) (by kernel_rfl) ?_
        repeat (go_big_quiet_step (first | (go_at_call 108; exact HK.out _) | (go_at_fn 108; exact HK.out _)))
        refine wpQuiet_nil ?_
        rintro _ ⟨y', rfl⟩
        have hy := y'.below
        obtain ⟨w9, hw9⟩ : ∃ w9, y'.w = w9 := ⟨_, rfl⟩
        rw [hw9] at hy ⊢
        clear hw9 q0 q1 q2 r0 r1 r2
        have hb9 := HBel.out.trans (hy.mono HBel.out.size)
        clear hy
        go_wp2_with fail
        go_roundg ((lo + hi) / 2 - lo)
        case measure => omega
        case rel => exact ⟨lo, (lo + hi) / 2, rfl, by rw [show ((lo : Int) + (hi : Int)) / 2 = (((lo + hi) / 2 : Nat) : Int) by omega], by omega, by omega, Nat.le_refl _, hb9, Lib.hid (cut_hi HP.out I.out Y.out HLt.out)⟩
    · have hhl : hi = lo := by omega
      subst hhl
      have HF := Lib.hid (cut_found HP.out I.out)
      by_cases hn2 : hi < n
      · obtain ⟨b, off, y, rfl, hb, hy, e0, e1, e2⟩ := (HT.out.below hbel).get hn2
        have hbw : b < wr.heap.size := Nat.lt_of_lt_of_le hb hbel.size
        have r0 := Over.get e0 hbw
        have r1 := Over.get e1 hbw
        have r2 := Over.get e2 hbw
        have HC := Lib.hid (fun Y => cmpSt_any y t Y)
        unfold triV at HC
        have HD : Hid (decide (t ∈ ts) = (cmp3 y t == 0)) := Lib.hid (by
          rw [Bool.eq_iff_iff]
          simp only [decide_eq_true_eq, beq_iff_eq]
          rw [HF.out, hy, cmp3_eq]
          constructor
          · intro e; injection e
          · intro e; rw [e])
        have HK := Lib.hid (fun y' : Over wr => over_call (HC.out y'.w))
        obtain ⟨z, hz2⟩ : ∃ z, cmp3 y t = z := ⟨_, rfl⟩
        rw [hz2] at HK HD
        clear hy e0 e1 e2 hbel hz2
        by_cases hz0 : z = 0
        · subst hz0
          go_wp2_with fail
          refine wp_region_over (by kernel_rfl) (by kernel_rfl) ?_
          repeat (go_big_quiet_step (first | (go_at_call 108; exact HK.out _) | (go_at_fn 108; exact HK.out _)))
          refine wpQuiet_nil ?_
          rintro _ ⟨y', rfl⟩
          have hy := y'.below
          obtain ⟨w9, hw9⟩ : ∃ w9, y'.w = w9 := ⟨_, rfl⟩
          rw [hw9] at hy ⊢
          clear hw9 q0 q1 q2 r0 r1 r2
          have hb9 := HBel.out.trans (hy.mono HBel.out.size)
          clear hy
          go_wp2_with fail
          refine bodyPost_ret (results_tmp2 rfl _ _ _) rfl ?_
          exact ⟨⟨hi, by rw [HD.out]; rfl⟩, HB0.out.trans (hb9.mono HB0.out.size)⟩
        · have hze : (z == 0) = false := by simpa using hz0
          go_wp2_with fail
          refine wp_region_over (by kernel_rfl) (by kernel_rfl) ?_
          repeat (go_big_quiet_step (first | (go_at_call 108; exact HK.out _) | (go_at_fn 108; exact HK.out _)))
          refine wpQuiet_nil ?_
          rintro _ ⟨y', rfl⟩
          have hy := y'.below
          obtain ⟨w9, hw9⟩ : ∃ w9, y'.w = w9 := ⟨_, rfl⟩
          rw [hw9] at hy ⊢
          clear hw9 q0 q1 q2 r0 r1 r2
          have hb9 := HBel.out.trans (hy.mono HBel.out.size)
          clear hy
          go_wp2_with fail
          refine bodyPost_ret (results_tmp2 rfl _ _ _) rfl ?_
          exact ⟨⟨hi, by rw [HD.out]; simp [hz0]⟩, HB0.out.trans (hb9.mono HB0.out.size)⟩
      · have HD : Hid (decide (t ∈ ts) = false) := Lib.hid (decide_eq_false (fun hm => by
          have := (List.getElem?_eq_some_iff.1 (HF.out.1 hm)).1
          have := HL.out
          omega))
        go_wp2_with fail
        refine wp_region_over (by kernel_rfl) (by kernel_rfl) ?_
        repeat (go_big_quiet_step (fail))
        refine wpQuiet_nil ?_
        rintro _ ⟨y', rfl⟩
        have hy := y'.below
        obtain ⟨w9, hw9⟩ : ∃ w9, y'.w = w9 := ⟨_, rfl⟩
        rw [hw9] at hy ⊢
        clear hw9 q0 q1 q2
        have hb9 := HBel.out.trans (hy.mono HBel.out.size)
        clear hy
        go_wp2_with fail
        refine bodyPost_ret (results_tmp2 rfl _ _ _) rfl ?_
        exact ⟨⟨hi, by rw [HD.out]; rfl⟩, HB0.out.trans (hb9.mono HB0.out.size)⟩
end Go.Proofs.Ytlpgldejmdiceaa.sye
