/- Rankings: slices.Min, impl.isRankOver. -/
import Derived.Test.YtlpgldejmdiceaaSyu
namespace Go.Proofs.Ytlpgldejmdiceaa.syv
open kit bg sg opn strs only hb sig isig un over gn nm inn ht gd im pt marks eqs hc hi hw hn rs br bm bw cf lf ib isa lawb lw cl bgs cz syx sya syh syi syc syg syb syk syl syt sym has syu
open Go.RowKit
set_option linter.unusedVariables false
set_option linter.unusedSimpArgs false
def MinP (rs : List Int) (e : Ending) : Prop := ∃ m : Int, e = .returned (.int .i64 m) ∧ m ∈ rs ∧ ∀ z ∈ rs, m ≤ z
set_option maxRecDepth 20000 in
set_option maxHeartbeats 1600000 in
theorem min_any (A : Option Addr) (n c : Nat) (rs : List Int) (w : World) (B : Nat) (h : IntsAt w B A n rs) (hn : n ≤ 1048576) (h0 : 0 < n) :
    Calls Try.prog 86 #[.slice A n c] w fun e w' => MinP rs e ∧ w = w' := by
  have HL := Lib.hid h.len
  obtain ⟨b, off, x, rfl, hb, hx, hc⟩ := IntsAt.get h h0
  rw [Nat.add_zero] at hc
  have HX := Lib.hid hx
  have hn1 : ¬ ((n : Int) < 1) := by omega
  clear hx
  go_enter Try.func86, Try.ntmps86
  go_wp2_with fail
  go_loopw [3, 4] (fun mv i wr => ∃ (k : Nat) (m : Int), 1 ≤ k ∧ k ≤ n ∧ i = .int .i64 k ∧ mv = .int .i64 m ∧ m ∈ rs ∧ (∀ (j : Nat) z, j < k → rs[j]? = some z → m ≤ z) ∧ w = wr) (fun _ i _ => n - (intOf i).toNat)
  case atStart => exact ⟨1, x, Nat.le_refl _, by omega, rfl, rfl, List.mem_of_getElem? HX.out, fun j z hj hz => by
    have : j = 0 := by omega
    subst this
    rw [HX.out] at hz
    injection hz with hz
    omega, rfl⟩
  case round =>
    obtain ⟨k, m, hk1, hk, rfl, rfl, hm, hle, rfl⟩ := hrel
    have HM := Lib.hid hm
    have HLe := Lib.hid hle
    clear hm hle
    by_cases hlt : k < n
    · obtain ⟨b', off', z, eA, hb', hz, hc'⟩ := IntsAt.get h hlt
      injection eA with eA
      injection eA with eg eo
      subst eg eo
      have HZ := Lib.hid hz
      clear hz
      have hmin : min m z = if m ≤ z then m else z := rfl
      by_cases hmz : m ≤ z
      · have hmv : min m z = m := by omega
        go_wp2_with fail
        go_roundw
        case rel => exact ⟨k + 1, m, by omega, by omega, by go_num, by first | rfl | (simp [hmv]) | (congr 1), HM.out, fun j y hj hy => by
          by_cases e : j = k
          · subst e; rw [HZ.out] at hy; injection hy with hy; omega
          · exact HLe.out j y (by omega) hy, by first | trivial | rfl⟩
        case measure => simp [intOf]; omega
      · have hmv : min m z = z := by omega
        go_wp2_with fail
        go_roundw
        case rel => exact ⟨k + 1, z, by omega, by omega, by go_num, by first | rfl | (simp [hmv]; done) | (simp [hmv]; intro h; omega) | (simp; omega), List.mem_of_getElem? HZ.out, fun j y hj hy => by
          by_cases e : j = k
          · subst e; rw [HZ.out] at hy; injection hy with hy; omega
          · have := HLe.out j y (by omega) hy; omega, by first | trivial | rfl⟩
        case measure => simp [intOf]; omega
    · obtain rfl : k = n := by omega
      go_wp2_with fail
      go_ret
      exact ⟨⟨m, rfl, HM.out, fun z hz => by
        obtain ⟨j, hj⟩ := List.getElem?_of_mem hz
        exact HLe.out j z (by have := (List.getElem?_eq_some_iff.1 hj).1; have := HL.out; omega) hj⟩, rfl⟩

set_option maxRecDepth 20000 in
set_option maxHeartbeats 1600000 in
theorem rko1_any (β1 β2 : Nat) (Ar : Option Addr) (nr cr : Nat) (rs : List Int) (r : Int) (s : Tri) (w : World) (h1 : w.cell? ⟨β1, 0, none⟩ = some (.slice Ar nr cr)) (h2 : w.cell? ⟨β2, 0, none⟩ = some (.int .i64 r)) (hl1 : β1 < w.heap.size) (hl2 : β2 < w.heap.size) (hr : IntsAt w w.heap.size Ar nr rs) (hnr : nr ≤ 1048576) (hs : 0 ≤ s.2.2 ∧ s.2.2 < nr) (hr0 : 0 ≤ r ∧ r ≤ 9223372036854775807) :
    Calls Try.prog 123 #[triV s, .pointer (some ⟨β1, 0, none⟩), .pointer (some ⟨β2, 0, none⟩)] w (Post (!inb (rs.getD s.2.2.toNat 0) 0 (r - 1)) w) := by
  unfold triV
  have hb0 := (Below.refl w.heap.size w).alloc (Nat.le_refl _) (.cells #[.int .i64 s.1, .int .i64 s.2.1, .int .i64 s.2.2] 76)
  obtain ⟨t, ht⟩ : ∃ t : Nat, s.2.2 = t := ⟨s.2.2.toNat, by omega⟩
  have htn : t < nr := by omega
  obtain ⟨y0, y1, y2⟩ := box3 (BoxN.new w #[.int .i64 s.1, .int .i64 s.2.1, .int .i64 s.2.2] 76)
  have z0 := (hb0.cell (p := ⟨β1, 0, none⟩) hl1).trans h1
  have z1 := (hb0.cell (p := ⟨β2, 0, none⟩) hl2).trans h2
  obtain ⟨b, off, q, rfl, hb, hq, q0⟩ := IntsAt.get hr htn
  have z2 := (hb0.cell (p := ⟨b, off + t, none⟩) hb).trans q0
  rw [ht] at y0 y1 y2 hb0 z0 z1 z2 ⊢
  rw [Int.toNat_natCast, getD_of hq]
  obtain ⟨W, hW⟩ : ∃ W, w.alloc (.cells #[.int .i64 s.1, .int .i64 s.2.1, .int .i64 (t : Int)] 76) = W := ⟨_, rfl⟩
  rw [hW] at y0 y1 y2 hb0 z0 z1 z2
  have HWq := Lib.hid hW
  have HB0 := Lib.hid hb0
  have hw1 : IntKind.i64.wrap (r - 1) = r - 1 := IntWalk.i64_in _ (by omega)
  clear hW hb0 h1 h2 q0 hq hr
  cases hi : inb q 0 (r - 1) with
  | true =>
    have HI := Lib.hid (fun W' => hi ▸ win_any q 0 (r - 1) W')
    clear hi
    go_enter Try.func123, Try.ntmps123
    go_wp2_with fail
    rw [HWq.out]
    go_quiet ((go_at_call 94; with_reducible exact Calls.quiet_of_same ((HI.out _).mono fun _ _ h => ⟨h.1, h.2.symm⟩)))
    go_wp2_with fail
    go_ret
    exact ⟨rfl, below_drewN HB0.out _⟩
  | false =>
    have HI := Lib.hid (fun W' => hi ▸ win_any q 0 (r - 1) W')
    clear hi
    go_enter Try.func123, Try.ntmps123
    go_wp2_with fail
    rw [HWq.out]
    go_quiet ((go_at_call 94; with_reducible exact Calls.quiet_of_same ((HI.out _).mono fun _ _ h => ⟨h.1, h.2.symm⟩)))
    go_wp2_with fail
    go_ret
    exact ⟨rfl, below_drewN HB0.out _⟩

theorem over_any (rs : List Int) (r : Int) (out : List Tri) : overB rs r out = (decide (out ≠ []) && !out.any (fun s => !inb (rs.getD s.2.2.toNat 0) 0 (r - 1))) := by
  unfold overB
  congr 1
  rw [List.all_eq_not_any_not]
set_option maxRecDepth 20000 in
set_option maxHeartbeats 1600000 in
theorem rko_any (A : Option Addr) (m c : Nat) (out : List Tri) (Ar : Option Addr) (nr cr : Nat) (rs : List Int) (r : Int) (w : World) (h : TriAt w w.heap.size A m out) (hr : IntsAt w w.heap.size Ar nr rs) (hm : m ≤ 1048576) (hnr : nr ≤ 1048576) (hmem : ∀ s ∈ out, 0 ≤ s.2.2 ∧ s.2.2 < nr) (hr0 : 0 ≤ r ∧ r ≤ 9223372036854775807) :
    Calls Try.prog 87 #[.slice A m c, .slice Ar nr cr, .int .i64 r] w fun e w' => e = .returned (.bool (overB rs r out)) ∧ Below w.heap.size w w' := by
  have hb0 := ((Below.refl w.heap.size w).alloc (Nat.le_refl _) (.cells #[.slice Ar nr cr] 38)).alloc (by simp) (.cells #[.int .i64 r] 3)
  have hB1 := (BoxN.new w #[.slice Ar nr cr] 38).below ((Below.refl _ _).alloc (Nat.le_refl _) (.cells #[.int .i64 r] 3)) (by simp)
  have hB2 := BoxN.new (w.alloc (.cells #[.slice Ar nr cr] 38)) #[.int .i64 r] 3
  rw [World.size_alloc] at hB2
  obtain ⟨W, hW⟩ : ∃ W, (w.alloc (.cells #[.slice Ar nr cr] 38)).alloc (.cells #[.int .i64 r] 3) = W := ⟨_, rfl⟩
  rw [hW] at hB1 hB2 hb0
  have HB0 := Lib.hid hb0
  have HWq := Lib.hid hW
  have HL := Lib.hid h.1
  have C := conT_any 123 #[.pointer (some ⟨w.heap.size, 0, none⟩), .pointer (some ⟨w.heap.size + 1, 0, none⟩)] (fun s => !inb (rs.getD s.2.2.toNat 0) 0 (r - 1)) (fun _ _ => by rfl) A m c out W W
    (fun s Y hs hY => rko1_any w.heap.size (w.heap.size + 1) Ar nr cr rs r s Y ((hB1.on hY).cell (i := 0) rfl) ((hB2.on hY).cell (i := 0) rfl) (Nat.lt_of_lt_of_le hB1.lt hY.size) (Nat.lt_of_lt_of_le hB2.lt hY.size) ((((hr.below hb0).wide hb0.size).below hY).wide hY.size) hnr (hmem s hs) hr0) ((h.below hb0).wide hb0.size) (Below.refl _ _) hm
  obtain ⟨P, hP⟩ : ∃ P, out.any (fun s => !inb (rs.getD s.2.2.toNat 0) 0 (r - 1)) = P := ⟨_, rfl⟩
  obtain ⟨V, hV⟩ : ∃ V, overB rs r out = V := ⟨_, rfl⟩
  rw [hP] at C
  rw [hV]
  have HV : Hid (V = (decide (out ≠ []) && !P)) := Lib.hid (by rw [← hV, over_any, hP])
  clear hW hb0 hB1 hB2 hP hV h hr hmem
  by_cases h0 : m = 0
  · have HF : Hid (V = false) := Lib.hid (by
      rw [HV.out, decide_eq_false (by
        have := HL.out
        rw [h0] at this
        simp [List.eq_nil_of_length_eq_zero this])]
      rfl)
    subst h0
    go_enter Try.func87, Try.ntmps87
    go_wp2_with fail
    try rw [HWq.out]
    try go_wp2_with fail
    go_ret
    exact ⟨by rw [HF.out]; rfl, by first | exact HB0.out | (rw [HWq.out]; exact HB0.out)⟩
  · have HF : Hid (V = !P) := Lib.hid (by
      have hne : out ≠ [] := fun e => h0 (by rw [← HL.out, e]; rfl)
      rw [HV.out, decide_eq_true hne]
      rfl)
    have hm0 : (0 : Int) < (m : Int) := by omega
    go_enter Try.func87, Try.ntmps87
    go_wp2_with fail
    rw [HWq.out]
    try go_wp2_with fail
    refine C.mono ?_
    rintro e w2 ⟨rfl, hb⟩
    have HB2 := Lib.hid (HB0.out.trans (hb.mono HB0.out.size))
    clear C hb
    go_wp2_with fail
    go_ret
    exact ⟨by rw [HF.out]; rfl, HB2.out⟩
end Go.Proofs.Ytlpgldejmdiceaa.syv
