/- Ways: spec.l10Way, impl.isWay; IsWay of spec and impl. -/
import Derived.Test.YtlpgldejmdiceaaSyf
namespace Go.Proofs.Ytlpgldejmdiceaa.syw
open kit bg sg opn strs only hb sig isig un over gn nm inn ht gd im pt marks eqs hc hi hw hn rs br bm bw cf lf ib isa lawb lw cl bgs cz syx sya syh syi syc syg syb syk syl sye has tre syf
open Go.RowKit
set_option linter.unusedVariables false
set_option linter.unusedSimpArgs false
theorem drop_at {α : Type} {l : List α} {k : Nat} {s : α} (h : l[k]? = some s) : l.drop k = s :: l.drop (k + 1) := by
  obtain ⟨hl, he⟩ := List.getElem?_eq_some_iff.1 h
  rw [List.drop_eq_getElem_cons hl, he]
set_option maxRecDepth 20000 in
set_option maxHeartbeats 3200000 in
theorem lway_any (A1 A2 : Option Addr) (n1 c1 n2 c2 : Nat) (ts : List Tri) (z : Int) (B : Option Addr) (m d : Nat) (ws : List Tri) (w : World) (h : TriAt w w.heap.size A2 n2 ts) (h' : TriAt w w.heap.size B m ws) (hn2 : n2 ≤ 1048576) (hm : m ≤ 1048576) :
    Calls Try.prog 58 #[.agg #[.slice A1 n1 c1, .slice A2 n2 c2], .int .i64 z, .slice B m d] w fun e w' => e = .returned (.bool (wayB ts z ws)) ∧ Below w.heap.size w w' := by
  have HL := Lib.hid h'.1
  have hb0 := (Below.refl w.heap.size w).alloc (Nat.le_refl _) (.cells #[.slice A1 n1 c1, .slice A2 n2 c2] 32)
  have hBx := BoxN.new w #[.slice A1 n1 c1, .slice A2 n2 c2] 32
  obtain ⟨W, hW⟩ : ∃ W, w.alloc (.cells #[.slice A1 n1 c1, .slice A2 n2 c2] 32) = W := ⟨_, rfl⟩
  rw [hW] at hBx hb0
  have HB0 := Lib.hid hb0
  have HBx := Lib.hid hBx
  have HWq := Lib.hid hW
  have hWs := hBx.lt
  have HT := Lib.hid ((h.below hb0).wide hb0.size)
  have HU := Lib.hid ((h'.below hb0).wide hb0.size)
  obtain ⟨V, hV⟩ : ∃ V, wayB ts z ws = V := ⟨_, rfl⟩
  rw [hV]
  have HV := Lib.hid hV
  clear hW hb0 hBx h hV h'
  go_enter Try.func58, Try.ntmps58
  go_wp2_with fail
  rw [HWq.out]
  go_loopw [1, 7] (fun zv i wr => ∃ (k : Nat) (z' : Int), k ≤ m ∧ i = .int .i64 k ∧ zv = .int .i64 z' ∧ Hid (wayB ts z' (ws.drop k) = V) ∧ Below W.heap.size W wr) (fun _ i _ => m - (intOf i).toNat)
  case atStart => exact ⟨0, z, Nat.zero_le _, rfl, rfl, Lib.hid HV.out, Below.refl _ _⟩
  case round =>
    obtain ⟨k, z', hk, rfl, rfl, HI, hbel⟩ := hrel
    have HBel := Lib.hid hbel
    by_cases hlt : k < m
    · obtain ⟨g, off, s, rfl, hbb, hx, e0, e1, e2⟩ := (HU.out.below hbel).get hlt
      have hbw := Nat.lt_of_lt_of_le hbb hbel.size
      obtain ⟨y0, y1⟩ := box2 (HBx.out.below hbel hWs)
      have d0 := Over.get y0 (Nat.lt_of_lt_of_le hWs hbel.size)
      have d1 := Over.get y1 (Nat.lt_of_lt_of_le hWs hbel.size)
      have d2 := Over.get e0 hbw
      have d3 := Over.get e1 hbw
      have d4 := Over.get e2 hbw
      have HX := Lib.hid (And.intro hx (drop_at hx))
      have HC := Lib.hid (fun y : Over wr => over_call (has_any A1 A2 n1 c1 n2 c2 ts s y.w ((HT.out.below (hbel.trans (y.below.mono hbel.size))).wide (Nat.le_trans hbel.size y.below.size)) hn2))
      unfold triV at HC
      clear hx hbel y0 y1
      cases hm1 : decide (s ∈ ts) with
      | false =>
        have HF : Hid (V = false) := Lib.hid (by rw [← HI.out, HX.out.2]; exact way_no1 (of_decide_eq_false hm1))
        rw [hm1] at HC
        clear hm1
        go_wp2_with fail
        clear e0 e1 e2
        refine wp_region_over (by kernel_rfl) (by kernel_rfl) ?_
        repeat (go_big_quiet_step ((go_at_call 105; exact HC.out _)))
        refine wpQuiet_nil ?_
        rintro _ ⟨y', rfl⟩
        have hy := y'.below
        obtain ⟨w9, hw9⟩ : ∃ w9, y'.w = w9 := ⟨_, rfl⟩
        rw [hw9] at hy ⊢
        have hb9 := HBel.out.trans (hy.mono HBel.out.size)
        clear hw9 d0 d1 d2 d3 d4 hy
        go_wp2_with fail
        go_ret
        exact ⟨by rw [HF.out]; rfl, HB0.out.trans (hb9.mono HB0.out.size)⟩
      | true =>
        have HM := Lib.hid (of_decide_eq_true hm1)
        rw [hm1] at HC
        clear hm1
        by_cases hz : s.1 = z'
        · subst hz
          have HY := Lib.hid ((way_yes HM.out rfl).symm.trans (HX.out.2 ▸ HI.out))
          have hne : (s.1 != s.1) = false := by simp
          go_wp2_with fail
          refine wp_region_over (by kernel_rfl) (by kernel_rfl) ?_
          repeat (go_big_quiet_step ((go_at_call 105; exact HC.out _)))
          refine wpQuiet_nil ?_
          rintro _ ⟨y', rfl⟩
          have c2 := d4 y'
          have hy := y'.below
          obtain ⟨w9, hw9⟩ : ∃ w9, y'.w = w9 := ⟨_, rfl⟩
          rw [hw9] at hy c2 ⊢
          have hb9 := HBel.out.trans (hy.mono HBel.out.size)
          clear hw9 d0 d1 d2 d3 d4 hy e0 e1 e2
          go_wp2_with fail
          go_roundw
          case rel => exact ⟨k + 1, s.2.2, by omega, by go_num, rfl, Lib.hid HY.out, hb9⟩
          case measure => simp [intOf]; omega
        · have HF : Hid (V = false) := Lib.hid (by rw [← HI.out, HX.out.2]; exact way_no2 hz)
          have hne : (s.1 != z') = true := by simp [hz]
          go_wp2_with fail
          clear e0 e1 e2
          refine wp_region_over (by kernel_rfl) (by kernel_rfl) ?_
          repeat (go_big_quiet_step ((go_at_call 105; exact HC.out _)))
          refine wpQuiet_nil ?_
          rintro _ ⟨y', rfl⟩
          have hy := y'.below
          obtain ⟨w9, hw9⟩ : ∃ w9, y'.w = w9 := ⟨_, rfl⟩
          rw [hw9] at hy ⊢
          have hb9 := HBel.out.trans (hy.mono HBel.out.size)
          clear hw9 d0 d1 d2 d3 d4 hy
          go_wp2_with fail
          go_ret
          exact ⟨by rw [HF.out]; rfl, HB0.out.trans (hb9.mono HB0.out.size)⟩
    · obtain rfl : k = m := by omega
      have HY : Hid (V = true) := Lib.hid (by rw [← HI.out, List.drop_eq_nil_of_le (by have := HL.out; omega)]; rfl)
      go_wp2_with fail
      go_ret
      exact ⟨by rw [HY.out]; rfl, HB0.out.trans (HBel.out.mono HB0.out.size)⟩

set_option maxRecDepth 20000 in
set_option maxHeartbeats 3200000 in
theorem iway_any (A1 A2 : Option Addr) (n1 c1 n2 c2 : Nat) (ts : List Tri) (z : Int) (B : Option Addr) (m d : Nat) (ws : List Tri) (w : World) (h : TriAt w w.heap.size A2 n2 ts) (h' : TriAt w w.heap.size B m ws) (hn2 : n2 ≤ 1048576) (hm : m ≤ 1048576) (hp : ts.Pairwise (fun a b => lt3 a b = true)) :
    Calls Try.prog 63 #[.agg #[.slice A1 n1 c1, .slice A2 n2 c2], .int .i64 z, .slice B m d] w fun e w' => e = .returned (.bool (wayB ts z ws)) ∧ Below w.heap.size w w' := by
  have HL := Lib.hid h'.1
  have hb0 := (Below.refl w.heap.size w).alloc (Nat.le_refl _) (.cells #[.slice A1 n1 c1, .slice A2 n2 c2] 32)
  have hBx := BoxN.new w #[.slice A1 n1 c1, .slice A2 n2 c2] 32
  obtain ⟨W, hW⟩ : ∃ W, w.alloc (.cells #[.slice A1 n1 c1, .slice A2 n2 c2] 32) = W := ⟨_, rfl⟩
  rw [hW] at hBx hb0
  have HB0 := Lib.hid hb0
  have HBx := Lib.hid hBx
  have HWq := Lib.hid hW
  have hWs := hBx.lt
  have HT := Lib.hid ((h.below hb0).wide hb0.size)
  have HU := Lib.hid ((h'.below hb0).wide hb0.size)
  have HP := Lib.hid hp
  obtain ⟨V, hV⟩ : ∃ V, wayB ts z ws = V := ⟨_, rfl⟩
  rw [hV]
  have HV := Lib.hid hV
  clear hW hb0 hBx h hV h' hp
  go_enter Try.func63, Try.ntmps63
  go_wp2_with fail
  rw [HWq.out]
  go_loopw [1, 8, 9, 10, 13] (fun zv _ _ _ i wr => ∃ (k : Nat) (z' : Int), k ≤ m ∧ i = .int .i64 k ∧ zv = .int .i64 z' ∧ Hid (wayB ts z' (ws.drop k) = V) ∧ Below W.heap.size W wr) (fun _ _ _ _ i _ => m - (intOf i).toNat)
  case atStart => exact ⟨0, z, Nat.zero_le _, rfl, rfl, Lib.hid HV.out, Below.refl _ _⟩
  case round =>
    obtain ⟨k, z', hk, rfl, rfl, HI, hbel⟩ := hrel
    have HBel := Lib.hid hbel
    by_cases hlt : k < m
    · obtain ⟨g, off, s, rfl, hbb, hx, e0, e1, e2⟩ := (HU.out.below hbel).get hlt
      have HX := Lib.hid (And.intro hx (drop_at hx))
      have b3 := BoxN.new wr #[.int .i64 s.1, .int .i64 s.2.1, .int .i64 s.2.2] 76
      have hb3 := HBel.out.alloc HBel.out.size (.cells #[.int .i64 s.1, .int .i64 s.2.1, .int .i64 s.2.2] 76)
      obtain ⟨y0, y1⟩ := box2 (HBx.out.below hb3 hWs)
      obtain ⟨z0, z1, z2⟩ := box3 b3
      have C := bsf_any A2 n2 c2 ts s (wr.alloc (.cells #[.int .i64 s.1, .int .i64 s.2.1, .int .i64 s.2.2] 76)) ((HT.out.below hb3).wide hb3.size) hn2 HP.out
      unfold triV at C
      have B3 := Lib.hid b3
      have HB3 := Lib.hid hb3
      clear hx hbel b3 hb3
      go_wp2_with fail
      refine C.mono ?_
      rintro e w4 ⟨⟨i, rfl⟩, hb⟩
      have B4 := Lib.hid (B3.out.on hb)
      have HB4 := Lib.hid (HB3.out.trans (hb.mono HB3.out.size))
      clear C hb y0 y1 z0 z1 z2 e0 e1 e2
      obtain ⟨z0, z1, z2⟩ := box3 B4.out
      cases hm1 : decide (s ∈ ts) with
      | false =>
        have HF : Hid (V = false) := Lib.hid (by rw [← HI.out, HX.out.2]; exact way_no1 (of_decide_eq_false hm1))
        clear hm1
        go_wp2_with fail
        go_ret
        exact ⟨by rw [HF.out]; rfl, HB0.out.trans (HB4.out.mono HB0.out.size)⟩
      | true =>
        have HM := Lib.hid (of_decide_eq_true hm1)
        clear hm1
        by_cases hz : s.1 = z'
        · subst hz
          have HY := Lib.hid ((way_yes HM.out rfl).symm.trans (HX.out.2 ▸ HI.out))
          go_wp2_with fail
          go_roundw
          case rel => exact ⟨k + 1, s.2.2, by omega, by go_num, rfl, Lib.hid HY.out, HB4.out⟩
          case measure => simp [intOf]; omega
        · have HF : Hid (V = false) := Lib.hid (by rw [← HI.out, HX.out.2]; exact way_no2 hz)
          have hne : (s.1 != z') = true := by simp [hz]
          go_wp2_with fail
          go_ret
          exact ⟨by rw [HF.out]; rfl, HB0.out.trans (HB4.out.mono HB0.out.size)⟩
    · obtain rfl : k = m := by omega
      have HY : Hid (V = true) := Lib.hid (by rw [← HI.out, List.drop_eq_nil_of_le (by have := HL.out; omega)]; rfl)
      go_wp2_with fail
      go_ret
      exact ⟨by rw [HY.out]; rfl, HB0.out.trans (HBel.out.mono HB0.out.size)⟩

def wyQ (n : Nat) (ts : List Tri) (z : Int) : Bool := goodB n ts && inb z 0 (n - 1)
def wyV (n : Nat) (ts : List Tri) (z : Int) (ws : List Tri) : Bool := wyQ n ts z && wayB ts z ws
theorem wy_no {n : Nat} {ts : List Tri} {z : Int} {ws : List Tri} (h : wyQ n ts z = false) : wyV n ts z ws = false := by unfold wyV; rw [h]; rfl
theorem wy_yes {n : Nat} {ts : List Tri} {z : Int} {ws : List Tri} (h : wyQ n ts z = true) : wyV n ts z ws = wayB ts z ws := by unfold wyV; rw [h]; rfl
set_option maxRecDepth 20000 in
set_option maxHeartbeats 3200000 in
theorem sWay_any (v : Value) (x : Sysm) (z : Int) (B : Option Addr) (m d : Nat) (ws : List Tri) (w : World) (hv : SysAt w w.heap.size v x) (hs : sysWt x ≤ 1048576) (hg : TriAt w w.heap.size B m ws) (hm : m ≤ 1048576) :
    Calls Try.prog 17 #[v, .int .i64 z, .slice B m d] w fun e w' => e = .returned (.tuple #[.bool (wyV x.states.length x.steps z ws), .bool (wyQ x.states.length x.steps z)]) ∧ Below w.heap.size w w' := by
  obtain ⟨A1, n1, c1, A2, n2, c2, rfl, h1, h2⟩ := hv
  have hl1 := h1.1
  have hl2 := h2.1
  have hn1 : n1 ≤ 1048576 := by unfold sysWt bgsWt at hs; omega
  have hn2 : n2 ≤ 1048576 := by unfold sysWt bgsWt at hs; omega
  have HB0 := Lib.hid ((Below.refl w.heap.size w).alloc (Nat.le_refl _) (.cells #[.slice A1 n1 c1, .slice A2 n2 c2] 32))
  have HBx := Lib.hid (BoxN.new w #[.slice A1 n1 c1, .slice A2 n2 c2] 32)
  obtain ⟨W, hW⟩ : ∃ W, w.alloc (.cells #[.slice A1 n1 c1, .slice A2 n2 c2] 32) = W := ⟨_, rfl⟩
  rw [hW] at HBx HB0
  have HWq := Lib.hid hW
  have hWs := HBx.out.lt
  have HX : Hid (SysAt W W.heap.size (.agg #[.slice A1 n1 c1, .slice A2 n2 c2]) x) := Lib.hid (((show SysAt w w.heap.size _ x from ⟨A1, n1, c1, A2, n2, c2, rfl, h1, h2⟩).below HB0.out).wide HB0.out.size)
  have HT := Lib.hid ((h2.below HB0.out).wide HB0.out.size)
  have HL2 := Lib.hid hl2
  have HS := Lib.hid hs
  obtain ⟨x0, x1⟩ := box2 HBx.out
  have HU := Lib.hid ((hg.below HB0.out).wide HB0.out.size)
  have CG := good_any _ x W HX.out hs
  have HC2 := Lib.hid (fun (Y : World) (hY : Below W.heap.size W Y) => l10State_any A1 A2 n1 c1 n2 c2 z Y hn1)
  rw [hl1] at CG
  rw [hl1]
  have HL1 := Lib.hid hl1
  obtain ⟨ts, hts⟩ : ∃ ts, x.steps = ts := ⟨_, rfl⟩
  rw [hts] at HT CG HL2 ⊢
  have HTs := Lib.hid hts
  obtain ⟨V, hV⟩ : ∃ V, wyV n1 ts z ws = V := ⟨_, rfl⟩
  obtain ⟨Q, hQ⟩ : ∃ Q, wyQ n1 ts z = Q := ⟨_, rfl⟩
  rw [hV, hQ]
  have HQd := Lib.hid hQ
  have HVd := Lib.hid hV
  clear hW h1 h2 hV hQ hl1 hl2 hts hs
  go_enter Try.func17, Try.ntmps17
  go_wp2_with fail
  rw [HWq.out]
  try go_wp2_with fail
  refine CG.mono ?_
  rintro e w1 ⟨rfl, hb1⟩
  clear CG x0 x1
  obtain ⟨x0, x1⟩ := box2 (HBx.out.below hb1 hWs)
  have HB1 := Lib.hid hb1
  clear hb1
  cases hq1 : goodB n1 ts with
  | false =>
    have hqf : wyQ n1 ts z = false := by
      unfold wyQ
      rw [hq1]
      simp
    have HF := Lib.hid (And.intro (HQd.out.symm.trans hqf) (HVd.out.symm.trans (wy_no hqf)))
    clear hq1 hqf
    go_wp2_with fail
    refine bodyPost_ret (results_tmp2 rfl _ _ _) rfl ?_
    exact ⟨by rw [HF.out.1, HF.out.2]; rfl, HB0.out.trans (HB1.out.mono HB0.out.size)⟩
  | true =>
    have HQ1 := Lib.hid hq1
    clear hq1
    go_wp2_with fail
    refine (HC2.out w1 HB1.out).mono ?_
    rintro e w2 ⟨rfl, hb⟩
    have HB2 := Lib.hid (HB1.out.trans (hb.mono HB1.out.size))
    clear x0 x1 hb
    obtain ⟨x0, x1⟩ := box2 (HBx.out.below HB2.out hWs)
    cases hq2 : inb z 0 ((n1 : Int) - 1) with
    | false =>
      have hqf : wyQ n1 ts z = false := by
        unfold wyQ
        rw [hq2]
        simp
      have HF := Lib.hid (And.intro (HQd.out.symm.trans hqf) (HVd.out.symm.trans (wy_no hqf)))
      clear hq2 hqf
      go_wp2_with fail
      refine bodyPost_ret (results_tmp2 rfl _ _ _) rfl ?_
      exact ⟨by rw [HF.out.1, HF.out.2]; rfl, HB0.out.trans (HB2.out.mono HB0.out.size)⟩
    | true =>
      have HQ2 := Lib.hid hq2
      clear hq2
      have hqt : wyQ n1 ts z = true := by
        unfold wyQ
        rw [HQ1.out, HQ2.out]
        rfl
      have HT1 := Lib.hid (And.intro (HQd.out.symm.trans hqt) (HVd.out.symm.trans (wy_yes hqt)))
      clear hqt
      have CW := lway_any A1 A2 n1 c1 n2 c2 ts z B m d ws w2 ((HT.out.below HB2.out).wide HB2.out.size) ((HU.out.below HB2.out).wide HB2.out.size) hn2 hm
      obtain ⟨R, hR⟩ : ∃ R, wayB ts z ws = R := ⟨_, rfl⟩
      have HR := Lib.hid hR
      rw [hR] at CW
      clear hR
      go_wp2_with fail
      refine CW.mono ?_
      rintro e w3 ⟨rfl, hb⟩
      have HB3 := Lib.hid (HB2.out.trans (hb.mono HB2.out.size))
      clear CW hb x0 x1
      go_wp2_with fail
      refine bodyPost_ret (results_tmp2 rfl _ _ _) rfl ?_
      exact ⟨by rw [HT1.out.1, HT1.out.2, HR.out]; rfl, HB0.out.trans (HB3.out.mono HB0.out.size)⟩

set_option maxRecDepth 20000 in
set_option maxHeartbeats 3200000 in
theorem iWay_any (v : Value) (x : Sysm) (z : Int) (B : Option Addr) (m d : Nat) (ws : List Tri) (w : World) (hv : SysAt w w.heap.size v x) (hs : sysWt x ≤ 1048576) (hg : TriAt w w.heap.size B m ws) (hm : m ≤ 1048576) :
    Calls Try.prog 20 #[v, .int .i64 z, .slice B m d] w fun e w' => e = .returned (.tuple #[.bool (wyV x.states.length x.steps z ws), .bool (wyQ x.states.length x.steps z)]) ∧ Below w.heap.size w w' := by
  obtain ⟨A1, n1, c1, A2, n2, c2, rfl, h1, h2⟩ := hv
  have hl1 := h1.1
  have hl2 := h2.1
  have hn1 : n1 ≤ 1048576 := by unfold sysWt bgsWt at hs; omega
  have hn2 : n2 ≤ 1048576 := by unfold sysWt bgsWt at hs; omega
  have HB0 := Lib.hid ((Below.refl w.heap.size w).alloc (Nat.le_refl _) (.cells #[.slice A1 n1 c1, .slice A2 n2 c2] 32))
  have HBx := Lib.hid (BoxN.new w #[.slice A1 n1 c1, .slice A2 n2 c2] 32)
  obtain ⟨W, hW⟩ : ∃ W, w.alloc (.cells #[.slice A1 n1 c1, .slice A2 n2 c2] 32) = W := ⟨_, rfl⟩
  rw [hW] at HBx HB0
  have HWq := Lib.hid hW
  have hWs := HBx.out.lt
  have HX : Hid (SysAt W W.heap.size (.agg #[.slice A1 n1 c1, .slice A2 n2 c2]) x) := Lib.hid (((show SysAt w w.heap.size _ x from ⟨A1, n1, c1, A2, n2, c2, rfl, h1, h2⟩).below HB0.out).wide HB0.out.size)
  have HT := Lib.hid ((h2.below HB0.out).wide HB0.out.size)
  have HL2 := Lib.hid hl2
  have HS := Lib.hid hs
  obtain ⟨x0, x1⟩ := box2 HBx.out
  have HU := Lib.hid ((hg.below HB0.out).wide HB0.out.size)
  have CG := isSys_any _ x W HX.out hs
  have HC2 := Lib.hid (fun (Y : World) (hY : Below W.heap.size W Y) => isState_any A1 A2 n1 c1 n2 c2 z Y hn1)
  rw [hl1] at CG
  rw [hl1]
  have HL1 := Lib.hid hl1
  obtain ⟨ts, hts⟩ : ∃ ts, x.steps = ts := ⟨_, rfl⟩
  rw [hts] at HT CG HL2 ⊢
  have HTs := Lib.hid hts
  obtain ⟨V, hV⟩ : ∃ V, wyV n1 ts z ws = V := ⟨_, rfl⟩
  obtain ⟨Q, hQ⟩ : ∃ Q, wyQ n1 ts z = Q := ⟨_, rfl⟩
  rw [hV, hQ]
  have HQd := Lib.hid hQ
  have HVd := Lib.hid hV
  clear hW h1 h2 hV hQ hl1 hl2 hts hs
  go_enter Try.func20, Try.ntmps20
  go_wp2_with fail
  rw [HWq.out]
  try go_wp2_with fail
  refine CG.mono ?_
  rintro e w1 ⟨rfl, hb1⟩
  clear CG x0 x1
  obtain ⟨x0, x1⟩ := box2 (HBx.out.below hb1 hWs)
  have HB1 := Lib.hid hb1
  clear hb1
  cases hq1 : goodB n1 ts with
  | false =>
    have hqf : wyQ n1 ts z = false := by
      unfold wyQ
      rw [hq1]
      simp
    have HF := Lib.hid (And.intro (HQd.out.symm.trans hqf) (HVd.out.symm.trans (wy_no hqf)))
    clear hq1 hqf
    go_wp2_with fail
    refine bodyPost_ret (results_tmp2 rfl _ _ _) rfl ?_
    exact ⟨by rw [HF.out.1, HF.out.2]; rfl, HB0.out.trans (HB1.out.mono HB0.out.size)⟩
  | true =>
    have HQ1 := Lib.hid hq1
    clear hq1
    go_wp2_with fail
    refine (HC2.out w1 HB1.out).mono ?_
    rintro e w2 ⟨rfl, hb⟩
    have HB2 := Lib.hid (HB1.out.trans (hb.mono HB1.out.size))
    clear x0 x1 hb
    obtain ⟨x0, x1⟩ := box2 (HBx.out.below HB2.out hWs)
    cases hq2 : inb z 0 ((n1 : Int) - 1) with
    | false =>
      have hqf : wyQ n1 ts z = false := by
        unfold wyQ
        rw [hq2]
        simp
      have HF := Lib.hid (And.intro (HQd.out.symm.trans hqf) (HVd.out.symm.trans (wy_no hqf)))
      clear hq2 hqf
      go_wp2_with fail
      refine bodyPost_ret (results_tmp2 rfl _ _ _) rfl ?_
      exact ⟨by rw [HF.out.1, HF.out.2]; rfl, HB0.out.trans (HB2.out.mono HB0.out.size)⟩
    | true =>
      have HQ2 := Lib.hid hq2
      clear hq2
      have hqt : wyQ n1 ts z = true := by
        unfold wyQ
        rw [HQ1.out, HQ2.out]
        rfl
      have HT1 := Lib.hid (And.intro (HQd.out.symm.trans hqt) (HVd.out.symm.trans (wy_yes hqt)))
      clear hqt
      have CW := iway_any A1 A2 n1 c1 n2 c2 ts z B m d ws w2 ((HT.out.below HB2.out).wide HB2.out.size) ((HU.out.below HB2.out).wide HB2.out.size) hn2 hm (goodB_pw HQ1.out)
      obtain ⟨R, hR⟩ : ∃ R, wayB ts z ws = R := ⟨_, rfl⟩
      have HR := Lib.hid hR
      rw [hR] at CW
      clear hR
      go_wp2_with fail
      refine CW.mono ?_
      rintro e w3 ⟨rfl, hb⟩
      have HB3 := Lib.hid (HB2.out.trans (hb.mono HB2.out.size))
      clear CW hb x0 x1
      go_wp2_with fail
      refine bodyPost_ret (results_tmp2 rfl _ _ _) rfl ?_
      exact ⟨by rw [HT1.out.1, HT1.out.2, HR.out]; rfl, HB0.out.trans (HB3.out.mono HB0.out.size)⟩

end Go.Proofs.Ytlpgldejmdiceaa.syw
